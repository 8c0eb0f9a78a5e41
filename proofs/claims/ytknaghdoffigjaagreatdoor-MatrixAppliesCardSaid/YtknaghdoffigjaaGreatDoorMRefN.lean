import Derived.Test.YtknaghdoffigjaaGreatDoorMRefJ
import Derived.Test.YtknaghdoffigjaaGreatDoorZMInvV
set_option linter.unusedSimpArgs false
set_option linter.unusedVariables false
set_option linter.unnecessarySimpa false
namespace Go.Proofs.YtknaghdoffigjaaGreatDoor
open Go.RowKit Go
attribute [local go_sem] Oper.semAt_some
def RetP (P : Program) (f : Nat) (args : Array Value) (ok : Bool) (r c : Int) (N : Nat) (zs : List (Bool × ByteArray)) (W : World) : Prop :=
 Calls P f args W fun e w' => ∃ A cap, e = .returned (.tuple #[.agg #[.int .i64 r, .int .i64 c, .slice A N cap], .bool ok]) ∧ RdW w' A zs ∧ Below W.heap.size W w'
end Go.Proofs.YtknaghdoffigjaaGreatDoor
