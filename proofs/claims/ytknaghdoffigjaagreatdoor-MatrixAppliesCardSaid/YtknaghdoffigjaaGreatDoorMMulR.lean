import Derived.Test.YtknaghdoffigjaaGreatDoorMSumR
set_option linter.unusedSimpArgs false
set_option linter.unusedVariables false
set_option linter.unnecessarySimpa false
namespace Go.Proofs.YtknaghdoffigjaaGreatDoor
open Go.RowKit Go
attribute [local go_sem] Oper.semAt_some
theorem mag_ne (z : Int) (h : z ≠ 0) : (wmag z).toList.isEmpty = false := by
 rw [Bool.eq_false_iff]
 intro e
 rw [List.isEmpty_iff] at e
 exact wmag_ne z h (by rw [e, Lib.toList_data])
end Go.Proofs.YtknaghdoffigjaaGreatDoor
