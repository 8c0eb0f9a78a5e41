/-
  NARROWER THAN 'FOR EVERY INPUT', by the rows' own cells (each row's printed sentence says how): MatrixBuilds: laid · MatrixWrong: laid · MatrixSums: laid · MatrixRings: laid · MatrixApplies: laid · MatrixTurns: laid · MatrixParts: laid · MatrixDets: laid · MatrixSmall: laid · MatrixInverse: laid · MatrixOwn: laid.
  DERIVED. THE GIVEN ROWS OF THIS SEAT. 11 by the template 'for every input the law returns true; each argument reads behind the call as it read before'; 0 by the template 'total and deterministic' (their statements: YtknaghdoffigjaaGreatDoorTotals.lean).
  GIVEN WITH THE SEED: the statements are not yours to turn. If you find one false, say at which input.
  Laid BY PROGRAM, IN A SANDBOX (cutbox-rows.mjs): the forced cells as the released guide's own fill.sh prints them over the translation 3eb086aab67d5039… (all of the seat's roots in one cut). By AI agents, Wed Nov 11 2026. No macro, syntax, notation, axiom, sorry.
-/
import Derived.Test.YtknaghdoffigjaaGreatDoorChecked
import GoSem.Claim
import GoSem.ClaimJoined
import GoSem.ClaimMapViews
import Derived.JoinedTies
import Derived.KernelRfl
namespace Go.Proofs.YtknaghdoffigjaaGreatDoor
/- THE CELL 'sum', in the pinned program and in every row, IS THE sha256 OF THE DUMP (.gsa) THAT YtknaghdoffigjaaGreatDoorProg.lean LOADS. Nothing in Lean hashes anything: it is a label: what it is worth is what the hold of that sum in a sandbox is worth. -/
noncomputable def Tryz.pinned : Pinned := { name := "ytknaghdoffigjaagreatdoor", sum := "3eb086aab67d5039f135ce6c7c2b1b674595c813f4c8cbebd7e7628ad28f0d3f", checked := Tryz.checked }
namespace Rows
def none {H : Type} : Left H := { results := [], args := [] }

/- WHAT THE LISTED PACKAGE-LEVEL VARIABLES READ AS WHEN THE CALL BEGINS. Each datum BY PROGRAM (the guide's laid-datum.mjs) off the statement by which the dump's own 'gosem.cut.vars' lays the variable. In a bare row this is a premise. The card (YtknaghdoffigjaaGreatDoorCards.lean) ties it to the program's text. -/
def laid_math_bits_deBruijn64tab {H : Type} : DataW H := .agg [.lit (.int .u8 0), .lit (.int .u8 1), .lit (.int .u8 56), .lit (.int .u8 2), .lit (.int .u8 57), .lit (.int .u8 49), .lit (.int .u8 28), .lit (.int .u8 3), .lit (.int .u8 61), .lit (.int .u8 58), .lit (.int .u8 42), .lit (.int .u8 50), .lit (.int .u8 38), .lit (.int .u8 29), .lit (.int .u8 17), .lit (.int .u8 4), .lit (.int .u8 62), .lit (.int .u8 47), .lit (.int .u8 59), .lit (.int .u8 36), .lit (.int .u8 45), .lit (.int .u8 43), .lit (.int .u8 51), .lit (.int .u8 22), .lit (.int .u8 53), .lit (.int .u8 39), .lit (.int .u8 33), .lit (.int .u8 30), .lit (.int .u8 24), .lit (.int .u8 18), .lit (.int .u8 12), .lit (.int .u8 5), .lit (.int .u8 63), .lit (.int .u8 55), .lit (.int .u8 48), .lit (.int .u8 27), .lit (.int .u8 60), .lit (.int .u8 41), .lit (.int .u8 37), .lit (.int .u8 16), .lit (.int .u8 46), .lit (.int .u8 35), .lit (.int .u8 44), .lit (.int .u8 21), .lit (.int .u8 52), .lit (.int .u8 32), .lit (.int .u8 23), .lit (.int .u8 11), .lit (.int .u8 54), .lit (.int .u8 26), .lit (.int .u8 40), .lit (.int .u8 15), .lit (.int .u8 34), .lit (.int .u8 20), .lit (.int .u8 31), .lit (.int .u8 10), .lit (.int .u8 25), .lit (.int .u8 14), .lit (.int .u8 19), .lit (.int .u8 9), .lit (.int .u8 13), .lit (.int .u8 8), .lit (.int .u8 7), .lit (.int .u8 6)]

/-- 'cocyclelaw02.MatrixBuilds': WHATEVER THE INPUT: true; the input reads as it did. -/
def matrixBuildsSpec : ChangeSpec := { name := "matrixBuilds", fn := fun _ => fun
  | [d1, d2, d3] => { results := [.lit (.bool true)], args := [d1, d2, d3] }
  | _ => none }
def matrixBuildsRow : OpenClaim := { program := "ytknaghdoffigjaagreatdoor", sum := "3eb086aab67d5039f135ce6c7c2b1b674595c813f4c8cbebd7e7628ad28f0d3f", func := "cocycle/cocyclelaw02.MatrixBuilds", spec := "matrixBuilds", inPlace := ["math/bits.Add64", "internal/bytealg.abigen_runtime_cmpstring", "math/bits.Sub64"], unfollowed := true, recurses := true, named := ["math/bits.deBruijn64tab", "math/bits.divideError", "math/bits.overflowError"], apart := false, laid := [("math/bits.deBruijn64tab", laid_math_bits_deBruijn64tab)] }
def MatrixBuildsSaid : Prop := matrixBuildsRow.holds Tryz.pinned (OpenSpec.ofChange matrixBuildsSpec)

/-- ITS FALSE NEIGHBOUR: 'it returns false'. Refute it at one input. -/
def matrixBuildsWrong : ChangeSpec := { name := "matrixBuilds", fn := fun _ => fun
  | [d1, d2, d3] => { results := [.lit (.bool false)], args := [d1, d2, d3] }
  | _ => none }
def MatrixBuildsWrongFalsely : Prop := matrixBuildsRow.holds Tryz.pinned (OpenSpec.ofChange matrixBuildsWrong)

/-- 'cocyclelaw02.MatrixWrong': WHATEVER THE INPUT: true; the input reads as it did. -/
def matrixWrongSpec : ChangeSpec := { name := "matrixWrong", fn := fun _ => fun
  | [d1, d2, d3] => { results := [.lit (.bool true)], args := [d1, d2, d3] }
  | _ => none }
def matrixWrongRow : OpenClaim := { program := "ytknaghdoffigjaagreatdoor", sum := "3eb086aab67d5039f135ce6c7c2b1b674595c813f4c8cbebd7e7628ad28f0d3f", func := "cocycle/cocyclelaw02.MatrixWrong", spec := "matrixWrong", inPlace := ["math/bits.Add64", "internal/bytealg.abigen_runtime_cmpstring", "math/bits.Sub64"], unfollowed := true, recurses := true, named := ["math/bits.deBruijn64tab", "math/bits.divideError", "math/bits.overflowError"], apart := false, laid := [("math/bits.deBruijn64tab", laid_math_bits_deBruijn64tab)] }
def MatrixWrongSaid : Prop := matrixWrongRow.holds Tryz.pinned (OpenSpec.ofChange matrixWrongSpec)

/-- ITS FALSE NEIGHBOUR: 'it returns false'. Refute it at one input. -/
def matrixWrongWrong : ChangeSpec := { name := "matrixWrong", fn := fun _ => fun
  | [d1, d2, d3] => { results := [.lit (.bool false)], args := [d1, d2, d3] }
  | _ => none }
def MatrixWrongWrongFalsely : Prop := matrixWrongRow.holds Tryz.pinned (OpenSpec.ofChange matrixWrongWrong)

/-- 'cocyclelaw02.MatrixSums': WHATEVER THE INPUT: true; the input reads as it did. -/
def matrixSumsSpec : ChangeSpec := { name := "matrixSums", fn := fun _ => fun
  | [d1, d2] => { results := [.lit (.bool true)], args := [d1, d2] }
  | _ => none }
def matrixSumsRow : OpenClaim := { program := "ytknaghdoffigjaagreatdoor", sum := "3eb086aab67d5039f135ce6c7c2b1b674595c813f4c8cbebd7e7628ad28f0d3f", func := "cocycle/cocyclelaw02.MatrixSums", spec := "matrixSums", inPlace := ["math/bits.Add64", "internal/bytealg.abigen_runtime_cmpstring", "math/bits.Sub64"], unfollowed := true, recurses := true, named := ["math/bits.deBruijn64tab", "math/bits.divideError", "math/bits.overflowError"], apart := false, laid := [("math/bits.deBruijn64tab", laid_math_bits_deBruijn64tab)] }
def MatrixSumsSaid : Prop := matrixSumsRow.holds Tryz.pinned (OpenSpec.ofChange matrixSumsSpec)

/-- ITS FALSE NEIGHBOUR: 'it returns false'. Refute it at one input. -/
def matrixSumsWrong : ChangeSpec := { name := "matrixSums", fn := fun _ => fun
  | [d1, d2] => { results := [.lit (.bool false)], args := [d1, d2] }
  | _ => none }
def MatrixSumsWrongFalsely : Prop := matrixSumsRow.holds Tryz.pinned (OpenSpec.ofChange matrixSumsWrong)

/-- 'cocyclelaw02.MatrixRings': WHATEVER THE INPUT: true; the input reads as it did. -/
def matrixRingsSpec : ChangeSpec := { name := "matrixRings", fn := fun _ => fun
  | [d1, d2, d3] => { results := [.lit (.bool true)], args := [d1, d2, d3] }
  | _ => none }
def matrixRingsRow : OpenClaim := { program := "ytknaghdoffigjaagreatdoor", sum := "3eb086aab67d5039f135ce6c7c2b1b674595c813f4c8cbebd7e7628ad28f0d3f", func := "cocycle/cocyclelaw02.MatrixRings", spec := "matrixRings", inPlace := ["math/bits.Add64", "internal/bytealg.abigen_runtime_cmpstring", "math/bits.Sub64"], unfollowed := true, recurses := true, named := ["math/bits.deBruijn64tab", "math/bits.divideError", "math/bits.overflowError"], apart := false, laid := [("math/bits.deBruijn64tab", laid_math_bits_deBruijn64tab)] }
def MatrixRingsSaid : Prop := matrixRingsRow.holds Tryz.pinned (OpenSpec.ofChange matrixRingsSpec)

/-- ITS FALSE NEIGHBOUR: 'it returns false'. Refute it at one input. -/
def matrixRingsWrong : ChangeSpec := { name := "matrixRings", fn := fun _ => fun
  | [d1, d2, d3] => { results := [.lit (.bool false)], args := [d1, d2, d3] }
  | _ => none }
def MatrixRingsWrongFalsely : Prop := matrixRingsRow.holds Tryz.pinned (OpenSpec.ofChange matrixRingsWrong)

/-- 'cocyclelaw02.MatrixApplies': WHATEVER THE INPUT: true; the input reads as it did. -/
def matrixAppliesSpec : ChangeSpec := { name := "matrixApplies", fn := fun _ => fun
  | [d1, d2] => { results := [.lit (.bool true)], args := [d1, d2] }
  | _ => none }
def matrixAppliesRow : OpenClaim := { program := "ytknaghdoffigjaagreatdoor", sum := "3eb086aab67d5039f135ce6c7c2b1b674595c813f4c8cbebd7e7628ad28f0d3f", func := "cocycle/cocyclelaw02.MatrixApplies", spec := "matrixApplies", inPlace := ["math/bits.Add64", "internal/bytealg.abigen_runtime_cmpstring", "math/bits.Sub64"], unfollowed := true, recurses := true, named := ["math/bits.deBruijn64tab", "math/bits.divideError", "math/bits.overflowError"], apart := false, laid := [("math/bits.deBruijn64tab", laid_math_bits_deBruijn64tab)] }
def MatrixAppliesSaid : Prop := matrixAppliesRow.holds Tryz.pinned (OpenSpec.ofChange matrixAppliesSpec)

/-- ITS FALSE NEIGHBOUR: 'it returns false'. Refute it at one input. -/
def matrixAppliesWrong : ChangeSpec := { name := "matrixApplies", fn := fun _ => fun
  | [d1, d2] => { results := [.lit (.bool false)], args := [d1, d2] }
  | _ => none }
def MatrixAppliesWrongFalsely : Prop := matrixAppliesRow.holds Tryz.pinned (OpenSpec.ofChange matrixAppliesWrong)

/-- 'cocyclelaw02.MatrixTurns': WHATEVER THE INPUT: true; the input reads as it did. -/
def matrixTurnsSpec : ChangeSpec := { name := "matrixTurns", fn := fun _ => fun
  | [d1, d2] => { results := [.lit (.bool true)], args := [d1, d2] }
  | _ => none }
def matrixTurnsRow : OpenClaim := { program := "ytknaghdoffigjaagreatdoor", sum := "3eb086aab67d5039f135ce6c7c2b1b674595c813f4c8cbebd7e7628ad28f0d3f", func := "cocycle/cocyclelaw02.MatrixTurns", spec := "matrixTurns", inPlace := ["math/bits.Add64", "internal/bytealg.abigen_runtime_cmpstring", "math/bits.Sub64"], unfollowed := true, recurses := true, named := ["math/bits.deBruijn64tab", "math/bits.divideError", "math/bits.overflowError"], apart := false, laid := [("math/bits.deBruijn64tab", laid_math_bits_deBruijn64tab)] }
def MatrixTurnsSaid : Prop := matrixTurnsRow.holds Tryz.pinned (OpenSpec.ofChange matrixTurnsSpec)

/-- ITS FALSE NEIGHBOUR: 'it returns false'. Refute it at one input. -/
def matrixTurnsWrong : ChangeSpec := { name := "matrixTurns", fn := fun _ => fun
  | [d1, d2] => { results := [.lit (.bool false)], args := [d1, d2] }
  | _ => none }
def MatrixTurnsWrongFalsely : Prop := matrixTurnsRow.holds Tryz.pinned (OpenSpec.ofChange matrixTurnsWrong)

/-- 'cocyclelaw02.MatrixParts': WHATEVER THE INPUT: true; the input reads as it did. -/
def matrixPartsSpec : ChangeSpec := { name := "matrixParts", fn := fun _ => fun
  | [d1, d2, d3] => { results := [.lit (.bool true)], args := [d1, d2, d3] }
  | _ => none }
def matrixPartsRow : OpenClaim := { program := "ytknaghdoffigjaagreatdoor", sum := "3eb086aab67d5039f135ce6c7c2b1b674595c813f4c8cbebd7e7628ad28f0d3f", func := "cocycle/cocyclelaw02.MatrixParts", spec := "matrixParts", inPlace := ["math/bits.Add64", "internal/bytealg.abigen_runtime_cmpstring", "math/bits.Sub64"], unfollowed := true, recurses := true, named := ["math/bits.deBruijn64tab", "math/bits.divideError", "math/bits.overflowError"], apart := false, laid := [("math/bits.deBruijn64tab", laid_math_bits_deBruijn64tab)] }
def MatrixPartsSaid : Prop := matrixPartsRow.holds Tryz.pinned (OpenSpec.ofChange matrixPartsSpec)

/-- ITS FALSE NEIGHBOUR: 'it returns false'. Refute it at one input. -/
def matrixPartsWrong : ChangeSpec := { name := "matrixParts", fn := fun _ => fun
  | [d1, d2, d3] => { results := [.lit (.bool false)], args := [d1, d2, d3] }
  | _ => none }
def MatrixPartsWrongFalsely : Prop := matrixPartsRow.holds Tryz.pinned (OpenSpec.ofChange matrixPartsWrong)

/-- 'cocyclelaw02.MatrixDets': WHATEVER THE INPUT: true; the input reads as it did. -/
def matrixDetsSpec : ChangeSpec := { name := "matrixDets", fn := fun _ => fun
  | [d1, d2] => { results := [.lit (.bool true)], args := [d1, d2] }
  | _ => none }
def matrixDetsRow : OpenClaim := { program := "ytknaghdoffigjaagreatdoor", sum := "3eb086aab67d5039f135ce6c7c2b1b674595c813f4c8cbebd7e7628ad28f0d3f", func := "cocycle/cocyclelaw02.MatrixDets", spec := "matrixDets", inPlace := ["math/bits.Add64", "internal/bytealg.abigen_runtime_cmpstring", "math/bits.Sub64"], unfollowed := true, recurses := true, named := ["math/bits.deBruijn64tab", "math/bits.divideError", "math/bits.overflowError"], apart := false, laid := [("math/bits.deBruijn64tab", laid_math_bits_deBruijn64tab)] }
def MatrixDetsSaid : Prop := matrixDetsRow.holds Tryz.pinned (OpenSpec.ofChange matrixDetsSpec)

/-- ITS FALSE NEIGHBOUR: 'it returns false'. Refute it at one input. -/
def matrixDetsWrong : ChangeSpec := { name := "matrixDets", fn := fun _ => fun
  | [d1, d2] => { results := [.lit (.bool false)], args := [d1, d2] }
  | _ => none }
def MatrixDetsWrongFalsely : Prop := matrixDetsRow.holds Tryz.pinned (OpenSpec.ofChange matrixDetsWrong)

/-- 'cocyclelaw02.MatrixSmall': WHATEVER THE INPUT: true; the input reads as it did. -/
def matrixSmallSpec : ChangeSpec := { name := "matrixSmall", fn := fun _ => fun
  | [d] => { results := [.lit (.bool true)], args := [d] }
  | _ => none }
def matrixSmallRow : OpenClaim := { program := "ytknaghdoffigjaagreatdoor", sum := "3eb086aab67d5039f135ce6c7c2b1b674595c813f4c8cbebd7e7628ad28f0d3f", func := "cocycle/cocyclelaw02.MatrixSmall", spec := "matrixSmall", inPlace := ["math/bits.Add64", "internal/bytealg.abigen_runtime_cmpstring", "math/bits.Sub64"], unfollowed := true, recurses := true, named := ["math/bits.deBruijn64tab", "math/bits.divideError", "math/bits.overflowError"], apart := false, laid := [("math/bits.deBruijn64tab", laid_math_bits_deBruijn64tab)] }
def MatrixSmallSaid : Prop := matrixSmallRow.holds Tryz.pinned (OpenSpec.ofChange matrixSmallSpec)

/-- ITS FALSE NEIGHBOUR: 'it returns false'. Refute it at one input. -/
def matrixSmallWrong : ChangeSpec := { name := "matrixSmall", fn := fun _ => fun
  | [d] => { results := [.lit (.bool false)], args := [d] }
  | _ => none }
def MatrixSmallWrongFalsely : Prop := matrixSmallRow.holds Tryz.pinned (OpenSpec.ofChange matrixSmallWrong)

/-- 'cocyclelaw02.MatrixInverse': WHATEVER THE INPUT: true; the input reads as it did. -/
def matrixInverseSpec : ChangeSpec := { name := "matrixInverse", fn := fun _ => fun
  | [d1, d2, d3] => { results := [.lit (.bool true)], args := [d1, d2, d3] }
  | _ => none }
def matrixInverseRow : OpenClaim := { program := "ytknaghdoffigjaagreatdoor", sum := "3eb086aab67d5039f135ce6c7c2b1b674595c813f4c8cbebd7e7628ad28f0d3f", func := "cocycle/cocyclelaw02.MatrixInverse", spec := "matrixInverse", inPlace := ["math/bits.Add64", "internal/bytealg.abigen_runtime_cmpstring", "math/bits.Sub64"], unfollowed := true, recurses := true, named := ["math/bits.deBruijn64tab", "math/bits.divideError", "math/bits.overflowError"], apart := false, laid := [("math/bits.deBruijn64tab", laid_math_bits_deBruijn64tab)] }
def MatrixInverseSaid : Prop := matrixInverseRow.holds Tryz.pinned (OpenSpec.ofChange matrixInverseSpec)

/-- ITS FALSE NEIGHBOUR: 'it returns false'. Refute it at one input. -/
def matrixInverseWrong : ChangeSpec := { name := "matrixInverse", fn := fun _ => fun
  | [d1, d2, d3] => { results := [.lit (.bool false)], args := [d1, d2, d3] }
  | _ => none }
def MatrixInverseWrongFalsely : Prop := matrixInverseRow.holds Tryz.pinned (OpenSpec.ofChange matrixInverseWrong)

/-- 'cocyclelaw02.MatrixOwn': WHATEVER THE INPUT: true; the input reads as it did. -/
def matrixOwnSpec : ChangeSpec := { name := "matrixOwn", fn := fun _ => fun
  | [d1, d2] => { results := [.lit (.bool true)], args := [d1, d2] }
  | _ => none }
def matrixOwnRow : OpenClaim := { program := "ytknaghdoffigjaagreatdoor", sum := "3eb086aab67d5039f135ce6c7c2b1b674595c813f4c8cbebd7e7628ad28f0d3f", func := "cocycle/cocyclelaw02.MatrixOwn", spec := "matrixOwn", inPlace := ["math/bits.Add64", "internal/bytealg.abigen_runtime_cmpstring", "math/bits.Sub64"], unfollowed := true, recurses := true, named := ["math/bits.deBruijn64tab", "math/bits.divideError", "math/bits.overflowError"], apart := false, laid := [("math/bits.deBruijn64tab", laid_math_bits_deBruijn64tab)] }
def MatrixOwnSaid : Prop := matrixOwnRow.holds Tryz.pinned (OpenSpec.ofChange matrixOwnSpec)

/-- ITS FALSE NEIGHBOUR: 'it returns false'. Refute it at one input. -/
def matrixOwnWrong : ChangeSpec := { name := "matrixOwn", fn := fun _ => fun
  | [d1, d2] => { results := [.lit (.bool false)], args := [d1, d2] }
  | _ => none }
def MatrixOwnWrongFalsely : Prop := matrixOwnRow.holds Tryz.pinned (OpenSpec.ofChange matrixOwnWrong)

/- THE SECOND FORM. 'bulk': how many values and letters a reading holds, each counted each time it is reached (what is shared counts as often as it is met; a slice's spare places count too). A statement '..UptoSaid' is the law's where the arguments, and the package variables that the reading takes, are together of bulk at most 1048576: NARROWER than '..Said'. Prove '..Said' where nothing that the law and all that it calls make is longer than what came in: it says more and counts as full. Else prove '..UptoSaid'. A law counts once. -/
mutual
def uptoBulk {H : Type} : DataW H → Nat
  | .lit (.string bytes) => bytes.length + 1
  | .lit _ => 1
  | .nil => 1
  | .ptr d => uptoBulk d + 1
  | .slice elems spare => uptoBulkAll elems + uptoBulkAll spare + 1
  | .agg parts => uptoBulkAll parts + 1
  | .iface _ d => uptoBulk d + 1
  | .map entries => uptoBulkEntries entries + 1
  | .held _ => 1
def uptoBulkAll {H : Type} : List (DataW H) → Nat
  | [] => 0
  | d :: r => uptoBulk d + uptoBulkAll r
def uptoBulkEntries {H : Type} : List (Lit × DataW H) → Nat
  | [] => 0
  | x :: r => uptoBulkEntry x + uptoBulkEntries r
def uptoBulkEntry {H : Type} : Lit × DataW H → Nat
  | (.string bytes, d) => bytes.length + uptoBulk d + 1
  | (_, d) => uptoBulk d + 1
 end
def uptoSmall : (H : Type) → List (DataW H) → Bool := fun _ ds => decide (uptoBulkAll ds ≤ 1048576)
def OpenSpec.upto (s : _root_.Go.ChangeSpec) : _root_.Go.OpenSpec := { _root_.Go.OpenSpec.ofChange s with cond := some uptoSmall }

/-- 'cocyclelaw02.MatrixBuilds', WHERE WHAT IT READS IS OF BULK AT MOST 1048576: true; the input reads as it did. -/
def matrixBuildsUptoRow : OpenClaim := { program := "ytknaghdoffigjaagreatdoor", sum := "3eb086aab67d5039f135ce6c7c2b1b674595c813f4c8cbebd7e7628ad28f0d3f", func := "cocycle/cocyclelaw02.MatrixBuilds", spec := "matrixBuilds", inPlace := ["math/bits.Add64", "internal/bytealg.abigen_runtime_cmpstring", "math/bits.Sub64"], unfollowed := true, recurses := true, named := ["math/bits.deBruijn64tab", "math/bits.divideError", "math/bits.overflowError"], apart := false, laid := [("math/bits.deBruijn64tab", laid_math_bits_deBruijn64tab)], narrowed := true }
def MatrixBuildsUptoSaid : Prop := matrixBuildsUptoRow.holds Tryz.pinned (OpenSpec.upto matrixBuildsSpec)

/-- 'cocyclelaw02.MatrixWrong', WHERE WHAT IT READS IS OF BULK AT MOST 1048576: true; the input reads as it did. -/
def matrixWrongUptoRow : OpenClaim := { program := "ytknaghdoffigjaagreatdoor", sum := "3eb086aab67d5039f135ce6c7c2b1b674595c813f4c8cbebd7e7628ad28f0d3f", func := "cocycle/cocyclelaw02.MatrixWrong", spec := "matrixWrong", inPlace := ["math/bits.Add64", "internal/bytealg.abigen_runtime_cmpstring", "math/bits.Sub64"], unfollowed := true, recurses := true, named := ["math/bits.deBruijn64tab", "math/bits.divideError", "math/bits.overflowError"], apart := false, laid := [("math/bits.deBruijn64tab", laid_math_bits_deBruijn64tab)], narrowed := true }
def MatrixWrongUptoSaid : Prop := matrixWrongUptoRow.holds Tryz.pinned (OpenSpec.upto matrixWrongSpec)

/-- 'cocyclelaw02.MatrixSums', WHERE WHAT IT READS IS OF BULK AT MOST 1048576: true; the input reads as it did. -/
def matrixSumsUptoRow : OpenClaim := { program := "ytknaghdoffigjaagreatdoor", sum := "3eb086aab67d5039f135ce6c7c2b1b674595c813f4c8cbebd7e7628ad28f0d3f", func := "cocycle/cocyclelaw02.MatrixSums", spec := "matrixSums", inPlace := ["math/bits.Add64", "internal/bytealg.abigen_runtime_cmpstring", "math/bits.Sub64"], unfollowed := true, recurses := true, named := ["math/bits.deBruijn64tab", "math/bits.divideError", "math/bits.overflowError"], apart := false, laid := [("math/bits.deBruijn64tab", laid_math_bits_deBruijn64tab)], narrowed := true }
def MatrixSumsUptoSaid : Prop := matrixSumsUptoRow.holds Tryz.pinned (OpenSpec.upto matrixSumsSpec)

/-- 'cocyclelaw02.MatrixRings', WHERE WHAT IT READS IS OF BULK AT MOST 1048576: true; the input reads as it did. -/
def matrixRingsUptoRow : OpenClaim := { program := "ytknaghdoffigjaagreatdoor", sum := "3eb086aab67d5039f135ce6c7c2b1b674595c813f4c8cbebd7e7628ad28f0d3f", func := "cocycle/cocyclelaw02.MatrixRings", spec := "matrixRings", inPlace := ["math/bits.Add64", "internal/bytealg.abigen_runtime_cmpstring", "math/bits.Sub64"], unfollowed := true, recurses := true, named := ["math/bits.deBruijn64tab", "math/bits.divideError", "math/bits.overflowError"], apart := false, laid := [("math/bits.deBruijn64tab", laid_math_bits_deBruijn64tab)], narrowed := true }
def MatrixRingsUptoSaid : Prop := matrixRingsUptoRow.holds Tryz.pinned (OpenSpec.upto matrixRingsSpec)

/-- 'cocyclelaw02.MatrixApplies', WHERE WHAT IT READS IS OF BULK AT MOST 1048576: true; the input reads as it did. -/
def matrixAppliesUptoRow : OpenClaim := { program := "ytknaghdoffigjaagreatdoor", sum := "3eb086aab67d5039f135ce6c7c2b1b674595c813f4c8cbebd7e7628ad28f0d3f", func := "cocycle/cocyclelaw02.MatrixApplies", spec := "matrixApplies", inPlace := ["math/bits.Add64", "internal/bytealg.abigen_runtime_cmpstring", "math/bits.Sub64"], unfollowed := true, recurses := true, named := ["math/bits.deBruijn64tab", "math/bits.divideError", "math/bits.overflowError"], apart := false, laid := [("math/bits.deBruijn64tab", laid_math_bits_deBruijn64tab)], narrowed := true }
def MatrixAppliesUptoSaid : Prop := matrixAppliesUptoRow.holds Tryz.pinned (OpenSpec.upto matrixAppliesSpec)

/-- 'cocyclelaw02.MatrixTurns', WHERE WHAT IT READS IS OF BULK AT MOST 1048576: true; the input reads as it did. -/
def matrixTurnsUptoRow : OpenClaim := { program := "ytknaghdoffigjaagreatdoor", sum := "3eb086aab67d5039f135ce6c7c2b1b674595c813f4c8cbebd7e7628ad28f0d3f", func := "cocycle/cocyclelaw02.MatrixTurns", spec := "matrixTurns", inPlace := ["math/bits.Add64", "internal/bytealg.abigen_runtime_cmpstring", "math/bits.Sub64"], unfollowed := true, recurses := true, named := ["math/bits.deBruijn64tab", "math/bits.divideError", "math/bits.overflowError"], apart := false, laid := [("math/bits.deBruijn64tab", laid_math_bits_deBruijn64tab)], narrowed := true }
def MatrixTurnsUptoSaid : Prop := matrixTurnsUptoRow.holds Tryz.pinned (OpenSpec.upto matrixTurnsSpec)

/-- 'cocyclelaw02.MatrixParts', WHERE WHAT IT READS IS OF BULK AT MOST 1048576: true; the input reads as it did. -/
def matrixPartsUptoRow : OpenClaim := { program := "ytknaghdoffigjaagreatdoor", sum := "3eb086aab67d5039f135ce6c7c2b1b674595c813f4c8cbebd7e7628ad28f0d3f", func := "cocycle/cocyclelaw02.MatrixParts", spec := "matrixParts", inPlace := ["math/bits.Add64", "internal/bytealg.abigen_runtime_cmpstring", "math/bits.Sub64"], unfollowed := true, recurses := true, named := ["math/bits.deBruijn64tab", "math/bits.divideError", "math/bits.overflowError"], apart := false, laid := [("math/bits.deBruijn64tab", laid_math_bits_deBruijn64tab)], narrowed := true }
def MatrixPartsUptoSaid : Prop := matrixPartsUptoRow.holds Tryz.pinned (OpenSpec.upto matrixPartsSpec)

/-- 'cocyclelaw02.MatrixDets', WHERE WHAT IT READS IS OF BULK AT MOST 1048576: true; the input reads as it did. -/
def matrixDetsUptoRow : OpenClaim := { program := "ytknaghdoffigjaagreatdoor", sum := "3eb086aab67d5039f135ce6c7c2b1b674595c813f4c8cbebd7e7628ad28f0d3f", func := "cocycle/cocyclelaw02.MatrixDets", spec := "matrixDets", inPlace := ["math/bits.Add64", "internal/bytealg.abigen_runtime_cmpstring", "math/bits.Sub64"], unfollowed := true, recurses := true, named := ["math/bits.deBruijn64tab", "math/bits.divideError", "math/bits.overflowError"], apart := false, laid := [("math/bits.deBruijn64tab", laid_math_bits_deBruijn64tab)], narrowed := true }
def MatrixDetsUptoSaid : Prop := matrixDetsUptoRow.holds Tryz.pinned (OpenSpec.upto matrixDetsSpec)

/-- 'cocyclelaw02.MatrixSmall', WHERE WHAT IT READS IS OF BULK AT MOST 1048576: true; the input reads as it did. -/
def matrixSmallUptoRow : OpenClaim := { program := "ytknaghdoffigjaagreatdoor", sum := "3eb086aab67d5039f135ce6c7c2b1b674595c813f4c8cbebd7e7628ad28f0d3f", func := "cocycle/cocyclelaw02.MatrixSmall", spec := "matrixSmall", inPlace := ["math/bits.Add64", "internal/bytealg.abigen_runtime_cmpstring", "math/bits.Sub64"], unfollowed := true, recurses := true, named := ["math/bits.deBruijn64tab", "math/bits.divideError", "math/bits.overflowError"], apart := false, laid := [("math/bits.deBruijn64tab", laid_math_bits_deBruijn64tab)], narrowed := true }
def MatrixSmallUptoSaid : Prop := matrixSmallUptoRow.holds Tryz.pinned (OpenSpec.upto matrixSmallSpec)

/-- 'cocyclelaw02.MatrixInverse', WHERE WHAT IT READS IS OF BULK AT MOST 1048576: true; the input reads as it did. -/
def matrixInverseUptoRow : OpenClaim := { program := "ytknaghdoffigjaagreatdoor", sum := "3eb086aab67d5039f135ce6c7c2b1b674595c813f4c8cbebd7e7628ad28f0d3f", func := "cocycle/cocyclelaw02.MatrixInverse", spec := "matrixInverse", inPlace := ["math/bits.Add64", "internal/bytealg.abigen_runtime_cmpstring", "math/bits.Sub64"], unfollowed := true, recurses := true, named := ["math/bits.deBruijn64tab", "math/bits.divideError", "math/bits.overflowError"], apart := false, laid := [("math/bits.deBruijn64tab", laid_math_bits_deBruijn64tab)], narrowed := true }
def MatrixInverseUptoSaid : Prop := matrixInverseUptoRow.holds Tryz.pinned (OpenSpec.upto matrixInverseSpec)

/-- 'cocyclelaw02.MatrixOwn', WHERE WHAT IT READS IS OF BULK AT MOST 1048576: true; the input reads as it did. -/
def matrixOwnUptoRow : OpenClaim := { program := "ytknaghdoffigjaagreatdoor", sum := "3eb086aab67d5039f135ce6c7c2b1b674595c813f4c8cbebd7e7628ad28f0d3f", func := "cocycle/cocyclelaw02.MatrixOwn", spec := "matrixOwn", inPlace := ["math/bits.Add64", "internal/bytealg.abigen_runtime_cmpstring", "math/bits.Sub64"], unfollowed := true, recurses := true, named := ["math/bits.deBruijn64tab", "math/bits.divideError", "math/bits.overflowError"], apart := false, laid := [("math/bits.deBruijn64tab", laid_math_bits_deBruijn64tab)], narrowed := true }
def MatrixOwnUptoSaid : Prop := matrixOwnUptoRow.holds Tryz.pinned (OpenSpec.upto matrixOwnSpec)

end Rows
end Go.Proofs.YtknaghdoffigjaaGreatDoor
