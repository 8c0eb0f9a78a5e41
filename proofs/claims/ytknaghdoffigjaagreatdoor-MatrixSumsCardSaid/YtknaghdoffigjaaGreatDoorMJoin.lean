import Derived.Test.YtknaghdoffigjaaGreatDoorZMCopy
set_option linter.unusedSimpArgs false
set_option linter.unusedVariables false
set_option linter.unnecessarySimpa false
namespace Go.Proofs.YtknaghdoffigjaaGreatDoor
open Go.RowKit Go
attribute [local go_sem] Oper.semAt_some
theorem enc_range (f : Nat → Int) (n : Nat) : ((List.range n).map fun j => (wneg (f j), wmag (f j))) = enc ((List.range n).map f) := by
 unfold enc
 rw [List.map_map]
 rfl
theorem row_of0 (g i c : Nat) : (if c = 0 then some (⟨g, 0, none⟩ : Addr) else (some (⟨g, 0, none⟩ : Addr)).map (·.add (i * c * 2))) = some ⟨g, i * c * 2, none⟩ := by
 simp only [Option.map_some, add_from0]
 by_cases h : c = 0
 ·rw [if_pos h, h]; simp
 ·rw [if_neg h]
end Go.Proofs.YtknaghdoffigjaaGreatDoor
