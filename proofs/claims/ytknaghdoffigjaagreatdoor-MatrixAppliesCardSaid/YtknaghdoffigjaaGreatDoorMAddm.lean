import Derived.Test.YtknaghdoffigjaaGreatDoorZMBoth
import Derived.Test.YtknaghdoffigjaaGreatDoorZRDig
set_option linter.unusedSimpArgs false
set_option linter.unusedVariables false
set_option linter.unnecessarySimpa false
namespace Go.Proofs.YtknaghdoffigjaaGreatDoor
open Go.RowKit Go
attribute [local go_sem] Oper.semAt_some
theorem cell_pair {w : World} {B : Option Addr} {zs : List Int} (h : RdW w B (enc zs)) (k : Nat) (hk : k < zs.length) :
  ∃ b, B = some b ∧ b.block < w.heap.size ∧ w.cell? (b.add (k * 2)) = some (.bool (wneg (zs.getD k 0))) ∧ w.cell? ⟨(b.add (k * 2)).block, (b.add (k * 2)).off + 1, none⟩ = some (.string (wmag (zs.getD k 0))) := by
 have hk2 : k < (enc zs).length := by rw [enc_length]; exact hk
 obtain ⟨b, e, hb, h1, h2⟩ := h k hk2
 rw [enc_get] at h1 h2
 exact ⟨b, e, hb, h1, h2⟩
end Go.Proofs.YtknaghdoffigjaaGreatDoor
