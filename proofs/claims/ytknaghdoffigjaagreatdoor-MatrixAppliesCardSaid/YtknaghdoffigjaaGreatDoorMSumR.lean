import Derived.Test.YtknaghdoffigjaaGreatDoorMRefN
import Derived.Test.YtknaghdoffigjaaGreatDoorZMAlg
import Derived.Test.YtknaghdoffigjaaGreatDoorZRPlus
set_option linter.unusedSimpArgs false
set_option linter.unusedVariables false
set_option linter.unnecessarySimpa false
namespace Go.Proofs.YtknaghdoffigjaaGreatDoor
open Go.RowKit Go
attribute [local go_sem] Oper.semAt_some
theorem wint_nm (z : Int) : wint (wneg z) (wmag z) = z := wint_wv z
theorem cells_at {w : World} {g : Nat} {zs : List Int} (h : Lw w g (enc zs)) (k : Nat) (hk : k < zs.length) :
  w.cell? ⟨g, k * 2, none⟩ = some (.bool (wneg (zs.getD k 0))) ∧ w.cell? ⟨g, k * 2 + 1, none⟩ = some (.string (wmag (zs.getD k 0))) := by
 have hk2 : k < (enc zs).length := by rw [enc_length]; exact hk
 have h0 := h.cell0 k hk2
 have h1 := h.cell1 k hk2
 rw [enc_get] at h0 h1
 exact ⟨h0, h1⟩
end Go.Proofs.YtknaghdoffigjaaGreatDoor
