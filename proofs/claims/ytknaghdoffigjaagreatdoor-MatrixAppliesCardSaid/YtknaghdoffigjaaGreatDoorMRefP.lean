import Derived.Test.YtknaghdoffigjaaGreatDoorZMBoth
import Derived.Test.YtknaghdoffigjaaGreatDoorZMRefD
set_option linter.unusedSimpArgs false
set_option linter.unusedVariables false
set_option linter.unnecessarySimpa false
namespace Go.Proofs.YtknaghdoffigjaaGreatDoor
open Go.RowKit Go
attribute [local go_sem] Oper.semAt_some
def OwW (w : World) (B : Nat) (v : Value) (zs : List Int) : Prop := w.ownsRow B 32 2 v zs.length (flat (enc zs))
theorem OwW.nil (w : World) (B : Nat) : OwW w B (.slice none 0 0) [] := World.ownsRow_nil _ _ _ _
theorem OwW.own {w : World} {B : Nat} {v : Value} {zs : List Int} (h : OwW w B v zs) (k : Nat) (hk : v.ownBlock = some k) : B ≤ k := by
 rcases h.2 with ⟨rfl, _⟩ | ⟨g, cap, cur, rfl, hb, _⟩
 ·cases hk
 ·injection hk with hk
  exact hk ▸ hb
theorem OwW.block {w w' : World} {B : Nat} {v : Value} {zs : List Int} (h : OwW w B v zs) (hb' : ∀ i, B ≤ i → i < w.heap.size → w'.heap[i]? = w.heap[i]?) : OwW w' B v zs := by
 rcases h.2 with ⟨rfl, h0⟩ | ⟨g, cap, cur, rfl, hb, hh, hnc, hcm, hcs, hct⟩
 ·exact ⟨h.1, .inl ⟨rfl, h0⟩⟩
 ·exact ⟨h.1, .inr ⟨g, cap, cur, rfl, hb, (hb' g hb (heap_lt hh)).trans hh, hnc, hcm, hcs, hct⟩⟩
theorem enc_append (a b : List Int) : enc (a ++ b) = enc a ++ enc b := by unfold enc; rw [List.map_append]
theorem info_wideT : (Tryz.prog.info? 32).map (fun i => (i.zero, i.size, i.bytes)) = some (some (.agg #[.bool false, .string ⟨#[]⟩]), 2, 24) := by kernel_rfl
end Go.Proofs.YtknaghdoffigjaaGreatDoor
