import Derived.Test.YtknaghdoffigjaaGreatDoorDiv64
set_option linter.unusedSimpArgs false
set_option linter.unusedVariables false
set_option linter.unnecessarySimpa false
namespace Go.Proofs.YtknaghdoffigjaaGreatDoor
open Go.RowKit
theorem grown_below {w wr w' : World} {row : Option Nat} (h : w.grownBy wr row) (hb : Below wr.heap.size wr w') : w.grownBy w' row :=
 ⟨hb.os.trans h.os, hb.tape.trans h.tape, hb.output.trans h.output, Nat.le_trans h.size hb.size, fun k hk hne => (hb.block k (Nat.lt_of_lt_of_le hk h.size)).trans (h.block k hk hne)⟩
theorem pval_drop (E : List Nat) (j : Nat) (h : j < E.length) : pval (E.drop j) = E.getD j 0 + B64 * pval (E.drop (j + 1)) := by
 rw [List.drop_eq_getElem_cons h, pval, List.getD_eq_getElem?_getD, List.getElem?_eq_getElem h]; rfl
theorem div_digit (H x d q r : Nat) (hd : 0 < d) (hq : (H % d * B64 + x) / d = q) (hr : (H % d * B64 + x) % d = r) : (x + B64 * H) / d = q + B64 * (H / d) ∧ (x + B64 * H) % d = r := by
 have h1 := Nat.div_add_mod H d
 have h2 := Nat.div_add_mod (H % d * B64 + x) d
 rw [hq, hr] at h2
 have h3 : x + B64 * H = d * (q + B64 * (H / d)) + r := by
  have e : B64 * H = d * (B64 * (H / d)) + H % d * B64 := by
   conv => lhs; rw [← h1, Nat.mul_add, Nat.mul_left_comm, Nat.mul_comm B64 (H % d)]
  rw [Nat.mul_add]
  omega
 have hlt : r < d := by rw [← hr]; exact Nat.mod_lt _ hd
 rw [h3]
 exact ⟨by rw [Nat.mul_add_div hd, Nat.div_eq_of_lt hlt, Nat.add_zero], by rw [Nat.mul_add_mod, Nat.mod_eq_of_lt hlt]⟩
theorem set_place (xs ds tl : List Nat) (j q : Nat) (h : j < xs.length) : (xs.take (j + 1) ++ ds ++ tl).set j q = xs.take j ++ (q :: ds) ++ tl := by
 rw [List.append_assoc, List.set_append_left _ _ (by rw [List.length_take]; omega), List.take_succ_eq_append_getElem h, List.set_append_right _ _ (by rw [List.length_take]; omega), List.length_take, Nat.min_eq_left (by omega), Nat.sub_self, List.set_cons_zero]
 simp
end Go.Proofs.YtknaghdoffigjaaGreatDoor
