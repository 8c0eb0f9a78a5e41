/-
  The contract of wide.divideByPart: a number, in its own block, is replaced by its quotient.
-/
import Derived.Test.YtknaghdoffigjaaGreatDoorDiv64
set_option linter.unusedSimpArgs false
set_option linter.unusedVariables false
set_option linter.unnecessarySimpa false
namespace Go.Proofs.YtknaghdoffigjaaGreatDoor
open Go.RowKit

theorem grown_below {w wr w' : World} {row : Option Nat} (h : w.grownBy wr row) (hb : Below wr.heap.size wr w') : w.grownBy w' row :=
  ⟨hb.os.trans h.os, hb.tape.trans h.tape, hb.output.trans h.output, Nat.le_trans h.size hb.size, fun k hk hne => (hb.block k (Nat.lt_of_lt_of_le hk h.size)).trans (h.block k hk hne)⟩
theorem pval_drop (E : List Nat) (j : Nat) (h : j < E.length) : pval (E.drop j) = E.getD j 0 + B64 * pval (E.drop (j + 1)) := by
  rw [List.drop_eq_getElem_cons h, pval, List.getD_eq_getElem?_getD, List.getElem?_eq_getElem h]; rfl
/-- One more digit of a quotient. -/
theorem div_digit (H x d q r : Nat) (hd : 0 < d) (hq : (H % d * B64 + x) / d = q) (hr : (H % d * B64 + x) % d = r) : (x + B64 * H) / d = q + B64 * (H / d) ∧ (x + B64 * H) % d = r := by
  have h1 := Nat.div_add_mod H d
  have h2 := Nat.div_add_mod (H % d * B64 + x) d
  rw [hq, hr] at h2
  have h3 : x + B64 * H = d * (q + B64 * (H / d)) + r := by
    have e : B64 * H = d * (B64 * (H / d)) + H % d * B64 := by
      conv => lhs; rw [← h1, Nat.mul_add, Nat.mul_left_comm, Nat.mul_comm B64 (H % d)]
    rw [Nat.mul_add]
    omega
  have hlt : r < d := by rw [← hr]; exact Nat.mod_lt _ hd
  rw [h3]
  exact ⟨by rw [Nat.mul_add_div hd, Nat.div_eq_of_lt hlt, Nat.add_zero], by rw [Nat.mul_add_mod, Nat.mod_eq_of_lt hlt]⟩
theorem set_place (xs ds tl : List Nat) (j q : Nat) (h : j < xs.length) : (xs.take (j + 1) ++ ds ++ tl).set j q = xs.take j ++ (q :: ds) ++ tl := by
  rw [List.append_assoc, List.set_append_left _ _ (by rw [List.length_take]; omega), List.take_succ_eq_append_getElem h, List.set_append_right _ _ (by rw [List.length_take]; omega), List.length_take, Nat.min_eq_left (by omega), Nat.sub_self, List.set_cons_zero]
  simp

set_option maxRecDepth 100000 in
set_option maxHeartbeats 2000000 in
theorem divideByPart_any (A : Option Addr) (n c g d : Nat) (xs tl : List Nat) (w : World) (hn : xs.length = n) (hA : 0 < n → A = some ⟨g, 0, none⟩) (hL : 0 < n → Lst w g (xs ++ tl)) (lx : Limbs xs) (hd : 0 < d) (hdB : d < B64) (nn : n ≤ 1099511627776) :
    Calls Tryz.prog 146 #[.slice A n c, .int .u64 (d : Int)] w fun e w' => e = .returned (.int .u64 ((pval xs % d : Nat) : Int)) ∧
      (∃ ds, ds.length = n ∧ Limbs ds ∧ pval ds = pval xs / d ∧ (0 < n → Lst w' g (ds ++ tl))) ∧ w.grownBy w' (some g) := by
  have Hn := Lib.hid hn
  have HL := Lib.hid hL
  clear hn hL
  go_enter Tryz.func146, Tryz.ntmps146
  go_wp2_with fail
  go_loopw [4, 9] (fun r i wr => ∃ (k : Nat) (ds : List Nat), k ≤ n ∧ i = .int .i64 k ∧ r = .int .u64 ((pval (xs.drop (n - k)) % d : Nat) : Int) ∧ ds.length = k ∧ Limbs ds ∧ pval ds = pval (xs.drop (n - k)) / d ∧ (0 < n → Lst wr g (xs.take (n - k) ++ ds ++ tl)) ∧ w.grownBy wr (some g))
    (fun _ i _ => n - (intOf i).toNat)
  case atStart =>
    refine ⟨0, [], Nat.zero_le _, rfl, ?_, rfl, Limbs.nil, ?_, fun h => ?_, World.grownBy.refl _ _⟩
    · rw [List.drop_of_length_le (by rw [Hn.out]; omega)]; simp [pval]
    · rw [List.drop_of_length_le (by rw [Hn.out]; omega)]; simp [pval]
    · rw [Nat.sub_zero, List.take_of_length_le (by rw [Hn.out]; exact Nat.le_refl _), List.append_nil]; exact HL.out h
  case round =>
    obtain ⟨k, ds, hk, rfl, rfl, hdl, hdL, hdv, hLw, hG⟩ := hrel
    have HG := Lib.hid hG
    have Hdv := Lib.hid hdv
    clear hdv hG
    by_cases hlt : k < n
    · obtain ⟨j, hj⟩ : ∃ j, j = n - (k + 1) := ⟨_, rfl⟩
      have hjn : n - k = j + 1 := by omega
      have hjl : j < xs.length := by rw [Hn.out]; omega
      have hj1 : (n : Int) - 1 - (k : Int) = (j : Int) := by omega
      rw [hjn] at Hdv ⊢
      have Hj := Lib.hid hj
      rw [hjn] at hLw
      have hL2 := hLw (by omega)
      obtain rfl := hA (by omega)
      have hcell := hL2.cell (k := j) (by simp; omega)
      have hgd : (xs.take (j + 1) ++ ds ++ tl).getD j 0 = xs.getD j 0 := by
        rw [List.append_assoc, List.getD_eq_getElem?_getD, List.getElem?_append_left (by rw [List.length_take]; omega), List.getElem?_take_of_lt (by omega), ← List.getD_eq_getElem?_getD]
      rw [hgd] at hcell
      have hfr := hL2.frozen j
      have hpd := pval_drop xs j hjl
      have hxl : xs.getD j 0 < B64 := lx.getD j
      generalize hH : pval (xs.drop (j + 1)) = H at *
      generalize xs.getD j 0 = x at *
      have hrd : H % d < d := Nat.mod_lt _ hd
      obtain ⟨q, hq⟩ : ∃ q, (H % d * B64 + x) / d = q := ⟨_, rfl⟩
      obtain ⟨r2, hr2⟩ : ∃ r, (H % d * B64 + x) % d = r := ⟨_, rfl⟩
      have hdd := div_digit H x d q r2 hd hq hr2
      have hqB : q < B64 := by
        rw [← hq, Nat.div_lt_iff_lt_mul hd]
        have h1 : (H % d + 1) * B64 ≤ d * B64 := Nat.mul_le_mul_right _ hrd
        rw [Nat.add_mul, Nat.one_mul] at h1
        rw [Nat.mul_comm B64]
        omega
      have h64 := Div64_any (H % d) x d hxl hdB hrd wr
      rw [hq, hr2] at h64
      have H64 := Lib.hid h64
      have HDD := Lib.hid hdd
      have HPD := Lib.hid hpd
      have HLw := Lib.hid hL2
      have hnew := Lib.hid (set_place xs ds tl j q hjl)
      clear h64 hdd hpd hq hr2 hL2 hLw hH hgd hj hjn
      generalize H % d = r at *
      go_wp2_with fail
      with_reducible refine H64.out.mono ?_
      rintro e w' ⟨rfl, hb⟩
      have hL3 : Lst w' g (xs.take (j + 1) ++ ds ++ tl) := HLw.out.block (hb.block g HLw.out.lt)
      have hcell2 := hL3.cell (k := j) (by simp; omega)
      have hfr2 := hL3.frozen j
      have hL4 := hL3.set j q
      rw [hnew.out] at hL4
      have hG2 : w.grownBy w' (some g) := grown_below HG.out hb
      have hG3 : w.grownBy (w'.setCell ⟨g, j, none⟩ (.int .u64 (q : Int))) (some g) := grownBy_setRow hG2 rfl _
      have HL4 := Lib.hid hL4
      have HG3 := Lib.hid hG3
      clear hb hL3 hL4 hG2 hG3
      go_wp2
      go_roundw
      case rel => exact ⟨k + 1, q :: ds, by omega, by go_num, by rw [← Hj.out, HPD.out, HDD.out.2], by simp [hdl], hdL.cons hqB, by rw [← Hj.out, pval, Hdv.out, HPD.out, HDD.out.1], fun _ => by rw [← Hj.out]; exact HL4.out, HG3.out⟩
      case measure => simp [intOf]; omega
    · obtain rfl : k = n := by omega
      rw [Nat.sub_self, List.drop_zero] at Hdv
      rw [Nat.sub_self] at hLw
      have hLw2 := Lib.hid hLw
      clear hLw
      go_wp2
      go_ret
      refine ⟨by rw [Nat.sub_self, List.drop_zero]; rfl, ⟨ds, hdl, hdL, Hdv.out, fun h => ?_⟩, HG.out⟩
      have := hLw2.out h
      rw [List.take_zero, List.nil_append] at this
      exact this
end Go.Proofs.YtknaghdoffigjaaGreatDoor
