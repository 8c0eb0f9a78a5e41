/-
  The contracts of wide.shiftLeft and wide.shiftRight.
-/
import Derived.Test.YthbkgofpblganaaDoorGuess
import Derived.RegionTactic
import Derived.BigRegion
namespace Go.Proofs.YthbkgofpblganaaDoor
open Go.RowKit

theorem shl_split (x s cy : Nat) (hs : s < 64) (hx : x < B64) (hc : cy < 2 ^ s) :
    cy + x * 2 ^ s % B64 < B64 ∧ cy + x * 2 ^ s % B64 + B64 * (x / 2 ^ (64 - s)) = cy + x * 2 ^ s ∧ x / 2 ^ (64 - s) < 2 ^ s := by
  have e1 : (2 : Nat) ^ (64 - s) * 2 ^ s = B64 := by rw [← Nat.pow_add, show 64 - s + s = 64 from by omega]; rfl
  have hp : 0 < 2 ^ s := Nat.pow_pos (by omega)
  have e2 : x / 2 ^ (64 - s) = x * 2 ^ s / B64 := by rw [← e1, Nat.mul_div_mul_right _ _ hp]
  have e3 := Nat.div_add_mod (x * 2 ^ s) B64
  have h1 : x * 2 ^ s % B64 = x % 2 ^ (64 - s) * 2 ^ s := by rw [← e1, Nat.mul_mod_mul_right]
  have h2 : x % 2 ^ (64 - s) + 1 ≤ 2 ^ (64 - s) := Nat.mod_lt _ (Nat.pow_pos (by omega))
  have h3 : (x % 2 ^ (64 - s) + 1) * 2 ^ s ≤ B64 := by rw [← e1]; exact Nat.mul_le_mul_right _ h2
  rw [Nat.add_mul, Nat.one_mul, ← h1] at h3
  refine ⟨by omega, by rw [e2]; omega, ?_⟩
  rw [Nat.div_lt_iff_lt_mul (Nat.pow_pos (by omega)), Nat.mul_comm, e1]
  exact hx
theorem or_shl (cy x s z : Nat) (hs : s < 64) (hc : cy < 2 ^ s) (hz : cy + x * 2 ^ s % B64 = z) : bits .or .u64 (cy : Int) (IntKind.u64.wrap ((x : Int) * 2 ^ s)) = (z : Int) := by
  have e0 : B64 = 18446744073709551616 := rfl
  rw [shl_mod x s _ rfl]
  have hp : (2 : Nat) ^ s ≤ 2 ^ 63 := Nat.pow_le_pow_right (by omega) (by omega)
  have e1 : (2 : Nat) ^ (64 - s) * 2 ^ s = 18446744073709551616 := by rw [← Nat.pow_add, show 64 - s + s = 64 from by omega]
  have h1 : x * 2 ^ s % 18446744073709551616 = x % 2 ^ (64 - s) * 2 ^ s := by rw [← e1, Nat.mul_mod_mul_right]
  rw [bits_or_u64_nat _ _ (by omega) (Nat.mod_lt _ (by omega)), h1, Nat.or_comm, Nat.mul_comm, ← Nat.two_pow_add_eq_or_of_lt hc, ← hz, e0, h1, Nat.mul_comm, Nat.add_comm]
theorem set_head (D : List Nat) (a b : Nat) (R : List Nat) : (D ++ a :: R).set D.length b = D ++ b :: R := by
  rw [List.set_append_right _ _ (Nat.le_refl _), Nat.sub_self, List.set_cons_zero]

set_option maxRecDepth 100000 in
set_option maxHeartbeats 4000000 in
theorem shiftLeft_any (A : Option Addr) (n c s : Nat) (xs : List Nat) (w : World) (hn : xs.length = n) (hx : RdA w A xs) (lx : Limbs xs) (hs : s < 64) (nn : n ≤ 1099511627776) :
    Calls Tryd.prog 91 #[.slice A n c, .int .i64 (s : Int)] w fun e w' => ∃ g ds, e = .returned (.slice (some ⟨g, 0, none⟩) (n + 1) (n + 1)) ∧ ds.length = n + 1 ∧ Limbs ds ∧ pval ds = pval xs * 2 ^ s ∧ w.heap.size ≤ g ∧ Lst w' g ds ∧ Below w.heap.size w w' := by
  have hmk := make_parts (n + 1) (by omega)
  rw [show ((n + 1 : Nat) : Int) = (n : Int) + 1 from by omega] at hmk
  have Hn := Lib.hid hn
  have Hx := Lib.hid hx
  clear hn hx
  go_enter Tryd.func91, Tryd.ntmps91
  go_wp2_with fail
  obtain ⟨g, hg⟩ : ∃ g, g = w.heap.size := ⟨_, rfl⟩
  have hL0 : Lst (w.alloc (.cells (U (List.replicate (n + 1) 0)) 71)) g (List.replicate (n + 1) 0) := by rw [hg]; exact Lst.new _ _
  have hB0 : Below g w (w.alloc (.cells (U (List.replicate (n + 1) 0)) 71)) := (Below.refl _ _).alloc (by omega) _
  rw [← hg]
  have Hg := Lib.hid hg
  clear hg hmk
  go_loopw [13] (fun i wr => ∃ (k cy : Nat) (D : List Nat), i = .int .i64 k ∧ k ≤ n ∧ D.length = k ∧ Limbs D ∧ cy < 2 ^ s ∧ pval D + B64 ^ k * cy = pval (xs.take k) * 2 ^ s ∧ Lst wr g (D ++ cy :: List.replicate (n - k) 0) ∧ Below g w wr)
    (fun i _ => n - (intOf i).toNat)
  case atStart => exact ⟨0, 0, [], rfl, Nat.zero_le _, rfl, Limbs.nil, Nat.pow_pos (by omega), by simp [pval], by rw [Nat.sub_zero, List.nil_append, ← List.replicate_succ]; exact hL0, hB0⟩
  case round =>
    obtain ⟨k, cy, D, rfl, hk, hD, hDl, hcy, hv, hL, hB⟩ := hrel
    have Hv := Lib.hid hv
    have HL := Lib.hid hL
    have HB := Lib.hid hB
    clear hv hL hB hL0 hB0
    by_cases hlt : k < n
    · obtain ⟨a, rfl, hab, hca0⟩ := Hx.out k (by rw [Hn.out]; exact hlt)
      have hca := (HB.out.cell (p := a.add k) (by rw [block_add, Hg.out]; exact hab)).trans hca0
      have hxk : xs.getD k 0 < B64 := lx.getD k
      have hpt := pval_take_succ xs k
      have hcell := HL.out.cell (k := k) (by simp [hD])
      have hg1 : (D ++ cy :: List.replicate (n - k) 0).getD k 0 = cy := by rw [← hD, List.getD_eq_getElem?_getD, List.getElem?_append_right (Nat.le_refl _), Nat.sub_self]; rfl
      rw [hg1] at hcell
      have hfr := HL.out.frozen k
      generalize xs.getD k 0 = x at *
      obtain ⟨z, hz⟩ : ∃ z, cy + x * 2 ^ s % B64 = z := ⟨_, rfl⟩
      obtain ⟨c2, hc2⟩ : ∃ c2, x / 2 ^ (64 - s) = c2 := ⟨_, rfl⟩
      have hsp := shl_split x s cy hs hxk hcy
      rw [hz, hc2] at hsp
      have f1 := or_shl cy x s z hs hcy hz
      have f2 := shr_div x (64 - s) c2 hc2
      have hca2 := ((HB.out.setCell (p := ⟨g, k, none⟩) (Nat.le_refl g) (.int .u64 (z : Int))).cell (p := a.add k) (by rw [block_add, Hg.out]; exact hab)).trans hca0
      clear hca0 hg1 hz hc2
      have hL2 := HL.out.set k z
      rw [show (D ++ cy :: List.replicate (n - k) 0).set k z = D ++ z :: List.replicate (n - k) 0 from by rw [← hD]; exact set_head D cy z _, show n - k = (n - (k + 1)) + 1 from by omega, List.replicate_succ] at hL2
      have hcell2 := hL2.cell (k := k + 1) (by simp [hD])
      have hg2 : (D ++ z :: 0 :: List.replicate (n - (k + 1)) 0).getD (k + 1) 0 = 0 := by rw [← hD, List.getD_eq_getElem?_getD, List.getElem?_append_right (by omega), Nat.add_sub_cancel_left]; rfl
      rw [hg2] at hcell2
      have hfr2 := hL2.frozen (k + 1)
      have hL3 := hL2.set (k + 1) c2
      rw [show (D ++ z :: 0 :: List.replicate (n - (k + 1)) 0).set (k + 1) c2 = (D ++ [z]) ++ c2 :: List.replicate (n - (k + 1)) 0 from by
        rw [show D ++ z :: 0 :: List.replicate (n - (k + 1)) 0 = (D ++ [z]) ++ 0 :: List.replicate (n - (k + 1)) 0 from by simp, show k + 1 = (D ++ [z]).length from by simp [hD]]
        exact set_head (D ++ [z]) 0 c2 _] at hL3
      have HL3 := Lib.hid hL3
      have hB3 : Below g w ((wr.setCell ⟨g, k, none⟩ (.int .u64 (z : Int))).setCell ⟨g, k + 1, none⟩ (.int .u64 (c2 : Int))) := (HB.out.setCell (p := ⟨g, k, none⟩) (Nat.le_refl g) _).setCell (p := ⟨g, k + 1, none⟩) (Nat.le_refl g) _
      have HB3 := Lib.hid hB3
      have hnew := Lib.hid (show pval (D ++ [z]) + B64 ^ (k + 1) * c2 = pval (xs.take (k + 1)) * 2 ^ s by
        rw [pval_snoc, hD, hpt, Nat.add_mul, ← Hv.out, Nat.pow_succ, Nat.mul_assoc]
        have h1 := congrArg (fun y => B64 ^ k * y) hsp.2.1
        simp only [Nat.mul_add] at h1
        rw [Nat.mul_assoc]
        omega)
      have hz1 := hsp.1
      have hc3 := hsp.2.2
      clear hL2 hL3 hg2 hB3 hsp hpt
      go_wp2_with fail
      go_region
      go_wp2
      go_roundw
      case rel => exact ⟨k + 1, c2, D ++ [z], by go_num, by omega, by simp [hD], hDl.snoc hz1, hc3, hnew.out, HL3.out, HB3.out.drew⟩
      case measure => simp [intOf]; omega
    · obtain rfl : k = n := by omega
      have hvl : pval (D ++ [cy]) = pval xs * 2 ^ s := by
        rw [pval_snoc, hD, Hv.out, List.take_of_length_le (by rw [Hn.out]; exact Nat.le_refl _)]
      have HVL := Lib.hid hvl
      have hcB : cy < B64 := Nat.lt_of_lt_of_le hcy (by rw [B64_eq]; exact Nat.pow_le_pow_right (n := 2) (by omega) (show s ≤ 64 by omega))
      rw [Nat.sub_self, List.replicate_zero] at HL
      clear hvl
      go_wp2
      go_ret
      exact ⟨g, D ++ [cy], rfl, by simp [hD], hDl.snoc hcB, HVL.out, by rw [Hg.out]; exact Nat.le_refl _, HL.out, by rw [← Hg.out]; exact HB.out⟩
/-- One digit of a number that is shifted right. -/
theorem shr_split (x y P s : Nat) (hs : s < 64) (hx : x < B64) (hy : P % 2 ^ s = y % 2 ^ s) :
    x / 2 ^ s + 2 ^ (64 - s) * (y % 2 ^ s) < B64 ∧ (x + B64 * P) / 2 ^ s = x / 2 ^ s + 2 ^ (64 - s) * (y % 2 ^ s) + B64 * (P / 2 ^ s) := by
  have e1 : (2 : Nat) ^ (64 - s) * 2 ^ s = B64 := by rw [← Nat.pow_add, show 64 - s + s = 64 from by omega]; rfl
  have hp : 0 < 2 ^ s := Nat.pow_pos (by omega)
  have h1 : x / 2 ^ s < 2 ^ (64 - s) := by rw [Nat.div_lt_iff_lt_mul hp, e1]; exact hx
  have h2 : y % 2 ^ s + 1 ≤ 2 ^ s := Nat.mod_lt _ hp
  have h3 : 2 ^ (64 - s) * (y % 2 ^ s + 1) ≤ B64 := by rw [← e1]; exact Nat.mul_le_mul_left _ h2
  rw [Nat.mul_add, Nat.mul_one] at h3
  refine ⟨by omega, ?_⟩
  have h4 := Nat.div_add_mod P (2 ^ s)
  rw [hy] at h4
  have h5 : B64 * P = 2 ^ s * (2 ^ (64 - s) * P) := by rw [← e1, Nat.mul_comm (2 ^ (64 - s)), Nat.mul_assoc]
  rw [h5, Nat.add_mul_div_left _ _ hp]
  have h6 : 2 ^ (64 - s) * P = B64 * (P / 2 ^ s) + 2 ^ (64 - s) * (y % 2 ^ s) := by
    conv => lhs; rw [← h4, Nat.mul_add, ← Nat.mul_assoc, e1]
  omega
theorem or_shr (x y s z : Nat) (hs : s < 64) (hx : x < B64) (hz : x / 2 ^ s + 2 ^ (64 - s) * (y % 2 ^ s) = z) : bits .or .u64 ((x : Int) / 2 ^ s) (IntKind.u64.wrap ((y : Int) * 2 ^ (64 - s))) = (z : Int) := by
  have e1 : (2 : Nat) ^ s * 2 ^ (64 - s) = 18446744073709551616 := by rw [← Nat.pow_add, show s + (64 - s) = 64 from by omega]
  have hp : 0 < 2 ^ s := Nat.pow_pos (by omega)
  have h1 : x / 2 ^ s < 2 ^ (64 - s) := by rw [Nat.div_lt_iff_lt_mul hp, Nat.mul_comm, e1]; exact hx
  have h2 : y * 2 ^ (64 - s) % 18446744073709551616 = y % 2 ^ s * 2 ^ (64 - s) := by rw [← e1, Nat.mul_mod_mul_right]
  have h3 : x / 2 ^ s < 18446744073709551616 := Nat.lt_of_le_of_lt (Nat.div_le_self _ _) hx
  rw [shl_mod y (64 - s) _ rfl, shr_div x s _ rfl, bits_or_u64_nat _ _ h3 (Nat.mod_lt _ (by omega)), h2, Nat.or_comm, Nat.mul_comm, ← Nat.two_pow_add_eq_or_of_lt h1, ← hz, Nat.add_comm]
theorem mod_digit (P x H s : Nat) (hs : s < 64) (h : P = x + B64 * H) : P % 2 ^ s = x % 2 ^ s := by
  have e1 : (2 : Nat) ^ s * 2 ^ (64 - s) = B64 := by rw [← Nat.pow_add, show s + (64 - s) = 64 from by omega]; rfl
  rw [h, ← e1, Nat.mul_assoc, Nat.add_mul_mod_self_left]

set_option maxRecDepth 100000 in
set_option maxHeartbeats 4000000 in
theorem shiftRight_any (A : Option Addr) (n c s : Nat) (xs : List Nat) (w : World) (hn : xs.length = n) (hx : RdA w A xs) (lx : Limbs xs) (hs : s < 64) (nn : n ≤ 1099511627776) :
    Calls Tryd.prog 93 #[.slice A n c, .int .i64 (s : Int)] w fun e w' => ∃ g ds, e = .returned (.slice (some ⟨g, 0, none⟩) n n) ∧ ds.length = n ∧ Limbs ds ∧ pval ds = pval xs / 2 ^ s ∧ w.heap.size ≤ g ∧ Lst w' g ds ∧ Below w.heap.size w w' := by
  have hmk := make_parts n (by omega)
  have Hn := Lib.hid hn
  have Hx := Lib.hid hx
  clear hn hx
  go_enter Tryd.func93, Tryd.ntmps93
  go_wp2_with fail
  obtain ⟨g, hg⟩ : ∃ g, g = w.heap.size := ⟨_, rfl⟩
  have hL0 : Lst (w.alloc (.cells (U (List.replicate n 0)) 71)) g (List.replicate n 0) := by rw [hg]; exact Lst.new _ _
  have hB0 : Below g w (w.alloc (.cells (U (List.replicate n 0)) 71)) := (Below.refl _ _).alloc (by omega) _
  rw [← hg]
  have Hg := Lib.hid hg
  clear hg hmk
  go_loopw [12] (fun i wr => ∃ (k : Nat) (D : List Nat), i = .int .i64 k ∧ k ≤ n ∧ D.length = k ∧ Limbs D ∧ pval D + B64 ^ k * (pval (xs.drop k) / 2 ^ s) = pval xs / 2 ^ s ∧ Lst wr g (D ++ List.replicate (n - k) 0) ∧ Below g w wr)
    (fun i _ => n - (intOf i).toNat)
  case atStart => exact ⟨0, [], rfl, Nat.zero_le _, rfl, Limbs.nil, by simp [pval], by rw [Nat.sub_zero, List.nil_append]; exact hL0, hB0⟩
  case round =>
    obtain ⟨k, D, rfl, hk, hD, hDl, hv, hL, hB⟩ := hrel
    have Hv := Lib.hid hv
    have HL := Lib.hid hL
    have HB := Lib.hid hB
    clear hv hL hB hL0 hB0
    by_cases hlt : k < n
    · have hBw : Below w.heap.size w wr := by rw [← Hg.out]; exact HB.out
      obtain ⟨a, rfl, hab, hca0⟩ := Hx.out k (by rw [Hn.out]; exact hlt)
      have hca := (HB.out.cell (p := a.add k) (by rw [block_add, Hg.out]; exact hab)).trans hca0
      have hat := Lib.hid (fun W (h : Below w.heap.size w W) => at_any (some a) n c xs (k + 1) W Hn.out (Hx.out.below h) (by unfold maxLen; omega))
      have hxk : xs.getD k 0 < B64 := lx.getD k
      have hyk : xs.getD (k + 1) 0 < B64 := lx.getD (k + 1)
      have hpd := pval_drop xs k (by rw [Hn.out]; exact hlt)
      have hmd : pval (xs.drop (k + 1)) % 2 ^ s = xs.getD (k + 1) 0 % 2 ^ s := by
        by_cases h1 : k + 1 < xs.length
        · exact mod_digit _ _ _ s hs (pval_drop xs (k + 1) h1)
        · rw [List.drop_of_length_le (by omega), List.getD_eq_getElem?_getD, List.getElem?_eq_none (by omega)]; rfl
      have hcell := HL.out.cell (k := k) (by simp [hD]; omega)
      have hfr := HL.out.frozen k
      generalize hP : pval (xs.drop (k + 1)) = P at *
      have HP := Lib.hid hP
      clear hP
      generalize xs.getD k 0 = x at *
      generalize xs.getD (k + 1) 0 = y at *
      have hsp := shr_split x y P s hs hxk hmd
      obtain ⟨z, hz⟩ : ∃ z, x / 2 ^ s + 2 ^ (64 - s) * (y % 2 ^ s) = z := ⟨_, rfl⟩
      rw [hz] at hsp
      have f1 := or_shr x y s z hs hxk hz
      have hL2 := HL.out.set k z
      have hse : (D ++ List.replicate (n - k) 0).set k z = (D ++ [z]) ++ List.replicate (n - (k + 1)) 0 := by
        have h1 := set_head D 0 z (List.replicate (n - (k + 1)) 0)
        rw [hD] at h1
        rw [show n - k = (n - (k + 1)) + 1 from by omega, List.replicate_succ, h1]
        simp
      rw [hse] at hL2
      clear hse
      have HL2 := Lib.hid hL2
      have hB3 := HB.out.setCell (p := ⟨g, k, none⟩) (Nat.le_refl g) (.int .u64 (z : Int))
      have HB3 := Lib.hid hB3
      have hnew := Lib.hid (show pval (D ++ [z]) + B64 ^ (k + 1) * (P / 2 ^ s) = pval xs / 2 ^ s by
        rw [pval_snoc, hD, ← Hv.out, hpd, hsp.2, Nat.pow_succ, Nat.mul_add, Nat.mul_assoc]
        omega)
      have hz1 := hsp.1
      have hk1 : (k : Int) + 1 = ((k + 1 : Nat) : Int) := by omega
      rw [← hk1] at hat
      generalize (D ++ List.replicate (n - k) 0).getD k 0 = z0 at *
      clear hL2 hB3 hsp hpd hmd hca0 hz hk1
      have hw1 : IntKind.i64.wrap ((k : Int) + 1) = (k : Int) + 1 := IntWalk.i64_in _ (by omega)
      have hw2 : IntKind.i64.wrap (64 - (s : Int)) = ((64 - s : Nat) : Int) := by rw [IntWalk.i64_in _ (by omega)]; omega
      go_wp2_with fail
      go_region_with (go_at_call 75; (with_reducible refine (hat.out _ (by first | exact hBw.drew | exact hBw)).mono ?_); rintro e w' ⟨rfl, rfl⟩)
      all_goals
        go_wp2
        go_roundw
        case rel => exact ⟨k + 1, D ++ [z], by go_num, by omega, by simp [hD], hDl.snoc hz1, by rw [HP.out]; exact hnew.out, HL2.out, HB3.out.drew⟩
        case measure => simp [intOf]; omega
    · obtain rfl : k = n := by omega
      rw [Nat.sub_self, List.replicate_zero, List.append_nil] at HL
      have hv2 : pval D = pval xs / 2 ^ s := by
        have := Hv.out
        rw [List.drop_of_length_le (by rw [Hn.out]; exact Nat.le_refl _), show pval [] = 0 from rfl, Nat.zero_div, Nat.mul_zero, Nat.add_zero] at this
        exact this
      have HV2 := Lib.hid hv2
      clear hv2
      go_wp2
      go_ret
      exact ⟨g, D, rfl, hD, hDl, HV2.out, by rw [Hg.out]; exact Nat.le_refl _, HL.out, by rw [← Hg.out]; exact HB.out⟩
end Go.Proofs.YthbkgofpblganaaDoor
