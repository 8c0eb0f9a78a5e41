/-
  The contract of wide.difference.
-/
import Derived.Test.YtgadnianjhaeiaaDoorSum
import Derived.Deep.RegionWith
namespace Go.Proofs.YtgadnianjhaeiaaDoor
open Go.RowKit

/-- The digits and the borrow of the first n places of a difference. -/
def diffN (xs ys : List Nat) : Nat → List Nat × Nat
  | 0 => ([], 0)
  | i + 1 => ((diffN xs ys i).1 ++ [(xs.getD i 0 + B64 - ys.getD i 0 - (diffN xs ys i).2) % B64], if xs.getD i 0 < ys.getD i 0 + (diffN xs ys i).2 then 1 else 0)
theorem diffN_length (xs ys : List Nat) (i : Nat) : (diffN xs ys i).1.length = i := by
  induction i with
  | zero => rfl
  | succ i ih => simp [diffN, ih]
theorem diffN_borrow (xs ys : List Nat) (i : Nat) : (diffN xs ys i).2 ≤ 1 := by
  cases i with
  | zero => exact Nat.zero_le _
  | succ i => simp only [diffN]; split <;> omega
theorem diffN_limbs (xs ys : List Nat) (i : Nat) : Limbs (diffN xs ys i).1 := by
  induction i with
  | zero => exact Limbs.nil
  | succ i ih => exact ih.snoc (Nat.mod_lt _ B64_pos)
theorem diff_digit (x y b : Nat) (hx : x < B64) (hy : y < B64) (hb : b ≤ 1) : (x + B64 - y - b) % B64 + y + b = x + B64 * (if x < y + b then 1 else 0) := by
  rw [B64_eq] at *
  split <;> omega
theorem diffN_val (xs ys : List Nat) (hx : Limbs xs) (hy : Limbs ys) (i : Nat) : pval (diffN xs ys i).1 + pval (ys.take i) = pval (xs.take i) + B64 ^ i * (diffN xs ys i).2 := by
  induction i with
  | zero => simp [diffN, pval]
  | succ i ih =>
    have hd := diff_digit _ _ _ (hx.getD i) (hy.getD i) (diffN_borrow xs ys i)
    have hm := congrArg (fun n => B64 ^ i * n) hd
    simp only [Nat.mul_add] at hm
    rw [pval_take_succ, pval_take_succ, diffN, pval_snoc, diffN_length]
    simp only
    rw [Nat.pow_succ, Nat.mul_assoc]
    omega
theorem diffN_end (xs ys : List Nat) (hx : Limbs xs) (hy : Limbs ys) (hl : ys.length ≤ xs.length) (h : pval ys ≤ pval xs) : pval (diffN xs ys xs.length).1 = pval xs - pval ys := by
  have hv := diffN_val xs ys hx hy xs.length
  have hb := diffN_borrow xs ys xs.length
  have hlt := pval_lt (diffN_limbs xs ys xs.length)
  rw [diffN_length] at hlt
  rw [List.take_of_length_le hl, List.take_of_length_le (Nat.le_refl _)] at hv
  have : (diffN xs ys xs.length).2 = 0 ∨ (diffN xs ys xs.length).2 = 1 := by omega
  rcases this with e | e
  · rw [e] at hv; omega
  · rw [e] at hv; omega

set_option maxHeartbeats 1000000 in
theorem difference_any (A B : Option Addr) (na nb ca cb : Nat) (xs ys : List Nat) (w : World) (hna : xs.length = na) (hnb : ys.length = nb) (hx : RdA w A xs) (hy : RdA w B ys) (lx : Limbs xs) (ly : Limbs ys)
    (nx : na ≤ 1099511627776) (hl : nb ≤ na) (hle : pval ys ≤ pval xs) :
    Calls Tryd.prog 47 #[.slice A na ca, .slice B nb cb] w fun e w' => RetO w w' e (limbs (pval xs - pval ys)) := by
  have hmk := make_parts na (by omega)
  have Hna := Lib.hid hna
  have Hnb := Lib.hid hnb
  clear hna hnb
  go_enter Tryd.func47, Tryd.ntmps47
  go_wp2
  obtain ⟨g, hg⟩ : ∃ g, g = w.heap.size := ⟨_, rfl⟩
  have hL0 : Lst (w.alloc (.cells (U (List.replicate na 0)) 71)) g (List.replicate na 0) := by rw [hg]; exact Lst.new _ _
  have hB0 : Below g w (w.alloc (.cells (U (List.replicate na 0)) 71)) := (Below.refl _ _).alloc (by omega) _
  rw [← hg]
  have Hg := Lib.hid hg
  clear hg hmk
  go_loopw [6, 13] (fun c i wr => ∃ k : Nat, k ≤ na ∧ i = .int .i64 k ∧ c = .int .u64 ((diffN xs ys k).2 : Nat) ∧ Lst wr g ((diffN xs ys k).1 ++ List.replicate (na - k) 0) ∧ Below g w wr)
    (fun _ i _ => na - (intOf i).toNat)
  case atStart => exact ⟨0, Nat.zero_le _, rfl, rfl, hL0, hB0⟩
  case round =>
    obtain ⟨k, hk, rfl, rfl, hL, hB⟩ := hrel
    have hc := diffN_borrow xs ys k
    have hlen := diffN_length xs ys k
    by_cases hlt : k < na
    · have hA := hx.below (w' := wr) (by rw [← Hg.out]; exact hB)
      have hA2 := hy.below (w' := wr) (by rw [← Hg.out]; exact hB)
      obtain ⟨a, rfl, hab, hac⟩ := hA k (by rw [Hna.out]; omega)
      have hcell := hL.cell (k := k) (by simp; omega)
      have hfr := hL.frozen k
      have hL2 := hL.set k ((xs.getD k 0 + B64 - ys.getD k 0 - (diffN xs ys k).2) % B64)
      have hset := set_mid (diffN xs ys k).1 (na - (k + 1)) ((xs.getD k 0 + B64 - ys.getD k 0 - (diffN xs ys k).2) % B64)
      rw [hlen, show na - (k + 1) + 1 = na - k from by omega] at hset
      rw [hset] at hL2
      have hadd := fun W => bits_Sub64 (xs.getD k 0) (ys.getD k 0) (diffN xs ys k).2 hc W
      have hL3 : Lst (wr.setCell ⟨g, k, none⟩ (.int .u64 (((xs.getD k 0 + B64 - ys.getD k 0 - (diffN xs ys k).2) % B64 : Nat) : Int))) g ((diffN xs ys (k + 1)).1 ++ List.replicate (na - (k + 1)) 0) := hL2
      have hc3 : (diffN xs ys (k + 1)).2 = if xs.getD k 0 < ys.getD k 0 + (diffN xs ys k).2 then 1 else 0 := rfl
      generalize hq' : (diffN xs ys (k + 1)).2 = q' at *
      have Hq' := Lib.hid hq'
      clear hq'
      have hB' := hB.setCell (p := ⟨g, k, none⟩) (Nat.le_refl g) (.int .u64 (((xs.getD k 0 + B64 - ys.getD k 0 - (diffN xs ys k).2) % B64 : Nat) : Int))
      have hy1 := Lib.hid (fun W (h : RdA W B ys) => at_any B nb cb ys k W Hnb.out h (by unfold maxLen; omega))
      rw [← hc3] at hadd
      clear hset hL hL2 hc3
      generalize (diffN xs ys k).2 = q at *
      generalize xs.getD k 0 = x at *
      generalize hy0 : ys.getD k 0 = y at *
      generalize (x + B64 - y - q) % B64 = z at *
      clear hlen
      go_wp2
      go_region_with (go_at_call 75; (with_reducible refine (hy1.out _ ?_).mono ?_); exact hA2; rintro e w' ⟨rfl, rfl⟩)
      all_goals go_wp2
      all_goals go_roundw
      all_goals first | (case rel => exact ⟨k + 1, by omega, by go_num, by rw [Hq'.out], hL3, hB'.drew⟩) | skip
      all_goals first | (case measure => simp [intOf]; omega) | skip
    · obtain rfl : k = na := by omega
      have hval := diffN_end xs ys lx ly (by rw [Hna.out, Hnb.out]; exact hl) hle
      have hlim := diffN_limbs xs ys k
      rw [Hna.out] at hval
      rw [Nat.sub_self, List.replicate_zero, List.append_nil] at hL
      have Hvz := Lib.hid hval
      have Hlz := Lib.hid hlen
      clear hval hlen
      generalize (diffN xs ys k).1 = zs at *
      go_wp2_with fail
      with_reducible refine (trim_any _ _ _ zs _ Hlz.out hL.rd (Nat.le_refl _) (by unfold maxLen; omega)).mono ?_
      rintro e w' ⟨rfl, rfl⟩
      go_wp2
      go_ret
      have hr := RetO.trimmed Hg.out hL hlim hB (by rw [Hlz.out]; unfold maxLen; omega)
      rw [Hlz.out, Hvz.out] at hr
      exact hr
end Go.Proofs.YtgadnianjhaeiaaDoor
