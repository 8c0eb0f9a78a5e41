/-
  The contract of wide.subtractMultiple.
-/
import Derived.Test.YthbkgofpblganaaDoorDivP
namespace Go.Proofs.YthbkgofpblganaaDoor
open Go.RowKit

/-- Subtracting a multiple: the block and the borrowed digit after k places. -/
def smN (off : Nat) (ys : List Nat) (f : Nat) (ts : List Nat) : Nat → List Nat × Nat
  | 0 => (ts, 0)
  | k + 1 => ((smN off ys f ts k).1.set (off + k) (((smN off ys f ts k).1.getD (off + k) 0 + B64 - (ys.getD k 0 * f + (smN off ys f ts k).2) % B64) % B64),
      (ys.getD k 0 * f + (smN off ys f ts k).2) / B64 + if (smN off ys f ts k).1.getD (off + k) 0 < (ys.getD k 0 * f + (smN off ys f ts k).2) % B64 then 1 else 0)
theorem smN_length (off : Nat) (ys : List Nat) (f : Nat) (ts : List Nat) (k : Nat) : (smN off ys f ts k).1.length = ts.length := by
  induction k with
  | zero => rfl
  | succ k ih => simp [smN, ih]
theorem sm_facts (t y f c : Nat) (ht : t < B64) (hy : y < B64) (hf : f < B64) (hc : c < B64) :
    (y * f + c) / B64 + (if t < (y * f + c) % B64 then 1 else 0) < B64 ∧ (t + B64 - (y * f + c) % B64) % B64 + (y * f + c) = t + B64 * ((y * f + c) / B64 + if t < (y * f + c) % B64 then 1 else 0) := by
  have h := mulle y f hy hf
  generalize y * f = p at *
  rw [B64_eq] at *
  split <;> omega
theorem smN_ok (off : Nat) (ys : List Nat) (f : Nat) (ts : List Nat) (hy : Limbs ys) (hf : f < B64) (ht : Limbs ts) (k : Nat) : Limbs (smN off ys f ts k).1 ∧ (smN off ys f ts k).2 < B64 := by
  induction k with
  | zero => exact ⟨ht, B64_pos⟩
  | succ k ih =>
    refine ⟨ih.1.set _ _ (Nat.mod_lt _ B64_pos), ?_⟩
    exact (sm_facts _ _ _ _ (ih.1.getD (off + k)) (hy.getD k) hf ih.2).1
theorem smN_val (off : Nat) (ys : List Nat) (f : Nat) (ts : List Nat) (hy : Limbs ys) (hf : f < B64) (ht : Limbs ts) (k : Nat) (h : off + k ≤ ts.length) :
    pval (smN off ys f ts k).1 + B64 ^ off * (f * pval (ys.take k)) = pval ts + B64 ^ (off + k) * (smN off ys f ts k).2 := by
  induction k with
  | zero => simp [smN, pval]
  | succ k ih =>
    have ih := ih (by omega)
    have hok := smN_ok off ys f ts hy hf ht k
    have hs := pval_set (smN off ys f ts k).1 (off + k) (((smN off ys f ts k).1.getD (off + k) 0 + B64 - (ys.getD k 0 * f + (smN off ys f ts k).2) % B64) % B64) (by rw [smN_length]; omega)
    have hd := (sm_facts _ (ys.getD k 0) f _ (hok.1.getD (off + k)) (hy.getD k) hf hok.2).2
    have h2 := congrArg (fun n => B64 ^ (off + k) * n) hd
    rw [pval_take_succ]
    simp only [smN]
    generalize (smN off ys f ts k).1.getD (off + k) 0 = t at *
    generalize (smN off ys f ts k).2 = c at *
    generalize ys.getD k 0 = y at *
    generalize (t + B64 - (y * f + c) % B64) % B64 = z at *
    generalize (y * f + c) / B64 + (if t < (y * f + c) % B64 then 1 else 0) = c2 at *
    simp only [Nat.mul_add] at h2
    rw [show off + (k + 1) = (off + k) + 1 from by omega, Nat.pow_succ, Nat.mul_assoc]
    have e : B64 ^ off * (f * (pval (List.take k ys) + B64 ^ k * y)) = B64 ^ off * (f * pval (List.take k ys)) + B64 ^ (off + k) * (y * f) := by
      rw [Nat.mul_add, Nat.mul_add, Nat.pow_add, Nat.mul_left_comm f (B64 ^ k) y, Nat.mul_assoc, Nat.mul_comm f y]
    rw [e]
    omega
theorem smN_getD (off : Nat) (ys : List Nat) (f : Nat) (ts : List Nat) (k j : Nat) (h : j < off ∨ off + k ≤ j) : (smN off ys f ts k).1.getD j 0 = ts.getD j 0 := by
  induction k with
  | zero => rfl
  | succ k ih =>
    have ih := ih (by omega)
    simp only [smN]
    rw [List.getD_eq_getElem?_getD, List.getElem?_set_ne (by omega), ← List.getD_eq_getElem?_getD, ih]
theorem sm_step (y f c : Nat) (hy : y < B64) (hf : f < B64) (hc : c < B64) :
    (y * f % B64 + c) % B64 = (y * f + c) % B64 ∧ y * f / B64 + (y * f % B64 + c) / B64 = (y * f + c) / B64 ∧ (y * f + c) / B64 ≤ 18446744073709551615 := by
  have h := mulle y f hy hf
  generalize y * f = p at *
  rw [B64_eq] at *
  refine ⟨by omega, by omega, by omega⟩
theorem bits_Sub64_0 (x y : Nat) (w : World) :
    (callFunc 77 #[.int .u64 (x : Int), .int .u64 (y : Int), .int .u64 0]).run Tryd.prog w =
      .ok (.value (.tuple #[.int .u64 (((x + B64 - y) % B64 : Nat) : Int), .int .u64 ((if x < y then 1 else 0 : Nat) : Int)])) w := by
  have := bits_Sub64 x y 0 (Nat.zero_le _) w
  simpa using this

set_option maxHeartbeats 1000000 in
theorem subtractMultiple_any (T B : Option Addr) (n ct cb g off f : Nat) (ts ys : List Nat) (w0 w : World) (hn : ys.length = n) (hT : 0 < n → T = some ⟨g, off, none⟩) (hL : Lst w g ts) (ht : off + n ≤ ts.length)
    (hy : RdA w0 B ys) (hw : Below w0.heap.size w0 w) (hg : w0.heap.size ≤ g) (ly : Limbs ys) (lt : Limbs ts) (hf : f < B64) (nn : n ≤ 1099511627776) :
    Calls Tryd.prog 100 #[.slice T n ct, .slice B n cb, .int .u64 (f : Int)] w fun e w' =>
      e = .returned (.int .u64 ((smN off ys f ts n).2 : Nat)) ∧ Lst w' g (smN off ys f ts n).1 ∧ w.grownBy w' (some g) := by
  have Hn := Lib.hid hn
  clear hn
  go_enter Tryd.func100, Tryd.ntmps100
  go_wp2
  go_loopw [7, 14] (fun c i wr => ∃ k : Nat, k ≤ n ∧ i = .int .i64 k ∧ c = .int .u64 ((smN off ys f ts k).2 : Nat) ∧ Lst wr g (smN off ys f ts k).1 ∧ w.grownBy wr (some g))
    (fun _ i _ => n - (intOf i).toNat)
  case atStart => exact ⟨0, Nat.zero_le _, rfl, rfl, hL, ⟨rfl, rfl, rfl, Nat.le_refl _, fun _ _ _ => rfl⟩⟩
  case round =>
    obtain ⟨k, hk, rfl, rfl, hLk, hG⟩ := hrel
    have hok := smN_ok off ys f ts ly hf lt k
    have hlen := smN_length off ys f ts k
    by_cases hlt : k < n
    · have hwr : Below w0.heap.size w0 wr := hw.grown hG (Nat.le_trans hw.size (Nat.le_refl _)) (by intro j hj; cases hj; exact hg)
      obtain ⟨b, rfl, hbb, hbc⟩ := (hy.below hwr) k (by rw [Hn.out]; exact hlt)
      obtain rfl := hT (by omega)
      have hcell := hLk.cell (k := off + k) (by omega)
      have hfr := hLk.frozen (off + k)
      have hL2 := hLk.set (off + k) (((smN off ys f ts k).1.getD (off + k) 0 + B64 - (ys.getD k 0 * f + (smN off ys f ts k).2) % B64) % B64)
      have hst := sm_step (ys.getD k 0) f (smN off ys f ts k).2 (ly.getD k) hf hok.2
      have hsf := (sm_facts _ (ys.getD k 0) f _ (hok.1.getD (off + k)) (ly.getD k) hf hok.2).1
      have hL3 : Lst (wr.setCell ⟨g, off + k, none⟩ (.int .u64 ((((smN off ys f ts k).1.getD (off + k) 0 + B64 - (ys.getD k 0 * f + (smN off ys f ts k).2) % B64) % B64 : Nat) : Int))) g (smN off ys f ts (k + 1)).1 := hL2
      have hc3 : (smN off ys f ts (k + 1)).2 = (ys.getD k 0 * f + (smN off ys f ts k).2) / B64 + if (smN off ys f ts k).1.getD (off + k) 0 < (ys.getD k 0 * f + (smN off ys f ts k).2) % B64 then 1 else 0 := rfl
      have hm := bits_Mul64' (ys.getD k 0) f (ly.getD k) hf wr
      clear hL2 hLk hlen
      generalize hq' : (smN off ys f ts (k + 1)).2 = q' at *
      have Hq' := Lib.hid hq'
      clear hq'
      generalize (smN off ys f ts k).1.getD (off + k) 0 = t at *
      generalize (smN off ys f ts k).2 = c at *
      generalize ys.getD k 0 = y at *
      have HM := Lib.hid hm
      clear hm
      obtain ⟨hs1, hs2, hs3⟩ := hst
      rw [← hs1, ← hs2] at hc3 hsf
      rw [← hs1] at hL3
      have ha1 := bits_Add64_0 (y * f % B64) c
      have hb1 := bits_Sub64_0 t ((y * f % B64 + c) % B64)
      clear hs1
      rw [← hs2] at hs3
      clear hs2
      generalize y * f % B64 = l at *
      generalize y * f / B64 = h at *
      generalize (l + c) / B64 = c1 at *
      generalize (l + c) % B64 = l2 at *
      generalize (if t < l2 then 1 else 0 : Nat) = c2 at *
      generalize (t + B64 - l2) % B64 = z at *
      rw [B64_eq] at hsf
      subst hc3
      have hG' : w.grownBy (wr.setCell ⟨g, off + k, none⟩ (.int .u64 ((z : Nat) : Int))) (some g) := grownBy_setRow hG rfl _
      go_wp2_with fail
      with_reducible refine HM.out.mono ?_
      rintro e w' ⟨rfl, rfl⟩
      go_wp2
      go_roundw
      case rel => exact ⟨k + 1, by omega, by go_num, by rw [Hq'.out]; go_num, hL3, hG'⟩
      case measure => simp [intOf]; omega
    · obtain rfl : k = n := by omega
      go_wp2
      go_ret
      exact ⟨rfl, hLk, hG⟩
end Go.Proofs.YthbkgofpblganaaDoor
