/-
  The contracts of wide.addMultiple and wide.product.
-/
import Derived.Test.YtgadnianjhaeiaaDoorDiff
namespace Go.Proofs.YtgadnianjhaeiaaDoor
open Go.RowKit

theorem bits_Add64_0 (x y : Nat) (w : World) :
    (callFunc 74 #[.int .u64 (x : Int), .int .u64 (y : Int), .int .u64 0]).run Tryd.prog w =
      .ok (.value (.tuple #[.int .u64 (((x + y) % B64 : Nat) : Int), .int .u64 (((x + y) / B64 : Nat) : Int)])) w := by
  have := bits_Add64 x y 0 (Nat.zero_le _) w
  simpa using this

theorem bits_Mul64' (x y : Nat) (hx : x < B64) (hy : y < B64) (w : World) :
    Calls Tryd.prog 89 #[.int .u64 (x : Int), .int .u64 (y : Int)] w fun e w' => e = .returned (.tuple #[.int .u64 ((x * y / B64 : Nat) : Int), .int .u64 ((x * y % B64 : Nat) : Int)]) ∧ w = w' :=
  (Tryd.bits_Mul64 x y hx hy w).mono fun _ _ ⟨he, hw⟩ => ⟨he, hw.symm⟩

theorem grownBy_setRow {a w : World} {g : Nat} (h : a.grownBy w (some g)) {p : Addr} (hp : p.block = g) (u : Value) : a.grownBy (w.setCell p u) (some g) :=
  ⟨h.os, h.tape, h.output, by simpa [World.setCell] using h.size, fun i hi hne => (Below.heap_setCell w p u i (by rintro rfl; exact hne (by rw [hp]))).trans (h.block i hi hne)⟩

/-- Adding a multiple: the block and the carry after k places. -/
def amN (off : Nat) (ys : List Nat) (f : Nat) (ts : List Nat) : Nat → List Nat × Nat
  | 0 => (ts, 0)
  | k + 1 => ((amN off ys f ts k).1.set (off + k) (((amN off ys f ts k).1.getD (off + k) 0 + ys.getD k 0 * f + (amN off ys f ts k).2) % B64),
      ((amN off ys f ts k).1.getD (off + k) 0 + ys.getD k 0 * f + (amN off ys f ts k).2) / B64)
theorem amN_length (off : Nat) (ys : List Nat) (f : Nat) (ts : List Nat) (k : Nat) : (amN off ys f ts k).1.length = ts.length := by
  induction k with
  | zero => rfl
  | succ k ih => simp [amN, ih]
theorem Limbs.set {l : List Nat} (h : Limbs l) (k x : Nat) (hx : x < B64) : Limbs (l.set k x) := by
  intro y hy
  rcases List.mem_or_eq_of_mem_set hy with hy | rfl
  · exact h y hy
  · exact hx
theorem mulle (y f : Nat) (hy : y < B64) (hf : f < B64) : y * f ≤ 340282366920938463426481119284349108225 := by
  rw [B64_eq] at *
  have h1 : y ≤ 18446744073709551615 := by omega
  have h2 : f ≤ 18446744073709551615 := by omega
  exact Nat.mul_le_mul h1 h2
theorem amN_ok (off : Nat) (ys : List Nat) (f : Nat) (ts : List Nat) (hy : Limbs ys) (hf : f < B64) (ht : Limbs ts) (k : Nat) : Limbs (amN off ys f ts k).1 ∧ (amN off ys f ts k).2 < B64 := by
  induction k with
  | zero => exact ⟨ht, B64_pos⟩
  | succ k ih =>
    refine ⟨ih.1.set _ _ (Nat.mod_lt _ B64_pos), ?_⟩
    have h1 := mulle _ _ (hy.getD k) hf
    have h2 := ih.1.getD (off + k)
    have h3 := ih.2
    simp only [amN]
    rw [Nat.div_lt_iff_lt_mul B64_pos]
    rw [B64_eq] at *
    omega
theorem am_step (t y f c : Nat) (ht : t < B64) (hy : y < B64) (hf : f < B64) (hc : c < B64) :
    (t + (y * f % B64 + c) % B64) % B64 = (t + y * f + c) % B64 ∧ y * f / B64 + (y * f % B64 + c) / B64 ≤ 18446744073709551615 ∧
    y * f / B64 + (y * f % B64 + c) / B64 + (t + (y * f % B64 + c) % B64) / B64 = (t + y * f + c) / B64 ∧ (t + y * f + c) / B64 ≤ 18446744073709551615 := by
  have h := mulle y f hy hf
  generalize y * f = p at *
  rw [B64_eq] at *
  refine ⟨by omega, by omega, by omega, by omega⟩

set_option maxHeartbeats 1000000 in
theorem addMultiple_any (T B : Option Addr) (n ct cb g off f : Nat) (ts ys : List Nat) (w0 w : World) (hn : ys.length = n) (hT : 0 < n → T = some ⟨g, off, none⟩) (hL : Lst w g ts) (ht : off + n ≤ ts.length)
    (hy : RdA w0 B ys) (hw : Below w0.heap.size w0 w) (hg : w0.heap.size ≤ g) (ly : Limbs ys) (lt : Limbs ts) (hf : f < B64) (nn : n ≤ 1099511627776) :
    Calls Tryd.prog 78 #[.slice T n ct, .slice B n cb, .int .u64 (f : Int)] w fun e w' =>
      e = .returned (.int .u64 ((amN off ys f ts n).2 : Nat)) ∧ Lst w' g (amN off ys f ts n).1 ∧ w.grownBy w' (some g) := by
  have Hn := Lib.hid hn
  clear hn
  go_enter Tryd.func78, Tryd.ntmps78
  go_wp2
  go_loopw [7, 14] (fun c i wr => ∃ k : Nat, k ≤ n ∧ i = .int .i64 k ∧ c = .int .u64 ((amN off ys f ts k).2 : Nat) ∧ Lst wr g (amN off ys f ts k).1 ∧ w.grownBy wr (some g))
    (fun _ i _ => n - (intOf i).toNat)
  case atStart => exact ⟨0, Nat.zero_le _, rfl, rfl, hL, ⟨rfl, rfl, rfl, Nat.le_refl _, fun _ _ _ => rfl⟩⟩
  case round =>
    obtain ⟨k, hk, rfl, rfl, hLk, hG⟩ := hrel
    have hok := amN_ok off ys f ts ly hf lt k
    have hlen := amN_length off ys f ts k
    by_cases hlt : k < n
    · have hwr : Below w0.heap.size w0 wr := hw.grown hG (Nat.le_trans hw.size (Nat.le_refl _)) (by intro j hj; cases hj; exact hg)
      obtain ⟨b, rfl, hbb, hbc⟩ := (hy.below hwr) k (by rw [Hn.out]; exact hlt)
      obtain rfl := hT (by omega)
      have hcell := hLk.cell (k := off + k) (by omega)
      have hfr := hLk.frozen (off + k)
      have hL2 := hLk.set (off + k) (((amN off ys f ts k).1.getD (off + k) 0 + ys.getD k 0 * f + (amN off ys f ts k).2) % B64)
      have hst := am_step ((amN off ys f ts k).1.getD (off + k) 0) (ys.getD k 0) f (amN off ys f ts k).2 (hok.1.getD _) (ly.getD k) hf hok.2
      have hL3 : Lst (wr.setCell ⟨g, off + k, none⟩ (.int .u64 ((((amN off ys f ts k).1.getD (off + k) 0 + ys.getD k 0 * f + (amN off ys f ts k).2) % B64 : Nat) : Int))) g (amN off ys f ts (k + 1)).1 := hL2
      have hc3 : (amN off ys f ts (k + 1)).2 = ((amN off ys f ts k).1.getD (off + k) 0 + ys.getD k 0 * f + (amN off ys f ts k).2) / B64 := rfl
      have hm := bits_Mul64' (ys.getD k 0) f (ly.getD k) hf wr
      clear hL2 hLk hlen
      generalize hq' : (amN off ys f ts (k + 1)).2 = q' at *
      have Hq' := Lib.hid hq'
      clear hq'
      generalize (amN off ys f ts k).1.getD (off + k) 0 = t at *
      generalize (amN off ys f ts k).2 = c at *
      generalize ys.getD k 0 = y at *
      rw [← hc3] at hst
      have HM := Lib.hid hm
      clear hm hc3
      generalize y * f % B64 = l at *
      generalize y * f / B64 = h at *
      have ha1 := bits_Add64_0 l c
      have ha2 := bits_Add64_0 t ((l + c) % B64)
      rw [hst.1] at ha2
      obtain ⟨hs1, hs2, hs3, hs4⟩ := hst
      clear hs1
      generalize (l + c) / B64 = c1 at *
      generalize (t + (l + c) % B64) / B64 = c2 at *
      generalize (l + c) % B64 = l2 at *
      generalize (t + y * f + c) % B64 = z at *
      subst hs3
      have hG' : w.grownBy (wr.setCell ⟨g, off + k, none⟩ (.int .u64 ((z : Nat) : Int))) (some g) := grownBy_setRow hG rfl _
      go_wp2_with fail
      with_reducible refine HM.out.mono ?_
      rintro e w' ⟨rfl, rfl⟩
      go_wp2
      go_roundw
      case rel => exact ⟨k + 1, by omega, by go_num, by rw [Hq'.out]; go_num, hL3, hG'⟩
      case measure => simp [intOf]; omega
    · obtain rfl : k = n := by omega
      go_wp2
      go_ret
      exact ⟨rfl, hLk, hG⟩

theorem pval_set (l : List Nat) (j x : Nat) (h : j < l.length) : pval (l.set j x) + B64 ^ j * l.getD j 0 = pval l + B64 ^ j * x := by
  induction l generalizing j with
  | nil => exact absurd h (by simp)
  | cons y l ih =>
    cases j with
    | zero => simp [pval]; omega
    | succ j =>
      have := ih j (by simpa using h)
      have h2 := congrArg (fun n => B64 * n) this
      simp only [Nat.mul_add] at h2
      simp only [List.set_cons_succ, pval, List.getD_cons_succ]
      rw [Nat.pow_succ, Nat.mul_comm (B64 ^ j) B64, Nat.mul_assoc, Nat.mul_assoc]
      omega
theorem amN_getD (off : Nat) (ys : List Nat) (f : Nat) (ts : List Nat) (k j : Nat) (h : j < off ∨ off + k ≤ j) : (amN off ys f ts k).1.getD j 0 = ts.getD j 0 := by
  induction k with
  | zero => rfl
  | succ k ih =>
    have ih := ih (by omega)
    simp only [amN]
    rw [List.getD_eq_getElem?_getD, List.getElem?_set_ne (by omega), ← List.getD_eq_getElem?_getD, ih]
theorem amN_val (off : Nat) (ys : List Nat) (f : Nat) (ts : List Nat) (k : Nat) (h : off + k ≤ ts.length) :
    pval (amN off ys f ts k).1 + B64 ^ (off + k) * (amN off ys f ts k).2 = pval ts + B64 ^ off * (f * pval (ys.take k)) := by
  induction k with
  | zero => simp [amN, pval]
  | succ k ih =>
    have ih := ih (by omega)
    have hs := pval_set (amN off ys f ts k).1 (off + k) (((amN off ys f ts k).1.getD (off + k) 0 + ys.getD k 0 * f + (amN off ys f ts k).2) % B64) (by rw [amN_length]; omega)
    have hd := Nat.mod_add_div ((amN off ys f ts k).1.getD (off + k) 0 + ys.getD k 0 * f + (amN off ys f ts k).2) B64
    have h2 := congrArg (fun n => B64 ^ (off + k) * n) hd
    rw [pval_take_succ]
    simp only [amN]
    generalize (amN off ys f ts k).1.getD (off + k) 0 = t at *
    generalize (amN off ys f ts k).2 = c at *
    generalize ys.getD k 0 = y at *
    simp only [Nat.mul_add] at h2
    rw [show off + (k + 1) = (off + k) + 1 from by omega, Nat.pow_succ, Nat.mul_assoc]
    have e : B64 ^ off * (f * (pval (List.take k ys) + B64 ^ k * y)) = B64 ^ off * (f * pval (List.take k ys)) + B64 ^ (off + k) * (y * f) := by
      rw [Nat.mul_add, Nat.mul_add, Nat.pow_add, Nat.mul_left_comm f (B64 ^ k) y, Nat.mul_assoc, Nat.mul_comm f y]
    rw [e]
    omega

/-- The block of a product after i places of the first factor. -/
def prN (xs ys : List Nat) : Nat → List Nat
  | 0 => List.replicate (xs.length + ys.length) 0
  | i + 1 => (amN i ys (xs.getD i 0) (prN xs ys i) ys.length).1.set (i + ys.length) (amN i ys (xs.getD i 0) (prN xs ys i) ys.length).2
theorem prN_length (xs ys : List Nat) (i : Nat) : (prN xs ys i).length = xs.length + ys.length := by
  induction i with
  | zero => simp [prN]
  | succ i ih => simp [prN, amN_length, ih]
theorem prN_limbs (xs ys : List Nat) (hx : Limbs xs) (hy : Limbs ys) (i : Nat) : Limbs (prN xs ys i) := by
  induction i with
  | zero => intro x hx; rw [(List.mem_replicate.1 hx).2]; exact B64_pos
  | succ i ih =>
    have h := amN_ok i ys (xs.getD i 0) (prN xs ys i) hy (hx.getD i) ih ys.length
    exact h.1.set _ _ h.2
theorem prN_zero (xs ys : List Nat) (i j : Nat) (h : i + ys.length ≤ j) : (prN xs ys i).getD j 0 = 0 := by
  induction i with
  | zero =>
    simp only [prN]
    rw [List.getD_eq_getElem?_getD]
    by_cases hj : j < xs.length + ys.length
    · rw [List.getElem?_replicate_of_lt hj]; rfl
    · rw [List.getElem?_eq_none (by simp; omega)]; rfl
  | succ i ih =>
    simp only [prN]
    rw [List.getD_eq_getElem?_getD, List.getElem?_set_ne (by omega), ← List.getD_eq_getElem?_getD, amN_getD _ _ _ _ _ _ (by omega)]
    exact ih (by omega)
theorem prN_val (xs ys : List Nat) (i : Nat) (h : i ≤ xs.length) : pval (prN xs ys i) = pval (xs.take i) * pval ys := by
  induction i with
  | zero =>
    have : ∀ n, pval (List.replicate n 0) = 0 := fun n => by
      induction n with
      | zero => rfl
      | succ n ih => rw [List.replicate_succ, pval, ih]; simp
    simp [prN, this, pval]
  | succ i ih =>
    have ih := ih (by omega)
    have hz := prN_zero xs ys i (i + ys.length) (Nat.le_refl _)
    have hz2 := amN_getD i ys (xs.getD i 0) (prN xs ys i) ys.length (i + ys.length) (by omega)
    have hs := pval_set (amN i ys (xs.getD i 0) (prN xs ys i) ys.length).1 (i + ys.length) (amN i ys (xs.getD i 0) (prN xs ys i) ys.length).2 (by rw [amN_length, prN_length]; omega)
    have hv := amN_val i ys (xs.getD i 0) (prN xs ys i) ys.length (by rw [prN_length]; omega)
    rw [hz2, hz, Nat.mul_zero, Nat.add_zero] at hs
    rw [List.take_of_length_le (Nat.le_refl _)] at hv
    simp only [prN]
    rw [hs, hv, ih, pval_take_succ, Nat.add_mul, Nat.mul_assoc]
end Go.Proofs.YtgadnianjhaeiaaDoor
