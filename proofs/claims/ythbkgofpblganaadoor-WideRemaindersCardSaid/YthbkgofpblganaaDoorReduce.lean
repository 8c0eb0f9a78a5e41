/-
  The contract of wide.reduce: one digit of a quotient.
-/
import Derived.Test.YthbkgofpblganaaDoorShift
namespace Go.Proofs.YthbkgofpblganaaDoor
open Go.RowKit

/- The guess is the right digit, or one more. -/
theorem guess_near {N3 y P lo dl q dg : Nat} (hP : 0 < P) (hlo : lo < P) (hdl : dl < P) (hy : 0 < y) (hq : (N3 * P + lo) / (y * P + dl) = q) (hd : N3 / y = dg) (hdy : dg ≤ y + 1) : q ≤ dg ∧ dg ≤ q + 1 := by
  have hD : 0 < y * P + dl := by have := Nat.mul_pos hy hP; omega
  constructor
  · have h1 : q * (y * P + dl) ≤ N3 * P + lo := by rw [← hq]; exact Nat.div_mul_le_self _ _
    have h2 : q * (y * P) ≤ q * (y * P + dl) := Nat.mul_le_mul_left _ (by omega)
    have h3 : q * y * P < (N3 + 1) * P := by rw [Nat.mul_assoc, Nat.add_mul]; omega
    have h4 := Nat.lt_of_mul_lt_mul_right h3
    rw [← hd, Nat.le_div_iff_mul_le hy]
    omega
  · cases dg with
    | zero => omega
    | succ k =>
      have h1 : (k + 1) * y ≤ N3 := by rw [← hd]; exact Nat.div_mul_le_self _ _
      have h2 : k ≤ q := by
        rw [← hq, Nat.le_div_iff_mul_le hD]
        have h3 : k * (y * P + dl) ≤ k * (y * P + P) := Nat.mul_le_mul_left _ (by omega)
        have h4 : k * (y * P + P) = k * (y + 1) * P := by rw [Nat.mul_assoc, Nat.add_mul y 1 P, Nat.one_mul]
        have h5 : k * (y + 1) ≤ N3 := by
          rw [Nat.add_mul, Nat.one_mul] at h1
          rw [Nat.mul_add, Nat.mul_one]
          omega
        have h6 : k * (y + 1) * P ≤ N3 * P := Nat.mul_le_mul_right _ h5
        omega
      omega
theorem guess_top {W D P d1 w2 q x dl : Nat} (hP : 0 < P) (hD : D = d1 * B64 * P + dl) (hdl : dl < B64 * P) (hW : W = w2 * (B64 * B64) * P + x) (hd : 9223372036854775808 ≤ d1) (hw : d1 ≤ w2) (hlt : W < D * B64) (hq : W / D = q) : q ≤ 18446744073709551615 ∧ 18446744073709551615 ≤ q + 1 := by
  have hDp : 0 < D := by
    rw [hD]
    have : 0 < d1 * B64 * P := Nat.mul_pos (Nat.mul_pos (by omega) B64_pos) hP
    omega
  constructor
  · have : q < B64 := by rw [← hq, Nat.div_lt_iff_lt_mul hDp, Nat.mul_comm]; exact hlt
    rw [B64_eq] at this
    omega
  · have h1 : 18446744073709551614 ≤ q := by
      rw [← hq, Nat.le_div_iff_mul_le hDp]
      have h2 : 18446744073709551614 * D ≤ 18446744073709551614 * ((d1 + 1) * (B64 * P)) := Nat.mul_le_mul_left _ (by rw [hD, Nat.add_mul, Nat.mul_assoc]; omega)
      have h3 : 18446744073709551614 * (d1 + 1) ≤ d1 * B64 := by rw [B64_eq]; omega
      have h4 : 18446744073709551614 * (d1 + 1) * (B64 * P) ≤ d1 * B64 * (B64 * P) := Nat.mul_le_mul_right _ h3
      have h5 : d1 * (B64 * B64) * P ≤ w2 * (B64 * B64) * P := Nat.mul_le_mul_right _ (Nat.mul_le_mul_right _ hw)
      have e1 : d1 * B64 * (B64 * P) = d1 * (B64 * B64) * P := by rw [Nat.mul_assoc, Nat.mul_assoc, Nat.mul_assoc]
      rw [e1, Nat.mul_assoc] at h4
      omega
    omega

/- The parts of a block of digits. -/
theorem pval_window (l : List Nat) (off m : Nat) (h : off + m < l.length) : pval l = pval (l.take off) + B64 ^ off * (pval ((l.drop off).take m) + B64 ^ m * (l.getD (off + m) 0 + B64 * pval (l.drop (off + m + 1)))) := by
  have h1 := pval_append (l.take off) (l.drop off)
  rw [List.take_append_drop, List.length_take, Nat.min_eq_left (by omega)] at h1
  have h2 := pval_append ((l.drop off).take m) ((l.drop off).drop m)
  rw [List.take_append_drop, List.length_take, List.length_drop, Nat.min_eq_left (by omega), List.drop_drop] at h2
  rw [h1, h2, pval_drop l (off + m) h]
theorem smN_take (off : Nat) (ys : List Nat) (f : Nat) (ts : List Nat) (k : Nat) : (smN off ys f ts k).1.take off = ts.take off := by
  induction k with
  | zero => rfl
  | succ k ih => simp only [smN]; rw [List.take_set_of_le (by omega), ih]
theorem smN_drop (off : Nat) (ys : List Nat) (f : Nat) (ts : List Nat) (k j : Nat) (h : off + k ≤ j) : (smN off ys f ts k).1.drop j = ts.drop j := by
  induction k with
  | zero => rfl
  | succ k ih => simp only [smN]; rw [List.drop_set_of_lt (by omega), ih (by omega)]
theorem amN_take (off : Nat) (ys : List Nat) (f : Nat) (ts : List Nat) (k : Nat) : (amN off ys f ts k).1.take off = ts.take off := by
  induction k with
  | zero => rfl
  | succ k ih => simp only [amN]; rw [List.take_set_of_le (by omega), ih]
theorem amN_drop (off : Nat) (ys : List Nat) (f : Nat) (ts : List Nat) (k j : Nat) (h : off + k ≤ j) : (amN off ys f ts k).1.drop j = ts.drop j := by
  induction k with
  | zero => rfl
  | succ k ih => simp only [amN]; rw [List.drop_set_of_lt (by omega), ih (by omega)]
/-- What subtracting a multiple does to the window. -/
theorem sm_window (off m f : Nat) (ys ts : List Nat) (hy : Limbs ys) (hf : f < B64) (ht : Limbs ts) (hm : ys.length = m) (h : off + m < ts.length) :
    pval (((smN off ys f ts m).1.drop off).take m) + f * pval ys = pval ((ts.drop off).take m) + B64 ^ m * (smN off ys f ts m).2 ∧ pval (((smN off ys f ts m).1.drop off).take m) < B64 ^ m := by
  have hv := smN_val off ys f ts hy hf ht m (by omega)
  have h1 := pval_window ts off m h
  have h2 := pval_window (smN off ys f ts m).1 off m (by rw [smN_length]; exact h)
  rw [smN_take, smN_drop off ys f ts m (off + m + 1) (by omega), smN_getD off ys f ts m (off + m) (.inr (Nat.le_refl _))] at h2
  rw [List.take_of_length_le (by omega)] at hv
  rw [h1, h2, Nat.pow_add, Nat.mul_assoc] at hv
  have hl := pval_lt (l := ((smN off ys f ts m).1.drop off).take m) fun x hx => (smN_ok off ys f ts hy hf ht m).1 x (List.mem_of_mem_drop (List.mem_of_mem_take hx))
  rw [List.length_take, List.length_drop, smN_length, Nat.min_eq_left (by omega)] at hl
  refine ⟨?_, hl⟩
  have hp : 0 < B64 ^ off := Nat.pow_pos B64_pos
  simp only [Nat.mul_add] at hv
  refine Nat.eq_of_mul_eq_mul_left hp ?_
  rw [Nat.mul_add, Nat.mul_add]
  omega
theorem digit_case {V W Wl D R q f bor wt Bm : Nat} (hV : V + f * D = Wl + Bm * bor) (hVl : V < Bm) (hW : W = Wl + Bm * wt) (hq : W = q * D + R) (hR : R < D) (hD : D < Bm) (hf : f = q ∨ f = q + 1) :
    (f = q → bor = wt ∧ V = R) ∧ (f = q + 1 → bor = wt + 1 ∧ V + D = Bm + R) := by
  constructor
  · rintro rfl
    have h1 : V + Bm * wt = R + Bm * bor := by omega
    have h2 : bor = wt := by
      rcases Nat.lt_trichotomy bor wt with h | h | h
      · have := Nat.mul_le_mul_left Bm (show bor + 1 ≤ wt from h); rw [Nat.mul_add, Nat.mul_one] at this; omega
      · exact h
      · have := Nat.mul_le_mul_left Bm (show wt + 1 ≤ bor from h); rw [Nat.mul_add, Nat.mul_one] at this; omega
    subst h2
    exact ⟨rfl, by omega⟩
  · rintro rfl
    rw [Nat.add_mul, Nat.one_mul] at hV
    have h1 : V + D + Bm * wt = R + Bm * bor := by omega
    have h2 : bor = wt + 1 := by
      rcases Nat.lt_trichotomy bor (wt + 1) with h | h | h
      · have := Nat.mul_le_mul_left Bm (show bor ≤ wt by omega); omega
      · exact h
      · have := Nat.mul_le_mul_left Bm (show wt + 2 ≤ bor from h); rw [Nat.mul_add] at this; omega
    subst h2
    rw [Nat.mul_add, Nat.mul_one] at h1
    exact ⟨rfl, by omega⟩

theorem slice_lo (A : Option Addr) (n c lo : Nat) (h1 : lo ≤ n) (h2 : n ≤ c) (w : World) :
    (Instr.slice 58 (.slice A n c) (some (.int .i64 (lo : Int))) none none).run Tryd.prog w = .ok (.slice (if c = lo then A else A.map (·.add lo)) (n - lo) (c - lo)) w := by
  have h := run_slice_l (P := Tryd.prog) (w := w) 58 A n c (by kernel_rfl) .i64 (lo : Int) (by omega) (by omega)
  rw [h]
  have e : Tryd.prog.elem 58 = 71 := by kernel_rfl
  rw [e, Tryd.sizeOf71]
  simp [Result.andThen, sliced]
theorem slice_hi (A : Option Addr) (n c hi : Nat) (h1 : hi ≤ c) (w : World) :
    (Instr.slice 58 (.slice A n c) none (some (.int .i64 (hi : Int))) none).run Tryd.prog w = .ok (.slice A hi c) w := by
  have h := run_slice_h (P := Tryd.prog) (w := w) 58 A n c (by kernel_rfl) .i64 (hi : Int) (by omega) (by omega)
  rw [h]
  have e : Tryd.prog.elem 58 = 71 := by kernel_rfl
  rw [e, Tryd.sizeOf71]
  simp [Result.andThen, sliced, Addr.add]
theorem addr_add (g off k : Nat) : (⟨g, off, none⟩ : Addr).add k = ⟨g, off + k, none⟩ := by
  unfold Addr.add
  by_cases h0 : k = 0 <;> simp [h0]
theorem RdA.cell0 {w : World} {g : Nat} {xs : List Nat} (h : RdA w (some ⟨g, 0, none⟩) xs) {k : Nat} (hk : k < xs.length) : g < w.heap.size ∧ w.cell? ⟨g, k, none⟩ = some (.int .u64 ((xs.getD k 0 : Nat) : Int)) := by
  obtain ⟨a, e, hb, hc⟩ := h k hk
  injection e with e
  subst e
  rw [addr_add, Nat.zero_add] at hc
  exact ⟨hb, hc⟩
/-- The guess, for the window and the divisor. -/
theorem gs3_near (ts ys : List Nat) (off m : Nat) (hm : ys.length = m) (h2 : 2 ≤ m) (h : off + m < ts.length) (lt : Limbs ts) (ly : Limbs ys) (htop : 9223372036854775808 ≤ ys.getD (m - 1) 0) (hW : pval ((ts.drop off).take (m + 1)) < pval ys * B64) :
    pval ((ts.drop off).take (m + 1)) / pval ys ≤ gs3 (ts.getD (off + m) 0) (ts.getD (off + (m - 1)) 0) (ts.getD (off + (m - 2)) 0) (ys.getD (m - 1) 0) (ys.getD (m - 2) 0) ∧
    gs3 (ts.getD (off + m) 0) (ts.getD (off + (m - 1)) 0) (ts.getD (off + (m - 2)) 0) (ys.getD (m - 1) 0) (ys.getD (m - 2) 0) ≤ pval ((ts.drop off).take (m + 1)) / pval ys + 1 ∧ gs3 (ts.getD (off + m) 0) (ts.getD (off + (m - 1)) 0) (ts.getD (off + (m - 2)) 0) (ys.getD (m - 1) 0) (ys.getD (m - 2) 0) < B64 := by
  obtain ⟨k, rfl⟩ : ∃ k, m = k + 2 := ⟨m - 2, by omega⟩
  have hg : ∀ j, j < k + 3 → ((ts.drop off).take (k + 3)).getD j 0 = ts.getD (off + j) 0 := fun j hj => by
    rw [List.getD_eq_getElem?_getD, List.getElem?_take_of_lt hj, List.getElem?_drop, ← List.getD_eq_getElem?_getD]
  have hwl : ((ts.drop off).take (k + 3)).length = k + 3 := by rw [List.length_take, List.length_drop, Nat.min_eq_left (by omega)]
  have hwq : Limbs ((ts.drop off).take (k + 3)) := fun x hx => lt x (List.mem_of_mem_drop (List.mem_of_mem_take hx))
  have g0 := hg k (by omega)
  have g1 := hg (k + 1) (by omega)
  have g2 := hg (k + 2) (by omega)
  change pval ((ts.drop off).take (k + 3)) < _ at hW
  change pval ((ts.drop off).take (k + 3)) / _ ≤ _ ∧ _ ≤ pval ((ts.drop off).take (k + 3)) / _ + 1 ∧ _
  generalize (ts.drop off).take (k + 3) = W at *
  have hWs : pval W = ((ts.getD (off + (k + 2)) 0 * B64 + ts.getD (off + (k + 1)) 0) * B64 + ts.getD (off + k) 0) * B64 ^ k + pval (W.take k) := by
    have e1 := pval_take_succ W (k + 2)
    have e2 := pval_take_succ W (k + 1)
    have e3 := pval_take_succ W k
    rw [List.take_of_length_le (by omega), g2] at e1
    rw [g1] at e2
    rw [g0] at e3
    have p1 : B64 ^ (k + 1) = B64 ^ k * B64 := Nat.pow_succ ..
    have p2 : B64 ^ (k + 2) = B64 ^ k * B64 * B64 := by rw [Nat.pow_succ, Nat.pow_succ]
    rw [e1, e2, e3, p1, p2]
    generalize B64 ^ k = P
    generalize pval (W.take k) = L
    generalize ts.getD (off + (k + 2)) 0 = w2
    generalize ts.getD (off + (k + 1)) 0 = w1
    generalize ts.getD (off + k) 0 = w0
    have a1 : P * w0 = w0 * P := by ac_rfl
    have a2 : P * B64 * w1 = w1 * B64 * P := by ac_rfl
    have a3 : P * B64 * B64 * w2 = w2 * B64 * B64 * P := by ac_rfl
    rw [a1, a2, a3, Nat.add_mul, Nat.add_mul, Nat.add_mul]
    omega
  have hYs : pval ys = (ys.getD (k + 1) 0 * B64 + ys.getD k 0) * B64 ^ k + pval (ys.take k) := by
    have e2 := pval_take_succ ys (k + 1)
    have e3 := pval_take_succ ys k
    rw [List.take_of_length_le (by omega)] at e2
    rw [e2, e3, Nat.pow_succ]
    generalize B64 ^ k = P
    generalize pval (ys.take k) = L
    generalize ys.getD (k + 1) 0 = d1
    generalize ys.getD k 0 = d0
    have a1 : P * d0 = d0 * P := by ac_rfl
    have a2 : P * B64 * d1 = d1 * B64 * P := by ac_rfl
    rw [a1, a2, Nat.add_mul]
    omega
  have hlo : pval (W.take k) < B64 ^ k := by
    have := pval_lt (l := W.take k) fun x hx => hwq x (List.mem_of_mem_take hx)
    rwa [List.length_take, hwl, Nat.min_eq_left (by omega)] at this
  have hdl : pval (ys.take k) < B64 ^ k := by
    have := pval_lt (l := ys.take k) fun x hx => ly x (List.mem_of_mem_take hx)
    rwa [List.length_take, hm, Nat.min_eq_left (by omega)] at this
  have hP : 0 < B64 ^ k := Nat.pow_pos B64_pos
  have b0 : ts.getD (off + k) 0 < B64 := lt.getD _
  have b1 : ts.getD (off + (k + 1)) 0 < B64 := lt.getD _
  have c0 : ys.getD k 0 < B64 := ly.getD _
  rw [show k + 2 - 1 = k + 1 from by omega] at htop ⊢
  rw [show k + 2 - 2 = k from by omega]
  clear hg hwl hwq g0 g1 g2
  generalize ts.getD (off + (k + 2)) 0 = w2 at *
  generalize ts.getD (off + (k + 1)) 0 = w1 at *
  generalize ts.getD (off + k) 0 = w0 at *
  generalize ys.getD (k + 1) 0 = d1 at *
  generalize ys.getD k 0 = d0 at *
  generalize pval (W.take k) = lo at *
  generalize pval (ys.take k) = dl at *
  generalize B64 ^ k = P at *
  unfold gs3
  by_cases hge : d1 ≤ w2
  · rw [if_pos hge]
    have e1 : pval ys = d1 * B64 * P + (d0 * P + dl) := by rw [hYs, Nat.add_mul]; omega
    have e2 : pval W = w2 * (B64 * B64) * P + ((w1 * B64 + w0) * P + lo) := by
      rw [hWs, Nat.add_mul, Nat.add_mul, Nat.add_mul, Nat.add_mul, Nat.mul_assoc w2 B64 B64]; omega
    have hdl2 : d0 * P + dl < B64 * P := by
      have : (d0 + 1) * P ≤ B64 * P := Nat.mul_le_mul_right _ c0
      rw [Nat.add_mul, Nat.one_mul] at this
      omega
    have h3 := guess_top hP e1 hdl2 e2 htop hge hW rfl
    exact ⟨h3.1, h3.2, by rw [B64_eq]; omega⟩
  · rw [if_neg hge]
    have hy : 0 < d1 * B64 + d0 := by rw [B64_eq]; omega
    have hdg : ((w2 * B64 + w1) * B64 + w0) / (d1 * B64 + d0) < B64 := by
      rw [Nat.div_lt_iff_lt_mul hy]
      have h3 : w2 * B64 + w1 < d1 * B64 := by
        have : (w2 + 1) * B64 ≤ d1 * B64 := Nat.mul_le_mul_right _ (by omega)
        rw [Nat.add_mul, Nat.one_mul] at this
        omega
      have h4 : (w2 * B64 + w1 + 1) * B64 ≤ d1 * B64 * B64 := Nat.mul_le_mul_right _ h3
      rw [Nat.add_mul, Nat.one_mul] at h4
      have h5 : d1 * B64 * B64 ≤ (d1 * B64 + d0) * B64 := Nat.mul_le_mul_right _ (by omega)
      rw [Nat.mul_comm B64]
      omega
    have h3 := guess_near (N3 := (w2 * B64 + w1) * B64 + w0) (y := d1 * B64 + d0) (P := P) (lo := lo) (dl := dl) hP hlo hdl hy rfl rfl (by rw [B64_eq] at *; omega)
    rw [← hWs, ← hYs] at h3
    exact ⟨h3.1, h3.2, hdg⟩
end Go.Proofs.YthbkgofpblganaaDoor
