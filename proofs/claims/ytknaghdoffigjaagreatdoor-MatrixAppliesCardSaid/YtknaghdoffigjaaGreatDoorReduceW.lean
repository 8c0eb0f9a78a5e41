import Derived.Test.YtknaghdoffigjaaGreatDoorShift
set_option linter.unusedSimpArgs false
set_option linter.unusedVariables false
set_option linter.unnecessarySimpa false
namespace Go.Proofs.YtknaghdoffigjaaGreatDoor
open Go.RowKit
/- The guess is the right digit, or one more. -/
theorem guess_near {N3 y P lo dl q dg : Nat} (hP : 0 < P) (hlo : lo < P) (hdl : dl < P) (hy : 0 < y) (hq : (N3 * P + lo) / (y * P + dl) = q) (hd : N3 / y = dg) (hdy : dg ≤ y + 1) : q ≤ dg ∧ dg ≤ q + 1 := by
 have hD : 0 < y * P + dl := by have := Nat.mul_pos hy hP; omega
 constructor
 ·have h1 : q * (y * P + dl) ≤ N3 * P + lo := by rw [← hq]; exact Nat.div_mul_le_self _ _
  have h2 : q * (y * P) ≤ q * (y * P + dl) := Nat.mul_le_mul_left _ (by omega)
  have h3 : q * y * P < (N3 + 1) * P := by rw [Nat.mul_assoc, Nat.add_mul]; omega
  have h4 := Nat.lt_of_mul_lt_mul_right h3
  rw [← hd, Nat.le_div_iff_mul_le hy]
  omega
 ·cases dg with
  | zero => omega
  | succ k =>
   have h1 : (k + 1) * y ≤ N3 := by rw [← hd]; exact Nat.div_mul_le_self _ _
   have h2 : k ≤ q := by
    rw [← hq, Nat.le_div_iff_mul_le hD]
    have h3 : k * (y * P + dl) ≤ k * (y * P + P) := Nat.mul_le_mul_left _ (by omega)
    have h4 : k * (y * P + P) = k * (y + 1) * P := by rw [Nat.mul_assoc, Nat.add_mul y 1 P, Nat.one_mul]
    have h5 : k * (y + 1) ≤ N3 := by
     rw [Nat.add_mul, Nat.one_mul] at h1
     rw [Nat.mul_add, Nat.mul_one]
     omega
    have h6 : k * (y + 1) * P ≤ N3 * P := Nat.mul_le_mul_right _ h5
    omega
   omega
theorem guess_top {W D P d1 w2 q x dl : Nat} (hP : 0 < P) (hD : D = d1 * B64 * P + dl) (hdl : dl < B64 * P) (hW : W = w2 * (B64 * B64) * P + x) (hd : 9223372036854775808 ≤ d1) (hw : d1 ≤ w2) (hlt : W < D * B64) (hq : W / D = q) : q ≤ 18446744073709551615 ∧ 18446744073709551615 ≤ q + 1 := by
 have hDp : 0 < D := by
  rw [hD]
  have : 0 < d1 * B64 * P := Nat.mul_pos (Nat.mul_pos (by omega) B64_pos) hP
  omega
 constructor
 ·have : q < B64 := by rw [← hq, Nat.div_lt_iff_lt_mul hDp, Nat.mul_comm]; exact hlt
  rw [B64_eq] at this
  omega
 ·have h1 : 18446744073709551614 ≤ q := by
   rw [← hq, Nat.le_div_iff_mul_le hDp]
   have h2 : 18446744073709551614 * D ≤ 18446744073709551614 * ((d1 + 1) * (B64 * P)) := Nat.mul_le_mul_left _ (by rw [hD, Nat.add_mul, Nat.mul_assoc]; omega)
   have h3 : 18446744073709551614 * (d1 + 1) ≤ d1 * B64 := by rw [B64_eq]; omega
   have h4 : 18446744073709551614 * (d1 + 1) * (B64 * P) ≤ d1 * B64 * (B64 * P) := Nat.mul_le_mul_right _ h3
   have h5 : d1 * (B64 * B64) * P ≤ w2 * (B64 * B64) * P := Nat.mul_le_mul_right _ (Nat.mul_le_mul_right _ hw)
   have e1 : d1 * B64 * (B64 * P) = d1 * (B64 * B64) * P := by rw [Nat.mul_assoc, Nat.mul_assoc, Nat.mul_assoc]
   rw [e1, Nat.mul_assoc] at h4
   omega
  omega
/- The parts of a block of digits. -/
theorem pval_window (l : List Nat) (off m : Nat) (h : off + m < l.length) : pval l = pval (l.take off) + B64 ^ off * (pval ((l.drop off).take m) + B64 ^ m * (l.getD (off + m) 0 + B64 * pval (l.drop (off + m + 1)))) := by
 have h1 := pval_append (l.take off) (l.drop off)
 rw [List.take_append_drop, List.length_take, Nat.min_eq_left (by omega)] at h1
 have h2 := pval_append ((l.drop off).take m) ((l.drop off).drop m)
 rw [List.take_append_drop, List.length_take, List.length_drop, Nat.min_eq_left (by omega), List.drop_drop] at h2
 rw [h1, h2, pval_drop l (off + m) h]
theorem smN_take (off : Nat) (ys : List Nat) (f : Nat) (ts : List Nat) (k : Nat) : (smN off ys f ts k).1.take off = ts.take off := by
 induction k with
 | zero => rfl
 | succ k ih => simp only [smN]; rw [List.take_set_of_le (by omega), ih]
theorem smN_drop (off : Nat) (ys : List Nat) (f : Nat) (ts : List Nat) (k j : Nat) (h : off + k ≤ j) : (smN off ys f ts k).1.drop j = ts.drop j := by
 induction k with
 | zero => rfl
 | succ k ih => simp only [smN]; rw [List.drop_set_of_lt (by omega), ih (by omega)]
theorem amN_take (off : Nat) (ys : List Nat) (f : Nat) (ts : List Nat) (k : Nat) : (amN off ys f ts k).1.take off = ts.take off := by
 induction k with
 | zero => rfl
 | succ k ih => simp only [amN]; rw [List.take_set_of_le (by omega), ih]
theorem amN_drop (off : Nat) (ys : List Nat) (f : Nat) (ts : List Nat) (k j : Nat) (h : off + k ≤ j) : (amN off ys f ts k).1.drop j = ts.drop j := by
 induction k with
 | zero => rfl
 | succ k ih => simp only [amN]; rw [List.drop_set_of_lt (by omega), ih (by omega)]
theorem sm_window (off m f : Nat) (ys ts : List Nat) (hy : Limbs ys) (hf : f < B64) (ht : Limbs ts) (hm : ys.length = m) (h : off + m < ts.length) :
  pval (((smN off ys f ts m).1.drop off).take m) + f * pval ys = pval ((ts.drop off).take m) + B64 ^ m * (smN off ys f ts m).2 ∧ pval (((smN off ys f ts m).1.drop off).take m) < B64 ^ m := by
 have hv := smN_val off ys f ts hy hf ht m (by omega)
 have h1 := pval_window ts off m h
 have h2 := pval_window (smN off ys f ts m).1 off m (by rw [smN_length]; exact h)
 rw [smN_take, smN_drop off ys f ts m (off + m + 1) (by omega), smN_getD off ys f ts m (off + m) (.inr (Nat.le_refl _))] at h2
 rw [List.take_of_length_le (by omega)] at hv
 rw [h1, h2, Nat.pow_add, Nat.mul_assoc] at hv
 have hl := pval_lt (l := ((smN off ys f ts m).1.drop off).take m) fun x hx => (smN_ok off ys f ts hy hf ht m).1 x (List.mem_of_mem_drop (List.mem_of_mem_take hx))
 rw [List.length_take, List.length_drop, smN_length, Nat.min_eq_left (by omega)] at hl
 refine ⟨?_, hl⟩
 have hp : 0 < B64 ^ off := Nat.pow_pos B64_pos
 simp only [Nat.mul_add] at hv
 refine Nat.eq_of_mul_eq_mul_left hp ?_
 rw [Nat.mul_add, Nat.mul_add]
 omega
theorem digit_case {V W Wl D R q f bor wt Bm : Nat} (hV : V + f * D = Wl + Bm * bor) (hVl : V < Bm) (hW : W = Wl + Bm * wt) (hq : W = q * D + R) (hR : R < D) (hD : D < Bm) (hf : f = q ∨ f = q + 1) :
  (f = q → bor = wt ∧ V = R) ∧ (f = q + 1 → bor = wt + 1 ∧ V + D = Bm + R) := by
 constructor
 ·rintro rfl
  have h1 : V + Bm * wt = R + Bm * bor := by omega
  have h2 : bor = wt := by
   rcases Nat.lt_trichotomy bor wt with h | h | h
   ·have := Nat.mul_le_mul_left Bm (show bor + 1 ≤ wt from h); rw [Nat.mul_add, Nat.mul_one] at this; omega
   ·exact h
   ·have := Nat.mul_le_mul_left Bm (show wt + 1 ≤ bor from h); rw [Nat.mul_add, Nat.mul_one] at this; omega
  subst h2
  exact ⟨rfl, by omega⟩
 ·rintro rfl
  rw [Nat.add_mul, Nat.one_mul] at hV
  have h1 : V + D + Bm * wt = R + Bm * bor := by omega
  have h2 : bor = wt + 1 := by
   rcases Nat.lt_trichotomy bor (wt + 1) with h | h | h
   ·have := Nat.mul_le_mul_left Bm (show bor ≤ wt by omega); omega
   ·exact h
   ·have := Nat.mul_le_mul_left Bm (show wt + 2 ≤ bor from h); rw [Nat.mul_add] at this; omega
  subst h2
  rw [Nat.mul_add, Nat.mul_one] at h1
  exact ⟨rfl, by omega⟩
theorem slice_lo (A : Option Addr) (n c lo : Nat) (h1 : lo ≤ n) (h2 : n ≤ c) (w : World) :
  (Instr.slice 109 (.slice A n c) (some (.int .i64 (lo : Int))) none none).run Tryz.prog w = .ok (.slice (if c = lo then A else A.map (·.add lo)) (n - lo) (c - lo)) w := by
 have h := run_slice_l (P := Tryz.prog) (w := w) 109 A n c (by kernel_rfl) .i64 (lo : Int) (by omega) (by omega)
 rw [h]
 have e : Tryz.prog.elem 109 = 80 := by kernel_rfl
 rw [e, Tryz.sizeOf80]
 simp [Result.andThen, sliced]
theorem slice_hi (A : Option Addr) (n c hi : Nat) (h1 : hi ≤ c) (w : World) :
  (Instr.slice 109 (.slice A n c) none (some (.int .i64 (hi : Int))) none).run Tryz.prog w = .ok (.slice A hi c) w := by
 have h := run_slice_h (P := Tryz.prog) (w := w) 109 A n c (by kernel_rfl) .i64 (hi : Int) (by omega) (by omega)
 rw [h]
 have e : Tryz.prog.elem 109 = 80 := by kernel_rfl
 rw [e, Tryz.sizeOf80]
 simp [Result.andThen, sliced, Addr.add]
theorem addr_add (g off k : Nat) : (⟨g, off, none⟩ : Addr).add k = ⟨g, off + k, none⟩ := by
 unfold Addr.add
 by_cases h0 : k = 0 <;> simp [h0]
theorem RdA.cell0 {w : World} {g : Nat} {xs : List Nat} (h : RdA w (some ⟨g, 0, none⟩) xs) {k : Nat} (hk : k < xs.length) : g < w.heap.size ∧ w.cell? ⟨g, k, none⟩ = some (.int .u64 ((xs.getD k 0 : Nat) : Int)) := by
 obtain ⟨a, e, hb, hc⟩ := h k hk
 injection e with e
 subst e
 rw [addr_add, Nat.zero_add] at hc
 exact ⟨hb, hc⟩
theorem gs3_near (ts ys : List Nat) (off m : Nat) (hm : ys.length = m) (h2 : 2 ≤ m) (h : off + m < ts.length) (lt : Limbs ts) (ly : Limbs ys) (htop : 9223372036854775808 ≤ ys.getD (m - 1) 0) (hW : pval ((ts.drop off).take (m + 1)) < pval ys * B64) :
  pval ((ts.drop off).take (m + 1)) / pval ys ≤ gs3 (ts.getD (off + m) 0) (ts.getD (off + (m - 1)) 0) (ts.getD (off + (m - 2)) 0) (ys.getD (m - 1) 0) (ys.getD (m - 2) 0) ∧
  gs3 (ts.getD (off + m) 0) (ts.getD (off + (m - 1)) 0) (ts.getD (off + (m - 2)) 0) (ys.getD (m - 1) 0) (ys.getD (m - 2) 0) ≤ pval ((ts.drop off).take (m + 1)) / pval ys + 1 ∧ gs3 (ts.getD (off + m) 0) (ts.getD (off + (m - 1)) 0) (ts.getD (off + (m - 2)) 0) (ys.getD (m - 1) 0) (ys.getD (m - 2) 0) < B64 := by
 obtain ⟨k, rfl⟩ : ∃ k, m = k + 2 := ⟨m - 2, by omega⟩
 have hg : ∀ j, j < k + 3 → ((ts.drop off).take (k + 3)).getD j 0 = ts.getD (off + j) 0 := fun j hj => by
  rw [List.getD_eq_getElem?_getD, List.getElem?_take_of_lt hj, List.getElem?_drop, ← List.getD_eq_getElem?_getD]
 have hwl : ((ts.drop off).take (k + 3)).length = k + 3 := by rw [List.length_take, List.length_drop, Nat.min_eq_left (by omega)]
 have hwq : Limbs ((ts.drop off).take (k + 3)) := fun x hx => lt x (List.mem_of_mem_drop (List.mem_of_mem_take hx))
 have g0 := hg k (by omega)
 have g1 := hg (k + 1) (by omega)
 have g2 := hg (k + 2) (by omega)
 change pval ((ts.drop off).take (k + 3)) < _ at hW
 change pval ((ts.drop off).take (k + 3)) / _ ≤ _ ∧ _ ≤ pval ((ts.drop off).take (k + 3)) / _ + 1 ∧ _
 generalize (ts.drop off).take (k + 3) = W at *
 have hWs : pval W = ((ts.getD (off + (k + 2)) 0 * B64 + ts.getD (off + (k + 1)) 0) * B64 + ts.getD (off + k) 0) * B64 ^ k + pval (W.take k) := by
  have e1 := pval_take_succ W (k + 2)
  have e2 := pval_take_succ W (k + 1)
  have e3 := pval_take_succ W k
  rw [List.take_of_length_le (by omega), g2] at e1
  rw [g1] at e2
  rw [g0] at e3
  have p1 : B64 ^ (k + 1) = B64 ^ k * B64 := Nat.pow_succ ..
  have p2 : B64 ^ (k + 2) = B64 ^ k * B64 * B64 := by rw [Nat.pow_succ, Nat.pow_succ]
  rw [e1, e2, e3, p1, p2]
  generalize B64 ^ k = P
  generalize pval (W.take k) = L
  generalize ts.getD (off + (k + 2)) 0 = w2
  generalize ts.getD (off + (k + 1)) 0 = w1
  generalize ts.getD (off + k) 0 = w0
  have a1 : P * w0 = w0 * P := by ac_rfl
  have a2 : P * B64 * w1 = w1 * B64 * P := by ac_rfl
  have a3 : P * B64 * B64 * w2 = w2 * B64 * B64 * P := by ac_rfl
  rw [a1, a2, a3, Nat.add_mul, Nat.add_mul, Nat.add_mul]
  omega
 have hYs : pval ys = (ys.getD (k + 1) 0 * B64 + ys.getD k 0) * B64 ^ k + pval (ys.take k) := by
  have e2 := pval_take_succ ys (k + 1)
  have e3 := pval_take_succ ys k
  rw [List.take_of_length_le (by omega)] at e2
  rw [e2, e3, Nat.pow_succ]
  generalize B64 ^ k = P
  generalize pval (ys.take k) = L
  generalize ys.getD (k + 1) 0 = d1
  generalize ys.getD k 0 = d0
  have a1 : P * d0 = d0 * P := by ac_rfl
  have a2 : P * B64 * d1 = d1 * B64 * P := by ac_rfl
  rw [a1, a2, Nat.add_mul]
  omega
 have hlo : pval (W.take k) < B64 ^ k := by
  have := pval_lt (l := W.take k) fun x hx => hwq x (List.mem_of_mem_take hx)
  rwa [List.length_take, hwl, Nat.min_eq_left (by omega)] at this
 have hdl : pval (ys.take k) < B64 ^ k := by
  have := pval_lt (l := ys.take k) fun x hx => ly x (List.mem_of_mem_take hx)
  rwa [List.length_take, hm, Nat.min_eq_left (by omega)] at this
 have hP : 0 < B64 ^ k := Nat.pow_pos B64_pos
 have b0 : ts.getD (off + k) 0 < B64 := lt.getD _
 have b1 : ts.getD (off + (k + 1)) 0 < B64 := lt.getD _
 have c0 : ys.getD k 0 < B64 := ly.getD _
 rw [show k + 2 - 1 = k + 1 from by omega] at htop ⊢
 rw [show k + 2 - 2 = k from by omega]
 clear hg hwl hwq g0 g1 g2
 generalize ts.getD (off + (k + 2)) 0 = w2 at *
 generalize ts.getD (off + (k + 1)) 0 = w1 at *
 generalize ts.getD (off + k) 0 = w0 at *
 generalize ys.getD (k + 1) 0 = d1 at *
 generalize ys.getD k 0 = d0 at *
 generalize pval (W.take k) = lo at *
 generalize pval (ys.take k) = dl at *
 generalize B64 ^ k = P at *
 unfold gs3
 by_cases hge : d1 ≤ w2
 ·rw [if_pos hge]
  have e1 : pval ys = d1 * B64 * P + (d0 * P + dl) := by rw [hYs, Nat.add_mul]; omega
  have e2 : pval W = w2 * (B64 * B64) * P + ((w1 * B64 + w0) * P + lo) := by
   rw [hWs, Nat.add_mul, Nat.add_mul, Nat.add_mul, Nat.add_mul, Nat.mul_assoc w2 B64 B64]; omega
  have hdl2 : d0 * P + dl < B64 * P := by
   have : (d0 + 1) * P ≤ B64 * P := Nat.mul_le_mul_right _ c0
   rw [Nat.add_mul, Nat.one_mul] at this
   omega
  have h3 := guess_top hP e1 hdl2 e2 htop hge hW rfl
  exact ⟨h3.1, h3.2, by rw [B64_eq]; omega⟩
 ·rw [if_neg hge]
  have hy : 0 < d1 * B64 + d0 := by rw [B64_eq]; omega
  have hdg : ((w2 * B64 + w1) * B64 + w0) / (d1 * B64 + d0) < B64 := by
   rw [Nat.div_lt_iff_lt_mul hy]
   have h3 : w2 * B64 + w1 < d1 * B64 := by
    have : (w2 + 1) * B64 ≤ d1 * B64 := Nat.mul_le_mul_right _ (by omega)
    rw [Nat.add_mul, Nat.one_mul] at this
    omega
   have h4 : (w2 * B64 + w1 + 1) * B64 ≤ d1 * B64 * B64 := Nat.mul_le_mul_right _ h3
   rw [Nat.add_mul, Nat.one_mul] at h4
   have h5 : d1 * B64 * B64 ≤ (d1 * B64 + d0) * B64 := Nat.mul_le_mul_right _ (by omega)
   rw [Nat.mul_comm B64]
   omega
  have h3 := guess_near (N3 := (w2 * B64 + w1) * B64 + w0) (y := d1 * B64 + d0) (P := P) (lo := lo) (dl := dl) hP hlo hdl hy rfl rfl (by rw [B64_eq] at *; omega)
  rw [← hWs, ← hYs] at h3
  exact ⟨h3.1, h3.2, hdg⟩
theorem grown_trans {a b c : World} {g : Nat} (h : a.grownBy b (some g)) (k : b.grownBy c (some g)) : a.grownBy c (some g) :=
 ⟨k.os.trans h.os, k.tape.trans h.tape, k.output.trans h.output, Nat.le_trans h.size k.size, fun i hi hne => (k.block i (Nat.lt_of_lt_of_le hi h.size) hne).trans (h.block i hi hne)⟩
theorem grown_drew {a b : World} {g : Nat} (h : a.grownBy b (some g)) : a.grownBy b.drew (some g) := ⟨h.os, h.tape, h.output, h.size, h.block⟩
theorem Limbs.take {l : List Nat} (h : Limbs l) (n : Nat) : Limbs (l.take n) := fun x hx => h x (List.mem_of_mem_take hx)
theorem am_window (off m : Nat) (ys ts : List Nat) (hy : Limbs ys) (ht : Limbs ts) (hm : ys.length = m) (h : off + m < ts.length) :
  pval (((amN off ys 1 ts m).1.drop off).take m) + B64 ^ m * (amN off ys 1 ts m).2 = pval ((ts.drop off).take m) + pval ys ∧ pval (((amN off ys 1 ts m).1.drop off).take m) < B64 ^ m := by
 have hv := amN_val off ys 1 ts m (by omega)
 have h1 := pval_window ts off m h
 have h2 := pval_window (amN off ys 1 ts m).1 off m (by rw [amN_length]; exact h)
 rw [amN_take, amN_drop off ys 1 ts m (off + m + 1) (by omega), amN_getD off ys 1 ts m (off + m) (.inr (Nat.le_refl _))] at h2
 rw [List.take_of_length_le (by omega), Nat.one_mul] at hv
 rw [h1, h2, Nat.pow_add, Nat.mul_assoc] at hv
 have hl := pval_lt (l := ((amN off ys 1 ts m).1.drop off).take m) fun x hx => (amN_ok off ys 1 ts hy (by rw [B64_eq]; omega) ht m).1 x (List.mem_of_mem_drop (List.mem_of_mem_take hx))
 rw [List.length_take, List.length_drop, amN_length, Nat.min_eq_left (by omega)] at hl
 refine ⟨?_, hl⟩
 have hp : 0 < B64 ^ off := Nat.pow_pos B64_pos
 simp only [Nat.mul_add] at hv
 refine Nat.eq_of_mul_eq_mul_left hp ?_
 rw [Nat.mul_add, Nat.mul_add]
 omega
theorem back_carry {V D Va c Bm R : Nat} (h1 : Va + Bm * c = V + D) (h2 : V + D = Bm + R) (hR : R < Bm) (hV : Va < Bm) : c = 1 := by
 rcases Nat.lt_trichotomy c 1 with h | h | h
 ·have : c = 0 := by omega
  subst this
  omega
 ·exact h
 ·have := Nat.mul_le_mul_left Bm (show 2 ≤ c from h)
  omega
set_option maxRecDepth 100000 in
set_option maxHeartbeats 8000000 in
theorem reduce_any (g gd off m cW cD : Nat) (ts ys : List Nat) (w0 w : World) (hn : ys.length = m) (h2 : 2 ≤ m) (hL : Lst w g ts) (hlt : off + m < ts.length)
  (hy : RdA w0 (some ⟨gd, 0, none⟩) ys) (hw : Below w0.heap.size w0 w) (hg : w0.heap.size ≤ g) (ly : Limbs ys) (lt : Limbs ts) (htop : 9223372036854775808 ≤ ys.getD (m - 1) 0)
  (hW : pval ((ts.drop off).take (m + 1)) < pval ys * B64) (hcW : m + 1 ≤ cW) (hcD : m ≤ cD) (hcm : cW ≤ 1099511627776) (hcd : cD ≤ 1099511627776) (hoff : off ≤ 1099511627776) :
  Calls Tryz.prog 160 #[.slice (some ⟨g, off, none⟩) (m + 1) cW, .slice (some ⟨gd, 0, none⟩) m cD] w fun e w' =>
   e = .returned (.int .u64 ((pval ((ts.drop off).take (m + 1)) / pval ys : Nat) : Int)) ∧ (∃ ts', ts'.length = ts.length ∧ Limbs ts' ∧ pval ts' + B64 ^ off * (pval ((ts.drop off).take (m + 1)) / pval ys * pval ys) = pval ts ∧ Lst w' g ts') ∧ w.grownBy w' (some g) := by
 have hgs := gs3_near ts ys off m hn h2 hlt lt ly htop hW
 obtain ⟨q, hq⟩ : ∃ q, pval ((ts.drop off).take (m + 1)) / pval ys = q := ⟨_, rfl⟩
 rw [hq] at hgs ⊢
 have hD0 : 0 < pval ys := by
  refine Nat.pos_of_ne_zero fun h => ?_
  rw [h] at hW
  omega
 have hDl : pval ys < B64 ^ m := by
  have := pval_lt ly
  rwa [hn] at this
 have hwin : pval ((ts.drop off).take (m + 1)) = pval ((ts.drop off).take m) + B64 ^ m * ts.getD (off + m) 0 := by
  have := pval_take_succ (ts.drop off) m
  rw [List.getD_eq_getElem?_getD, List.getElem?_drop, ← List.getD_eq_getElem?_getD] at this
  exact this
 have hdm := Nat.div_add_mod (pval ((ts.drop off).take (m + 1))) (pval ys)
 have hRl := Nat.mod_lt (pval ((ts.drop off).take (m + 1))) hD0
 rw [hq, Nat.mul_comm] at hdm
 have hcl := fun k hk => hL.cell (k := k) hk
 have hyc := fun k (hk : k < m) => hy.cell0 (k := k) (by rw [hn]; exact hk)
 have hgw : g < w.heap.size := hL.lt
 have hgdw : gd < w.heap.size := Nat.lt_of_lt_of_le (hyc 0 (by omega)).1 hw.size
 have hgu := Lib.hid (fun (W : World) (hbW : Below w.heap.size w W) => guess_any g (off + (m - 2)) gd (m - 2) (cW - (m - 2)) (cD - (m - 2)) (ts.getD (off + m) 0) (ts.getD (off + (m - 1)) 0) (ts.getD (off + (m - 2)) 0) (ys.getD (m - 1) 0) (ys.getD (m - 2) 0) W
  (Nat.lt_of_lt_of_le hgw hbW.size) (Nat.lt_of_lt_of_le hgdw hbW.size)
  ((hbW.cell (p := ⟨g, off + (m - 2), none⟩) hgw).trans (hcl _ (by omega)))
  ((hbW.cell (p := ⟨g, off + (m - 2) + 1, none⟩) hgw).trans (by rw [show off + (m - 2) + 1 = off + (m - 1) from by omega]; exact hcl _ (by omega)))
  ((hbW.cell (p := ⟨g, off + (m - 2) + 2, none⟩) hgw).trans (by rw [show off + (m - 2) + 2 = off + m from by omega]; exact hcl _ (by omega)))
  ((hbW.cell (p := ⟨gd, m - 2, none⟩) hgdw).trans ((hw.cell (p := ⟨gd, m - 2, none⟩) (hyc 0 (by omega)).1).trans (hyc _ (by omega)).2))
  ((hbW.cell (p := ⟨gd, m - 2 + 1, none⟩) hgdw).trans (by rw [show m - 2 + 1 = m - 1 from by omega]; exact (hw.cell (p := ⟨gd, m - 1, none⟩) (hyc 0 (by omega)).1).trans (hyc _ (by omega)).2))
  (lt.getD _) (lt.getD _) (lt.getD _) (ly.getD _) (ly.getD _) htop)
 obtain ⟨f, hf⟩ : ∃ f, gs3 (ts.getD (off + m) 0) (ts.getD (off + (m - 1)) 0) (ts.getD (off + (m - 2)) 0) (ys.getD (m - 1) 0) (ys.getD (m - 2) 0) = f := ⟨_, rfl⟩
 rw [hf] at hgs
 rw [hf] at hgu
 obtain ⟨hf1, hf2, hfB⟩ := hgs
 have hsw := sm_window off m f ys ts ly hfB lt hn hlt
 have hsv := smN_val off ys f ts ly hfB lt m (by omega)
 have hsok := smN_ok off ys f ts ly hfB lt m
 have hsl := smN_length off ys f ts m
 have hsg := smN_getD off ys f ts m (off + m) (.inr (Nat.le_refl _))
 rw [List.take_of_length_le (by omega)] at hsv
 have hdc := And.intro (digit_case hsw.1 hsw.2 hwin hdm.symm hRl hDl (by omega)) (Nat.lt_trans hRl hDl)
 have hsu := Lib.hid (fun (W : World) (hbW : Below w.heap.size w W) => subtractMultiple_any (some ⟨g, off, none⟩) (some ⟨gd, 0, none⟩) m cW cD g off f ts ys w0 W hn (fun _ => rfl) (hL.below hbW hgw) (by omega) hy (hw.trans (hbW.mono hw.size)) hg ly lt hfB (by omega))
 have hwt : ts.getD (off + m) 0 < B64 := lt.getD _
 have hyw := Lib.hid hy
 have Hw := Lib.hid hw
 have hm2 : (m : Int) - 2 = ((m - 2 : Nat) : Int) := by omega
 have sl1 := slice_lo (some ⟨g, off, none⟩) (m + 1) cW (m - 2) (by omega) (by omega)
 have sl2 := slice_lo (some ⟨gd, 0, none⟩) m cD (m - 2) (by omega) (by omega)
 rw [if_neg (by omega), Option.map_some, addr_add, show m + 1 - (m - 2) = 3 from by omega, ← hm2] at sl1
 rw [if_neg (by omega), Option.map_some, addr_add, Nat.zero_add, show m - (m - 2) = 2 from by omega, ← hm2] at sl2
 have sl3 := slice_hi (some ⟨g, off, none⟩) (m + 1) cW m (by omega)
 have hw2 : IntKind.i64.wrap ((m : Int) - 2) = (m : Int) - 2 := IntWalk.i64_in _ (by omega)
 clear hcl hyc hf hwin hdm hRl hDl hD0 hq hW htop hm2 hy hw
 generalize ts.getD (off + m) 0 = wt at *
 have HDC := Lib.hid hdc
 have HSV := Lib.hid hsv
 have HSW := Lib.hid hsw
 have HSG := Lib.hid hsg
 have HSL := Lib.hid hsl
 have HSOK := Lib.hid hsok
 clear hdc hsv hsw hsg hsl hsok
 go_enter Tryz.func160, Tryz.ntmps160
 go_wp2_with fail
 go_region_held3 (fun w' => True) (first | trivial)
  (first
   | (go_at_call 164; (with_reducible refine (hgu.out _ (by first | exact Below.refl _ _ | exact (Below.refl _ _).drew)).mono ?_); rintro e w1 ⟨rfl, hb1⟩))
 have hB1 : Below w.heap.size w w1 := by
  first
   | exact hb1
   | exact ((Below.refl w.heap.size w).drew).trans hb1
 have hsu1 := Lib.hid (hsu.out w1 hB1)
 have HB1 := Lib.hid hB1
 clear hb1 hsu hgu hB1
 go_wp2_with fail
 with_reducible refine hsu1.out.mono ?_
 rintro e w2 ⟨rfl, hL2, hG2⟩
 have hG : w.grownBy w2 (some g) := by
  have h1 : w.grownBy w1 (some g) := grown_below (World.grownBy.refl w (some g)) HB1.out
  exact grown_trans h1 hG2
 have hlen2 : (smN off ys f ts m).1.length = ts.length := HSL.out
 have hcell := hL2.cell (k := off + m) (by omega)
 have hfr := hL2.frozen (off + m)
 rw [HSG.out] at hcell
 have HG := Lib.hid hG
 have HL2 := Lib.hid hL2
 have Hlen2 := Lib.hid hlen2
 obtain ⟨bor, hbor⟩ : ∃ b, (smN off ys f ts m).2 = b := ⟨_, rfl⟩
 obtain ⟨sm, hsm⟩ : ∃ s, (smN off ys f ts m).1 = s := ⟨_, rfl⟩
 rw [hbor] at HDC HSV HSOK ⊢
 rw [hsm] at HDC HSV HSG HSL HSOK HL2 Hlen2 HSW
 have HBOR := Lib.hid hbor
 clear hsu1 hL2 hG2 hG hbor hsm hlen2
 have hslen : sm.length = ts.length := HSL.out
 by_cases hfq : f = q
 ·have hd := HDC.out.1.1 hfq
  have hbw : bor = wt := hd.1
  have hL3 := HL2.out.set (off + m) 0
  have hsv3 := pval_set sm (off + m) 0 (by omega)
  rw [HSG.out, Nat.mul_zero, Nat.add_zero] at hsv3
  have hnew := Lib.hid (show pval (sm.set (off + m) 0) + B64 ^ off * (q * pval ys) = pval ts by
   have h1 := HSV.out
   rw [hbw, hfq] at h1
   omega)
  have HL3 := Lib.hid hL3
  have hlm := HSOK.out.1.set (off + m) 0 B64_pos
  have hG3 : w.grownBy (w2.setCell ⟨g, off + m, none⟩ (.int .u64 ((0 : Nat) : Int))) (some g) := grownBy_setRow HG.out rfl _
  have HG3 := Lib.hid hG3
  have hgt : ¬ (wt : Int) < (bor : Int) := by omega
  clear hd hL3 hsv3 hG3
  subst hfq
  go_wp2
  go_ret
  exact ⟨rfl, ⟨_, by rw [List.length_set]; exact hslen, hlm, hnew.out, HL3.out⟩, HG3.out⟩
 ·have hfq1 : f = q + 1 := by omega
  have hd := HDC.out.1.2 hfq1
  have hbw : bor = wt + 1 := hd.1
  have hav := amN_val off ys 1 sm m (by omega)
  have haok := amN_ok off ys 1 sm ly (by rw [B64_eq]; omega) HSOK.out.1 m
  have hal := amN_length off ys 1 sm m
  have hag := amN_getD off ys 1 sm m (off + m) (.inr (Nat.le_refl _))
  rw [List.take_of_length_le (by omega), Nat.one_mul] at hav
  have hB2w : Below w0.heap.size w0 w2 := Hw.out.grown HG.out Hw.out.size (by intro j hj; injection hj with hj; omega)
  have ham := Lib.hid (by
   have h := addMultiple_any (some ⟨g, off, none⟩) (some ⟨gd, 0, none⟩) m cW cD g off 1 sm ys w0 w2 hn (fun _ => rfl) HL2.out (by omega) hyw.out hB2w hg ly HSOK.out.1 (by rw [B64_eq]; omega) (by omega)
   rw [show ((1 : Nat) : Int) = 1 from rfl] at h
   exact h)
  have hwq : IntKind.u64.wrap (q : Int) = (q : Int) := IntWalk.u64_in _ (by rw [B64_eq] at hfB; omega)
  have hgt : (wt : Int) < (bor : Int) := by omega
  have hfI : (f : Int) - 1 = (q : Int) := by omega
  have haw := am_window off m ys sm ly HSOK.out.1 hn (by omega)
  have hca : (amN off ys 1 sm m).2 = 1 := back_carry haw.1 hd.2 HDC.out.2 haw.2
  rw [hca, Nat.mul_one] at hav
  rw [HSG.out] at hag
  have hps := pval_set (amN off ys 1 sm m).1 (off + m) 0 (by omega)
  rw [hag, Nat.mul_zero, Nat.add_zero] at hps
  have hnew := Lib.hid (show pval ((amN off ys 1 sm m).1.set (off + m) 0) + B64 ^ off * (q * pval ys) = pval ts by
   have h1 := HSV.out
   rw [hbw, hfq1, Nat.add_mul, Nat.one_mul, Nat.mul_add, Nat.mul_add, Nat.mul_one] at h1
   omega)
  have hlm := haok.1.set (off + m) 0 B64_pos
  have HAG := Lib.hid hag
  have HAL := Lib.hid (hal.trans hslen)
  obtain ⟨am, hame⟩ : ∃ s, (amN off ys 1 sm m).1 = s := ⟨_, rfl⟩
  rw [hame] at HAG HAL hnew ham hlm
  clear hd hav haok hal hag haw hca hps hame hB2w
  go_wp2_with fail
  with_reducible refine ham.out.mono ?_
  rintro e w3 ⟨rfl, hL3, hG3⟩
  have hcell3 := hL3.cell (k := off + m) (by rw [HAL.out]; omega)
  have hfr3 := hL3.frozen (off + m)
  rw [HAG.out] at hcell3
  have hG3' := grown_trans HG.out hG3
  have HL4 := Lib.hid (hL3.set (off + m) 0)
  have HG4 := Lib.hid (grownBy_setRow (p := ⟨g, off + m, none⟩) (u := .int .u64 ((0 : Nat) : Int)) hG3' rfl)
  clear hL3 hG3 hG3' ham
  go_wp2
  go_ret
  exact ⟨rfl, ⟨_, by rw [List.length_set]; exact HAL.out, hlm, hnew.out, HL4.out⟩, HG4.out⟩
end Go.Proofs.YtknaghdoffigjaaGreatDoor
