/-
  The contract of wide.Add.
-/
import Derived.Test.YtgadnianjhaeiaaDoorCmp
import Derived.Deep.RegionHeld3
namespace Go.Proofs.YtgadnianjhaeiaaDoor
open Go.RowKit

theorem limbs_length_le {n k : Nat} (h : n < B64 ^ k) : (limbs n).length ≤ k := by
  induction k generalizing n with
  | zero => obtain rfl : n = 0 := by simp at h; omega
            simp [limbs_zero]
  | succ k ih =>
    by_cases h0 : n = 0
    · subst h0; simp [limbs_zero]
    · rw [limbs_step n h0, List.length_cons]
      have := ih (n := n / B64) (by rw [Nat.pow_succ] at h; rwa [Nat.div_lt_iff_lt_mul B64_pos])
      omega
theorem limbs_length_mono {m n : Nat} (h : m ≤ n) : (limbs m).length ≤ (limbs n).length := by
  refine limbs_length_le (Nat.lt_of_le_of_lt h ?_)
  have := pval_lt (limbs_limbs n)
  rwa [pval_limbs] at this
theorem bval_limbs_length (s : ByteArray) (k : Nat) (h : s.size ≤ 8 * k) : (limbs (bval s.data.toList)).length ≤ k := by
  refine limbs_length_le ?_
  have h1 := bval_lt s.data.toList
  rw [B64_pow, ← Nat.pow_mul]
  exact Nat.lt_of_lt_of_le h1 (Nat.pow_le_pow_right (by omega) (by rw [← Lib.size_eq]; exact h))
theorem limbs_add_length {m n k : Nat} (hm : (limbs m).length ≤ k) (hn : (limbs n).length ≤ k) : (limbs (m + n)).length ≤ k + 1 := by
  refine limbs_length_le ?_
  have h1 := pval_lt (limbs_limbs m)
  have h2 := pval_lt (limbs_limbs n)
  rw [pval_limbs] at h1 h2
  have e1 : B64 ^ (limbs m).length ≤ B64 ^ k := Nat.pow_le_pow_right B64_pos hm
  have e2 : B64 ^ (limbs n).length ≤ B64 ^ k := Nat.pow_le_pow_right B64_pos hn
  rw [Nat.pow_succ]
  have : B64 ^ k * 2 ≤ B64 ^ k * B64 := Nat.mul_le_mul_left _ (by rw [B64_eq]; omega)
  omega

/-- partsOf, as a slice that is only read. -/
theorem partsOf_rd (s : ByteArray) (w : World) (hs : s.size ≤ 4398046511104) :
    Calls Tryd.prog 45 #[.string s] w fun e w' => ∃ A n c, e = .returned (.slice A n c) ∧ (limbs (bval s.data.toList)).length = n ∧ n ≤ c ∧ RdA w' A (limbs (bval s.data.toList)) ∧ Below w.heap.size w w' :=
  (partsOf_any s w (by omega)).mono fun _ _ h => by
    obtain ⟨A, c, he, hc, _, hr, hb⟩ := h.toL
    exact ⟨A, _, c, he, rfl, hc, hr, hb⟩
theorem sum_rd (A B : Option Addr) (na nb ca cb : Nat) (N M : Nat) (w : World) (ha : (limbs N).length = na) (hb : (limbs M).length = nb) (hx : RdA w A (limbs N)) (hy : RdA w B (limbs M)) (nx : na ≤ 1099511627776) (ny : nb ≤ 1099511627776) :
    Calls Tryd.prog 44 #[.slice A na ca, .slice B nb cb] w fun e w' => ∃ C n c, e = .returned (.slice C n c) ∧ (limbs (N + M)).length = n ∧ n ≤ c ∧ RdA w' C (limbs (N + M)) ∧ Below w.heap.size w w' := by
  subst ha
  subst hb
  have h := sum_any A B ca cb (limbs N) (limbs M) w hx hy (limbs_limbs N) (limbs_limbs M) nx ny
  rw [pval_limbs, pval_limbs] at h
  exact h.mono fun _ _ h => by
    obtain ⟨A, c, he, hc, _, hr, hb⟩ := h.toL
    exact ⟨A, _, c, he, rfl, hc, hr, hb⟩
theorem difference_rd (A B : Option Addr) (na nb ca cb : Nat) (N M : Nat) (w : World) (ha : (limbs N).length = na) (hb : (limbs M).length = nb) (hx : RdA w A (limbs N)) (hy : RdA w B (limbs M)) (nx : na ≤ 1099511627776) (hle : M ≤ N) :
    Calls Tryd.prog 47 #[.slice A na ca, .slice B nb cb] w fun e w' => ∃ C n c, e = .returned (.slice C n c) ∧ (limbs (N - M)).length = n ∧ n ≤ c ∧ RdA w' C (limbs (N - M)) ∧ Below w.heap.size w w' := by
  have hlm := limbs_length_mono hle
  have h := difference_any A B na nb ca cb (limbs N) (limbs M) w ha hb hx hy (limbs_limbs N) (limbs_limbs M) nx (by omega) (by rw [pval_limbs, pval_limbs]; exact hle)
  rw [pval_limbs, pval_limbs] at h
  exact h.mono fun _ _ h => by
    obtain ⟨A, c, he, hc, _, hr, hb⟩ := h.toL
    exact ⟨A, _, c, he, rfl, hc, hr, hb⟩
theorem product_rd (A B : Option Addr) (na nb ca cb : Nat) (N M : Nat) (w : World) (ha : (limbs N).length = na) (hb : (limbs M).length = nb) (hx : RdA w A (limbs N)) (hy : RdA w B (limbs M)) (nx : na ≤ 1099511627776) (ny : nb ≤ 1099511627776) :
    Calls Tryd.prog 54 #[.slice A na ca, .slice B nb cb] w fun e w' => ∃ C n c, e = .returned (.slice C n c) ∧ (limbs (N * M)).length = n ∧ n ≤ c ∧ RdA w' C (limbs (N * M)) ∧ Below w.heap.size w w' := by
  have h := product_any A B na nb ca cb (limbs N) (limbs M) w ha hb hx hy (limbs_limbs N) (limbs_limbs M) nx ny
  rw [pval_limbs, pval_limbs] at h
  exact h.mono fun _ _ h => by
    obtain ⟨A, c, he, hc, _, hr, hb⟩ := h.toL
    exact ⟨A, _, c, he, rfl, hc, hr, hb⟩

theorem wint_bounds (x : Bool) (s : ByteArray) (h : s.size ≤ 7) : -72057594037927936 ≤ wint x s ∧ wint x s ≤ 72057594037927936 := by
  have := bval_small s h
  cases x <;> simp only [wint] <;> simp <;> omega

set_option maxHeartbeats 1000000 in
theorem Add_small (x y : Bool) (s t : ByteArray) (w : World) (hs : s.size ≤ 7) (ht : t.size ≤ 7) :
    Calls Tryd.prog 14 #[.agg #[.bool x, .string s], .agg #[.bool y, .string t]] w fun e w' => e = .returned (wv (wint x s + wint y t)) ∧ Below w.heap.size w w' := by
  have hp := fun W => small_yes x s W hs
  have hq := fun W => small_yes y t W ht
  have b1 := wint_bounds x s hs
  have b2 := wint_bounds y t ht
  have hf := fun W => From_any (wint x s + wint y t) W (by omega) (by omega)
  have hwv : wv (wint x s + wint y t) = .agg #[.bool (decide (wint x s + wint y t < 0)), .string (bstr (canon (wint x s + wint y t).natAbs))] := rfl
  generalize bstr (canon (wint x s + wint y t).natAbs) = S at *
  generalize decide (wint x s + wint y t < 0) = sg at *
  generalize hR : wv (wint x s + wint y t) = R at *
  generalize wint x s = a at *
  generalize wint y t = b at *
  have HP := Lib.hid hp
  have HQ := Lib.hid hq
  have HF := Lib.hid hf
  have HWV := Lib.hid hwv
  clear hp hq hf hR hwv
  have HV := Lib.hid (Vars.start3 w x y false s t ⟨#[]⟩)
  go_enter Tryd.func14, Tryd.ntmps14
  go_wp2_with fail
  with_reducible refine (HP.out _).mono ?_
  rintro e w1 ⟨rfl, hb1⟩
  have hV1 := Lib.hid (HV.out.step hb1)
  have hc0 := (hV1.out.at_ 1 rfl).cell0
  have hc1 := (hV1.out.at_ 1 rfl).cell1
  go_wp2_with fail
  with_reducible refine (HQ.out _).mono ?_
  rintro e w2 ⟨rfl, hb2⟩
  have hV2 := Lib.hid (hV1.out.step hb2)
  clear hc0 hc1 hb1 hb2
  go_wp2_with fail
  with_reducible refine (HF.out _).mono ?_
  rintro e w3 ⟨rfl, hb3⟩
  have hV3 := Lib.hid (hV2.out.step hb3)
  have hd0 := (hV3.out.at_ 2 rfl).cell0
  have hd1 := (hV3.out.at_ 2 rfl).cell1
  have hf0 := (hV3.out.at_ 2 rfl).frozen 0
  have hf1 := (hV3.out.at_ 2 rfl).frozen 1
  rw [HWV.out]
  go_wp2
  exact post_wide (b := w.heap.size + 1 + 1) rfl rfl (((hV3.out.at_ 2 rfl).set0 _).set1 _) rfl ⟨by rw [HWV.out], (hV3.out.1.setCell (by simp only []; omega) _).setCell (by simp only []; omega) _⟩

theorem cell_two (w : World) (b c i j k : Nat) (h : b ≠ c) {u v : Value} : ((w.setCell ⟨b, i, none⟩ u).setCell ⟨b, j, none⟩ v).cell? ⟨c, k, none⟩ = w.cell? ⟨c, k, none⟩ := by
  rw [World.cell?_setCell_other, World.cell?_setCell_other]
  · intro e; injection e with e1; exact h e1
  · intro e; injection e with e1; exact h e1

/-- What a Wide's result variable holds at the end. -/
theorem Vars.done {w0 w : World} {l : List (Bool × ByteArray)} (h : Vars w0 w l) (i : Nat) {x y : Bool} {s t : ByteArray} (hi : l[i]? = some (x, s)) :
    Wd ((w.setCell ⟨w0.heap.size + i, 0, none⟩ (.bool y)).setCell ⟨w0.heap.size + i, 1, none⟩ (.string t)) (w0.heap.size + i) y t ∧
    Below w0.heap.size w0 ((w.setCell ⟨w0.heap.size + i, 0, none⟩ (.bool y)).setCell ⟨w0.heap.size + i, 1, none⟩ (.string t)) :=
  ⟨((h.at_ i hi).set0 y).set1 t, (h.1.setCell (by simp only []; omega) _).setCell (by simp only []; omega) _⟩

end Go.Proofs.YtgadnianjhaeiaaDoor
