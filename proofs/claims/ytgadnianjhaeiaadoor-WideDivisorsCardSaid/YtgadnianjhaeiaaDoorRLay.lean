/-
  The reference's functions on digits, in the words of the numbers that the digits stand for.
-/
import Derived.Test.YtgadnianjhaeiaaDoorRPlus
import Derived.Test.YtgadnianjhaeiaaDoorRMinus
import Derived.Test.YtgadnianjhaeiaaDoorRCmp
import Derived.Test.YtgadnianjhaeiaaDoorRTimes
namespace Go.Proofs.YtgadnianjhaeiaaDoor
open Go.RowKit

/-- A slice that reads as the digits of a number, without zeros at the end. -/
def Rq (w : World) (A : Option Addr) (n c N : Nat) : Prop := RdJ w A (qds N) ∧ (qds N).length = n ∧ n ≤ c ∧ c ≤ maxLen ∧ (A = none → c = 0)
/-- A slice that reads as digits with this value. -/
def Rz (w : World) (A : Option Addr) (n c N : Nat) : Prop := ∃ D, RdJ w A D ∧ D.length = n ∧ n ≤ c ∧ c ≤ maxLen ∧ Qds D ∧ qval D = N
section
variable {w w' : World} {A : Option Addr} {n c N : Nat}
theorem Rq.z (h : Rq w A n c N) : Rz w A n c N := ⟨_, h.1, h.2.1, h.2.2.1, h.2.2.2.1, qds_qds _, qval_qds _⟩
theorem Rq.below (h : Rq w A n c N) (hb : Below w.heap.size w w') : Rq w' A n c N := ⟨h.1.below hb, h.2⟩
theorem Rq.drew (h : Rq w A n c N) : Rq w.drew A n c N := h
theorem Rz.below (h : Rz w A n c N) (hb : Below w.heap.size w w') : Rz w' A n c N := by
  obtain ⟨D, h1, h2⟩ := h
  exact ⟨D, h1.below hb, h2⟩
theorem qds_trim (N : Nat) : ptrim (qds N) = qds N := by rw [ptrim_qds (qds_qds N), qval_qds]
theorem qds_length {N k : Nat} (h : N < C16 ^ k) : (qds N).length ≤ k := by
  refine Nat.le_of_not_lt fun hl => ?_
  have h1 := qval_low (qds_trim N) (by intro e; rw [e] at hl; simp at hl)
  rw [qval_qds] at h1
  have h2 : C16 ^ k ≤ C16 ^ ((qds N).length - 1) := Nat.pow_le_pow_right C16_pos (by omega)
  omega
theorem Rq.len {k : Nat} (h : Rq w A n c N) (hN : N < C16 ^ k) : n ≤ k := by rw [← h.2.1]; exact qds_length hN
theorem Rq.zero (h : Rq w A n c N) : n = 0 ↔ N = 0 := by
  rw [← h.2.1, List.length_eq_zero_iff, qds_eq_nil]
theorem RetJ.q {e : Ending} (h : RetJ w w' e (qds N)) : ∃ A n c, e = .returned (.slice A n c) ∧ Rq w' A n c N ∧ Below w.heap.size w w' := by
  obtain ⟨A, c, he, hc, hm, hr, hb, hA⟩ := h
  exact ⟨A, _, c, he, ⟨hr, rfl, hc, hm, hA⟩, hb⟩
theorem RetQ.z {e : Ending} {m : Nat} (h : RetQ w w' e N m) : ∃ A n c, e = .returned (.slice A n c) ∧ n ≤ m ∧ Rz w' A n c N ∧ Below w.heap.size w w' := by
  obtain ⟨D, A, c, he, hc, hm, hl, hq, hv, hr, hb⟩ := h
  exact ⟨A, _, c, he, hl, ⟨D, hr, rfl, hc, hm, hq, hv⟩, hb⟩
end
theorem bval_c16 (s : ByteArray) (k : Nat) (h : s.size ≤ k) : bval s.data.toList < C16 ^ k :=
  Nat.lt_of_lt_of_le (bval_pow s k h) (Nat.pow_le_pow_left (by rw [C16_eq]; omega) k)
theorem rdigits (x : Bool) (s : ByteArray) (w : World) (hs : s.size ≤ 1000) :
    Calls Tryd.prog 48 #[.agg #[.bool x, .string s]] w fun e w' => ∃ A n c, e = .returned (.slice A n c) ∧ n ≤ s.size ∧ Rq w' A n c (bval s.data.toList) ∧ Below w.heap.size w w' :=
  (refdigits_any x s w hs).mono fun _ _ h => by
    obtain ⟨A, n, c, he, hr, hb⟩ := h.q
    exact ⟨A, n, c, he, hr.len (bval_c16 s s.size (Nat.le_refl _)), hr, hb⟩
theorem rplus (A B : Option Addr) (n m ca cb N M : Nat) (w : World) (h1 : Rz w A n ca N) (h2 : Rz w B m cb M) (nx : n ≤ 1000) (ny : m ≤ 1000) :
    Calls Tryd.prog 50 #[.slice A n ca, .slice B m cb] w fun e w' => ∃ C k c, e = .returned (.slice C k c) ∧ k ≤ max n m + 1 ∧ Rz w' C k c (N + M) ∧ Below w.heap.size w w' := by
  obtain ⟨xs, a1, a2, _, _, a5, a6⟩ := h1
  obtain ⟨ys, b1, b2, _, _, b5, b6⟩ := h2
  refine (refplus_any A B n m ca cb xs ys w a1 b1 a5 b5 a2 b2 nx ny).mono fun _ _ h => ?_
  rw [a6, b6] at h
  exact h.z
theorem rminus (A B : Option Addr) (n m ca cb N M : Nat) (w : World) (h1 : Rq w A n ca N) (h2 : Rq w B m cb M) (nx : n ≤ 1000) (hle : M ≤ N) :
    Calls Tryd.prog 52 #[.slice A n ca, .slice B m cb] w fun e w' => ∃ C k c, e = .returned (.slice C k c) ∧ k ≤ n ∧ Rq w' C k c (N - M) ∧ Below w.heap.size w w' := by
  have hN := qval_lt (qds_qds N)
  rw [qval_qds, h1.2.1] at hN
  refine (refminus_any A B n m ca cb (qds N) (qds M) w h1.1 h2.1 (qds_qds _) (qds_qds _) h1.2.1 h2.2.1 nx (h2.len (Nat.lt_of_le_of_lt hle hN)) (by rw [qval_qds, qval_qds]; exact hle)).mono fun _ _ h => ?_
  rw [qval_qds, qval_qds] at h
  obtain ⟨C, k, c, he, hr, hb⟩ := h.q
  exact ⟨C, k, c, he, hr.len (by omega), hr, hb⟩
theorem rtimes (A B : Option Addr) (n m ca cb N M : Nat) (w : World) (h1 : Rz w A n ca N) (h2 : Rz w B m cb M) (nx : n ≤ 1000) (ny : m ≤ 1000) :
    Calls Tryd.prog 55 #[.slice A n ca, .slice B m cb] w fun e w' => ∃ C k c, e = .returned (.slice C k c) ∧ k ≤ n + m ∧ Rq w' C k c (N * M) ∧ Below w.heap.size w w' := by
  obtain ⟨xs, a1, a2, _, _, a5, a6⟩ := h1
  obtain ⟨ys, b1, b2, _, _, b5, b6⟩ := h2
  refine (reftimes_any A B n m ca cb xs ys w a1 b1 a5 b5 a2 b2 nx ny).mono fun _ _ h => ?_
  rw [a6, b6] at h
  obtain ⟨C, k, c, he, hr, hb⟩ := h.q
  refine ⟨C, k, c, he, hr.len ?_, hr, hb⟩
  have hN := qval_lt a5
  have hM := qval_lt b5
  rw [a6, a2] at hN
  rw [b6, b2] at hM
  rw [Nat.pow_add]
  exact Nat.mul_lt_mul'' hN hM
theorem rcompare (A B : Option Addr) (n m ca cb N M : Nat) (w : World) (h1 : Rq w A n ca N) (h2 : Rq w B m cb M) (nx : n ≤ 1000) (ny : m ≤ 1000) :
    Calls Tryd.prog 51 #[.slice A n ca, .slice B m cb] w fun e w' => e = .returned (.int .i64 (sgn2 N M)) ∧ Below w.heap.size w w' := by
  have h := refcompare_any A B n m ca cb (qds N) (qds M) w h1.1 h2.1 (qds_qds _) (qds_qds _) (qds_trim _) (qds_trim _) h1.2.1 h2.2.1 nx ny
  rw [qval_qds, qval_qds] at h
  exact h
/-- The number of this size, with this sign. -/
def sgi (neg : Bool) (N : Nat) : Int := if neg then -(N : Int) else N
theorem wv_of (neg : Bool) (N : Nat) : (.agg #[.bool (neg && decide (N ≠ 0)), .string (bstr (canon N))] : Value) = .agg #[.bool (wneg (sgi neg N)), .string (wmag (sgi neg N))] := by
  rw [← wv_def]
  unfold sgi
  cases neg
  · rw [if_neg (by decide), wv_nat]; rfl
  · rw [if_pos rfl, wv_neg]; simp
theorem wint_sgi (x : Bool) (s : ByteArray) : wint x s = sgi x (bval s.data.toList) := rfl
theorem rwide (neg : Bool) (A : Option Addr) (n c N : Nat) (w : World) (h : Rz w A n c N) (hn : n ≤ 1000) (r : Int) (hr : sgi neg N = r) :
    Calls Tryd.prog 49 #[.bool neg, .slice A n c] w fun e w' => e = .returned (.agg #[.bool (wneg r), .string (wmag r)]) ∧ Below w.heap.size w w' := by
  obtain ⟨D, h1, h2, h3, h4, h5, h6⟩ := h
  have := refwide_any neg A n c D w h1 h5 h2 h3 h4 hn
  rw [h6, wv_of, hr] at this
  exact this
theorem sgn2_ge {N M : Nat} (h : M ≤ N) : 0 ≤ sgn2 N M := by unfold sgn2; split; omega; split <;> omega
theorem sgn2_lt {N M : Nat} (h : N < M) : sgn2 N M = -1 := by unfold sgn2; rw [if_pos h]
theorem sgn2_bound (N M : Nat) : -1 ≤ sgn2 N M ∧ sgn2 N M ≤ 1 := by unfold sgn2; split; omega; split <;> omega
end Go.Proofs.YtgadnianjhaeiaaDoor
