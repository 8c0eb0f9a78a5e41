/-
  The contract of wide.Gcd for small numbers.
-/
import Derived.Test.YthbkgofpblganaaDoorGcd0
namespace Go.Proofs.YthbkgofpblganaaDoor
open Go.RowKit

/-- The sign and the bytes of z, as the program holds it. -/
def wneg (z : Int) : Bool := decide (z < 0)
def wmag (z : Int) : ByteArray := bstr (canon z.natAbs)
theorem wv_def (z : Int) : wv z = .agg #[.bool (wneg z), .string (wmag z)] := rfl
theorem wint_wv' (z : Int) : wint (wneg z) (wmag z) = z := wint_wv z
theorem wmag_size (z : Int) (k : Nat) (h : z.natAbs < 256 ^ k) : (wmag z).size ≤ k := by
  unfold wmag
  rw [bstr_size]
  exact canon_length_le h
theorem wint_abs_pow (x : Bool) (s : ByteArray) (k : Nat) (h : s.size ≤ k) : (wint x s).natAbs < 256 ^ k := by
  have := bval_pow s k h
  cases x
  · rw [wint_false, Int.natAbs_natCast]; exact this
  · rw [wint_true, Int.natAbs_neg, Int.natAbs_natCast]; exact this
theorem pow3 : (256 : Nat) ^ 3 = 16777216 := by rfl

theorem Gcd_small (x y : Bool) (s t : ByteArray) (w : World) (hs : s.size ≤ 3) (ht : t.size ≤ 3) :
    Calls Tryd.prog 28 #[.agg #[.bool x, .string s], .agg #[.bool y, .string t]] w fun e w' =>
      e = .returned (.tuple #[wv (gcdS (wint x s) (wint y t)).1, wv (gcdS (wint x s) (wint y t)).2.1, wv (gcdS (wint x s) (wint y t)).2.2]) ∧ Below w.heap.size w w' := by
  by_cases hb : wint y t = 0
  · have h := Gcd_zero x y s t w (by omega) (by omega) hb
    have e : gcdS (wint x s) (wint y t) = (((wint x s).natAbs : Int), (wint x s).sign, 0) := by unfold gcdS; rw [if_pos hb]
    rw [e]
    exact h
  · have e : gcdS (wint x s) (wint y t) = ((inv (wint x s % (wint y t).natAbs) (wint y t).natAbs).1, (inv (wint x s % (wint y t).natAbs) (wint y t).natAbs).2, ((inv (wint x s % (wint y t).natAbs) (wint y t).natAbs).1 - (inv (wint x s % (wint y t).natAbs) (wint y t).natAbs).2 * wint x s) / wint y t) := by unfold gcdS; rw [if_neg hb]
    rw [e]
    have a1 := wint_abs_pow x s 3 hs
    have a2 := wint_abs_pow y t 3 ht
    rw [pow3] at a1 a2
    have hm0 : ((wint y t).natAbs : Int) ≠ 0 := by omega
    have r0 := Int.emod_nonneg (wint x s) hm0
    have r1 := Int.emod_lt (wint x s) hm0
    obtain ⟨M, hM⟩ : ∃ M : Int, M = ((wint y t).natAbs : Int) := ⟨_, rfl⟩
    rw [← hM] at r0 r1 hm0 ⊢
    obtain ⟨R, hR⟩ : ∃ R : Int, R = wint x s % M := ⟨_, rfl⟩
    rw [← hR] at r0 r1 ⊢
    have hok := eg_ok R M r0 (by omega)
    have g1 : 1 ≤ (inv R M).1 := hok.1
    have g2 : (inv R M).1 ≤ M := hok.2.1
    have x1 : 0 ≤ (inv R M).2 := hok.2.2.1
    have x2 : (inv R M).2 < M := hok.2.2.2
    have p1 : ((inv R M).2 * wint x s).natAbs ≤ 16777216 * 16777216 := by
      rw [Int.natAbs_mul]
      exact Nat.mul_le_mul (by omega) (by omega)
    obtain ⟨G, hG⟩ : ∃ G : Int, G = (inv R M).1 := ⟨_, rfl⟩
    obtain ⟨X, hX⟩ : ∃ X : Int, X = (inv R M).2 := ⟨_, rfl⟩
    rw [← hG] at g1 g2 ⊢
    rw [← hX] at x1 x2 p1 ⊢
    have sM := wmag_size M 7 (by rw [pow7]; omega)
    have sR := wmag_size R 7 (by rw [pow7]; omega)
    have sX := wmag_size X 7 (by rw [pow7]; omega)
    have sG := wmag_size G 7 (by rw [pow7]; omega)
    have sP := wmag_size (X * wint x s) 7 (by rw [pow7]; omega)
    have sD := wmag_size (G - X * wint x s) 7 (by rw [pow7]; omega)
    refine Gcd_of x y s t w (by omega) (by omega) hb (wneg M) (wneg R) (wneg G) (wneg X) (wneg ((G - X * wint x s) / wint y t)) (wneg (X * wint x s)) (wneg (G - X * wint x s)) (wneg (wint x s / M)) (wneg ((G - X * wint x s) % wint y t)) (wmag M) (wmag R) (wmag G) (wmag X) (wmag ((G - X * wint x s) / wint y t)) (wmag (X * wint x s)) (wmag (G - X * wint x s)) (wmag (wint x s / M)) (wmag ((G - X * wint x s) % wint y t)) ?_ ?_ ?_ ?_ ?_ ?_
    · rw [← hM]; rfl
    · intro W
      have h := Quo_small x (wneg M) s (wmag M) W (by omega) sM (by rw [wint_wv']; exact hm0)
      rw [wint_wv', ← hR] at h
      exact h
    · intro W
      have h := invert_small (wneg R) (wneg M) (wmag R) (wmag M) W sR sM (by rw [wint_wv']; exact r0) (by rw [wint_wv', wint_wv']; omega)
      rw [wint_wv', wint_wv', ← hG, ← hX] at h
      exact h
    · intro W
      have h := Mul_any (wneg X) x (wmag X) s W (by omega) (by omega)
      rw [wint_wv'] at h
      exact h
    · intro W
      have h := Sub_any (wneg G) (wneg (X * wint x s)) (wmag G) (wmag (X * wint x s)) W (by omega) (by omega)
      rw [wint_wv', wint_wv'] at h
      exact h
    · intro W
      have h := Quo_small (wneg (G - X * wint x s)) y (wmag (G - X * wint x s)) t W sD (by omega) hb
      rw [wint_wv'] at h
      exact h
end Go.Proofs.YthbkgofpblganaaDoor
