import Derived.Test.YtknaghdoffigjaaGreatDoorZMMul
import Derived.Test.YtknaghdoffigjaaGreatDoorZMBoth
import Derived.Test.YtknaghdoffigjaaGreatDoorZMInvV
import Derived.Test.YtknaghdoffigjaaGreatDoorZRDig
set_option linter.unusedSimpArgs false
set_option linter.unusedVariables false
set_option linter.unnecessarySimpa false
namespace Go.Proofs.YtknaghdoffigjaaGreatDoor
open Go.RowKit Go
attribute [local go_sem] Oper.semAt_some
theorem results_tableW {fn : Func} {tmps : Array Value} {w : World} {p : Tmp} {b : Nat} {r c : Int} {A : Option Addr} {n cap : Nat} (h : fn.results = #[.cell p 68])
  (ht : tmps.getD p undef = .pointer (some ⟨b, 0, none⟩)) (hw : Tb w b r c A n cap) : (results fn tmps).run Tryz.prog w = .ok (mat r c A n cap) w := by
 have := hw.load
 rw [Array.getD_eq_getD_getElem?] at ht
 simp only [results, h]
 simp [Sem.run_bind, Result.andThen, ht, asAddr, this]
theorem abs_of_size (z : Int) (k : Nat) (h : (wmag z).size ≤ k) : z.natAbs < 256 ^ k := by
 have := wint_abs_pow (wneg z) (wmag z) k h
 rwa [wint_wv'] at this
theorem mul_abs (x y : Int) (hx : (wmag x).size ≤ 100) (hy : (wmag y).size ≤ 100) : (x * y).natAbs < 256 ^ 200 := by
 rw [Int.natAbs_mul, show (200 : Nat) = 100 + 100 from rfl, Nat.pow_add]
 exact Nat.mul_lt_mul'' (abs_of_size x 100 hx) (abs_of_size y 100 hy)
theorem pow_more (n k a : Nat) (hk : k ≤ 200) (h : n ≤ k * 256 ^ a) : n < 256 ^ (a + 1) := by
 rw [Nat.pow_succ, Nat.mul_comm]
 have hp : 0 < 256 ^ a := Nat.pow_pos (by omega)
 exact Nat.lt_of_le_of_lt h (Nat.mul_lt_mul_of_pos_right (by omega) hp)
theorem dot_abs (xs ys : List Int) (m c i j k : Nat) (hk : k ≤ 200) (hx : ∀ q, (wmag (xs.getD q 0)).size ≤ 100) (hy : ∀ q, (wmag (ys.getD q 0)).size ≤ 100) : (dotI xs ys m c i j k).natAbs < 256 ^ 201 :=
 pow_more _ k 200 hk (dotI_abs xs ys m c i j (256 ^ 200) k (fun k' _ => Nat.le_of_lt (mul_abs _ _ (hx _) (hy _))))
theorem wmag_ne (z : Int) (h : z ≠ 0) : ¬ (wmag z).toList = (⟨#[]⟩ : ByteArray).toList := by
 rw [Lib.toList_data, Lib.toList_data]
 intro e
 have h2 : canon z.natAbs = [] := by
  unfold wmag bstr at e
  simpa using e
 rw [canon_eq_nil] at h2
 omega
end Go.Proofs.YtknaghdoffigjaaGreatDoor
namespace Go.Proofs.YtknaghdoffigjaaGreatDoor
open Go.RowKit Go
attribute [local go_sem] Oper.semAt_some
theorem bitLen_le (f x : Nat) : Lib.bitLenAux f x ≤ f := by
 induction f generalizing x with
 | zero => simp [Lib.bitLenAux]
 | succ f ih =>
  unfold Lib.bitLenAux
  split
  ·omega
  ·have := ih (x / 2)
   omega
theorem maxB_le (zs : List Int) (k : Nat) : maxB zs k ≤ 64 := by
 induction k with
 | zero => simp [maxB]
 | succ k ih =>
  unfold maxB
  have : nbit (zs.getD k 0) ≤ 64 := bitLen_le 64 _
  omega
noncomputable def lenI (zs : List Int) (n : Nat) : Nat := open Classical in if ∀ j, j < n → fitI (zs.getD j 0) then maxB zs n else 64
theorem lenI_le (zs : List Int) (n : Nat) : lenI zs n ≤ 64 := by
 unfold lenI
 split
 ·exact maxB_le zs n
 ·omega
theorem ints_len (gA n cap : Nat) (zs : List Int) (w : World) (hA : Lw w gA (enc zs)) (hn : zs.length = n) (hn2 : n ≤ 40000) (hz : ∀ j, (wmag (zs.getD j 0)).size ≤ 1000) :
  Calls Tryz.prog 129 #[.slice (some ⟨gA, 0, none⟩) n cap] w fun e w' => ∃ A N, e = .returned (.tuple #[.slice A N N, .int .i64 (lenI zs n : Nat)]) ∧ Below w.heap.size w w' := by
 refine (ints_any gA n cap zs w hA hn hn2 hz).mono ?_
 rintro e w' ⟨hb, h1, h2⟩
 by_cases h : ∀ j, j < n → fitI (zs.getD j 0)
 ·obtain ⟨g, rfl, _, _⟩ := h1 h
  exact ⟨some ⟨g, 0, none⟩, n, by unfold lenI; rw [if_pos h], hb⟩
 ·have h3 : ∃ j, j < n ∧ ¬ fitI (zs.getD j 0) := by
   apply Classical.byContradiction
   intro hc
   exact h fun j hj => Classical.byContradiction fun hf => hc ⟨j, hj, hf⟩
  refine ⟨none, 0, ?_, hb⟩
  rw [h2 h3]
  unfold lenI
  rw [if_neg h]
  rfl
theorem bits_over (lx ly lm : Nat) (h1 : lx ≤ 64) (h2 : ly ≤ 64) (h3 : lm ≤ 64) (h : 64 ≤ lx + ly + lm) : wrap64 ((lx : Int) + (ly : Int)) = (lx : Int) + (ly : Int) ∧ wrap64 ((lx : Int) + (ly : Int) + (lm : Int)) = (lx : Int) + (ly : Int) + (lm : Int) ∧ decide ((lx : Int) + (ly : Int) + (lm : Int) ≥ 64) = true :=
 ⟨IntWalk.wrap64_in _ (by omega), IntWalk.wrap64_in _ (by omega), by rw [decide_eq_true_iff]; omega⟩
end Go.Proofs.YtknaghdoffigjaaGreatDoor
