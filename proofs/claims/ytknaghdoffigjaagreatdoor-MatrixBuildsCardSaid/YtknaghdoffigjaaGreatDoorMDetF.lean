/-
  What Det computes with; the contract of isSquare; more of boxes.
-/
import Derived.Test.YtknaghdoffigjaaGreatDoorZMPrimes
set_option linter.unusedSimpArgs false
set_option linter.unusedVariables false
set_option linter.unnecessarySimpa false
namespace Go.Proofs.YtknaghdoffigjaaGreatDoor
open Go.RowKit Go

def redZ (r c p : Nat) (xs : List Nat) : Nat → Bool
  | 0 => false
  | k + 1 => redZ r c p xs k || decide (redP r c p xs k = 0)
theorem redZ_true (r c p : Nat) (xs : List Nat) (k j : Nat) (hj : j < k) (h : redP r c p xs j = 0) : redZ r c p xs k = true := by
  induction k with
  | zero => omega
  | succ k ih =>
    rw [redZ]
    rcases Nat.lt_or_ge j k with h1 | h1
    · rw [ih h1, Bool.true_or]
    · rw [show k = j by omega, h]; simp
theorem redZ_false (r c p : Nat) (xs : List Nat) (k : Nat) (h : ∀ j, j < k → redP r c p xs j ≠ 0) : redZ r c p xs k = false := by
  induction k with
  | zero => rfl
  | succ k ih => rw [redZ, ih (fun j hj => h j (by omega)), Bool.false_or]; simpa using h k (by omega)
/-- What reduce returns. -/
def detR (r c p : Nat) (xs : List Nat) : Nat := if redZ r c p xs r = true then 0 else redD r c p xs r
theorem RedEnd.det {r c p : Nat} {xs ys : List Nat} {d : Nat} (h : RedEnd r c p xs ys d) : d = detR r c p xs := by
  rcases h with ⟨k, hk, _, h0, _, rfl⟩ | ⟨h, _, rfl⟩
  · rw [detR, redZ_true r c p xs r k hk h0, if_pos rfl]
  · rw [detR, redZ_false r c p xs r h, if_neg (by simp)]
theorem detR_lt (r c p : Nat) (xs : List Nat) (hp : 1 < p) : detR r c p xs < p := by
  unfold detR
  split
  · omega
  · exact redD_lt r c p xs hp r
/-- A matrix's residues. -/
def resid (p : Nat) (zs : List Int) : List Nat := (List.range zs.length).map fun j => (zs.getD j 0 % (p : Int)).toNat
theorem resid_length (p : Nat) (zs : List Int) : (resid p zs).length = zs.length := by simp [resid]
theorem resid_lt (p : Nat) (zs : List Int) (hp : 0 < p) (j : Nat) : (resid p zs).getD j 0 < p := by
  unfold resid
  rw [List.getD_eq_getElem?_getD, List.getElem?_map]
  cases h : (List.range zs.length)[j]? with
  | none => simpa using hp
  | some i =>
    simp only [Option.map_some, Option.getD_some]
    have h0 := Int.emod_nonneg (zs.getD i 0) (show (p : Int) ≠ 0 by omega)
    have h1 := Int.emod_lt_of_pos (zs.getD i 0) (show (0 : Int) < (p : Int) by omega)
    omega
/-- The modulus, the estimate of the determinant, and what is left of the limit behind k primes. -/
def estM (pl : List Nat) : Nat → Int
  | 0 => 1
  | k + 1 => estM pl k * ((pl.getD k 0 : Nat) : Int)
def detV (pl : List Nat) (n : Nat) (zs : List Int) : Nat → Int
  | 0 => 0
  | k + 1 => refV (pl.getD k 0) (refI (pl.getD k 0) (estM pl k)) (estM pl k) (detV pl n zs k) (detR n n (pl.getD k 0) (resid (pl.getD k 0) zs))
def limV (pl : List Nat) (l0 : Int) : Nat → Int
  | 0 => l0
  | k + 1 => limV pl l0 k / (((pl.getD k 0 : Nat) : Int) * ((pl.getD k 0 : Nat) : Int))
theorem estM_abs (pl : List Nat) (k : Nat) (h : ∀ j, j < k → pl.getD j 0 < 2147483648) : (estM pl k).natAbs ≤ 2147483648 ^ k := by
  induction k with
  | zero => simp [estM]
  | succ k ih =>
    rw [estM, Int.natAbs_mul, Nat.pow_succ]
    have := h k (by omega)
    exact Nat.mul_le_mul (ih fun j hj => h j (by omega)) (by omega)
theorem balZ_le (p n : Nat) (hn : n < p) : (balZ p n).natAbs ≤ p := by
  unfold balZ
  split <;> omega
theorem refG_lt (p iv : Nat) (v : Int) (rs : Nat) (hp : 0 < p) : refG p iv v rs < p := Nat.mod_lt _ hp
theorem detV_abs (pl : List Nat) (n : Nat) (zs : List Int) (k : Nat) (h : ∀ j, j < k → 0 < pl.getD j 0 ∧ pl.getD j 0 < 2147483648) : (detV pl n zs k).natAbs ≤ k * 2147483648 ^ k := by
  induction k with
  | zero => simp [detV]
  | succ k ih =>
    have ih := ih fun j hj => h j (by omega)
    have hm := estM_abs pl k fun j hj => (h j (by omega)).2
    have hp := h k (by omega)
    have h1 : 2147483648 ^ k ≤ 2147483648 ^ (k + 1) := Nat.pow_le_pow_right (by omega) (by omega)
    have h2 : k * 2147483648 ^ k ≤ k * 2147483648 ^ (k + 1) := Nat.mul_le_mul_left _ h1
    rw [detV, refV, Nat.succ_mul]
    split
    · omega
    · refine Nat.le_trans (Int.natAbs_add_le _ _) (Nat.add_le_add (by omega) ?_)
      rw [Int.natAbs_mul, Nat.pow_succ, Nat.mul_comm]
      refine Nat.mul_le_mul hm ?_
      have := balZ_le (pl.getD k 0) _ (refG_lt (pl.getD k 0) (refI (pl.getD k 0) (estM pl k)) (detV pl n zs k) (detR n n (pl.getD k 0) (resid (pl.getD k 0) zs)) hp.1)
      omega
theorem pow31 (k : Nat) : 2147483648 ^ k ≤ 256 ^ (4 * k) := by
  rw [Nat.pow_mul]
  exact Nat.pow_le_pow_left (by decide) k
theorem estM_size (pl : List Nat) (k : Nat) (h : ∀ j, j < k → pl.getD j 0 < 2147483648) : (wmag (estM pl k)).size ≤ 4 * k + 1 :=
  wmag_size _ _ (pow_le_lt (Nat.le_trans (estM_abs pl k h) (pow31 k)) (by omega))
theorem detV_size (pl : List Nat) (n : Nat) (zs : List Int) (k : Nat) (hk : k ≤ 200) (h : ∀ j, j < k → 0 < pl.getD j 0 ∧ pl.getD j 0 < 2147483648) : (wmag (detV pl n zs k)).size ≤ 4 * k + 1 := by
  refine wmag_size _ _ (Nat.lt_of_le_of_lt (detV_abs pl n zs k h) ?_)
  rw [Nat.pow_succ, Nat.mul_comm]
  have h1 := pow31 k
  have h2 : 0 < 256 ^ (4 * k) := Nat.pow_pos (by omega)
  calc 2147483648 ^ k * k ≤ 256 ^ (4 * k) * k := Nat.mul_le_mul_right _ h1
    _ < 256 ^ (4 * k) * 256 := (Nat.mul_lt_mul_left h2).2 (by omega)
theorem rsq_nonneg (zs : List Int) (c k m : Nat) : 0 ≤ rsq zs c k m := by
  induction m with
  | zero => exact Int.le_refl _
  | succ m ih => rw [rsq]; exact Int.add_nonneg ih (by
    rcases Int.le_total 0 (zs.getD (k * c + m) 0) with h | h
    · exact Int.mul_nonneg h h
    · exact Int.mul_nonneg_of_nonpos_of_nonpos h h)
theorem bnd_nonneg (zs : List Int) (c k : Nat) : 0 ≤ bnd zs c k := by
  induction k with
  | zero => exact (by decide : (0 : Int) ≤ 1)
  | succ k ih => rw [bnd]; exact Int.mul_nonneg ih (rsq_nonneg zs c k c)
theorem limV_bounds (pl : List Nat) (l0 : Int) (h0 : 0 ≤ l0) (k : Nat) : 0 ≤ limV pl l0 k ∧ limV pl l0 k ≤ l0 := by
  induction k with
  | zero => exact ⟨h0, Int.le_refl _⟩
  | succ k ih =>
    rw [limV]
    have hp : 0 ≤ ((pl.getD k 0 : Nat) : Int) * ((pl.getD k 0 : Nat) : Int) := Int.mul_nonneg (by omega) (by omega)
    exact ⟨Int.ediv_nonneg ih.1 hp, Int.le_trans (Int.ediv_le_self _ ih.1) ih.2⟩

/-- A list of Wides, a list of words, as an object. -/
def lwO (l : List (Bool × ByteArray)) : Obj := .cells (flat l).toArray 32 (0, 0)
def lsO (xs : List Nat) : Obj := .cells (U xs) 80 (0, 0)
def estO (M : Int) (A : Option Addr) (n cap : Nat) : Obj := .cells #[.bool (wneg M), .string (wmag M), .slice A n cap] 77 (0, 0)
/-- A block that is made or not. -/
def entO (a : Bool) (b : Nat) (o : Obj) : Option (Nat × Obj) := if a = true then some (b, o) else none
theorem entO_no (b : Nat) (o : Obj) : entO false b o = none := rfl
theorem entO_yes (b : Nat) (o : Obj) : entO true b o = some (b, o) := rfl
def modO (p : Nat) : Obj := .cells #[.int .u64 (p : Int), .int .u64 ((18446744073709551615 / p : Nat) : Int)] 82 (0, 0)
def tabO (r c : Int) (A : Option Addr) (n cap : Nat) : Obj := .cells #[.int .i64 r, .int .i64 c, .slice A n cap] 88 (0, 0)
section
variable {row : Option Nat} {w0 w w' : World} {l : List (Option (Nat × Obj))}
/-- Room for one more. -/
theorem Kg.room (h : Kg row w0 w l) : Kg row w0 w (l ++ [none]) := by
  have ht : ∀ (i b : Nat) (o : Obj), (l ++ [none])[i]? = some (some (b, o)) → l[i]? = some (some (b, o)) := fun i b o hi => by
    by_cases hl : i < l.length
    · rwa [List.getElem?_append_left hl] at hi
    · rw [List.getElem?_append_right (by omega)] at hi
      by_cases h0 : i - l.length = 0
      · rw [h0] at hi; simp at hi
      · rw [List.getElem?_eq_none (by simp; omega)] at hi; cases hi
  exact ⟨h.1, fun i b o hi => h.2.1 i b o (ht i b o hi), fun i j b c o p hi hj => h.2.2 i j b c o p (ht i b o hi) (ht j c p hj)⟩
/-- A block that a call has made. -/
theorem Kg.came (h : Kg row w0 w l) (i : Nat) (hi : l[i]? = some none) {g : Nat} {o : Obj} (hb : Below w.heap.size w w') (hg : w.heap.size ≤ g) (ho : w'.heap[g]? = some o) : Kg row w0 w' (l.set i (some (g, o))) := by
  have hl : i < l.length := (List.getElem?_eq_some_iff.1 hi).1
  have ht : ∀ (j b : Nat) (p : Obj), (l.set i (some (g, o)))[j]? = some (some (b, p)) → (j = i ∧ b = g ∧ p = o) ∨ (j ≠ i ∧ l[j]? = some (some (b, p))) := fun j b p hj => by
    by_cases hij : i = j
    · subst hij
      rw [List.getElem?_set_self hl] at hj
      simp at hj
      exact .inl ⟨rfl, hj.1.symm, hj.2.symm⟩
    · rw [List.getElem?_set_ne hij] at hj
      exact .inr ⟨fun e => hij e.symm, hj⟩
  refine ⟨grown_below h.1 hb, fun j b p hj => ?_, fun j k b c p q hj hk hjk => ?_⟩
  · rcases ht j b p hj with ⟨_, rfl, rfl⟩ | ⟨_, e⟩
    · exact ⟨Nat.le_trans h.1.size hg, ho⟩
    · exact ⟨h.ge j e, (hb.block b (h.lt j e)).trans (h.at_ j e)⟩
  · rcases ht j b p hj with ⟨rfl, rfl, rfl⟩ | ⟨hne, e⟩
    · rcases ht k c q hk with ⟨rfl, rfl, rfl⟩ | ⟨hne2, e2⟩
      · exact absurd rfl hjk
      · have := h.lt k e2; omega
    · rcases ht k c q hk with ⟨rfl, rfl, rfl⟩ | ⟨hne2, e2⟩
      · have := h.lt j e; omega
      · exact h.2.2 j k b c p q e e2 hjk
/-- A block that a call has written. -/
theorem Kg.change (h : Kg row w0 w l) (i : Nat) {b : Nat} {o o' : Obj} (hi : l[i]? = some (some (b, o))) (hb : w.grownBy w' (some b)) (ho : w'.heap[b]? = some o') : Kg row w0 w' (l.set i (some (b, o'))) := by
  have hl : i < l.length := (List.getElem?_eq_some_iff.1 hi).1
  have ht : ∀ (j c : Nat) (p : Obj), (l.set i (some (b, o')))[j]? = some (some (c, p)) → (j = i ∧ c = b ∧ p = o') ∨ (j ≠ i ∧ l[j]? = some (some (c, p))) := fun j c p hj => by
    by_cases hij : i = j
    · subst hij
      rw [List.getElem?_set_self hl] at hj
      simp at hj
      exact .inl ⟨rfl, hj.1.symm, hj.2.symm⟩
    · rw [List.getElem?_set_ne hij] at hj
      exact .inr ⟨fun e => hij e.symm, hj⟩
  refine ⟨grown_past h.1 hb (h.ge i hi), fun j c p hj => ?_, fun j k c d p q hj hk hjk => ?_⟩
  · rcases ht j c p hj with ⟨rfl, rfl, rfl⟩ | ⟨hne, e⟩
    · exact ⟨h.ge j hi, ho⟩
    · exact ⟨h.ge j e, (hb.block c (h.lt j e) (by have := h.ne j i e hi hne; simpa using this)).trans (h.at_ j e)⟩
  · rcases ht j c p hj with ⟨rfl, rfl, rfl⟩ | ⟨hne, e⟩
    · rcases ht k d q hk with ⟨rfl, rfl, rfl⟩ | ⟨hne2, e2⟩
      · exact absurd rfl hjk
      · exact h.ne _ _ hi e2 hjk
    · rcases ht k d q hk with ⟨rfl, rfl, rfl⟩ | ⟨hne2, e2⟩
      · exact h.ne _ _ e hi hjk
      · exact h.ne _ _ e e2 hjk
theorem Kg.fill (h : Kg row w0 w l) (i : Nat) (hi : l[i]? = some none) {g : Nat} {o : Obj} (hg : w0.heap.size ≤ g) (ho : w.heap[g]? = some o) (hne : ∀ (j c : Nat) (p : Obj), l[j]? = some (some (c, p)) → c ≠ g) : Kg row w0 w (l.set i (some (g, o))) := by
  have hl : i < l.length := (List.getElem?_eq_some_iff.1 hi).1
  have ht : ∀ (j b : Nat) (p : Obj), (l.set i (some (g, o)))[j]? = some (some (b, p)) → (j = i ∧ b = g ∧ p = o) ∨ (j ≠ i ∧ l[j]? = some (some (b, p))) := fun j b p hj => by
    by_cases hij : i = j
    · subst hij
      rw [List.getElem?_set_self hl] at hj
      simp at hj
      exact .inl ⟨rfl, hj.1.symm, hj.2.symm⟩
    · rw [List.getElem?_set_ne hij] at hj
      exact .inr ⟨fun e => hij e.symm, hj⟩
  refine ⟨h.1, fun j b p hj => ?_, fun j k b c p q hj hk hjk => ?_⟩
  · rcases ht j b p hj with ⟨_, rfl, rfl⟩ | ⟨_, e⟩
    · exact ⟨hg, ho⟩
    · exact ⟨h.ge j e, h.at_ j e⟩
  · rcases ht j b p hj with ⟨rfl, rfl, rfl⟩ | ⟨hne', e⟩
    · rcases ht k c q hk with ⟨rfl, rfl, rfl⟩ | ⟨hne2, e2⟩
      · exact absurd rfl hjk
      · exact (hne k c q e2).symm
    · rcases ht k c q hk with ⟨rfl, rfl, rfl⟩ | ⟨hne2, e2⟩
      · exact hne j b p e
      · exact h.2.2 j k b c p q e e2 hjk
/-- A call has written one block and made another. -/
theorem Kg.cameG (h : Kg row w0 w l) (i ib : Nat) {b g : Nat} {ob o' o : Obj} (hib : l[ib]? = some (some (b, ob))) (hi : (l.set ib (some (b, o')))[i]? = some none) (hb : w.grownBy w' (some b)) (ho' : w'.heap[b]? = some o') (hg : w.heap.size ≤ g) (ho : w'.heap[g]? = some o) :
    Kg row w0 w' ((l.set ib (some (b, o'))).set i (some (g, o))) := by
  refine (h.change ib hib hb ho').fill i hi (Nat.le_trans h.1.size hg) ho fun j c p hj => ?_
  have hl : ib < l.length := (List.getElem?_eq_some_iff.1 hib).1
  by_cases hij : ib = j
  · subst hij
    rw [List.getElem?_set_self hl] at hj
    simp at hj
    have := h.lt _ hib
    omega
  · rw [List.getElem?_set_ne hij] at hj
    have := h.lt _ hj
    omega
/-- Some of them, in another order. -/
theorem Kg.sel (h : Kg row w0 w l) (idx : List Nat) (hn : idx.Nodup) : Kg row w0 w (idx.map fun i => (l[i]?).getD none) := by
  have ht : ∀ (i b : Nat) (o : Obj), (idx.map fun i => (l[i]?).getD none)[i]? = some (some (b, o)) → ∃ j, idx[i]? = some j ∧ l[j]? = some (some (b, o)) := fun i b o hi => by
    rw [List.getElem?_map] at hi
    cases hx : idx[i]? with
    | none => rw [hx] at hi; cases hi
    | some j =>
      rw [hx] at hi
      simp only [Option.map_some, Option.some.injEq] at hi
      refine ⟨j, rfl, ?_⟩
      cases hy : l[j]? with
      | none => rw [hy] at hi; cases hi
      | some z => rw [hy] at hi; simp only [Option.getD_some] at hi; rw [hi]
  refine ⟨h.1, fun i b o hi => ?_, fun i j b c o p hi hj hij => ?_⟩
  · obtain ⟨k, _, hk⟩ := ht i b o hi
    exact h.2.1 k b o hk
  · obtain ⟨k, hk1, hk⟩ := ht i b o hi
    obtain ⟨m, hm1, hm⟩ := ht j c p hj
    refine h.2.2 k m b c o p hk hm ?_
    rintro rfl
    obtain ⟨l1, e1⟩ := List.getElem?_eq_some_iff.1 hk1
    obtain ⟨l2, e2⟩ := List.getElem?_eq_some_iff.1 hm1
    rcases Nat.lt_or_gt_of_ne hij with h3 | h3
    · exact List.pairwise_iff_getElem.1 hn i j l1 l2 h3 (e1.trans e2.symm)
    · exact List.pairwise_iff_getElem.1 hn j i l2 l1 h3 (e2.trans e1.symm)
end
theorem Kept.grownNew {B : Nat} {V W X : World} {g : Nat} (h : Kept B V W) (hb : W.grownBy X (some g)) (hg : V.heap.size ≤ g) : Kept B V X :=
  ⟨Nat.le_trans h.1 hb.size, fun i h1 h2 => (hb.block i (Nat.lt_of_lt_of_le h2 h.1) (fun e => by cases e; omega)).trans (h.2 i h1 h2)⟩
theorem Lw.rdw {w : World} {g : Nat} {zs : List (Bool × ByteArray)} (h : Lw w g zs) : RdW w (some ⟨g, 0, none⟩) zs := fun k hk =>
  ⟨_, rfl, heap_lt h, by rw [add_from0]; exact h.cell0 k hk, by rw [add_from0]; exact h.cell1 k hk⟩

theorem isSquare_any (r c : Int) (A : Option Addr) (n cap : Nat) (zs : List (Bool × ByteArray)) (w : World) (hr : RdW w A zs) (hn : zs.length = n) (hm : n ≤ maxLen) :
    Calls Tryz.prog 64 #[mat r c A n cap] w fun e w' => e = .returned (.bool (mright r c zs && r == c)) ∧ Below w.heap.size w w' := by
  have hbel : Below w.heap.size w (w.alloc (mrow r c A n cap)) := (Below.refl _ _).alloc (Nat.le_refl _) _
  have hR := Right_any r c A n cap zs (w.alloc (mrow r c A n cap)) (hr.below hbel) hn hm
  have hB : Mb (w.alloc (mrow r c A n cap)) w.heap.size r c A n cap := Mb.new _ _ _ _ _ _
  have c0 := hB.cell0
  have c1 := hB.cell1
  have c2 := hB.cell2
  unfold mat at *
  generalize mright r c zs = b at *
  have HR := Lib.hid hR
  clear hR hr
  go_enter Tryz.func64, Tryz.ntmps64
  go_wp2_with fail
  change Calls _ _ _ (w.alloc (mrow r c A n cap)) _
  with_reducible refine HR.out.mono ?_
  rintro e w1 ⟨rfl, hb1⟩
  have hB1 := hB.below hb1 hB.lt
  clear c0 c1 c2
  have c0 := hB1.cell0
  have c1 := hB1.cell1
  have hbe := hbel.trans (hb1.mono (by simp))
  cases b with
  | false =>
    go_wp2
    go_ret
    exact ⟨rfl, hbe⟩
  | true =>
    go_wp2
    go_ret
    exact ⟨by simp, hbe⟩
end Go.Proofs.YtknaghdoffigjaaGreatDoor
