/-
  Plain mathematics: digits to the base 65536, the least significant one first. No program stands in this text.
-/
import Derived.Test.YtgadnianjhaeiaaDoorNum
namespace Go.Proofs.YtgadnianjhaeiaaDoor

/- Digits to the base 65536, the least significant one first. -/
def C16 : Nat := 65536
theorem C16_eq : C16 = 65536 := rfl
def qval : List Nat → Nat
  | [] => 0
  | x :: l => x + C16 * qval l
def Qds (l : List Nat) : Prop := ∀ x ∈ l, x < C16
def qdsF : Nat → Nat → List Nat
  | 0, _ => []
  | f + 1, n => if n = 0 then [] else n % C16 :: qdsF f (n / C16)
/-- The digits of n, without zeros at the end. -/
def qds (n : Nat) : List Nat := qdsF n n

theorem C16_pos : 0 < C16 := by rw [C16_eq]; omega
theorem div_lt_C16 {n : Nat} (h : n ≠ 0) : n / C16 < n := Nat.div_lt_self (by omega) (by rw [C16_eq]; omega)
theorem qdsF_any (f g n : Nat) (hf : n ≤ f) (hg : n ≤ g) : qdsF f n = qdsF g n := by
  induction f generalizing g n with
  | zero => obtain rfl : n = 0 := by omega
            cases g <;> simp [qdsF]
  | succ f ih =>
    cases g with
    | zero => obtain rfl : n = 0 := by omega
              simp [qdsF]
    | succ g =>
      simp only [qdsF]
      by_cases h : n = 0
      · simp [h]
      · have := div_lt_C16 h
        rw [if_neg h, if_neg h, ih g _ (by omega) (by omega)]
theorem qds_zero : qds 0 = [] := rfl
theorem qds_step (n : Nat) (h : n ≠ 0) : qds n = n % C16 :: qds (n / C16) := by
  unfold qds
  have := div_lt_C16 h
  cases n with
  | zero => exact absurd rfl h
  | succ n =>
    rw [show qdsF (n + 1) (n + 1) = (n + 1) % C16 :: qdsF n ((n + 1) / C16) from by simp [qdsF], qdsF_any n _ _ (by omega) (Nat.le_refl _)]
theorem qval_qds (n : Nat) : qval (qds n) = n := by
  induction n using Nat.strongRecOn with
  | ind n ih =>
    by_cases h : n = 0
    · subst h; rfl
    · rw [qds_step n h, qval, ih _ (div_lt_C16 h)]
      exact Nat.mod_add_div n C16
theorem qds_qds (n : Nat) : Qds (qds n) := by
  induction n using Nat.strongRecOn with
  | ind n ih =>
    by_cases h : n = 0
    · subst h; intro x hx; simp [qds_zero] at hx
    · rw [qds_step n h]
      intro x hx
      rcases List.mem_cons.1 hx with rfl | hx
      · exact Nat.mod_lt _ C16_pos
      · exact ih _ (div_lt_C16 h) x hx
theorem Qds.tail {x : Nat} {l : List Nat} (h : Qds (x :: l)) : Qds l := fun y hy => h y (List.mem_cons_of_mem _ hy)
theorem Qds.head {x : Nat} {l : List Nat} (h : Qds (x :: l)) : x < C16 := h x List.mem_cons_self
theorem Qds.nil : Qds [] := by intro x hx; cases hx
theorem Qds.cons {x : Nat} {l : List Nat} (h : x < C16) (hl : Qds l) : Qds (x :: l) := by
  intro y hy
  rcases List.mem_cons.1 hy with rfl | hy
  · exact h
  · exact hl y hy
theorem Qds.getD {l : List Nat} (h : Qds l) (k : Nat) : l.getD k 0 < C16 := by
  by_cases hk : k < l.length
  · rw [List.getD_eq_getElem?_getD, List.getElem?_eq_getElem hk]; exact h _ (List.getElem_mem hk)
  · rw [List.getD_eq_getElem?_getD, List.getElem?_eq_none (by omega)]; exact C16_pos
theorem ptrim_qds {l : List Nat} (h : Qds l) : ptrim l = qds (qval l) := by
  induction l with
  | nil => rfl
  | cons x l ih =>
    have hx := h.head
    have ih := ih h.tail
    have hm : (x + C16 * qval l) % C16 = x := by rw [Nat.add_mul_mod_self_left, Nat.mod_eq_of_lt hx]
    have hd : (x + C16 * qval l) / C16 = qval l := by rw [Nat.add_mul_div_left _ _ C16_pos, Nat.div_eq_of_lt hx, Nat.zero_add]
    by_cases h0 : qval l = 0
    · have : ptrim l = [] := by rw [ih, h0, qds_zero]
      simp only [ptrim, this, qval]
      by_cases hx0 : x = 0
      · simp [hx0, h0, qds_zero]
      · rw [if_neg hx0, h0, Nat.mul_zero, Nat.add_zero, qds_step x hx0, Nat.mod_eq_of_lt hx, Nat.div_eq_of_lt hx, qds_zero]
    · have hne : x + C16 * qval l ≠ 0 := by
        have : 0 < C16 * qval l := Nat.mul_pos C16_pos (by omega)
        omega
      rw [qval, qds_step _ hne, hm, hd, ptrim]
      have : qds (qval l) ≠ [] := by rw [qds_step _ h0]; simp
      rw [ih]
      cases hl : qds (qval l) with
      | nil => exact absurd hl this
      | cons y r => rfl
theorem qds_eq_nil {n : Nat} : qds n = [] ↔ n = 0 := by
  constructor
  · intro h; have := qval_qds n; rw [h] at this; exact this.symm
  · rintro rfl; rfl
theorem qval_append (a b : List Nat) : qval (a ++ b) = qval a + C16 ^ a.length * qval b := by
  induction a with
  | nil => simp [qval]
  | cons x a ih => rw [List.cons_append, qval, ih, qval, List.length_cons, Nat.pow_succ, Nat.mul_add, Nat.add_assoc, Nat.mul_comm (C16 ^ a.length) C16, Nat.mul_assoc]
theorem qval_snoc (a : List Nat) (x : Nat) : qval (a ++ [x]) = qval a + C16 ^ a.length * x := by rw [qval_append]; simp [qval]
theorem qval_lt {l : List Nat} (h : Qds l) : qval l < C16 ^ l.length := by
  induction l with
  | nil => simp [qval]
  | cons x l ih =>
    have := ih h.tail
    have hx := h.head
    rw [qval, List.length_cons, Nat.pow_succ, Nat.mul_comm _ C16]
    have : C16 * (qval l + 1) ≤ C16 * C16 ^ l.length := Nat.mul_le_mul_left _ this
    rw [Nat.mul_add, Nat.mul_one] at this
    omega
end Go.Proofs.YtgadnianjhaeiaaDoor
