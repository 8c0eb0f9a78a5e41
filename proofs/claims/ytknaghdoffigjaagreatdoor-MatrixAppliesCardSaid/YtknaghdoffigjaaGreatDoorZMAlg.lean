import Derived.Test.YtknaghdoffigjaaGreatDoorZMMulW
import Derived.Test.YtknaghdoffigjaaGreatDoorMAddm
import Derived.Test.YtknaghdoffigjaaGreatDoorZMTurn
import Derived.Test.YtknaghdoffigjaaGreatDoorZRDig
set_option linter.unusedSimpArgs false
set_option linter.unusedVariables false
set_option linter.unnecessarySimpa false
namespace Go.Proofs.YtknaghdoffigjaaGreatDoor
open Go.RowKit Go
theorem mapAt (f : Nat → Int) (n k : Nat) (h : k < n) : ((List.range n).map f).getD k 0 = f k := by
 rw [List.getD_eq_getElem?_getD, List.getElem?_map, List.getElem?_range h]
 rfl
theorem getD_none (xs : List Int) (k : Nat) (h : xs.length ≤ k) : xs.getD k 0 = 0 := by
 rw [List.getD_eq_getElem?_getD, List.getElem?_eq_none h]
 rfl
theorem wth_size (Ls : List Int) (n : Nat) (hb : ∀ j, -9223372036854775808 ≤ Ls.getD j 0 ∧ Ls.getD j 0 ≤ 9223372036854775807) (k : Nat) : (wmag ((wth Ls n).getD k 0)).size ≤ 8 := by
 refine wmag_size _ 8 ?_
 rcases Nat.lt_or_ge k n with h | h
 ·unfold wth
  rw [mapAt _ _ _ h]
  have := hb ((k + k / Ls.length) % Ls.length)
  unfold wthE
  rw [pow8]
  omega
 ·rw [getD_none _ _ (by rw [wth_length]; exact h), pow8]
  decide
end Go.Proofs.YtknaghdoffigjaaGreatDoor
namespace Go.Proofs.YtknaghdoffigjaaGreatDoor
theorem qval_take_succ (xs : List Nat) (i : Nat) : qval (xs.take (i + 1)) = qval (xs.take i) + C16 ^ i * xs.getD i 0 := by
 by_cases hi : i < xs.length
 ·rw [List.take_succ_eq_append_getElem hi, qval_snoc, List.length_take, Nat.min_eq_left (by omega), List.getD_eq_getElem?_getD, List.getElem?_eq_getElem hi]
  rfl
 ·rw [List.take_of_length_le (by omega), List.take_of_length_le (by omega), List.getD_eq_getElem?_getD, List.getElem?_eq_none (by omega)]
  simp
theorem getD_big (xs : List Nat) (i : Nat) (h : xs.length ≤ i) : xs.getD i 0 = 0 := by
 rw [List.getD_eq_getElem?_getD, List.getElem?_eq_none h]; rfl
theorem carry_step (D xs ys : List Nat) (c d r q i : Nat) (hD : D.length = i) (h : qval D + C16 ^ i * c = qval (xs.take i) + qval (ys.take i)) (hd : d = c + xs.getD i 0 + ys.getD i 0) (hr : d % 65536 = r) (hq : d / 65536 = q) :
  qval (D ++ [r]) + C16 ^ (i + 1) * q = qval (xs.take (i + 1)) + qval (ys.take (i + 1)) := by
 rw [qval_snoc, hD, qval_take_succ, qval_take_succ, Nat.pow_succ, Nat.mul_assoc]
 have e : d = r + C16 * q := by rw [C16_eq]; omega
 have e2 : C16 ^ i * d = C16 ^ i * r + C16 ^ i * (C16 * q) := by rw [e, Nat.mul_add]
 have e3 : C16 ^ i * d = C16 ^ i * c + C16 ^ i * xs.getD i 0 + C16 ^ i * ys.getD i 0 := by rw [hd, Nat.mul_add, Nat.mul_add]
 omega
theorem borrow_step (D xs ys : List Nat) (b b' d i : Nat) (hD : D.length = i) (h : qval D + qval (ys.take i) = qval (xs.take i) + C16 ^ i * b) (hd : d + b + ys.getD i 0 = xs.getD i 0 + 65536 * b') :
  qval (D ++ [d]) + qval (ys.take (i + 1)) = qval (xs.take (i + 1)) + C16 ^ (i + 1) * b' := by
 rw [qval_snoc, hD, qval_take_succ, qval_take_succ, Nat.pow_succ, Nat.mul_assoc]
 rw [← C16_eq] at hd
 have e := congrArg (fun z => C16 ^ i * z) hd
 simp only [Nat.mul_add] at e
 omega
theorem borrow_end (D xs ys : List Nat) (b n : Nat) (hq : Qds D) (hD : D.length = n) (hx : xs.length = n) (hy : ys.length ≤ n) (h : qval D + qval (ys.take n) = qval (xs.take n) + C16 ^ n * b) (hle : qval ys ≤ qval xs) : qval D = qval xs - qval ys := by
 rw [List.take_of_length_le hy, List.take_of_length_le (by omega)] at h
 have h1 := qval_lt hq
 rw [hD] at h1
 cases b with
 | zero => rw [Nat.mul_zero] at h; omega
 | succ b => rw [Nat.mul_succ] at h; omega
theorem qval_set (L : List Nat) (j v : Nat) (h : j < L.length) : qval (L.set j v) + C16 ^ j * L.getD j 0 = qval L + C16 ^ j * v := by
 induction L generalizing j with
 | nil => simp at h
 | cons x l ih =>
  cases j with
  | zero => simp [qval]; omega
  | succ j =>
   have := ih j (by simpa using h)
   simp only [List.set_cons_succ, qval, List.getD_cons_succ, Nat.pow_succ]
   have e := congrArg (fun z => C16 * z) this
   simp only [Nat.mul_add] at e
   have a1 : C16 ^ j * C16 * l.getD j 0 = C16 * (C16 ^ j * l.getD j 0) := by rw [Nat.mul_comm (C16 ^ j) C16, Nat.mul_assoc]
   have a2 : C16 ^ j * C16 * v = C16 * (C16 ^ j * v) := by rw [Nat.mul_comm (C16 ^ j) C16, Nat.mul_assoc]
   rw [a1, a2]
   omega
theorem Qds.set {L : List Nat} (h : Qds L) (j v : Nat) (hv : v < C16) : Qds (L.set j v) := by
 intro y hy
 rcases List.mem_or_eq_of_mem_set hy with hy | rfl
 ·exact h y hy
 ·exact hv
theorem Qds.zeros (n : Nat) : Qds (List.replicate n 0) := by
 intro y hy
 rw [List.eq_of_mem_replicate hy]; exact C16_pos
theorem qval_zeros (n : Nat) : qval (List.replicate n 0) = 0 := by
 induction n with
 | zero => rfl
 | succ n ih => rw [List.replicate_succ, qval, ih, Nat.mul_zero]
theorem getD_zeros (n j : Nat) : (List.replicate n 0).getD j 0 = 0 := by
 rw [List.getD_eq_getElem?_getD, List.getElem?_replicate]
 split <;> rfl
theorem getD_set_ne (L : List Nat) (i j v : Nat) (h : i ≠ j) : (L.set i v).getD j 0 = L.getD j 0 := by
 rw [List.getD_eq_getElem?_getD, List.getD_eq_getElem?_getD, List.getElem?_set_ne h]
theorem mul_step (L ys : List Nat) (M x y c d r q i k : Nat) (hj : i + k < L.length) (h : qval L + C16 ^ (i + k) * c = M + C16 ^ i * (x * qval (ys.take k))) (hy : ys.getD k 0 = y) (hd : d = L.getD (i + k) 0 + x * y + c) (hr : d % 65536 = r) (hq : d / 65536 = q) :
  qval (L.set (i + k) r) + C16 ^ (i + (k + 1)) * q = M + C16 ^ i * (x * qval (ys.take (k + 1))) := by
 have hs := qval_set L (i + k) r hj
 have e : d = r + C16 * q := by rw [C16_eq]; omega
 have e2 : C16 ^ (i + k) * d = C16 ^ (i + k) * r + C16 ^ (i + k) * (C16 * q) := by rw [e, Nat.mul_add]
 have e3 : C16 ^ (i + k) * d = C16 ^ (i + k) * L.getD (i + k) 0 + C16 ^ (i + k) * (x * y) + C16 ^ (i + k) * c := by rw [hd, Nat.mul_add, Nat.mul_add]
 rw [qval_take_succ, hy, ← Nat.add_assoc, Nat.pow_succ, Nat.mul_assoc, Nat.mul_add, Nat.mul_add]
 have e4 : C16 ^ i * (x * (C16 ^ k * y)) = C16 ^ (i + k) * (x * y) := by
  rw [Nat.pow_add, Nat.mul_left_comm x, Nat.mul_assoc]
 omega
theorem mul_row (L xs ys : List Nat) (m c x i : Nat) (hy : ys.length = m) (hj : i + m < L.length) (h0 : L.getD (i + m) 0 = 0) (hx : xs.getD i 0 = x) (h : qval L + C16 ^ (i + m) * c = qval (xs.take i) * qval ys + C16 ^ i * (x * qval (ys.take m))) :
  qval (L.set (i + m) c) = qval (xs.take (i + 1)) * qval ys := by
 have hs := qval_set L (i + m) c hj
 rw [h0, Nat.mul_zero, Nat.add_zero] at hs
 rw [List.take_of_length_le (l := ys) (by omega)] at h
 rw [hs, h, qval_take_succ, hx, Nat.add_mul, Nat.mul_assoc]
def sgn2 (m n : Nat) : Int := if m < n then -1 else if m = n then 0 else 1
theorem qval_low {xs : List Nat} (h : ptrim xs = xs) (hn : xs ≠ []) : C16 ^ (xs.length - 1) ≤ qval xs := by
 have hl : 0 < xs.length := List.length_pos_iff.2 hn
 have h1 := last_ne h (xs.length - 1) (by omega)
 have h2 := qval_take_succ xs (xs.length - 1)
 rw [List.take_of_length_le (by omega)] at h2
 have : C16 ^ (xs.length - 1) * 1 ≤ C16 ^ (xs.length - 1) * xs.getD (xs.length - 1) 0 := Nat.mul_le_mul_left _ (by omega)
 omega
theorem qval_shorter {xs ys : List Nat} (hx : Qds xs) (h : ptrim ys = ys) (hl : xs.length < ys.length) : qval xs < qval ys := by
 have h1 := qval_lt hx
 have h2 := qval_low h (by intro e; rw [e] at hl; simp at hl)
 have h3 : C16 ^ xs.length ≤ C16 ^ (ys.length - 1) := Nat.pow_le_pow_right C16_pos (by omega)
 omega
theorem Qds.take {xs : List Nat} (h : Qds xs) (i : Nat) : Qds (xs.take i) := fun x hx => h x (List.mem_of_mem_take hx)
theorem qval_split (xs : List Nat) (i : Nat) (h : i < xs.length) : qval xs = qval (xs.take i) + C16 ^ i * (xs.getD i 0 + C16 * qval (xs.drop (i + 1))) := by
 have h1 := qval_append (xs.take i) (xs.drop i)
 rw [List.take_append_drop, List.length_take, Nat.min_eq_left (by omega), qval_drop xs i h] at h1
 exact h1
theorem digit_less {xs ys : List Nat} (hx : Qds xs) (i : Nat) (h1 : i < xs.length) (h2 : i < ys.length) (hd : xs.drop (i + 1) = ys.drop (i + 1)) (h : xs.getD i 0 < ys.getD i 0) : qval xs < qval ys := by
 rw [qval_split xs i h1, qval_split ys i h2, hd]
 have h3 := qval_lt (hx.take i)
 rw [List.length_take, Nat.min_eq_left (by omega)] at h3
 have h4 : C16 ^ i * (xs.getD i 0 + 1 + C16 * qval (ys.drop (i + 1))) ≤ C16 ^ i * (ys.getD i 0 + C16 * qval (ys.drop (i + 1))) := Nat.mul_le_mul_left _ (by omega)
 rw [show xs.getD i 0 + 1 + C16 * qval (ys.drop (i + 1)) = (xs.getD i 0 + C16 * qval (ys.drop (i + 1))) + 1 from by omega, Nat.mul_add, Nat.mul_one] at h4
 omega
theorem drop_same {xs ys : List Nat} (i : Nat) (h1 : i < xs.length) (h2 : i < ys.length) (hd : xs.drop (i + 1) = ys.drop (i + 1)) (h : xs.getD i 0 = ys.getD i 0) : xs.drop i = ys.drop i := by
 rw [List.drop_eq_getElem_cons h1, List.drop_eq_getElem_cons h2, hd]
 rw [List.getD_eq_getElem?_getD, List.getElem?_eq_getElem h1, List.getD_eq_getElem?_getD, List.getElem?_eq_getElem h2] at h
 simp only [Option.getD_some] at h
 rw [h]
end Go.Proofs.YtknaghdoffigjaaGreatDoor
