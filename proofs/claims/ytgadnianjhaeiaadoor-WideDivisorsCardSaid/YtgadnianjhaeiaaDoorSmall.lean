/-
  The contracts of wide.small, Sign, Neg, compareSizes, Cmp and Int.
-/
import Derived.Test.YtgadnianjhaeiaaDoorFrom
namespace Go.Proofs.YtgadnianjhaeiaaDoor
open Go.RowKit

theorem pow7 : (256 : Nat) ^ 7 = 72057594037927936 := by rfl
theorem bval_small (s : ByteArray) (h : s.size ≤ 7) : bval s.data.toList < 72057594037927936 := by
  have h1 := bval_lt s.data.toList
  have h2 : (256 : Nat) ^ s.data.toList.length ≤ 256 ^ 7 := Nat.pow_le_pow_right (by omega) (by rw [← Lib.size_eq]; exact h)
  rw [pow7] at h2
  omega

set_option maxHeartbeats 1000000 in
theorem small_yes (x : Bool) (s : ByteArray) (w : World) (hs : s.size ≤ 7) :
    Calls Tryd.prog 42 #[.agg #[.bool x, .string s]] w fun e w' => e = .returned (.tuple #[.int .i64 (wint x s), .bool true]) ∧ Below w.heap.size w w' := by
  have hp := partOf_any s (w.alloc (.cells #[.bool x, .string s] 27)) (by omega)
  have hb := bval_small s hs
  have hw : wint x s = if x then -(bval s.data.toList : Int) else bval s.data.toList := rfl
  generalize bval s.data.toList = N at *
  have HP := Lib.hid hp
  have HW := Lib.hid hw
  clear hp hw
  cases x
  all_goals
    go_enter Tryd.func42, Tryd.ntmps42
    go_wp2_with fail
    with_reducible refine HP.out.mono ?_
    rintro e w' ⟨rfl, rfl⟩
    go_wp2
    go_ret2
    exact ⟨by rw [HW.out]; rfl, (Below.refl _ _).alloc (Nat.le_refl _) _⟩

set_option maxHeartbeats 1000000 in
theorem small_no (x : Bool) (s : ByteArray) (w : World) (hs : 7 < s.size) (hm : s.size ≤ maxLen) :
    Calls Tryd.prog 42 #[.agg #[.bool x, .string s]] w fun e w' => e = .returned (.tuple #[.int .i64 0, .bool false]) ∧ Below w.heap.size w w' := by
  unfold maxLen at hm
  go_enter Tryd.func42, Tryd.ntmps42
  go_wp2
  go_ret2
  exact ⟨rfl, (Below.refl _ _).alloc (Nat.le_refl _) _⟩

theorem wint_zero (x : Bool) (s : ByteArray) : wint x s = 0 ↔ canon (bval s.data.toList) = [] := by
  rw [canon_eq_nil]; unfold wint; cases x <;> simp

theorem canon_empty (N : Nat) (h : N = 0) : bstr (canon N) = ⟨#[]⟩ := by subst h; rfl
theorem canon_full (N : Nat) (h : N ≠ 0) : (bstr (canon N)).toList.isEmpty = false := by
  rw [Lib.toList_data, bstr_data]
  cases hc : canon N with
  | nil => exact absurd (canon_eq_nil.1 hc) h
  | cons a l => rfl

set_option maxHeartbeats 1000000 in
theorem Sign_any (x : Bool) (s : ByteArray) (w : World) (hs : s.size ≤ maxLen) :
    Calls Tryd.prog 20 #[.agg #[.bool x, .string s]] w fun e w' => e = .returned (.int .i64 (wint x s).sign) ∧ Below w.heap.size w w' := by
  have hp := significant_any s (w.alloc (.cells #[.bool x, .string s] 27)) hs
  have hw : wint x s = if x then -(bval s.data.toList : Int) else bval s.data.toList := rfl
  generalize bval s.data.toList = N at *
  have HP := Lib.hid hp
  have HW := Lib.hid hw
  clear hp hw
  by_cases h0 : N = 0
  · have hsg : (wint x s).sign = 0 := by rw [HW.out, h0]; cases x <;> rfl
    have HS := Lib.hid hsg
    have hc := Lib.hid (canon_empty N h0)
    clear h0 hsg
    rw [hc.out] at HP
    go_enter Tryd.func20, Tryd.ntmps20
    go_wp2_with fail
    with_reducible refine HP.out.mono ?_
    rintro e w' ⟨rfl, rfl⟩
    go_wp2
    go_ret
    exact ⟨by rw [HS.out]; rfl, (Below.refl _ _).alloc (Nat.le_refl _) _⟩
  · have hf := canon_full N h0
    have hsg : (wint x s).sign = if x then -1 else 1 := by
      rw [HW.out]; cases x
      · exact Int.sign_eq_one_of_pos (by simp; omega)
      · exact Int.sign_eq_neg_one_of_neg (by simp; omega)
    have HS := Lib.hid hsg
    clear h0 hsg
    generalize bstr (canon N) = S at *
    cases x
    all_goals
      go_enter Tryd.func20, Tryd.ntmps20
      go_wp2_with fail
      with_reducible refine HP.out.mono ?_
      rintro e w' ⟨rfl, rfl⟩
      go_wp2
      go_ret
      exact ⟨by rw [HS.out]; rfl, (Below.refl _ _).alloc (Nat.le_refl _) _⟩

theorem Wd.new1 (w : World) (o : Obj) (x : Bool) (s : ByteArray) : Wd ((w.alloc o).alloc (.cells #[.bool x, .string s] 27)) (w.heap.size + 1) x s := by
  have := Wd.new (w.alloc o) x s
  simpa using this
theorem Wd.new2 (w : World) (o p : Obj) (x : Bool) (s : ByteArray) : Wd (((w.alloc o).alloc p).alloc (.cells #[.bool x, .string s] 27)) (w.heap.size + 2) x s := by
  have := Wd.new ((w.alloc o).alloc p) x s
  simpa using this
theorem below2 (w : World) (o p : Obj) : Below w.heap.size w ((w.alloc o).alloc p) := ((Below.refl _ _).alloc (Nat.le_refl _) _).alloc (by simp) _
theorem below3 (w : World) (o p q : Obj) : Below w.heap.size w (((w.alloc o).alloc p).alloc q) := (below2 w o p).alloc (by simp; omega) _
theorem wint_false (s : ByteArray) : wint false s = (bval s.data.toList : Int) := rfl
theorem wint_true (s : ByteArray) : wint true s = -(bval s.data.toList : Int) := rfl
theorem wv_nat (N : Nat) : wv (N : Int) = .agg #[.bool false, .string (bstr (canon N))] := by
  unfold wv
  have : decide ((N : Int) < 0) = false := by simp
  rw [this, Int.natAbs_natCast]
theorem wv_neg (N : Nat) : wv (-(N : Int)) = .agg #[.bool (decide (N ≠ 0)), .string (bstr (canon N))] := by
  unfold wv
  have : decide (-(N : Int) < 0) = decide (N ≠ 0) := by
    by_cases h : N = 0
    · subst h; rfl
    · have a1 : decide (-(N : Int) < 0) = true := by simp; omega
      have a2 : decide (N ≠ 0) = true := by simp; omega
      rw [a1, a2]
  rw [this, Int.natAbs_neg, Int.natAbs_natCast]

set_option maxHeartbeats 1000000 in
theorem Neg_any (x : Bool) (s : ByteArray) (w : World) (hs : s.size ≤ maxLen) :
    Calls Tryd.prog 18 #[.agg #[.bool x, .string s]] w fun e w' => e = .returned (wv (-wint x s)) ∧ Below w.heap.size w w' := by
  have hp := fun W => significant_any s W hs
  have hsg : wv (-wint x s) = .agg #[.bool (!x && decide (bval s.data.toList ≠ 0)), .string (bstr (canon (bval s.data.toList)))] := by
    cases x
    · rw [wint_false, wv_neg]; simp
    · rw [wint_true, Int.neg_neg, wv_nat]; simp
  generalize bval s.data.toList = N at *
  have HP := Lib.hid hp
  have HS := Lib.hid hsg
  clear hp hsg
  by_cases h0 : N = 0
  · have hc := Lib.hid (canon_empty N h0)
    have hdec : decide (N ≠ 0) = false := by simp [h0]
    rw [hdec, Bool.and_false] at HS
    clear h0 hdec
    rw [hc.out] at HP HS
    cases x
    all_goals
      go_enter Tryd.func18, Tryd.ntmps18
      go_wp2_with fail
      with_reducible refine (HP.out _).mono ?_
      rintro e w' ⟨rfl, rfl⟩
      go_wp2
      exact post_wide (b := w.heap.size + 1) rfl rfl (Wd.new1 _ _ _ _) rfl ⟨by rw [HS.out], below2 _ _ _⟩
  · have hf := canon_full N h0
    have hdec : decide (N ≠ 0) = true := by simp [h0]
    rw [hdec, Bool.and_true] at HS
    clear h0 hdec
    generalize bstr (canon N) = S at *
    cases x
    all_goals
      go_enter Tryd.func18, Tryd.ntmps18
      go_wp2_with fail
      with_reducible refine (HP.out _).mono ?_
      rintro e w' ⟨rfl, rfl⟩
      go_wp2
      exact post_wide (b := w.heap.size + 1) rfl rfl (Wd.new1 _ _ _ _) rfl ⟨by rw [HS.out]; rfl, below2 _ _ _⟩
end Go.Proofs.YtgadnianjhaeiaaDoor
