/-
  The contracts of wide.small, Sign, Neg, compareSizes, Cmp and Int. The contracts of wide.compareSizes, Cmp and Int. The contract of wide.Add.
-/
import Derived.Test.YtknaghdoffigjaaGreatDoorZParts
import Derived.Lib.Bytealg
import Derived.Deep.RegionHeld3
set_option linter.unusedSimpArgs false
set_option linter.unusedVariables false
set_option linter.unnecessarySimpa false
namespace Go.Proofs.YtknaghdoffigjaaGreatDoor
open Go.RowKit

theorem pow7 : (256 : Nat) ^ 7 = 72057594037927936 := by rfl
theorem bval_small (s : ByteArray) (h : s.size ≤ 7) : bval s.data.toList < 72057594037927936 := by
  have h1 := bval_lt s.data.toList
  have h2 : (256 : Nat) ^ s.data.toList.length ≤ 256 ^ 7 := Nat.pow_le_pow_right (by omega) (by rw [← Lib.size_eq]; exact h)
  rw [pow7] at h2
  omega

set_option maxHeartbeats 1000000 in
theorem small_yes (x : Bool) (s : ByteArray) (w : World) (hs : s.size ≤ 7) :
    Calls Tryz.prog 95 #[.agg #[.bool x, .string s]] w fun e w' => e = .returned (.tuple #[.int .i64 (wint x s), .bool true]) ∧ Below w.heap.size w w' := by
  have hp := partOf_any s (w.alloc (.cells #[.bool x, .string s] 32)) (by omega)
  have hb := bval_small s hs
  have hw : wint x s = if x then -(bval s.data.toList : Int) else bval s.data.toList := rfl
  generalize bval s.data.toList = N at *
  have HP := Lib.hid hp
  have HW := Lib.hid hw
  clear hp hw
  cases x
  all_goals
    go_enter Tryz.func95, Tryz.ntmps95
    go_wp2_with fail
    with_reducible refine HP.out.mono ?_
    rintro e w' ⟨rfl, rfl⟩
    go_wp2
    go_ret2
    exact ⟨by rw [HW.out]; rfl, (Below.refl _ _).alloc (Nat.le_refl _) _⟩

set_option maxHeartbeats 1000000 in
theorem small_no (x : Bool) (s : ByteArray) (w : World) (hs : 7 < s.size) (hm : s.size ≤ maxLen) :
    Calls Tryz.prog 95 #[.agg #[.bool x, .string s]] w fun e w' => e = .returned (.tuple #[.int .i64 0, .bool false]) ∧ Below w.heap.size w w' := by
  unfold maxLen at hm
  go_enter Tryz.func95, Tryz.ntmps95
  go_wp2
  go_ret2
  exact ⟨rfl, (Below.refl _ _).alloc (Nat.le_refl _) _⟩

theorem canon_empty (N : Nat) (h : N = 0) : bstr (canon N) = ⟨#[]⟩ := by subst h; rfl
theorem canon_full (N : Nat) (h : N ≠ 0) : (bstr (canon N)).toList.isEmpty = false := by
  rw [Lib.toList_data, bstr_data]
  cases hc : canon N with
  | nil => exact absurd (canon_eq_nil.1 hc) h
  | cons a l => rfl

set_option maxHeartbeats 1000000 in
theorem Sign_any (x : Bool) (s : ByteArray) (w : World) (hs : s.size ≤ maxLen) :
    Calls Tryz.prog 74 #[.agg #[.bool x, .string s]] w fun e w' => e = .returned (.int .i64 (wint x s).sign) ∧ Below w.heap.size w w' := by
  have hp := significant_any s (w.alloc (.cells #[.bool x, .string s] 32)) hs
  have hw : wint x s = if x then -(bval s.data.toList : Int) else bval s.data.toList := rfl
  generalize bval s.data.toList = N at *
  have HP := Lib.hid hp
  have HW := Lib.hid hw
  clear hp hw
  by_cases h0 : N = 0
  · have hsg : (wint x s).sign = 0 := by rw [HW.out, h0]; cases x <;> rfl
    have HS := Lib.hid hsg
    have hc := Lib.hid (canon_empty N h0)
    clear h0 hsg
    rw [hc.out] at HP
    go_enter Tryz.func74, Tryz.ntmps74
    go_wp2_with fail
    with_reducible refine HP.out.mono ?_
    rintro e w' ⟨rfl, rfl⟩
    go_wp2
    go_ret
    exact ⟨by rw [HS.out]; rfl, (Below.refl _ _).alloc (Nat.le_refl _) _⟩
  · have hf := canon_full N h0
    have hsg : (wint x s).sign = if x then -1 else 1 := by
      rw [HW.out]; cases x
      · exact Int.sign_eq_one_of_pos (by simp; omega)
      · exact Int.sign_eq_neg_one_of_neg (by simp; omega)
    have HS := Lib.hid hsg
    clear h0 hsg
    generalize bstr (canon N) = S at *
    cases x
    all_goals
      go_enter Tryz.func74, Tryz.ntmps74
      go_wp2_with fail
      with_reducible refine HP.out.mono ?_
      rintro e w' ⟨rfl, rfl⟩
      go_wp2
      go_ret
      exact ⟨by rw [HS.out]; rfl, (Below.refl _ _).alloc (Nat.le_refl _) _⟩

theorem Wd.new1 (w : World) (o : Obj) (x : Bool) (s : ByteArray) : Wd ((w.alloc o).alloc (.cells #[.bool x, .string s] 32)) (w.heap.size + 1) x s := by
  have := Wd.new (w.alloc o) x s
  simpa using this
theorem below2 (w : World) (o p : Obj) : Below w.heap.size w ((w.alloc o).alloc p) := ((Below.refl _ _).alloc (Nat.le_refl _) _).alloc (by simp) _
theorem wint_false (s : ByteArray) : wint false s = (bval s.data.toList : Int) := rfl
theorem wint_true (s : ByteArray) : wint true s = -(bval s.data.toList : Int) := rfl
theorem wv_nat (N : Nat) : wv (N : Int) = .agg #[.bool false, .string (bstr (canon N))] := by
  unfold wv
  have : decide ((N : Int) < 0) = false := by simp
  rw [this, Int.natAbs_natCast]
theorem wv_neg (N : Nat) : wv (-(N : Int)) = .agg #[.bool (decide (N ≠ 0)), .string (bstr (canon N))] := by
  unfold wv
  have : decide (-(N : Int) < 0) = decide (N ≠ 0) := by
    by_cases h : N = 0
    · subst h; rfl
    · have a1 : decide (-(N : Int) < 0) = true := by simp; omega
      have a2 : decide (N ≠ 0) = true := by simp; omega
      rw [a1, a2]
  rw [this, Int.natAbs_neg, Int.natAbs_natCast]

end Go.Proofs.YtknaghdoffigjaaGreatDoor
namespace Go.Proofs.YtknaghdoffigjaaGreatDoor
open Go.RowKit

theorem sub_same (q u v : Nat) : ((q + u : Nat) : Int) - ((q + v : Nat) : Int) = (u : Int) - v := by omega
theorem below_many {B : Nat} {a w : World} (h : Below B a w) (n : Nat) : Below B a (w.drewN n) := ⟨h.os, h.tape, h.output, h.size, h.block⟩
theorem compareBytes_sign (a b : List UInt8) (h : a.length = b.length) : Lib.compareBytes a b = ((bval a : Int) - bval b).sign := by
  induction a generalizing b with
  | nil =>
    cases b with
    | nil => rfl
    | cons y b => simp at h
  | cons x a ih =>
    cases b with
    | nil => simp at h
    | cons y b =>
      have hl : a.length = b.length := by simpa using h
      have ha := bval_lt a
      have hb := bval_lt b
      rw [Lib.compareBytes, bval_cons, bval_cons, ← hl]
      rw [← hl] at hb
      generalize hp : 256 ^ a.length = p at *
      have hx : x < y ↔ x.toNat < y.toNat := UInt8.lt_iff_toNat_lt
      have hy : y < x ↔ y.toNat < x.toNat := UInt8.lt_iff_toNat_lt
      by_cases h1 : x < y
      · rw [if_pos h1]
        have h2 := hx.1 h1
        have h3 : x.toNat * p + p ≤ y.toNat * p := by
          have := Nat.mul_le_mul_right p (show x.toNat + 1 ≤ y.toNat from h2)
          rwa [Nat.add_mul, Nat.one_mul] at this
        exact (Int.sign_eq_neg_one_of_neg (by omega)).symm
      · rw [if_neg h1]
        by_cases h1' : y < x
        · rw [if_pos h1']
          have h2 := hy.1 h1'
          have h3 : y.toNat * p + p ≤ x.toNat * p := by
            have := Nat.mul_le_mul_right p (show y.toNat + 1 ≤ x.toNat from h2)
            rwa [Nat.add_mul, Nat.one_mul] at this
          exact (Int.sign_eq_one_of_pos (by omega)).symm
        · have e : x.toNat = y.toNat := by
            have a1 : ¬ x.toNat < y.toNat := fun e => h1 (hx.2 e)
            have a2 : ¬ y.toNat < x.toNat := fun e => h1' (hy.2 e)
            omega
          rw [if_neg h1', ih b hl, e]
          generalize y.toNat * p = q
          rw [sub_same]
theorem canon_shorter {N M : Nat} (h : (canon N).length < (canon M).length) : N < M := by
  refine Nat.lt_of_not_le fun hle => ?_
  have := canon_length_mono hle
  omega

theorem significant_same (s : ByteArray) (w : World) (hs : s.size ≤ maxLen) :
    Calls Tryz.prog 117 #[.string s] w fun e w' => e = .returned (.string (bstr (canon (bval s.data.toList)))) ∧ w' = w :=
  (significant_any s w hs).mono fun _ _ h => ⟨h.1, h.2.symm⟩

set_option maxRecDepth 100000 in
set_option maxHeartbeats 1000000 in
theorem compareSizes_any (x y : Bool) (s t : ByteArray) (w : World) (hs : s.size ≤ maxLen) (ht : t.size ≤ maxLen) :
    Calls Tryz.prog 100 #[.agg #[.bool x, .string s], .agg #[.bool y, .string t]] w fun e w' =>
      e = .returned (.int .i64 ((bval s.data.toList : Int) - bval t.data.toList).sign) ∧ Below w.heap.size w w' := by
  have hp := fun W => significant_same s W hs
  have hq := fun W => significant_same t W ht
  have l1 : (canon (bval s.data.toList)).length ≤ maxLen := by
    rw [← sig_canon]; have := sig_length_le s.data.toList; have e := Lib.size_eq s; omega
  have l2 : (canon (bval t.data.toList)).length ≤ maxLen := by
    rw [← sig_canon]; have := sig_length_le t.data.toList; have e := Lib.size_eq t; omega
  unfold maxLen at l1 l2
  generalize bval s.data.toList = N at *
  generalize bval t.data.toList = M at *
  have HP := Lib.hid hp
  have HQ := Lib.hid hq
  clear hp hq
  have hl1 : (bstr (canon N)).size = (canon N).length := bstr_size _
  have hl2 : (bstr (canon M)).size = (canon M).length := bstr_size _
  have hc := Tryz.strings_Compare (bstr (canon N)) (bstr (canon M))
  rw [bstr_data, bstr_data] at hc
  have HC := Lib.hid hc
  clear hc
  go_enter Tryz.func100, Tryz.ntmps100
  go_wp2_with fail
  go_quiet ((go_at_call 117; first | (with_reducible exact Calls.quiet_of_same (HP.out _)) | (with_reducible exact Calls.quiet_of_same (HQ.out _))))
  by_cases h1 : (canon N).length < (canon M).length
  · have hlt := canon_shorter h1
    have hsg := Int.sign_eq_neg_one_of_neg (a := (N : Int) - M) (by omega)
    have HS := Lib.hid hsg
    clear hsg hlt
    go_wp2
    go_ret
    exact ⟨by rw [HS.out]; rfl, below_many (below2 w _ _) _⟩
  · by_cases h2 : (canon M).length < (canon N).length
    · have hlt := canon_shorter h2
      have hsg := Int.sign_eq_one_of_pos (a := (N : Int) - M) (by omega)
      have HS := Lib.hid hsg
      clear hsg hlt
      go_wp2
      go_ret
      exact ⟨by rw [HS.out]; rfl, below_many (below2 w _ _) _⟩
    · have hcs := compareBytes_sign (canon N) (canon M) (by omega)
      rw [bval_canon, bval_canon] at hcs
      have HS := Lib.hid hcs
      clear hcs
      go_wp2_with fail
      with_reducible refine (HC.out _).mono ?_
      rintro e w' ⟨rfl, hw⟩
      rw [hw]
      clear hw
      go_wp2
      go_ret
      exact ⟨by rw [← HS.out]; rfl, below_many (below2 w _ _) _⟩

/-- The variables of a call that began in w0: these Wides, in the first blocks that it made; what was there before is as it was. -/
def Vars (w0 w : World) (l : List (Bool × ByteArray)) : Prop :=
  Below w0.heap.size w0 w ∧ w0.heap.size + l.length ≤ w.heap.size ∧ ∀ i p, l[i]? = some p → Wd w (w0.heap.size + i) p.1 p.2
/-- The box of a Wide. -/
abbrev wbox (x : Bool) (s : ByteArray) : Obj := .cells #[.bool x, .string s] 32
section

variable {w0 w w' : World} {l : List (Bool × ByteArray)}

theorem Vars.none_ (w0 : World) : Vars w0 w0 [] := ⟨Below.refl _ _, by simp, fun i p h => by simp at h⟩
theorem Vars.more (h : Vars w0 w l) (hs : w.heap.size = w0.heap.size + l.length) (x : Bool) (s : ByteArray) : Vars w0 (w.alloc (wbox x s)) (l ++ [(x, s)]) := by
  refine ⟨h.1.alloc (by omega) _, by simp; omega, fun i p hi => ?_⟩
  by_cases hl : i < l.length
  · rw [List.getElem?_append_left hl] at hi
    exact (h.2.2 i p hi).alloc _
  · rw [List.getElem?_append_right (by omega)] at hi
    have hi0 : i - l.length = 0 := by
      refine Nat.eq_zero_of_not_pos fun hp => ?_
      rw [List.getElem?_eq_none (by simp; omega)] at hi
      cases hi
    rw [hi0] at hi
    simp at hi
    subst hi
    have : i = l.length := by omega
    subst this
    rw [← hs]
    exact Wd.new w x s
theorem Vars.start1 (w : World) (x : Bool) (s : ByteArray) : Vars w (w.alloc (wbox x s)) [(x, s)] := (Vars.none_ w).more (by simp) x s
theorem Vars.start2 (w : World) (x y : Bool) (s t : ByteArray) : Vars w ((w.alloc (wbox x s)).alloc (wbox y t)) [(x, s), (y, t)] := (Vars.start1 w x s).more (by simp) y t
theorem Vars.start3 (w : World) (x y z : Bool) (s t u : ByteArray) : Vars w (((w.alloc (wbox x s)).alloc (wbox y t)).alloc (wbox z u)) [(x, s), (y, t), (z, u)] := (Vars.start2 w x y s t).more (by simp) z u
theorem Vars.step (h : Vars w0 w l) (hb : Below w.heap.size w w') : Vars w0 w' l :=
  ⟨h.1.trans (hb.mono (by have := h.2.1; omega)), by have := h.2.1; have := hb.size; omega, fun i p hi => (h.2.2 i p hi).below hb (h.2.2 i p hi).lt⟩
theorem Vars.drew (h : Vars w0 w l) : Vars w0 w.drew l := ⟨h.1.drew, h.2.1, h.2.2⟩
theorem Vars.drewN (h : Vars w0 w l) (n : Nat) : Vars w0 (w.drewN n) l := ⟨below_many h.1 n, h.2.1, h.2.2⟩
theorem Vars.at_ (h : Vars w0 w l) (i : Nat) {x : Bool} {s : ByteArray} (hi : l[i]? = some (x, s)) : Wd w (w0.heap.size + i) x s := h.2.2 i _ hi
end

theorem sign_cases (z : Int) : (z < 0 ∧ z.sign = -1) ∨ (z = 0 ∧ z.sign = 0) ∨ (0 < z ∧ z.sign = 1) := by
  rcases Int.lt_trichotomy z 0 with h | h | h
  · exact .inl ⟨h, Int.sign_eq_neg_one_of_neg h⟩
  · subst h; exact .inr (.inl ⟨rfl, rfl⟩)
  · exact .inr (.inr ⟨h, Int.sign_eq_one_of_pos h⟩)
end Go.Proofs.YtknaghdoffigjaaGreatDoor
namespace Go.Proofs.YtknaghdoffigjaaGreatDoor
open Go.RowKit

theorem limbs_length_le {n k : Nat} (h : n < B64 ^ k) : (limbs n).length ≤ k := by
  induction k generalizing n with
  | zero => obtain rfl : n = 0 := by simp at h; omega
            simp [limbs_zero]
  | succ k ih =>
    by_cases h0 : n = 0
    · subst h0; simp [limbs_zero]
    · rw [limbs_step n h0, List.length_cons]
      have := ih (n := n / B64) (by rw [Nat.pow_succ] at h; rwa [Nat.div_lt_iff_lt_mul B64_pos])
      omega
theorem limbs_length_mono {m n : Nat} (h : m ≤ n) : (limbs m).length ≤ (limbs n).length := by
  refine limbs_length_le (Nat.lt_of_le_of_lt h ?_)
  have := pval_lt (limbs_limbs n)
  rwa [pval_limbs] at this
theorem bval_limbs_length (s : ByteArray) (k : Nat) (h : s.size ≤ 8 * k) : (limbs (bval s.data.toList)).length ≤ k := by
  refine limbs_length_le ?_
  have h1 := bval_lt s.data.toList
  rw [B64_pow, ← Nat.pow_mul]
  exact Nat.lt_of_lt_of_le h1 (Nat.pow_le_pow_right (by omega) (by rw [← Lib.size_eq]; exact h))
theorem limbs_add_length {m n k : Nat} (hm : (limbs m).length ≤ k) (hn : (limbs n).length ≤ k) : (limbs (m + n)).length ≤ k + 1 := by
  refine limbs_length_le ?_
  have h1 := pval_lt (limbs_limbs m)
  have h2 := pval_lt (limbs_limbs n)
  rw [pval_limbs] at h1 h2
  have e1 : B64 ^ (limbs m).length ≤ B64 ^ k := Nat.pow_le_pow_right B64_pos hm
  have e2 : B64 ^ (limbs n).length ≤ B64 ^ k := Nat.pow_le_pow_right B64_pos hn
  rw [Nat.pow_succ]
  have : B64 ^ k * 2 ≤ B64 ^ k * B64 := Nat.mul_le_mul_left _ (by rw [B64_eq]; omega)
  omega

/-- partsOf, as a slice that is only read. -/
theorem partsOf_rd (s : ByteArray) (w : World) (hs : s.size ≤ 4398046511104) :
    Calls Tryz.prog 98 #[.string s] w fun e w' => ∃ A n c, e = .returned (.slice A n c) ∧ (limbs (bval s.data.toList)).length = n ∧ n ≤ c ∧ RdA w' A (limbs (bval s.data.toList)) ∧ Below w.heap.size w w' :=
  (partsOf_any s w (by omega)).mono fun _ _ h => by
    obtain ⟨A, c, he, hc, _, hr, hb⟩ := h.toL
    exact ⟨A, _, c, he, rfl, hc, hr, hb⟩
theorem sum_rd (A B : Option Addr) (na nb ca cb : Nat) (N M : Nat) (w : World) (ha : (limbs N).length = na) (hb : (limbs M).length = nb) (hx : RdA w A (limbs N)) (hy : RdA w B (limbs M)) (nx : na ≤ 1099511627776) (ny : nb ≤ 1099511627776) :
    Calls Tryz.prog 99 #[.slice A na ca, .slice B nb cb] w fun e w' => ∃ C n c, e = .returned (.slice C n c) ∧ (limbs (N + M)).length = n ∧ n ≤ c ∧ RdA w' C (limbs (N + M)) ∧ Below w.heap.size w w' := by
  subst ha
  subst hb
  have h := sum_any A B ca cb (limbs N) (limbs M) w hx hy (limbs_limbs N) (limbs_limbs M) nx ny
  rw [pval_limbs, pval_limbs] at h
  exact h.mono fun _ _ h => by
    obtain ⟨A, c, he, hc, _, hr, hb⟩ := h.toL
    exact ⟨A, _, c, he, rfl, hc, hr, hb⟩
theorem difference_rd (A B : Option Addr) (na nb ca cb : Nat) (N M : Nat) (w : World) (ha : (limbs N).length = na) (hb : (limbs M).length = nb) (hx : RdA w A (limbs N)) (hy : RdA w B (limbs M)) (nx : na ≤ 1099511627776) (hle : M ≤ N) :
    Calls Tryz.prog 101 #[.slice A na ca, .slice B nb cb] w fun e w' => ∃ C n c, e = .returned (.slice C n c) ∧ (limbs (N - M)).length = n ∧ n ≤ c ∧ RdA w' C (limbs (N - M)) ∧ Below w.heap.size w w' := by
  have hlm := limbs_length_mono hle
  have h := difference_any A B na nb ca cb (limbs N) (limbs M) w ha hb hx hy (limbs_limbs N) (limbs_limbs M) nx (by omega) (by rw [pval_limbs, pval_limbs]; exact hle)
  rw [pval_limbs, pval_limbs] at h
  exact h.mono fun _ _ h => by
    obtain ⟨A, c, he, hc, _, hr, hb⟩ := h.toL
    exact ⟨A, _, c, he, rfl, hc, hr, hb⟩
theorem product_rd (A B : Option Addr) (na nb ca cb : Nat) (N M : Nat) (w : World) (ha : (limbs N).length = na) (hb : (limbs M).length = nb) (hx : RdA w A (limbs N)) (hy : RdA w B (limbs M)) (nx : na ≤ 1099511627776) (ny : nb ≤ 1099511627776) :
    Calls Tryz.prog 97 #[.slice A na ca, .slice B nb cb] w fun e w' => ∃ C n c, e = .returned (.slice C n c) ∧ (limbs (N * M)).length = n ∧ n ≤ c ∧ RdA w' C (limbs (N * M)) ∧ Below w.heap.size w w' := by
  have h := product_any A B na nb ca cb (limbs N) (limbs M) w ha hb hx hy (limbs_limbs N) (limbs_limbs M) nx ny
  rw [pval_limbs, pval_limbs] at h
  exact h.mono fun _ _ h => by
    obtain ⟨A, c, he, hc, _, hr, hb⟩ := h.toL
    exact ⟨A, _, c, he, rfl, hc, hr, hb⟩

theorem wint_bounds (x : Bool) (s : ByteArray) (h : s.size ≤ 7) : -72057594037927936 ≤ wint x s ∧ wint x s ≤ 72057594037927936 := by
  have := bval_small s h
  cases x <;> simp only [wint] <;> simp <;> omega

set_option maxHeartbeats 1000000 in
theorem Add_small (x y : Bool) (s t : ByteArray) (w : World) (hs : s.size ≤ 7) (ht : t.size ≤ 7) :
    Calls Tryz.prog 52 #[.agg #[.bool x, .string s], .agg #[.bool y, .string t]] w fun e w' => e = .returned (wv (wint x s + wint y t)) ∧ Below w.heap.size w w' := by
  have hp := fun W => small_yes x s W hs
  have hq := fun W => small_yes y t W ht
  have b1 := wint_bounds x s hs
  have b2 := wint_bounds y t ht
  have hf := fun W => From_any (wint x s + wint y t) W (by omega) (by omega)
  have hwv : wv (wint x s + wint y t) = .agg #[.bool (decide (wint x s + wint y t < 0)), .string (bstr (canon (wint x s + wint y t).natAbs))] := rfl
  generalize bstr (canon (wint x s + wint y t).natAbs) = S at *
  generalize decide (wint x s + wint y t < 0) = sg at *
  generalize hR : wv (wint x s + wint y t) = R at *
  generalize wint x s = a at *
  generalize wint y t = b at *
  have HP := Lib.hid hp
  have HQ := Lib.hid hq
  have HF := Lib.hid hf
  have HWV := Lib.hid hwv
  clear hp hq hf hR hwv
  have HV := Lib.hid (Vars.start3 w x y false s t ⟨#[]⟩)
  go_enter Tryz.func52, Tryz.ntmps52
  go_wp2_with fail
  with_reducible refine (HP.out _).mono ?_
  rintro e w1 ⟨rfl, hb1⟩
  have hV1 := Lib.hid (HV.out.step hb1)
  have hc0 := (hV1.out.at_ 1 rfl).cell0
  have hc1 := (hV1.out.at_ 1 rfl).cell1
  go_wp2_with fail
  with_reducible refine (HQ.out _).mono ?_
  rintro e w2 ⟨rfl, hb2⟩
  have hV2 := Lib.hid (hV1.out.step hb2)
  clear hc0 hc1 hb1 hb2
  go_wp2_with fail
  with_reducible refine (HF.out _).mono ?_
  rintro e w3 ⟨rfl, hb3⟩
  have hV3 := Lib.hid (hV2.out.step hb3)
  have hd0 := (hV3.out.at_ 2 rfl).cell0
  have hd1 := (hV3.out.at_ 2 rfl).cell1
  have hf0 := (hV3.out.at_ 2 rfl).frozen 0
  have hf1 := (hV3.out.at_ 2 rfl).frozen 1
  rw [HWV.out]
  go_wp2
  exact post_wide (b := w.heap.size + 1 + 1) rfl rfl (((hV3.out.at_ 2 rfl).set0 _).set1 _) rfl ⟨by rw [HWV.out], (hV3.out.1.setCell (by simp only []; omega) _).setCell (by simp only []; omega) _⟩

theorem cell_two (w : World) (b c i j k : Nat) (h : b ≠ c) {u v : Value} : ((w.setCell ⟨b, i, none⟩ u).setCell ⟨b, j, none⟩ v).cell? ⟨c, k, none⟩ = w.cell? ⟨c, k, none⟩ := by
  rw [World.cell?_setCell_other, World.cell?_setCell_other]
  · intro e; injection e with e1; exact h e1
  · intro e; injection e with e1; exact h e1

/-- What a Wide's result variable holds at the end. -/
theorem Vars.done {w0 w : World} {l : List (Bool × ByteArray)} (h : Vars w0 w l) (i : Nat) {x y : Bool} {s t : ByteArray} (hi : l[i]? = some (x, s)) :
    Wd ((w.setCell ⟨w0.heap.size + i, 0, none⟩ (.bool y)).setCell ⟨w0.heap.size + i, 1, none⟩ (.string t)) (w0.heap.size + i) y t ∧
    Below w0.heap.size w0 ((w.setCell ⟨w0.heap.size + i, 0, none⟩ (.bool y)).setCell ⟨w0.heap.size + i, 1, none⟩ (.string t)) :=
  ⟨((h.at_ i hi).set0 y).set1 t, (h.1.setCell (by simp only []; omega) _).setCell (by simp only []; omega) _⟩

end Go.Proofs.YtknaghdoffigjaaGreatDoor
