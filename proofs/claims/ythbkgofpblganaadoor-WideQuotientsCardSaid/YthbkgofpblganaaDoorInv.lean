/-
  The contracts of wide.absolute, wide.invertSmall, and wide.invert for a small modulus.
-/
import Derived.Test.YthbkgofpblganaaDoorQuoS
namespace Go.Proofs.YthbkgofpblganaaDoor
open Go.RowKit

set_option maxHeartbeats 1000000 in
theorem absolute_any (x : Bool) (s : ByteArray) (w : World) (hs : s.size ≤ maxLen) :
    Calls Tryd.prog 59 #[.agg #[.bool x, .string s]] w fun e w' => e = .returned (wv (wint x s).natAbs) ∧ Below w.heap.size w w' := by
  have hp := fun W => significant_any s W hs
  have hr : wv ((wint x s).natAbs : Nat) = .agg #[.bool false, .string (bstr (canon (bval s.data.toList)))] := by
    rw [wv_nat]
    cases x
    · rw [wint_false, Int.natAbs_natCast]
    · rw [wint_true, Int.natAbs_neg, Int.natAbs_natCast]
  generalize bstr (canon (bval s.data.toList)) = S at *
  rw [hr]
  have HP := Lib.hid hp
  clear hp hr
  have HV := Lib.hid (Vars.start2 w x false s ⟨#[]⟩)
  go_enter Tryd.func59, Tryd.ntmps59
  go_wp2_with fail
  with_reducible refine (HP.out _).mono ?_
  rintro e w' ⟨rfl, rfl⟩
  go_wp2
  exact post_wide (b := w.heap.size + 1) rfl rfl (Wd.new1 _ _ _ _) rfl ⟨rfl, below2 _ _ _⟩

/-- The steps of the extended Euclidean algorithm: the divisor, and the last two factors. -/
def egF : Nat → Int → Int → Int → Int → Int × Int × Int
  | 0, o, _, p, q => (o, p, q)
  | n + 1, o, r, p, q => if 0 < r then egF n r (o - o / r * r) q (p - o / r * q) else (o, p, q)
theorem egF_fuel (n m : Nat) (o r p q : Int) (hn : r < n) (hm : r < m) (h0 : 0 < n) (h1 : 0 < m) : egF n o r p q = egF m o r p q := by
  induction n generalizing m o r p q with
  | zero => omega
  | succ n ih =>
    cases m with
    | zero => omega
    | succ m =>
      simp only [egF]
      by_cases hr : 0 < r
      · rw [if_pos hr, if_pos hr]
        have h1 := Int.emod_lt_of_pos o hr
        have h2 := Int.emod_nonneg o (show r ≠ 0 by omega)
        have h3 := Int.emod_add_mul_ediv o r
        rw [Int.mul_comm] at h3
        exact ih m r _ q _ (by omega) (by omega) (by omega) (by omega)
      · rw [if_neg hr, if_neg hr]
def eg (a m : Int) : Int × Int × Int := egF (a.toNat + 1) m a 0 1

theorem prod_le {a b c : Int} (ha : 1 ≤ a) (hb : 0 ≤ b) (h : a * b ≤ c) : b ≤ c := by
  have : 1 * b ≤ a * b := Int.mul_le_mul_of_nonneg_right ha hb
  omega

theorem eg_next (m o r p q : Int) (hr : 0 < r) (ho : r < o) (hs : (p ≤ 0 ∧ 0 ≤ q ∧ o * q - r * p = m) ∨ (0 ≤ p ∧ q ≤ 0 ∧ -(o * q) + r * p = m)) :
    0 ≤ o - o / r * r ∧ o - o / r * r < r ∧ 0 ≤ o / r ∧ o / r ≤ o ∧
    ((q ≤ 0 ∧ 0 ≤ p - o / r * q ∧ r * (p - o / r * q) - (o - o / r * r) * q = m) ∨ (0 ≤ q ∧ p - o / r * q ≤ 0 ∧ -(r * (p - o / r * q)) + (o - o / r * r) * q = m)) := by
  have h1 := Int.emod_lt_of_pos o hr
  have h2 := Int.emod_nonneg o (show r ≠ 0 by omega)
  have h3 := Int.emod_add_mul_ediv o r
  rw [Int.mul_comm] at h3
  have h4 : 0 ≤ o / r := Int.ediv_nonneg (by omega) (by omega)
  have h5 : o / r ≤ o := Int.ediv_le_self r (by omega)
  generalize o / r = k at *
  refine ⟨by omega, by omega, h4, h5, ?_⟩
  have e1 : r * (p - k * q) - (o - k * r) * q = -(o * q - r * p) := by
    rw [Int.mul_sub, Int.sub_mul, Int.mul_assoc k r q, Int.mul_left_comm r k q]; omega
  rcases hs with ⟨a, b, c⟩ | ⟨a, b, c⟩
  · refine .inr ⟨b, ?_, ?_⟩
    · have : 0 ≤ k * q := Int.mul_nonneg h4 b
      omega
    · omega
  · refine .inl ⟨b, ?_, ?_⟩
    · have : k * q ≤ 0 := Int.mul_nonpos_of_nonneg_of_nonpos h4 b
      omega
    · omega
theorem eg_bound (m o r p q : Int) (hr : 0 ≤ r) (ho : r < o) (hs : (p ≤ 0 ∧ 0 ≤ q ∧ o * q - r * p = m) ∨ (0 ≤ p ∧ q ≤ 0 ∧ -(o * q) + r * p = m)) : -m ≤ q ∧ q ≤ m ∧ (0 < r → -m ≤ p ∧ p ≤ m) := by
  rcases hs with ⟨a, b, c⟩ | ⟨a, b, c⟩
  · have h1 : r * p ≤ 0 := Int.mul_nonpos_of_nonneg_of_nonpos hr a
    have h2 : 0 ≤ o * q := Int.mul_nonneg (by omega) b
    have h3 := prod_le (a := o) (b := q) (c := m) (by omega) b (by omega)
    refine ⟨by omega, h3, fun hr => ?_⟩
    have h4 := prod_le (a := r) (b := -p) (c := m) (by omega) (by omega) (by rw [Int.mul_neg]; omega)
    omega
  · have h1 : o * q ≤ 0 := Int.mul_nonpos_of_nonneg_of_nonpos (by omega) b
    have h2 : 0 ≤ r * p := Int.mul_nonneg hr a
    have h3 := prod_le (a := o) (b := -q) (c := m) (by omega) (by omega) (by rw [Int.mul_neg]; omega)
    refine ⟨by omega, by omega, fun hr => ?_⟩
    have h4 := prod_le (a := r) (b := p) (c := m) (by omega) a (by omega)
    omega

set_option maxHeartbeats 2000000 in
theorem invertSmall_any (a m : Int) (w : World) (h0 : 0 ≤ a) (h1 : a < m) (hm : m ≤ 72057594037927936) :
    Calls Tryd.prog 81 #[.int .i64 a, .int .i64 m] w fun e w' => e = .returned (.tuple #[.int .i64 (eg a m).1, .int .i64 ((eg a m).2.1 % (eg a m).2.2)]) ∧ Below w.heap.size w w' := by
  go_enter Tryd.func81, Tryd.ntmps81
  go_wp2_with fail
  go_loop [6, 7, 8, 9] (fun so sr sp sq => ∃ o r p q : Int, 0 ≤ r ∧ r < o ∧ o ≤ m ∧ so = .int .i64 o ∧ sr = .int .i64 r ∧ sp = .int .i64 p ∧ sq = .int .i64 q ∧
      ((p ≤ 0 ∧ 0 ≤ q ∧ o * q - r * p = m) ∨ (0 ≤ p ∧ q ≤ 0 ∧ -(o * q) + r * p = m)) ∧ (-m ≤ p ∧ p ≤ m) ∧ egF (r.toNat + 1) o r p q = eg a m) (fun _ sr _ _ => (intOf sr).toNat)
  case atStart => exact ⟨m, a, 0, 1, h0, h1, Int.le_refl _, rfl, rfl, rfl, rfl, .inl ⟨Int.le_refl _, by omega, by omega⟩, by omega, rfl⟩
  case round =>
    obtain ⟨o, r, p, q, r0, ro, om, rfl, rfl, rfl, rfl, hs, hp, he⟩ := hrel
    have hb := eg_bound m o r p q r0 ro hs
    obtain ⟨p1, p2⟩ := hp
    obtain ⟨q1, q2, _⟩ := hb
    by_cases hr : 0 < r
    · have hn := eg_next m o r p q hr ro hs
      have hb2 := eg_bound m r (o - o / r * r) q (p - o / r * q) hn.1 hn.2.1 hn.2.2.2.2
      have he2 : egF ((o - o / r * r).toNat + 1) r (o - o / r * r) q (p - o / r * q) = eg a m := by
        rw [← he]
        rw [show egF (r.toNat + 1) o r p q = egF r.toNat r (o - o / r * r) q (p - o / r * q) from by simp only [egF]; rw [if_pos hr]]
        exact egF_fuel _ _ _ _ _ _ (by have := hn.1; omega) (by have := hn.2.1; omega) (by omega) (by omega)
      have hkk : ∃ k, k = o / r := ⟨_, rfl⟩
      obtain ⟨k, hk⟩ := hkk
      rw [← hk] at hn hb2 he2
      obtain ⟨n1, n2, n3, n4, n5⟩ := hn
      obtain ⟨c1, c2, _⟩ := hb2
      have w1 : IntKind.i64.wrap (k * r) = k * r := IntWalk.i64_in _ (by omega)
      have w2 : IntKind.i64.wrap (k * q) = k * q := IntWalk.i64_in _ (by omega)
      have w1b : -9223372036854775808 ≤ k * r ∧ k * r ≤ 9223372036854775807 := by omega
      have w2b : -9223372036854775808 ≤ k * q ∧ k * q ≤ 9223372036854775807 := by omega
      have HE := Lib.hid he2
      have HN := Lib.hid n5
      have hk' := hk.symm
      clear he2 he hs n5 hk
      go_wp2
      go_round
      case rel => exact ⟨r, o - k * r, q, p - k * q, n1, n2, by omega, rfl, rfl, rfl, rfl, HN.out, ⟨by omega, by omega⟩, HE.out⟩
      case measure => simp [intOf]; omega
    · obtain rfl : r = 0 := by omega
      have hq0 : q ≠ 0 := by
        intro e
        subst e
        rcases hs with ⟨_, _, c⟩ | ⟨_, _, c⟩ <;> simp at c <;> omega
      have hqs := quoSmall_any p q w hq0 (by omega) (by omega)
      have he3 : eg a m = (o, p, q) := by rw [← he]; simp [egF]
      have HE := Lib.hid he3
      have HQ := Lib.hid hqs
      clear he he3 hqs hs hq0
      generalize hP : p % q = pq at *
      have HPQ := Lib.hid hP
      generalize p / q = dq at *
      clear hP
      go_wp2_with fail
      with_reducible refine HQ.out.mono ?_
      rintro e w1 ⟨rfl, hb1⟩
      go_wp2
      go_ret2
      exact ⟨by rw [HE.out]; simp only []; rw [HPQ.out]; rfl, hb1⟩
end Go.Proofs.YthbkgofpblganaaDoor
