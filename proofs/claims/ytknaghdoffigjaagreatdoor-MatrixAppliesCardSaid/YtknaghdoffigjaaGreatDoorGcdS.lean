import Derived.Test.YtknaghdoffigjaaGreatDoorZMulW
set_option linter.unusedSimpArgs false
set_option linter.unusedVariables false
set_option linter.unnecessarySimpa false
namespace Go.Proofs.YtknaghdoffigjaaGreatDoor
open Go.RowKit
set_option maxHeartbeats 1000000 in
theorem absolute_any (x : Bool) (s : ByteArray) (w : World) (hs : s.size ≤ maxLen) :
  Calls Tryz.prog 156 #[.agg #[.bool x, .string s]] w fun e w' => e = .returned (wv (wint x s).natAbs) ∧ Below w.heap.size w w' := by
 have hp := fun W => significant_any s W hs
 have hr : wv ((wint x s).natAbs : Nat) = .agg #[.bool false, .string (bstr (canon (bval s.data.toList)))] := by
  rw [wv_nat]
  cases x
  ·rw [wint_false, Int.natAbs_natCast]
  ·rw [wint_true, Int.natAbs_neg, Int.natAbs_natCast]
 generalize bstr (canon (bval s.data.toList)) = S at *
 rw [hr]
 have HP := Lib.hid hp
 clear hp hr
 have HV := Lib.hid (Vars.start2 w x false s ⟨#[]⟩)
 go_enter Tryz.func156, Tryz.ntmps156
 go_wp2_with fail
 with_reducible refine (HP.out _).mono ?_
 rintro e w' ⟨rfl, rfl⟩
 go_wp2
 exact post_wide (b := w.heap.size + 1) rfl rfl (Wd.new1 _ _ _ _) rfl ⟨rfl, below2 _ _ _⟩
def egF : Nat → Int → Int → Int → Int → Int × Int × Int
 | 0, o, _, p, q => (o, p, q)
 | n + 1, o, r, p, q => if 0 < r then egF n r (o - o / r * r) q (p - o / r * q) else (o, p, q)
theorem egF_fuel (n m : Nat) (o r p q : Int) (hn : r < n) (hm : r < m) (h0 : 0 < n) (h1 : 0 < m) : egF n o r p q = egF m o r p q := by
 induction n generalizing m o r p q with
 | zero => omega
 | succ n ih =>
  cases m with
  | zero => omega
  | succ m =>
   simp only [egF]
   by_cases hr : 0 < r
   ·rw [if_pos hr, if_pos hr]
    have h1 := Int.emod_lt_of_pos o hr
    have h2 := Int.emod_nonneg o (show r ≠ 0 by omega)
    have h3 := Int.emod_add_mul_ediv o r
    rw [Int.mul_comm] at h3
    exact ih m r _ q _ (by omega) (by omega) (by omega) (by omega)
   ·rw [if_neg hr, if_neg hr]
def eg (a m : Int) : Int × Int × Int := egF (a.toNat + 1) m a 0 1
theorem prod_le {a b c : Int} (ha : 1 ≤ a) (hb : 0 ≤ b) (h : a * b ≤ c) : b ≤ c := by
 have : 1 * b ≤ a * b := Int.mul_le_mul_of_nonneg_right ha hb
 omega
theorem eg_next (m o r p q : Int) (hr : 0 < r) (ho : r < o) (hs : (p ≤ 0 ∧ 0 ≤ q ∧ o * q - r * p = m) ∨ (0 ≤ p ∧ q ≤ 0 ∧ -(o * q) + r * p = m)) :
  0 ≤ o - o / r * r ∧ o - o / r * r < r ∧ 0 ≤ o / r ∧ o / r ≤ o ∧
  ((q ≤ 0 ∧ 0 ≤ p - o / r * q ∧ r * (p - o / r * q) - (o - o / r * r) * q = m) ∨ (0 ≤ q ∧ p - o / r * q ≤ 0 ∧ -(r * (p - o / r * q)) + (o - o / r * r) * q = m)) := by
 have h1 := Int.emod_lt_of_pos o hr
 have h2 := Int.emod_nonneg o (show r ≠ 0 by omega)
 have h3 := Int.emod_add_mul_ediv o r
 rw [Int.mul_comm] at h3
 have h4 : 0 ≤ o / r := Int.ediv_nonneg (by omega) (by omega)
 have h5 : o / r ≤ o := Int.ediv_le_self r (by omega)
 generalize o / r = k at *
 refine ⟨by omega, by omega, h4, h5, ?_⟩
 have e1 : r * (p - k * q) - (o - k * r) * q = -(o * q - r * p) := by
  rw [Int.mul_sub, Int.sub_mul, Int.mul_assoc k r q, Int.mul_left_comm r k q]; omega
 rcases hs with ⟨a, b, c⟩ | ⟨a, b, c⟩
 ·refine .inr ⟨b, ?_, ?_⟩
  ·have : 0 ≤ k * q := Int.mul_nonneg h4 b
   omega
  ·omega
 ·refine .inl ⟨b, ?_, ?_⟩
  ·have : k * q ≤ 0 := Int.mul_nonpos_of_nonneg_of_nonpos h4 b
   omega
  ·omega
theorem eg_bound (m o r p q : Int) (hr : 0 ≤ r) (ho : r < o) (hs : (p ≤ 0 ∧ 0 ≤ q ∧ o * q - r * p = m) ∨ (0 ≤ p ∧ q ≤ 0 ∧ -(o * q) + r * p = m)) : -m ≤ q ∧ q ≤ m ∧ (0 < r → -m ≤ p ∧ p ≤ m) := by
 rcases hs with ⟨a, b, c⟩ | ⟨a, b, c⟩
 ·have h1 : r * p ≤ 0 := Int.mul_nonpos_of_nonneg_of_nonpos hr a
  have h2 : 0 ≤ o * q := Int.mul_nonneg (by omega) b
  have h3 := prod_le (a := o) (b := q) (c := m) (by omega) b (by omega)
  refine ⟨by omega, h3, fun hr => ?_⟩
  have h4 := prod_le (a := r) (b := -p) (c := m) (by omega) (by omega) (by rw [Int.mul_neg]; omega)
  omega
 ·have h1 : o * q ≤ 0 := Int.mul_nonpos_of_nonneg_of_nonpos (by omega) b
  have h2 : 0 ≤ r * p := Int.mul_nonneg hr a
  have h3 := prod_le (a := o) (b := -q) (c := m) (by omega) (by omega) (by rw [Int.mul_neg]; omega)
  refine ⟨by omega, by omega, fun hr => ?_⟩
  have h4 := prod_le (a := r) (b := p) (c := m) (by omega) a (by omega)
  omega
set_option maxHeartbeats 2000000 in
theorem invertSmall_any (a m : Int) (w : World) (h0 : 0 ≤ a) (h1 : a < m) (hm : m ≤ 72057594037927936) :
  Calls Tryz.prog 163 #[.int .i64 a, .int .i64 m] w fun e w' => e = .returned (.tuple #[.int .i64 (eg a m).1, .int .i64 ((eg a m).2.1 % (eg a m).2.2)]) ∧ Below w.heap.size w w' := by
 go_enter Tryz.func163, Tryz.ntmps163
 go_wp2_with fail
 go_loop [6, 7, 8, 9] (fun so sr sp sq => ∃ o r p q : Int, 0 ≤ r ∧ r < o ∧ o ≤ m ∧ so = .int .i64 o ∧ sr = .int .i64 r ∧ sp = .int .i64 p ∧ sq = .int .i64 q ∧
   ((p ≤ 0 ∧ 0 ≤ q ∧ o * q - r * p = m) ∨ (0 ≤ p ∧ q ≤ 0 ∧ -(o * q) + r * p = m)) ∧ (-m ≤ p ∧ p ≤ m) ∧ egF (r.toNat + 1) o r p q = eg a m) (fun _ sr _ _ => (intOf sr).toNat)
 case atStart => exact ⟨m, a, 0, 1, h0, h1, Int.le_refl _, rfl, rfl, rfl, rfl, .inl ⟨Int.le_refl _, by omega, by omega⟩, by omega, rfl⟩
 case round =>
  obtain ⟨o, r, p, q, r0, ro, om, rfl, rfl, rfl, rfl, hs, hp, he⟩ := hrel
  have hb := eg_bound m o r p q r0 ro hs
  obtain ⟨p1, p2⟩ := hp
  obtain ⟨q1, q2, _⟩ := hb
  by_cases hr : 0 < r
  ·have hn := eg_next m o r p q hr ro hs
   have hb2 := eg_bound m r (o - o / r * r) q (p - o / r * q) hn.1 hn.2.1 hn.2.2.2.2
   have he2 : egF ((o - o / r * r).toNat + 1) r (o - o / r * r) q (p - o / r * q) = eg a m := by
    rw [← he]
    rw [show egF (r.toNat + 1) o r p q = egF r.toNat r (o - o / r * r) q (p - o / r * q) from by simp only [egF]; rw [if_pos hr]]
    exact egF_fuel _ _ _ _ _ _ (by have := hn.1; omega) (by have := hn.2.1; omega) (by omega) (by omega)
   have hkk : ∃ k, k = o / r := ⟨_, rfl⟩
   obtain ⟨k, hk⟩ := hkk
   rw [← hk] at hn hb2 he2
   obtain ⟨n1, n2, n3, n4, n5⟩ := hn
   obtain ⟨c1, c2, _⟩ := hb2
   have w1 : IntKind.i64.wrap (k * r) = k * r := IntWalk.i64_in _ (by omega)
   have w2 : IntKind.i64.wrap (k * q) = k * q := IntWalk.i64_in _ (by omega)
   have w1b : -9223372036854775808 ≤ k * r ∧ k * r ≤ 9223372036854775807 := by omega
   have w2b : -9223372036854775808 ≤ k * q ∧ k * q ≤ 9223372036854775807 := by omega
   have HE := Lib.hid he2
   have HN := Lib.hid n5
   have hk' := hk.symm
   clear he2 he hs n5 hk
   go_wp2
   go_round
   case rel => exact ⟨r, o - k * r, q, p - k * q, n1, n2, by omega, rfl, rfl, rfl, rfl, HN.out, ⟨by omega, by omega⟩, HE.out⟩
   case measure => simp [intOf]; omega
  ·obtain rfl : r = 0 := by omega
   have hq0 : q ≠ 0 := by
    intro e
    subst e
    rcases hs with ⟨_, _, c⟩ | ⟨_, _, c⟩ <;> simp at c <;> omega
   have hqs := quoSmall_any p q w hq0 (by omega) (by omega)
   have he3 : eg a m = (o, p, q) := by rw [← he]; simp [egF]
   have HE := Lib.hid he3
   have HQ := Lib.hid hqs
   clear he he3 hqs hs hq0
   generalize hP : p % q = pq at *
   have HPQ := Lib.hid hP
   generalize p / q = dq at *
   clear hP
   go_wp2_with fail
   with_reducible refine HQ.out.mono ?_
   rintro e w1 ⟨rfl, hb1⟩
   go_wp2
   go_ret2
   exact ⟨by rw [HE.out]; simp only []; rw [HPQ.out]; rfl, hb1⟩
theorem egF_ok (n : Nat) (m o r p q : Int) (hn : r < n) (hr : 0 ≤ r) (ho : r < o) (om : o ≤ m) (hs : (p ≤ 0 ∧ 0 ≤ q ∧ o * q - r * p = m) ∨ (0 ≤ p ∧ q ≤ 0 ∧ -(o * q) + r * p = m)) :
  1 ≤ (egF n o r p q).1 ∧ (egF n o r p q).1 ≤ m ∧ (egF n o r p q).2.2 ≠ 0 ∧ -m ≤ (egF n o r p q).2.2 ∧ (egF n o r p q).2.2 ≤ m := by
 induction n generalizing o r p q with
 | zero => omega
 | succ n ih =>
  simp only [egF]
  by_cases h : 0 < r
  ·rw [if_pos h]
   have hx := eg_next m o r p q h ho hs
   refine ih r _ q _ (by omega) hx.1 hx.2.1 (by omega) ?_
   exact hx.2.2.2.2
  ·rw [if_neg h]
   obtain rfl : r = 0 := by omega
   have hb := eg_bound m o 0 p q hr ho hs
   refine ⟨by omega, om, ?_, hb.1, hb.2.1⟩
   intro e
   simp only [] at e
   subst e
   rcases hs with ⟨_, _, c⟩ | ⟨_, _, c⟩ <;> simp at c <;> omega
theorem eg_ok (a m : Int) (h0 : 0 ≤ a) (h1 : a < m) : 1 ≤ (eg a m).1 ∧ (eg a m).1 ≤ m ∧ 0 ≤ (eg a m).2.1 % (eg a m).2.2 ∧ (eg a m).2.1 % (eg a m).2.2 < m := by
 have h := egF_ok (a.toNat + 1) m m a 0 1 (by omega) h0 h1 (Int.le_refl _) (.inl ⟨Int.le_refl _, by omega, by omega⟩)
 refine ⟨h.1, h.2.1, Int.emod_nonneg _ h.2.2.1, ?_⟩
 have h2 := Int.emod_lt (eg a m).2.1 h.2.2.1
 unfold eg at h2 ⊢
 omega
def inv (a m : Int) : Int × Int := ((eg a m).1, (eg a m).2.1 % (eg a m).2.2)
set_option maxHeartbeats 1000000 in
theorem invert_small (x y : Bool) (s t : ByteArray) (w : World) (hs : s.size ≤ 7) (ht : t.size ≤ 7) (h0 : 0 ≤ wint x s) (h1 : wint x s < wint y t) :
  Calls Tryz.prog 157 #[.agg #[.bool x, .string s], .agg #[.bool y, .string t]] w fun e w' =>
   e = .returned (.tuple #[wv (inv (wint x s) (wint y t)).1, wv (inv (wint x s) (wint y t)).2]) ∧ Below w.heap.size w w' := by
 have hp := fun W => small_yes x s W hs
 have hq := fun W => small_yes y t W ht
 have b2 := wint_bounds y t ht
 have hi := fun W => invertSmall_any (wint x s) (wint y t) W h0 h1 b2.2
 have ho := eg_ok (wint x s) (wint y t) h0 h1
 have e1 : (inv (wint x s) (wint y t)).1 = (eg (wint x s) (wint y t)).1 := rfl
 have e2 : (inv (wint x s) (wint y t)).2 = (eg (wint x s) (wint y t)).2.1 % (eg (wint x s) (wint y t)).2.2 := rfl
 rw [← e1, ← e2] at hi ho
 have hf1 := fun W => From_any (inv (wint x s) (wint y t)).1 W (by omega) (by omega)
 have hf2 := fun W => From_any (inv (wint x s) (wint y t)).2 W (by omega) (by omega)
 obtain ⟨sg1, S1, r1⟩ := wv_agg (inv (wint x s) (wint y t)).1
 obtain ⟨sg2, S2, r2⟩ := wv_agg (inv (wint x s) (wint y t)).2
 rw [r1] at hf1
 rw [r2] at hf2
 rw [r1, r2]
 clear e1 e2 r1 r2 ho h0 h1 b2
 generalize (inv (wint x s) (wint y t)).1 = G at *
 generalize (inv (wint x s) (wint y t)).2 = X at *
 generalize wint x s = a at *
 generalize wint y t = b at *
 have HP := Lib.hid hp
 have HQ := Lib.hid hq
 have HI := Lib.hid hi
 have HF1 := Lib.hid hf1
 have HF2 := Lib.hid hf2
 clear hp hq hi hf1 hf2
 have HV := Lib.hid (Vars.start4 w x y false false s t ⟨#[]⟩ ⟨#[]⟩)
 go_enter Tryz.func157, Tryz.ntmps157
 go_wp2_with fail
 with_reducible refine (HQ.out _).mono ?_
 rintro e w1 ⟨rfl, hb1⟩
 have hV1 := Lib.hid (HV.out.step hb1)
 have hc0 := (hV1.out.at_ 0 rfl).cell0
 have hc1 := (hV1.out.at_ 0 rfl).cell1
 rw [Nat.add_zero] at hc0 hc1
 go_wp2_with fail
 with_reducible refine (HP.out _).mono ?_
 rintro e w2 ⟨rfl, hb2⟩
 have hV2 := Lib.hid (hV1.out.step hb2)
 clear hc0 hc1 hb1
 go_wp2_with fail
 with_reducible refine (HI.out _).mono ?_
 rintro e w3 ⟨rfl, hb3⟩
 have hV3 := Lib.hid (hV2.out.step hb3)
 clear hb2
 go_wp2_with fail
 with_reducible refine (HF1.out _).mono ?_
 rintro e w4 ⟨rfl, hb4⟩
 have hV4 := Lib.hid (hV3.out.step hb4)
 clear hb3
 go_wp2_with fail
 with_reducible refine (HF2.out _).mono ?_
 rintro e w5 ⟨rfl, hb5⟩
 have hV5 := hV4.out.step hb5
 clear hb4
 have hz0 := (hV5.at_ 2 rfl).cell0
 have hz1 := (hV5.at_ 2 rfl).cell1
 have hzf0 := (hV5.at_ 2 rfl).frozen 0
 have hzf1 := (hV5.at_ 2 rfl).frozen 1
 have hz2 := (hV5.at_ 3 rfl).cell0
 have hz3 := (hV5.at_ 3 rfl).cell1
 have hzf2 := (hV5.at_ 3 rfl).frozen 0
 have hzf3 := (hV5.at_ 3 rfl).frozen 1
 have hV7 := (hV5.put 2 rfl sg1 S1).put 3 rfl sg2 S2
 go_wp2
 exact post_wide2 (b := w.heap.size + 2) (c := w.heap.size + 3) rfl rfl rfl (hV7.at_ 2 rfl) (hV7.at_ 3 rfl) rfl ⟨rfl, hV7.1⟩
theorem modify_same {α : Type} (l : Array α) (b : Nat) (f : α → α) (h : ∀ x, l[b]? = some x → f x = x) : l.modify b f = l := by
 apply Array.ext
 ·simp
 ·intro i h1 h2
  rw [Array.getElem_modify]
  split
  ·rename_i e
   subst e
   exact h _ (Array.getElem?_eq_getElem h2)
  ·rfl
theorem heap_same (w : World) (a : Addr) (v : Value) (h : (w.setCell a v).heap = w.heap) : w.setCell a v = w := by
 have e : w.setCell a v = { w with heap := (w.setCell a v).heap } := rfl
 rw [e, h]
theorem Wd.self0 {w : World} {b : Nat} {x : Bool} {s : ByteArray} (h : Wd w b x s) : w.setCell ⟨b, 0, none⟩ (.bool x) = w := by
 unfold Wd at h
 refine heap_same _ _ _ ?_
 simp only [World.setCell]
 refine modify_same w.heap b _ (fun o ho => ?_)
 have ho' : w.heap[b]? = some o := ho
 have e := h.symm.trans ho'
 injection e with e
 subst e
 rfl
theorem Wd.self1 {w : World} {b : Nat} {x : Bool} {s : ByteArray} (h : Wd w b x s) : w.setCell ⟨b, 1, none⟩ (.string s) = w := by
 unfold Wd at h
 refine heap_same _ _ _ ?_
 simp only [World.setCell]
 refine modify_same w.heap b _ (fun o ho => ?_)
 have ho' : w.heap[b]? = some o := ho
 have e := h.symm.trans ho'
 injection e with e
 subst e
 rfl
def gcdS (a b : Int) : Int × Int × Int :=
 if b = 0 then (a.natAbs, a.sign, 0)
 else ((inv (a % b.natAbs) b.natAbs).1, (inv (a % b.natAbs) b.natAbs).2, ((inv (a % b.natAbs) b.natAbs).1 - (inv (a % b.natAbs) b.natAbs).2 * a) / b)
theorem Vars.alloc {w0 w : World} {l : List (Bool × ByteArray)} (h : Vars w0 w l) (o : Obj) : Vars w0 (w.alloc o) l := ⟨h.1.alloc (by have := h.2.1; omega) _, by have := h.2.1; simp; omega, fun i p hi => (h.2.2 i p hi).alloc _⟩
theorem Vars.start5 (w : World) (x y z v u : Bool) (s t r q p : ByteArray) : Vars w (((((w.alloc (wbox x s)).alloc (wbox y t)).alloc (wbox z r)).alloc (wbox v q)).alloc (wbox u p)) [(x, s), (y, t), (z, r), (v, q), (u, p)] := (Vars.start4 w x y z v s t r q).more (by simp) u p
set_option maxHeartbeats 2000000 in
theorem Gcd_of (x y : Bool) (s t : ByteArray) (w : World) (hs : s.size ≤ 2199023255552) (ht : t.size ≤ 2199023255552) (hb : wint y t ≠ 0) (sm sr sg sx sy sp sd se sf : Bool) (M R G X Y P D E F : ByteArray)
  (hM : wv ((wint y t).natAbs : Nat) = .agg #[.bool sm, .string M])
  (hQ1 : ∀ W, Calls Tryz.prog 73 #[.agg #[.bool x, .string s], .agg #[.bool sm, .string M]] W fun e W' => e = .returned (.tuple #[.agg #[.bool se, .string E], .agg #[.bool sr, .string R], .bool true]) ∧ Below W.heap.size W W')
  (hI : ∀ W, Calls Tryz.prog 157 #[.agg #[.bool sr, .string R], .agg #[.bool sm, .string M]] W fun e W' => e = .returned (.tuple #[.agg #[.bool sg, .string G], .agg #[.bool sx, .string X]]) ∧ Below W.heap.size W W')
  (hMu : ∀ W, Calls Tryz.prog 51 #[.agg #[.bool sx, .string X], .agg #[.bool x, .string s]] W fun e W' => e = .returned (.agg #[.bool sp, .string P]) ∧ Below W.heap.size W W')
  (hSu : ∀ W, Calls Tryz.prog 54 #[.agg #[.bool sg, .string G], .agg #[.bool sp, .string P]] W fun e W' => e = .returned (.agg #[.bool sd, .string D]) ∧ Below W.heap.size W W')
  (hQ2 : ∀ W, Calls Tryz.prog 73 #[.agg #[.bool sd, .string D], .agg #[.bool y, .string t]] W fun e W' => e = .returned (.tuple #[.agg #[.bool sy, .string Y], .agg #[.bool sf, .string F], .bool true]) ∧ Below W.heap.size W W') :
  Calls Tryz.prog 144 #[.agg #[.bool x, .string s], .agg #[.bool y, .string t]] w fun e w' => e = .returned (.tuple #[.agg #[.bool sg, .string G], .agg #[.bool sx, .string X], .agg #[.bool sy, .string Y]]) ∧ Below w.heap.size w w' := by
 have hsi := fun W => Sign_any y t W (by unfold maxLen; omega)
 have hab := fun W => absolute_any y t W (by unfold maxLen; omega)
 have hsz : ((wint y t).sign == 0) = false := by simpa using hb
 rw [hM] at hab
 generalize (wint y t).sign = sgn at *
 have HSI := Lib.hid hsi
 have HAB := Lib.hid hab
 have HQ1 := Lib.hid hQ1
 have HI := Lib.hid hI
 have HMU := Lib.hid hMu
 have HSU := Lib.hid hSu
 have HQ2 := Lib.hid hQ2
 clear hsi hab hQ1 hI hMu hSu hQ2 hM hb
 have HV := Lib.hid (Vars.start5 w x y false false false s t ⟨#[]⟩ ⟨#[]⟩ ⟨#[]⟩)
 go_enter Tryz.func144, Tryz.ntmps144
 go_wp2_with fail
 with_reducible refine (HSI.out _).mono ?_
 rintro e w1 ⟨rfl, hb1⟩
 have hV1 := Lib.hid (HV.out.step hb1)
 have hc0 := (hV1.out.at_ 1 rfl).cell0
 have hc1 := (hV1.out.at_ 1 rfl).cell1
 go_wp2_with fail
 with_reducible refine (HAB.out _).mono ?_
 rintro e w2 ⟨rfl, hb2⟩
 have hV2 := Lib.hid (hV1.out.step hb2)
 clear hc0 hc1 hb1
 have hc0 := (hV2.out.at_ 0 rfl).cell0
 have hc1 := (hV2.out.at_ 0 rfl).cell1
 rw [Nat.add_zero] at hc0 hc1
 have hlt2 : w.heap.size + 5 ≤ w2.heap.size := hV2.out.2.1
 have hVa := Lib.hid (hV2.out.alloc (wbox sm M))
 have ha0 := (hVa.out.at_ 0 rfl).cell0
 have ha1 := (hVa.out.at_ 0 rfl).cell1
 rw [Nat.add_zero] at ha0 ha1
 have hMa := Lib.hid (Wd.new w2 sm M)
 go_wp2_with fail
 with_reducible refine (HQ1.out _).mono ?_
 rintro e w3 ⟨rfl, hb3⟩
 have hV3 := Lib.hid (hVa.out.step hb3)
 have hM3 := Lib.hid (hMa.out.below hb3 (by simp))
 clear hc0 hc1 hb2 ha0 ha1
 have hVb := Lib.hid ((hV3.out.alloc (wbox se E)).alloc (wbox sr R))
 have hMb := Lib.hid ((hM3.out.alloc (wbox se E)).alloc (wbox sr R))
 have hRb := Lib.hid (Wd.new1 w3 (wbox se E) sr R)
 have hm0 := hMb.out.cell0
 have hm1 := hMb.out.cell1
 have hlt3 : w2.heap.size < w3.heap.size := hM3.out.lt
 go_wp2_with fail
 with_reducible refine (HI.out _).mono ?_
 rintro e w4 ⟨rfl, hb4⟩
 have hV4 := Lib.hid (hVb.out.step hb4)
 clear hm0 hm1 hb3
 have hz0 := (hV4.out.at_ 2 rfl).cell0
 have hz1 := (hV4.out.at_ 2 rfl).cell1
 have hzf0 := (hV4.out.at_ 2 rfl).frozen 0
 have hzf1 := (hV4.out.at_ 2 rfl).frozen 1
 have hz2 := (hV4.out.at_ 3 rfl).cell0
 have hz3 := (hV4.out.at_ 3 rfl).cell1
 have hzf2 := (hV4.out.at_ 3 rfl).frozen 0
 have hzf3 := (hV4.out.at_ 3 rfl).frozen 1
 have hV5 := (hV4.out.put 2 rfl sg G).put 3 rfl sx X
 go_wp2_with fail
 have hlt4 : w.heap.size + 5 ≤ w4.heap.size := hV4.out.2.1
 generalize hW : (((w4.setCell ⟨w.heap.size + 1 + 1, 0, none⟩ (.bool sg)).setCell ⟨w.heap.size + 1 + 1, 1, none⟩ (.string G)).setCell ⟨w.heap.size + 1 + 1 + 1, 0, none⟩ (.bool sx)).setCell ⟨w.heap.size + 1 + 1 + 1, 1, none⟩ (.string X) = W at *
 have hV6 : Vars w W [(x, s), (y, t), (sg, G), (sx, X), (false, ⟨#[]⟩)] := hV5
 clear hW hV5 hz0 hz1 hzf0 hzf1 hz2 hz3 hzf2 hzf3
 have u0 := (hV6.at_ 0 rfl).cell0
 have u1 := (hV6.at_ 0 rfl).cell1
 have u2 := (hV6.at_ 1 rfl).cell0
 have u3 := (hV6.at_ 1 rfl).cell1
 have u4 := (hV6.at_ 2 rfl).cell0
 have u5 := (hV6.at_ 2 rfl).cell1
 have u6 := (hV6.at_ 3 rfl).cell0
 have u7 := (hV6.at_ 3 rfl).cell1
 rw [Nat.add_zero] at u0 u1
 go_region_held3 (fun w' => w'.cell? ⟨w.heap.size, 0, none⟩ = some (.bool x) ∧ w'.cell? ⟨w.heap.size, 1, none⟩ = some (.string s) ∧ w'.cell? ⟨w.heap.size + 1, 0, none⟩ = some (.bool y) ∧ w'.cell? ⟨w.heap.size + 1, 1, none⟩ = some (.string t) ∧ w'.cell? ⟨w.heap.size + 2, 0, none⟩ = some (.bool sg) ∧ w'.cell? ⟨w.heap.size + 2, 1, none⟩ = some (.string G) ∧ w'.cell? ⟨w.heap.size + 3, 0, none⟩ = some (.bool sx) ∧ w'.cell? ⟨w.heap.size + 3, 1, none⟩ = some (.string X)) (first | (refine ⟨?_, ?_, ?_, ?_, ?_, ?_, ?_, ?_⟩ <;> ((refine (cell_two _ _ _ _ _ _ ?_).trans ?_); omega; assumption)) | go_keep)
  (first
   | (go_at_call 51; (with_reducible refine (HMU.out _).mono ?_); rintro e w5 ⟨rfl, hb5⟩; have hV7 := hV6.drew.step hb5; have a0 := (hV7.at_ 0 rfl).cell0; have a1 := (hV7.at_ 0 rfl).cell1; have a2 := (hV7.at_ 1 rfl).cell0; have a3 := (hV7.at_ 1 rfl).cell1; have a4 := (hV7.at_ 2 rfl).cell0; have a5 := (hV7.at_ 2 rfl).cell1; have a6 := (hV7.at_ 3 rfl).cell0; have a7 := (hV7.at_ 3 rfl).cell1; rw [Nat.add_zero] at a0 a1)
   | (go_at_call 54; (with_reducible refine (HSU.out _).mono ?_); rintro e w6 ⟨rfl, hb6⟩; have hV8 := hV7.step hb6; have b0 := (hV8.at_ 0 rfl).cell0; have b1 := (hV8.at_ 0 rfl).cell1; have b2 := (hV8.at_ 1 rfl).cell0; have b3 := (hV8.at_ 1 rfl).cell1; have b4 := (hV8.at_ 2 rfl).cell0; have b5 := (hV8.at_ 2 rfl).cell1; have b6 := (hV8.at_ 3 rfl).cell0; have b7 := (hV8.at_ 3 rfl).cell1; rw [Nat.add_zero] at b0 b1)
   | (go_at_call 73; (with_reducible refine (HQ2.out _).mono ?_); rintro e w7 ⟨rfl, hb7⟩; have hV9 := hV8.step hb7; have c0 := (hV9.at_ 0 rfl).cell0; have c1 := (hV9.at_ 0 rfl).cell1; have c2 := (hV9.at_ 1 rfl).cell0; have c3 := (hV9.at_ 1 rfl).cell1; have c4 := (hV9.at_ 2 rfl).cell0; have c5 := (hV9.at_ 2 rfl).cell1; have c6 := (hV9.at_ 3 rfl).cell0; have c7 := (hV9.at_ 3 rfl).cell1; rw [Nat.add_zero] at c0 c1; have hk0 := (hV9.at_ 4 rfl).cell0; have hk1 := (hV9.at_ 4 rfl).cell1; have hkf0 := (hV9.at_ 4 rfl).frozen 0; have hkf1 := (hV9.at_ 4 rfl).frozen 1))
 go_wp2_with fail
 have hVA := hV9.put 4 rfl sy Y
 generalize hW2 : (w7.setCell ⟨w.heap.size + 1 + 1 + 1 + 1, 0, none⟩ (.bool sy)).setCell ⟨w.heap.size + 1 + 1 + 1 + 1, 1, none⟩ (.string Y) = W2 at *
 have hVB : Vars w W2 [(x, s), (y, t), (sg, G), (sx, X), (sy, Y)] := hVA
 clear hW2 hVA hk0 hk1 hkf0 hkf1
 have d0 : W2.cell? ⟨w.heap.size + 1 + 1, 0, none⟩ = some (.bool sg) := (hVB.at_ 2 rfl).cell0
 have d1 : W2.cell? ⟨w.heap.size + 1 + 1, 1, none⟩ = some (.string G) := (hVB.at_ 2 rfl).cell1
 have d2 : W2.cell? ⟨w.heap.size + 1 + 1 + 1, 0, none⟩ = some (.bool sx) := (hVB.at_ 3 rfl).cell0
 have d3 : W2.cell? ⟨w.heap.size + 1 + 1 + 1, 1, none⟩ = some (.string X) := (hVB.at_ 3 rfl).cell1
 have d4 : W2.cell? ⟨w.heap.size + 1 + 1 + 1 + 1, 0, none⟩ = some (.bool sy) := (hVB.at_ 4 rfl).cell0
 have d5 : W2.cell? ⟨w.heap.size + 1 + 1 + 1 + 1, 1, none⟩ = some (.string Y) := (hVB.at_ 4 rfl).cell1
 have f0 : W2.frozen? ⟨w.heap.size + 1 + 1, 0, none⟩ = false := (hVB.at_ 2 rfl).frozen 0
 have f1 : W2.frozen? ⟨w.heap.size + 1 + 1, 1, none⟩ = false := (hVB.at_ 2 rfl).frozen 1
 have f2 : W2.frozen? ⟨w.heap.size + 1 + 1 + 1, 0, none⟩ = false := (hVB.at_ 3 rfl).frozen 0
 have f3 : W2.frozen? ⟨w.heap.size + 1 + 1 + 1, 1, none⟩ = false := (hVB.at_ 3 rfl).frozen 1
 have f4 : W2.frozen? ⟨w.heap.size + 1 + 1 + 1 + 1, 0, none⟩ = false := (hVB.at_ 4 rfl).frozen 0
 have f5 : W2.frozen? ⟨w.heap.size + 1 + 1 + 1 + 1, 1, none⟩ = false := (hVB.at_ 4 rfl).frozen 1
 clear a0 a1 a2 a3 a4 a5 a6 a7 b0 b1 b2 b3 b4 b5 b6 b7 c0 c1 c2 c3 c4 c5 c6 c7 u0 u1 u2 u3 u4 u5 u6 u7
 have s0 : W2.setCell ⟨w.heap.size + 1 + 1, 0, none⟩ (.bool sg) = W2 := (hVB.at_ 2 rfl).self0
 have s1 : W2.setCell ⟨w.heap.size + 1 + 1, 1, none⟩ (.string G) = W2 := (hVB.at_ 2 rfl).self1
 have s2 : W2.setCell ⟨w.heap.size + 1 + 1 + 1, 0, none⟩ (.bool sx) = W2 := (hVB.at_ 3 rfl).self0
 have s3 : W2.setCell ⟨w.heap.size + 1 + 1 + 1, 1, none⟩ (.string X) = W2 := (hVB.at_ 3 rfl).self1
 have s4 : W2.setCell ⟨w.heap.size + 1 + 1 + 1 + 1, 0, none⟩ (.bool sy) = W2 := (hVB.at_ 4 rfl).self0
 have s5 : W2.setCell ⟨w.heap.size + 1 + 1 + 1 + 1, 1, none⟩ (.string Y) = W2 := (hVB.at_ 4 rfl).self1
 go_region_held3 (fun w' => w'.cell? ⟨w.heap.size + 1 + 1, 0, none⟩ = some (.bool sg) ∧ w'.cell? ⟨w.heap.size + 1 + 1, 1, none⟩ = some (.string G) ∧ w'.cell? ⟨w.heap.size + 1 + 1 + 1, 0, none⟩ = some (.bool sx) ∧ w'.cell? ⟨w.heap.size + 1 + 1 + 1, 1, none⟩ = some (.string X) ∧ w'.cell? ⟨w.heap.size + 1 + 1 + 1 + 1, 0, none⟩ = some (.bool sy) ∧ w'.cell? ⟨w.heap.size + 1 + 1 + 1 + 1, 1, none⟩ = some (.string Y)) (go_keep) (first | fail)
 go_wp2
 exact post_wide3 (b := w.heap.size + 2) (c := w.heap.size + 3) (d := w.heap.size + 4) rfl rfl rfl rfl (hVB.at_ 2 rfl) (hVB.at_ 3 rfl) (hVB.at_ 4 rfl) rfl ⟨rfl, hVB.1.drew⟩
set_option maxHeartbeats 2000000 in
theorem Gcd_zero (x y : Bool) (s t : ByteArray) (w : World) (hs : s.size ≤ 2199023255552) (ht : t.size ≤ 2199023255552) (hb : wint y t = 0) :
  Calls Tryz.prog 144 #[.agg #[.bool x, .string s], .agg #[.bool y, .string t]] w fun e w' => e = .returned (.tuple #[wv (wint x s).natAbs, wv (wint x s).sign, wv 0]) ∧ Below w.heap.size w w' := by
 have hsi := fun W => Sign_any y t W (by unfold maxLen; omega)
 have hsx := fun W => Sign_any x s W (by unfold maxLen; omega)
 have hab := fun W => absolute_any x s W (by unfold maxLen; omega)
 have hsc := sign_cases (wint x s)
 have hf := fun W => From_any (wint x s).sign W (by omega) (by omega)
 have hsz : (wint y t).sign = 0 := by rw [hb]; rfl
 rw [hsz] at hsi
 obtain ⟨sg1, S1, r1⟩ := wv_agg (wint x s).natAbs
 obtain ⟨sg2, S2, r2⟩ := wv_agg (wint x s).sign
 have r3 : wv 0 = .agg #[.bool false, .string ⟨#[]⟩] := rfl
 rw [r1] at hab
 rw [r2] at hf
 rw [r1, r2, r3]
 clear r1 r2 r3 hsz hb hsc
 generalize (wint x s).sign = sgn at *
 have HSI := Lib.hid hsi
 have HSX := Lib.hid hsx
 have HAB := Lib.hid hab
 have HF := Lib.hid hf
 clear hsi hsx hab hf
 have HV := Lib.hid (Vars.start5 w x y false false false s t ⟨#[]⟩ ⟨#[]⟩ ⟨#[]⟩)
 go_enter Tryz.func144, Tryz.ntmps144
 go_wp2_with fail
 with_reducible refine (HSI.out _).mono ?_
 rintro e w1 ⟨rfl, hb1⟩
 have hV1 := HV.out.step hb1
 have hc0 := (hV1.at_ 0 rfl).cell0
 have hc1 := (hV1.at_ 0 rfl).cell1
 rw [Nat.add_zero] at hc0 hc1
 go_wp2_with fail
 go_region_held3 (fun w' => w'.cell? ⟨w.heap.size, 0, none⟩ = some (.bool x) ∧ w'.cell? ⟨w.heap.size, 1, none⟩ = some (.string s)) (first | (refine ⟨?_, ?_⟩ <;> ((iterate 3 (try ((refine (cell_two _ _ _ _ _ _ ?_).trans ?_); omega))); assumption)) | go_keep)
  (first
   | (go_at_call 156; (with_reducible refine (HAB.out _).mono ?_); rintro e w2 ⟨rfl, hb2⟩; have hV2 := hV1.drew.step hb2; have a0 := (hV2.at_ 0 rfl).cell0; have a1 := (hV2.at_ 0 rfl).cell1; rw [Nat.add_zero] at a0 a1)
   | (go_at_call 74; (with_reducible refine (HSX.out _).mono ?_); rintro e w3 ⟨rfl, hb3⟩; have hV3 := hV2.step hb3; have b0 := (hV3.at_ 0 rfl).cell0; have b1 := (hV3.at_ 0 rfl).cell1; rw [Nat.add_zero] at b0 b1)
   | (go_at_call 53; (with_reducible refine (HF.out _).mono ?_); rintro e w4 ⟨rfl, hb4⟩; have hV4 := hV3.step hb4; have c0 := (hV4.at_ 0 rfl).cell0; have c1 := (hV4.at_ 0 rfl).cell1; rw [Nat.add_zero] at c0 c1; have d0 := (hV4.at_ 2 rfl).cell0; have d1 := (hV4.at_ 2 rfl).cell1; have d2 := (hV4.at_ 3 rfl).cell0; have d3 := (hV4.at_ 3 rfl).cell1; have d4 := (hV4.at_ 4 rfl).cell0; have d5 := (hV4.at_ 4 rfl).cell1; have f0 := (hV4.at_ 2 rfl).frozen 0; have f1 := (hV4.at_ 2 rfl).frozen 1; have f2 := (hV4.at_ 3 rfl).frozen 0; have f3 := (hV4.at_ 3 rfl).frozen 1; have f4 := (hV4.at_ 4 rfl).frozen 0; have f5 := (hV4.at_ 4 rfl).frozen 1))
 have hV5 := ((hV4.put 2 rfl sg1 S1).put 3 rfl sg2 S2).put 4 rfl false ⟨#[]⟩
 go_wp2
 exact post_wide3 (b := w.heap.size + 2) (c := w.heap.size + 3) (d := w.heap.size + 4) rfl rfl rfl rfl (hV5.at_ 2 rfl) (hV5.at_ 3 rfl) (hV5.at_ 4 rfl) rfl ⟨rfl, hV5.1⟩
def wneg (z : Int) : Bool := decide (z < 0)
def wmag (z : Int) : ByteArray := bstr (canon z.natAbs)
theorem wv_def (z : Int) : wv z = .agg #[.bool (wneg z), .string (wmag z)] := rfl
theorem wint_wv' (z : Int) : wint (wneg z) (wmag z) = z := wint_wv z
theorem wmag_size (z : Int) (k : Nat) (h : z.natAbs < 256 ^ k) : (wmag z).size ≤ k := by
 unfold wmag
 rw [bstr_size]
 exact canon_length_le h
theorem wint_abs_pow (x : Bool) (s : ByteArray) (k : Nat) (h : s.size ≤ k) : (wint x s).natAbs < 256 ^ k := by
 have := bval_pow s k h
 cases x
 ·rw [wint_false, Int.natAbs_natCast]; exact this
 ·rw [wint_true, Int.natAbs_neg, Int.natAbs_natCast]; exact this
theorem egF_spec (n : Nat) (m a o r p q : Int) (hn : r < n) (hr : 0 ≤ r) (ho : r < o)
  (hs : (p ≤ 0 ∧ 0 ≤ q ∧ o * q - r * p = m) ∨ (0 ≤ p ∧ q ≤ 0 ∧ -(o * q) + r * p = m))
  (hd : ∀ d : Int, d ∣ o → d ∣ r → d ∣ a ∧ d ∣ m) (h1 : m ∣ o - p * a) (h2 : m ∣ r - q * a) :
  (egF n o r p q).1 ∣ a ∧ (egF n o r p q).1 ∣ m ∧ m ∣ (egF n o r p q).1 - (egF n o r p q).2.1 * a ∧ m ∣ (egF n o r p q).2.2 * a ∧
   ((egF n o r p q).2.2 * (egF n o r p q).1 = m ∨ (egF n o r p q).2.2 * (egF n o r p q).1 = -m) := by
 induction n generalizing o r p q with
 | zero => omega
 | succ n ih =>
  simp only [egF]
  by_cases h : 0 < r
  ·rw [if_pos h]
   have hx := eg_next m o r p q h ho hs
   refine ih r (o - o / r * r) q (p - o / r * q) (by omega) hx.1 hx.2.1 hx.2.2.2.2 ?_ h2 ?_
   ·intro d d1 d2
    refine hd d ?_ d1
    have := Int.dvd_add d2 (Int.dvd_mul_of_dvd_right (b := o / r) d1)
    rwa [show o - o / r * r + o / r * r = o from by omega] at this
   ·have := Int.dvd_sub h1 (Int.dvd_mul_of_dvd_right (b := o / r) h2)
    rwa [show o - p * a - o / r * (r - q * a) = o - o / r * r - (p - o / r * q) * a from by grind] at this
  ·rw [if_neg h]
   obtain rfl : r = 0 := by omega
   have hdd := hd o (Int.dvd_refl _) (Int.dvd_zero _)
   refine ⟨hdd.1, hdd.2, h1, ?_, ?_⟩
   ·have := Int.dvd_neg.2 h2
    rwa [show -(0 - q * a) = q * a from by omega] at this
   ·rcases hs with ⟨_, _, c⟩ | ⟨_, _, c⟩
    ·left; simp only []; grind
    ·right; simp only []; grind
theorem inv_spec (a m : Int) (h0 : 0 ≤ a) (h1 : a < m) : 1 ≤ (inv a m).1 ∧ (inv a m).1 ∣ a ∧ (inv a m).1 ∣ m ∧ m ∣ (inv a m).1 - (inv a m).2 * a ∧ 0 ≤ (inv a m).2 ∧ (inv a m).2 * (inv a m).1 < m := by
 have hk := eg_ok a m h0 h1
 have hq := egF_ok (a.toNat + 1) m m a 0 1 (by omega) h0 h1 (Int.le_refl _) (.inl ⟨Int.le_refl _, by omega, by omega⟩)
 have h := egF_spec (a.toNat + 1) m a m a 0 1 (by omega) h0 h1 (.inl ⟨Int.le_refl _, by omega, by omega⟩) (fun d d1 d2 => ⟨d2, d1⟩) (by rw [Int.zero_mul, Int.sub_zero]; exact Int.dvd_refl _) (by rw [Int.one_mul, Int.sub_self]; exact Int.dvd_zero _)
 have e1 : (inv a m).1 = (eg a m).1 := rfl
 have e2 : (inv a m).2 = (eg a m).2.1 % (eg a m).2.2 := rfl
 have e3 : egF (a.toNat + 1) m a 0 1 = eg a m := rfl
 rw [e3] at h hq
 rw [e1, e2]
 generalize (eg a m).1 = g at *
 generalize (eg a m).2.1 = p at *
 generalize (eg a m).2.2 = q at *
 obtain ⟨k1, k2, k3, k4⟩ := hk
 obtain ⟨_, _, q0, _, _⟩ := hq
 obtain ⟨a1, a2, a3, a4, a5⟩ := h
 refine ⟨k1, a1, a2, ?_, k3, ?_⟩
 ·have := Int.dvd_add a3 (Int.dvd_mul_of_dvd_right (b := p / q) a4)
  have e := Int.emod_add_mul_ediv p q
  rwa [show g - p * a + p / q * (q * a) = g - p % q * a from by grind] at this
 ·have hl := Int.emod_lt p q0
  have hp : (p % q) * g < (q.natAbs : Int) * g := Int.mul_lt_mul_of_pos_right hl (by omega)
  have : (q.natAbs : Int) * g = m := by
   rcases Int.natAbs_eq q with h | h
   ·rw [← h]
    rcases a5 with e | e
    ·exact e
    ·have : 0 ≤ q * g := Int.mul_nonneg (by omega) (by omega)
     omega
   ·rw [show ((q.natAbs : Nat) : Int) = -q from by omega, Int.neg_mul]
    rcases a5 with e | e
    ·have : q * g ≤ 0 := Int.mul_nonpos_of_nonpos_of_nonneg (by omega) (by omega)
     omega
    ·omega
  omega
end Go.Proofs.YtknaghdoffigjaaGreatDoor
