/-
  The contracts of wide.quoSmall and of wide.Quo for small numbers.
-/
import Derived.Test.YtgadnianjhaeiaaDoorMulW
namespace Go.Proofs.YtgadnianjhaeiaaDoor
open Go.RowKit

theorem quo_facts (a b : Int) (hb : b ≠ 0) (ha : -72057594037927936 ≤ a ∧ a ≤ 72057594037927936) (hb2 : -72057594037927936 ≤ b ∧ b ≤ 72057594037927936) :
    ∃ q r, q = a.tdiv b ∧ r = a.tmod b ∧ -72057594037927936 ≤ q ∧ q ≤ 72057594037927936 ∧ -72057594037927936 ≤ r ∧ r ≤ 72057594037927936 ∧
      (r < 0 → 0 < b → a / b = q - 1 ∧ a % b = r + b) ∧ (r < 0 → ¬ 0 < b → a / b = q + 1 ∧ a % b = r - b) ∧ (¬ r < 0 → a / b = q ∧ a % b = r) := by
  refine ⟨_, _, rfl, rfl, ?_⟩
  have h1 := Int.tmod_add_mul_tdiv a b
  have h2 : (a.tdiv b).natAbs ≤ a.natAbs := Int.natAbs_tdiv_le_natAbs a b
  have h3 : (a.tmod b).natAbs < b.natAbs := by
    rw [Int.natAbs_tmod]
    exact Nat.mod_lt _ (by omega)
  generalize a.tdiv b = q at *
  generalize a.tmod b = r at *
  have key : ∀ c : Int, 0 < c → ∀ p s : Int, s + c * p = a → 0 ≤ s → s < c → a / c = p ∧ a % c = s := fun c hc p s e1 e2 e3 => (Int.ediv_emod_unique hc).2 ⟨e1, e2, e3⟩
  have keyn : ∀ p s : Int, b < 0 → s + b * p = a → 0 ≤ s → s < -b → a / b = p ∧ a % b = s := fun p s hn e1 e2 e3 => by
    have := key (-b) (by omega) (-p) s (by rw [Int.neg_mul_neg]; exact e1) e2 e3
    rw [Int.ediv_neg, Int.emod_neg] at this
    exact ⟨by omega, this.2⟩
  refine ⟨by omega, by omega, by omega, by omega, fun hr hp => ?_, fun hr hp => ?_, fun hr => ?_⟩
  · exact key b hp (q - 1) (r + b) (by rw [Int.mul_sub, Int.mul_one]; omega) (by omega) (by omega)
  · exact keyn (q + 1) (r - b) (by omega) (by rw [Int.mul_add, Int.mul_one]; omega) (by omega) (by omega)
  · rcases Int.lt_or_gt_of_ne hb with h | h
    · exact keyn q r h h1 (by omega) (by omega)
    · exact key b h q r h1 (by omega) (by omega)

set_option maxHeartbeats 1000000 in
theorem quoSmall_any (a b : Int) (w : World) (hb : b ≠ 0) (ha : -72057594037927936 ≤ a ∧ a ≤ 72057594037927936) (hb2 : -72057594037927936 ≤ b ∧ b ≤ 72057594037927936) :
    Calls Tryd.prog 57 #[.int .i64 a, .int .i64 b] w fun e w' => e = .returned (.tuple #[.int .i64 (a / b), .int .i64 (a % b)]) ∧ Below w.heap.size w w' := by
  obtain ⟨q, r, hq, hr, q1, q2, r1, r2, f1, f2, f3⟩ := quo_facts a b hb ha hb2
  obtain ⟨a1, a2⟩ := ha
  obtain ⟨b1, b2⟩ := hb2
  have hb0 : (b == 0) = false := by simp [hb]
  have hwq : IntKind.i64.wrap (a.tdiv b) = q := by rw [← hq]; exact IntWalk.i64_in _ (by omega)
  have hwr : a.tmod b = r := hr.symm
  have F1 := Lib.hid f1
  have F2 := Lib.hid f2
  have F3 := Lib.hid f3
  clear f1 f2 f3 hq hr
  by_cases h1 : r < 0
  · by_cases h2 : 0 < b
    · have HR := Lib.hid (F1.out h1 h2)
      go_enter Tryd.func57, Tryd.ntmps57
      go_wp2_with fail
      go_quiet (fail)
      go_wp2
      go_ret2
      exact ⟨by rw [HR.out.1, HR.out.2]; rfl, below_many (Below.refl _ _) _⟩
    · have HR := Lib.hid (F2.out h1 h2)
      go_enter Tryd.func57, Tryd.ntmps57
      go_wp2_with fail
      go_quiet (fail)
      go_wp2
      go_ret2
      exact ⟨by rw [HR.out.1, HR.out.2]; rfl, below_many (Below.refl _ _) _⟩
  · have HR := Lib.hid (F3.out h1)
    go_enter Tryd.func57, Tryd.ntmps57
    go_wp2_with fail
    go_quiet (fail)
    go_wp2
    go_ret2
    exact ⟨by rw [HR.out.1, HR.out.2]; rfl, below_many (Below.refl _ _) _⟩

theorem Vars.start4 (w : World) (x y z v : Bool) (s t u r : ByteArray) : Vars w ((((w.alloc (wbox x s)).alloc (wbox y t)).alloc (wbox z u)).alloc (wbox v r)) [(x, s), (y, t), (z, u), (v, r)] := (Vars.start3 w x y z s t u).more (by simp) v r

/-- A variable takes another Wide. -/
theorem Vars.put {w0 w : World} {l : List (Bool × ByteArray)} (h : Vars w0 w l) (i : Nat) {x : Bool} {s : ByteArray} (hi : l[i]? = some (x, s)) (y : Bool) (t : ByteArray) :
    Vars w0 ((w.setCell ⟨w0.heap.size + i, 0, none⟩ (.bool y)).setCell ⟨w0.heap.size + i, 1, none⟩ (.string t)) (l.set i (y, t)) := by
  have hl : i < l.length := (List.getElem?_eq_some_iff.1 hi).1
  refine ⟨(h.1.setCell (by simp only []; omega) _).setCell (by simp only []; omega) _, ?_, fun j p hj => ?_⟩
  · have := h.2.1
    simpa [World.setCell] using this
  · by_cases hij : i = j
    · subst hij
      rw [List.getElem?_set_self hl] at hj
      obtain rfl := Option.some.inj hj
      exact ((h.at_ i hi).set0 y).set1 t
    · rw [List.getElem?_set_ne hij] at hj
      exact ((h.2.2 j p hj).far (by simp only []; omega) _).far (by simp only []; omega) _

/-- The Wide of z, as the program holds it. -/
theorem wv_agg (z : Int) : ∃ sg S, wv z = .agg #[.bool sg, .string S] := ⟨_, _, rfl⟩
theorem size_ne {s : ByteArray} {x : Bool} (h : wint x s ≠ 0) : (wint x s).sign ≠ 0 := fun e => h (Int.sign_eq_zero_iff_zero.1 e)

set_option maxHeartbeats 1000000 in
theorem Quo_small (x y : Bool) (s t : ByteArray) (w : World) (hs : s.size ≤ 7) (ht : t.size ≤ 7) (hb : wint y t ≠ 0) :
    Calls Tryd.prog 27 #[.agg #[.bool x, .string s], .agg #[.bool y, .string t]] w fun e w' => e = .returned (.tuple #[wv (wint x s / wint y t), wv (wint x s % wint y t), .bool true]) ∧ Below w.heap.size w w' := by
  have hsi := fun W => Sign_any y t W (by unfold maxLen; omega)
  have hp := fun W => small_yes x s W hs
  have hq := fun W => small_yes y t W ht
  have b1 := wint_bounds x s hs
  have b2 := wint_bounds y t ht
  have hqs := fun W => quoSmall_any (wint x s) (wint y t) W hb b1 b2
  have hsz : ((wint y t).sign == 0) = false := by simpa using hb
  have hb3 : (wint x s / wint y t).natAbs ≤ 72057594037927936 := Nat.le_trans (Int.natAbs_ediv_le_natAbs _ _) (by omega)
  have hb4 : 0 ≤ wint x s % wint y t := Int.emod_nonneg _ hb
  have hb5 : wint x s % wint y t < (wint y t).natAbs := Int.emod_lt _ hb
  have hf1 := fun W => From_any (wint x s / wint y t) W (by omega) (by omega)
  have hf2 := fun W => From_any (wint x s % wint y t) W (by omega) (by omega)
  obtain ⟨sg1, S1, e1⟩ := wv_agg (wint x s / wint y t)
  obtain ⟨sg2, S2, e2⟩ := wv_agg (wint x s % wint y t)
  rw [e1] at hf1
  rw [e2] at hf2
  rw [e1, e2]
  clear e1 e2 hb3 hb4 hb5 hb
  generalize (wint y t).sign = sgn at *
  generalize wint x s / wint y t = Q at *
  generalize wint x s % wint y t = R at *
  generalize wint x s = a at *
  generalize wint y t = b at *
  clear b1 b2
  have HSI := Lib.hid hsi
  have HP := Lib.hid hp
  have HQ := Lib.hid hq
  have HQS := Lib.hid hqs
  have HF1 := Lib.hid hf1
  have HF2 := Lib.hid hf2
  clear hsi hp hq hqs hf1 hf2
  have HV := Lib.hid (Vars.start4 w x y false false s t ⟨#[]⟩ ⟨#[]⟩)
  go_enter Tryd.func27, Tryd.ntmps27
  go_wp2_with fail
  with_reducible refine (HSI.out _).mono ?_
  rintro e w1 ⟨rfl, hb1⟩
  have hV1 := Lib.hid (HV.out.step hb1)
  have hc0 := (hV1.out.at_ 0 rfl).cell0
  have hc1 := (hV1.out.at_ 0 rfl).cell1
  rw [Nat.add_zero] at hc0 hc1
  go_wp2_with fail
  with_reducible refine (HP.out _).mono ?_
  rintro e w2 ⟨rfl, hb2⟩
  have hV2 := Lib.hid (hV1.out.step hb2)
  clear hc0 hc1 hb1
  have hc0 := (hV2.out.at_ 1 rfl).cell0
  have hc1 := (hV2.out.at_ 1 rfl).cell1
  go_wp2_with fail
  with_reducible refine (HQ.out _).mono ?_
  rintro e w3 ⟨rfl, hb3⟩
  have hV3 := Lib.hid (hV2.out.step hb3)
  clear hc0 hc1 hb2
  go_wp2_with fail
  with_reducible refine (HQS.out _).mono ?_
  rintro e w4 ⟨rfl, hb4⟩
  have hV4 := Lib.hid (hV3.out.step hb4)
  clear hb3
  go_wp2_with fail
  with_reducible refine (HF1.out _).mono ?_
  rintro e w5 ⟨rfl, hb5⟩
  have hV5 := Lib.hid (hV4.out.step hb5)
  clear hb4
  go_wp2_with fail
  with_reducible refine (HF2.out _).mono ?_
  rintro e w6 ⟨rfl, hb6⟩
  have hV6 := hV5.out.step hb6
  clear hb5
  have hz0 := (hV6.at_ 2 rfl).cell0
  have hz1 := (hV6.at_ 2 rfl).cell1
  have hzf0 := (hV6.at_ 2 rfl).frozen 0
  have hzf1 := (hV6.at_ 2 rfl).frozen 1
  have hz2 := (hV6.at_ 3 rfl).cell0
  have hz3 := (hV6.at_ 3 rfl).cell1
  have hzf2 := (hV6.at_ 3 rfl).frozen 0
  have hzf3 := (hV6.at_ 3 rfl).frozen 1
  have hV7 := (hV6.put 2 rfl sg1 S1).put 3 rfl sg2 S2
  go_wp2
  exact post_wide_wide_tmp (b := w.heap.size + 2) (c := w.heap.size + 3) rfl rfl rfl (hV7.at_ 2 rfl) (hV7.at_ 3 rfl) rfl ⟨rfl, hV7.1⟩
end Go.Proofs.YtgadnianjhaeiaaDoor
