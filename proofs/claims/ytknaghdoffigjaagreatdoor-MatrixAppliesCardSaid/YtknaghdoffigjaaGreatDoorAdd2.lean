import Derived.Test.YtknaghdoffigjaaGreatDoorZParts
set_option linter.unusedSimpArgs false
set_option linter.unusedVariables false
set_option linter.unnecessarySimpa false
namespace Go.Proofs.YtknaghdoffigjaaGreatDoor
open Go.RowKit
theorem Vars.of3 {w0 w : World} {x y z : Bool} {s t u : ByteArray} (hb : Below w0.heap.size w0 w) (hs : w0.heap.size + 3 ≤ w.heap.size) (h0 : Wd w w0.heap.size x s) (h1 : Wd w (w0.heap.size + 1) y t) (h2 : Wd w (w0.heap.size + 2) z u) :
  Vars w0 w [(x, s), (y, t), (z, u)] := by
 refine ⟨hb, by simpa using hs, fun i p hi => ?_⟩
 match i, hi with
 | 0, hi => simp at hi; subst hi; exact h0
 | 1, hi => simp at hi; subst hi; exact h1
 | 2, hi => simp at hi; subst hi; exact h2
 | i + 3, hi => simp at hi
theorem Vars.swapped {w0 w : World} {x y z : Bool} {s t u : ByteArray} (h : Vars w0 w [(x, s), (y, t), (z, u)]) :
  Vars w0 ((((w.setCell ⟨w0.heap.size, 0, none⟩ (.bool y)).setCell ⟨w0.heap.size, 1, none⟩ (.string t)).setCell ⟨w0.heap.size + 1, 0, none⟩ (.bool x)).setCell ⟨w0.heap.size + 1, 1, none⟩ (.string s)) [(y, t), (x, s), (z, u)] := by
 have h0 := h.at_ 0 rfl
 have h1 := h.at_ 1 rfl
 have h2 := h.at_ 2 rfl
 rw [Nat.add_zero] at h0
 refine Vars.of3 ?_ ?_ ?_ ?_ ?_
 ·exact (((h.1.setCell (Nat.le_refl _) _).setCell (Nat.le_refl _) _).setCell (by simp only []; omega) _).setCell (by simp only []; omega) _
 ·have := h.2.1
  simpa [World.setCell] using this
 ·exact (((h0.set0 y).set1 t).far (by simp only []; omega) _).far (by simp only []; omega) _
 ·exact ((((h1.far (by simp only []; omega) _).far (by simp only []; omega) _).set0 x).set1 s)
 ·exact (((h2.far (by simp only []; omega) _).far (by simp only []; omega) _).far (by simp only []; omega) _).far (by simp only []; omega) _
set_option maxHeartbeats 2000000 in
theorem Add_same_A (x : Bool) (s t : ByteArray) (w : World) (hs : s.size ≤ 4398046511104) (ht : t.size ≤ 4398046511104) (hbig : 7 < s.size) :
  Calls Tryz.prog 52 #[.agg #[.bool x, .string s], .agg #[.bool x, .string t]] w fun e w' => e = .returned (wv (wint x s + wint x t)) ∧ Below w.heap.size w w' := by
 have hps := fun W => partsOf_rd s W hs
 have hpt := fun W => partsOf_rd t W ht
 have l1 := bval_limbs_length s 549755813888 (by omega)
 have l2 := bval_limbs_length t 549755813888 (by omega)
 have l3 := limbs_add_length l1 l2
 have hwv : wint x s + wint x t = (if x = true then -((bval s.data.toList + bval t.data.toList : Nat) : Int) else ((bval s.data.toList + bval t.data.toList : Nat) : Int)) := by
  cases x
  ·rw [wint_false, wint_false, if_neg (by decide), Int.natCast_add]
  ·rw [wint_true, wint_true, if_pos rfl, Int.natCast_add]; omega
 rw [hwv]
 have hp := fun W => small_no x s W hbig (by unfold maxLen; omega)
 generalize bval s.data.toList = N at *
 generalize bval t.data.toList = M at *
 have hsg := fun A n c W hn hx => signed_any x A n c (N + M) W hn hx (by omega)
 have hr : wv (if x = true then -((N + M : Nat) : Int) else ((N + M : Nat) : Int)) = .agg #[.bool (decide ((if x = true then -((N + M : Nat) : Int) else ((N + M : Nat) : Int)) < 0)), .string (bstr (canon (N + M)))] := by
  cases x
  ·rw [if_neg (by decide)]; unfold wv; rw [Int.natAbs_natCast]
  ·rw [if_pos rfl]; unfold wv; rw [Int.natAbs_neg, Int.natAbs_natCast]
 generalize bstr (canon (N + M)) = S at *
 generalize decide ((if x = true then -((N + M : Nat) : Int) else ((N + M : Nat) : Int)) < 0) = sg at *
 generalize wv (if x = true then -((N + M : Nat) : Int) else ((N + M : Nat) : Int)) = R at *
 rw [hr] at hsg
 have HP := Lib.hid hp
 have HS := Lib.hid hps
 have HT := Lib.hid hpt
 have HG := Lib.hid hsg
 have HWV := Lib.hid hr
 clear hp hps hpt hsg hwv hr
 have HV := Lib.hid (Vars.start3 w x x false s t ⟨#[]⟩)
 have hxx : (x == x) = true := by simp
 go_enter Tryz.func52, Tryz.ntmps52
 go_wp2_with fail
 with_reducible refine (HP.out _).mono ?_
 rintro e w1 ⟨rfl, hb1⟩
 have hV1 := HV.out.step hb1
 have hc0 := (hV1.at_ 1 rfl).cell0
 have hc1 := (hV1.at_ 1 rfl).cell1
 have hd0 := (hV1.at_ 0 rfl).cell0
 have hd1 := (hV1.at_ 0 rfl).cell1
 rw [Nat.add_zero] at hd0 hd1
 go_wp2_with fail
 go_region_held3 (fun w' => w'.cell? ⟨w.heap.size, 0, none⟩ = some (.bool x) ∧ w'.cell? ⟨w.heap.size, 1, none⟩ = some (.string s) ∧ w'.cell? ⟨w.heap.size + 1, 1, none⟩ = some (.string t)) (first | (refine ⟨?_, ?_, ?_⟩ <;> ((refine (cell_two _ _ _ _ _ _ ?_).trans ?_); omega; assumption)) | go_keep)
  (first
   | (go_at_call 98; (with_reducible refine (HS.out _).mono ?_); rintro e w2 ⟨A1, n1, c1, rfl, hn1, hcc1, hr1, hb2⟩; have hV2 := hV1.drew.step hb2; have hd0' := (hV2.at_ 0 rfl).cell0; have hd1' := (hV2.at_ 0 rfl).cell1; have hc1' := (hV2.at_ 1 rfl).cell1; rw [Nat.add_zero] at hd0' hd1')
   | (go_at_call 98; (with_reducible refine (HT.out _).mono ?_); rintro e w3 ⟨A2, n2, c2, rfl, hn2, hcc2, hr2, hb3⟩; have hV3 := hV2.step hb3; have hr1' := hr1.below hb3; have hd0'' := (hV3.at_ 0 rfl).cell0; have hd1'' := (hV3.at_ 0 rfl).cell1; have hc1'' := (hV3.at_ 1 rfl).cell1; rw [Nat.add_zero] at hd0'' hd1'')
   | (go_at_call 99; (with_reducible refine (sum_rd _ _ _ _ _ _ N M _ hn1 hn2 hr1' hr2 (by omega) (by omega)).mono ?_); rotate_right; rintro e w4 ⟨A3, n3, c3, rfl, hn3, hcc3, hr3, hb4⟩; have hV4 := hV3.step hb4; have hd0''' := (hV4.at_ 0 rfl).cell0; have hd1''' := (hV4.at_ 0 rfl).cell1; have hc1''' := (hV4.at_ 1 rfl).cell1; rw [Nat.add_zero] at hd0''' hd1''')
   | (go_at_call 96; (with_reducible refine (HG.out _ _ _ _ hn3 hr3).mono ?_); rintro e w5 ⟨rfl, hb5⟩; have hV5 := hV4.step hb5; have hd0'''' := (hV5.at_ 0 rfl).cell0; have hd1'''' := (hV5.at_ 0 rfl).cell1; have hc1'''' := (hV5.at_ 1 rfl).cell1; rw [Nat.add_zero] at hd0'''' hd1''''; have hz0 := (hV5.at_ 2 rfl).cell0; have hz1 := (hV5.at_ 2 rfl).cell1; have hzf0 := (hV5.at_ 2 rfl).frozen 0; have hzf1 := (hV5.at_ 2 rfl).frozen 1))
 go_wp2
 exact post_wide (b := w.heap.size + 2) rfl rfl (hV5.done 2 rfl).1 rfl ⟨by rw [HWV.out], (hV5.done 2 rfl).2⟩
set_option maxHeartbeats 2000000 in
theorem Add_same_B (x : Bool) (s t : ByteArray) (w : World) (hs : s.size ≤ 4398046511104) (ht : t.size ≤ 4398046511104) (hsm : s.size ≤ 7) (hbig : 7 < t.size) :
  Calls Tryz.prog 52 #[.agg #[.bool x, .string s], .agg #[.bool x, .string t]] w fun e w' => e = .returned (wv (wint x s + wint x t)) ∧ Below w.heap.size w w' := by
 have hps := fun W => partsOf_rd s W hs
 have hpt := fun W => partsOf_rd t W ht
 have l1 := bval_limbs_length s 549755813888 (by omega)
 have l2 := bval_limbs_length t 549755813888 (by omega)
 have l3 := limbs_add_length l1 l2
 have hwv : wint x s + wint x t = (if x = true then -((bval s.data.toList + bval t.data.toList : Nat) : Int) else ((bval s.data.toList + bval t.data.toList : Nat) : Int)) := by
  cases x
  ·rw [wint_false, wint_false, if_neg (by decide), Int.natCast_add]
  ·rw [wint_true, wint_true, if_pos rfl, Int.natCast_add]; omega
 rw [hwv]
 have hp := fun W => small_yes x s W hsm
 have hq := fun W => small_no x t W hbig (by unfold maxLen; omega)
 generalize wint x s = sv at hp
 generalize bval s.data.toList = N at *
 generalize bval t.data.toList = M at *
 have hsg := fun A n c W hn hx => signed_any x A n c (N + M) W hn hx (by omega)
 have hr : wv (if x = true then -((N + M : Nat) : Int) else ((N + M : Nat) : Int)) = .agg #[.bool (decide ((if x = true then -((N + M : Nat) : Int) else ((N + M : Nat) : Int)) < 0)), .string (bstr (canon (N + M)))] := by
  cases x
  ·rw [if_neg (by decide)]; unfold wv; rw [Int.natAbs_natCast]
  ·rw [if_pos rfl]; unfold wv; rw [Int.natAbs_neg, Int.natAbs_natCast]
 generalize bstr (canon (N + M)) = S at *
 generalize decide ((if x = true then -((N + M : Nat) : Int) else ((N + M : Nat) : Int)) < 0) = sg at *
 generalize wv (if x = true then -((N + M : Nat) : Int) else ((N + M : Nat) : Int)) = R at *
 rw [hr] at hsg
 have HP := Lib.hid hp
 have HQ := Lib.hid hq
 clear hq
 have HS := Lib.hid hps
 have HT := Lib.hid hpt
 have HG := Lib.hid hsg
 have HWV := Lib.hid hr
 clear hp hps hpt hsg hwv hr
 have HV := Lib.hid (Vars.start3 w x x false s t ⟨#[]⟩)
 have hxx : (x == x) = true := by simp
 go_enter Tryz.func52, Tryz.ntmps52
 go_wp2_with fail
 with_reducible refine (HP.out _).mono ?_
 rintro e w0 ⟨rfl, hb0⟩
 have hV0 := HV.out.step hb0
 have hc0 := (hV0.at_ 1 rfl).cell0
 have hc1 := (hV0.at_ 1 rfl).cell1
 go_wp2_with fail
 with_reducible refine (HQ.out _).mono ?_
 rintro e w1 ⟨rfl, hb1⟩
 have hV1 := hV0.step hb1
 clear hc0 hc1
 have hc0 := (hV1.at_ 1 rfl).cell0
 have hc1 := (hV1.at_ 1 rfl).cell1
 have hd0 := (hV1.at_ 0 rfl).cell0
 have hd1 := (hV1.at_ 0 rfl).cell1
 rw [Nat.add_zero] at hd0 hd1
 go_wp2_with fail
 go_region_held3 (fun w' => w'.cell? ⟨w.heap.size, 0, none⟩ = some (.bool x) ∧ w'.cell? ⟨w.heap.size, 1, none⟩ = some (.string s) ∧ w'.cell? ⟨w.heap.size + 1, 1, none⟩ = some (.string t)) (first | (refine ⟨?_, ?_, ?_⟩ <;> ((refine (cell_two _ _ _ _ _ _ ?_).trans ?_); omega; assumption)) | go_keep)
  (first
   | (go_at_call 98; (with_reducible refine (HS.out _).mono ?_); rintro e w2 ⟨A1, n1, c1, rfl, hn1, hcc1, hr1, hb2⟩; have hV2 := hV1.drew.step hb2; have hd0' := (hV2.at_ 0 rfl).cell0; have hd1' := (hV2.at_ 0 rfl).cell1; have hc1' := (hV2.at_ 1 rfl).cell1; rw [Nat.add_zero] at hd0' hd1')
   | (go_at_call 98; (with_reducible refine (HT.out _).mono ?_); rintro e w3 ⟨A2, n2, c2, rfl, hn2, hcc2, hr2, hb3⟩; have hV3 := hV2.step hb3; have hr1' := hr1.below hb3; have hd0'' := (hV3.at_ 0 rfl).cell0; have hd1'' := (hV3.at_ 0 rfl).cell1; have hc1'' := (hV3.at_ 1 rfl).cell1; rw [Nat.add_zero] at hd0'' hd1'')
   | (go_at_call 99; (with_reducible refine (sum_rd _ _ _ _ _ _ N M _ hn1 hn2 hr1' hr2 (by omega) (by omega)).mono ?_); rotate_right; rintro e w4 ⟨A3, n3, c3, rfl, hn3, hcc3, hr3, hb4⟩; have hV4 := hV3.step hb4; have hd0''' := (hV4.at_ 0 rfl).cell0; have hd1''' := (hV4.at_ 0 rfl).cell1; have hc1''' := (hV4.at_ 1 rfl).cell1; rw [Nat.add_zero] at hd0''' hd1''')
   | (go_at_call 96; (with_reducible refine (HG.out _ _ _ _ hn3 hr3).mono ?_); rintro e w5 ⟨rfl, hb5⟩; have hV5 := hV4.step hb5; have hd0'''' := (hV5.at_ 0 rfl).cell0; have hd1'''' := (hV5.at_ 0 rfl).cell1; have hc1'''' := (hV5.at_ 1 rfl).cell1; rw [Nat.add_zero] at hd0'''' hd1''''; have hz0 := (hV5.at_ 2 rfl).cell0; have hz1 := (hV5.at_ 2 rfl).cell1; have hzf0 := (hV5.at_ 2 rfl).frozen 0; have hzf1 := (hV5.at_ 2 rfl).frozen 1))
 go_wp2
 exact post_wide (b := w.heap.size + 2) rfl rfl (hV5.done 2 rfl).1 rfl ⟨by rw [HWV.out], (hV5.done 2 rfl).2⟩
set_option maxHeartbeats 2000000 in
theorem Add_ge_A (x : Bool) (s t : ByteArray) (w : World) (hs : s.size ≤ 4398046511104) (ht : t.size ≤ 4398046511104) (hbig : 7 < s.size) (hle : bval t.data.toList ≤ bval s.data.toList) :
  Calls Tryz.prog 52 #[.agg #[.bool x, .string s], .agg #[.bool (!x), .string t]] w fun e w' => e = .returned (wv (wint x s + wint (!x) t)) ∧ Below w.heap.size w w' := by
 have hps := fun W => partsOf_rd s W hs
 have hpt := fun W => partsOf_rd t W ht
 have l1 := bval_limbs_length s 549755813888 (by omega)
 have l2 := bval_limbs_length t 549755813888 (by omega)
 have hcs : 0 ≤ ((bval s.data.toList : Int) - bval t.data.toList).sign := by have := sign_cases ((bval s.data.toList : Int) - bval t.data.toList); omega
 have hc' := fun W => compareSizes_any x (!x) s t W (by unfold maxLen; omega) (by unfold maxLen; omega)
 generalize ((bval s.data.toList : Int) - bval t.data.toList).sign = cs at *
 have hwv : wint x s + wint (!x) t = (if x = true then -((bval s.data.toList - bval t.data.toList : Nat) : Int) else ((bval s.data.toList - bval t.data.toList : Nat) : Int)) := by
  cases x
  ·rw [Bool.not_false, wint_false, wint_true, if_neg (by decide)]; omega
  ·rw [Bool.not_true, wint_true, wint_false, if_pos rfl]; omega
 rw [hwv]
 have hp := fun W => small_no x s W hbig (by unfold maxLen; omega)
 generalize bval s.data.toList = N at *
 generalize bval t.data.toList = M at *
 have l3 : (limbs (N - M)).length ≤ 549755813888 := Nat.le_trans (limbs_length_mono (Nat.sub_le _ _)) (by omega)
 have hsg := fun A n c W hn hx => signed_any x A n c (N - M) W hn hx (by omega)
 have hr : wv (if x = true then -(((N - M) : Nat) : Int) else (((N - M) : Nat) : Int)) = .agg #[.bool (decide ((if x = true then -(((N - M) : Nat) : Int) else (((N - M) : Nat) : Int)) < 0)), .string (bstr (canon (N - M)))] := by
  cases x
  all_goals first | (rw [if_neg (by decide)]; unfold wv; rw [Int.natAbs_natCast]) | (rw [if_pos (by rfl)]; unfold wv; rw [Int.natAbs_neg, Int.natAbs_natCast])
 generalize bstr (canon (N - M)) = S at *
 generalize decide ((if x = true then -(((N - M) : Nat) : Int) else (((N - M) : Nat) : Int)) < 0) = sg at *
 generalize wv (if x = true then -(((N - M) : Nat) : Int) else (((N - M) : Nat) : Int)) = R at *
 rw [hr] at hsg
 have HP := Lib.hid hp
 have HS := Lib.hid hps
 have HT := Lib.hid hpt
 have HG := Lib.hid hsg
 have HWV := Lib.hid hr
 have HC := Lib.hid hc'
 clear hp hps hpt hsg hwv hr hc'
 have HV := Lib.hid (Vars.start3 w x (!x) false s t ⟨#[]⟩)
 have hxx : (x == !x) = false := by cases x <;> rfl
 go_enter Tryz.func52, Tryz.ntmps52
 go_wp2_with fail
 with_reducible refine (HP.out _).mono ?_
 rintro e w1 ⟨rfl, hb1⟩
 have hV1 := HV.out.step hb1
 have hc0 := (hV1.at_ 1 rfl).cell0
 have hc1 := (hV1.at_ 1 rfl).cell1
 have hd0 := (hV1.at_ 0 rfl).cell0
 have hd1 := (hV1.at_ 0 rfl).cell1
 rw [Nat.add_zero] at hd0 hd1
 go_wp2_with fail
 with_reducible refine (HC.out _).mono ?_
 rintro e w1b ⟨rfl, hb1b⟩
 have hV1b := hV1.step hb1b
 clear hc0 hc1 hd0 hd1
 have hc0 := (hV1b.at_ 1 rfl).cell0
 have hc1 := (hV1b.at_ 1 rfl).cell1
 have hd0 := (hV1b.at_ 0 rfl).cell0
 have hd1 := (hV1b.at_ 0 rfl).cell1
 rw [Nat.add_zero] at hd0 hd1
 go_wp2_with fail
 go_region_held3 (fun w' => w'.cell? ⟨w.heap.size, 0, none⟩ = some (.bool x) ∧ w'.cell? ⟨w.heap.size, 1, none⟩ = some (.string s) ∧ w'.cell? ⟨w.heap.size + 1, 1, none⟩ = some (.string t)) (first | (refine ⟨?_, ?_, ?_⟩ <;> ((refine (cell_two _ _ _ _ _ _ ?_).trans ?_); omega; assumption)) | go_keep)
  (first
   | (go_at_call 98; (with_reducible refine (HS.out _).mono ?_); rintro e w2 ⟨A1, n1, c1, rfl, hn1, hcc1, hr1, hb2⟩; have hV2 := hV1b.drew.step hb2; have hd0' := (hV2.at_ 0 rfl).cell0; have hd1' := (hV2.at_ 0 rfl).cell1; have hc1' := (hV2.at_ 1 rfl).cell1; rw [Nat.add_zero] at hd0' hd1')
   | (go_at_call 98; (with_reducible refine (HT.out _).mono ?_); rintro e w3 ⟨A2, n2, c2, rfl, hn2, hcc2, hr2, hb3⟩; have hV3 := hV2.step hb3; have hr1' := hr1.below hb3; have hd0'' := (hV3.at_ 0 rfl).cell0; have hd1'' := (hV3.at_ 0 rfl).cell1; have hc1'' := (hV3.at_ 1 rfl).cell1; rw [Nat.add_zero] at hd0'' hd1'')
   | (go_at_call 101; (with_reducible refine (difference_rd _ _ _ _ _ _ N M _ hn1 hn2 hr1' hr2 (by omega) (by omega)).mono ?_); rotate_right; rintro e w4 ⟨A3, n3, c3, rfl, hn3, hcc3, hr3, hb4⟩; have hV4 := hV3.step hb4; have hd0''' := (hV4.at_ 0 rfl).cell0; have hd1''' := (hV4.at_ 0 rfl).cell1; have hc1''' := (hV4.at_ 1 rfl).cell1; rw [Nat.add_zero] at hd0''' hd1''')
   | (go_at_call 96; (with_reducible refine (HG.out _ _ _ _ hn3 hr3).mono ?_); rintro e w5 ⟨rfl, hb5⟩; have hV5 := hV4.step hb5; have hd0'''' := (hV5.at_ 0 rfl).cell0; have hd1'''' := (hV5.at_ 0 rfl).cell1; have hc1'''' := (hV5.at_ 1 rfl).cell1; rw [Nat.add_zero] at hd0'''' hd1''''; have hz0 := (hV5.at_ 2 rfl).cell0; have hz1 := (hV5.at_ 2 rfl).cell1; have hzf0 := (hV5.at_ 2 rfl).frozen 0; have hzf1 := (hV5.at_ 2 rfl).frozen 1))
 go_wp2
 exact post_wide (b := w.heap.size + 2) rfl rfl (hV5.done 2 rfl).1 rfl ⟨by rw [HWV.out], (hV5.done 2 rfl).2⟩
set_option maxHeartbeats 2000000 in
theorem Add_lt_A (x : Bool) (s t : ByteArray) (w : World) (hs : s.size ≤ 4398046511104) (ht : t.size ≤ 4398046511104) (hbig : 7 < s.size) (hle : bval s.data.toList < bval t.data.toList) :
  Calls Tryz.prog 52 #[.agg #[.bool x, .string s], .agg #[.bool (!x), .string t]] w fun e w' => e = .returned (wv (wint x s + wint (!x) t)) ∧ Below w.heap.size w w' := by
 have hps := fun W => partsOf_rd s W hs
 have hpt := fun W => partsOf_rd t W ht
 have l1 := bval_limbs_length s 549755813888 (by omega)
 have l2 := bval_limbs_length t 549755813888 (by omega)
 have hcs : ((bval s.data.toList : Int) - bval t.data.toList).sign = -1 := Int.sign_eq_neg_one_of_neg (by omega)
 have hc' := fun W => compareSizes_any x (!x) s t W (by unfold maxLen; omega) (by unfold maxLen; omega)
 rw [hcs] at hc'
 have hwv : wint x s + wint (!x) t = (if (!x) = true then -((bval t.data.toList - bval s.data.toList : Nat) : Int) else ((bval t.data.toList - bval s.data.toList : Nat) : Int)) := by
  cases x
  ·rw [Bool.not_false, wint_false, wint_true, if_pos rfl]; omega
  ·rw [Bool.not_true, wint_true, wint_false, if_neg (by decide)]; omega
 rw [hwv]
 have hp := fun W => small_no x s W hbig (by unfold maxLen; omega)
 generalize bval s.data.toList = N at *
 generalize bval t.data.toList = M at *
 have l3 : (limbs (M - N)).length ≤ 549755813888 := Nat.le_trans (limbs_length_mono (Nat.sub_le _ _)) (by omega)
 have hsg := fun A n c W hn hx => signed_any (!x) A n c (M - N) W hn hx (by omega)
 have hr : wv (if (!x) = true then -(((M - N) : Nat) : Int) else (((M - N) : Nat) : Int)) = .agg #[.bool (decide ((if (!x) = true then -(((M - N) : Nat) : Int) else (((M - N) : Nat) : Int)) < 0)), .string (bstr (canon (M - N)))] := by
  cases x
  all_goals first | (rw [if_neg (by decide)]; unfold wv; rw [Int.natAbs_natCast]) | (rw [if_pos (by rfl)]; unfold wv; rw [Int.natAbs_neg, Int.natAbs_natCast])
 generalize bstr (canon (M - N)) = S at *
 generalize decide ((if (!x) = true then -(((M - N) : Nat) : Int) else (((M - N) : Nat) : Int)) < 0) = sg at *
 generalize wv (if (!x) = true then -(((M - N) : Nat) : Int) else (((M - N) : Nat) : Int)) = R at *
 rw [hr] at hsg
 have HP := Lib.hid hp
 have HS := Lib.hid hps
 have HT := Lib.hid hpt
 have HG := Lib.hid hsg
 have HWV := Lib.hid hr
 have HC := Lib.hid hc'
 clear hp hps hpt hsg hwv hr hc'
 have HV := Lib.hid (Vars.start3 w x (!x) false s t ⟨#[]⟩)
 have hxx : (x == !x) = false := by cases x <;> rfl
 go_enter Tryz.func52, Tryz.ntmps52
 go_wp2_with fail
 with_reducible refine (HP.out _).mono ?_
 rintro e w1 ⟨rfl, hb1⟩
 have hV1 := HV.out.step hb1
 have hc0 := (hV1.at_ 1 rfl).cell0
 have hc1 := (hV1.at_ 1 rfl).cell1
 have hd0 := (hV1.at_ 0 rfl).cell0
 have hd1 := (hV1.at_ 0 rfl).cell1
 rw [Nat.add_zero] at hd0 hd1
 go_wp2_with fail
 with_reducible refine (HC.out _).mono ?_
 rintro e w1b ⟨rfl, hb1b⟩
 have hV1b := hV1.step hb1b
 clear hc0 hc1 hd0 hd1
 have hc0 := (hV1b.at_ 1 rfl).cell0
 have hc1 := (hV1b.at_ 1 rfl).cell1
 have hd0 := (hV1b.at_ 0 rfl).cell0
 have hd1 := (hV1b.at_ 0 rfl).cell1
 rw [Nat.add_zero] at hd0 hd1
 have hg0 := (hV1b.at_ 0 rfl).frozen 0
 have hg1 := (hV1b.at_ 0 rfl).frozen 1
 rw [Nat.add_zero] at hg0 hg1
 have hg2 := (hV1b.at_ 1 rfl).frozen 0
 have hg3 := (hV1b.at_ 1 rfl).frozen 1
 have hVs := hV1b.swapped
 have hk0 := (hVs.at_ 1 rfl).cell0
 have hk1 := (hVs.at_ 1 rfl).cell1
 have hk2 := (hVs.at_ 0 rfl).cell0
 have hk3 := (hVs.at_ 0 rfl).cell1
 rw [Nat.add_zero] at hk2 hk3
 go_wp2_with fail
 generalize hW : (((w1b.setCell ⟨w.heap.size, 0, none⟩ (.bool !x)).setCell ⟨w.heap.size, 1, none⟩ (.string t)).setCell ⟨w.heap.size + 1, 0, none⟩ (.bool x)).setCell ⟨w.heap.size + 1, 1, none⟩ (.string s) = W at *
 clear hW hc0 hc1 hd0 hd1 hg0 hg1 hg2 hg3 hk0 hk1 hk2 hk3
 have hk0 := (hVs.at_ 1 rfl).cell0
 have hk1 := (hVs.at_ 1 rfl).cell1
 have hk2 := (hVs.at_ 0 rfl).cell0
 have hk3 := (hVs.at_ 0 rfl).cell1
 rw [Nat.add_zero] at hk2 hk3
 go_region_held3 (fun w' => w'.cell? ⟨w.heap.size, 0, none⟩ = some (.bool (!x)) ∧ w'.cell? ⟨w.heap.size, 1, none⟩ = some (.string t) ∧ w'.cell? ⟨w.heap.size + 1, 1, none⟩ = some (.string s)) (first | (refine ⟨?_, ?_, ?_⟩ <;> ((refine (cell_two _ _ _ _ _ _ ?_).trans ?_); omega; assumption)) | go_keep)
  (first
   | (go_at_call 98; (with_reducible refine (HT.out _).mono ?_); rintro e w2 ⟨A1, n1, c1, rfl, hn1, hcc1, hr1, hb2⟩; have hV2 := hVs.drew.step hb2; have hd0' := (hV2.at_ 0 rfl).cell0; have hd1' := (hV2.at_ 0 rfl).cell1; have hc1' := (hV2.at_ 1 rfl).cell1; rw [Nat.add_zero] at hd0' hd1')
   | (go_at_call 98; (with_reducible refine (HS.out _).mono ?_); rintro e w3 ⟨A2, n2, c2, rfl, hn2, hcc2, hr2, hb3⟩; have hV3 := hV2.step hb3; have hr1' := hr1.below hb3; have hd0'' := (hV3.at_ 0 rfl).cell0; have hd1'' := (hV3.at_ 0 rfl).cell1; have hc1'' := (hV3.at_ 1 rfl).cell1; rw [Nat.add_zero] at hd0'' hd1'')
   | (go_at_call 101; (with_reducible refine (difference_rd _ _ _ _ _ _ M N _ hn1 hn2 hr1' hr2 (by omega) (by omega)).mono ?_); rotate_right; rintro e w4 ⟨A3, n3, c3, rfl, hn3, hcc3, hr3, hb4⟩; have hV4 := hV3.step hb4; have hd0''' := (hV4.at_ 0 rfl).cell0; have hd1''' := (hV4.at_ 0 rfl).cell1; have hc1''' := (hV4.at_ 1 rfl).cell1; rw [Nat.add_zero] at hd0''' hd1''')
   | (go_at_call 96; (with_reducible refine (HG.out _ _ _ _ hn3 hr3).mono ?_); rintro e w5 ⟨rfl, hb5⟩; have hV5 := hV4.step hb5; have hd0'''' := (hV5.at_ 0 rfl).cell0; have hd1'''' := (hV5.at_ 0 rfl).cell1; have hc1'''' := (hV5.at_ 1 rfl).cell1; rw [Nat.add_zero] at hd0'''' hd1''''; have hz0 := (hV5.at_ 2 rfl).cell0; have hz1 := (hV5.at_ 2 rfl).cell1; have hzf0 := (hV5.at_ 2 rfl).frozen 0; have hzf1 := (hV5.at_ 2 rfl).frozen 1))
 go_wp2
 exact post_wide (b := w.heap.size + 2) rfl rfl (hV5.done 2 rfl).1 rfl ⟨by rw [HWV.out], (hV5.done 2 rfl).2⟩
set_option maxHeartbeats 2000000 in
theorem Add_ge_B (x : Bool) (s t : ByteArray) (w : World) (hs : s.size ≤ 4398046511104) (ht : t.size ≤ 4398046511104) (hsm : s.size ≤ 7) (hbig : 7 < t.size) (hle : bval t.data.toList ≤ bval s.data.toList) :
  Calls Tryz.prog 52 #[.agg #[.bool x, .string s], .agg #[.bool (!x), .string t]] w fun e w' => e = .returned (wv (wint x s + wint (!x) t)) ∧ Below w.heap.size w w' := by
 have hps := fun W => partsOf_rd s W hs
 have hpt := fun W => partsOf_rd t W ht
 have l1 := bval_limbs_length s 549755813888 (by omega)
 have l2 := bval_limbs_length t 549755813888 (by omega)
 have hcs : 0 ≤ ((bval s.data.toList : Int) - bval t.data.toList).sign := by have := sign_cases ((bval s.data.toList : Int) - bval t.data.toList); omega
 have hc' := fun W => compareSizes_any x (!x) s t W (by unfold maxLen; omega) (by unfold maxLen; omega)
 generalize ((bval s.data.toList : Int) - bval t.data.toList).sign = cs at *
 have hwv : wint x s + wint (!x) t = (if x = true then -((bval s.data.toList - bval t.data.toList : Nat) : Int) else ((bval s.data.toList - bval t.data.toList : Nat) : Int)) := by
  cases x
  ·rw [Bool.not_false, wint_false, wint_true, if_neg (by decide)]; omega
  ·rw [Bool.not_true, wint_true, wint_false, if_pos rfl]; omega
 rw [hwv]
 have hp := fun W => small_yes x s W hsm
 have hq := fun W => small_no (!x) t W hbig (by unfold maxLen; omega)
 generalize wint x s = sv at hp
 generalize bval s.data.toList = N at *
 generalize bval t.data.toList = M at *
 have l3 : (limbs (N - M)).length ≤ 549755813888 := Nat.le_trans (limbs_length_mono (Nat.sub_le _ _)) (by omega)
 have hsg := fun A n c W hn hx => signed_any x A n c (N - M) W hn hx (by omega)
 have hr : wv (if x = true then -(((N - M) : Nat) : Int) else (((N - M) : Nat) : Int)) = .agg #[.bool (decide ((if x = true then -(((N - M) : Nat) : Int) else (((N - M) : Nat) : Int)) < 0)), .string (bstr (canon (N - M)))] := by
  cases x
  all_goals first | (rw [if_neg (by decide)]; unfold wv; rw [Int.natAbs_natCast]) | (rw [if_pos (by rfl)]; unfold wv; rw [Int.natAbs_neg, Int.natAbs_natCast])
 generalize bstr (canon (N - M)) = S at *
 generalize decide ((if x = true then -(((N - M) : Nat) : Int) else (((N - M) : Nat) : Int)) < 0) = sg at *
 generalize wv (if x = true then -(((N - M) : Nat) : Int) else (((N - M) : Nat) : Int)) = R at *
 rw [hr] at hsg
 have HP := Lib.hid hp
 have HQ := Lib.hid hq
 clear hq
 have HS := Lib.hid hps
 have HT := Lib.hid hpt
 have HG := Lib.hid hsg
 have HWV := Lib.hid hr
 have HC := Lib.hid hc'
 clear hp hps hpt hsg hwv hr hc'
 have HV := Lib.hid (Vars.start3 w x (!x) false s t ⟨#[]⟩)
 have hxx : (x == !x) = false := by cases x <;> rfl
 go_enter Tryz.func52, Tryz.ntmps52
 go_wp2_with fail
 with_reducible refine (HP.out _).mono ?_
 rintro e w0 ⟨rfl, hb0⟩
 have hV0 := HV.out.step hb0
 have hc0 := (hV0.at_ 1 rfl).cell0
 have hc1 := (hV0.at_ 1 rfl).cell1
 go_wp2_with fail
 with_reducible refine (HQ.out _).mono ?_
 rintro e w1 ⟨rfl, hb1⟩
 have hV1 := hV0.step hb1
 clear hc0 hc1
 have hc0 := (hV1.at_ 1 rfl).cell0
 have hc1 := (hV1.at_ 1 rfl).cell1
 have hd0 := (hV1.at_ 0 rfl).cell0
 have hd1 := (hV1.at_ 0 rfl).cell1
 rw [Nat.add_zero] at hd0 hd1
 go_wp2_with fail
 with_reducible refine (HC.out _).mono ?_
 rintro e w1b ⟨rfl, hb1b⟩
 have hV1b := hV1.step hb1b
 clear hc0 hc1 hd0 hd1
 have hc0 := (hV1b.at_ 1 rfl).cell0
 have hc1 := (hV1b.at_ 1 rfl).cell1
 have hd0 := (hV1b.at_ 0 rfl).cell0
 have hd1 := (hV1b.at_ 0 rfl).cell1
 rw [Nat.add_zero] at hd0 hd1
 go_wp2_with fail
 go_region_held3 (fun w' => w'.cell? ⟨w.heap.size, 0, none⟩ = some (.bool x) ∧ w'.cell? ⟨w.heap.size, 1, none⟩ = some (.string s) ∧ w'.cell? ⟨w.heap.size + 1, 1, none⟩ = some (.string t)) (first | (refine ⟨?_, ?_, ?_⟩ <;> ((refine (cell_two _ _ _ _ _ _ ?_).trans ?_); omega; assumption)) | go_keep)
  (first
   | (go_at_call 98; (with_reducible refine (HS.out _).mono ?_); rintro e w2 ⟨A1, n1, c1, rfl, hn1, hcc1, hr1, hb2⟩; have hV2 := hV1b.drew.step hb2; have hd0' := (hV2.at_ 0 rfl).cell0; have hd1' := (hV2.at_ 0 rfl).cell1; have hc1' := (hV2.at_ 1 rfl).cell1; rw [Nat.add_zero] at hd0' hd1')
   | (go_at_call 98; (with_reducible refine (HT.out _).mono ?_); rintro e w3 ⟨A2, n2, c2, rfl, hn2, hcc2, hr2, hb3⟩; have hV3 := hV2.step hb3; have hr1' := hr1.below hb3; have hd0'' := (hV3.at_ 0 rfl).cell0; have hd1'' := (hV3.at_ 0 rfl).cell1; have hc1'' := (hV3.at_ 1 rfl).cell1; rw [Nat.add_zero] at hd0'' hd1'')
   | (go_at_call 101; (with_reducible refine (difference_rd _ _ _ _ _ _ N M _ hn1 hn2 hr1' hr2 (by omega) (by omega)).mono ?_); rotate_right; rintro e w4 ⟨A3, n3, c3, rfl, hn3, hcc3, hr3, hb4⟩; have hV4 := hV3.step hb4; have hd0''' := (hV4.at_ 0 rfl).cell0; have hd1''' := (hV4.at_ 0 rfl).cell1; have hc1''' := (hV4.at_ 1 rfl).cell1; rw [Nat.add_zero] at hd0''' hd1''')
   | (go_at_call 96; (with_reducible refine (HG.out _ _ _ _ hn3 hr3).mono ?_); rintro e w5 ⟨rfl, hb5⟩; have hV5 := hV4.step hb5; have hd0'''' := (hV5.at_ 0 rfl).cell0; have hd1'''' := (hV5.at_ 0 rfl).cell1; have hc1'''' := (hV5.at_ 1 rfl).cell1; rw [Nat.add_zero] at hd0'''' hd1''''; have hz0 := (hV5.at_ 2 rfl).cell0; have hz1 := (hV5.at_ 2 rfl).cell1; have hzf0 := (hV5.at_ 2 rfl).frozen 0; have hzf1 := (hV5.at_ 2 rfl).frozen 1))
 go_wp2
 exact post_wide (b := w.heap.size + 2) rfl rfl (hV5.done 2 rfl).1 rfl ⟨by rw [HWV.out], (hV5.done 2 rfl).2⟩
set_option maxHeartbeats 2000000 in
theorem Add_lt_B (x : Bool) (s t : ByteArray) (w : World) (hs : s.size ≤ 4398046511104) (ht : t.size ≤ 4398046511104) (hsm : s.size ≤ 7) (hbig : 7 < t.size) (hle : bval s.data.toList < bval t.data.toList) :
  Calls Tryz.prog 52 #[.agg #[.bool x, .string s], .agg #[.bool (!x), .string t]] w fun e w' => e = .returned (wv (wint x s + wint (!x) t)) ∧ Below w.heap.size w w' := by
 have hps := fun W => partsOf_rd s W hs
 have hpt := fun W => partsOf_rd t W ht
 have l1 := bval_limbs_length s 549755813888 (by omega)
 have l2 := bval_limbs_length t 549755813888 (by omega)
 have hcs : ((bval s.data.toList : Int) - bval t.data.toList).sign = -1 := Int.sign_eq_neg_one_of_neg (by omega)
 have hc' := fun W => compareSizes_any x (!x) s t W (by unfold maxLen; omega) (by unfold maxLen; omega)
 rw [hcs] at hc'
 have hwv : wint x s + wint (!x) t = (if (!x) = true then -((bval t.data.toList - bval s.data.toList : Nat) : Int) else ((bval t.data.toList - bval s.data.toList : Nat) : Int)) := by
  cases x
  ·rw [Bool.not_false, wint_false, wint_true, if_pos rfl]; omega
  ·rw [Bool.not_true, wint_true, wint_false, if_neg (by decide)]; omega
 rw [hwv]
 have hp := fun W => small_yes x s W hsm
 have hq := fun W => small_no (!x) t W hbig (by unfold maxLen; omega)
 generalize wint x s = sv at hp
 generalize bval s.data.toList = N at *
 generalize bval t.data.toList = M at *
 have l3 : (limbs (M - N)).length ≤ 549755813888 := Nat.le_trans (limbs_length_mono (Nat.sub_le _ _)) (by omega)
 have hsg := fun A n c W hn hx => signed_any (!x) A n c (M - N) W hn hx (by omega)
 have hr : wv (if (!x) = true then -(((M - N) : Nat) : Int) else (((M - N) : Nat) : Int)) = .agg #[.bool (decide ((if (!x) = true then -(((M - N) : Nat) : Int) else (((M - N) : Nat) : Int)) < 0)), .string (bstr (canon (M - N)))] := by
  cases x
  all_goals first | (rw [if_neg (by decide)]; unfold wv; rw [Int.natAbs_natCast]) | (rw [if_pos (by rfl)]; unfold wv; rw [Int.natAbs_neg, Int.natAbs_natCast])
 generalize bstr (canon (M - N)) = S at *
 generalize decide ((if (!x) = true then -(((M - N) : Nat) : Int) else (((M - N) : Nat) : Int)) < 0) = sg at *
 generalize wv (if (!x) = true then -(((M - N) : Nat) : Int) else (((M - N) : Nat) : Int)) = R at *
 rw [hr] at hsg
 have HP := Lib.hid hp
 have HQ := Lib.hid hq
 clear hq
 have HS := Lib.hid hps
 have HT := Lib.hid hpt
 have HG := Lib.hid hsg
 have HWV := Lib.hid hr
 have HC := Lib.hid hc'
 clear hp hps hpt hsg hwv hr hc'
 have HV := Lib.hid (Vars.start3 w x (!x) false s t ⟨#[]⟩)
 have hxx : (x == !x) = false := by cases x <;> rfl
 go_enter Tryz.func52, Tryz.ntmps52
 go_wp2_with fail
 with_reducible refine (HP.out _).mono ?_
 rintro e w0 ⟨rfl, hb0⟩
 have hV0 := HV.out.step hb0
 have hc0 := (hV0.at_ 1 rfl).cell0
 have hc1 := (hV0.at_ 1 rfl).cell1
 go_wp2_with fail
 with_reducible refine (HQ.out _).mono ?_
 rintro e w1 ⟨rfl, hb1⟩
 have hV1 := hV0.step hb1
 clear hc0 hc1
 have hc0 := (hV1.at_ 1 rfl).cell0
 have hc1 := (hV1.at_ 1 rfl).cell1
 have hd0 := (hV1.at_ 0 rfl).cell0
 have hd1 := (hV1.at_ 0 rfl).cell1
 rw [Nat.add_zero] at hd0 hd1
 go_wp2_with fail
 with_reducible refine (HC.out _).mono ?_
 rintro e w1b ⟨rfl, hb1b⟩
 have hV1b := hV1.step hb1b
 clear hc0 hc1 hd0 hd1
 have hc0 := (hV1b.at_ 1 rfl).cell0
 have hc1 := (hV1b.at_ 1 rfl).cell1
 have hd0 := (hV1b.at_ 0 rfl).cell0
 have hd1 := (hV1b.at_ 0 rfl).cell1
 rw [Nat.add_zero] at hd0 hd1
 have hg0 := (hV1b.at_ 0 rfl).frozen 0
 have hg1 := (hV1b.at_ 0 rfl).frozen 1
 rw [Nat.add_zero] at hg0 hg1
 have hg2 := (hV1b.at_ 1 rfl).frozen 0
 have hg3 := (hV1b.at_ 1 rfl).frozen 1
 have hVs := hV1b.swapped
 have hk0 := (hVs.at_ 1 rfl).cell0
 have hk1 := (hVs.at_ 1 rfl).cell1
 have hk2 := (hVs.at_ 0 rfl).cell0
 have hk3 := (hVs.at_ 0 rfl).cell1
 rw [Nat.add_zero] at hk2 hk3
 go_wp2_with fail
 generalize hW : (((w1b.setCell ⟨w.heap.size, 0, none⟩ (.bool !x)).setCell ⟨w.heap.size, 1, none⟩ (.string t)).setCell ⟨w.heap.size + 1, 0, none⟩ (.bool x)).setCell ⟨w.heap.size + 1, 1, none⟩ (.string s) = W at *
 clear hW hc0 hc1 hd0 hd1 hg0 hg1 hg2 hg3 hk0 hk1 hk2 hk3
 have hk0 := (hVs.at_ 1 rfl).cell0
 have hk1 := (hVs.at_ 1 rfl).cell1
 have hk2 := (hVs.at_ 0 rfl).cell0
 have hk3 := (hVs.at_ 0 rfl).cell1
 rw [Nat.add_zero] at hk2 hk3
 go_region_held3 (fun w' => w'.cell? ⟨w.heap.size, 0, none⟩ = some (.bool (!x)) ∧ w'.cell? ⟨w.heap.size, 1, none⟩ = some (.string t) ∧ w'.cell? ⟨w.heap.size + 1, 1, none⟩ = some (.string s)) (first | (refine ⟨?_, ?_, ?_⟩ <;> ((refine (cell_two _ _ _ _ _ _ ?_).trans ?_); omega; assumption)) | go_keep)
  (first
   | (go_at_call 98; (with_reducible refine (HT.out _).mono ?_); rintro e w2 ⟨A1, n1, c1, rfl, hn1, hcc1, hr1, hb2⟩; have hV2 := hVs.drew.step hb2; have hd0' := (hV2.at_ 0 rfl).cell0; have hd1' := (hV2.at_ 0 rfl).cell1; have hc1' := (hV2.at_ 1 rfl).cell1; rw [Nat.add_zero] at hd0' hd1')
   | (go_at_call 98; (with_reducible refine (HS.out _).mono ?_); rintro e w3 ⟨A2, n2, c2, rfl, hn2, hcc2, hr2, hb3⟩; have hV3 := hV2.step hb3; have hr1' := hr1.below hb3; have hd0'' := (hV3.at_ 0 rfl).cell0; have hd1'' := (hV3.at_ 0 rfl).cell1; have hc1'' := (hV3.at_ 1 rfl).cell1; rw [Nat.add_zero] at hd0'' hd1'')
   | (go_at_call 101; (with_reducible refine (difference_rd _ _ _ _ _ _ M N _ hn1 hn2 hr1' hr2 (by omega) (by omega)).mono ?_); rotate_right; rintro e w4 ⟨A3, n3, c3, rfl, hn3, hcc3, hr3, hb4⟩; have hV4 := hV3.step hb4; have hd0''' := (hV4.at_ 0 rfl).cell0; have hd1''' := (hV4.at_ 0 rfl).cell1; have hc1''' := (hV4.at_ 1 rfl).cell1; rw [Nat.add_zero] at hd0''' hd1''')
   | (go_at_call 96; (with_reducible refine (HG.out _ _ _ _ hn3 hr3).mono ?_); rintro e w5 ⟨rfl, hb5⟩; have hV5 := hV4.step hb5; have hd0'''' := (hV5.at_ 0 rfl).cell0; have hd1'''' := (hV5.at_ 0 rfl).cell1; have hc1'''' := (hV5.at_ 1 rfl).cell1; rw [Nat.add_zero] at hd0'''' hd1''''; have hz0 := (hV5.at_ 2 rfl).cell0; have hz1 := (hV5.at_ 2 rfl).cell1; have hzf0 := (hV5.at_ 2 rfl).frozen 0; have hzf1 := (hV5.at_ 2 rfl).frozen 1))
 go_wp2
 exact post_wide (b := w.heap.size + 2) rfl rfl (hV5.done 2 rfl).1 rfl ⟨by rw [HWV.out], (hV5.done 2 rfl).2⟩
theorem Add_any (x y : Bool) (s t : ByteArray) (w : World) (hs : s.size ≤ 4398046511104) (ht : t.size ≤ 4398046511104) :
  Calls Tryz.prog 52 #[.agg #[.bool x, .string s], .agg #[.bool y, .string t]] w fun e w' => e = .returned (wv (wint x s + wint y t)) ∧ Below w.heap.size w w' := by
 by_cases h1 : s.size ≤ 7
 ·by_cases h2 : t.size ≤ 7
  ·exact Add_small x y s t w h1 h2
  ·by_cases hxy : x = y
   ·subst hxy; exact Add_same_B x s t w hs ht h1 (by omega)
   ·obtain rfl : y = !x := by cases x <;> cases y <;> simp_all
    by_cases hle : bval t.data.toList ≤ bval s.data.toList
    ·exact Add_ge_B x s t w hs ht h1 (by omega) hle
    ·exact Add_lt_B x s t w hs ht h1 (by omega) (by omega)
 ·by_cases hxy : x = y
  ·subst hxy; exact Add_same_A x s t w hs ht (by omega)
  ·obtain rfl : y = !x := by cases x <;> cases y <;> simp_all
   by_cases hle : bval t.data.toList ≤ bval s.data.toList
   ·exact Add_ge_A x s t w hs ht (by omega) hle
   ·exact Add_lt_A x s t w hs ht (by omega) (by omega)
end Go.Proofs.YtknaghdoffigjaaGreatDoor
