import Derived.Test.YtknaghdoffigjaaGreatDoorAdd2
set_option linter.unusedSimpArgs false
set_option linter.unusedVariables false
set_option linter.unnecessarySimpa false
namespace Go.Proofs.YtknaghdoffigjaaGreatDoor
open Go.RowKit
theorem wint_not (y : Bool) (t : ByteArray) : wint (!y) t = -wint y t := by
 cases y
 ·rw [Bool.not_false, wint_true, wint_false]
 ·rw [Bool.not_true, wint_true, wint_false, Int.neg_neg]
set_option maxHeartbeats 1000000 in
theorem Sub_any (x y : Bool) (s t : ByteArray) (w : World) (hs : s.size ≤ 4398046511104) (ht : t.size ≤ 4398046511104) :
  Calls Tryz.prog 54 #[.agg #[.bool x, .string s], .agg #[.bool y, .string t]] w fun e w' => e = .returned (wv (wint x s - wint y t)) ∧ Below w.heap.size w w' := by
 have hp := fun W => Add_any x (!y) s t W hs ht
 rw [wint_not, ← Int.sub_eq_add_neg] at hp
 have hr : wv (wint x s - wint y t) = .agg #[.bool (decide (wint x s - wint y t < 0)), .string (bstr (canon (wint x s - wint y t).natAbs))] := rfl
 generalize bstr (canon (wint x s - wint y t).natAbs) = S at *
 generalize decide (wint x s - wint y t < 0) = sg at *
 generalize wv (wint x s - wint y t) = R at *
 rw [hr] at hp
 have HP := Lib.hid hp
 have HWV := Lib.hid hr
 clear hp hr
 go_enter Tryz.func54, Tryz.ntmps54
 have HV := Lib.hid (Vars.start3 w x (!y) false s t ⟨#[]⟩)
 go_wp2_with fail
 with_reducible refine (HP.out _).mono ?_
 rintro e w1 ⟨rfl, hb1⟩
 have hV1 := HV.out.step hb1
 have hz0 := (hV1.at_ 2 rfl).cell0
 have hz1 := (hV1.at_ 2 rfl).cell1
 have hzf0 := (hV1.at_ 2 rfl).frozen 0
 have hzf1 := (hV1.at_ 2 rfl).frozen 1
 go_wp2
 exact post_wide (b := w.heap.size + 2) rfl rfl (hV1.done 2 rfl).1 rfl ⟨by rw [HWV.out], (hV1.done 2 rfl).2⟩
theorem bval_pow (s : ByteArray) (k : Nat) (h : s.size ≤ k) : bval s.data.toList < 256 ^ k := by
 have h1 := bval_lt s.data.toList
 exact Nat.lt_of_lt_of_le h1 (Nat.pow_le_pow_right (by omega) (by rw [← Lib.size_eq]; exact h))
theorem wint_mul (x y : Bool) (s t : ByteArray) : wint x s * wint y t = (if (x != y) = true then -((bval s.data.toList * bval t.data.toList : Nat) : Int) else ((bval s.data.toList * bval t.data.toList : Nat) : Int)) := by
 rw [Int.natCast_mul]
 cases x <;> cases y
 ·rw [wint_false, wint_false, if_neg (by decide)]
 ·rw [wint_false, wint_true, if_pos (by decide), Int.mul_neg]
 ·rw [wint_true, wint_false, if_pos (by decide), Int.neg_mul]
 ·rw [wint_true, wint_true, if_neg (by decide), Int.neg_mul_neg]
theorem wint_mul_small (x y : Bool) (s t : ByteArray) (h : s.size + t.size ≤ 7) : -72057594037927936 ≤ wint x s * wint y t ∧ wint x s * wint y t ≤ 72057594037927936 := by
 have h1 := bval_pow s s.size (Nat.le_refl _)
 have h2 := bval_pow t t.size (Nat.le_refl _)
 have h3 : bval s.data.toList * bval t.data.toList ≤ 256 ^ s.size * 256 ^ t.size := Nat.mul_le_mul (by omega) (by omega)
 rw [← Nat.pow_add] at h3
 have h4 : (256 : Nat) ^ (s.size + t.size) ≤ 256 ^ 7 := Nat.pow_le_pow_right (by omega) h
 rw [pow7] at h4
 rw [wint_mul]
 split <;> omega
theorem limbs_mul_length {m n j k : Nat} (hm : (limbs m).length ≤ j) (hn : (limbs n).length ≤ k) : (limbs (m * n)).length ≤ j + k := by
 refine limbs_length_le ?_
 have h1 := pval_lt (limbs_limbs m)
 have h2 := pval_lt (limbs_limbs n)
 rw [pval_limbs] at h1 h2
 have e1 : B64 ^ (limbs m).length ≤ B64 ^ j := Nat.pow_le_pow_right B64_pos hm
 have e2 : B64 ^ (limbs n).length ≤ B64 ^ k := Nat.pow_le_pow_right B64_pos hn
 rw [Nat.pow_add]
 exact Nat.lt_of_le_of_lt (Nat.mul_le_mul_left _ (Nat.le_of_lt (Nat.lt_of_lt_of_le h2 e2))) (Nat.mul_lt_mul_of_pos_right (Nat.lt_of_lt_of_le h1 e1) (Nat.pow_pos B64_pos))
set_option maxHeartbeats 1000000 in
theorem Mul_small (x y : Bool) (s t : ByteArray) (w : World) (h : s.size + t.size ≤ 7) :
  Calls Tryz.prog 51 #[.agg #[.bool x, .string s], .agg #[.bool y, .string t]] w fun e w' => e = .returned (wv (wint x s * wint y t)) ∧ Below w.heap.size w w' := by
 have hp := fun W => small_yes x s W (by omega)
 have hq := fun W => small_yes y t W (by omega)
 have b3 := wint_mul_small x y s t h
 have hf := fun W => From_any (wint x s * wint y t) W (by omega) (by omega)
 have hwv : wv (wint x s * wint y t) = .agg #[.bool (decide (wint x s * wint y t < 0)), .string (bstr (canon (wint x s * wint y t).natAbs))] := rfl
 have hwr : IntKind.i64.wrap (wint x s * wint y t) = wint x s * wint y t := IntWalk.i64_in _ (by omega)
 generalize bstr (canon (wint x s * wint y t).natAbs) = S at *
 generalize decide (wint x s * wint y t < 0) = sg at *
 generalize hR : wv (wint x s * wint y t) = R at *
 generalize wint x s = a at *
 generalize wint y t = b at *
 have h1 : s.size ≤ 7 := by omega
 have h2 : t.size ≤ 7 := by omega
 rw [hwv] at hf
 have HP := Lib.hid hp
 have HQ := Lib.hid hq
 have HF := Lib.hid hf
 have HWV := Lib.hid hwv
 clear hp hq hf hR hwv b3
 have HV := Lib.hid (Vars.start3 w x y false s t ⟨#[]⟩)
 go_enter Tryz.func51, Tryz.ntmps51
 go_wp2_with fail
 with_reducible refine (HP.out _).mono ?_
 rintro e w1 ⟨rfl, hb1⟩
 have hV1 := Lib.hid (HV.out.step hb1)
 have hc0 := (hV1.out.at_ 1 rfl).cell0
 have hc1 := (hV1.out.at_ 1 rfl).cell1
 go_wp2_with fail
 with_reducible refine (HQ.out _).mono ?_
 rintro e w2 ⟨rfl, hb2⟩
 have hV2 := Lib.hid (hV1.out.step hb2)
 clear hc0 hc1 hb1 hb2
 go_wp2_with fail
 with_reducible refine (HF.out _).mono ?_
 rintro e w3 ⟨rfl, hb3⟩
 have hV3 := hV2.out.step hb3
 have hz0 := (hV3.at_ 2 rfl).cell0
 have hz1 := (hV3.at_ 2 rfl).cell1
 have hzf0 := (hV3.at_ 2 rfl).frozen 0
 have hzf1 := (hV3.at_ 2 rfl).frozen 1
 go_wp2
 exact post_wide (b := w.heap.size + 2) rfl rfl (hV3.done 2 rfl).1 rfl ⟨by rw [HWV.out], (hV3.done 2 rfl).2⟩
set_option maxHeartbeats 2000000 in
theorem Mul_big (x y : Bool) (s t : ByteArray) (w : World) (hs : s.size ≤ 2199023255552) (ht : t.size ≤ 2199023255552) (hbig : 7 < s.size + t.size) :
  Calls Tryz.prog 51 #[.agg #[.bool x, .string s], .agg #[.bool y, .string t]] w fun e w' => e = .returned (wv (wint x s * wint y t)) ∧ Below w.heap.size w w' := by
 have hps := fun W => partsOf_rd s W (by omega)
 have hpt := fun W => partsOf_rd t W (by omega)
 have l1 := bval_limbs_length s 274877906944 (by omega)
 have l2 := bval_limbs_length t 274877906944 (by omega)
 have l3 := limbs_mul_length l1 l2
 have hwv := wint_mul x y s t
 rw [hwv]
 generalize bval s.data.toList = N at *
 generalize bval t.data.toList = M at *
 have hxy : (x != y) = true ∨ (x != y) = false := by cases x <;> cases y <;> simp
 have hsg := fun A n c W hn hx => signed_any (x != y) A n c (N * M) W hn hx (by omega)
 have hr : wv (if (x != y) = true then -((N * M : Nat) : Int) else ((N * M : Nat) : Int)) = .agg #[.bool (decide ((if (x != y) = true then -((N * M : Nat) : Int) else ((N * M : Nat) : Int)) < 0)), .string (bstr (canon (N * M)))] := by
  rcases hxy with h | h
  ·rw [if_pos h]; unfold wv; rw [Int.natAbs_neg, Int.natAbs_natCast]
  ·rw [h, if_neg (by decide)]; unfold wv; rw [Int.natAbs_natCast]
 generalize bstr (canon (N * M)) = S at *
 generalize decide ((if (x != y) = true then -((N * M : Nat) : Int) else ((N * M : Nat) : Int)) < 0) = sg at *
 generalize wv (if (x != y) = true then -((N * M : Nat) : Int) else ((N * M : Nat) : Int)) = R at *
 rw [hr] at hsg
 simp only [bne] at hsg
 have HS := Lib.hid hps
 have HT := Lib.hid hpt
 have HG := Lib.hid hsg
 have HWV := Lib.hid hr
 clear hps hpt hsg hwv hr hxy
 have hV1 := Vars.start3 w x y false s t ⟨#[]⟩
 have hc0 := (hV1.at_ 1 rfl).cell0
 have hc1 := (hV1.at_ 1 rfl).cell1
 have hd0 := (hV1.at_ 0 rfl).cell0
 have hd1 := (hV1.at_ 0 rfl).cell1
 rw [Nat.add_zero] at hd0 hd1
 go_enter Tryz.func51, Tryz.ntmps51
 go_wp2_with fail
 generalize hW : ((w.alloc (wbox x s)).alloc (wbox y t)).alloc (wbox false ⟨#[]⟩) = W at *
 clear hW
 go_region_held3 (fun w' => w'.cell? ⟨w.heap.size, 0, none⟩ = some (.bool x) ∧ w'.cell? ⟨w.heap.size, 1, none⟩ = some (.string s) ∧ w'.cell? ⟨w.heap.size + 1, 0, none⟩ = some (.bool y) ∧ w'.cell? ⟨w.heap.size + 1, 1, none⟩ = some (.string t)) (first | (refine ⟨?_, ?_, ?_, ?_⟩ <;> ((refine (cell_two _ _ _ _ _ _ ?_).trans ?_); omega; assumption)) | go_keep)
  (first
   | (go_at_call 98; (with_reducible refine (HS.out _).mono ?_); rintro e w2 ⟨A1, n1, c1, rfl, hn1, hcc1, hr1, hb2⟩; have hV2 := hV1.drew.step hb2; have hV2c := (hV2.at_ 0 rfl).cell0; have hV2d := (hV2.at_ 0 rfl).cell1; have hV2e := (hV2.at_ 1 rfl).cell0; have hV2f := (hV2.at_ 1 rfl).cell1; rw [Nat.add_zero] at hV2c hV2d)
   | (go_at_call 98; (with_reducible refine (HT.out _).mono ?_); rintro e w3 ⟨A2, n2, c2, rfl, hn2, hcc2, hr2, hb3⟩; have hV3 := hV2.step hb3; have hV3c := (hV3.at_ 0 rfl).cell0; have hV3d := (hV3.at_ 0 rfl).cell1; have hV3e := (hV3.at_ 1 rfl).cell0; have hV3f := (hV3.at_ 1 rfl).cell1; rw [Nat.add_zero] at hV3c hV3d; have hr1' := hr1.below hb3)
   | (go_at_call 97; (with_reducible refine (product_rd _ _ _ _ _ _ N M _ hn1 hn2 hr1' hr2 (by omega) (by omega)).mono ?_); rotate_right; rintro e w4 ⟨A3, n3, c3, rfl, hn3, hcc3, hr3, hb4⟩; have hV4 := hV3.step hb4; have hV4c := (hV4.at_ 0 rfl).cell0; have hV4d := (hV4.at_ 0 rfl).cell1; have hV4e := (hV4.at_ 1 rfl).cell0; have hV4f := (hV4.at_ 1 rfl).cell1; rw [Nat.add_zero] at hV4c hV4d)
   | (go_at_call 96; (with_reducible refine (HG.out _ _ _ _ hn3 hr3).mono ?_); rintro e w5 ⟨rfl, hb5⟩; have hV5 := hV4.step hb5; have hV5c := (hV5.at_ 0 rfl).cell0; have hV5d := (hV5.at_ 0 rfl).cell1; have hV5e := (hV5.at_ 1 rfl).cell0; have hV5f := (hV5.at_ 1 rfl).cell1; rw [Nat.add_zero] at hV5c hV5d; have hz0 := (hV5.at_ 2 rfl).cell0; have hz1 := (hV5.at_ 2 rfl).cell1; have hzf0 := (hV5.at_ 2 rfl).frozen 0; have hzf1 := (hV5.at_ 2 rfl).frozen 1))
 go_wp2
 exact post_wide (b := w.heap.size + 2) rfl rfl (hV5.done 2 rfl).1 rfl ⟨by rw [HWV.out], (hV5.done 2 rfl).2⟩
theorem Mul_any (x y : Bool) (s t : ByteArray) (w : World) (hs : s.size ≤ 2199023255552) (ht : t.size ≤ 2199023255552) :
  Calls Tryz.prog 51 #[.agg #[.bool x, .string s], .agg #[.bool y, .string t]] w fun e w' => e = .returned (wv (wint x s * wint y t)) ∧ Below w.heap.size w w' := by
 by_cases h : s.size + t.size ≤ 7
 ·exact Mul_small x y s t w h
 ·exact Mul_big x y s t w hs ht (by omega)
end Go.Proofs.YtknaghdoffigjaaGreatDoor
namespace Go.Proofs.YtknaghdoffigjaaGreatDoor
open Go.RowKit
theorem quo_facts (a b : Int) (hb : b ≠ 0) (ha : -72057594037927936 ≤ a ∧ a ≤ 72057594037927936) (hb2 : -72057594037927936 ≤ b ∧ b ≤ 72057594037927936) :
  ∃ q r, q = a.tdiv b ∧ r = a.tmod b ∧ -72057594037927936 ≤ q ∧ q ≤ 72057594037927936 ∧ -72057594037927936 ≤ r ∧ r ≤ 72057594037927936 ∧
   (r < 0 → 0 < b → a / b = q - 1 ∧ a % b = r + b) ∧ (r < 0 → ¬ 0 < b → a / b = q + 1 ∧ a % b = r - b) ∧ (¬ r < 0 → a / b = q ∧ a % b = r) := by
 refine ⟨_, _, rfl, rfl, ?_⟩
 have h1 := Int.tmod_add_mul_tdiv a b
 have h2 : (a.tdiv b).natAbs ≤ a.natAbs := Int.natAbs_tdiv_le_natAbs a b
 have h3 : (a.tmod b).natAbs < b.natAbs := by
  rw [Int.natAbs_tmod]
  exact Nat.mod_lt _ (by omega)
 generalize a.tdiv b = q at *
 generalize a.tmod b = r at *
 have key : ∀ c : Int, 0 < c → ∀ p s : Int, s + c * p = a → 0 ≤ s → s < c → a / c = p ∧ a % c = s := fun c hc p s e1 e2 e3 => (Int.ediv_emod_unique hc).2 ⟨e1, e2, e3⟩
 have keyn : ∀ p s : Int, b < 0 → s + b * p = a → 0 ≤ s → s < -b → a / b = p ∧ a % b = s := fun p s hn e1 e2 e3 => by
  have := key (-b) (by omega) (-p) s (by rw [Int.neg_mul_neg]; exact e1) e2 e3
  rw [Int.ediv_neg, Int.emod_neg] at this
  exact ⟨by omega, this.2⟩
 refine ⟨by omega, by omega, by omega, by omega, fun hr hp => ?_, fun hr hp => ?_, fun hr => ?_⟩
 ·exact key b hp (q - 1) (r + b) (by rw [Int.mul_sub, Int.mul_one]; omega) (by omega) (by omega)
 ·exact keyn (q + 1) (r - b) (by omega) (by rw [Int.mul_add, Int.mul_one]; omega) (by omega) (by omega)
 ·rcases Int.lt_or_gt_of_ne hb with h | h
  ·exact keyn q r h h1 (by omega) (by omega)
  ·exact key b h q r h1 (by omega) (by omega)
set_option maxHeartbeats 1000000 in
theorem quoSmall_any (a b : Int) (w : World) (hb : b ≠ 0) (ha : -72057594037927936 ≤ a ∧ a ≤ 72057594037927936) (hb2 : -72057594037927936 ≤ b ∧ b ≤ 72057594037927936) :
  Calls Tryz.prog 115 #[.int .i64 a, .int .i64 b] w fun e w' => e = .returned (.tuple #[.int .i64 (a / b), .int .i64 (a % b)]) ∧ Below w.heap.size w w' := by
 obtain ⟨q, r, hq, hr, q1, q2, r1, r2, f1, f2, f3⟩ := quo_facts a b hb ha hb2
 obtain ⟨a1, a2⟩ := ha
 obtain ⟨b1, b2⟩ := hb2
 have hb0 : (b == 0) = false := by simp [hb]
 have hwq : IntKind.i64.wrap (a.tdiv b) = q := by rw [← hq]; exact IntWalk.i64_in _ (by omega)
 have hwr : a.tmod b = r := hr.symm
 have F1 := Lib.hid f1
 have F2 := Lib.hid f2
 have F3 := Lib.hid f3
 clear f1 f2 f3 hq hr
 by_cases h1 : r < 0
 ·by_cases h2 : 0 < b
  ·have HR := Lib.hid (F1.out h1 h2)
   go_enter Tryz.func115, Tryz.ntmps115
   go_wp2_with fail
   go_quiet (fail)
   go_wp2
   go_ret2
   exact ⟨by rw [HR.out.1, HR.out.2]; rfl, below_many (Below.refl _ _) _⟩
  ·have HR := Lib.hid (F2.out h1 h2)
   go_enter Tryz.func115, Tryz.ntmps115
   go_wp2_with fail
   go_quiet (fail)
   go_wp2
   go_ret2
   exact ⟨by rw [HR.out.1, HR.out.2]; rfl, below_many (Below.refl _ _) _⟩
 ·have HR := Lib.hid (F3.out h1)
  go_enter Tryz.func115, Tryz.ntmps115
  go_wp2_with fail
  go_quiet (fail)
  go_wp2
  go_ret2
  exact ⟨by rw [HR.out.1, HR.out.2]; rfl, below_many (Below.refl _ _) _⟩
theorem Vars.start4 (w : World) (x y z v : Bool) (s t u r : ByteArray) : Vars w ((((w.alloc (wbox x s)).alloc (wbox y t)).alloc (wbox z u)).alloc (wbox v r)) [(x, s), (y, t), (z, u), (v, r)] := (Vars.start3 w x y z s t u).more (by simp) v r
theorem Vars.put {w0 w : World} {l : List (Bool × ByteArray)} (h : Vars w0 w l) (i : Nat) {x : Bool} {s : ByteArray} (hi : l[i]? = some (x, s)) (y : Bool) (t : ByteArray) :
  Vars w0 ((w.setCell ⟨w0.heap.size + i, 0, none⟩ (.bool y)).setCell ⟨w0.heap.size + i, 1, none⟩ (.string t)) (l.set i (y, t)) := by
 have hl : i < l.length := (List.getElem?_eq_some_iff.1 hi).1
 refine ⟨(h.1.setCell (by simp only []; omega) _).setCell (by simp only []; omega) _, ?_, fun j p hj => ?_⟩
 ·have := h.2.1
  simpa [World.setCell] using this
 ·by_cases hij : i = j
  ·subst hij
   rw [List.getElem?_set_self hl] at hj
   obtain rfl := Option.some.inj hj
   exact ((h.at_ i hi).set0 y).set1 t
  ·rw [List.getElem?_set_ne hij] at hj
   exact ((h.2.2 j p hj).far (by simp only []; omega) _).far (by simp only []; omega) _
theorem wv_agg (z : Int) : ∃ sg S, wv z = .agg #[.bool sg, .string S] := ⟨_, _, rfl⟩
set_option maxHeartbeats 1000000 in
theorem Quo_small (x y : Bool) (s t : ByteArray) (w : World) (hs : s.size ≤ 7) (ht : t.size ≤ 7) (hb : wint y t ≠ 0) :
  Calls Tryz.prog 73 #[.agg #[.bool x, .string s], .agg #[.bool y, .string t]] w fun e w' => e = .returned (.tuple #[wv (wint x s / wint y t), wv (wint x s % wint y t), .bool true]) ∧ Below w.heap.size w w' := by
 have hsi := fun W => Sign_any y t W (by unfold maxLen; omega)
 have hp := fun W => small_yes x s W hs
 have hq := fun W => small_yes y t W ht
 have b1 := wint_bounds x s hs
 have b2 := wint_bounds y t ht
 have hqs := fun W => quoSmall_any (wint x s) (wint y t) W hb b1 b2
 have hsz : ((wint y t).sign == 0) = false := by simpa using hb
 have hb3 : (wint x s / wint y t).natAbs ≤ 72057594037927936 := Nat.le_trans (Int.natAbs_ediv_le_natAbs _ _) (by omega)
 have hb4 : 0 ≤ wint x s % wint y t := Int.emod_nonneg _ hb
 have hb5 : wint x s % wint y t < (wint y t).natAbs := Int.emod_lt _ hb
 have hf1 := fun W => From_any (wint x s / wint y t) W (by omega) (by omega)
 have hf2 := fun W => From_any (wint x s % wint y t) W (by omega) (by omega)
 obtain ⟨sg1, S1, e1⟩ := wv_agg (wint x s / wint y t)
 obtain ⟨sg2, S2, e2⟩ := wv_agg (wint x s % wint y t)
 rw [e1] at hf1
 rw [e2] at hf2
 rw [e1, e2]
 clear e1 e2 hb3 hb4 hb5 hb
 generalize (wint y t).sign = sgn at *
 generalize wint x s / wint y t = Q at *
 generalize wint x s % wint y t = R at *
 generalize wint x s = a at *
 generalize wint y t = b at *
 clear b1 b2
 have HSI := Lib.hid hsi
 have HP := Lib.hid hp
 have HQ := Lib.hid hq
 have HQS := Lib.hid hqs
 have HF1 := Lib.hid hf1
 have HF2 := Lib.hid hf2
 clear hsi hp hq hqs hf1 hf2
 have HV := Lib.hid (Vars.start4 w x y false false s t ⟨#[]⟩ ⟨#[]⟩)
 go_enter Tryz.func73, Tryz.ntmps73
 go_wp2_with fail
 with_reducible refine (HSI.out _).mono ?_
 rintro e w1 ⟨rfl, hb1⟩
 have hV1 := Lib.hid (HV.out.step hb1)
 have hc0 := (hV1.out.at_ 0 rfl).cell0
 have hc1 := (hV1.out.at_ 0 rfl).cell1
 rw [Nat.add_zero] at hc0 hc1
 go_wp2_with fail
 with_reducible refine (HP.out _).mono ?_
 rintro e w2 ⟨rfl, hb2⟩
 have hV2 := Lib.hid (hV1.out.step hb2)
 clear hc0 hc1 hb1
 have hc0 := (hV2.out.at_ 1 rfl).cell0
 have hc1 := (hV2.out.at_ 1 rfl).cell1
 go_wp2_with fail
 with_reducible refine (HQ.out _).mono ?_
 rintro e w3 ⟨rfl, hb3⟩
 have hV3 := Lib.hid (hV2.out.step hb3)
 clear hc0 hc1 hb2
 go_wp2_with fail
 with_reducible refine (HQS.out _).mono ?_
 rintro e w4 ⟨rfl, hb4⟩
 have hV4 := Lib.hid (hV3.out.step hb4)
 clear hb3
 go_wp2_with fail
 with_reducible refine (HF1.out _).mono ?_
 rintro e w5 ⟨rfl, hb5⟩
 have hV5 := Lib.hid (hV4.out.step hb5)
 clear hb4
 go_wp2_with fail
 with_reducible refine (HF2.out _).mono ?_
 rintro e w6 ⟨rfl, hb6⟩
 have hV6 := hV5.out.step hb6
 clear hb5
 have hz0 := (hV6.at_ 2 rfl).cell0
 have hz1 := (hV6.at_ 2 rfl).cell1
 have hzf0 := (hV6.at_ 2 rfl).frozen 0
 have hzf1 := (hV6.at_ 2 rfl).frozen 1
 have hz2 := (hV6.at_ 3 rfl).cell0
 have hz3 := (hV6.at_ 3 rfl).cell1
 have hzf2 := (hV6.at_ 3 rfl).frozen 0
 have hzf3 := (hV6.at_ 3 rfl).frozen 1
 have hV7 := (hV6.put 2 rfl sg1 S1).put 3 rfl sg2 S2
 go_wp2
 exact post_wide_wide_tmp (b := w.heap.size + 2) (c := w.heap.size + 3) rfl rfl rfl (hV7.at_ 2 rfl) (hV7.at_ 3 rfl) rfl ⟨rfl, hV7.1⟩
end Go.Proofs.YtknaghdoffigjaaGreatDoor
