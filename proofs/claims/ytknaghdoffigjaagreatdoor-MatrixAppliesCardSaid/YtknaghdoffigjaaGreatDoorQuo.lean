import Derived.Test.YtknaghdoffigjaaGreatDoorDivide
import Derived.Test.YtknaghdoffigjaaGreatDoorZMulW
set_option linter.unusedSimpArgs false
set_option linter.unusedVariables false
set_option linter.unnecessarySimpa false
namespace Go.Proofs.YtknaghdoffigjaaGreatDoor
open Go.RowKit
theorem quo_neg {N M K R : Nat} (hM : 0 < M) (h : N + R = M * K) (hR : R < M) : -(N : Int) / (M : Int) = -(K : Int) ∧ -(N : Int) % (M : Int) = (R : Int) := by
 refine (Int.ediv_emod_unique (by omega)).2 ⟨?_, by omega, by omega⟩
 have h1 : (N : Int) + (R : Int) = (M : Int) * (K : Int) := by rw [← Int.natCast_add, h, Int.natCast_mul]
 rw [Int.mul_neg]
 omega
theorem quo_plain (x y : Bool) (s t : ByteArray) (N M K R : Nat) (hN : bval s.data.toList = N) (hMe : bval t.data.toList = M) (hM : 0 < M) (hx : x = false ∨ N % M = 0) (hK : N / M = K) (hR : N % M = R) :
  wint x s / wint y t = (if (x != y) = true then -(K : Int) else (K : Int)) ∧ wint x s % wint y t = (R : Int) := by
 have hd := Nat.div_add_mod N M
 rw [hK, hR] at hd
 have hm := Nat.mod_lt N hM
 rw [hR] at hm
 have p : (N : Int) / (M : Int) = (K : Int) ∧ (N : Int) % (M : Int) = (R : Int) := ⟨by rw [← hK]; rfl, by rw [← hR]; rfl⟩
 cases x
 ·cases y
  ·rw [wint_false, wint_false, hN, hMe, if_neg (by decide)]; exact p
  ·rw [wint_false, wint_true, hN, hMe, if_pos (by decide), Int.ediv_neg, Int.emod_neg, p.1]; exact ⟨rfl, p.2⟩
 ·have h0 : R = 0 := by
   rcases hx with h | h
   ·cases h
   ·omega
  have n := quo_neg (N := N) (R := 0) (K := K) hM (by omega) hM
  rw [h0]
  cases y
  ·rw [wint_true, wint_false, hN, hMe, if_pos (by decide)]; exact n
  ·rw [wint_true, wint_true, hN, hMe, if_neg (by decide), Int.ediv_neg, Int.emod_neg, n.1, Int.neg_neg]; exact ⟨rfl, n.2⟩
theorem quo_more (y : Bool) (s t : ByteArray) (N M K R : Nat) (hN : bval s.data.toList = N) (hMe : bval t.data.toList = M) (hM : 0 < M) (hx : N % M ≠ 0) (hK : N / M + 1 = K) (hR : M - N % M = R) :
  wint true s / wint y t = (if (true != y) = true then -(K : Int) else (K : Int)) ∧ wint true s % wint y t = (R : Int) := by
 have hd := Nat.div_add_mod N M
 have hm := Nat.mod_lt N hM
 have n := quo_neg (N := N) (R := R) (K := K) hM (by rw [← hK, Nat.mul_add, Nat.mul_one]; omega) (by omega)
 cases y
 ·rw [wint_true, wint_false, hN, hMe, if_pos (by decide)]; exact n
 ·rw [wint_true, wint_true, hN, hMe, if_neg (by decide), Int.ediv_neg, Int.emod_neg, n.1, Int.neg_neg]; exact ⟨rfl, n.2⟩
theorem partsOf_rd2 (s : ByteArray) (w : World) (hs : s.size ≤ 4398046511104) (N : Nat) (hN : bval s.data.toList = N) :
  Calls Tryz.prog 98 #[.string s] w fun e w' => ∃ A n c, e = .returned (.slice A n c) ∧ (limbs N).length = n ∧ n ≤ c ∧ c ≤ maxLen ∧ RdA w' A (limbs N) ∧ Below w.heap.size w w' :=
 (partsOf_any s w (by omega)).mono fun _ _ h => by
  obtain ⟨A, c, he, hc, hm, hr, hb⟩ := h.toL
  rw [hN] at *
  exact ⟨A, _, c, he, rfl, hc, hm, hr, hb⟩
theorem divide_rd (A B : Option Addr) (n m ca cb : Nat) (N M : Nat) (w : World) (hn : (limbs N).length = n) (hm : (limbs M).length = m) (hM : 0 < M) (hx : RdA w A (limbs N)) (hy : RdA w B (limbs M))
  (nn : n ≤ 1099511627000) (hca : n ≤ ca) (hcma : ca ≤ maxLen) (hcb : m ≤ cb) (hcm : cb ≤ maxLen) (K R : Nat) (hK : N / M = K) (hR : N % M = R) :
  Calls Tryz.prog 116 #[.slice A n ca, .slice B m cb] w fun e w' => ∃ C D nq nr cq cr, e = .returned (.tuple #[.slice C nq cq, .slice D nr cr]) ∧ (limbs K).length = nq ∧ (limbs R).length = nr ∧ RdA w' C (limbs K) ∧ RdA w' D (limbs R) ∧ Below w.heap.size w w' :=
 (divide_any A B n m ca cb N M w hn hm hM hx hy nn hca hcma hcb hcm).mono fun _ _ h => by
  obtain ⟨Q, S, cq, cr, he, h1, h2, h3, h4, h5, h6, h7⟩ := h
  rw [hK] at *
  rw [hR] at *
  exact ⟨Q, S, _, _, cq, cr, he, rfl, rfl, h5, h6, h7⟩
set_option maxRecDepth 100000 in
set_option maxHeartbeats 4000000 in
theorem Quo_A_pos (y : Bool) (s t : ByteArray) (w : World) (hs : s.size ≤ 4398046511104) (ht : t.size ≤ 4398046511104) (hbig : 7 < s.size) (hb : wint y t ≠ 0) (hc : True) :
  Calls Tryz.prog 73 #[.agg #[.bool false, .string s], .agg #[.bool y, .string t]] w fun e w' => e = .returned (.tuple #[wv (wint false s / wint y t), wv (wint false s % wint y t), .bool true]) ∧ Below w.heap.size w w' := by
 have hsi := fun W => Sign_any y t W (by unfold maxLen; omega)
 have hsz : ((wint y t).sign == 0) = false := by simpa using hb
 have hp := fun W => small_no false s W hbig (by unfold maxLen; omega)
 have l1 := bval_limbs_length s 549755813888 (by omega)
 have l2 := bval_limbs_length t 549755813888 (by omega)
 obtain ⟨N, hN⟩ : ∃ N, bval s.data.toList = N := ⟨_, rfl⟩
 obtain ⟨M, hM⟩ : ∃ M, bval t.data.toList = M := ⟨_, rfl⟩
 rw [hN] at l1
 rw [hM] at l2
 have hM0 : 0 < M := by
  refine Nat.pos_of_ne_zero fun h => hb ?_
  cases y
  ·rw [wint_false, hM, h]; rfl
  ·rw [wint_true, hM, h]; rfl
 have hps := fun W => partsOf_rd2 s W hs N hN
 have hpt := fun W => partsOf_rd2 t W ht M hM
 obtain ⟨K0, hK0⟩ : ∃ K, N / M = K := ⟨_, rfl⟩
 obtain ⟨R0, hR0⟩ : ∃ R, N % M = R := ⟨_, rfl⟩
 have hKl : (limbs K0).length ≤ 549755813888 := Nat.le_trans (limbs_length_mono (by rw [← hK0]; exact Nat.div_le_self _ _)) l1
 have hRl : (limbs R0).length ≤ 549755813888 := Nat.le_trans (limbs_length_mono (by rw [← hR0]; exact Nat.mod_le _ _)) l1
 have hRM : R0 < M := by rw [← hR0]; exact Nat.mod_lt _ hM0
 have HDIV := Lib.hid (fun A B n m ca cb W hn hm hx hy nn hca hcma hcb hcm => divide_rd A B n m ca cb N M W hn hm hM0 hx hy nn hca hcma hcb hcm K0 R0 hK0 hR0)
 have hv := quo_plain false y s t N M K0 R0 hN hM hM0 (.inl rfl) hK0 hR0
 rw [show (false != y) = (y) from by cases y <;> rfl] at hv
 have hg1 := fun A n c W hn hx => signed_any (y) A n c K0 W hn hx (by omega)
 have hg2 := fun A n c W hn hx => signed_any false A n c R0 W hn hx (by omega)
 simp only [if_neg (show ¬ (false = true) by decide)] at hg2
 rw [← hv.1] at hg1
 rw [← hv.2] at hg2
 obtain ⟨sg1, S1, e1⟩ := wv_agg (wint false s / wint y t)
 obtain ⟨sg2, S2, e2⟩ := wv_agg (wint false s % wint y t)
 rw [e1] at hg1
 rw [e2] at hg2
 rw [e1, e2]
 have HR0 := Lib.hid (And.intro hR0 hc)
 generalize (wint y t).sign = sgn at *
 have HSI := Lib.hid hsi
 have HP := Lib.hid hp
 have HS := Lib.hid hps
 have HT := Lib.hid hpt
 have HG1 := Lib.hid hg1
 have HG2 := Lib.hid hg2
 clear hsi hp hps hpt hg1 hg2 hv e1 e2 hK0 hR0 hc hN hM hb
 have HV := Lib.hid (Vars.start4 w false y false false s t ⟨#[]⟩ ⟨#[]⟩)
 go_enter Tryz.func73, Tryz.ntmps73
 go_wp2_with fail
 with_reducible refine (HSI.out _).mono ?_
 rintro e w1 ⟨rfl, hb1⟩
 have hV1 := Lib.hid (HV.out.step hb1)
 have hc0 := (hV1.out.at_ 0 rfl).cell0
 have hc1 := (hV1.out.at_ 0 rfl).cell1
 rw [Nat.add_zero] at hc0 hc1
 go_wp2_with fail
 with_reducible refine (HP.out _).mono ?_
 rintro e w2 ⟨rfl, hb2⟩
 have hV2 := Lib.hid (hV1.out.step hb2)
 clear hc0 hc1 hb1
 have hc0 := (hV2.out.at_ 1 rfl).cell0
 have hc1 := (hV2.out.at_ 1 rfl).cell1
 go_wp2_with fail
 with_reducible refine (HT.out _).mono ?_
 rintro e w4 ⟨A1, n1, c1, rfl, hn1, hcc1, hcm1, hr1, hb4⟩
 have hV4 := Lib.hid (hV2.out.step hb4)
 clear hc1 hb2
 have hc1 := (hV4.out.at_ 0 rfl).cell1
 rw [Nat.add_zero] at hc1
 go_wp2_with fail
 with_reducible refine (HS.out _).mono ?_
 rintro e w5 ⟨A2, n2, c2, rfl, hn2, hcc2, hcm2, hr2, hb5⟩
 have hV5 := Lib.hid (hV4.out.step hb5)
 have hr1' := hr1.below hb5
 clear hc1
 go_wp2_with fail
 with_reducible refine (HDIV.out A2 A1 n2 n1 c2 c1 w5 hn2 hn1 hr2 hr1' (by omega) hcc2 hcm2 hcc1 hcm1).mono ?_
 rintro e w6 ⟨C, D, nq, nr, cq, cr, rfl, hnq, hnr, hrq, hrr, hb6⟩
 have hV6 := Lib.hid (hV5.out.step hb6)
 have hr1'' := hr1'.below hb6
 clear hr1 hr1' hr2 hb4 hb5
 have hc0 := (hV6.out.at_ 0 rfl).cell0
 have hd0 := (hV6.out.at_ 1 rfl).cell0
 rw [Nat.add_zero] at hc0
 have Hnq := Lib.hid hnq
 have Hnr := Lib.hid hnr
 have Hn1 := Lib.hid hn1
 clear hnq hnr hn1 hn2
 go_wp2_with fail
 with_reducible refine (HG1.out _ _ _ _ Hnq.out hrq).mono ?_
 rintro e w8 ⟨rfl, hb8⟩
 have hV8 := Lib.hid (hV6.out.step hb8)
 have hrr2 := hrr.below hb8
 go_wp2_with fail
 with_reducible refine (HG2.out _ _ _ _ Hnr.out hrr2).mono ?_
 rintro e w9 ⟨rfl, hb9⟩
 have hV9 := hV8.out.step hb9
 clear hb8 hb9 hc0 hd0
 have hz0 := (hV9.at_ 2 rfl).cell0
 have hz1 := (hV9.at_ 2 rfl).cell1
 have hzf0 := (hV9.at_ 2 rfl).frozen 0
 have hzf1 := (hV9.at_ 2 rfl).frozen 1
 have hz2 := (hV9.at_ 3 rfl).cell0
 have hz3 := (hV9.at_ 3 rfl).cell1
 have hzf2 := (hV9.at_ 3 rfl).frozen 0
 have hzf3 := (hV9.at_ 3 rfl).frozen 1
 have hV10 := (hV9.put 2 rfl sg1 S1).put 3 rfl sg2 S2
 go_wp2
 exact post_wide_wide_tmp (b := w.heap.size + 2) (c := w.heap.size + 3) rfl rfl rfl (hV10.at_ 2 rfl) (hV10.at_ 3 rfl) rfl ⟨rfl, hV10.1⟩
set_option maxRecDepth 100000 in
set_option maxHeartbeats 4000000 in
theorem Quo_A_zero (y : Bool) (s t : ByteArray) (w : World) (hs : s.size ≤ 4398046511104) (ht : t.size ≤ 4398046511104) (hbig : 7 < s.size) (hb : wint y t ≠ 0) (hc : bval s.data.toList % bval t.data.toList = 0) :
  Calls Tryz.prog 73 #[.agg #[.bool true, .string s], .agg #[.bool y, .string t]] w fun e w' => e = .returned (.tuple #[wv (wint true s / wint y t), wv (wint true s % wint y t), .bool true]) ∧ Below w.heap.size w w' := by
 have hsi := fun W => Sign_any y t W (by unfold maxLen; omega)
 have hsz : ((wint y t).sign == 0) = false := by simpa using hb
 have hp := fun W => small_no true s W hbig (by unfold maxLen; omega)
 have l1 := bval_limbs_length s 549755813888 (by omega)
 have l2 := bval_limbs_length t 549755813888 (by omega)
 obtain ⟨N, hN⟩ : ∃ N, bval s.data.toList = N := ⟨_, rfl⟩
 obtain ⟨M, hM⟩ : ∃ M, bval t.data.toList = M := ⟨_, rfl⟩
 rw [hN] at hc l1
 rw [hM] at hc l2
 have hM0 : 0 < M := by
  refine Nat.pos_of_ne_zero fun h => hb ?_
  cases y
  ·rw [wint_false, hM, h]; rfl
  ·rw [wint_true, hM, h]; rfl
 have hps := fun W => partsOf_rd2 s W hs N hN
 have hpt := fun W => partsOf_rd2 t W ht M hM
 obtain ⟨K0, hK0⟩ : ∃ K, N / M = K := ⟨_, rfl⟩
 obtain ⟨R0, hR0⟩ : ∃ R, N % M = R := ⟨_, rfl⟩
 have hKl : (limbs K0).length ≤ 549755813888 := Nat.le_trans (limbs_length_mono (by rw [← hK0]; exact Nat.div_le_self _ _)) l1
 have hRl : (limbs R0).length ≤ 549755813888 := Nat.le_trans (limbs_length_mono (by rw [← hR0]; exact Nat.mod_le _ _)) l1
 have hRM : R0 < M := by rw [← hR0]; exact Nat.mod_lt _ hM0
 have HDIV := Lib.hid (fun A B n m ca cb W hn hm hx hy nn hca hcma hcb hcm => divide_rd A B n m ca cb N M W hn hm hM0 hx hy nn hca hcma hcb hcm K0 R0 hK0 hR0)
 have hv := quo_plain true y s t N M K0 R0 hN hM hM0 (.inr hc) hK0 hR0
 rw [show (true != y) = (!y) from by cases y <;> rfl] at hv
 have hg1 := fun A n c W hn hx => signed_any (!y) A n c K0 W hn hx (by omega)
 have hg2 := fun A n c W hn hx => signed_any false A n c R0 W hn hx (by omega)
 simp only [if_neg (show ¬ (false = true) by decide)] at hg2
 rw [← hv.1] at hg1
 rw [← hv.2] at hg2
 obtain ⟨sg1, S1, e1⟩ := wv_agg (wint true s / wint y t)
 obtain ⟨sg2, S2, e2⟩ := wv_agg (wint true s % wint y t)
 rw [e1] at hg1
 rw [e2] at hg2
 rw [e1, e2]
 have HR0 := Lib.hid (And.intro hR0 hc)
 generalize (wint y t).sign = sgn at *
 have HSI := Lib.hid hsi
 have HP := Lib.hid hp
 have HS := Lib.hid hps
 have HT := Lib.hid hpt
 have HG1 := Lib.hid hg1
 have HG2 := Lib.hid hg2
 clear hsi hp hps hpt hg1 hg2 hv e1 e2 hK0 hR0 hc hN hM hb
 have HV := Lib.hid (Vars.start4 w true y false false s t ⟨#[]⟩ ⟨#[]⟩)
 go_enter Tryz.func73, Tryz.ntmps73
 go_wp2_with fail
 with_reducible refine (HSI.out _).mono ?_
 rintro e w1 ⟨rfl, hb1⟩
 have hV1 := Lib.hid (HV.out.step hb1)
 have hc0 := (hV1.out.at_ 0 rfl).cell0
 have hc1 := (hV1.out.at_ 0 rfl).cell1
 rw [Nat.add_zero] at hc0 hc1
 go_wp2_with fail
 with_reducible refine (HP.out _).mono ?_
 rintro e w2 ⟨rfl, hb2⟩
 have hV2 := Lib.hid (hV1.out.step hb2)
 clear hc0 hc1 hb1
 have hc0 := (hV2.out.at_ 1 rfl).cell0
 have hc1 := (hV2.out.at_ 1 rfl).cell1
 go_wp2_with fail
 with_reducible refine (HT.out _).mono ?_
 rintro e w4 ⟨A1, n1, c1, rfl, hn1, hcc1, hcm1, hr1, hb4⟩
 have hV4 := Lib.hid (hV2.out.step hb4)
 clear hc1 hb2
 have hc1 := (hV4.out.at_ 0 rfl).cell1
 rw [Nat.add_zero] at hc1
 go_wp2_with fail
 with_reducible refine (HS.out _).mono ?_
 rintro e w5 ⟨A2, n2, c2, rfl, hn2, hcc2, hcm2, hr2, hb5⟩
 have hV5 := Lib.hid (hV4.out.step hb5)
 have hr1' := hr1.below hb5
 clear hc1
 go_wp2_with fail
 with_reducible refine (HDIV.out A2 A1 n2 n1 c2 c1 w5 hn2 hn1 hr2 hr1' (by omega) hcc2 hcm2 hcc1 hcm1).mono ?_
 rintro e w6 ⟨C, D, nq, nr, cq, cr, rfl, hnq, hnr, hrq, hrr, hb6⟩
 have hV6 := Lib.hid (hV5.out.step hb6)
 have hr1'' := hr1'.below hb6
 clear hr1 hr1' hr2 hb4 hb5
 have hc0 := (hV6.out.at_ 0 rfl).cell0
 have hd0 := (hV6.out.at_ 1 rfl).cell0
 rw [Nat.add_zero] at hc0
 have Hnq := Lib.hid hnq
 have Hnr := Lib.hid hnr
 have Hn1 := Lib.hid hn1
 clear hnq hnr hn1 hn2
 obtain rfl : nr = 0 := by rw [← Hnr.out, show R0 = 0 from HR0.out.1.symm.trans HR0.out.2, limbs_zero]; rfl
 go_wp2_with fail
 with_reducible refine (HG1.out _ _ _ _ Hnq.out hrq).mono ?_
 rintro e w8 ⟨rfl, hb8⟩
 have hV8 := Lib.hid (hV6.out.step hb8)
 have hrr2 := hrr.below hb8
 go_wp2_with fail
 with_reducible refine (HG2.out _ _ _ _ Hnr.out hrr2).mono ?_
 rintro e w9 ⟨rfl, hb9⟩
 have hV9 := hV8.out.step hb9
 clear hb8 hb9 hc0 hd0
 have hz0 := (hV9.at_ 2 rfl).cell0
 have hz1 := (hV9.at_ 2 rfl).cell1
 have hzf0 := (hV9.at_ 2 rfl).frozen 0
 have hzf1 := (hV9.at_ 2 rfl).frozen 1
 have hz2 := (hV9.at_ 3 rfl).cell0
 have hz3 := (hV9.at_ 3 rfl).cell1
 have hzf2 := (hV9.at_ 3 rfl).frozen 0
 have hzf3 := (hV9.at_ 3 rfl).frozen 1
 have hV10 := (hV9.put 2 rfl sg1 S1).put 3 rfl sg2 S2
 go_wp2
 exact post_wide_wide_tmp (b := w.heap.size + 2) (c := w.heap.size + 3) rfl rfl rfl (hV10.at_ 2 rfl) (hV10.at_ 3 rfl) rfl ⟨rfl, hV10.1⟩
set_option maxRecDepth 100000 in
set_option maxHeartbeats 4000000 in
theorem Quo_A_more (y : Bool) (s t : ByteArray) (w : World) (hs : s.size ≤ 4398046511104) (ht : t.size ≤ 4398046511104) (hbig : 7 < s.size) (hb : wint y t ≠ 0) (hc : bval s.data.toList % bval t.data.toList ≠ 0) :
  Calls Tryz.prog 73 #[.agg #[.bool true, .string s], .agg #[.bool y, .string t]] w fun e w' => e = .returned (.tuple #[wv (wint true s / wint y t), wv (wint true s % wint y t), .bool true]) ∧ Below w.heap.size w w' := by
 have hsi := fun W => Sign_any y t W (by unfold maxLen; omega)
 have hsz : ((wint y t).sign == 0) = false := by simpa using hb
 have hp := fun W => small_no true s W hbig (by unfold maxLen; omega)
 have l1 := bval_limbs_length s 549755813888 (by omega)
 have l2 := bval_limbs_length t 549755813888 (by omega)
 obtain ⟨N, hN⟩ : ∃ N, bval s.data.toList = N := ⟨_, rfl⟩
 obtain ⟨M, hM⟩ : ∃ M, bval t.data.toList = M := ⟨_, rfl⟩
 rw [hN] at hc l1
 rw [hM] at hc l2
 have hM0 : 0 < M := by
  refine Nat.pos_of_ne_zero fun h => hb ?_
  cases y
  ·rw [wint_false, hM, h]; rfl
  ·rw [wint_true, hM, h]; rfl
 have hps := fun W => partsOf_rd2 s W hs N hN
 have hpt := fun W => partsOf_rd2 t W ht M hM
 obtain ⟨K0, hK0⟩ : ∃ K, N / M = K := ⟨_, rfl⟩
 obtain ⟨R0, hR0⟩ : ∃ R, N % M = R := ⟨_, rfl⟩
 have hKl : (limbs K0).length ≤ 549755813888 := Nat.le_trans (limbs_length_mono (by rw [← hK0]; exact Nat.div_le_self _ _)) l1
 have hRl : (limbs R0).length ≤ 549755813888 := Nat.le_trans (limbs_length_mono (by rw [← hR0]; exact Nat.mod_le _ _)) l1
 have hRM : R0 < M := by rw [← hR0]; exact Nat.mod_lt _ hM0
 have HDIV := Lib.hid (fun A B n m ca cb W hn hm hx hy nn hca hcma hcb hcm => divide_rd A B n m ca cb N M W hn hm hM0 hx hy nn hca hcma hcb hcm K0 R0 hK0 hR0)
 have hv := quo_more y s t N M (K0 + 1) (M - R0) hN hM hM0 hc (by rw [hK0]) (by rw [hR0])
 have hKl2 := limbs_add_length hKl (show (limbs 1).length ≤ 549755813888 by rw [limbs_step 1 (by omega), show 1 / B64 = 0 from rfl, limbs_zero]; simp)
 have hRl2 : (limbs (M - R0)).length ≤ 549755813888 := Nat.le_trans (limbs_length_mono (by omega)) l2
 rw [show (true != y) = (!y) from by cases y <;> rfl] at hv
 have hg1 := fun A n c W hn hx => signed_any (!y) A n c (K0 + 1) W hn hx (by omega)
 have hg2 := fun A n c W hn hx => signed_any false A n c (M - R0) W hn hx (by omega)
 simp only [if_neg (show ¬ (false = true) by decide)] at hg2
 rw [← hv.1] at hg1
 rw [← hv.2] at hg2
 obtain ⟨sg1, S1, e1⟩ := wv_agg (wint true s / wint y t)
 obtain ⟨sg2, S2, e2⟩ := wv_agg (wint true s % wint y t)
 rw [e1] at hg1
 rw [e2] at hg2
 rw [e1, e2]
 have HR0 := Lib.hid (And.intro hR0 hc)
 generalize (wint y t).sign = sgn at *
 have HSI := Lib.hid hsi
 have HP := Lib.hid hp
 have HS := Lib.hid hps
 have HT := Lib.hid hpt
 have HG1 := Lib.hid hg1
 have HG2 := Lib.hid hg2
 clear hsi hp hps hpt hg1 hg2 hv e1 e2 hK0 hR0 hc hN hM hb
 have HV := Lib.hid (Vars.start4 w true y false false s t ⟨#[]⟩ ⟨#[]⟩)
 go_enter Tryz.func73, Tryz.ntmps73
 go_wp2_with fail
 with_reducible refine (HSI.out _).mono ?_
 rintro e w1 ⟨rfl, hb1⟩
 have hV1 := Lib.hid (HV.out.step hb1)
 have hc0 := (hV1.out.at_ 0 rfl).cell0
 have hc1 := (hV1.out.at_ 0 rfl).cell1
 rw [Nat.add_zero] at hc0 hc1
 go_wp2_with fail
 with_reducible refine (HP.out _).mono ?_
 rintro e w2 ⟨rfl, hb2⟩
 have hV2 := Lib.hid (hV1.out.step hb2)
 clear hc0 hc1 hb1
 have hc0 := (hV2.out.at_ 1 rfl).cell0
 have hc1 := (hV2.out.at_ 1 rfl).cell1
 go_wp2_with fail
 with_reducible refine (HT.out _).mono ?_
 rintro e w4 ⟨A1, n1, c1, rfl, hn1, hcc1, hcm1, hr1, hb4⟩
 have hV4 := Lib.hid (hV2.out.step hb4)
 clear hc1 hb2
 have hc1 := (hV4.out.at_ 0 rfl).cell1
 rw [Nat.add_zero] at hc1
 go_wp2_with fail
 with_reducible refine (HS.out _).mono ?_
 rintro e w5 ⟨A2, n2, c2, rfl, hn2, hcc2, hcm2, hr2, hb5⟩
 have hV5 := Lib.hid (hV4.out.step hb5)
 have hr1' := hr1.below hb5
 clear hc1
 go_wp2_with fail
 with_reducible refine (HDIV.out A2 A1 n2 n1 c2 c1 w5 hn2 hn1 hr2 hr1' (by omega) hcc2 hcm2 hcc1 hcm1).mono ?_
 rintro e w6 ⟨C, D, nq, nr, cq, cr, rfl, hnq, hnr, hrq, hrr, hb6⟩
 have hV6 := Lib.hid (hV5.out.step hb6)
 have hr1'' := hr1'.below hb6
 clear hr1 hr1' hr2 hb4 hb5
 have hc0 := (hV6.out.at_ 0 rfl).cell0
 have hd0 := (hV6.out.at_ 1 rfl).cell0
 rw [Nat.add_zero] at hc0
 have Hnq := Lib.hid hnq
 have Hnr := Lib.hid hnr
 have Hn1 := Lib.hid hn1
 clear hnq hnr hn1 hn2
 have hnr0 : 0 < nr := by
  refine Nat.pos_of_ne_zero fun h => ?_
  have h0 := limbs_eq_nil.1 (List.length_eq_zero_iff.1 (Hnr.out.trans h))
  exact HR0.out.2 (HR0.out.1.trans h0)
 go_wp2_with fail
 have hL1 : Lst (w6.alloc (.cells #[.int .u64 1] 80)) w6.heap.size [1] := Lst.new w6 [1]
 have hB1 : Below w6.heap.size w6 (w6.alloc (.cells #[.int .u64 1] 80)) := (Below.refl _ _).alloc (Nat.le_refl _) _
 have hl1 : limbs 1 = [1] := rfl
 have hr1d : RdA (w6.alloc (.cells #[.int .u64 1] 80)) (some ⟨w6.heap.size, 0, none⟩) (limbs 1) := by rw [hl1]; exact hL1.rd
 have hV6b := Lib.hid (hV6.out.step hB1)
 have hrqb := hrq.below hB1
 have hrrb := hrr.below hB1
 have hr1b := hr1''.below hB1
 clear hrq hrr hr1'' hV6 hL1 hc0 hd0
 generalize w6.alloc (.cells #[.int .u64 1] 80) = W6 at *
 with_reducible refine (sum_rd C (some ⟨w6.heap.size, 0, none⟩) nq 1 cq 1 K0 1 W6 Hnq.out (by rw [hl1, List.length_singleton]) hrqb hr1d (by rw [← Hnq.out]; omega) (by omega)).mono ?_
 rintro e w7 ⟨E, ne, ce, rfl, hne, _, hre, hb7⟩
 have hV7 := Lib.hid (hV6b.out.step hb7)
 have hrr7 := hrrb.below hb7
 have hr17 := hr1b.below hb7
 clear hrqb hrrb hr1b hr1d hb7
 go_wp2_with fail
 with_reducible refine (difference_rd A1 D n1 nr c1 cr M R0 w7 Hn1.out Hnr.out hr17 hrr7 (by rw [← Hn1.out]; omega) (by omega)).mono ?_
 rintro e w7b ⟨F, nf, cf, rfl, hnf, _, hrf, hb7b⟩
 have hV7b := Lib.hid (hV7.out.step hb7b)
 have hre2 := hre.below hb7b
 clear hre hb7b hr17 hrr7
 have hc0 := (hV7b.out.at_ 0 rfl).cell0
 have hd0 := (hV7b.out.at_ 1 rfl).cell0
 rw [Nat.add_zero] at hc0
 go_wp2_with fail
 with_reducible refine (HG1.out _ _ _ _ hne hre2).mono ?_
 rintro e w8 ⟨rfl, hb8⟩
 have hV8 := Lib.hid (hV7b.out.step hb8)
 have hrr2 := hrf.below hb8
 go_wp2_with fail
 with_reducible refine (HG2.out _ _ _ _ hnf hrr2).mono ?_
 rintro e w9 ⟨rfl, hb9⟩
 have hV9 := hV8.out.step hb9
 clear hb8 hb9 hc0 hd0
 have hz0 := (hV9.at_ 2 rfl).cell0
 have hz1 := (hV9.at_ 2 rfl).cell1
 have hzf0 := (hV9.at_ 2 rfl).frozen 0
 have hzf1 := (hV9.at_ 2 rfl).frozen 1
 have hz2 := (hV9.at_ 3 rfl).cell0
 have hz3 := (hV9.at_ 3 rfl).cell1
 have hzf2 := (hV9.at_ 3 rfl).frozen 0
 have hzf3 := (hV9.at_ 3 rfl).frozen 1
 have hV10 := (hV9.put 2 rfl sg1 S1).put 3 rfl sg2 S2
 go_wp2
 exact post_wide_wide_tmp (b := w.heap.size + 2) (c := w.heap.size + 3) rfl rfl rfl (hV10.at_ 2 rfl) (hV10.at_ 3 rfl) rfl ⟨rfl, hV10.1⟩
set_option maxRecDepth 100000 in
set_option maxHeartbeats 4000000 in
theorem Quo_B_pos (y : Bool) (s t : ByteArray) (w : World) (hs : s.size ≤ 4398046511104) (ht : t.size ≤ 4398046511104) (hsm : s.size ≤ 7) (hbig : 7 < t.size) (hb : wint y t ≠ 0) (hc : True) :
  Calls Tryz.prog 73 #[.agg #[.bool false, .string s], .agg #[.bool y, .string t]] w fun e w' => e = .returned (.tuple #[wv (wint false s / wint y t), wv (wint false s % wint y t), .bool true]) ∧ Below w.heap.size w w' := by
 have hsi := fun W => Sign_any y t W (by unfold maxLen; omega)
 have hsz : ((wint y t).sign == 0) = false := by simpa using hb
 have hp := fun W => small_yes false s W hsm
 have hq := fun W => small_no y t W hbig (by unfold maxLen; omega)
 have l1 := bval_limbs_length s 549755813888 (by omega)
 have l2 := bval_limbs_length t 549755813888 (by omega)
 obtain ⟨N, hN⟩ : ∃ N, bval s.data.toList = N := ⟨_, rfl⟩
 obtain ⟨M, hM⟩ : ∃ M, bval t.data.toList = M := ⟨_, rfl⟩
 rw [hN] at l1
 rw [hM] at l2
 have hM0 : 0 < M := by
  refine Nat.pos_of_ne_zero fun h => hb ?_
  cases y
  ·rw [wint_false, hM, h]; rfl
  ·rw [wint_true, hM, h]; rfl
 have hps := fun W => partsOf_rd2 s W hs N hN
 have hpt := fun W => partsOf_rd2 t W ht M hM
 obtain ⟨K0, hK0⟩ : ∃ K, N / M = K := ⟨_, rfl⟩
 obtain ⟨R0, hR0⟩ : ∃ R, N % M = R := ⟨_, rfl⟩
 have hKl : (limbs K0).length ≤ 549755813888 := Nat.le_trans (limbs_length_mono (by rw [← hK0]; exact Nat.div_le_self _ _)) l1
 have hRl : (limbs R0).length ≤ 549755813888 := Nat.le_trans (limbs_length_mono (by rw [← hR0]; exact Nat.mod_le _ _)) l1
 have hRM : R0 < M := by rw [← hR0]; exact Nat.mod_lt _ hM0
 have HDIV := Lib.hid (fun A B n m ca cb W hn hm hx hy nn hca hcma hcb hcm => divide_rd A B n m ca cb N M W hn hm hM0 hx hy nn hca hcma hcb hcm K0 R0 hK0 hR0)
 have hv := quo_plain false y s t N M K0 R0 hN hM hM0 (.inl rfl) hK0 hR0
 rw [show (false != y) = (y) from by cases y <;> rfl] at hv
 have hg1 := fun A n c W hn hx => signed_any (y) A n c K0 W hn hx (by omega)
 have hg2 := fun A n c W hn hx => signed_any false A n c R0 W hn hx (by omega)
 simp only [if_neg (show ¬ (false = true) by decide)] at hg2
 rw [← hv.1] at hg1
 rw [← hv.2] at hg2
 obtain ⟨sg1, S1, e1⟩ := wv_agg (wint false s / wint y t)
 obtain ⟨sg2, S2, e2⟩ := wv_agg (wint false s % wint y t)
 rw [e1] at hg1
 rw [e2] at hg2
 rw [e1, e2]
 have HR0 := Lib.hid (And.intro hR0 hc)
 generalize (wint y t).sign = sgn at *
 generalize wint false s = sv at hp
 have HSI := Lib.hid hsi
 have HP := Lib.hid hp
 have HS := Lib.hid hps
 have HT := Lib.hid hpt
 have HG1 := Lib.hid hg1
 have HG2 := Lib.hid hg2
 have HQ := Lib.hid hq
 clear hsi hp hps hpt hg1 hg2 hv e1 e2 hK0 hR0 hc hN hM hb hq
 have HV := Lib.hid (Vars.start4 w false y false false s t ⟨#[]⟩ ⟨#[]⟩)
 go_enter Tryz.func73, Tryz.ntmps73
 go_wp2_with fail
 with_reducible refine (HSI.out _).mono ?_
 rintro e w1 ⟨rfl, hb1⟩
 have hV1 := Lib.hid (HV.out.step hb1)
 have hc0 := (hV1.out.at_ 0 rfl).cell0
 have hc1 := (hV1.out.at_ 0 rfl).cell1
 rw [Nat.add_zero] at hc0 hc1
 go_wp2_with fail
 with_reducible refine (HP.out _).mono ?_
 rintro e w2 ⟨rfl, hb2⟩
 have hV2 := Lib.hid (hV1.out.step hb2)
 clear hc0 hc1 hb1
 have hc0 := (hV2.out.at_ 1 rfl).cell0
 have hc1 := (hV2.out.at_ 1 rfl).cell1
 go_wp2_with fail
 with_reducible refine (HQ.out _).mono ?_
 rintro e w3 ⟨rfl, hb3⟩
 have hV3 := Lib.hid (hV2.out.step hb3)
 clear hc0 hc1 hb2
 have hc1 := (hV3.out.at_ 1 rfl).cell1
 go_wp2_with fail
 with_reducible refine (HT.out _).mono ?_
 rintro e w4 ⟨A1, n1, c1, rfl, hn1, hcc1, hcm1, hr1, hb4⟩
 have hV4 := Lib.hid (hV3.out.step hb4)
 clear hc1 hb3
 have hc1 := (hV4.out.at_ 0 rfl).cell1
 rw [Nat.add_zero] at hc1
 go_wp2_with fail
 with_reducible refine (HS.out _).mono ?_
 rintro e w5 ⟨A2, n2, c2, rfl, hn2, hcc2, hcm2, hr2, hb5⟩
 have hV5 := Lib.hid (hV4.out.step hb5)
 have hr1' := hr1.below hb5
 clear hc1
 go_wp2_with fail
 with_reducible refine (HDIV.out A2 A1 n2 n1 c2 c1 w5 hn2 hn1 hr2 hr1' (by omega) hcc2 hcm2 hcc1 hcm1).mono ?_
 rintro e w6 ⟨C, D, nq, nr, cq, cr, rfl, hnq, hnr, hrq, hrr, hb6⟩
 have hV6 := Lib.hid (hV5.out.step hb6)
 have hr1'' := hr1'.below hb6
 clear hr1 hr1' hr2 hb4 hb5
 have hc0 := (hV6.out.at_ 0 rfl).cell0
 have hd0 := (hV6.out.at_ 1 rfl).cell0
 rw [Nat.add_zero] at hc0
 have Hnq := Lib.hid hnq
 have Hnr := Lib.hid hnr
 have Hn1 := Lib.hid hn1
 clear hnq hnr hn1 hn2
 go_wp2_with fail
 with_reducible refine (HG1.out _ _ _ _ Hnq.out hrq).mono ?_
 rintro e w8 ⟨rfl, hb8⟩
 have hV8 := Lib.hid (hV6.out.step hb8)
 have hrr2 := hrr.below hb8
 go_wp2_with fail
 with_reducible refine (HG2.out _ _ _ _ Hnr.out hrr2).mono ?_
 rintro e w9 ⟨rfl, hb9⟩
 have hV9 := hV8.out.step hb9
 clear hb8 hb9 hc0 hd0
 have hz0 := (hV9.at_ 2 rfl).cell0
 have hz1 := (hV9.at_ 2 rfl).cell1
 have hzf0 := (hV9.at_ 2 rfl).frozen 0
 have hzf1 := (hV9.at_ 2 rfl).frozen 1
 have hz2 := (hV9.at_ 3 rfl).cell0
 have hz3 := (hV9.at_ 3 rfl).cell1
 have hzf2 := (hV9.at_ 3 rfl).frozen 0
 have hzf3 := (hV9.at_ 3 rfl).frozen 1
 have hV10 := (hV9.put 2 rfl sg1 S1).put 3 rfl sg2 S2
 go_wp2
 exact post_wide_wide_tmp (b := w.heap.size + 2) (c := w.heap.size + 3) rfl rfl rfl (hV10.at_ 2 rfl) (hV10.at_ 3 rfl) rfl ⟨rfl, hV10.1⟩
set_option maxRecDepth 100000 in
set_option maxHeartbeats 4000000 in
theorem Quo_B_zero (y : Bool) (s t : ByteArray) (w : World) (hs : s.size ≤ 4398046511104) (ht : t.size ≤ 4398046511104) (hsm : s.size ≤ 7) (hbig : 7 < t.size) (hb : wint y t ≠ 0) (hc : bval s.data.toList % bval t.data.toList = 0) :
  Calls Tryz.prog 73 #[.agg #[.bool true, .string s], .agg #[.bool y, .string t]] w fun e w' => e = .returned (.tuple #[wv (wint true s / wint y t), wv (wint true s % wint y t), .bool true]) ∧ Below w.heap.size w w' := by
 have hsi := fun W => Sign_any y t W (by unfold maxLen; omega)
 have hsz : ((wint y t).sign == 0) = false := by simpa using hb
 have hp := fun W => small_yes true s W hsm
 have hq := fun W => small_no y t W hbig (by unfold maxLen; omega)
 have l1 := bval_limbs_length s 549755813888 (by omega)
 have l2 := bval_limbs_length t 549755813888 (by omega)
 obtain ⟨N, hN⟩ : ∃ N, bval s.data.toList = N := ⟨_, rfl⟩
 obtain ⟨M, hM⟩ : ∃ M, bval t.data.toList = M := ⟨_, rfl⟩
 rw [hN] at hc l1
 rw [hM] at hc l2
 have hM0 : 0 < M := by
  refine Nat.pos_of_ne_zero fun h => hb ?_
  cases y
  ·rw [wint_false, hM, h]; rfl
  ·rw [wint_true, hM, h]; rfl
 have hps := fun W => partsOf_rd2 s W hs N hN
 have hpt := fun W => partsOf_rd2 t W ht M hM
 obtain ⟨K0, hK0⟩ : ∃ K, N / M = K := ⟨_, rfl⟩
 obtain ⟨R0, hR0⟩ : ∃ R, N % M = R := ⟨_, rfl⟩
 have hKl : (limbs K0).length ≤ 549755813888 := Nat.le_trans (limbs_length_mono (by rw [← hK0]; exact Nat.div_le_self _ _)) l1
 have hRl : (limbs R0).length ≤ 549755813888 := Nat.le_trans (limbs_length_mono (by rw [← hR0]; exact Nat.mod_le _ _)) l1
 have hRM : R0 < M := by rw [← hR0]; exact Nat.mod_lt _ hM0
 have HDIV := Lib.hid (fun A B n m ca cb W hn hm hx hy nn hca hcma hcb hcm => divide_rd A B n m ca cb N M W hn hm hM0 hx hy nn hca hcma hcb hcm K0 R0 hK0 hR0)
 have hv := quo_plain true y s t N M K0 R0 hN hM hM0 (.inr hc) hK0 hR0
 rw [show (true != y) = (!y) from by cases y <;> rfl] at hv
 have hg1 := fun A n c W hn hx => signed_any (!y) A n c K0 W hn hx (by omega)
 have hg2 := fun A n c W hn hx => signed_any false A n c R0 W hn hx (by omega)
 simp only [if_neg (show ¬ (false = true) by decide)] at hg2
 rw [← hv.1] at hg1
 rw [← hv.2] at hg2
 obtain ⟨sg1, S1, e1⟩ := wv_agg (wint true s / wint y t)
 obtain ⟨sg2, S2, e2⟩ := wv_agg (wint true s % wint y t)
 rw [e1] at hg1
 rw [e2] at hg2
 rw [e1, e2]
 have HR0 := Lib.hid (And.intro hR0 hc)
 generalize (wint y t).sign = sgn at *
 generalize wint true s = sv at hp
 have HSI := Lib.hid hsi
 have HP := Lib.hid hp
 have HS := Lib.hid hps
 have HT := Lib.hid hpt
 have HG1 := Lib.hid hg1
 have HG2 := Lib.hid hg2
 have HQ := Lib.hid hq
 clear hsi hp hps hpt hg1 hg2 hv e1 e2 hK0 hR0 hc hN hM hb hq
 have HV := Lib.hid (Vars.start4 w true y false false s t ⟨#[]⟩ ⟨#[]⟩)
 go_enter Tryz.func73, Tryz.ntmps73
 go_wp2_with fail
 with_reducible refine (HSI.out _).mono ?_
 rintro e w1 ⟨rfl, hb1⟩
 have hV1 := Lib.hid (HV.out.step hb1)
 have hc0 := (hV1.out.at_ 0 rfl).cell0
 have hc1 := (hV1.out.at_ 0 rfl).cell1
 rw [Nat.add_zero] at hc0 hc1
 go_wp2_with fail
 with_reducible refine (HP.out _).mono ?_
 rintro e w2 ⟨rfl, hb2⟩
 have hV2 := Lib.hid (hV1.out.step hb2)
 clear hc0 hc1 hb1
 have hc0 := (hV2.out.at_ 1 rfl).cell0
 have hc1 := (hV2.out.at_ 1 rfl).cell1
 go_wp2_with fail
 with_reducible refine (HQ.out _).mono ?_
 rintro e w3 ⟨rfl, hb3⟩
 have hV3 := Lib.hid (hV2.out.step hb3)
 clear hc0 hc1 hb2
 have hc1 := (hV3.out.at_ 1 rfl).cell1
 go_wp2_with fail
 with_reducible refine (HT.out _).mono ?_
 rintro e w4 ⟨A1, n1, c1, rfl, hn1, hcc1, hcm1, hr1, hb4⟩
 have hV4 := Lib.hid (hV3.out.step hb4)
 clear hc1 hb3
 have hc1 := (hV4.out.at_ 0 rfl).cell1
 rw [Nat.add_zero] at hc1
 go_wp2_with fail
 with_reducible refine (HS.out _).mono ?_
 rintro e w5 ⟨A2, n2, c2, rfl, hn2, hcc2, hcm2, hr2, hb5⟩
 have hV5 := Lib.hid (hV4.out.step hb5)
 have hr1' := hr1.below hb5
 clear hc1
 go_wp2_with fail
 with_reducible refine (HDIV.out A2 A1 n2 n1 c2 c1 w5 hn2 hn1 hr2 hr1' (by omega) hcc2 hcm2 hcc1 hcm1).mono ?_
 rintro e w6 ⟨C, D, nq, nr, cq, cr, rfl, hnq, hnr, hrq, hrr, hb6⟩
 have hV6 := Lib.hid (hV5.out.step hb6)
 have hr1'' := hr1'.below hb6
 clear hr1 hr1' hr2 hb4 hb5
 have hc0 := (hV6.out.at_ 0 rfl).cell0
 have hd0 := (hV6.out.at_ 1 rfl).cell0
 rw [Nat.add_zero] at hc0
 have Hnq := Lib.hid hnq
 have Hnr := Lib.hid hnr
 have Hn1 := Lib.hid hn1
 clear hnq hnr hn1 hn2
 obtain rfl : nr = 0 := by rw [← Hnr.out, show R0 = 0 from HR0.out.1.symm.trans HR0.out.2, limbs_zero]; rfl
 go_wp2_with fail
 with_reducible refine (HG1.out _ _ _ _ Hnq.out hrq).mono ?_
 rintro e w8 ⟨rfl, hb8⟩
 have hV8 := Lib.hid (hV6.out.step hb8)
 have hrr2 := hrr.below hb8
 go_wp2_with fail
 with_reducible refine (HG2.out _ _ _ _ Hnr.out hrr2).mono ?_
 rintro e w9 ⟨rfl, hb9⟩
 have hV9 := hV8.out.step hb9
 clear hb8 hb9 hc0 hd0
 have hz0 := (hV9.at_ 2 rfl).cell0
 have hz1 := (hV9.at_ 2 rfl).cell1
 have hzf0 := (hV9.at_ 2 rfl).frozen 0
 have hzf1 := (hV9.at_ 2 rfl).frozen 1
 have hz2 := (hV9.at_ 3 rfl).cell0
 have hz3 := (hV9.at_ 3 rfl).cell1
 have hzf2 := (hV9.at_ 3 rfl).frozen 0
 have hzf3 := (hV9.at_ 3 rfl).frozen 1
 have hV10 := (hV9.put 2 rfl sg1 S1).put 3 rfl sg2 S2
 go_wp2
 exact post_wide_wide_tmp (b := w.heap.size + 2) (c := w.heap.size + 3) rfl rfl rfl (hV10.at_ 2 rfl) (hV10.at_ 3 rfl) rfl ⟨rfl, hV10.1⟩
set_option maxRecDepth 100000 in
set_option maxHeartbeats 4000000 in
theorem Quo_B_more (y : Bool) (s t : ByteArray) (w : World) (hs : s.size ≤ 4398046511104) (ht : t.size ≤ 4398046511104) (hsm : s.size ≤ 7) (hbig : 7 < t.size) (hb : wint y t ≠ 0) (hc : bval s.data.toList % bval t.data.toList ≠ 0) :
  Calls Tryz.prog 73 #[.agg #[.bool true, .string s], .agg #[.bool y, .string t]] w fun e w' => e = .returned (.tuple #[wv (wint true s / wint y t), wv (wint true s % wint y t), .bool true]) ∧ Below w.heap.size w w' := by
 have hsi := fun W => Sign_any y t W (by unfold maxLen; omega)
 have hsz : ((wint y t).sign == 0) = false := by simpa using hb
 have hp := fun W => small_yes true s W hsm
 have hq := fun W => small_no y t W hbig (by unfold maxLen; omega)
 have l1 := bval_limbs_length s 549755813888 (by omega)
 have l2 := bval_limbs_length t 549755813888 (by omega)
 obtain ⟨N, hN⟩ : ∃ N, bval s.data.toList = N := ⟨_, rfl⟩
 obtain ⟨M, hM⟩ : ∃ M, bval t.data.toList = M := ⟨_, rfl⟩
 rw [hN] at hc l1
 rw [hM] at hc l2
 have hM0 : 0 < M := by
  refine Nat.pos_of_ne_zero fun h => hb ?_
  cases y
  ·rw [wint_false, hM, h]; rfl
  ·rw [wint_true, hM, h]; rfl
 have hps := fun W => partsOf_rd2 s W hs N hN
 have hpt := fun W => partsOf_rd2 t W ht M hM
 obtain ⟨K0, hK0⟩ : ∃ K, N / M = K := ⟨_, rfl⟩
 obtain ⟨R0, hR0⟩ : ∃ R, N % M = R := ⟨_, rfl⟩
 have hKl : (limbs K0).length ≤ 549755813888 := Nat.le_trans (limbs_length_mono (by rw [← hK0]; exact Nat.div_le_self _ _)) l1
 have hRl : (limbs R0).length ≤ 549755813888 := Nat.le_trans (limbs_length_mono (by rw [← hR0]; exact Nat.mod_le _ _)) l1
 have hRM : R0 < M := by rw [← hR0]; exact Nat.mod_lt _ hM0
 have HDIV := Lib.hid (fun A B n m ca cb W hn hm hx hy nn hca hcma hcb hcm => divide_rd A B n m ca cb N M W hn hm hM0 hx hy nn hca hcma hcb hcm K0 R0 hK0 hR0)
 have hv := quo_more y s t N M (K0 + 1) (M - R0) hN hM hM0 hc (by rw [hK0]) (by rw [hR0])
 have hKl2 := limbs_add_length hKl (show (limbs 1).length ≤ 549755813888 by rw [limbs_step 1 (by omega), show 1 / B64 = 0 from rfl, limbs_zero]; simp)
 have hRl2 : (limbs (M - R0)).length ≤ 549755813888 := Nat.le_trans (limbs_length_mono (by omega)) l2
 rw [show (true != y) = (!y) from by cases y <;> rfl] at hv
 have hg1 := fun A n c W hn hx => signed_any (!y) A n c (K0 + 1) W hn hx (by omega)
 have hg2 := fun A n c W hn hx => signed_any false A n c (M - R0) W hn hx (by omega)
 simp only [if_neg (show ¬ (false = true) by decide)] at hg2
 rw [← hv.1] at hg1
 rw [← hv.2] at hg2
 obtain ⟨sg1, S1, e1⟩ := wv_agg (wint true s / wint y t)
 obtain ⟨sg2, S2, e2⟩ := wv_agg (wint true s % wint y t)
 rw [e1] at hg1
 rw [e2] at hg2
 rw [e1, e2]
 have HR0 := Lib.hid (And.intro hR0 hc)
 generalize (wint y t).sign = sgn at *
 generalize wint true s = sv at hp
 have HSI := Lib.hid hsi
 have HP := Lib.hid hp
 have HS := Lib.hid hps
 have HT := Lib.hid hpt
 have HG1 := Lib.hid hg1
 have HG2 := Lib.hid hg2
 have HQ := Lib.hid hq
 clear hsi hp hps hpt hg1 hg2 hv e1 e2 hK0 hR0 hc hN hM hb hq
 have HV := Lib.hid (Vars.start4 w true y false false s t ⟨#[]⟩ ⟨#[]⟩)
 go_enter Tryz.func73, Tryz.ntmps73
 go_wp2_with fail
 with_reducible refine (HSI.out _).mono ?_
 rintro e w1 ⟨rfl, hb1⟩
 have hV1 := Lib.hid (HV.out.step hb1)
 have hc0 := (hV1.out.at_ 0 rfl).cell0
 have hc1 := (hV1.out.at_ 0 rfl).cell1
 rw [Nat.add_zero] at hc0 hc1
 go_wp2_with fail
 with_reducible refine (HP.out _).mono ?_
 rintro e w2 ⟨rfl, hb2⟩
 have hV2 := Lib.hid (hV1.out.step hb2)
 clear hc0 hc1 hb1
 have hc0 := (hV2.out.at_ 1 rfl).cell0
 have hc1 := (hV2.out.at_ 1 rfl).cell1
 go_wp2_with fail
 with_reducible refine (HQ.out _).mono ?_
 rintro e w3 ⟨rfl, hb3⟩
 have hV3 := Lib.hid (hV2.out.step hb3)
 clear hc0 hc1 hb2
 have hc1 := (hV3.out.at_ 1 rfl).cell1
 go_wp2_with fail
 with_reducible refine (HT.out _).mono ?_
 rintro e w4 ⟨A1, n1, c1, rfl, hn1, hcc1, hcm1, hr1, hb4⟩
 have hV4 := Lib.hid (hV3.out.step hb4)
 clear hc1 hb3
 have hc1 := (hV4.out.at_ 0 rfl).cell1
 rw [Nat.add_zero] at hc1
 go_wp2_with fail
 with_reducible refine (HS.out _).mono ?_
 rintro e w5 ⟨A2, n2, c2, rfl, hn2, hcc2, hcm2, hr2, hb5⟩
 have hV5 := Lib.hid (hV4.out.step hb5)
 have hr1' := hr1.below hb5
 clear hc1
 go_wp2_with fail
 with_reducible refine (HDIV.out A2 A1 n2 n1 c2 c1 w5 hn2 hn1 hr2 hr1' (by omega) hcc2 hcm2 hcc1 hcm1).mono ?_
 rintro e w6 ⟨C, D, nq, nr, cq, cr, rfl, hnq, hnr, hrq, hrr, hb6⟩
 have hV6 := Lib.hid (hV5.out.step hb6)
 have hr1'' := hr1'.below hb6
 clear hr1 hr1' hr2 hb4 hb5
 have hc0 := (hV6.out.at_ 0 rfl).cell0
 have hd0 := (hV6.out.at_ 1 rfl).cell0
 rw [Nat.add_zero] at hc0
 have Hnq := Lib.hid hnq
 have Hnr := Lib.hid hnr
 have Hn1 := Lib.hid hn1
 clear hnq hnr hn1 hn2
 have hnr0 : 0 < nr := by
  refine Nat.pos_of_ne_zero fun h => ?_
  have h0 := limbs_eq_nil.1 (List.length_eq_zero_iff.1 (Hnr.out.trans h))
  exact HR0.out.2 (HR0.out.1.trans h0)
 go_wp2_with fail
 have hL1 : Lst (w6.alloc (.cells #[.int .u64 1] 80)) w6.heap.size [1] := Lst.new w6 [1]
 have hB1 : Below w6.heap.size w6 (w6.alloc (.cells #[.int .u64 1] 80)) := (Below.refl _ _).alloc (Nat.le_refl _) _
 have hl1 : limbs 1 = [1] := rfl
 have hr1d : RdA (w6.alloc (.cells #[.int .u64 1] 80)) (some ⟨w6.heap.size, 0, none⟩) (limbs 1) := by rw [hl1]; exact hL1.rd
 have hV6b := Lib.hid (hV6.out.step hB1)
 have hrqb := hrq.below hB1
 have hrrb := hrr.below hB1
 have hr1b := hr1''.below hB1
 clear hrq hrr hr1'' hV6 hL1 hc0 hd0
 generalize w6.alloc (.cells #[.int .u64 1] 80) = W6 at *
 with_reducible refine (sum_rd C (some ⟨w6.heap.size, 0, none⟩) nq 1 cq 1 K0 1 W6 Hnq.out (by rw [hl1, List.length_singleton]) hrqb hr1d (by rw [← Hnq.out]; omega) (by omega)).mono ?_
 rintro e w7 ⟨E, ne, ce, rfl, hne, _, hre, hb7⟩
 have hV7 := Lib.hid (hV6b.out.step hb7)
 have hrr7 := hrrb.below hb7
 have hr17 := hr1b.below hb7
 clear hrqb hrrb hr1b hr1d hb7
 go_wp2_with fail
 with_reducible refine (difference_rd A1 D n1 nr c1 cr M R0 w7 Hn1.out Hnr.out hr17 hrr7 (by rw [← Hn1.out]; omega) (by omega)).mono ?_
 rintro e w7b ⟨F, nf, cf, rfl, hnf, _, hrf, hb7b⟩
 have hV7b := Lib.hid (hV7.out.step hb7b)
 have hre2 := hre.below hb7b
 clear hre hb7b hr17 hrr7
 have hc0 := (hV7b.out.at_ 0 rfl).cell0
 have hd0 := (hV7b.out.at_ 1 rfl).cell0
 rw [Nat.add_zero] at hc0
 go_wp2_with fail
 with_reducible refine (HG1.out _ _ _ _ hne hre2).mono ?_
 rintro e w8 ⟨rfl, hb8⟩
 have hV8 := Lib.hid (hV7b.out.step hb8)
 have hrr2 := hrf.below hb8
 go_wp2_with fail
 with_reducible refine (HG2.out _ _ _ _ hnf hrr2).mono ?_
 rintro e w9 ⟨rfl, hb9⟩
 have hV9 := hV8.out.step hb9
 clear hb8 hb9 hc0 hd0
 have hz0 := (hV9.at_ 2 rfl).cell0
 have hz1 := (hV9.at_ 2 rfl).cell1
 have hzf0 := (hV9.at_ 2 rfl).frozen 0
 have hzf1 := (hV9.at_ 2 rfl).frozen 1
 have hz2 := (hV9.at_ 3 rfl).cell0
 have hz3 := (hV9.at_ 3 rfl).cell1
 have hzf2 := (hV9.at_ 3 rfl).frozen 0
 have hzf3 := (hV9.at_ 3 rfl).frozen 1
 have hV10 := (hV9.put 2 rfl sg1 S1).put 3 rfl sg2 S2
 go_wp2
 exact post_wide_wide_tmp (b := w.heap.size + 2) (c := w.heap.size + 3) rfl rfl rfl (hV10.at_ 2 rfl) (hV10.at_ 3 rfl) rfl ⟨rfl, hV10.1⟩
theorem Quo_any (x y : Bool) (s t : ByteArray) (w : World) (hs : s.size ≤ 4398046511104) (ht : t.size ≤ 4398046511104) (hb : wint y t ≠ 0) :
  Calls Tryz.prog 73 #[.agg #[.bool x, .string s], .agg #[.bool y, .string t]] w fun e w' => e = .returned (.tuple #[wv (wint x s / wint y t), wv (wint x s % wint y t), .bool true]) ∧ Below w.heap.size w w' := by
 by_cases h1 : s.size ≤ 7
 ·by_cases h2 : t.size ≤ 7
  ·exact Quo_small x y s t w h1 h2 hb
  ·cases x
   ·exact Quo_B_pos y s t w hs ht h1 (by omega) hb trivial
   ·by_cases h : bval s.data.toList % bval t.data.toList = 0
    ·exact Quo_B_zero y s t w hs ht h1 (by omega) hb h
    ·exact Quo_B_more y s t w hs ht h1 (by omega) hb h
 ·cases x
  ·exact Quo_A_pos y s t w hs ht (by omega) hb trivial
  ·by_cases h : bval s.data.toList % bval t.data.toList = 0
   ·exact Quo_A_zero y s t w hs ht (by omega) hb h
   ·exact Quo_A_more y s t w hs ht (by omega) hb h
end Go.Proofs.YtknaghdoffigjaaGreatDoor
