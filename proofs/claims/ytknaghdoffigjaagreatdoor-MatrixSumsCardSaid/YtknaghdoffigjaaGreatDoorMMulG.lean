import Derived.Test.YtknaghdoffigjaaGreatDoorMMulW
import Derived.Test.YtknaghdoffigjaaGreatDoorZMInvV
import Derived.Test.YtknaghdoffigjaaGreatDoorZRDig
set_option linter.unusedSimpArgs false
set_option linter.unusedVariables false
set_option linter.unnecessarySimpa false
namespace Go.Proofs.YtknaghdoffigjaaGreatDoor
open Go.RowKit Go
attribute [local go_sem] Oper.semAt_some
theorem bitLen_le (f x : Nat) : Lib.bitLenAux f x ≤ f := by
 induction f generalizing x with
 | zero => simp [Lib.bitLenAux]
 | succ f ih =>
  unfold Lib.bitLenAux
  split
  ·omega
  ·have := ih (x / 2)
   omega
theorem maxB_le (zs : List Int) (k : Nat) : maxB zs k ≤ 64 := by
 induction k with
 | zero => simp [maxB]
 | succ k ih =>
  unfold maxB
  have : nbit (zs.getD k 0) ≤ 64 := bitLen_le 64 _
  omega
noncomputable def lenI (zs : List Int) (n : Nat) : Nat := open Classical in if ∀ j, j < n → fitI (zs.getD j 0) then maxB zs n else 64
theorem lenI_le (zs : List Int) (n : Nat) : lenI zs n ≤ 64 := by
 unfold lenI
 split
 ·exact maxB_le zs n
 ·omega
theorem ints_len (gA n cap : Nat) (zs : List Int) (w : World) (hA : Lw w gA (enc zs)) (hn : zs.length = n) (hn2 : n ≤ 40000) (hz : ∀ j, (wmag (zs.getD j 0)).size ≤ 1000) :
  Calls Tryz.prog 129 #[.slice (some ⟨gA, 0, none⟩) n cap] w fun e w' => ∃ A N, e = .returned (.tuple #[.slice A N N, .int .i64 (lenI zs n : Nat)]) ∧ Below w.heap.size w w' := by
 refine (ints_any gA n cap zs w hA hn hn2 hz).mono ?_
 rintro e w' ⟨hb, h1, h2⟩
 by_cases h : ∀ j, j < n → fitI (zs.getD j 0)
 ·obtain ⟨g, rfl, _, _⟩ := h1 h
  exact ⟨some ⟨g, 0, none⟩, n, by unfold lenI; rw [if_pos h], hb⟩
 ·have h3 : ∃ j, j < n ∧ ¬ fitI (zs.getD j 0) := by
   apply Classical.byContradiction
   intro hc
   exact h fun j hj => Classical.byContradiction fun hf => hc ⟨j, hj, hf⟩
  refine ⟨none, 0, ?_, hb⟩
  rw [h2 h3]
  unfold lenI
  rw [if_neg h]
  rfl
theorem bits_over (lx ly lm : Nat) (h1 : lx ≤ 64) (h2 : ly ≤ 64) (h3 : lm ≤ 64) (h : 64 ≤ lx + ly + lm) : wrap64 ((lx : Int) + (ly : Int)) = (lx : Int) + (ly : Int) ∧ wrap64 ((lx : Int) + (ly : Int) + (lm : Int)) = (lx : Int) + (ly : Int) + (lm : Int) ∧ decide ((lx : Int) + (ly : Int) + (lm : Int) ≥ 64) = true :=
 ⟨IntWalk.wrap64_in _ (by omega), IntWalk.wrap64_in _ (by omega), by rw [decide_eq_true_iff]; omega⟩
set_option maxRecDepth 100000 in
set_option maxHeartbeats 4000000 in
theorem multiplySmall_no (ga gb r m c na nb capa capb NN : Nat) (xs ys : List Int) (w : World) (hA : Lw w ga (enc xs)) (hB : Lw w gb (enc ys)) (hxl : xs.length = r * m) (hyl : ys.length = m * c) (hna : na = r * m) (hnb : nb = m * c) (hr : r ≤ 200) (hm : m ≤ 200) (hc : c ≤ 200) (hNN : r * c = NN) (hsx : ∀ q, (wmag (xs.getD q 0)).size ≤ 100) (hsy : ∀ q, (wmag (ys.getD q 0)).size ≤ 100) (hbit : 64 ≤ lenI xs na + lenI ys nb + Lib.bitLen m) :
  Calls Tryz.prog 93 #[mat r m (some ⟨ga, 0, none⟩) na capa, mat m c (some ⟨gb, 0, none⟩) nb capb] w fun e w' => e = .returned (.tuple #[mat 0 0 none 0 0, .bool false]) ∧ Below w.heap.size w w' := by
 have h1 : r * m ≤ 40000 := Nat.le_trans (Nat.mul_le_mul hr hm) (by omega)
 have h2 : m * c ≤ 40000 := Nat.le_trans (Nat.mul_le_mul hm hc) (by omega)
 have hi1 := fun W hW => ints_len ga na capa xs W hW (by omega) (by omega) (fun j => Nat.le_trans (hsx j) (by omega))
 have hi2 := fun W hW => ints_len gb nb capb ys W hW (by omega) (by omega) (fun j => Nat.le_trans (hsy j) (by omega))
 have hbl := fun W => Tryz.bits_Len (m : Int) W (by omega) (by omega)
 simp only [Int.toNat_natCast] at hbl
 have hx64 := lenI_le xs na
 have hy64 := lenI_le ys nb
 have hm64 : Lib.bitLen m ≤ 64 := bitLen_le 64 m
 obtain ⟨lx, hlx⟩ : ∃ lx, lx = lenI xs na := ⟨_, rfl⟩
 obtain ⟨ly, hly⟩ : ∃ ly, ly = lenI ys nb := ⟨_, rfl⟩
 rw [← hlx] at hi1 hbit hx64
 rw [← hly] at hi2 hbit hy64
 obtain ⟨lm, hlm⟩ : ∃ lm, lm = Lib.bitLen m := ⟨_, rfl⟩
 rw [← hlm] at hbl hbit hm64
 unfold mat at *
 have HI1 := Lib.hid hi1
 have HI2 := Lib.hid hi2
 have HBL := Lib.hid hbl
 have HA := Lib.hid hA
 have HB := Lib.hid hB
 have hga := heap_lt hA
 have hgb := heap_lt hB
 clear hi1 hi2 hbl hA hB hxl hyl hna hnb hNN hlx hly hlm hsx hsy h1 h2
 obtain ⟨w1, w2, w4⟩ := bits_over lx ly lm hx64 hy64 hm64 hbit
 have w3 : IntKind.u64.wrap (m : Int) = m := IntWalk.u64_in _ (by omega)
 have W1 := Lib.hid w1
 have W2' := Lib.hid (show wrap64 (wrap64 ((lx : Int) + (ly : Int)) + (lm : Int)) = (lx : Int) + (ly : Int) + (lm : Int) from by rw [w1, w2])
 clear w1 w2 hx64 hy64 hm64
 have hK1 := ((Kg.none_ none w 3).new 0 (mrow r m (some ⟨ga, 0, none⟩) na capa) rfl).new 1 (mrow m c (some ⟨gb, 0, none⟩) nb capb) rfl
 have HK2 := Lib.hid ((hK1.new 2 (mrow 0 0 none 0 0) rfl).cast (l' := [some (w.heap.size, mrow r m (some ⟨ga, 0, none⟩) na capa), some (w.heap.size + 1, mrow m c (some ⟨gb, 0, none⟩) nb capb), some (w.heap.size + 1 + 1, mrow 0 0 none 0 0)]) (by simp))
 have hAs : ∀ W l, Kg none w W l → Lw W ga (enc xs) ∧ Lw W gb (enc ys) := fun W l h => ⟨(h.1.block ga hga (by simp)).trans HA.out, (h.1.block gb hgb (by simp)).trans HB.out⟩
 have HAS := Lib.hid hAs
 have c0 := HK2.out.cell 0 2 rfl rfl
 clear hK1 hAs
 go_enter Tryz.func93, Tryz.ntmps93
 go_wp2_with fail
 change Calls _ _ _ (((w.alloc (mrow r m (some ⟨ga, 0, none⟩) na capa)).alloc (mrow m c (some ⟨gb, 0, none⟩) nb capb)).alloc (mrow 0 0 none 0 0)) _
 generalize ((w.alloc (mrow r m (some ⟨ga, 0, none⟩) na capa)).alloc (mrow m c (some ⟨gb, 0, none⟩) nb capb)).alloc (mrow 0 0 none 0 0) = W2 at *
 with_reducible refine (HI1.out _ (HAS.out _ _ HK2.out).1).mono ?_
 rintro e w3' ⟨Ax, nx, rfl, hb3⟩
 have HK3 := Lib.hid (HK2.out.step hb3)
 clear c0 hb3 HK2
 have c0 := HK3.out.cell 1 2 rfl rfl
 go_wp2_with fail
 with_reducible refine (HI2.out _ (HAS.out _ _ HK3.out).2).mono ?_
 rintro e w4' ⟨Ay, ny, rfl, hb4⟩
 have HK4 := Lib.hid (HK3.out.step hb4)
 clear c0 hb4 HK3
 have c1 := HK4.out.cell 0 1 rfl rfl
 go_wp2_with fail
 with_reducible refine (HBL.out _).mono ?_
 rintro e w5 ⟨rfl, rfl⟩
 clear c1
 have w2 := W2'.out
 have f0 := HK4.out.frozen 2 0 rfl
 have f1 := HK4.out.frozen 2 1 rfl
 have f2 := HK4.out.frozen 2 2 rfl
 have g0 := HK4.out.cell 2 0 rfl rfl
 have g1 := HK4.out.cell 2 1 rfl rfl
 have g2 := HK4.out.cell 2 2 rfl rfl
 go_wp2_with fail
 have hP := ((HK4.out.put 2 0 rfl (.int .i64 0)).put 2 1 rfl (.int .i64 0)).put 2 2 rfl (.slice none 0 0)
 exact bodyPost_ret (results_mat_tmp (b := w.heap.size + 1 + 1) rfl rfl (hP.at_ 2 rfl)) rfl ⟨rfl, ⟨hP.1.os, hP.1.tape, hP.1.output, hP.1.size, fun i hi => hP.1.block i hi (by simp)⟩⟩
set_option maxRecDepth 100000 in
set_option maxHeartbeats 4000000 in
theorem Mul_wides (ga gb r m c na nb capa capb NN : Nat) (xs ys : List Int) (w : World) (hA : Lw w ga (enc xs)) (hB : Lw w gb (enc ys)) (hxl : xs.length = r * m) (hyl : ys.length = m * c) (hna : na = r * m) (hnb : nb = m * c) (hr : r ≤ 200) (hm : m ≤ 200) (hc : c ≤ 200) (hNN : r * c = NN) (hca : na ≤ capa) (hcb : nb ≤ capb) (hma : capa ≤ maxLen) (hmb : capb ≤ maxLen) (hra : mright r m (enc xs) = true) (hrb : mright m c (enc ys) = true) (hsx : ∀ q, (wmag (xs.getD q 0)).size ≤ 100) (hsy : ∀ q, (wmag (ys.getD q 0)).size ≤ 100) (hbit : 64 ≤ lenI xs na + lenI ys nb + Lib.bitLen m) :
  Calls Tryz.prog 43 #[mat r m (some ⟨ga, 0, none⟩) na capa, mat m c (some ⟨gb, 0, none⟩) nb capb] w fun e w' => ∃ g, e = .returned (.tuple #[mat r c (some ⟨g, 0, none⟩) NN NN, .bool true]) ∧ w.heap.size ≤ g ∧ Lw w' g (enc (mulL xs ys r m c)) ∧ Below w.heap.size w w' := by
 have h1 : r * m ≤ 40000 := Nat.le_trans (Nat.mul_le_mul hr hm) (by omega)
 have h2 : m * c ≤ 40000 := Nat.le_trans (Nat.mul_le_mul hm hc) (by omega)
 have hr1 := fun W hW => Right_any (r : Int) (m : Int) (some ⟨ga, 0, none⟩) na capa (enc xs) W hW (by rw [enc_length, hxl, hna]) (by unfold maxLen; omega)
 have hr2 := fun W hW => Right_any (m : Int) (c : Int) (some ⟨gb, 0, none⟩) nb capb (enc ys) W hW (by rw [enc_length, hyl, hnb]) (by unfold maxLen; omega)
 rw [hra] at hr1
 rw [hrb] at hr2
 have hms := fun W hWa hWb => multiplySmall_no ga gb r m c na nb capa capb NN xs ys W hWa hWb hxl hyl hna hnb hr hm hc hNN hsx hsy hbit
 have hmw := fun W hWa hWb => multiply_wide ga gb r m c na nb capa capb NN xs ys W hWa hWb hxl hyl hr hm hc (by omega) (by omega) hma hmb hNN hsx hsy
 have hto := fun W => tableOf_any (r : Int) (m : Int) (some ⟨ga, 0, none⟩) na capa W
 have htp := fun W => tableOf_any (m : Int) (c : Int) (some ⟨gb, 0, none⟩) nb capb W
 have hmo := fun g W => matrixOf_any (r : Int) (c : Int) (some ⟨g, 0, none⟩) NN NN W
 unfold mat at *
 have HR1 := Lib.hid hr1
 have HR2 := Lib.hid hr2
 have HMS := Lib.hid hms
 have HMW := Lib.hid hmw
 have HTO := Lib.hid hto
 have HTP := Lib.hid htp
 have HMO := Lib.hid hmo
 have HA := Lib.hid hA
 have HB := Lib.hid hB
 have hga := heap_lt hA
 have hgb := heap_lt hB
 obtain ⟨zz, hzz⟩ : ∃ zz, zz = mulL xs ys r m c := ⟨_, rfl⟩
 rw [← hzz] at HMW ⊢
 clear hr1 hr2 hms hmw hto htp hmo hA hB hxl hyl hna hnb hNN hra hrb hsx hsy hbit h1 h2 hzz hca hcb hma hmb
 have hK1 := ((Kg.none_ none w 3).new 0 (mrow r m (some ⟨ga, 0, none⟩) na capa) rfl).new 1 (mrow m c (some ⟨gb, 0, none⟩) nb capb) rfl
 have HK2 := Lib.hid ((hK1.new 2 (mrow 0 0 none 0 0) rfl).cast (l' := [some (w.heap.size, mrow r m (some ⟨ga, 0, none⟩) na capa), some (w.heap.size + 1, mrow m c (some ⟨gb, 0, none⟩) nb capb), some (w.heap.size + 1 + 1, mrow 0 0 none 0 0)]) (by simp))
 have hAs : ∀ W l, Kg none w W l → Lw W ga (enc xs) ∧ Lw W gb (enc ys) := fun W l h => ⟨(h.1.block ga hga (by simp)).trans HA.out, (h.1.block gb hgb (by simp)).trans HB.out⟩
 have HAS := Lib.hid hAs
 have c0 := HK2.out.cell 0 0 rfl rfl
 have c1 := HK2.out.cell 0 1 rfl rfl
 have c2 := HK2.out.cell 0 2 rfl rfl
 clear hK1 hAs
 have hmm : ((m : Int) != (m : Int)) = false := by simp
 go_enter Tryz.func43, Tryz.ntmps43
 go_wp2_with fail
 change Calls _ _ _ (((w.alloc (mrow r m (some ⟨ga, 0, none⟩) na capa)).alloc (mrow m c (some ⟨gb, 0, none⟩) nb capb)).alloc (mrow 0 0 none 0 0)) _
 generalize ((w.alloc (mrow r m (some ⟨ga, 0, none⟩) na capa)).alloc (mrow m c (some ⟨gb, 0, none⟩) nb capb)).alloc (mrow 0 0 none 0 0) = W2 at *
 with_reducible refine (HR1.out _ (HAS.out _ _ HK2.out).1.rdw).mono ?_
 rintro e w3 ⟨rfl, hb3⟩
 have HK3 := Lib.hid (HK2.out.step hb3)
 clear c0 c1 c2 hb3 HK2
 have c0 := HK3.out.cell 1 0 rfl rfl
 have c1 := HK3.out.cell 1 1 rfl rfl
 have c2 := HK3.out.cell 1 2 rfl rfl
 go_wp2_with fail
 with_reducible refine (HR2.out _ (HAS.out _ _ HK3.out).2.rdw).mono ?_
 rintro e w4 ⟨rfl, hb4⟩
 have HK4 := Lib.hid (HK3.out.step hb4)
 clear c0 c1 c2 hb4 HK3
 have c0 := HK4.out.cell 1 0 rfl rfl
 have c1 := HK4.out.cell 1 1 rfl rfl
 have c2 := HK4.out.cell 1 2 rfl rfl
 have c3 := HK4.out.cell 0 0 rfl rfl
 have c4 := HK4.out.cell 0 1 rfl rfl
 have c5 := HK4.out.cell 0 2 rfl rfl
 go_wp2_with fail
 with_reducible refine (HMS.out _ (HAS.out _ _ HK4.out).1 (HAS.out _ _ HK4.out).2).mono ?_
 rintro e w5 ⟨rfl, hb5⟩
 have HK5 := Lib.hid (show Kg none w (w5.alloc (mrow 0 0 none 0 0)) [some (w.heap.size, mrow r m (some ⟨ga, 0, none⟩) na capa), some (w.heap.size + 1, mrow m c (some ⟨gb, 0, none⟩) nb capb), some (w.heap.size + 1 + 1, mrow 0 0 none 0 0), some (w5.heap.size, mrow 0 0 none 0 0)] from (HK4.out.step hb5).more (mrow 0 0 none 0 0))
 clear c0 c1 c2 c3 c4 c5 hb5 HK4
 go_wp2_with fail
 change Code.wp _ _ _ _ (w5.alloc (mrow 0 0 none 0 0))
 generalize w5.alloc (mrow 0 0 none 0 0) = W6 at *
 generalize w5.heap.size = b6 at *
 refine wp_region_acts (X := Nat) (fun x => [(0, 32, .agg #[.int .i64 (r : Int), .int .i64 (m : Int), .slice (some ⟨ga, 0, none⟩) na capa]), (1, 33, .agg #[.int .i64 (r : Int), .int .i64 (m : Int), .slice (some ⟨ga, 0, none⟩) na capa]), (2, 34, .agg #[.int .i64 (m : Int), .int .i64 (c : Int), .slice (some ⟨gb, 0, none⟩) nb capb]), (3, 35, .agg #[.int .i64 (m : Int), .int .i64 (c : Int), .slice (some ⟨gb, 0, none⟩) nb capb]), (4, 36, .agg #[.int .i64 (r : Int), .int .i64 (c : Int), .slice (some ⟨x, 0, none⟩) NN NN]), (5, 37, .agg #[.int .i64 (r : Int), .int .i64 (c : Int), .slice (some ⟨x, 0, none⟩) NN NN]), (7, 5, .bool true)])
  (fun x L W => Kg none w W [some (w.heap.size, mrow r m (some ⟨ga, 0, none⟩) na capa), some (w.heap.size + 1, mrow m c (some ⟨gb, 0, none⟩) nb capb), some (w.heap.size + 1 + 1, if L 6 = true then mrow r c (some ⟨x, 0, none⟩) NN NN else mrow 0 0 none 0 0), some (b6, mrow 0 0 none 0 0), entO (L 4) x (lwO (enc zz))]) (by kernel_rfl) (by kernel_rfl) 0 ?st (by kernel_rfl) ?_ ?_
 case st => simpa [entO_no] using HK5.out.drew.room
 ·simp only [selA, selT_cons, selT_nil, List.set_cons_zero, List.set_cons_succ, List.getD_cons_zero, List.getD_cons_succ]
  repeat' (first | exact ActSteps.nil | refine ActSteps.cons ?_ ?_)
  all_goals
   intro L x wx hJ hl hd hs K hK
   (try simp [Region.binds] at hd)
   have e0 := hJ.cell 0 0 rfl rfl
   have e1 := hJ.cell 0 1 rfl rfl
   have e2 := hJ.cell 0 2 rfl rfl
   have e3 := hJ.cell 1 0 rfl rfl
   have e4 := hJ.cell 1 1 rfl rfl
   have e5 := hJ.cell 1 2 rfl rfl
   try simp only [hd, hl, selV_true, selV_false]
  ·go_simp
   refine hK.out x _ _ ?_ ?_
   ·simp [hl, hd, selV_true, selV_false]
   ·exact hJ
  ·go_simp
   with_reducible refine (HTO.out _).mono ?_
   rintro e v ⟨rfl, hb⟩
   refine hK.out x _ _ ?_ ?_
   ·simp [hl, hd, selV_true, selV_false]
   ·exact hJ.step hb
  ·go_simp
   refine hK.out x _ _ ?_ ?_
   ·simp [hl, hd, selV_true, selV_false]
   ·exact hJ
  ·go_simp
   with_reducible refine (HTP.out _).mono ?_
   rintro e v ⟨rfl, hb⟩
   refine hK.out x _ _ ?_ ?_
   ·simp [hl, hd, selV_true, selV_false]
   ·exact hJ.step hb
  ·have hn5 := hs 5 _ rfl (by simp [Region.binds])
   have hn6 := hs 6 _ rfl (by simp [Region.binds])
   have hB := hJ
   simp only [hn6, hl, Bool.false_eq_true, if_false, entO_no] at hB
   obtain ⟨hxa, hxb⟩ := HAS.out _ _ hB
   go_simp
   with_reducible refine (HMW.out _ hxa hxb).mono ?_
   rintro e v ⟨h, rfl, hh, hLh, hb⟩
   refine hK.out h _ _ ?_ ?_
   ·simp [hl, hd, hn5, hn6, selV_true, selV_false]
   ·exact (hB.came 4 rfl hb hh (o := lwO (enc zz)) hLh).cast (by simp [hn6, entO_yes])
  ·go_simp
   with_reducible refine (HMO.out x _).mono ?_
   rintro e v ⟨rfl, hb⟩
   refine hK.out x _ _ ?_ ?_
   ·simp [hl, hd, selV_true, selV_false]
   ·exact hJ.step hb
  ·have hB := hJ
   simp only [hl, Bool.false_eq_true, if_false] at hB
   have f0 := hB.frozen 2 0 rfl
   have f1 := hB.frozen 2 1 rfl
   have f2 := hB.frozen 2 2 rfl
   have g0 := hB.cell 2 0 rfl rfl
   have g1 := hB.cell 2 1 rfl rfl
   have g2 := hB.cell 2 2 rfl rfl
   have HB' := Lib.hid hB
   clear hB
   go_simp
   refine hK.out x _ _ ?_ ?_
   ·simp [hl, hd, selV_true, selV_false]
   ·refine Kg.cast (((HB'.out.put 2 0 rfl (.int .i64 (r : Int))).put 2 1 rfl (.int .i64 (c : Int))).put 2 2 rfl (.slice (some ⟨x, 0, none⟩) NN NN)) ?_
    simp [mrow, hd]
  ·go_simp
   refine hK.out x _ _ ?_ ?_
   ·simp [hl, hd, selV_true, selV_false]
   ·exact hJ
 ·rintro x3 Wx hKx
  simp only [selA, selT_cons, selT_nil, List.set_cons_zero, List.set_cons_succ, List.getD_cons_zero, List.getD_cons_succ, selV_true]
  simp only [if_true, entO_yes] at hKx
  have HKX := Lib.hid hKx
  clear hKx
  go_wp2_with fail
  exact bodyPost_ret (results_mat_tmp (b := w.heap.size + 1 + 1) rfl rfl (HKX.out.at_ 2 rfl)) rfl ⟨x3, rfl, HKX.out.ge 4 rfl, HKX.out.at_ 4 rfl, ⟨HKX.out.1.os, HKX.out.1.tape, HKX.out.1.output, HKX.out.1.size, fun i hi => HKX.out.1.block i hi (by simp)⟩⟩
theorem Mul_ok (ga gb r m c na nb capa capb NN : Nat) (xs ys : List Int) (w : World) (hA : Lw w ga (enc xs)) (hB : Lw w gb (enc ys)) (hxl : xs.length = r * m) (hyl : ys.length = m * c) (hna : na = r * m) (hnb : nb = m * c) (hr : r ≤ 200) (hm : m ≤ 200) (hc : c ≤ 200) (hNN : r * c = NN) (hca : na ≤ capa) (hcb : nb ≤ capb) (hma : capa ≤ maxLen) (hmb : capb ≤ maxLen) (hsx : ∀ q, (wmag (xs.getD q 0)).size ≤ 100) (hsy : ∀ q, (wmag (ys.getD q 0)).size ≤ 100) :
  Calls Tryz.prog 43 #[mat r m (some ⟨ga, 0, none⟩) na capa, mat m c (some ⟨gb, 0, none⟩) nb capb] w fun e w' => ∃ g, e = .returned (.tuple #[mat r c (some ⟨g, 0, none⟩) NN NN, .bool true]) ∧ w.heap.size ≤ g ∧ Lw w' g (enc (mulL xs ys r m c)) ∧ Below w.heap.size w w' := by
 have hra := mright_ints r m xs hxl hr hm
 have hrb := mright_ints m c ys hyl hm hc
 by_cases hbit : 64 ≤ lenI xs na + lenI ys nb + Lib.bitLen m
 ·exact Mul_wides ga gb r m c na nb capa capb NN xs ys w hA hB hxl hyl hna hnb hr hm hc hNN hca hcb hma hmb hra hrb hsx hsy hbit
 ·have all : ∀ (zs : List Int) (n : Nat), zs.length = n → lenI zs n < 64 → (∀ j, fitI (zs.getD j 0)) ∧ lenI zs n = maxB zs n := fun zs n hn hl => by
   unfold lenI at hl ⊢
   split at hl
   ·next h =>
    rw [if_pos h]
    refine ⟨fun j => ?_, rfl⟩
    rcases Nat.lt_or_ge j n with hj | hj
    ·exact h j hj
    ·rw [List.getD_eq_getElem?_getD, List.getElem?_eq_none (by omega)]
     exact ⟨by simp, by simp⟩
   ·omega
  obtain ⟨hfx, ex⟩ := all xs na (by rw [hxl, hna]) (by omega)
  obtain ⟨hfy, ey⟩ := all ys nb (by rw [hyl, hnb]) (by omega)
  exact Mul_ints ga gb r m c na nb capa capb NN xs ys w hA hB hxl hyl hna hnb hr hm hc hNN hra hrb hfx hfy (by rw [hxl, ← hna, hyl, ← hnb, ← ex, ← ey]; omega)
end Go.Proofs.YtknaghdoffigjaaGreatDoor
