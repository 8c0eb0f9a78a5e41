import Derived.Test.YtknaghdoffigjaaGreatDoorMMulI
import Derived.Test.YtknaghdoffigjaaGreatDoorZMConv
set_option linter.unusedSimpArgs false
set_option linter.unusedVariables false
set_option linter.unnecessarySimpa false
namespace Go.Proofs.YtknaghdoffigjaaGreatDoor
open Go.RowKit Go
theorem bitLenAux_lt : ∀ (f x : Nat), x < 2 ^ f → x < 2 ^ Lib.bitLenAux f x
 | 0, x, h => h
 | f + 1, x, h => by
  rw [Lib.bitLenAux]
  split
  ·rename_i h0
   rw [h0]; exact Nat.pow_pos (by omega)
  ·have ih := bitLenAux_lt f (x / 2) (by rw [Nat.pow_succ] at h; omega)
   rw [Nat.pow_add, Nat.pow_one]
   omega
theorem bitLen_lt (x : Nat) (h : x < 2 ^ 64) : x < 2 ^ Lib.bitLen x := bitLenAux_lt 64 x h
theorem nbit_lt (z : Int) (h : fitI z) : z.natAbs < 2 ^ nbit z := bitLen_lt z.natAbs (by obtain ⟨a, b⟩ := h; rw [show (2 : Nat) ^ 64 = 18446744073709551616 from rfl]; omega)
theorem maxB_ge (zs : List Int) (k j : Nat) (h : j < k) : nbit (zs.getD j 0) ≤ maxB zs k := by
 induction k with
 | zero => omega
 | succ k ih =>
  rw [maxB]
  rcases Nat.lt_or_ge j k with h1 | h1
  ·exact Nat.le_trans (ih h1) (Nat.le_max_left _ _)
  ·rw [show j = k by omega]; exact Nat.le_max_right _ _
theorem dotI_abs (xs ys : List Int) (m c i j P : Nat) (k : Nat) (h : ∀ k', k' < k → (xs.getD (i * m + k') 0 * ys.getD (k' * c + j) 0).natAbs ≤ P) : (dotI xs ys m c i j k).natAbs ≤ k * P := by
 induction k with
 | zero => simp [dotI]
 | succ k ih =>
  rw [dotI, Nat.succ_mul]
  exact Nat.le_trans (Int.natAbs_add_le _ _) (Nat.add_le_add (ih fun k' hk => h k' (by omega)) (h k (by omega)))
theorem fitM_of (xs ys : List Int) (r m c : Nat) (hx : xs.length = r * m) (hy : ys.length = m * c) (hm200 : m ≤ 200) (hfx : ∀ j, fitI (xs.getD j 0)) (hfy : ∀ j, fitI (ys.getD j 0)) (h : maxB xs xs.length + maxB ys ys.length + Lib.bitLen m < 64) : FitM xs ys r m c := by
 intro i j k hi hj hk
 have hp : ∀ k', k' < m → (xs.getD (i * m + k') 0 * ys.getD (k' * c + j) 0).natAbs < 2 ^ (maxB xs xs.length + maxB ys ys.length) := fun k' hk' => by
  rw [Int.natAbs_mul, Nat.pow_add]
  have h1 := nbit_lt (xs.getD (i * m + k') 0) (hfx _)
  have h2 := nbit_lt (ys.getD (k' * c + j) 0) (hfy _)
  have g1 := maxB_ge xs xs.length (i * m + k') (by rw [hx]; exact in_table hi hk')
  have g2 := maxB_ge ys ys.length (k' * c + j) (by rw [hy]; exact in_table hk' hj)
  exact Nat.mul_lt_mul'' (Nat.lt_of_lt_of_le h1 (Nat.pow_le_pow_right (by omega) g1)) (Nat.lt_of_lt_of_le h2 (Nat.pow_le_pow_right (by omega) g2))
 have hm := bitLen_lt m (by rw [show (2 : Nat) ^ 64 = 18446744073709551616 from rfl]; omega)
 have h63 : 2 ^ (maxB xs xs.length + maxB ys ys.length + Lib.bitLen m) ≤ 2 ^ 63 := Nat.pow_le_pow_right (by omega) (by omega)
 rw [Nat.pow_add] at h63
 have hP : 0 < 2 ^ (maxB xs xs.length + maxB ys ys.length) := Nat.pow_pos (by omega)
 generalize 2 ^ (maxB xs xs.length + maxB ys ys.length) = P at *
 generalize 2 ^ Lib.bitLen m = Q at *
 have hd := dotI_abs xs ys m c i j P (k + 1) (fun k' hk' => Nat.le_of_lt (hp k' (by omega)))
 have hkQ : (k + 1) * P ≤ m * P := Nat.mul_le_mul_right _ (by omega)
 have hmQ : m * P < Q * P := (Nat.mul_lt_mul_right hP).2 hm
 rw [Nat.mul_comm Q P] at hmQ
 have h1P : 1 * P ≤ m * P := Nat.mul_le_mul_right _ (by omega)
 have hpk := hp k hk
 have e63 : (2 : Nat) ^ 63 = 9223372036854775808 := rfl
 rw [e63] at h63
 exact ⟨⟨by omega, by omega⟩, ⟨by omega, by omega⟩⟩
theorem enc_of (xs : List Int) : ((List.range xs.length).map fun j => (wneg (xs.getD j 0), wmag (xs.getD j 0))) = enc xs := by
 unfold enc
 apply List.ext_getElem
 ·simp
 ·intro i h1 h2
  have : i < xs.length := by simpa using h1
  simp [this]
theorem mulL_length (xs ys : List Int) (r m c : Nat) : (mulL xs ys r m c).length = r * c := by simp [mulL]
theorem mulL_fit (xs ys : List Int) (r m c : Nat) (h : FitM xs ys r m c) (k : Nat) : -9223372036854775808 ≤ (mulL xs ys r m c).getD k 0 ∧ (mulL xs ys r m c).getD k 0 ≤ 9223372036854775807 := by
 unfold mulL
 rw [List.getD_eq_getElem?_getD, List.getElem?_map]
 rcases Nat.lt_or_ge k (r * c) with hk | hk
 ·rw [List.getElem?_range hk, Option.map_some, Option.getD_some]
  have hc := pos_of_lt hk
  cases m with
  | zero => exact ⟨by rw [dotI]; omega, by rw [dotI]; omega⟩
  | succ m => exact (h (k / c) (k % c) m ((Nat.div_lt_iff_lt_mul hc).2 hk) (Nat.mod_lt _ hc) (by omega)).2
 ·rw [List.getElem?_eq_none (by simpa using hk)]
  exact ⟨by simp, by simp⟩
theorem bits_sum (lx ly lm : Nat) (h : lx + ly + lm < 64) : wrap64 ((lx : Int) + (ly : Int)) = (lx : Int) + (ly : Int) ∧ wrap64 ((lx : Int) + (ly : Int) + (lm : Int)) = (lx : Int) + (ly : Int) + (lm : Int) ∧ decide ((lx : Int) + (ly : Int) + (lm : Int) ≥ 64) = false :=
 ⟨IntWalk.wrap64_in _ (by omega), IntWalk.wrap64_in _ (by omega), by rw [decide_eq_false_iff_not]; omega⟩
set_option maxRecDepth 100000 in
set_option maxHeartbeats 4000000 in
theorem multiplySmall_ok (ga gb r m c na nb capa capb NN : Nat) (xs ys : List Int) (w : World) (hA : Lw w ga (enc xs)) (hB : Lw w gb (enc ys)) (hxl : xs.length = r * m) (hyl : ys.length = m * c) (hna : na = r * m) (hnb : nb = m * c) (hr : r ≤ 200) (hm : m ≤ 200) (hc : c ≤ 200) (hNN : r * c = NN)
  (hfx : ∀ j, fitI (xs.getD j 0)) (hfy : ∀ j, fitI (ys.getD j 0)) (hbit : maxB xs xs.length + maxB ys ys.length + Lib.bitLen m < 64) :
  Calls Tryz.prog 93 #[mat r m (some ⟨ga, 0, none⟩) na capa, mat m c (some ⟨gb, 0, none⟩) nb capb] w fun e w' => ∃ g, e = .returned (.tuple #[mat r c (some ⟨g, 0, none⟩) NN NN, .bool true]) ∧ w.heap.size ≤ g ∧ Lw w' g (enc (mulL xs ys r m c)) ∧ Below w.heap.size w w' := by
 have hfm := fitM_of xs ys r m c hxl hyl hm hfx hfy hbit
 have hNN2 : NN ≤ 40000 := by rw [← hNN]; exact Nat.le_trans (Nat.mul_le_mul hr hc) (by omega)
 have h1 : r * m ≤ 40000 := Nat.le_trans (Nat.mul_le_mul hr hm) (by omega)
 have h2 : m * c ≤ 40000 := Nat.le_trans (Nat.mul_le_mul hm hc) (by omega)
 have hsz : ∀ z : Int, fitI z → (wmag z).size ≤ 1000 := fun z hz => Nat.le_trans (wmag_size z 8 (by obtain ⟨a, b⟩ := hz; rw [show (256 : Nat) ^ 8 = 18446744073709551616 from rfl]; omega)) (by omega)
 have hi1 := fun W hW => ints_any ga na capa xs W hW (by omega) (by omega) (fun j => hsz _ (hfx j))
 have hi2 := fun W hW => ints_any gb nb capb ys W hW (by omega) (by omega) (fun j => hsz _ (hfy j))
 have hbl := fun W => Tryz.bits_Len (m : Int) W (by omega) (by omega)
 simp only [Int.toNat_natCast] at hbl
 have hmi := fun g1 g2 W h1' h2' => multiply_int g1 g2 r m c na nb na nb NN xs ys W h1' h2' hxl hyl hr hm hc (by omega) (by omega) (by unfold maxLen; omega) (by unfold maxLen; omega) hNN hfm
 have hcv := fun A cp W hW => convert_from A NN cp (mulL xs ys r m c) W hW (by rw [mulL_length, hNN]) hNN2 (fun k _ => mulL_fit xs ys r m c hfm k)
 rw [show ((List.range NN).map fun j => (wneg ((mulL xs ys r m c).getD j 0), wmag ((mulL xs ys r m c).getD j 0))) = enc (mulL xs ys r m c) from by rw [← enc_of, mulL_length, hNN]] at hcv
 rw [hxl, ← hna, hyl, ← hnb] at hbit
 obtain ⟨lx, hlx⟩ : ∃ lx, lx = maxB xs na := ⟨_, rfl⟩
 obtain ⟨ly, hly⟩ : ∃ ly, ly = maxB ys nb := ⟨_, rfl⟩
 rw [← hlx] at hi1 hbit
 rw [← hly] at hi2 hbit
 obtain ⟨lm, hlm⟩ : ∃ lm, lm = Lib.bitLen m := ⟨_, rfl⟩
 rw [← hlm] at hbl hbit
 unfold mat at *
 have HI1 := Lib.hid hi1
 have HI2 := Lib.hid hi2
 have HBL := Lib.hid hbl
 have HMI := Lib.hid hmi
 have HCV := Lib.hid hcv
 have HA := Lib.hid hA
 have HB := Lib.hid hB
 have HFX := Lib.hid hfx
 have HFY := Lib.hid hfy
 have hga := heap_lt hA
 have hgb := heap_lt hB
 clear hi1 hi2 hbl hmi hcv hA hB hxl hyl hna hnb hNN hlx hly hlm hsz hfm hfx hfy
 obtain ⟨w1, w2, w4⟩ := bits_sum lx ly lm hbit
 have w3 : IntKind.u64.wrap (m : Int) = m := IntWalk.u64_in _ (by omega)
 clear hbit
 have hK1 := ((Kg.none_ none w 3).new 0 (mrow r m (some ⟨ga, 0, none⟩) na capa) rfl).new 1 (mrow m c (some ⟨gb, 0, none⟩) nb capb) rfl
 have HK2 := Lib.hid ((hK1.new 2 (mrow 0 0 none 0 0) rfl).cast (l' := [some (w.heap.size, mrow r m (some ⟨ga, 0, none⟩) na capa), some (w.heap.size + 1, mrow m c (some ⟨gb, 0, none⟩) nb capb), some (w.heap.size + 1 + 1, mrow 0 0 none 0 0)]) (by simp))
 have hAs : ∀ W l, Kg none w W l → Lw W ga (enc xs) ∧ Lw W gb (enc ys) := fun W l h => ⟨(h.1.block ga hga (by simp)).trans HA.out, (h.1.block gb hgb (by simp)).trans HB.out⟩
 have HAS := Lib.hid hAs
 have c0 := HK2.out.cell 0 2 rfl rfl
 clear hK1 hAs
 go_enter Tryz.func93, Tryz.ntmps93
 go_wp2_with fail
 change Calls _ _ _ (((w.alloc (mrow r m (some ⟨ga, 0, none⟩) na capa)).alloc (mrow m c (some ⟨gb, 0, none⟩) nb capb)).alloc (mrow 0 0 none 0 0)) _
 generalize ((w.alloc (mrow r m (some ⟨ga, 0, none⟩) na capa)).alloc (mrow m c (some ⟨gb, 0, none⟩) nb capb)).alloc (mrow 0 0 none 0 0) = W2 at *
 with_reducible refine (HI1.out _ (HAS.out _ _ HK2.out).1).mono ?_
 rintro e w3 ⟨hb3, hyes, _⟩
 obtain ⟨g1, rfl, hg1, hL1⟩ := hyes (fun j _ => HFX.out j)
 have HK3 := Lib.hid (HK2.out.room.came 3 rfl hb3 hg1 (o := lsI xs) hL1)
 clear c0 hb3 hyes hg1 hL1 HK2
 have c0 := HK3.out.cell 1 2 rfl rfl
 go_wp2_with fail
 with_reducible refine (HI2.out _ (HAS.out _ _ HK3.out).2).mono ?_
 rintro e w4' ⟨hb4, hyes, _⟩
 obtain ⟨g2, rfl, hg2, hL2⟩ := hyes (fun j _ => HFY.out j)
 have HK4 := Lib.hid (HK3.out.room.came 4 rfl hb4 hg2 (o := lsI ys) hL2)
 clear c0 hb4 hyes hg2 hL2 HK3
 have c0 := HK4.out.cell 0 0 rfl rfl
 have c1 := HK4.out.cell 0 1 rfl rfl
 have c2 := HK4.out.cell 1 0 rfl rfl
 have c3 := HK4.out.cell 1 1 rfl rfl
 go_wp2_with fail
 with_reducible refine (HBL.out _).mono ?_
 rintro e w5 ⟨rfl, rfl⟩
 go_wp2_with fail
 have hx1 : LsI w5 g1 xs := HK4.out.at_ 3 rfl
 have hx2 : LsI w5 g2 ys := HK4.out.at_ 4 rfl
 with_reducible refine (HMI.out g1 g2 w5 hx1 hx2).mono ?_
 rintro e w6 ⟨gp, rfl, hgp, hLp, hb6⟩
 have HK6 := Lib.hid ((HK4.out.room.came 5 rfl hb6 hgp (o := lsI (mulL xs ys r m c)) hLp).more (.cells #[.int .i64 (r : Int), .int .i64 (c : Int), .slice (some ⟨gp, 0, none⟩) NN NN] 147 (0, 0)))
 clear c0 c1 c2 c3 hb6 hgp hLp HK4
 go_wp2_with fail
 change Code.wp _ _ _ _ (w6.alloc (.cells #[.int .i64 (r : Int), .int .i64 (c : Int), .slice (some ⟨gp, 0, none⟩) NN NN] 147 (0, 0)))
 generalize w6.alloc (.cells #[.int .i64 (r : Int), .int .i64 (c : Int), .slice (some ⟨gp, 0, none⟩) NN NN] 147 (0, 0)) = W7 at *
 generalize w6.heap.size = b12 at *
 have HK7 := Lib.hid (show Kg none w W7 [some (w.heap.size, mrow r m (some ⟨ga, 0, none⟩) na capa), some (w.heap.size + 1, mrow m c (some ⟨gb, 0, none⟩) nb capb), some (w.heap.size + 1 + 1, mrow 0 0 none 0 0), some (g1, lsI xs), some (g2, lsI ys), some (gp, lsI (mulL xs ys r m c)), some (b12, .cells #[.int .i64 (r : Int), .int .i64 (c : Int), .slice (some ⟨gp, 0, none⟩) NN NN] 147 (0, 0)), none] from HK6.out.room)
 clear HK6
 refine wp_region_facts (X := Nat) (fun x => [(0, 50, .pointer (some ⟨w.heap.size, 0, none⟩)), (1, 51, .int .i64 (r : Int)), (2, 52, .pointer (some ⟨w.heap.size + 1, 1, none⟩)), (3, 53, .int .i64 (c : Int)), (4, 54, .pointer (some ⟨b12, 2, none⟩)), (5, 55, .slice (some ⟨gp, 0, none⟩) NN NN), (6, 56, .slice (some ⟨x, 0, none⟩) NN NN), (7, 57, .agg #[.int .i64 (r : Int), .int .i64 (c : Int), .slice (some ⟨x, 0, none⟩) NN NN]), (9, 5, .bool true)])
  (fun x L W => Kg none w W [some (w.heap.size, mrow r m (some ⟨ga, 0, none⟩) na capa), some (w.heap.size + 1, mrow m c (some ⟨gb, 0, none⟩) nb capb), some (w.heap.size + 1 + 1, if L 8 = true then mrow r c (some ⟨x, 0, none⟩) NN NN else mrow 0 0 none 0 0), some (g1, lsI xs), some (g2, lsI ys), some (gp, lsI (mulL xs ys r m c)), some (b12, .cells #[.int .i64 (r : Int), .int .i64 (c : Int), .slice (some ⟨gp, 0, none⟩) NN NN] 147 (0, 0)), entO (L 6) x (lwO (enc (mulL xs ys r m c)))]) (by kernel_rfl) (by kernel_rfl) 0 ?st (by kernel_rfl) ?_ ?_
 case st => simpa [entO_no] using HK7.out.drew
 ·repeat' (first | exact FactSteps.nil | refine FactSteps.cons ?_ ?_)
  all_goals
   intro L x wx hJ hl hd hs K hK
   (try simp [Region.binds] at hd)
   have e0 := hJ.cell 0 0 rfl rfl
   have e1 := hJ.cell 1 1 rfl rfl
   have e2 := hJ.cell 6 2 rfl rfl
   simp only [selA, selT_cons, selT_nil, List.set_cons_zero, List.set_cons_succ, List.getD_cons_zero, List.getD_cons_succ, hd, hl, selV_true, selV_false]
  ·go_simp
   refine hK.out x _ _ ?_ ?_
   ·simp [selA, selT_cons, selT_nil, hl, hd, selV_true, selV_false]
   ·simpa [hl] using hJ
  ·go_simp
   refine hK.out x _ _ ?_ ?_
   ·simp [selA, selT_cons, selT_nil, hl, hd, selV_true, selV_false]
   ·simpa [hl] using hJ
  ·go_simp
   refine hK.out x _ _ ?_ ?_
   ·simp [selA, selT_cons, selT_nil, hl, hd, selV_true, selV_false]
   ·simpa [hl] using hJ
  ·go_simp
   refine hK.out x _ _ ?_ ?_
   ·simp [selA, selT_cons, selT_nil, hl, hd, selV_true, selV_false]
   ·simpa [hl] using hJ
  ·go_simp
   refine hK.out x _ _ ?_ ?_
   ·simp [selA, selT_cons, selT_nil, hl, hd, selV_true, selV_false]
   ·simpa [hl] using hJ
  ·go_simp
   refine hK.out x _ _ ?_ ?_
   ·simp [selA, selT_cons, selT_nil, hl, hd, selV_true, selV_false]
   ·simpa [hl] using hJ
  ·have hn := hs 8 _ rfl (by simp [Region.binds])
   have hB := hJ
   simp only [hn, hl, Bool.false_eq_true, if_false, entO_no] at hB
   have hx5 : LsI wx gp (mulL xs ys r m c) := hB.at_ 5 rfl
   go_simp
   go_at_call 60
   with_reducible refine (HCV.out (some ⟨gp, 0, none⟩) NN wx hx5.rd).mono ?_
   rintro e v ⟨gq, rfl, hgq, hLq, hb⟩
   refine hK.out gq _ _ ?_ ?_
   ·simp [selA, selT_cons, selT_nil, hl, hd, hn, hs 7 _ rfl (by simp [Region.binds]), selV_true, selV_false]
   ·exact (hB.came 7 rfl hb hgq (o := lwO (enc (mulL xs ys r m c))) hLq).cast (by simp [hn, entO_yes])
  ·go_simp
   refine hK.out x _ _ ?_ ?_
   ·simp [selA, selT_cons, selT_nil, hl, hd, selV_true, selV_false]
   ·simpa [hl] using hJ
  ·have hB := hJ
   simp only [hl, hd, Bool.false_eq_true, if_false, entO_yes] at hB
   have f0 := hB.frozen 2 0 rfl
   have f1 := hB.frozen 2 1 rfl
   have f2 := hB.frozen 2 2 rfl
   have d0 := hB.cell 2 0 rfl rfl
   have d1 := hB.cell 2 1 rfl rfl
   have d2 := hB.cell 2 2 rfl rfl
   go_simp
   refine hK.out x _ _ ?_ ?_
   ·simp [selA, selT_cons, selT_nil, hl, hd, selV_true, selV_false]
   ·exact (((hB.put 2 0 rfl _).put 2 1 rfl _).put 2 2 rfl _).cast (by simp [hd, entO_yes, mrow])
  ·go_simp
   refine hK.out x _ _ ?_ ?_
   ·simp [selA, selT_cons, selT_nil, hl, hd, selV_true, selV_false]
   ·simpa [hl] using hJ
 ·rintro gq Wx hKx
  simp only [selA, selT_cons, selT_nil, List.set_cons_zero, List.set_cons_succ, List.getD_cons_zero, List.getD_cons_succ, selV_true]
  simp only [if_true, entO_yes] at hKx
  go_wp2
  refine bodyPost_ret (results_mat_tmp (b := w.heap.size + 1 + 1) rfl rfl (hKx.at_ 2 rfl)) rfl ?_
  exact ⟨gq, rfl, hKx.ge 7 rfl, hKx.at_ 7 rfl, ⟨hKx.1.os, hKx.1.tape, hKx.1.output, hKx.1.size, fun i hi => hKx.1.block i hi (by simp)⟩⟩
end Go.Proofs.YtknaghdoffigjaaGreatDoor
namespace Go.Proofs.YtknaghdoffigjaaGreatDoor
open Go.RowKit Go
set_option maxRecDepth 100000 in
set_option maxHeartbeats 4000000 in
theorem Mul_ints (ga gb r m c na nb capa capb NN : Nat) (xs ys : List Int) (w : World) (hA : Lw w ga (enc xs)) (hB : Lw w gb (enc ys)) (hxl : xs.length = r * m) (hyl : ys.length = m * c) (hna : na = r * m) (hnb : nb = m * c) (hr : r ≤ 200) (hm : m ≤ 200) (hc : c ≤ 200) (hNN : r * c = NN)
  (hra : mright r m (enc xs) = true) (hrb : mright m c (enc ys) = true) (hfx : ∀ j, fitI (xs.getD j 0)) (hfy : ∀ j, fitI (ys.getD j 0)) (hbit : maxB xs xs.length + maxB ys ys.length + Lib.bitLen m < 64) :
  Calls Tryz.prog 43 #[mat r m (some ⟨ga, 0, none⟩) na capa, mat m c (some ⟨gb, 0, none⟩) nb capb] w fun e w' => ∃ g, e = .returned (.tuple #[mat r c (some ⟨g, 0, none⟩) NN NN, .bool true]) ∧ w.heap.size ≤ g ∧ Lw w' g (enc (mulL xs ys r m c)) ∧ Below w.heap.size w w' := by
 have h1 : r * m ≤ 40000 := Nat.le_trans (Nat.mul_le_mul hr hm) (by omega)
 have h2 : m * c ≤ 40000 := Nat.le_trans (Nat.mul_le_mul hm hc) (by omega)
 have hr1 := fun W hW => Right_any (r : Int) (m : Int) (some ⟨ga, 0, none⟩) na capa (enc xs) W hW (by rw [enc_length, hxl, hna]) (by unfold maxLen; omega)
 have hr2 := fun W hW => Right_any (m : Int) (c : Int) (some ⟨gb, 0, none⟩) nb capb (enc ys) W hW (by rw [enc_length, hyl, hnb]) (by unfold maxLen; omega)
 rw [hra] at hr1
 rw [hrb] at hr2
 have hms := fun W hWa hWb => multiplySmall_ok ga gb r m c na nb capa capb NN xs ys W hWa hWb hxl hyl hna hnb hr hm hc hNN hfx hfy hbit
 unfold mat at *
 have HR1 := Lib.hid hr1
 have HR2 := Lib.hid hr2
 have HMS := Lib.hid hms
 have HA := Lib.hid hA
 have HB := Lib.hid hB
 have hga := heap_lt hA
 have hgb := heap_lt hB
 clear hr1 hr2 hms hA hB hxl hyl hna hnb hNN hra hrb hfx hfy hbit h1 h2
 have hK1 := ((Kg.none_ none w 3).new 0 (mrow r m (some ⟨ga, 0, none⟩) na capa) rfl).new 1 (mrow m c (some ⟨gb, 0, none⟩) nb capb) rfl
 have HK2 := Lib.hid ((hK1.new 2 (mrow 0 0 none 0 0) rfl).cast (l' := [some (w.heap.size, mrow r m (some ⟨ga, 0, none⟩) na capa), some (w.heap.size + 1, mrow m c (some ⟨gb, 0, none⟩) nb capb), some (w.heap.size + 1 + 1, mrow 0 0 none 0 0)]) (by simp))
 have hAs : ∀ W l, Kg none w W l → Lw W ga (enc xs) ∧ Lw W gb (enc ys) := fun W l h => ⟨(h.1.block ga hga (by simp)).trans HA.out, (h.1.block gb hgb (by simp)).trans HB.out⟩
 have HAS := Lib.hid hAs
 have c0 := HK2.out.cell 0 0 rfl rfl
 have c1 := HK2.out.cell 0 1 rfl rfl
 have c2 := HK2.out.cell 0 2 rfl rfl
 clear hK1 hAs
 have hmm : ((m : Int) != (m : Int)) = false := by simp
 go_enter Tryz.func43, Tryz.ntmps43
 go_wp2_with fail
 change Calls _ _ _ (((w.alloc (mrow r m (some ⟨ga, 0, none⟩) na capa)).alloc (mrow m c (some ⟨gb, 0, none⟩) nb capb)).alloc (mrow 0 0 none 0 0)) _
 generalize ((w.alloc (mrow r m (some ⟨ga, 0, none⟩) na capa)).alloc (mrow m c (some ⟨gb, 0, none⟩) nb capb)).alloc (mrow 0 0 none 0 0) = W2 at *
 with_reducible refine (HR1.out _ (HAS.out _ _ HK2.out).1.rdw).mono ?_
 rintro e w3 ⟨rfl, hb3⟩
 have HK3 := Lib.hid (HK2.out.step hb3)
 clear c0 c1 c2 hb3 HK2
 have c0 := HK3.out.cell 1 0 rfl rfl
 have c1 := HK3.out.cell 1 1 rfl rfl
 have c2 := HK3.out.cell 1 2 rfl rfl
 go_wp2_with fail
 with_reducible refine (HR2.out _ (HAS.out _ _ HK3.out).2.rdw).mono ?_
 rintro e w4 ⟨rfl, hb4⟩
 have HK4 := Lib.hid (HK3.out.step hb4)
 clear c0 c1 c2 hb4 HK3
 have c0 := HK4.out.cell 1 0 rfl rfl
 have c1 := HK4.out.cell 1 1 rfl rfl
 have c2 := HK4.out.cell 1 2 rfl rfl
 have c3 := HK4.out.cell 0 0 rfl rfl
 have c4 := HK4.out.cell 0 1 rfl rfl
 have c5 := HK4.out.cell 0 2 rfl rfl
 go_wp2_with fail
 with_reducible refine (HMS.out _ (HAS.out _ _ HK4.out).1 (HAS.out _ _ HK4.out).2).mono ?_
 rintro e w5 ⟨g, rfl, hg, hLg, hb5⟩
 have HK5 := Lib.hid ((HK4.out.room.came 3 rfl hb5 hg (o := lwO (enc (mulL xs ys r m c))) hLg).more (mrow r c (some ⟨g, 0, none⟩) NN NN))
 clear c0 c1 c2 c3 c4 c5 hb5 hg hLg HK4
 have c0 := HK5.out.cell 4 0 rfl rfl
 have c1 := HK5.out.cell 4 1 rfl rfl
 have c2 := HK5.out.cell 4 2 rfl rfl
 have d0 := HK5.out.cell 2 0 rfl rfl
 have d1 := HK5.out.cell 2 1 rfl rfl
 have d2 := HK5.out.cell 2 2 rfl rfl
 have f0 := HK5.out.frozen 2 0 rfl
 have f1 := HK5.out.frozen 2 1 rfl
 have f2 := HK5.out.frozen 2 2 rfl
 unfold mrow at c0 c1 c2 d0 d1 d2 f0 f1 f2
 go_wp2_with fail
 have hK6 := ((HK5.out.put 2 0 rfl (.int .i64 (r : Int))).put 2 1 rfl (.int .i64 (c : Int))).put 2 2 rfl (.slice (some ⟨g, 0, none⟩) NN NN)
 refine bodyPost_ret (results_mat_tmp (b := w.heap.size + 1 + 1) rfl rfl (hK6.at_ 2 rfl)) rfl ?_
 exact ⟨g, rfl, hK6.ge 3 rfl, hK6.at_ 3 rfl, ⟨hK6.1.os, hK6.1.tape, hK6.1.output, hK6.1.size, fun i hi => hK6.1.block i hi (by simp)⟩⟩
end Go.Proofs.YtknaghdoffigjaaGreatDoor
namespace Go.Proofs.YtknaghdoffigjaaGreatDoor
open Go.RowKit Go
end Go.Proofs.YtknaghdoffigjaaGreatDoor
