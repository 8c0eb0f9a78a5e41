import Derived.Test.YtknaghdoffigjaaGreatDoorZMBoth
import Derived.Test.YtknaghdoffigjaaGreatDoorZMRefD
set_option linter.unusedSimpArgs false
set_option linter.unusedVariables false
set_option linter.unnecessarySimpa false
namespace Go.Proofs.YtknaghdoffigjaaGreatDoor
open Go.RowKit Go
attribute [local go_sem] Oper.semAt_some
theorem encSet (xs : List Int) (k : Nat) (z : Int) : (enc xs).set k (wneg z, wmag z) = enc (xs.set k z) := by
 unfold enc
 rw [List.map_set]
end Go.Proofs.YtknaghdoffigjaaGreatDoor
namespace Go.Proofs.YtknaghdoffigjaaGreatDoor
open Go.RowKit Go
attribute [local go_sem] Oper.semAt_some
def wthE (Ls : List Int) (k : Nat) : Int := Ls.getD ((k + k / Ls.length) % Ls.length) 0
def wth (Ls : List Int) (n : Nat) : List Int := (List.range n).map (wthE Ls)
def wthS (Ls : List Int) (n k : Nat) : List Int := (List.range n).map fun i => if i < k then wthE Ls i else 0
theorem wth_length (Ls : List Int) (n : Nat) : (wth Ls n).length = n := by simp [wth]
theorem wthS_length (Ls : List Int) (n k : Nat) : (wthS Ls n k).length = n := by simp [wthS]
theorem wthS_full (Ls : List Int) (n : Nat) : wthS Ls n n = wth Ls n := by
 unfold wthS wth
 apply List.map_congr_left
 intro i hi
 rw [if_pos (by simpa using hi)]
theorem wthS_nil (Ls : List Int) (n k : Nat) (h : Ls.length = 0) : wthS Ls n k = wth Ls n := by
 unfold wthS wth
 apply List.map_congr_left
 intro i hi
 obtain rfl : Ls = [] := List.length_eq_zero_iff.1 h
 simp [wthE]
theorem wthS_zero (Ls : List Int) (n : Nat) : enc (wthS Ls n 0) = List.replicate n (false, ⟨#[]⟩) := by
 rw [← enc_zeros]
 congr 1
 unfold wthS
 apply List.ext_getElem
 ·simp
 ·intro i h1 h2
  simp
theorem enc_set (xs : List Int) (k : Nat) (z : Int) : (enc xs).set k (wneg z, wmag z) = enc (xs.set k z) := by
 unfold enc
 rw [List.map_set]
theorem wthS_next (Ls : List Int) (n k : Nat) : (enc (wthS Ls n k)).set k (wneg (wthE Ls k), wmag (wthE Ls k)) = enc (wthS Ls n (k + 1)) := by
 rw [enc_set]
 congr 1
 unfold wthS
 apply List.ext_getElem
 ·simp
 ·intro i h1 h2
  rw [List.getElem_set]
  simp only [List.getElem_map, List.getElem_range]
  by_cases h : k = i
  ·subst h
   rw [if_pos rfl, if_pos (by omega)]
  ·rw [if_neg h]
   by_cases h3 : i < k
   ·rw [if_pos h3, if_pos (by omega)]
   ·rw [if_neg h3, if_neg (by omega)]
set_option maxRecDepth 100000 in
set_option maxHeartbeats 4000000 in
theorem With_any (AL : Option Addr) (nL cL : Nat) (Ls : List Int) (sr sc : Int) (r c NN : Nat) (w : World) (hR : RdI w AL Ls) (hn : Ls.length = nL) (hm : nL ≤ maxLen) (hr : r ≤ 200) (hc : c ≤ 200) (hNN : r * c = NN) (hb : ∀ j, -9223372036854775808 ≤ Ls.getD j 0 ∧ Ls.getD j 0 ≤ 9223372036854775807) :
  Calls Tryz.prog 40 #[.agg #[.int .u8 sr, .int .u8 sc, .slice AL nL cL], .int .i64 (r : Int), .int .i64 (c : Int)] w fun e w' => ∃ g, e = .returned (mat r c (some ⟨g, 0, none⟩) NN NN) ∧ w.heap.size ≤ g ∧ Lw w' g (enc (wth Ls NN)) ∧ Below w.heap.size w w' := by
 have hNN2 : NN ≤ 40000 := by rw [← hNN]; exact Nat.le_trans (Nat.mul_le_mul hr hc) (by omega)
 unfold maxLen at hm
 have hze := fun W => rZero_fits r c NN W hr hc hNN
 have hrf := fun (k : Nat) W => RFrom_any (wthE Ls k) W (hb _).1 (hb _).2
 have hce : ∀ W l, Kg none w W l → ∀ p : Addr, p.block < w.heap.size → W.cell? p = w.cell? p := fun W l h p hp => World.cell?_of_block (w := w) (h.1.block p.block hp (by simp))
 unfold mat at *
 have HZE := Lib.hid hze
 have HRF := Lib.hid hrf
 have HCE := Lib.hid hce
 have HN := Lib.hid hn
 have HR := Lib.hid hR
 have HK1 := Lib.hid ((((Kg.none_ none w 0).more (.cells #[.int .u8 sr, .int .u8 sc, .slice AL nL cL] 38 (0, 0))).more (mrow 0 0 none 0 0)).cast (l' := [some (w.heap.size, .cells #[.int .u8 sr, .int .u8 sc, .slice AL nL cL] 38 (0, 0)), some (w.heap.size + 1, mrow 0 0 none 0 0)]) (by simp))
 clear hze hrf hce hNN hb hR hn
 go_enter Tryz.func40, Tryz.ntmps40
 go_wp2_with fail
 change Calls _ _ _ ((w.alloc (.cells #[.int .u8 sr, .int .u8 sc, .slice AL nL cL] 38 (0, 0))).alloc (mrow 0 0 none 0 0)) _
 generalize (w.alloc (.cells #[.int .u8 sr, .int .u8 sc, .slice AL nL cL] 38 (0, 0))).alloc (mrow 0 0 none 0 0) = W1 at *
 with_reducible refine (HZE.out _).mono ?_
 rintro e V1 ⟨g, rfl, hg, hL, hb⟩
 rw [← wthS_zero Ls NN] at hL
 have HK2 := Lib.hid (show Kg none w (V1.alloc (mrow r c (some ⟨g, 0, none⟩) NN NN)) [some (w.heap.size, .cells #[.int .u8 sr, .int .u8 sc, .slice AL nL cL] 38 (0, 0)), some (w.heap.size + 1, mrow 0 0 none 0 0), some (V1.heap.size, mrow r c (some ⟨g, 0, none⟩) NN NN), some (g, lwO (enc (wthS Ls NN 0)))] from ((HK1.out.room.came 2 rfl hb hg (o := lwO (enc (wthS Ls NN 0))) hL).more (mrow r c (some ⟨g, 0, none⟩) NN NN)).sel [0, 1, 3, 2] (by decide))
 clear hb HK1 hg hL
 go_wp2_with fail
 change Code.wp _ _ _ _ (V1.alloc (mrow r c (some ⟨g, 0, none⟩) NN NN))
 generalize V1.alloc (mrow r c (some ⟨g, 0, none⟩) NN NN) = W2 at *
 generalize V1.heap.size = bT at *
 go_loopw [8] (fun i wr => ∃ k : Nat, i = .int .i64 (k : Int) ∧ k ≤ NN ∧ Kg none w wr [some (w.heap.size, .cells #[.int .u8 sr, .int .u8 sc, .slice AL nL cL] 38 (0, 0)), some (w.heap.size + 1, mrow 0 0 none 0 0), some (bT, mrow r c (some ⟨g, 0, none⟩) NN NN), some (g, lwO (enc (wthS Ls NN k)))]) (fun i _ => NN - (intOf i).toNat)
 case atStart => exact ⟨0, rfl, Nat.zero_le _, HK2.out⟩
 case round =>
  obtain ⟨k, rfl, hk, hK⟩ := hrel
  have HK3 := Lib.hid hK
  have c0 := hK.cell 2 2 rfl rfl
  have c1 := hK.cell 0 2 rfl rfl
  have fin : ∀ (x : Bool), enc (wthS Ls NN k) = enc (wth Ls NN) → True := fun _ _ => trivial
  clear fin
  by_cases hlt : k < NN ∧ 0 < nL
  ·obtain ⟨hk1, hl1⟩ := hlt
   have d1 : decide ((k : Int) < (NN : Int)) = true := by rw [decide_eq_true_iff]; omega
   have d2 : decide ((nL : Int) > 0) = true := by rw [decide_eq_true_iff]; omega
   obtain ⟨q, hq⟩ : ∃ q, q = k / nL := ⟨_, rfl⟩
   have hqk : q ≤ k := by rw [hq]; exact Nat.div_le_self _ _
   obtain ⟨s, hs⟩ : ∃ s, s = k + q := ⟨_, rfl⟩
   obtain ⟨m, hm2⟩ : ∃ m, m = s % nL := ⟨_, rfl⟩
   have hml : m < nL := by rw [hm2]; exact Nat.mod_lt _ hl1
   obtain ⟨b, hAL, hbb, r2⟩ := HR.out m (by rw [HN.out]; exact hml)
   have hz : Ls.getD m 0 = wthE Ls k := by unfold wthE; rw [HN.out, ← hq, ← hs, ← hm2]
   have hnx := wthS_next Ls NN k
   have hrfk := HRF.out k
   rw [hz] at r2
   have e1 : ((k : Int)).tdiv (nL : Int) = (q : Int) := by rw [hq]; rfl
   have w2 : IntKind.i64.wrap ((k : Int) + (q : Int)) = (s : Int) := by rw [show (k : Int) + (q : Int) = (s : Int) from by omega]; exact IntWalk.i64_in _ (by omega)
   have e3 : ((s : Int)).tmod (nL : Int) = (m : Int) := by rw [hm2]; rfl
   have w1 : IntKind.i64.wrap (q : Int) = (q : Int) := IntWalk.i64_in _ (by omega)
   have n0 : ((nL : Int) == 0) = false := by rw [beq_eq_false_iff_ne]; omega
   have n1 : ¬ nL = 0 := by omega
   generalize wthE Ls k = z at *
   have HNX := Lib.hid hnx
   have HRFk := Lib.hid hrfk
   have HR2 := Lib.hid r2
   clear hnx hrfk hq hs hm2 hz r2 hK HRF HR
   subst hAL
   go_wp2_with fail
   refine wp_region_acts (X := Unit) (fun x => [(0, 25, .pointer (some ⟨bT, 2, none⟩)), (1, 26, .slice (some ⟨g, 0, none⟩) NN NN), (2, 27, .int .i64 (k : Int)), (3, 28, .pointer (some ⟨w.heap.size, 2, none⟩)), (4, 29, .slice (some b) nL cL), (5, 30, .int .i64 (k : Int)), (6, 31, .int .i64 (k : Int)), (7, 32, .pointer (some ⟨w.heap.size, 2, none⟩)), (8, 33, .slice (some b) nL cL), (9, 34, .int .i64 (nL : Int)), (10, 35, .int .i64 (q : Int)), (11, 36, .int .i64 (s : Int)), (12, 37, .pointer (some ⟨w.heap.size, 2, none⟩)), (13, 38, .slice (some b) nL cL), (14, 39, .int .i64 (nL : Int)), (15, 40, .int .i64 (m : Int)), (16, 41, .pointer (some (b.add m))), (17, 42, .int .i64 z), (18, 43, .agg #[.bool (wneg z), .string (wmag z)]), (19, 44, .pointer (some ⟨g, k * 2, none⟩))])
    (fun _ L W => Kg none w W [some (w.heap.size, .cells #[.int .u8 sr, .int .u8 sc, .slice (some b) nL cL] 38 (0, 0)), some (w.heap.size + 1, mrow 0 0 none 0 0), some (bT, mrow r c (some ⟨g, 0, none⟩) NN NN), some (g, if L 20 = true then lwO (enc (wthS Ls NN (k + 1))) else lwO (enc (wthS Ls NN k)))]) (by kernel_rfl) (by kernel_rfl) () ?st (by kernel_rfl) ?_ ?_
   case st => simpa using HK3.out.drew
   ·simp only [selA, selT_cons, selT_nil, List.set_cons_zero, List.set_cons_succ, List.getD_cons_zero, List.getD_cons_succ]
    repeat' (first | exact ActSteps.nil | refine ActSteps.cons ?_ ?_)
    all_goals
     intro L x wx hJ hl hd hs K hK
     (try simp [Region.binds] at hd)
     have e2 := hJ.cell 2 2 rfl rfl
     have e4 := hJ.cell 0 2 rfl rfl
     have r2 := (HCE.out _ _ hJ (b.add m) (by rw [block_add]; exact hbb)).trans HR2.out
     try simp only [hd, hl, selV_true, selV_false]
    ·go_simp
     refine hK.out x _ _ ?_ ?_
     ·simp [hl, hd, selV_true, selV_false]
     ·exact hJ
    ·go_simp
     refine hK.out x _ _ ?_ ?_
     ·simp [hl, hd, selV_true, selV_false]
     ·exact hJ
    ·go_simp
     refine hK.out x _ _ ?_ ?_
     ·simp [hl, hd, selV_true, selV_false]
     ·exact hJ
    ·go_simp
     refine hK.out x _ _ ?_ ?_
     ·simp [hl, hd, selV_true, selV_false]
     ·exact hJ
    ·go_simp
     refine hK.out x _ _ ?_ ?_
     ·simp [hl, hd, selV_true, selV_false]
     ·exact hJ
    ·go_simp
     refine hK.out x _ _ ?_ ?_
     ·simp [hl, hd, selV_true, selV_false]
     ·exact hJ
    ·go_simp
     refine hK.out x _ _ ?_ ?_
     ·simp [hl, hd, selV_true, selV_false]
     ·exact hJ
    ·go_simp
     refine hK.out x _ _ ?_ ?_
     ·simp [hl, hd, selV_true, selV_false]
     ·exact hJ
    ·go_simp
     refine hK.out x _ _ ?_ ?_
     ·simp [hl, hd, selV_true, selV_false]
     ·exact hJ
    ·go_simp
     refine hK.out x _ _ ?_ ?_
     ·simp [hl, hd, selV_true, selV_false]
     ·exact hJ
    ·go_simp
     refine hK.out x _ _ ?_ ?_
     ·simp [hl, hd, selV_true, selV_false]
     ·exact hJ
    ·go_simp
     refine hK.out x _ _ ?_ ?_
     ·simp [hl, hd, selV_true, selV_false]
     ·exact hJ
    ·go_simp
     refine hK.out x _ _ ?_ ?_
     ·simp [hl, hd, selV_true, selV_false]
     ·exact hJ
    ·go_simp
     refine hK.out x _ _ ?_ ?_
     ·simp [hl, hd, selV_true, selV_false]
     ·exact hJ
    ·go_simp
     refine hK.out x _ _ ?_ ?_
     ·simp [hl, hd, selV_true, selV_false]
     ·exact hJ
    ·go_simp
     refine hK.out x _ _ ?_ ?_
     ·simp [hl, hd, selV_true, selV_false]
     ·exact hJ
    ·go_simp
     refine hK.out x _ _ ?_ ?_
     ·simp [hl, hd, selV_true, selV_false]
     ·exact hJ
    ·go_simp
     refine hK.out x _ _ ?_ ?_
     ·simp [hl, hd, selV_true, selV_false]
     ·exact hJ
    ·go_simp
     with_reducible refine (HRFk.out _).mono ?_
     rintro e v ⟨rfl, hb⟩
     refine hK.out x _ _ ?_ ?_
     ·simp [hl, hd, selV_true, selV_false]
     ·exact hJ.step hb
    ·go_simp
     refine hK.out x _ _ ?_ ?_
     ·simp [hl, hd, selV_true, selV_false]
     ·exact hJ
    ·have hB := hJ
     simp only [hl, Bool.false_eq_true, if_false] at hB
     have hLg : Lw wx g (enc (wthS Ls NN k)) := hB.at_ 3 rfl
     have hql : k < (enc (wthS Ls NN k)).length := by rw [enc_length, wthS_length]; exact hk1
     have d0 := hLg.cell0 k hql
     have d1 := hLg.cell1 k hql
     have f0 := hB.frozen 3 (k * 2) rfl
     have f1 := hB.frozen 3 (k * 2 + 1) rfl
     generalize ((enc (wthS Ls NN k))[k]'hql).1 = u0 at d0
     generalize ((enc (wthS Ls NN k))[k]'hql).2 = u1 at d1
     have hP := hLg.put k (wneg z) (wmag z)
     rw [HNX.out] at hP
     have HP := Lib.hid hP
     have HB := Lib.hid hB
     clear hP hLg hB
     go_simp
     refine hK.out x _ _ ?_ ?_
     ·simp [hl, hd, selV_true, selV_false]
     ·have hGr := grownBy_setRow (g := g) (p := ⟨g, k * 2 + 1, none⟩) (grownBy_setRow (g := g) (p := ⟨g, k * 2, none⟩) (World.grownBy.refl wx _) rfl (.bool (wneg z))) rfl (.string (wmag z))
      exact (HB.out.change 3 rfl hGr (o' := lwO (enc (wthS Ls NN (k + 1)))) HP.out).cast (by simp)
   ·rintro _ Wx hKx
    simp only [selA, selT_cons, selT_nil, List.set_cons_zero, List.set_cons_succ, List.getD_cons_zero, List.getD_cons_succ, selV_true]
    simp only [if_true] at hKx
    have HKX := Lib.hid hKx
    clear hKx
    go_wp2
    go_roundw
    case rel => exact ⟨k + 1, by simp, by omega, HKX.out⟩
    case measure => simp [intOf]; omega
  ·have hfin : enc (wthS Ls NN k) = enc (wth Ls NN) := by
    rcases Nat.eq_zero_or_pos nL with h | h
    ·rw [wthS_nil Ls NN k (by rw [HN.out]; exact h)]
    ·obtain rfl : k = NN := by omega
     rw [wthS_full]
   have HFIN := Lib.hid hfin
   have d0 := hK.cell 1 0 rfl rfl
   have d1 := hK.cell 1 1 rfl rfl
   have d2 := hK.cell 1 2 rfl rfl
   have f0 := hK.frozen 1 0 rfl
   have f1 := hK.frozen 1 1 rfl
   have f2 := hK.frozen 1 2 rfl
   have g0 := hK.cell 2 0 rfl rfl
   have g1 := hK.cell 2 1 rfl rfl
   clear hK hfin
   have hcs : NN ≤ k ∨ (k < NN ∧ nL = 0) := by omega
   clear hlt
   rcases hcs with h1 | ⟨h1, h2⟩
   all_goals
    go_wp2
    have hP := ((HK3.out.put 1 0 rfl (.int .i64 (r : Int))).put 1 1 rfl (.int .i64 (c : Int))).put 1 2 rfl (.slice (some ⟨g, 0, none⟩) NN NN)
    exact post_mat (b := w.heap.size + 1) rfl rfl (hP.at_ 1 rfl) rfl ⟨g, rfl, hP.ge 3 rfl, by rw [← HFIN.out]; exact hP.at_ 3 rfl, ⟨hP.1.os, hP.1.tape, hP.1.output, hP.1.size, fun i hi => hP.1.block i hi (by simp)⟩⟩
set_option maxRecDepth 100000 in
set_option maxHeartbeats 4000000 in
theorem Mat_any (AL : Option Addr) (nL cL : Nat) (Ls : List Int) (R C r c NN : Nat) (w : World) (hR : RdI w AL Ls) (hn : Ls.length = nL) (hm : nL ≤ maxLen) (hr : R % 7 = r) (hc : C % 7 = c) (hNN : r * c = NN) (hb : ∀ j, -9223372036854775808 ≤ Ls.getD j 0 ∧ Ls.getD j 0 ≤ 9223372036854775807) :
  Calls Tryz.prog 24 #[.agg #[.int .u8 (R : Int), .int .u8 (C : Int), .slice AL nL cL]] w fun e w' => ∃ g, e = .returned (mat r c (some ⟨g, 0, none⟩) NN NN) ∧ w.heap.size ≤ g ∧ Lw w' g (enc (wth Ls NN)) ∧ Below w.heap.size w w' := by
 have hwi := fun W h => With_any AL nL cL Ls (R : Int) (C : Int) r c NN W h hn hm (by omega) (by omega) hNN hb
 have e1 : ((R : Int)).tmod 7 = (r : Int) := by rw [← hr]; rfl
 have e2 : ((C : Int)).tmod 7 = (c : Int) := by rw [← hc]; rfl
 have w1 : IntKind.i64.wrap (r : Int) = (r : Int) := IntWalk.i64_in _ (by omega)
 have w2 : IntKind.i64.wrap (c : Int) = (c : Int) := IntWalk.i64_in _ (by omega)
 unfold mat at *
 have HWI := Lib.hid hwi
 have HR := Lib.hid hR
 have HK1 := Lib.hid ((((Kg.none_ none w 0).more (.cells #[.int .u8 (R : Int), .int .u8 (C : Int), .slice AL nL cL] 38 (0, 0))).more (mrow 0 0 none 0 0)).cast (l' := [some (w.heap.size, .cells #[.int .u8 (R : Int), .int .u8 (C : Int), .slice AL nL cL] 38 (0, 0)), some (w.heap.size + 1, mrow 0 0 none 0 0)]) (by simp))
 have HR1 := Lib.hid (hR.below (((Below.refl w.heap.size w).alloc (Nat.le_refl _) (.cells #[.int .u8 (R : Int), .int .u8 (C : Int), .slice AL nL cL] 38 (0, 0))).alloc (by simp) (mrow 0 0 none 0 0)))
 have c0 := HK1.out.cell 0 0 rfl rfl
 have c1 := HK1.out.cell 0 1 rfl rfl
 have c2 := HK1.out.cell 0 2 rfl rfl
 clear hwi hR hr hc hn hb hNN
 go_enter Tryz.func24, Tryz.ntmps24
 go_wp2_with fail
 change Calls _ _ _ ((w.alloc (.cells #[.int .u8 (R : Int), .int .u8 (C : Int), .slice AL nL cL] 38 (0, 0))).alloc (mrow 0 0 none 0 0)) _
 generalize (w.alloc (.cells #[.int .u8 (R : Int), .int .u8 (C : Int), .slice AL nL cL] 38 (0, 0))).alloc (mrow 0 0 none 0 0) = W1 at *
 with_reducible refine (HWI.out _ HR1.out).mono ?_
 rintro e V1 ⟨g, rfl, hg, hL, hb⟩
 have HK2 := Lib.hid (show Kg none w V1 [some (w.heap.size, .cells #[.int .u8 (R : Int), .int .u8 (C : Int), .slice AL nL cL] 38 (0, 0)), some (w.heap.size + 1, mrow 0 0 none 0 0), some (g, lwO (enc (wth Ls NN)))] from HK1.out.room.came 2 rfl hb hg (o := lwO (enc (wth Ls NN))) hL)
 clear c0 c1 c2 hg hL hb HK1
 have d0 := HK2.out.cell 1 0 rfl rfl
 have d1 := HK2.out.cell 1 1 rfl rfl
 have d2 := HK2.out.cell 1 2 rfl rfl
 have f0 := HK2.out.frozen 1 0 rfl
 have f1 := HK2.out.frozen 1 1 rfl
 have f2 := HK2.out.frozen 1 2 rfl
 go_wp2
 have hP := ((HK2.out.put 1 0 rfl (.int .i64 (r : Int))).put 1 1 rfl (.int .i64 (c : Int))).put 1 2 rfl (.slice (some ⟨g, 0, none⟩) NN NN)
 exact post_mat (b := w.heap.size + 1) rfl rfl (hP.at_ 1 rfl) rfl ⟨g, rfl, hP.ge 2 rfl, hP.at_ 2 rfl, ⟨hP.1.os, hP.1.tape, hP.1.output, hP.1.size, fun i hi => hP.1.block i hi (by simp)⟩⟩
end Go.Proofs.YtknaghdoffigjaaGreatDoor
