import Derived.Test.YtknaghdoffigjaaGreatDoorZMOwn
set_option linter.unusedSimpArgs false
set_option linter.unusedVariables false
set_option linter.unnecessarySimpa false
namespace Go.Proofs.YtknaghdoffigjaaGreatDoor
open Go.RowKit Go
attribute [local go_sem] Oper.semAt_some
theorem results_words_tmp {fn : Func} {tmps : Array Value} {w : World} {p u : Tmp} {b : Nat} {A : Option Addr} {n c : Nat} (h : fn.results = #[.cell p 84, .tmp u])
  (ht : tmps.getD p undef = .pointer (some ⟨b, 0, none⟩)) (hc : w.cell? ⟨b, 0, none⟩ = some (.slice A n c)) : (results fn tmps).run Tryz.prog w = .ok (.tuple #[.slice A n c, tmps.getD u undef]) w := by
 have : (loadVar 84 ⟨b, 0, none⟩).run Tryz.prog w = .ok (.slice A n c) w := by simp [loadVar, go_sem, hc]
 rw [Array.getD_eq_getD_getElem?] at ht
 simp only [results, h]
 simp [Sem.run_bind, Result.andThen, ht, asAddr, this]
set_option maxHeartbeats 1000000 in
theorem newTable_moreQ (r c n : Nat) (w : World) (hr : r ≤ 400) (hc : c ≤ 400) (hn : r * c = n) (hn2 : n ≤ 80000) :
  Calls Tryz.prog 124 #[.int .i64 (r : Int), .int .i64 (c : Int)] w fun e w' =>
   ∃ g, e = .returned (mat r c (some ⟨g, 0, none⟩) n n) ∧ w.heap.size ≤ g ∧ Lst w' g (List.replicate n 0) ∧ Below w.heap.size w w' := by
 have hmk := make_words n hn2
 have e1 : (r : Int) * (c : Int) = (n : Int) := by rw [← hn, Int.natCast_mul]
 have w1 : IntKind.i64.wrap (n : Int) = n := IntWalk.i64_in _ (by omega)
 clear hn
 go_enter Tryz.func124, Tryz.ntmps124
 go_wp2
 have hT := (TbQ.new w (r : Int) (c : Int) (some ⟨w.heap.size + 1, 0, none⟩) n n)
 have hT2 : TbQ ((w.alloc (.cells #[.int .i64 (r : Int), .int .i64 (c : Int), .slice (some ⟨w.heap.size + 1, 0, none⟩) n n] 88)).alloc (.cells (U (List.replicate n 0)) 80)) w.heap.size (r : Int) (c : Int) (some ⟨w.heap.size + 1, 0, none⟩) n n := (Below.heap_alloc _ _ _ (by simp)).trans hT
 have hL := Lst.new (w.alloc (.cells #[.int .i64 (r : Int), .int .i64 (c : Int), .slice (some ⟨w.heap.size + 1, 0, none⟩) n n] 88)) (List.replicate n 0)
 rw [show (w.alloc (.cells #[.int .i64 (r : Int), .int .i64 (c : Int), .slice (some ⟨w.heap.size + 1, 0, none⟩) n n] 88)).heap.size = w.heap.size + 1 from by simp] at hL
 exact post_tableQ (b := w.heap.size) rfl rfl hT2 rfl ⟨_, rfl, by omega, hL, below2 _ _ _⟩
set_option maxRecDepth 100000 in
set_option maxHeartbeats 4000000 in
theorem minvert_any (gA n NN cap p : Nat) (zs : List Int) (w : World) (hA : Lw w gA (enc zs)) (hlen : zs.length = n * n) (hNN : n * n = NN) (hn : n ≤ 200) (hcap : NN ≤ cap) (hcapm : cap ≤ maxLen) (hp : 1 < p) (hp2 : p < 2147483648) (hz : ∀ j, (wmag (zs.getD j 0)).size ≤ 900) :
  Calls Tryz.prog 79 #[mmod p, mat n n (some ⟨gA, 0, none⟩) NN cap] w fun e w' => ∃ A c ys d, RedEnd n (n + n) p (invS p zs n n) ys d ∧ e = .returned (.tuple #[.slice A NN c, .int .u64 (d : Int)]) ∧ NN ≤ c ∧ c ≤ maxLen ∧ RdA w' A (invO ys n n) ∧ Below w.heap.size w w' := by
 obtain ⟨NT, hNT⟩ : ∃ NT, n * (n + n) = NT := ⟨_, rfl⟩
 have hNT2 : NT ≤ 80000 := by rw [← hNT]; exact Nat.le_trans (Nat.mul_le_mul hn (show n + n ≤ 400 by omega)) (by omega)
 have hto := fun W => tableOf_any (n : Int) (n : Int) (some ⟨gA, 0, none⟩) NN cap W
 have hnt := fun W => newTable_moreQ n (n + n) NT W (by omega) (by omega) hNT hNT2
 have hrow := fun g (i : Nat) (hi : i < n) W => row_at g n (n + n) i NT NT W hi (by omega) (by omega) (by omega) (Nat.le_of_eq hNT) (by unfold maxLen; omega)
 have hcv := fun A (k : Nat) cp W (hW : RdW W A (enc ((List.range n).map fun j => zs.getD (k * n + j) 0))) => convert_residue A n cp p _ W hW (by simp) (by omega) (by omega) hp2 (fun j hj => by
  rw [List.getD_eq_getElem?_getD, List.getElem?_map, List.getElem?_range hj]
  exact hz _)
 have hrd := fun g W hL => mreduce_any g n (n + n) p NT NT (invS p zs n n) W hL (invS_length p zs n n) (by omega) (by omega) (Nat.le_of_eq hNT) (by unfold maxLen; omega) hp hp2 (invS_lt p zs n n hp)
 obtain ⟨m, hm⟩ : ∃ m, m = n + n := ⟨_, rfl⟩
 rw [← hm] at hnt hrow hrd hNT ⊢
 unfold mat mmod at *
 generalize ((18446744073709551615 / p : Nat) : Int) = q at *
 have w1 : wrap64 (2 * (n : Int)) = (m : Int) := by rw [show (2 : Int) * (n : Int) = (m : Int) from by omega]; exact IntWalk.wrap64_in _ (by omega)
 have hnt2 : ∀ W, Calls Tryz.prog 124 #[.int .i64 (n : Int), .int .i64 (2 * (n : Int))] W fun e w' =>
   ∃ g, e = .returned (.agg #[.int .i64 (n : Int), .int .i64 (m : Int), .slice (some ⟨g, 0, none⟩) NT NT]) ∧ W.heap.size ≤ g ∧ Lst w' g (List.replicate NT 0) ∧ Below W.heap.size W w' := fun W => by
  rw [show (2 : Int) * (n : Int) = (m : Int) from by omega]
  exact hnt W
 replace hnt := hnt2
 clear hnt2
 have HM := Lib.hid hm
 clear hm
 have HTO := Lib.hid hto
 have HNT := Lib.hid hnt
 have HROW := Lib.hid hrow
 have HCV := Lib.hid hcv
 have HRD := Lib.hid hrd
 have HA := Lib.hid hA
 have HLEN := Lib.hid hlen
 have HNN := Lib.hid hNN
 have HNTE := Lib.hid hNT
 have hgA := heap_lt hA
 clear hto hnt hrow hcv hrd hA hlen hNN hNT hz
 have hK1 := ((Kg.none_ none w 3).new 0 (.cells #[.int .u64 (p : Int), .int .u64 q] 82 (0, 0)) rfl).new 1 (mrow n n (some ⟨gA, 0, none⟩) NN cap) rfl
 have HK2 := Lib.hid ((hK1.new 2 (.cells #[.slice none 0 0] 84 (0, 0)) rfl).cast (l' := [some (w.heap.size, .cells #[.int .u64 (p : Int), .int .u64 q] 82 (0, 0)), some (w.heap.size + 1, mrow n n (some ⟨gA, 0, none⟩) NN cap), some (w.heap.size + 1 + 1, .cells #[.slice none 0 0] 84 (0, 0))]) (by simp))
 have hAs : ∀ W l, Kg none w W l → Lw W gA (enc zs) := fun W l h => (h.1.block gA hgA (by simp)).trans HA.out
 have HAS := Lib.hid hAs
 have c0 := HK2.out.cell 1 0 rfl rfl
 clear hK1 hAs
 refine (callsIn_wide (n := 0)).1 ?_
 refine callsIn_of_wp_marks Tryz.func79 rfl trivial ?_ rfl
 simp only [Tryz.ntmps79, List.size_toArray, List.length_cons, List.length_nil, Nat.reduceAdd, Nat.reduceSub, Array.replicate_succ, Array.replicate_zero, List.push_toArray, List.append_toArray, List.nil_append, List.cons_append]
 have HK2b := Lib.hid (HK2.out.more (.cells #[.int .i64 (n : Int)] 3 (0, 0)))
 gi_wp2_with fail
 change _ ∧ _ ∧ CallsIn _ _ _ _ _ ((((w.alloc (.cells #[.int .u64 (p : Int), .int .u64 q] 82 (0, 0))).alloc (mrow n n (some ⟨gA, 0, none⟩) NN cap)).alloc (.cells #[.slice none 0 0] 84 (0, 0))).alloc (.cells #[.int .i64 (n : Int)] 3 (0, 0))) _
 generalize (((w.alloc (.cells #[.int .u64 (p : Int), .int .u64 q] 82 (0, 0))).alloc (mrow n n (some ⟨gA, 0, none⟩) NN cap)).alloc (.cells #[.slice none 0 0] 84 (0, 0))).alloc (.cells #[.int .i64 (n : Int)] 3 (0, 0)) = W2 at *
 have hsz2 : ((w.alloc (.cells #[.int .u64 (p : Int), .int .u64 q] 82 (0, 0))).alloc (mrow n n (some ⟨gA, 0, none⟩) NN cap)).alloc (.cells #[.slice none 0 0] 84 (0, 0)) = ((w.alloc (.cells #[.int .u64 (p : Int), .int .u64 q] 82 (0, 0))).alloc (mrow n n (some ⟨gA, 0, none⟩) NN cap)).alloc (.cells #[.slice none 0 0] 84 (0, 0)) := rfl
 have HK3 := Lib.hid (HK2b.out.cast (l' := [some (w.heap.size, .cells #[.int .u64 (p : Int), .int .u64 q] 82 (0, 0)), some (w.heap.size + 1, mrow n n (some ⟨gA, 0, none⟩) NN cap), some (w.heap.size + 1 + 1, .cells #[.slice none 0 0] 84 (0, 0)), some (w.heap.size + 1 + 1 + 1, .cells #[.int .i64 (n : Int)] 3 (0, 0))]) (by simp))
 clear hsz2 HK2 HK2b c0
 refine ⟨trivial, rfl, ?_⟩
 with_reducible refine (callsIn_wide.2 (HNT.out _)).mono ?_
 rintro e w3 ⟨g, rfl, hg, hLg, hb3⟩
 clear w1
 have HK4 := Lib.hid ((HK3.out.room.came 4 rfl hb3 hg (o := lsO (invS p zs n 0)) (by rw [invS_zero, ← HM.out, HNTE.out]; exact hLg)).more (tabO n m (some ⟨g, 0, none⟩) NT NT))
 clear hb3 hg hLg HK3
 have c0 := HK4.out.cell 1 0 rfl rfl
 have c1 := HK4.out.cell 1 1 rfl rfl
 have c2 := HK4.out.cell 1 2 rfl rfl
 unfold tabO at c0 c1 c2
 gi_wp2_with fail
 change _ ∧ _ ∧ CallsIn _ _ _ _ _ (w3.alloc (tabO n m (some ⟨g, 0, none⟩) NT NT)) _
 generalize w3.alloc (tabO n m (some ⟨g, 0, none⟩) NT NT) = W5 at *
 generalize w3.heap.size = b7 at *
 refine ⟨trivial, rfl, ?_⟩
 with_reducible refine (callsIn_wide.2 (HTO.out _)).mono ?_
 rintro e W6 ⟨rfl, hb6⟩
 have hK6 : Kg none w W6 [some (w.heap.size, .cells #[.int .u64 (p : Int), .int .u64 q] 82 (0, 0)), some (w.heap.size + 1, mrow n n (some ⟨gA, 0, none⟩) NN cap), some (w.heap.size + 1 + 1, .cells #[.slice none 0 0] 84 (0, 0)), some (w.heap.size + 1 + 1 + 1, .cells #[.int .i64 (n : Int)] 3 (0, 0)), some (g, lsO (invS p zs n 0)), some (b7, tabO n m (some ⟨g, 0, none⟩) NT NT)] := HK4.out.step hb6
 have HK6 := Lib.hid hK6
 clear c0 c1 c2 hb6 hK6 HK4
 gi_wp2_with fail
 refine range_boxed (a := ?A) (ps := #[21, 22]) (gf := 59) (first := #[.agg #[.int .i64 (n : Int), .int .i64 (n : Int), .slice (some ⟨gA, 0, none⟩) NN cap]]) ?hg1 (enters_of Tryz.func59 (by kernel_rfl) rfl)
  (each_visits n n (some ⟨gA, 0, none⟩) NN cap (by omega) (by omega) (by rw [HNN.out]; exact hcap) hcapm) ?hps1
  (fun k V => Kg none w V [some (w.heap.size, .cells #[.int .u64 (p : Int), .int .u64 q] 82 (0, 0)), some (w.heap.size + 1, mrow n n (some ⟨gA, 0, none⟩) NN cap), some (w.heap.size + 1 + 1, .cells #[.slice none 0 0] 84 (0, 0)), some (w.heap.size + 1 + 1 + 1, .cells #[.int .i64 (n : Int)] 3 (0, 0)), some (g, lsO (invS p zs n k)), some (b7, tabO n m (some ⟨g, 0, none⟩) NT NT)])
  (fun _ _ => False) ?own ?ownx HK6.out
  (fun k a' V => a' = { tmps := ((((?A).tmps.setIfInBounds 21 (.int .i64 (k : Int))).setIfInBounds 22 (.slice (some ⟨gA, k * n * 2, none⟩) n n)).setIfInBounds 8 (.int .i64 (k : Int))).setIfInBounds 9 (.slice (some ⟨gA, k * n * 2, none⟩) n n), defers := [] })
  (fun _ _ _ _ h _ => h) ?assign ?body ?done (fun _ _ _ _ h => h.elim)
 case hg1 => rfl
 case hps1 => exact fun k => rfl
 case own => exact fun i V V' h hl => h.later' hl HK6.out.1.size rfl
 case ownx => exact fun _ _ _ h _ => h.elim
 case assign =>
  intro l k V K' hk hz hI hK'
  have hn0 : n ≠ 0 := by omega
  unfold rowArgs
  simp only [if_neg hn0, Option.map_some, add_from0]
  clear hI
  gi_wp2
  exact hK' _ _ rfl (Below.refl _ _)
 case body =>
  rintro l k a' V hk hz hl0 hl1 hKV rfl
  simp only [List.setIfInBounds_toArray, List.set_cons_succ, List.set_cons_zero]
  have hrowk := fun W => HROW.out g k hk W
  have hkm : k * m + m ≤ NT := by
   rw [← HNTE.out]
   have := Nat.mul_le_mul_right m (show k + 1 ≤ n by omega)
   rw [Nat.add_mul] at this
   omega
  have hmn := HM.out
  have hin : k * n + n ≤ zs.length := by
   rw [HLEN.out]
   have := Nat.mul_le_mul_right n (show k + 1 ≤ n by omega)
   rw [Nat.add_mul] at this
   omega
  have hrz : (List.range n).map (fun j => (((List.range n).map fun j => zs.getD (k * n + j) 0).getD j 0 % (p : Int)).toNat) = invR p zs n k := by
   unfold invR
   refine List.map_congr_left fun j hj => ?_
   have hj : j < n := by simpa using hj
   rw [List.getD_eq_getElem?_getD, List.getElem?_map, List.getElem?_range hj]
   rfl
  have hcvk := fun W (hW : Lw W gA (enc zs)) => HCV.out (some ⟨gA, k * n * 2, none⟩) k n W (by
   have h := hW.rdAt (k * n) n hin
   have e : enc ((List.range n).map fun j => zs.getD (k * n + j) 0) = (List.range n).map fun j => (wneg (zs.getD (k * n + j) 0), wmag (zs.getD (k * n + j) 0)) := by
    unfold enc
    rw [List.map_map]
    rfl
   rw [e]
   exact h)
  rw [hrz] at hcvk
  have hSl : (invS p zs n k).length = NT := by rw [invS_length, ← HNTE.out, hmn]
  have hRl : (invR p zs n k).length = n := by simp [invR]
  have hnx := invS_next p zs n k hk
  rw [← hmn] at hnx
  obtain ⟨nk, hnk⟩ : ∃ nk, nk = n + k := ⟨_, rfl⟩
  rw [← hnk] at hnx
  have hnkm : nk < m := by omega
  have w3 : IntKind.i64.wrap ((n : Int) + (k : Int)) = (nk : Int) := by rw [show (n : Int) + (k : Int) = (nk : Int) from by omega]; exact IntWalk.i64_in _ (by omega)
  have HW3 := Lib.hid w3
  clear w3
  have hnm : n ≤ m := by omega
  generalize hmid : cpL (k * m) n (invR p zs n k) (invS p zs n k) = mid at *
  have hMl : mid.length = NT := by rw [← hmid, cpL_length _ _ _ _ (by omega) (by omega), hSl]
  have HROWk := Lib.hid hrowk
  have HCVk := Lib.hid hcvk
  have HMID := Lib.hid hmid
  have HNX := Lib.hid hnx
  have HSL := Lib.hid hSl
  have HRL := Lib.hid hRl
  have HML := Lib.hid hMl
  have HKM := Lib.hid hkm
  have HKV := Lib.hid hKV.room
  have Hkk := Lib.hid (Kept.refl W6.heap.size V)
  have hgl := HK6.out.lt 4 rfl
  clear hrowk hcvk hmid hnx hSl hRl hMl hKV hrz hin hnk hmn hl1 hz
  obtain ⟨km, hkme⟩ : ∃ km, km = k * m := ⟨_, rfl⟩
  rw [← hkme] at HROWk HMID HNX HKM
  have HKME := Lib.hid hkme
  clear hkme hkm
  gi_wp2_with fail
  refine wpIn_region_facts (X := Nat) (fun x => [(0, 23, .agg #[.int .i64 (n : Int), .int .i64 (m : Int), .slice (some ⟨g, 0, none⟩) NT NT]), (1, 24, .int .i64 (k : Int)), (2, 25, .slice (some ⟨g, km, none⟩) m m), (3, 26, .slice (some ⟨gA, k * n * 2, none⟩) n n), (4, 27, .agg #[.int .u64 (p : Int), .int .u64 q]), (5, 28, .func (.func 70) #[.agg #[.int .u64 (p : Int), .int .u64 q]] #[]), (6, 29, .slice (some ⟨x, 0, none⟩) n n), (7, 30, .int .i64 (n : Int))])
   (fun x L W => Kg none w W [some (w.heap.size, .cells #[.int .u64 (p : Int), .int .u64 q] 82 (0, 0)), some (w.heap.size + 1, mrow n n (some ⟨gA, 0, none⟩) NN cap), some (w.heap.size + 1 + 1, .cells #[.slice none 0 0] 84 (0, 0)), some (w.heap.size + 1 + 1 + 1, .cells #[.int .i64 (n : Int)] 3 (0, 0)), some (g, lsO (if L 7 = true then mid else invS p zs n k)), some (b7, tabO n m (some ⟨g, 0, none⟩) NT NT), entO (L 6) x (lsO (invR p zs n k))] ∧ Kept W6.heap.size V W) (by kernel_rfl) (by kernel_rfl) 0 ?st (by kernel_rfl) ?_ ?_
  case st => exact ⟨by simpa [entO_no] using HKV.out.drew, Hkk.out.drew⟩
  ·repeat' (first | exact FactStepsIn.nil | refine FactStepsIn.cons ?_ ?_)
   all_goals
    intro L x wx hJ hl hd hs K hK
    (try simp [Region.binds] at hd)
    have e0 := hJ.1.cell 5 0 rfl rfl
    have e1 := hJ.1.cell 5 1 rfl rfl
    have e2 := hJ.1.cell 5 2 rfl rfl
    have e3 := hJ.1.cell 0 0 rfl rfl
    have e4 := hJ.1.cell 0 1 rfl rfl
    simp only [selA, selT_cons, selT_nil, List.set_cons_zero, List.set_cons_succ, List.getD_cons_zero, List.getD_cons_succ, hd, hl, selV_true, selV_false]
   ·go_simp
    refine hK.out x _ _ ?_ ?_
    ·simp [selA, selT_cons, selT_nil, hl, hd, selV_true, selV_false]
    ·exact ⟨by simpa [hl] using hJ.1, hJ.2⟩
   ·go_simp
    refine hK.out x _ _ ?_ ?_
    ·simp [selA, selT_cons, selT_nil, hl, hd, selV_true, selV_false]
    ·exact ⟨by simpa [hl] using hJ.1, hJ.2⟩
   ·go_simp
    refine ⟨trivial, rfl, ?_⟩
    with_reducible refine (CallsIn.inRound l (callsIn_wide.2 (HROWk.out _))).mono ?_
    rintro e v ⟨rfl, hb⟩
    refine hK.out x _ _ ?_ ?_
    ·simp [selA, selT_cons, selT_nil, hl, hd, selV_true, selV_false]
    ·exact ⟨by simpa using hJ.1.step hb, hJ.2.below hb⟩
   ·go_simp
    refine hK.out x _ _ ?_ ?_
    ·simp [selA, selT_cons, selT_nil, hl, hd, selV_true, selV_false]
    ·exact ⟨by simpa [hl] using hJ.1, hJ.2⟩
   ·go_simp
    refine hK.out x _ _ ?_ ?_
    ·simp [selA, selT_cons, selT_nil, hl, hd, selV_true, selV_false]
    ·exact ⟨by simpa [hl] using hJ.1, hJ.2⟩
   ·go_simp
    refine hK.out x _ _ ?_ ?_
    ·simp [selA, selT_cons, selT_nil, hl, hd, selV_true, selV_false]
    ·exact ⟨by simpa [hl] using hJ.1, hJ.2⟩
   ·have hn := hs 7 _ rfl (by simp [Region.binds])
    have hB := hJ.1
    simp only [hn, hl, Bool.false_eq_true, if_false, entO_no] at hB
    go_simp
    refine ⟨trivial, rfl, ?_⟩
    with_reducible refine (CallsIn.inRound l (callsIn_wide.2 (HCVk.out _ (HAS.out _ _ hB)))).mono ?_
    rintro e v ⟨h, rfl, hh, hLh, hb⟩
    refine hK.out h _ _ ?_ ?_
    ·simp [selA, selT_cons, selT_nil, hl, hd, hn, selV_true, selV_false]
    ·exact ⟨(hB.came 6 rfl hb hh (o := lsO (invR p zs n k)) hLh).cast (by simp [hn, entO_yes]), hJ.2.below hb⟩
   ·have hB := hJ.1
    simp only [hl, hd, Bool.false_eq_true, if_false, entO_yes] at hB
    have hLg : Lst wx g (invS p zs n k) := hB.at_ 4 rfl
    have hLh : Lst wx x (invR p zs n k) := hB.at_ 6 rfl
    have hcp := copyQ wx g km m m (invS p zs n k) hLg (some ⟨x, 0, none⟩) n n n _ hLh.rd HRL.out (show n = Nat.min n m from (Nat.min_eq_left hnm).symm) (by rw [HSL.out]; have := HKM.out; omega)
    rw [HMID.out] at hcp
    have HGr := Lib.hid (grown_setRow wx g (U mid))
    have HLg := Lib.hid hLg
    clear hLg hLh hB
    go_simp
    refine hK.out x _ _ ?_ ?_
    ·simp [selA, selT_cons, selT_nil, hl, hd, selV_true, selV_false]
    ·have hB := hJ.1
     simp only [hl, hd, Bool.false_eq_true, if_false, entO_yes] at hB
     exact ⟨(hB.change 4 rfl HGr.out (o' := lsO mid) (setRow_heap wx g _ _ _ _ HLg.out)).cast (by simp [hd, entO_yes]), hJ.2.grown HGr.out hgl⟩
  ·rintro h Wx ⟨hKx, hkx⟩
   simp only [selA, selT_cons, selT_nil, List.set_cons_zero, List.set_cons_succ, List.getD_cons_zero, List.getD_cons_succ, selV_true]
   simp only [if_true, entO_yes] at hKx
   have HK7 := Lib.hid (show Kg none w Wx [some (w.heap.size, .cells #[.int .u64 (p : Int), .int .u64 q] 82 (0, 0)), some (w.heap.size + 1, mrow n n (some ⟨gA, 0, none⟩) NN cap), some (w.heap.size + 1 + 1, .cells #[.slice none 0 0] 84 (0, 0)), some (w.heap.size + 1 + 1 + 1, .cells #[.int .i64 (n : Int)] 3 (0, 0)), some (g, lsO (mid)), some (b7, tabO n m (some ⟨g, 0, none⟩) NT NT)] from hKx.take 6)
   have Hk7 := Lib.hid hkx
   clear hKx hkx HKV Hkk
   gi_wp2_with fail
   refine wpIn_region_facts (X := Unit) (fun x => [(0, 31, .agg #[.int .i64 (n : Int), .int .i64 (m : Int), .slice (some ⟨g, 0, none⟩) NT NT]), (1, 32, .int .i64 (k : Int)), (2, 33, .slice (some ⟨g, km, none⟩) m m), (3, 34, .int .i64 (n : Int)), (4, 35, .int .i64 (k : Int)), (5, 36, .int .i64 (nk : Int)), (6, 37, .pointer (some ⟨g, km + nk, none⟩))])
    (fun _ L W => Kg none w W [some (w.heap.size, .cells #[.int .u64 (p : Int), .int .u64 q] 82 (0, 0)), some (w.heap.size + 1, mrow n n (some ⟨gA, 0, none⟩) NN cap), some (w.heap.size + 1 + 1, .cells #[.slice none 0 0] 84 (0, 0)), some (w.heap.size + 1 + 1 + 1, .cells #[.int .i64 (n : Int)] 3 (0, 0)), some (g, lsO (if L 7 = true then invS p zs n (k + 1) else mid)), some (b7, tabO n m (some ⟨g, 0, none⟩) NT NT)] ∧ Kept W6.heap.size V W) (by kernel_rfl) (by kernel_rfl) () ?st (by kernel_rfl) ?_ ?_
   case st => exact ⟨by simpa using HK7.out.drew, Hk7.out.drew⟩
   ·repeat' (first | exact FactStepsIn.nil | refine FactStepsIn.cons ?_ ?_)
    all_goals
     intro L x wx hJ hl hd hs K hK
     (try simp [Region.binds] at hd)
     have e0 := hJ.1.cell 5 0 rfl rfl
     have e1 := hJ.1.cell 5 1 rfl rfl
     have e2 := hJ.1.cell 5 2 rfl rfl
     have e3 := hJ.1.cell 3 0 rfl rfl
     simp only [selA, selT_cons, selT_nil, List.set_cons_zero, List.set_cons_succ, List.getD_cons_zero, List.getD_cons_succ, hd, hl, selV_true, selV_false]
    ·go_simp
     refine hK.out x _ _ ?_ ?_
     ·simp [selA, selT_cons, selT_nil, hl, hd, selV_true, selV_false]
     ·exact ⟨by simpa [hl] using hJ.1, hJ.2⟩
    ·go_simp
     refine hK.out x _ _ ?_ ?_
     ·simp [selA, selT_cons, selT_nil, hl, hd, selV_true, selV_false]
     ·exact ⟨by simpa [hl] using hJ.1, hJ.2⟩
    ·go_simp
     refine ⟨trivial, rfl, ?_⟩
     with_reducible refine (CallsIn.inRound l (callsIn_wide.2 (HROWk.out _))).mono ?_
     rintro e v ⟨rfl, hb⟩
     refine hK.out x _ _ ?_ ?_
     ·simp [selA, selT_cons, selT_nil, hl, hd, selV_true, selV_false]
     ·exact ⟨by simpa using hJ.1.step hb, hJ.2.below hb⟩
    ·go_simp
     refine hK.out x _ _ ?_ ?_
     ·simp [selA, selT_cons, selT_nil, hl, hd, selV_true, selV_false]
     ·exact ⟨by simpa [hl] using hJ.1, hJ.2⟩
    ·go_simp
     refine hK.out x _ _ ?_ ?_
     ·simp [selA, selT_cons, selT_nil, hl, hd, selV_true, selV_false]
     ·exact ⟨by simpa [hl] using hJ.1, hJ.2⟩
    ·have w3 := HW3.out
     go_simp
     refine hK.out x _ _ ?_ ?_
     ·simp [selA, selT_cons, selT_nil, hl, hd, selV_true, selV_false]
     ·exact ⟨by simpa [hl] using hJ.1, hJ.2⟩
    ·go_simp
     refine hK.out x _ _ ?_ ?_
     ·simp [selA, selT_cons, selT_nil, hl, hd, selV_true, selV_false]
     ·exact ⟨by simpa [hl] using hJ.1, hJ.2⟩
    ·have hB := hJ.1
     simp only [hl, Bool.false_eq_true, if_false] at hB
     have hLg : Lst wx g mid := hB.at_ 4 rfl
     have d0 := hLg.cell (k := km + nk) (by rw [HML.out]; have := HKM.out; omega)
     have f0 := hLg.frozen (km + nk)
     generalize mid.getD (km + nk) 0 = u0 at d0
     have hP := hLg.set (km + nk) 1
     rw [HNX.out] at hP
     have HP := Lib.hid hP
     clear hP hLg hB
     go_simp
     refine hK.out x _ _ ?_ ?_
     ·simp [selA, selT_cons, selT_nil, hl, hd, selV_true, selV_false]
     ·have hB := hJ.1
      simp only [hl, Bool.false_eq_true, if_false] at hB
      have hGr := grownBy_setRow (g := g) (p := ⟨g, km + nk, none⟩) (World.grownBy.refl wx _) rfl (.int .u64 1)
      exact ⟨by simpa using hB.change 4 rfl hGr (o' := lsO (invS p zs n (k + 1))) HP.out, hJ.2.grown hGr hgl⟩
   ·rintro _ Wy ⟨hKy, hky⟩
    simp only [selA, selT_cons, selT_nil, List.set_cons_zero, List.set_cons_succ, List.getD_cons_zero, List.getD_cons_succ, selV_true]
    simp only [if_true] at hKy
    gi_wp2_with fail
    exact ⟨hky, hKy⟩
 case done =>
  rintro D V hD h2 hd
  have c0 := h2.cell 0 0 rfl rfl
  have c1 := h2.cell 0 1 rfl rfl
  have c2 := h2.cell 5 0 rfl rfl
  have c3 := h2.cell 5 1 rfl rfl
  have c4 := h2.cell 5 2 rfl rfl
  have hL := h2.at_ 4 rfl
  have hrd := HRD.out g V hL
  have hDl := heap_lt hd
  have HK8 := Lib.hid h2
  have HDD := Lib.hid hd
  have hgW6 : g < W6.heap.size := HK6.out.lt 4 rfl
  have hgw := HK6.out.ge 4 rfl
  clear h2 hd hL
  gi_wp2_with fail
  refine ⟨trivial, rfl, ?_⟩
  with_reducible refine (callsIn_wide.2 hrd).mono ?_
  rintro e V9 ⟨ys, d, hred, rfl, hLy, hGy⟩
  have hK9 : Kg none w V9 [some (w.heap.size, .cells #[.int .u64 (p : Int), .int .u64 q] 82 (0, 0)), some (w.heap.size + 1, mrow n n (some ⟨gA, 0, none⟩) NN cap), some (w.heap.size + 1 + 1, .cells #[.slice none 0 0] 84 (0, 0)), some (w.heap.size + 1 + 1 + 1, .cells #[.int .i64 (n : Int)] 3 (0, 0)), some (g, lsO (ys)), some (b7, tabO n m (some ⟨g, 0, none⟩) NT NT)] := HK8.out.change 4 rfl hGy (o' := lsO ys) hLy
  have hd9 : V9.heap[D]? = some (.deferred (some [])) := (hGy.block D hDl (by simp; omega)).trans HDD.out
  have hD9 := heap_lt hd9
  clear c0 c1 c2 c3 c4 hrd hGy HK8 HDD
  have c2 := hK9.cell 5 0 rfl rfl
  have c3 := hK9.cell 5 1 rfl rfl
  have c4 := hK9.cell 5 2 rfl rfl
  have HK9 := Lib.hid hK9
  have HD9 := Lib.hid hd9
  have HRED := Lib.hid hred
  clear hK9 hd9 hred hLy
  gi_wp2_with fail
  clear c2 c3 c4
  refine range_owned (a := ?A2) (ps := #[43, 44]) (e := 1) (gf := 111) (first := #[.agg #[.int .i64 (n : Int), .int .i64 (m : Int), .slice (some ⟨g, 0, none⟩) NT NT]]) ?hg2 (enters_of Tryz.func111 (by kernel_rfl) rfl)
   (each_visitsToQ n m (some ⟨g, 0, none⟩) NT NT (by omega) (by have := HM.out; omega) (by rw [HNTE.out]; exact Nat.le_refl _) (by unfold maxLen; omega)) ?hps2
   (fun k W => ∃ v, Kg none w W [some (w.heap.size, .cells #[.int .u64 (p : Int), .int .u64 q] 82 (0, 0)), some (w.heap.size + 1, mrow n n (some ⟨gA, 0, none⟩) NN cap), some (w.heap.size + 1 + 1, .cells #[v] 84 (0, 0)), some (w.heap.size + 1 + 1 + 1, .cells #[.int .i64 (n : Int)] 3 (0, 0)), some (g, lsO (ys)), some (b7, tabO n m (some ⟨g, 0, none⟩) NT NT)] ∧ OwQ W (V9.heap.size + 3) v (invO ys n k) ∧ W.heap[D]? = some (.deferred (some [])))
   (fun _ _ => False) ?own2 ?ownx2 ⟨_, HK9.out, OwQ.nil _ _, HD9.out⟩
   (fun k a' W => a' = { tmps := (((?A2).tmps.setIfInBounds 43 (.int .i64 (k : Int))).setIfInBounds 44 (.slice (some ⟨g, k * m, none⟩) m m)).setIfInBounds 11 (.slice (some ⟨g, k * m, none⟩) m m), defers := [] })
   (fun _ _ _ _ h _ => h) ?assign2 ?body2 ?done2 (fun _ _ _ _ h => h.elim)
  case hg2 => rfl
  case hps2 => exact fun k => rfl
  case own2 =>
   rintro k W W' ⟨v, h1, h2, h3⟩ hl
   exact ⟨v, h1.later' hl (Nat.le_trans HK6.out.1.size (by have := HK9.out.1.size; have := HK9.out.lt 4 rfl; exact Nat.le_of_lt_succ (by omega))) rfl, h2.later hl, (hl.1.block D hD9).trans h3⟩
  case ownx2 => exact fun _ _ _ h _ => h.elim
  case assign2 =>
   intro l k W K' hk hz hI hK'
   have hm0 : m ≠ 0 := by have := HM.out; omega
   unfold rowArgsQ
   simp only [if_neg hm0, Option.map_some, add_from0]
   clear hI
   gi_wp2
   exact hK' _ _ rfl (Below.refl _ _)
  case body2 =>
   rintro l k a' W hk hz hl0 hl1 ⟨v, hKW, hOW, hDW⟩ rfl
   simp only [List.setIfInBounds_toArray, List.set_cons_succ, List.set_cons_zero]
   have hmn := HM.out
   have hkm : k * m + m ≤ NT := by
    rw [← HNTE.out]
    have := Nat.mul_le_mul_right m (show k + 1 ≤ n by omega)
    rw [Nat.add_mul] at this
    omega
   have hyl : ys.length = NT := by
    rcases HRED.out with ⟨k0, _, _, _, e, _⟩ | ⟨_, e, _⟩
    ·rw [e, redY_length, invS_length, ← HNTE.out, ← hmn]
    ·rw [e, redX_length, invS_length, ← HNTE.out, ← hmn]
   have hnm : n < m := by omega
   have hcut := fun W => cut_at g (k * m) m n hnm W
   rw [show m - n = n by omega] at hcut
   have hol := invO_length ys n k (by rw [hyl, ← HNTE.out, ← hmn]; exact Nat.mul_le_mul_right m (by omega))
   have hkn : k * n + n ≤ 40000 := by
    have h1 : (k + 1) * n ≤ 200 * 200 := Nat.mul_le_mul (by omega) hn
    rw [Nat.add_mul] at h1
    omega
   have hnxt : invO ys n (k + 1) = invO ys n k ++ (ys.drop (k * m + n)).take n := by rw [invO, hmn]
   have hlt : ∀ (j c : Nat) (o : Obj), ([some (w.heap.size, .cells #[.int .u64 (p : Int), .int .u64 q] 82 (0, 0)), some (w.heap.size + 1, mrow n n (some ⟨gA, 0, none⟩) NN cap), some (w.heap.size + 1 + 1, .cells #[v] 84 (0, 0)), some (w.heap.size + 1 + 1 + 1, .cells #[.int .i64 (n : Int)] 3 (0, 0)), some (g, lsO (ys)), some (b7, tabO n m (some ⟨g, 0, none⟩) NT NT)] : List (Option (Nat × Obj)))[j]? = some (some (c, o)) → c < V9.heap.size := fun j c o hj => by
    match j, hj with
    | 0, hj => simp at hj; rw [← hj.1]; exact HK9.out.lt 0 rfl
    | 1, hj => simp at hj; rw [← hj.1]; exact HK9.out.lt 1 rfl
    | 2, hj => simp at hj; rw [← hj.1]; exact HK9.out.lt 2 rfl
    | 3, hj => simp at hj; rw [← hj.1]; exact HK9.out.lt 3 rfl
    | 4, hj => simp at hj; rw [← hj.1]; exact HK9.out.lt 4 rfl
    | 5, hj => simp at hj; rw [← hj.1]; exact HK9.out.lt 5 rfl
    | j + 6, hj => simp at hj
   have HNXT := Lib.hid hnxt
   have HOL := Lib.hid hol
   have HYL := Lib.hid hyl
   have HKM := Lib.hid hkm
   have HKN := Lib.hid hkn
   have HLT := Lib.hid hlt
   have HKW := Lib.hid hKW
   have HOW := Lib.hid hOW
   have HDW := Lib.hid hDW
   have hb4l := HK9.out.lt 2 rfl
   have hb6l := HK6.out.lt 2 rfl
   clear hmn hyl hol hkn hnxt hlt hKW hOW hDW hl1 hkm
   gi_wp2_with fail
   refine wpIn_region_facts (X := Value) (fun x => [(0, 45, v), (1, 46, .slice (some ⟨g, k * m, none⟩) m m), (2, 47, .int .i64 (n : Int)), (3, 48, .slice (some ⟨g, k * m + n, none⟩) n n), (4, 49, x)])
    (fun x L X => Kg none w X [some (w.heap.size, .cells #[.int .u64 (p : Int), .int .u64 q] 82 (0, 0)), some (w.heap.size + 1, mrow n n (some ⟨gA, 0, none⟩) NN cap), some (w.heap.size + 1 + 1, .cells #[if L 5 = true then x else v] 84 (0, 0)), some (w.heap.size + 1 + 1 + 1, .cells #[.int .i64 (n : Int)] 3 (0, 0)), some (g, lsO (ys)), some (b7, tabO n m (some ⟨g, 0, none⟩) NT NT)] ∧ OwQ X (V9.heap.size + 3) (if L 4 = true then x else v) (if L 4 = true then invO ys n (k + 1) else invO ys n k) ∧ KeptTo V9.heap.size (V9.heap.size + 2 + 1) W X ∧ X.heap[D]? = some (.deferred (some []))) (by kernel_rfl) (by kernel_rfl) v ?st (by kernel_rfl) ?_ ?_
   case st => exact ⟨by simpa using HKW.out.drew, by simpa using HOW.out.drew, (KeptTo.refl _ _ _).drew, HDW.out⟩
   ·repeat' (first | exact FactStepsIn.nil | refine FactStepsIn.cons ?_ ?_)
    all_goals
     intro L x wx hJ hl hd hs K hK
     (try simp [Region.binds] at hd)
     have e0 := hJ.1.cell 3 0 rfl rfl
     simp only [selA, selT_cons, selT_nil, List.set_cons_zero, List.set_cons_succ, List.getD_cons_zero, List.getD_cons_succ, hd, hl, selV_true, selV_false]
    ·have hn5 := hs 5 _ rfl (by simp [Region.binds])
     have hB := hJ.1
     simp only [hn5, Bool.false_eq_true, if_false] at hB
     have e1 := hB.cell 2 0 rfl rfl
     go_simp
     refine hK.out x _ _ ?_ ?_
     ·simp [selA, selT_cons, selT_nil, hl, hd, hn5, selV_true, selV_false]
     ·exact ⟨by simpa [hl] using hJ.1, by simpa [hl] using hJ.2.1, hJ.2.2⟩
    ·go_simp
     refine hK.out x _ _ ?_ ?_
     ·simp [selA, selT_cons, selT_nil, hl, hd, selV_true, selV_false]
     ·exact ⟨by simpa [hl] using hJ.1, by simpa [hl] using hJ.2.1, hJ.2.2⟩
    ·go_simp
     refine hK.out x _ _ ?_ ?_
     ·simp [selA, selT_cons, selT_nil, hl, hd, selV_true, selV_false]
     ·exact ⟨by simpa [hl] using hJ.1, by simpa [hl] using hJ.2.1, hJ.2.2⟩
    ·go_simp
     refine hK.out x _ _ ?_ ?_
     ·simp [selA, selT_cons, selT_nil, hl, hd, selV_true, selV_false]
     ·exact ⟨by simpa [hl] using hJ.1, by simpa [hl] using hJ.2.1, hJ.2.2⟩
    ·have hn5 := hs 5 _ rfl (by simp [Region.binds])
     have hB := hJ.1
     have hO := hJ.2.1
     simp only [hn5, Bool.false_eq_true, if_false] at hB
     simp only [hl, Bool.false_eq_true, if_false] at hO
     have hLy : Lst wx g ys := hB.at_ 4 rfl
     have hin : k * m + n + n ≤ ys.length := by rw [HYL.out]; have := HKM.out; have := HM.out; omega
     have hszW : V9.heap.size + 3 ≤ wx.heap.size := Nat.le_trans hz hJ.2.2.1.1
     obtain ⟨v', w', hrun, hO', hgr⟩ := appendQ wx (V9.heap.size + 3) v (invO ys n k) hO ⟨g, k * m + n, none⟩ n n _ (hLy.rdAt (k * m + n) n hin) (by rw [List.length_take, List.length_drop]; omega) (by rw [HOL.out]; have := HKN.out; omega) hszW
     rw [← HNXT.out] at hO'
     have HO := Lib.hid hO
     have HO' := Lib.hid hO'
     have HGR := Lib.hid hgr
     clear hO hO' hgr hLy hB
     rw [if_pos (by kernel_rfl)]
     refine wpIn_append_run (.tmp 45) (.tmp 48) 84 rfl _ _ v' rfl rfl hrun ?_
     refine hK.out v' _ _ ?_ ?_
     ·simp [selA, selT_cons, selT_nil, hl, hd, hn5, selV_true, selV_false, Act.put]
     ·have hB := hJ.1
      simp only [hn5, Bool.false_eq_true, if_false] at hB
      refine ⟨by simpa [hn5] using hB.other HGR.out (fun j e => ⟨by have := HO.out.own j e; have := HK9.out.1.size; omega, fun i c o hi => by have := HLT.out i c o hi; have := HO.out.own j e; omega⟩), by simpa using HO'.out, hJ.2.2.1.grown HGR.out (fun j e => by have := HO.out.own j e; omega), (HGR.out.block D (heap_lt hJ.2.2.2) (fun e => by have := HO.out.own D e.symm; omega)).trans hJ.2.2.2⟩
    ·have hB := hJ.1
     have hO := hJ.2.1
     simp only [hl, Bool.false_eq_true, if_false] at hB
     simp only [hd, if_true] at hO
     have d0 := hB.cell 2 0 rfl rfl
     have f0 := hB.frozen 2 0 rfl
     have HO := Lib.hid hO
     obtain ⟨Ax, cx, hx, _, _, _⟩ := hO.rd
     subst hx
     clear hO hB
     go_simp
     refine hK.out (.slice Ax (invO ys n (k + 1)).length cx) _ _ ?_ ?_
     ·simp [selA, selT_cons, selT_nil, hl, hd, selV_true, selV_false]
     ·have hB := hJ.1
      simp only [hl, Bool.false_eq_true, if_false] at hB
      exact ⟨by simpa using hB.put 2 0 rfl (.slice Ax (invO ys n (k + 1)).length cx), by simpa [hd] using HO.out.block (fun i hi _ => Below.heap_setCell _ _ _ _ (by simp only []; omega)), hJ.2.2.1.put (p := ⟨w.heap.size + 1 + 1, 0, none⟩) (by simp only []; omega) _, (Below.heap_setCell _ _ _ _ (by simp only []; omega)).trans hJ.2.2.2⟩
   ·rintro x' Wx ⟨hKx, hOx, hkx, hDx⟩
    simp only [selA, selT_cons, selT_nil, List.set_cons_zero, List.set_cons_succ, List.getD_cons_zero, List.getD_cons_succ, selV_true]
    simp only [if_true] at hKx hOx
    gi_wp2_with fail
    exact ⟨hkx, x', hKx, hOx, hDx⟩
  case done2 =>
   rintro D2 W hD2 ⟨v, hKW, hOW, hDW⟩ hd2
   obtain ⟨Ax, cx, hx, hc1, hc2, hrdx⟩ := hOW.rd
   subst hx
   have hlen : (invO ys n n).length = NN := by
    have hyl : ys.length = NT := by
     rcases HRED.out with ⟨k0, _, _, _, e, _⟩ | ⟨_, e, _⟩
     ·rw [e, redY_length, invS_length, ← HNTE.out, HM.out]
     ·rw [e, redX_length, invS_length, ← HNTE.out, HM.out]
    rw [invO_length ys n n (by rw [hyl, ← HNTE.out, HM.out]; exact Nat.le_refl _), HNN.out]
   rw [hlen] at hc1 hKW
   have d0 := hKW.cell 2 0 rfl rfl
   have f0 := hKW.frozen 2 0 rfl
   have HKW := Lib.hid hKW
   have HRX := Lib.hid hrdx
   have hb6l := HK6.out.lt 2 rfl
   have HDW := Lib.hid hDW
   have HD2 := Lib.hid hd2
   have HOWW := Lib.hid hOW
   clear hKW hrdx hOW hlen hDW hd2
   gi_wp2_with fail
   have hg1 := (Below.heap_setCell W ⟨w.heap.size + 1 + 1, 0, none⟩ (.slice Ax NN cx) D (by simp only []; omega)).trans HDW.out
   have hg2 := (Below.heap_setCell W ⟨w.heap.size + 1 + 1, 0, none⟩ (.slice Ax NN cx) D2 (by simp only []; omega)).trans HD2.out
   have hK3 := HKW.out.put 2 0 rfl (.slice Ax NN cx)
   have hlp1 := later_put (B := V9.heap.size) (.deferred none) hD2 hg2 rfl
   have hg3 := (hlp1.1.block D hD9).trans hg1
   have hlp2 := later_put (B := W6.heap.size) (.deferred none) hD hg3 rfl
   have hV9 := HK9.out.1.size
   have hK4 := (hK3.later' hlp1 hV9 rfl).later' hlp2 HK6.out.1.size rfl
   have hOW2 := ((HOWW.out.block (w' := W.setCell ⟨w.heap.size + 1 + 1, 0, none⟩ (.slice Ax NN cx)) (fun i hi _ => Below.heap_setCell _ _ _ _ (by have := HK9.out.lt 2 rfl; simp only []; omega))).later hlp1).later hlp2
   obtain ⟨A', c', e, _, _, hr⟩ := hOW2.rd
   injection e with e1 e2 e3
   subst e1
   refine ⟨by simp, .inl ⟨_, _, rfl, run_takeDeferred hg2, ?_⟩⟩
   refine ⟨by simp, .inl ⟨_, _, rfl, run_takeDeferred hg3, ?_⟩⟩
   exact ⟨_, results_words_tmp (b := w.heap.size + 1 + 1) rfl rfl (hK4.cell 2 0 rfl rfl), Ax, cx, ys, d, HRED.out, rfl, hc1, hc2, hr, ⟨hK4.1.os, hK4.1.tape, hK4.1.output, hK4.1.size, fun i hi => hK4.1.block i hi (by simp)⟩⟩
end Go.Proofs.YtknaghdoffigjaaGreatDoor
