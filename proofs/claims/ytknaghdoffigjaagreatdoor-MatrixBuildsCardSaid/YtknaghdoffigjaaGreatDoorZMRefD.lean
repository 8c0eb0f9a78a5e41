/-
  The contracts of the reference's Right and At. The contract of the reference's One.
-/
import Derived.Test.YtknaghdoffigjaaGreatDoorZMRefA
import Derived.Test.YtknaghdoffigjaaGreatDoorZRFrom
set_option linter.unusedSimpArgs false
set_option linter.unusedVariables false
set_option linter.unnecessarySimpa false
namespace Go.Proofs.YtknaghdoffigjaaGreatDoor
open Go.RowKit Go

set_option maxHeartbeats 4000000 in
theorem rRight_any (r c : Int) (A : Option Addr) (n cap : Nat) (zs : List (Bool × ByteArray)) (w : World) (hr : RdW w A zs) (hn : zs.length = n) (hm : n ≤ maxLen) :
    Calls Tryz.prog 33 #[mat r c A n cap] w fun e w' => e = .returned (.bool (mright r c zs)) ∧ Below w.heap.size w w' := by
  unfold mat
  have hf := fun W => rfits_any r c W
  have hM := Mb.new w r c A n cap
  have hB := alloc_mat w r c A n cap
  have hcan := rCanonical_any A n cap zs _ (hr.below hB) hn hm
  have c0 := hM.cell0
  have c1 := hM.cell1
  have c2 := hM.cell2
  have HB := Lib.hid hB
  have HC := Lib.hid hcan
  clear hM hB hcan
  cases h1 : (msize r && msize c) with
  | false =>
    have hmr : mright r c zs = false := by unfold mright; rw [h1]; rfl
    rw [hmr]
    rw [h1] at hf
    have HF := Lib.hid hf
    clear hf h1 hmr
    go_enter Tryz.func33, Tryz.ntmps33
    go_wp2_with fail
    with_reducible refine (HF.out _).mono ?_
    rintro e w1 ⟨rfl, rfl⟩
    go_wp2
    go_ret
    exact ⟨rfl, HB.out⟩
  | true =>
    rw [h1] at hf
    have HF := Lib.hid hf
    have hb : (0 ≤ r ∧ r ≤ 200) ∧ (0 ≤ c ∧ c ≤ 200) := by
      unfold msize at h1
      simpa using h1
    have hrc : 0 ≤ r * c ∧ r * c ≤ 40000 := by
      obtain ⟨⟨a, b⟩, d, e⟩ := hb
      exact ⟨Int.mul_nonneg a d, Int.le_trans (Int.mul_le_mul b e d (by omega)) (by omega)⟩
    have w1 : wrap64 (r * c) = r * c := IntWalk.wrap64_in _ (by omega)
    cases h2 : decide ((zs.length : Int) = r * c) with
    | false =>
      have hmr : mright r c zs = false := by unfold mright; rw [h1, h2]; rfl
      rw [hmr]
      have hne : ((n : Int) != r * c) = true := by
        rw [bne_iff_ne]
        rw [decide_eq_false_iff_not, hn] at h2
        exact h2
      clear hf h1 h2 hmr hb hn hrc
      go_enter Tryz.func33, Tryz.ntmps33
      go_wp2_with fail
      with_reducible refine (HF.out _).mono ?_
      rintro e w1 ⟨rfl, rfl⟩
      go_wp2
      go_ret
      exact ⟨rfl, HB.out⟩
    | true =>
      have hmr : mright r c zs = !zs.any fun p => ncan p.1 p.2 := by unfold mright; rw [h1, h2]; rfl
      rw [hmr]
      have hne : ((n : Int) != r * c) = false := by
        rw [bne_eq_false_iff_eq]
        rw [decide_eq_true_iff, hn] at h2
        exact h2
      generalize (!zs.any fun p => ncan p.1 p.2) = res at *
      clear hf h1 h2 hmr hb hn hrc
      go_enter Tryz.func33, Tryz.ntmps33
      go_wp2_with fail
      with_reducible refine (HF.out _).mono ?_
      rintro e w1 ⟨rfl, rfl⟩
      go_wp2_with fail
      with_reducible refine HC.out.mono ?_
      rintro e w1 ⟨rfl, rfl⟩
      go_wp2
      go_ret
      exact ⟨rfl, HB.out⟩
set_option maxHeartbeats 4000000 in
theorem rAt_no (r c i j : Int) (A : Option Addr) (n cap : Nat) (zs : List (Bool × ByteArray)) (w : World) (hr : RdW w A zs) (hn : zs.length = n) (hm : n ≤ maxLen) (hmr : mright r c zs = true) (h : i < 0 ∨ i ≥ r ∨ j < 0 ∨ j ≥ c) :
    Calls Tryz.prog 19 #[mat r c A n cap, .int .i64 i, .int .i64 j] w fun e w' => e = .returned (.agg #[.bool false, .string ⟨#[]⟩]) ∧ Below w.heap.size w w' := by
  have hB0 := below2 w (.cells #[.int .i64 r, .int .i64 c, .slice A n cap] 28) (.cells #[.bool false, .string ⟨#[]⟩] 32)
  have hri := rRight_any r c A n cap zs _ (hr.below hB0) hn hm
  rw [hmr] at hri
  unfold mat at *
  have hM := (Mb.new w r c A n cap).alloc (.cells #[.bool false, .string ⟨#[]⟩] 32)
  have hW := Wd.new1 w (.cells #[.int .i64 r, .int .i64 c, .slice A n cap] 28) false ⟨#[]⟩
  have c0 := hM.cell0
  have c1 := hM.cell1
  have c2 := hM.cell2
  have HM := Lib.hid hM
  have HW := Lib.hid hW
  have HB := Lib.hid hB0
  have HRI := Lib.hid hri
  clear hM hW hB0 hri hr hn hm hmr
  go_enter Tryz.func19, Tryz.ntmps19
  go_wp2_with fail
  with_reducible refine HRI.out.mono ?_
  rintro e w1 ⟨rfl, hb⟩
  have hM1 := HM.out.below hb HM.out.lt
  have hW1 := HW.out.below hb HW.out.lt
  have HB1 := Lib.hid (HB.out.trans (hb.mono HB.out.size))
  have e0 := hM1.cell0
  have e1 := hM1.cell1
  have y0 := hW1.cell0
  have y1 := hW1.cell1
  have f0 := hW1.frozen 0
  have f1 := hW1.frozen 1
  have hF := (hW1.set0 false).set1 ⟨#[]⟩
  have HF := Lib.hid hF
  have HBF := Lib.hid ((HB1.out.setCell (p := ⟨w.heap.size + 1, 0, none⟩) (by simp only []; omega) (.bool false)).setCell (p := ⟨w.heap.size + 1, 1, none⟩) (by simp only []; omega) (.string ⟨#[]⟩))
  clear hM1 hW1 hb HB HM HW hF c0 c1 c2 HRI
  cases d1 : decide (i < 0) with
  | true =>
    clear h
    go_wp2
    exact post_wide (b := w.heap.size + 1) rfl rfl HF.out rfl ⟨rfl, HBF.out⟩
  | false =>
    cases d2 : decide (i ≥ r) with
    | true =>
      clear h
      go_wp2
      exact post_wide (b := w.heap.size + 1) rfl rfl HF.out rfl ⟨rfl, HBF.out⟩
    | false =>
      cases d3 : decide (j < 0) with
      | true =>
        clear h
        go_wp2
        exact post_wide (b := w.heap.size + 1) rfl rfl HF.out rfl ⟨rfl, HBF.out⟩
      | false =>
        have d4 : decide (j ≥ c) = true := by
          rw [decide_eq_false_iff_not] at d1 d2 d3
          rw [decide_eq_true_iff]
          omega
        clear h
        go_wp2
        exact post_wide (b := w.heap.size + 1) rfl rfl HF.out rfl ⟨rfl, HBF.out⟩
set_option maxHeartbeats 4000000 in
theorem rAt_ok (gA r c NA capA i j : Nat) (zs : List Int) (w : World) (hA : Lw w gA (enc zs)) (hlen : zs.length = r * c) (hNA : NA = r * c) (hmr : mright r c (enc zs) = true) (hr2 : r ≤ 200) (hc2 : c ≤ 200) (hi : i < r) (hj : j < c) :
    Calls Tryz.prog 19 #[mat r c (some ⟨gA, 0, none⟩) NA capA, .int .i64 (i : Int), .int .i64 (j : Int)] w fun e w' => e = .returned (.agg #[.bool (wneg (zs.getD (i * c + j) 0)), .string (wmag (zs.getD (i * c + j) 0))]) ∧ Below w.heap.size w w' := by
  have hrc : r * c ≤ 40000 := Nat.le_trans (Nat.mul_le_mul hr2 hc2) (by omega)
  have hin := in_table hi hj
  obtain ⟨m, hm⟩ : ∃ m, m = i * c := ⟨_, rfl⟩
  obtain ⟨k, hk⟩ : ∃ k, k = m + j := ⟨_, rfl⟩
  rw [← hm, ← hk] at hin
  rw [← hm, ← hk]
  have hkb : k < 40000 := Nat.lt_of_lt_of_le hin hrc
  have hmk : m ≤ k := by rw [hk]; exact Nat.le_add_right _ _
  have hmb : m < 40000 := Nat.lt_of_le_of_lt hmk hkb
  have hmi : (i : Int) * (c : Int) = (m : Int) := by rw [hm, Int.natCast_mul]
  have hki : (m : Int) + (j : Int) = (k : Int) := by rw [hk, Int.natCast_add]
  have hkN : k < NA := by rw [hNA]; exact hin
  have hbig : ∀ x : Nat, x < 40000 → wrap64 (x : Int) = x := fun x hx => IntWalk.wrap64_in _ ⟨by omega, by omega⟩
  have d1 : decide ((i : Int) < 0) = false := by rw [decide_eq_false_iff_not]; omega
  have d2 : decide ((i : Int) ≥ (r : Int)) = false := by rw [decide_eq_false_iff_not]; omega
  have d3 : decide ((j : Int) < 0) = false := by rw [decide_eq_false_iff_not]; omega
  have d4 : decide ((j : Int) ≥ (c : Int)) = false := by rw [decide_eq_false_iff_not]; omega
  have hzl : k < (enc zs).length := by rw [enc_length, hlen]; exact hin
  have hB0 := below2 w (.cells #[.int .i64 (r : Int), .int .i64 (c : Int), .slice (some ⟨gA, 0, none⟩) NA capA] 28) (.cells #[.bool false, .string ⟨#[]⟩] 32)
  have hri := rRight_any (r : Int) (c : Int) (some ⟨gA, 0, none⟩) NA capA (enc zs) _ (hA.rdw.below hB0) (by rw [enc_length, hlen, hNA]) (by unfold maxLen; omega)
  rw [hmr] at hri
  unfold mat at *
  have hM := (Mb.new w (r : Int) (c : Int) (some ⟨gA, 0, none⟩) NA capA).alloc (.cells #[.bool false, .string ⟨#[]⟩] 32)
  have hW := Wd.new1 w (.cells #[.int .i64 (r : Int), .int .i64 (c : Int), .slice (some ⟨gA, 0, none⟩) NA capA] 28) false ⟨#[]⟩
  have c0 := hM.cell0
  have c1 := hM.cell1
  have c2 := hM.cell2
  have hgA := heap_lt hA
  have hA0 : Lw _ gA (enc zs) := (hB0.block gA hgA).trans hA
  have HA := Lib.hid hA0
  have HM := Lib.hid hM
  have HW := Lib.hid hW
  have HB := Lib.hid hB0
  have HRI := Lib.hid hri
  clear hM hW hB0 hri hA0 hA hmr hlen hNA hm hk hin hrc
  have w1 : wrap64 ((i : Int) * (c : Int)) = (m : Int) := by rw [hmi]; exact hbig m hmb
  have w2 : wrap64 ((m : Int) + (j : Int)) = (k : Int) := by rw [hki]; exact hbig k hkb
  clear hbig hmi hki hmk hmb hkb
  go_enter Tryz.func19, Tryz.ntmps19
  go_wp2_with fail
  with_reducible refine HRI.out.mono ?_
  rintro e w1 ⟨rfl, hb⟩
  have hM1 := HM.out.below hb HM.out.lt
  have hW1 := HW.out.below hb HW.out.lt
  have HB1 := Lib.hid (HB.out.trans (hb.mono HB.out.size))
  have hL : Lw w1 gA (enc zs) := (hb.block gA (heap_lt HA.out)).trans HA.out
  have e0 := hM1.cell0
  have e1 := hM1.cell1
  have e2 := hM1.cell2
  have y0 := hW1.cell0
  have y1 := hW1.cell1
  have f0 := hW1.frozen 0
  have f1 := hW1.frozen 1
  have z0 := hL.cell0 k hzl
  have z1 := hL.cell1 k hzl
  rw [enc_get] at z0 z1
  dsimp only at z0 z1
  have hF := (hW1.set0 (wneg (zs.getD k 0))).set1 (wmag (zs.getD k 0))
  have HF := Lib.hid hF
  have HBF := Lib.hid ((HB1.out.setCell (p := ⟨w.heap.size + 1, 0, none⟩) (by simp only []; omega) (.bool (wneg (zs.getD k 0)))).setCell (p := ⟨w.heap.size + 1, 1, none⟩) (by simp only []; omega) (.string (wmag (zs.getD k 0))))
  clear hM1 hW1 hb HB HM HW hF c0 c1 c2 HRI hL HA
  go_wp2
  exact post_wide (b := w.heap.size + 1) rfl rfl HF.out rfl ⟨rfl, HBF.out⟩
end Go.Proofs.YtknaghdoffigjaaGreatDoor
namespace Go.Proofs.YtknaghdoffigjaaGreatDoor
open Go.RowKit Go
attribute [local go_sem] Oper.semAt_some

theorem rOne_no (n : Int) (w : World) (h : msize n = false) :
    Calls Tryz.prog 23 #[.int .i64 n] w fun e w' => e = .returned (mat 0 0 none 0 0) ∧ Below w.heap.size w w' := by
  have hze := fun W => rZero_no n n W (by rw [h]; rfl)
  unfold mat at *
  have HZE := Lib.hid hze
  have HK1 := Lib.hid ((Kg.none_ none w 0).more (mrow 0 0 none 0 0))
  clear hze h
  go_enter Tryz.func23, Tryz.ntmps23
  go_wp2_with fail
  change Calls _ _ _ (w.alloc (mrow 0 0 none 0 0)) _
  generalize w.alloc (mrow 0 0 none 0 0) = W1 at *
  with_reducible refine (HZE.out _).mono ?_
  rintro e V1 ⟨rfl, hb⟩
  have HK2 := Lib.hid (show Kg none w (V1.alloc (mrow 0 0 none 0 0)) [some (w.heap.size, mrow 0 0 none 0 0), some (V1.heap.size, mrow 0 0 none 0 0)] from (HK1.out.step hb).more (mrow 0 0 none 0 0))
  clear hb HK1
  go_wp2_with fail
  change Code.wp _ _ _ _ (V1.alloc (mrow 0 0 none 0 0))
  generalize V1.alloc (mrow 0 0 none 0 0) = W2 at *
  generalize V1.heap.size = bT at *
  go_loopw [4] (fun i wr => i = .int .i64 0 ∧ Kg none w wr [some (w.heap.size, mrow 0 0 none 0 0), some (bT, mrow 0 0 none 0 0)]) (fun _ _ => 0)
  case atStart => exact ⟨rfl, HK2.out⟩
  case round =>
    obtain ⟨rfl, hK⟩ := hrel
    have HK3 := Lib.hid hK
    have c0 := hK.cell 1 0 rfl rfl
    have c1 := hK.cell 1 1 rfl rfl
    have c2 := hK.cell 1 2 rfl rfl
    have d0 := hK.cell 0 0 rfl rfl
    have d1 := hK.cell 0 1 rfl rfl
    have d2 := hK.cell 0 2 rfl rfl
    have f0 := hK.frozen 0 0 rfl
    have f1 := hK.frozen 0 1 rfl
    have f2 := hK.frozen 0 2 rfl
    clear hK
    go_wp2
    have hP := ((HK3.out.put 0 0 rfl (.int .i64 0)).put 0 1 rfl (.int .i64 0)).put 0 2 rfl (.slice none 0 0)
    exact post_mat (b := w.heap.size) rfl rfl (hP.at_ 0 rfl) rfl ⟨rfl, ⟨hP.1.os, hP.1.tape, hP.1.output, hP.1.size, fun i hi => hP.1.block i hi (by simp)⟩⟩
set_option maxRecDepth 100000 in
set_option maxHeartbeats 4000000 in
theorem rOne_fits (n : Nat) (w : World) (hn : n ≤ 200) :
    Calls Tryz.prog 23 #[.int .i64 (n : Int)] w fun e w' =>
      ∃ g, e = .returned (mat n n (some ⟨g, 0, none⟩) (n * n) (n * n)) ∧ w.heap.size ≤ g ∧ Lw w' g (oneL n n) ∧ Below w.heap.size w w' := by
  obtain ⟨N, hN⟩ : ∃ N, N = n * n := ⟨_, rfl⟩
  have hNb : N ≤ 40000 := by rw [hN]; exact Nat.le_trans (Nat.mul_le_mul hn hn) (by omega)
  have hze := fun W => rZero_fits n n N W hn hn hN.symm
  have hrf := fun W => RFrom_any 1 W (by omega) (by omega)
  rw [show wneg 1 = false from by decide, show wmag 1 = ⟨#[1]⟩ from by decide] at hrf
  have hol : ∀ k, (oneL n k).length = N := fun k => by rw [hN]; simp [oneL]
  have hst : List.replicate N (false, (⟨#[]⟩ : ByteArray)) = oneL n 0 := by rw [hN, oneL_zero]
  rw [← hN]
  unfold mat at *
  have HZE := Lib.hid hze
  have HRF := Lib.hid hrf
  have HOL := Lib.hid hol
  have HST := Lib.hid hst
  have HNN := Lib.hid hN
  have HK1 := Lib.hid ((Kg.none_ none w 0).more (mrow 0 0 none 0 0))
  clear hze hrf hol hst hN
  go_enter Tryz.func23, Tryz.ntmps23
  go_wp2_with fail
  change Calls _ _ _ (w.alloc (mrow 0 0 none 0 0)) _
  generalize w.alloc (mrow 0 0 none 0 0) = W1 at *
  with_reducible refine (HZE.out _).mono ?_
  rintro e V1 ⟨g, rfl, hg, hL, hb⟩
  rw [HST.out] at hL
  have HK2 := Lib.hid (show Kg none w (V1.alloc (mrow n n (some ⟨g, 0, none⟩) N N)) [some (w.heap.size, mrow 0 0 none 0 0), some (V1.heap.size, mrow n n (some ⟨g, 0, none⟩) N N), some (g, lwO (oneL n 0))] from ((HK1.out.room.came 1 rfl hb hg (o := lwO (oneL n 0)) hL).more (mrow n n (some ⟨g, 0, none⟩) N N)).sel [0, 2, 1] (by decide))
  clear hb HK1 hg hL
  go_wp2_with fail
  change Code.wp _ _ _ _ (V1.alloc (mrow n n (some ⟨g, 0, none⟩) N N))
  generalize V1.alloc (mrow n n (some ⟨g, 0, none⟩) N N) = W2 at *
  generalize V1.heap.size = bT at *
  go_loopw [4] (fun i wr => ∃ k : Nat, i = .int .i64 (k : Int) ∧ k ≤ n ∧ Kg none w wr [some (w.heap.size, mrow 0 0 none 0 0), some (bT, mrow n n (some ⟨g, 0, none⟩) N N), some (g, lwO (oneL n k))]) (fun i _ => n - (intOf i).toNat)
  case atStart => exact ⟨0, rfl, Nat.zero_le _, HK2.out⟩
  case round =>
    obtain ⟨k, rfl, hk, hK⟩ := hrel
    have HK3 := Lib.hid hK
    have c0 := hK.cell 1 0 rfl rfl
    have c1 := hK.cell 1 1 rfl rfl
    have c2 := hK.cell 1 2 rfl rfl
    by_cases hlt : k < n
    · obtain ⟨m, hm⟩ : ∃ m, m = k * n := ⟨_, rfl⟩
      have hmN : m + n ≤ N := by
        have : (k + 1) * n ≤ n * n := Nat.mul_le_mul_right n hlt
        rw [Nat.add_mul, Nat.one_mul] at this
        rw [HNN.out, hm]
        exact this
      obtain ⟨q, hq⟩ : ∃ q, q = m + k := ⟨_, rfl⟩
      have hqN : q < N := by omega
      have w1 : IntKind.i64.wrap ((k : Int) * (n : Int)) = (m : Int) := by rw [← Int.natCast_mul, ← hm]; exact IntWalk.i64_in _ (by omega)
      have w2 : IntKind.i64.wrap ((m : Int) + (k : Int)) = (q : Int) := by rw [show (m : Int) + (k : Int) = (q : Int) from by omega]; exact IntWalk.i64_in _ (by omega)
      have hnx := oneL_next n k
      rw [← hm, ← hq] at hnx
      have HNX := Lib.hid hnx
      have HM := Lib.hid hm
      have HQ := Lib.hid hq
      clear hK hnx hm hq
      go_wp2_with fail
      refine wp_region_facts (X := Unit) (fun x => [(0, 14, .pointer (some ⟨bT, 2, none⟩)), (1, 15, .slice (some ⟨g, 0, none⟩) N N), (2, 16, .int .i64 (k : Int)), (3, 17, .int .i64 (n : Int)), (4, 18, .int .i64 (m : Int)), (5, 19, .int .i64 (k : Int)), (6, 20, .int .i64 (q : Int)), (7, 21, .agg #[.bool false, .string ⟨#[1]⟩]), (8, 22, .pointer (some ⟨g, q * 2, none⟩))])
        (fun _ L W => Kg none w W [some (w.heap.size, mrow 0 0 none 0 0), some (bT, mrow n n (some ⟨g, 0, none⟩) N N), some (g, if L 9 = true then lwO (oneL n (k + 1)) else lwO (oneL n k))]) (by kernel_rfl) (by kernel_rfl) () ?st (by kernel_rfl) ?_ ?_
      case st => simpa using HK3.out.drew
      · repeat' (first | exact FactSteps.nil | refine FactSteps.cons ?_ ?_)
        all_goals
          intro L x wx hJ hl hd hs K hK
          (try simp [Region.binds] at hd)
          have e2 := hJ.cell 1 2 rfl rfl
          simp only [selA, selT_cons, selT_nil, List.set_cons_zero, List.set_cons_succ, List.getD_cons_zero, List.getD_cons_succ, hd, hl, selV_true, selV_false]
        · go_simp
          refine hK.out x _ _ ?_ ?_
          · simp [selA, selT_cons, selT_nil, hl, hd, selV_true, selV_false]
          · exact hJ
        · go_simp
          refine hK.out x _ _ ?_ ?_
          · simp [selA, selT_cons, selT_nil, hl, hd, selV_true, selV_false]
          · exact hJ
        · go_simp
          refine hK.out x _ _ ?_ ?_
          · simp [selA, selT_cons, selT_nil, hl, hd, selV_true, selV_false]
          · exact hJ
        · go_simp
          refine hK.out x _ _ ?_ ?_
          · simp [selA, selT_cons, selT_nil, hl, hd, selV_true, selV_false]
          · exact hJ
        · go_simp
          refine hK.out x _ _ ?_ ?_
          · simp [selA, selT_cons, selT_nil, hl, hd, selV_true, selV_false]
          · exact hJ
        · go_simp
          refine hK.out x _ _ ?_ ?_
          · simp [selA, selT_cons, selT_nil, hl, hd, selV_true, selV_false]
          · exact hJ
        · go_simp
          refine hK.out x _ _ ?_ ?_
          · simp [selA, selT_cons, selT_nil, hl, hd, selV_true, selV_false]
          · exact hJ
        · go_simp
          with_reducible refine (HRF.out _).mono ?_
          rintro e v ⟨rfl, hb⟩
          refine hK.out x _ _ ?_ ?_
          · simp [selA, selT_cons, selT_nil, hl, hd, selV_true, selV_false]
          · exact hJ.step hb
        · go_simp
          refine hK.out x _ _ ?_ ?_
          · simp [selA, selT_cons, selT_nil, hl, hd, selV_true, selV_false]
          · exact hJ
        · have hB := hJ
          simp only [hl, Bool.false_eq_true, if_false] at hB
          have hLg : Lw wx g (oneL n k) := hB.at_ 2 rfl
          have hql : q < (oneL n k).length := by rw [HOL.out]; exact hqN
          have d0 := hLg.cell0 q hql
          have d1 := hLg.cell1 q hql
          have f0 := hB.frozen 2 (q * 2) rfl
          have f1 := hB.frozen 2 (q * 2 + 1) rfl
          generalize ((oneL n k)[q]'hql).1 = u0 at d0
          generalize ((oneL n k)[q]'hql).2 = u1 at d1
          have hP := hLg.put q false ⟨#[1]⟩
          rw [HNX.out] at hP
          have HP := Lib.hid hP
          have HB := Lib.hid hB
          clear hP hLg hB
          go_simp
          refine hK.out x _ _ ?_ ?_
          · simp [selA, selT_cons, selT_nil, hl, hd, selV_true, selV_false]
          · have hGr := grownBy_setRow (g := g) (p := ⟨g, q * 2 + 1, none⟩) (grownBy_setRow (g := g) (p := ⟨g, q * 2, none⟩) (World.grownBy.refl wx _) rfl (.bool false)) rfl (.string ⟨#[1]⟩)
            exact (HB.out.change 2 rfl hGr (o' := lwO (oneL n (k + 1))) HP.out).cast (by simp)
      · rintro _ Wx hKx
        simp only [selA, selT_cons, selT_nil, List.set_cons_zero, List.set_cons_succ, List.getD_cons_zero, List.getD_cons_succ, selV_true]
        simp only [if_true] at hKx
        have HKX := Lib.hid hKx
        clear hKx
        go_wp2
        go_roundw
        case rel => exact ⟨k + 1, by simp, by omega, HKX.out⟩
        case measure => simp [intOf]; omega
    · obtain rfl : k = n := by omega
      have d0 := hK.cell 0 0 rfl rfl
      have d1 := hK.cell 0 1 rfl rfl
      have d2 := hK.cell 0 2 rfl rfl
      have f0 := hK.frozen 0 0 rfl
      have f1 := hK.frozen 0 1 rfl
      have f2 := hK.frozen 0 2 rfl
      clear hK
      go_wp2
      have hP := ((HK3.out.put 0 0 rfl (.int .i64 (k : Int))).put 0 1 rfl (.int .i64 (k : Int))).put 0 2 rfl (.slice (some ⟨g, 0, none⟩) N N)
      exact post_mat (b := w.heap.size) rfl rfl (hP.at_ 0 rfl) rfl ⟨g, rfl, hP.ge 2 rfl, hP.at_ 2 rfl, ⟨hP.1.os, hP.1.tape, hP.1.output, hP.1.size, fun i hi => hP.1.block i hi (by simp)⟩⟩
end Go.Proofs.YtknaghdoffigjaaGreatDoor
