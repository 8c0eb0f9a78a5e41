/-
  The contract of the reference's Join, where the matrices fit; and of both Joins and Parts where they refuse.
-/
import Derived.Test.YtknaghdoffigjaaGreatDoorMRefP
set_option linter.unusedSimpArgs false
set_option linter.unusedVariables false
set_option linter.unnecessarySimpa false
namespace Go.Proofs.YtknaghdoffigjaaGreatDoor
open Go.RowKit Go
attribute [local go_sem] Oper.semAt_some

set_option maxRecDepth 100000 in
set_option maxHeartbeats 4000000 in
theorem rJoin_ok (gA gB r c1 c2 NA capA NB capB m NN : Nat) (xs ys : List Int) (w : World) (hA : Lw w gA (enc xs)) (hB : Lw w gB (enc ys)) (hlA : xs.length = r * c1) (hNA : NA = r * c1) (hcA : NA ≤ capA) (hmA : capA ≤ maxLen) (hlB : ys.length = r * c2) (hNB : NB = r * c2) (hcB : NB ≤ capB) (hmB : capB ≤ maxLen)
    (hrA : mright r c1 (enc xs) = true) (hrB : mright r c2 (enc ys) = true) (hr2 : r ≤ 200) (hm : c1 + c2 = m) (hm2 : m ≤ 200) (hNN : r * m = NN) :
    Calls Tryz.prog 50 #[mat r c1 (some ⟨gA, 0, none⟩) NA capA, mat r c2 (some ⟨gB, 0, none⟩) NB capB] w fun e w' => ∃ A cap, e = .returned (.tuple #[mat r m A NN cap, .bool true]) ∧ RdW w' A (enc (ofL (jnr xs ys c1 c2 r) r m)) ∧ Below w.heap.size w w' := by
  have hNN2 : NN ≤ 40000 := by rw [← hNN]; exact Nat.le_trans (Nat.mul_le_mul hr2 hm2) (by omega)
  have hri := fun W hW => rRight_any (r : Int) (c1 : Int) (some ⟨gA, 0, none⟩) NA capA (enc xs) W hW (by rw [enc_length, hlA, hNA]) (by omega)
  rw [hrA] at hri
  have hrj := fun W hW => rRight_any (r : Int) (c2 : Int) (some ⟨gB, 0, none⟩) NB capB (enc ys) W hW (by rw [enc_length, hlB, hNB]) (by omega)
  rw [hrB] at hrj
  have wm : IntKind.i64.wrap ((c1 : Int) + (c2 : Int)) = (m : Int) := by rw [show (c1 : Int) + (c2 : Int) = (m : Int) from by omega]; exact IntWalk.i64_in _ (by omega)
  have hne : ((r : Int) != (r : Int)) = false := by simp
  have hne2 : ((r : Int) == (r : Int)) = true := by simp
  have dm : decide ((m : Int) > 200) = false := by rw [decide_eq_false_iff_not]; omega
  have qm : ¬ 200 < m := by omega
  obtain ⟨i0, hi, hz0, hz1, hz2⟩ := info_parts info_wideT
  have hgA := heap_lt hA
  have hgB := heap_lt hB
  have hAs : ∀ W l, Kg none w W l → Lw W gA (enc xs) := fun W l h => (h.1.block gA hgA (by simp)).trans hA
  have hBs : ∀ W l, Kg none w W l → Lw W gB (enc ys) := fun W l h => (h.1.block gB hgB (by simp)).trans hB
  unfold mat at *
  have HRI := Lib.hid hri
  have HRJ := Lib.hid hrj
  have HI := Lib.hid hi
  have HZ := Lib.hid hz0
  have HAS := Lib.hid hAs
  have HBS := Lib.hid hBs
  have HLA := Lib.hid hlA
  have HNA := Lib.hid hNA
  have HLB := Lib.hid hlB
  have HNB := Lib.hid hNB
  have HNN := Lib.hid hNN
  have HM := Lib.hid hm
  have hcm : c1 ≤ 200 ∧ c2 ≤ 200 := by omega
  have HK1 := Lib.hid (((((Kg.none_ none w 0).more (mrow (r : Int) (c1 : Int) (some ⟨gA, 0, none⟩) NA capA)).more (mrow (r : Int) (c2 : Int) (some ⟨gB, 0, none⟩) NB capB)).more (mrow 0 0 none 0 0)).cast (l' := [some (w.heap.size, mrow (r : Int) (c1 : Int) (some ⟨gA, 0, none⟩) NA capA), some (w.heap.size + 1, mrow (r : Int) (c2 : Int) (some ⟨gB, 0, none⟩) NB capB), some (w.heap.size + 1 + 1, mrow 0 0 none 0 0)]) (by simp))
  have x0 := HK1.out.cell 0 0 rfl rfl
  have x1 := HK1.out.cell 0 1 rfl rfl
  have x2 := HK1.out.cell 0 2 rfl rfl
  clear hri hrj hi hz0 hAs hBs hA hB hlA hNA hlB hNB hNN hrA hrB hm
  go_enter Tryz.func50, Tryz.ntmps50
  go_wp2_with fail
  change Calls _ _ _ (((w.alloc (mrow (r : Int) (c1 : Int) (some ⟨gA, 0, none⟩) NA capA)).alloc (mrow (r : Int) (c2 : Int) (some ⟨gB, 0, none⟩) NB capB)).alloc (mrow 0 0 none 0 0)) _
  generalize ((w.alloc (mrow (r : Int) (c1 : Int) (some ⟨gA, 0, none⟩) NA capA)).alloc (mrow (r : Int) (c2 : Int) (some ⟨gB, 0, none⟩) NB capB)).alloc (mrow 0 0 none 0 0) = W1 at *
  have hx1 : Lw W1 gA (enc xs) := HAS.out _ _ HK1.out
  with_reducible refine (HRI.out _ hx1.rdw).mono ?_
  rintro e V1 ⟨rfl, hb⟩
  have HK2 := Lib.hid (HK1.out.step hb)
  clear hb x0 x1 x2 HK1 hx1
  have x0 := HK2.out.cell 1 0 rfl rfl
  have x1 := HK2.out.cell 1 1 rfl rfl
  have x2 := HK2.out.cell 1 2 rfl rfl
  go_wp2_with fail
  have hx1 : Lw V1 gB (enc ys) := HBS.out _ _ HK2.out
  with_reducible refine (HRJ.out _ hx1.rdw).mono ?_
  rintro e V2 ⟨rfl, hb⟩
  have HK2' := Lib.hid (HK2.out.step hb)
  clear hb x0 x1 x2 HK2 hx1
  have x0 := HK2'.out.cell 0 0 rfl rfl
  have x1 := HK2'.out.cell 0 1 rfl rfl
  have x2 := HK2'.out.cell 1 0 rfl rfl
  have x3 := HK2'.out.cell 1 1 rfl rfl
  go_wp2_with fail
  clear x0 x1 x2 x3
  have HK3 := Lib.hid (show Kg none w (V2.alloc (.cells #[.int .i64 (r : Int), .int .i64 (m : Int), .slice none 0 0] 28 (0, 0))) [some (w.heap.size, mrow (r : Int) (c1 : Int) (some ⟨gA, 0, none⟩) NA capA), some (w.heap.size + 1, mrow (r : Int) (c2 : Int) (some ⟨gB, 0, none⟩) NB capB), some (w.heap.size + 1 + 1, mrow 0 0 none 0 0), some (V2.heap.size, .cells #[.int .i64 (r : Int), .int .i64 (m : Int), .slice none 0 0] 28 (0, 0))] from HK2'.out.more (.cells #[.int .i64 (r : Int), .int .i64 (m : Int), .slice none 0 0] 28 (0, 0)))
  change Code.wp _ _ _ _ (V2.alloc (.cells #[.int .i64 (r : Int), .int .i64 (m : Int), .slice none 0 0] 28 (0, 0)))
  generalize V2.alloc (.cells #[.int .i64 (r : Int), .int .i64 (m : Int), .slice none 0 0] 28 (0, 0)) = W3 at *
  generalize V2.heap.size = bO at *
  have hw3 := HK3.out.1.size
  have hl0 := HK3.out.lt 0 rfl
  have hl1 := HK3.out.lt 1 rfl
  have hl2 := HK3.out.lt 2 rfl
  have hl3 := HK3.out.lt 3 rfl
  go_loopw [9] (fun ii wr => ∃ (k : Nat) (Av : Option Addr) (cv : Nat), ii = .int .i64 (k : Int) ∧ k ≤ r ∧ OwW wr W3.heap.size (.slice Av (k * m) cv) (jnA xs ys c1 c2 k) ∧ W3.heap.size ≤ wr.heap.size ∧ Kg none w wr [some (w.heap.size, mrow (r : Int) (c1 : Int) (some ⟨gA, 0, none⟩) NA capA), some (w.heap.size + 1, mrow (r : Int) (c2 : Int) (some ⟨gB, 0, none⟩) NB capB), some (w.heap.size + 1 + 1, mrow 0 0 none 0 0), some (bO, .cells #[.int .i64 (r : Int), .int .i64 (m : Int), .slice Av (k * m) cv] 28 (0, 0))]) (fun ii _ => r - (intOf ii).toNat)
  case atStart => exact ⟨0, none, 0, rfl, Nat.zero_le _, by rw [Nat.zero_mul]; exact OwW.nil _ _, Nat.le_refl _, by rw [Nat.zero_mul]; exact HK3.out⟩
  case round =>
    obtain ⟨k, Av, cv, rfl, hk, hO, hsz, hK⟩ := hrel
    have hjl := jnA_length xs ys c1 c2 k
    rw [HM.out] at hjl
    obtain ⟨l0, hl0e⟩ : ∃ l0, l0 = k * m := ⟨_, rfl⟩
    rw [← hl0e] at hO hK hjl
    have HL0 := Lib.hid hl0e
    have HO := Lib.hid hO
    have HK4 := Lib.hid hK
    have HPL := Lib.hid hjl
    have x0 := hK.cell 0 0 rfl rfl
    have hkm : l0 ≤ 40000 := by rw [hl0e]; exact Nat.le_trans (Nat.mul_le_mul (show k ≤ 200 by omega) hm2) (by omega)
    clear hl0e hO hK hjl HK2' HK3
    by_cases hlt : k < r
    · have hli : (k : Int) < (r : Int) := by omega
      have hnx := jnA_next xs ys c1 c2 k
      obtain ⟨q2, hq2⟩ : ∃ q2, q2 = jnA xs ys c1 c2 (k + 1) := ⟨_, rfl⟩
      rw [← hq2] at hnx
      have HQ2 := Lib.hid hq2
      generalize jnA xs ys c1 c2 k = q0 at *
      have wk : IntKind.i64.wrap ((k : Int) + 1) = (k : Int) + 1 := IntWalk.i64_in _ (by omega)
      obtain ⟨loA, hloA⟩ : ∃ lo, lo = k * c1 := ⟨_, rfl⟩
      obtain ⟨hiA, hhiA⟩ : ∃ hi', hi' = (k + 1) * c1 := ⟨_, rfl⟩
      have hdfA : hiA = loA + c1 := by rw [hhiA, hloA, Nat.add_mul, Nat.one_mul]
      have hinA : loA + c1 ≤ xs.length := by
        rw [HLA.out, ← hdfA, hhiA]
        exact Nat.mul_le_mul_right c1 hlt
      have hzcA : xs.length ≤ capA := by have := HLA.out; have := HNA.out; omega
      have hslA := slice_lhW (some ⟨gA, 0, none⟩) NA capA loA hiA (by omega) (by omega)
      rw [adr_eq, show hiA - loA = c1 by omega] at hslA
      have eaA : (k : Int) * (c1 : Int) = (loA : Int) := by rw [hloA, Int.natCast_mul]
      have ebA : ((k : Int) + 1) * (c1 : Int) = (hiA : Int) := by rw [Int.add_mul, eaA, Int.one_mul]; omega
      have lbA : loA ≤ 40000 := by rw [hloA]; exact Nat.le_trans (Nat.mul_le_mul (show k ≤ 200 by omega) (show c1 ≤ 200 by omega)) (by omega)
      have waA : IntKind.i64.wrap (loA : Int) = (loA : Int) := IntWalk.i64_in _ (by omega)
      have wbA : IntKind.i64.wrap (hiA : Int) = (hiA : Int) := IntWalk.i64_in _ (by omega)
      have HSLA := Lib.hid hslA
      have HINA := Lib.hid hinA
      have HZCA := Lib.hid hzcA
      rw [← hloA] at hnx
      clear hslA hinA hzcA hloA hhiA hdfA
      obtain ⟨loB, hloB⟩ : ∃ lo, lo = k * c2 := ⟨_, rfl⟩
      obtain ⟨hiB, hhiB⟩ : ∃ hi', hi' = (k + 1) * c2 := ⟨_, rfl⟩
      have hdfB : hiB = loB + c2 := by rw [hhiB, hloB, Nat.add_mul, Nat.one_mul]
      have hinB : loB + c2 ≤ ys.length := by
        rw [HLB.out, ← hdfB, hhiB]
        exact Nat.mul_le_mul_right c2 hlt
      have hzcB : ys.length ≤ capB := by have := HLB.out; have := HNB.out; omega
      have hslB := slice_lhW (some ⟨gB, 0, none⟩) NB capB loB hiB (by omega) (by omega)
      rw [adr_eq, show hiB - loB = c2 by omega] at hslB
      have eaB : (k : Int) * (c2 : Int) = (loB : Int) := by rw [hloB, Int.natCast_mul]
      have ebB : ((k : Int) + 1) * (c2 : Int) = (hiB : Int) := by rw [Int.add_mul, eaB, Int.one_mul]; omega
      have lbB : loB ≤ 40000 := by rw [hloB]; exact Nat.le_trans (Nat.mul_le_mul (show k ≤ 200 by omega) (show c2 ≤ 200 by omega)) (by omega)
      have waB : IntKind.i64.wrap (loB : Int) = (loB : Int) := IntWalk.i64_in _ (by omega)
      have wbB : IntKind.i64.wrap (hiB : Int) = (hiB : Int) := IntWalk.i64_in _ (by omega)
      have HSLB := Lib.hid hslB
      have HINB := Lib.hid hinB
      have HZCB := Lib.hid hzcB
      rw [← hloB] at hnx
      clear hslB hinB hzcB hloB hhiB hdfB
      obtain ⟨q1, hq1⟩ : ∃ q1, q1 = q0 ++ (List.range c1).map fun j => xs.getD (loA + j) 0 := ⟨_, rfl⟩
      rw [← hq1] at hnx
      obtain ⟨l1, hl1e⟩ : ∃ l1, l1 = l0 + c1 := ⟨_, rfl⟩
      obtain ⟨l2, hl2e⟩ : ∃ l2, l2 = (k + 1) * m := ⟨_, rfl⟩
      have hq1l : q1.length = l1 := by rw [hq1, List.length_append, HPL.out, hl1e]; simp
      have hq2l : q2.length = l2 := by rw [hq2, jnA_length, HM.out, hl2e]
      have hl1b : l1 ≤ 40400 := by omega
      have HNA1 := Lib.hid hq1
      have HNB1 := Lib.hid hnx
      have HL1L := Lib.hid hq1l
      have HL2L := Lib.hid hq2l
      have HL2 := Lib.hid hl2e
      clear hq1 hnx hq1l hq2l hl2e hq2 hl1e
      have hslA := HSLA.out
      go_wp2_with fail
      clear hslA x0
      refine wp_region_acts (X := Option Addr × Nat) (fun x => [(0, 50, .pointer (some ⟨bO, 2, none⟩)), (1, 51, .slice Av l0 cv), (2, 52, .pointer (some ⟨w.heap.size, 2, none⟩)), (3, 53, .slice (some ⟨gA, 0, none⟩) NA capA), (4, 54, .int .i64 (k : Int)), (5, 55, .pointer (some ⟨w.heap.size, 1, none⟩)), (6, 56, .int .i64 (c1 : Int)), (7, 57, .int .i64 (loA : Int)), (8, 58, .int .i64 (k : Int)), (9, 59, .int .i64 ((k : Int) + 1)), (10, 60, .pointer (some ⟨w.heap.size, 1, none⟩)), (11, 61, .int .i64 (c1 : Int)), (12, 62, .int .i64 (hiA : Int)), (13, 63, .slice (some (adr gA capA loA)) c1 (capA - loA)), (14, 64, .slice x.1 l1 x.2), (15, 65, .pointer (some ⟨bO, 2, none⟩))])
        (fun x L W => Kg none w W [some (w.heap.size, mrow (r : Int) (c1 : Int) (some ⟨gA, 0, none⟩) NA capA), some (w.heap.size + 1, mrow (r : Int) (c2 : Int) (some ⟨gB, 0, none⟩) NB capB), some (w.heap.size + 1 + 1, mrow 0 0 none 0 0), some (bO, .cells #[.int .i64 (r : Int), .int .i64 (m : Int), (if L 16 = true then .slice x.1 l1 x.2 else .slice Av l0 cv)] 28 (0, 0))] ∧ OwW W W3.heap.size (if L 14 = true then .slice x.1 l1 x.2 else .slice Av l0 cv) (if L 14 = true then q1 else q0) ∧ W3.heap.size ≤ W.heap.size) (by kernel_rfl) (by kernel_rfl) (none, 0) ?st (by kernel_rfl) ?_ ?_
      case st => exact ⟨by simpa using HK4.out.drew, by simpa using HO.out.drew, hsz⟩
      · simp only [selA, selT_cons, selT_nil, List.set_cons_zero, List.set_cons_succ, List.getD_cons_zero, List.getD_cons_succ]
        repeat' (first | exact ActSteps.nil | refine ActSteps.cons ?_ ?_)
        all_goals
          intro L x wx hJ hl hd hs K hK
          (try simp [Region.binds] at hd)
          have hslA := HSLA.out wx
          have e0 := hJ.1.cell 0 1 rfl rfl
          have e1' := hJ.1.cell 0 2 rfl rfl
          try simp only [hd, hl, selV_true, selV_false]
        · go_simp
          refine hK.out x _ _ ?_ ?_
          · simp [hl, hd, hli, selV_true, selV_false]
          · exact ⟨by simpa [hl] using hJ.1, by simpa [hl] using hJ.2.1, hJ.2.2⟩
        · have hn := hs 14 _ rfl (by simp [Region.binds])
          have hn2 : L 16 = false := by
            cases h21 : L 16 with
            | false => rfl
            | true => exact absurd h21 (by have := hs 16 _ rfl (by simp [Region.binds]); simp [this])
          have hB := hJ.1
          simp only [hn2, Bool.false_eq_true, if_false] at hB
          have g2 := hB.cell 3 2 rfl rfl
          clear hB
          go_simp
          refine hK.out x _ _ ?_ ?_
          · simp [hl, hd, hn, hli, selV_true, selV_false]
          · exact hJ
        · go_simp
          refine hK.out x _ _ ?_ ?_
          · simp [hl, hd, hli, selV_true, selV_false]
          · exact ⟨by simpa [hl] using hJ.1, by simpa [hl] using hJ.2.1, hJ.2.2⟩
        · go_simp
          refine hK.out x _ _ ?_ ?_
          · simp [hl, hd, hli, selV_true, selV_false]
          · exact ⟨by simpa [hl] using hJ.1, by simpa [hl] using hJ.2.1, hJ.2.2⟩
        · go_simp
          refine hK.out x _ _ ?_ ?_
          · simp [hl, hd, hli, selV_true, selV_false]
          · exact ⟨by simpa [hl] using hJ.1, by simpa [hl] using hJ.2.1, hJ.2.2⟩
        · go_simp
          refine hK.out x _ _ ?_ ?_
          · simp [hl, hd, hli, selV_true, selV_false]
          · exact ⟨by simpa [hl] using hJ.1, by simpa [hl] using hJ.2.1, hJ.2.2⟩
        · go_simp
          refine hK.out x _ _ ?_ ?_
          · simp [hl, hd, hli, selV_true, selV_false]
          · exact ⟨by simpa [hl] using hJ.1, by simpa [hl] using hJ.2.1, hJ.2.2⟩
        · go_simp
          refine hK.out x _ _ ?_ ?_
          · simp [hl, hd, hli, selV_true, selV_false]
          · exact ⟨by simpa [hl] using hJ.1, by simpa [hl] using hJ.2.1, hJ.2.2⟩
        · go_simp
          refine hK.out x _ _ ?_ ?_
          · simp [hl, hd, hli, selV_true, selV_false]
          · exact ⟨by simpa [hl] using hJ.1, by simpa [hl] using hJ.2.1, hJ.2.2⟩
        · go_simp
          refine hK.out x _ _ ?_ ?_
          · simp [hl, hd, hli, selV_true, selV_false]
          · exact ⟨by simpa [hl] using hJ.1, by simpa [hl] using hJ.2.1, hJ.2.2⟩
        · go_simp
          refine hK.out x _ _ ?_ ?_
          · simp [hl, hd, hli, selV_true, selV_false]
          · exact ⟨by simpa [hl] using hJ.1, by simpa [hl] using hJ.2.1, hJ.2.2⟩
        · go_simp
          refine hK.out x _ _ ?_ ?_
          · simp [hl, hd, hli, selV_true, selV_false]
          · exact ⟨by simpa [hl] using hJ.1, by simpa [hl] using hJ.2.1, hJ.2.2⟩
        · go_simp
          refine hK.out x _ _ ?_ ?_
          · simp [hl, hd, hli, selV_true, selV_false]
          · exact ⟨by simpa [hl] using hJ.1, by simpa [hl] using hJ.2.1, hJ.2.2⟩
        · go_simp
          refine hK.out x _ _ ?_ ?_
          · simp [hl, hd, hli, selV_true, selV_false]
          · exact ⟨by simpa [hl] using hJ.1, by simpa [hl] using hJ.2.1, hJ.2.2⟩
        · have hn := hs 16 _ rfl (by simp [Region.binds])
          have hO := hJ.2.1
          have hB := hJ.1
          simp only [hl, Bool.false_eq_true, if_false] at hO
          simp only [hn, Bool.false_eq_true, if_false] at hB
          have hLx : Lw wx gA (enc xs) := HAS.out _ _ hJ.1
          refine wp_append_own wx (.tmp 51) (.tmp 63) 26 rfl W3.heap.size 32 i0 (.agg #[.bool false, .string ⟨#[]⟩]) 2 24 Tryz.underlying26 HI.out HZ.out hz1 hz2 rfl (by decide) (.slice Av l0 cv) q0.length (flat (enc q0)) rfl hO (adr gA capA loA) c1 (capA - loA) (flat (enc ((List.range c1).map fun j => xs.getD (loA + j) 0))) rfl (by rw [flat_length, enc_length]; simp) (fun j u hj => adr_cells hLx capA loA c1 HINA.out HZCA.out j u hj) (fun u hu => flat_one _ u hu) (by rw [HPL.out]; unfold maxLen; omega) (by rw [HPL.out]; omega) hJ.2.2 (fun v' w' hown hgr _ => ?_)
          have hOn : OwW w' W3.heap.size v' q1 := by
            unfold OwW
            rw [HNA1.out, List.length_append, List.length_map, List.length_range, enc_append, flat_append]
            exact hown
          obtain ⟨A', c2', hv', _, _, _⟩ := hOn.rd
          rw [HL1L.out] at hv'
          subst hv'
          refine hK.out (A', c2') _ _ ?_ ?_
          · simp [hl, hd, hn, hli, selV_true, selV_false, Act.put]
          · have hB2 := hB.other hgr (fun p e => ⟨by have := OwW.own hO p e; omega, fun j c' o hj => by
              have h1 := OwW.own hO p e
              match j, hj with
              | 0, hj => simp at hj; omega
              | 1, hj => simp at hj; omega
              | 2, hj => simp at hj; omega
              | 3, hj => simp at hj; omega⟩)
            exact ⟨by simpa [hn] using hB2, by simpa using hOn, Nat.le_trans hJ.2.2 hgr.size⟩
        · go_simp
          refine hK.out x _ _ ?_ ?_
          · simp [hl, hd, hli, selV_true, selV_false]
          · exact ⟨by simpa [hl] using hJ.1, by simpa [hl] using hJ.2.1, hJ.2.2⟩
        · have hB := hJ.1
          have hO := hJ.2.1
          simp only [hl, Bool.false_eq_true, if_false] at hB
          simp only [hd, if_true] at hO
          have f2 := hB.frozen 3 2 rfl
          have g2 := hB.cell 3 2 rfl rfl
          have HB := Lib.hid hB
          have HOx := Lib.hid hO
          clear hB hO
          go_simp
          refine hK.out x _ _ ?_ ?_
          · simp [hl, hd, hli, selV_true, selV_false]
          · exact ⟨(HB.out.put 3 2 rfl (.slice x.1 l1 x.2)).cast (by simp), by simpa [hd] using HOx.out.put (by simp only []; omega) (.slice x.1 l1 x.2), by simpa [World.setCell] using hJ.2.2⟩
      · rintro ⟨xA, xc⟩ Wx hKx
        simp only [selA, selT_cons, selT_nil, List.set_cons_zero, List.set_cons_succ, List.getD_cons_zero, List.getD_cons_succ, selV_true]
        simp only [if_true] at hKx
        obtain ⟨hKx, hOx, hsz⟩ := hKx
        have HK5 := Lib.hid hKx
        have HO5 := Lib.hid hOx
        clear hKx hOx HO HK4
        have hslB := HSLB.out
        go_wp2_with fail
        clear hslB
        refine wp_region_acts (X := Option Addr × Nat) (fun x => [(0, 66, .pointer (some ⟨bO, 2, none⟩)), (1, 67, .slice xA l1 xc), (2, 68, .pointer (some ⟨w.heap.size + 1, 2, none⟩)), (3, 69, .slice (some ⟨gB, 0, none⟩) NB capB), (4, 70, .int .i64 (k : Int)), (5, 71, .pointer (some ⟨w.heap.size + 1, 1, none⟩)), (6, 72, .int .i64 (c2 : Int)), (7, 73, .int .i64 (loB : Int)), (8, 74, .int .i64 (k : Int)), (9, 75, .int .i64 ((k : Int) + 1)), (10, 76, .pointer (some ⟨w.heap.size + 1, 1, none⟩)), (11, 77, .int .i64 (c2 : Int)), (12, 78, .int .i64 (hiB : Int)), (13, 79, .slice (some (adr gB capB loB)) c2 (capB - loB)), (14, 80, .slice x.1 l2 x.2), (15, 81, .pointer (some ⟨bO, 2, none⟩))])
          (fun x L W => Kg none w W [some (w.heap.size, mrow (r : Int) (c1 : Int) (some ⟨gA, 0, none⟩) NA capA), some (w.heap.size + 1, mrow (r : Int) (c2 : Int) (some ⟨gB, 0, none⟩) NB capB), some (w.heap.size + 1 + 1, mrow 0 0 none 0 0), some (bO, .cells #[.int .i64 (r : Int), .int .i64 (m : Int), (if L 16 = true then .slice x.1 l2 x.2 else .slice xA l1 xc)] 28 (0, 0))] ∧ OwW W W3.heap.size (if L 14 = true then .slice x.1 l2 x.2 else .slice xA l1 xc) (if L 14 = true then q2 else q1) ∧ W3.heap.size ≤ W.heap.size) (by kernel_rfl) (by kernel_rfl) (none, 0) ?st (by kernel_rfl) ?_ ?_
        case st => exact ⟨by simpa using HK5.out.drew, by simpa using HO5.out.drew, hsz⟩
        · simp only [selA, selT_cons, selT_nil, List.set_cons_zero, List.set_cons_succ, List.getD_cons_zero, List.getD_cons_succ]
          repeat' (first | exact ActSteps.nil | refine ActSteps.cons ?_ ?_)
          all_goals
            intro L x wx hJ hl hd hs K hK
            (try simp [Region.binds] at hd)
            have hslB := HSLB.out wx
            have e0 := hJ.1.cell 1 1 rfl rfl
            have e1' := hJ.1.cell 1 2 rfl rfl
            try simp only [hd, hl, selV_true, selV_false]
          · go_simp
            refine hK.out x _ _ ?_ ?_
            · simp [hl, hd, hli, selV_true, selV_false]
            · exact ⟨by simpa [hl] using hJ.1, by simpa [hl] using hJ.2.1, hJ.2.2⟩
          · have hn := hs 14 _ rfl (by simp [Region.binds])
            have hn2 : L 16 = false := by
              cases h21 : L 16 with
              | false => rfl
              | true => exact absurd h21 (by have := hs 16 _ rfl (by simp [Region.binds]); simp [this])
            have hB := hJ.1
            simp only [hn2, Bool.false_eq_true, if_false] at hB
            have g2 := hB.cell 3 2 rfl rfl
            clear hB
            go_simp
            refine hK.out x _ _ ?_ ?_
            · simp [hl, hd, hn, hli, selV_true, selV_false]
            · exact hJ
          · go_simp
            refine hK.out x _ _ ?_ ?_
            · simp [hl, hd, hli, selV_true, selV_false]
            · exact ⟨by simpa [hl] using hJ.1, by simpa [hl] using hJ.2.1, hJ.2.2⟩
          · go_simp
            refine hK.out x _ _ ?_ ?_
            · simp [hl, hd, hli, selV_true, selV_false]
            · exact ⟨by simpa [hl] using hJ.1, by simpa [hl] using hJ.2.1, hJ.2.2⟩
          · go_simp
            refine hK.out x _ _ ?_ ?_
            · simp [hl, hd, hli, selV_true, selV_false]
            · exact ⟨by simpa [hl] using hJ.1, by simpa [hl] using hJ.2.1, hJ.2.2⟩
          · go_simp
            refine hK.out x _ _ ?_ ?_
            · simp [hl, hd, hli, selV_true, selV_false]
            · exact ⟨by simpa [hl] using hJ.1, by simpa [hl] using hJ.2.1, hJ.2.2⟩
          · go_simp
            refine hK.out x _ _ ?_ ?_
            · simp [hl, hd, hli, selV_true, selV_false]
            · exact ⟨by simpa [hl] using hJ.1, by simpa [hl] using hJ.2.1, hJ.2.2⟩
          · go_simp
            refine hK.out x _ _ ?_ ?_
            · simp [hl, hd, hli, selV_true, selV_false]
            · exact ⟨by simpa [hl] using hJ.1, by simpa [hl] using hJ.2.1, hJ.2.2⟩
          · go_simp
            refine hK.out x _ _ ?_ ?_
            · simp [hl, hd, hli, selV_true, selV_false]
            · exact ⟨by simpa [hl] using hJ.1, by simpa [hl] using hJ.2.1, hJ.2.2⟩
          · go_simp
            refine hK.out x _ _ ?_ ?_
            · simp [hl, hd, hli, selV_true, selV_false]
            · exact ⟨by simpa [hl] using hJ.1, by simpa [hl] using hJ.2.1, hJ.2.2⟩
          · go_simp
            refine hK.out x _ _ ?_ ?_
            · simp [hl, hd, hli, selV_true, selV_false]
            · exact ⟨by simpa [hl] using hJ.1, by simpa [hl] using hJ.2.1, hJ.2.2⟩
          · go_simp
            refine hK.out x _ _ ?_ ?_
            · simp [hl, hd, hli, selV_true, selV_false]
            · exact ⟨by simpa [hl] using hJ.1, by simpa [hl] using hJ.2.1, hJ.2.2⟩
          · go_simp
            refine hK.out x _ _ ?_ ?_
            · simp [hl, hd, hli, selV_true, selV_false]
            · exact ⟨by simpa [hl] using hJ.1, by simpa [hl] using hJ.2.1, hJ.2.2⟩
          · go_simp
            refine hK.out x _ _ ?_ ?_
            · simp [hl, hd, hli, selV_true, selV_false]
            · exact ⟨by simpa [hl] using hJ.1, by simpa [hl] using hJ.2.1, hJ.2.2⟩
          · have hn := hs 16 _ rfl (by simp [Region.binds])
            have hO := hJ.2.1
            have hB := hJ.1
            simp only [hl, Bool.false_eq_true, if_false] at hO
            simp only [hn, Bool.false_eq_true, if_false] at hB
            have hLx : Lw wx gB (enc ys) := HBS.out _ _ hJ.1
            refine wp_append_own wx (.tmp 67) (.tmp 79) 26 rfl W3.heap.size 32 i0 (.agg #[.bool false, .string ⟨#[]⟩]) 2 24 Tryz.underlying26 HI.out HZ.out hz1 hz2 rfl (by decide) (.slice xA l1 xc) q1.length (flat (enc q1)) rfl hO (adr gB capB loB) c2 (capB - loB) (flat (enc ((List.range c2).map fun j => ys.getD (loB + j) 0))) rfl (by rw [flat_length, enc_length]; simp) (fun j u hj => adr_cells hLx capB loB c2 HINB.out HZCB.out j u hj) (fun u hu => flat_one _ u hu) (by rw [HL1L.out]; unfold maxLen; omega) (by rw [HL1L.out]; omega) hJ.2.2 (fun v' w' hown hgr _ => ?_)
            have hOn : OwW w' W3.heap.size v' q2 := by
              unfold OwW
              rw [HNB1.out, List.length_append, List.length_map, List.length_range, enc_append, flat_append]
              exact hown
            obtain ⟨A', c2', hv', _, _, _⟩ := hOn.rd
            rw [HL2L.out] at hv'
            subst hv'
            refine hK.out (A', c2') _ _ ?_ ?_
            · simp [hl, hd, hn, hli, selV_true, selV_false, Act.put]
            · have hB2 := hB.other hgr (fun p e => ⟨by have := OwW.own hO p e; omega, fun j c' o hj => by
                have h1 := OwW.own hO p e
                match j, hj with
                | 0, hj => simp at hj; omega
                | 1, hj => simp at hj; omega
                | 2, hj => simp at hj; omega
                | 3, hj => simp at hj; omega⟩)
              exact ⟨by simpa [hn] using hB2, by simpa using hOn, Nat.le_trans hJ.2.2 hgr.size⟩
          · go_simp
            refine hK.out x _ _ ?_ ?_
            · simp [hl, hd, hli, selV_true, selV_false]
            · exact ⟨by simpa [hl] using hJ.1, by simpa [hl] using hJ.2.1, hJ.2.2⟩
          · have hB := hJ.1
            have hO := hJ.2.1
            simp only [hl, Bool.false_eq_true, if_false] at hB
            simp only [hd, if_true] at hO
            have f2 := hB.frozen 3 2 rfl
            have g2 := hB.cell 3 2 rfl rfl
            have HB := Lib.hid hB
            have HOx := Lib.hid hO
            clear hB hO
            go_simp
            refine hK.out x _ _ ?_ ?_
            · simp [hl, hd, hli, selV_true, selV_false]
            · exact ⟨(HB.out.put 3 2 rfl (.slice x.1 l2 x.2)).cast (by simp), by simpa [hd] using HOx.out.put (by simp only []; omega) (.slice x.1 l2 x.2), by simpa [World.setCell] using hJ.2.2⟩
        · rintro ⟨yA, yc⟩ Wy hKx
          simp only [selA, selT_cons, selT_nil, List.set_cons_zero, List.set_cons_succ, List.getD_cons_zero, List.getD_cons_succ, selV_true]
          simp only [if_true] at hKx
          obtain ⟨hKx, hOx, hszx⟩ := hKx
          have HKX := Lib.hid hKx
          have HOX := Lib.hid hOx
          clear hKx hOx
          go_wp2
          go_roundw
          case rel => exact ⟨k + 1, yA, yc, by simp, by omega, by rw [← HQ2.out, ← HL2.out]; exact HOX.out, hszx, by rw [← HL2.out]; exact HKX.out⟩
          case measure => simp [intOf]; omega
    · obtain rfl : k = r := by omega
      have hfin := jnA_full xs ys c1 c2 k
      rw [HM.out] at hfin
      have HFIN := Lib.hid hfin
      clear hfin
      have d0 := HK4.out.cell 2 0 rfl rfl
      have d1' := HK4.out.cell 2 1 rfl rfl
      have d2' := HK4.out.cell 2 2 rfl rfl
      have f0 := HK4.out.frozen 2 0 rfl
      have f1 := HK4.out.frozen 2 1 rfl
      have f2 := HK4.out.frozen 2 2 rfl
      have g0 := HK4.out.cell 3 0 rfl rfl
      have g1 := HK4.out.cell 3 1 rfl rfl
      have g2 := HK4.out.cell 3 2 rfl rfl
      have hnl : ¬ k < k := by omega
      go_wp2_with fail
      have hP := ((HK4.out.put 2 0 rfl (.int .i64 (k : Int))).put 2 1 rfl (.int .i64 (m : Int))).put 2 2 rfl (.slice Av l0 cv)
      have hOf := ((HO.out.put (p := ⟨w.heap.size + 1 + 1, 0, none⟩) (by simpa using hl2) (.int .i64 (k : Int))).put (p := ⟨w.heap.size + 1 + 1, 1, none⟩) (by simpa using hl2) (.int .i64 (m : Int))).put (p := ⟨w.heap.size + 1 + 1, 2, none⟩) (by simpa using hl2) (.slice Av l0 cv)
      have hvl := HPL.out
      rw [HFIN.out] at hOf hvl
      obtain ⟨A, cap, hv, h1, h2, hrd⟩ := hOf.rd
      have hl0N : l0 = NN := by rw [HL0.out, HNN.out]
      rw [hvl] at hv
      injection hv with hv1 hv2 hv3
      subst hv1
      subst hv3
      subst hl0N
      exact bodyPost_ret (results_mat_tmp (b := w.heap.size + 1 + 1) rfl rfl (hP.at_ 2 rfl)) rfl ⟨_, _, rfl, hrd, Kg.below_ hP⟩
end Go.Proofs.YtknaghdoffigjaaGreatDoor
