/-
  The law MatrixBuilds, its call: it returns true (at most 8 rows).
-/
import Derived.Test.YtknaghdoffigjaaGreatDoorZMRefOf
set_option linter.unusedSimpArgs false
set_option linter.unusedVariables false
set_option linter.unnecessarySimpa false
namespace Go.Proofs.YtknaghdoffigjaaGreatDoor
open Go.RowKit Go
attribute [local go_sem] Oper.semAt_some

set_option maxRecDepth 100000 in
set_option maxHeartbeats 8000000 in
theorem builds_le (A : Option Addr) (len cap : Nat) (rows : List (List Int)) (n0 n1 a0 a1 : Int) (w : World) (hR : RdRowsC w A rows) (hlen : rows.length = len) (hm : len ≤ maxLen) (h8 : len ≤ 8)
    (hb : ∀ k j, -9223372036854775808 ≤ (rows.getD k []).getD j 0 ∧ (rows.getD k []).getD j 0 ≤ 9223372036854775807)
    (hn0 : -9223372036854775808 ≤ n0 ∧ n0 ≤ 9223372036854775807) (hn1 : -9223372036854775808 ≤ n1 ∧ n1 ≤ 9223372036854775807) (ha0 : -9223372036854775808 ≤ a0 ∧ a0 ≤ 9223372036854775807) (ha1 : -9223372036854775808 ≤ a1 ∧ a1 ≤ 9223372036854775807) (hTz : Tz w) :
    Calls Tryz.prog 3 #[.slice A len cap, .agg #[.int .i64 n0, .int .i64 n1], .agg #[.int .i64 a0, .int .i64 a1]] w fun e w' => e = .returned (.bool true) ∧ Below w.heap.size w w' := by
  have hTs : ∀ W l, Kg none w W l → Tz W := fun W l h => hTz.of fun b hb => h.1.block b hb (by simp)
  have hce : ∀ W, Below w.heap.size w W → ∀ p : Addr, p.block < w.heap.size → W.cell? p = w.cell? p := fun W h p hp => h.cell hp
  have HCE := Lib.hid hce
  have HR := Lib.hid hR
  have HLEN := Lib.hid hlen
  have HBD := Lib.hid hb
  have HSA := Lib.hid (fun W hW => sanity_any W hW)
  have HTS := Lib.hid hTs
  have HK1 := Lib.hid (((Kg.none_ none w 0).more (.cells #[.int .i64 n0, .int .i64 n1] 23 (0, 0))).more (.cells #[.int .i64 a0, .int .i64 a1] 23 (0, 0)))
  clear hR hlen hb hTs hce
  go_enter Tryz.func3, Tryz.ntmps3
  go_wp2_with fail
  change Calls _ _ _ ((w.alloc (.cells #[.int .i64 n0, .int .i64 n1] 23 (0, 0))).alloc (.cells #[.int .i64 a0, .int .i64 a1] 23 (0, 0))) _
  generalize (w.alloc (.cells #[.int .i64 n0, .int .i64 n1] 23 (0, 0))).alloc (.cells #[.int .i64 a0, .int .i64 a1] 23 (0, 0)) = W1 at *
  with_reducible refine (HSA.out _ (HTS.out _ _ HK1.out)).mono ?_
  rintro e W2 ⟨rfl, hb2⟩
  have HK2 := Lib.hid (show Kg none w W2 [some (w.heap.size, .cells #[.int .i64 n0, .int .i64 n1] 23 (0, 0)), some (w.heap.size + 1, .cells #[.int .i64 a0, .int .i64 a1] 23 (0, 0))] from (HK1.out.step hb2).cast (by simp))
  clear hb2 HK1
  go_wp2_with fail
  have hw2 := HK2.out.1.size
  go_loopw [8, 9] (fun sl si wr => ∃ (v : Value) (k : Nat) (vs : List Value), v = sl ∧ si = .int .i64 (k : Int) ∧ vs.length = k ∧ k ≤ len ∧ k ≤ 8 ∧ OwS wr W2.heap.size v vs ∧ Cut w rows vs ∧ W2.heap.size ≤ wr.heap.size ∧ Kg none w wr [some (w.heap.size, .cells #[.int .i64 n0, .int .i64 n1] 23 (0, 0)), some (w.heap.size + 1, .cells #[.int .i64 a0, .int .i64 a1] 23 (0, 0))]) (fun _ si _ => 8 - (intOf si).toNat)
  case atStart => exact ⟨_, 0, [], rfl, rfl, rfl, Nat.zero_le _, by omega, OwS.nil _ _, fun k hk => absurd hk (by simp), Nat.le_refl _, HK2.out⟩
  case round =>
    obtain ⟨v, k, vs, rfl, rfl, hvl, hkl, hk8, ho, hcut, hsz, hK⟩ := hrel
    have HO := Lib.hid ho
    have HCUT := Lib.hid hcut
    have HK3 := Lib.hid hK
    clear ho hcut hK
    by_cases hlt : k < len ∧ k < 8
    · obtain ⟨a, Ak, ck, rfl, hab, c1, hc1, hc2, hc3, hRI⟩ := HR.out k (by rw [HLEN.out]; exact hlt.1)
      have d1 : decide ((k : Int) < (len : Int)) = true := by rw [decide_eq_true_iff]; omega
      have d2 : decide ((k : Int) < 8) = true := by rw [decide_eq_true_iff]; omega
      obtain ⟨m, hm⟩ : ∃ m, m = ((rows.getD k []).take 8).length := ⟨_, rfl⟩
      obtain ⟨ln, hln⟩ : ∃ ln, ln = (rows.getD k []).length := ⟨_, rfl⟩
      have hml : m = min ln 8 := by rw [hm, hln, List.length_take]; exact Nat.min_comm _ _
      have hRI2 : RdI w Ak ((rows.getD k []).take 8) := fun j hj => by
        have hj' : j < 8 ∧ j < (rows.getD k []).length := by rw [List.length_take] at hj; omega
        have h := hRI j hj'.2
        rw [List.getD_eq_getElem?_getD, List.getElem?_take_of_lt hj'.1, ← List.getD_eq_getElem?_getD]
        exact h
      have hcut2 : Cut w rows (vs ++ [.slice Ak m ck]) := fun q hq => by
        rcases Nat.lt_or_ge q vs.length with h | h
        · obtain ⟨Aq, cq, h1, h2⟩ := HCUT.out q h
          exact ⟨Aq, cq, by rw [List.getElem?_append_left h]; exact h1, h2⟩
        · obtain rfl : q = k := by rw [List.length_append] at hq; simp at hq; omega
          exact ⟨Ak, ck, by rw [List.getElem?_append_right h, hvl, Nat.sub_self, hm]; rfl, hRI2⟩
      rw [← hln] at c1 hc1
      have hsl := fun W => slice_hiI Ak ln ck m (by omega) W
      have HCUT2 := Lib.hid hcut2
      have HSL := Lib.hid hsl
      have HC1 := Lib.hid c1
      have HML := Lib.hid hml
      have hmin : min (ln : Int) 8 = (m : Int) := by omega
      obtain ⟨i0, hi, hz0, hz1, hz2⟩ := info_parts info_ints
      have HI := Lib.hid hi
      have HZ := Lib.hid hz0
      clear hRI hRI2 hcut2 hsl c1 hm hln hi hz0 HCUT hml
      go_wp2_with fail
      refine wp_region_acts (X := Nat × Value) (fun x => [(0, 25, v), (1, 26, .slice (some a) len cap), (2, 27, .int .i64 (k : Int)), (3, 28, .pointer (some (a.add k))), (4, 29, .slice Ak ln ck), (5, 30, .slice (some a) len cap), (6, 31, .int .i64 (k : Int)), (7, 32, .pointer (some (a.add k))), (8, 33, .slice Ak ln ck), (9, 34, .int .i64 (ln : Int)), (10, 35, .int .i64 (m : Int)), (11, 36, .slice Ak m ck), (12, 37, .slice (some ⟨x.1, 0, none⟩) 1 1), (13, 38, x.2), (14, 8, x.2)])
        (fun x L W => Kg none w W [some (w.heap.size, .cells #[.int .i64 n0, .int .i64 n1] 23 (0, 0)), some (w.heap.size + 1, .cells #[.int .i64 a0, .int .i64 a1] 23 (0, 0)), entO (L 12 && !L 13) x.1 (.cells #[.slice Ak m ck] 25 (0, 0))] ∧ OwS W W2.heap.size (if L 13 = true then x.2 else v) (if L 13 = true then vs ++ [.slice Ak m ck] else vs) ∧ W2.heap.size ≤ W.heap.size) (by kernel_rfl) (by kernel_rfl) (0, v) ?st (by kernel_rfl) ?_ ?_
      case st => exact ⟨by simpa [entO_no] using HK3.out.drew.room, by simpa using HO.out.drew, hsz⟩
      · simp only [selA, selT_cons, selT_nil, List.set_cons_zero, List.set_cons_succ, List.getD_cons_zero, List.getD_cons_succ]
        repeat' (first | exact ActSteps.nil | refine ActSteps.cons ?_ ?_)
        all_goals
          intro L x wx hJ hl hd hs K hK
          (try simp [Region.binds] at hd)
          have r1 := (HCE.out _ (Kg.below_ hJ.1) (a.add k) (by rw [block_add]; exact hab)).trans HC1.out
          have hsl := HSL.out
          try simp only [hd, hl, selV_true, selV_false]
        · have h14 := hs 14 _ rfl (by simp [Region.binds])
          go_simp
          refine hK.out x _ _ ?_ ?_
          · simp [hl, hd, h14, selV_true, selV_false]
          · exact hJ
        · go_simp
          refine hK.out x _ _ ?_ ?_
          · simp [hl, hd, selV_true, selV_false]
          · exact hJ
        · go_simp
          refine hK.out x _ _ ?_ ?_
          · simp [hl, hd, selV_true, selV_false]
          · exact hJ
        · go_simp
          refine hK.out x _ _ ?_ ?_
          · simp [hl, hd, selV_true, selV_false]
          · exact hJ
        · go_simp
          refine hK.out x _ _ ?_ ?_
          · simp [hl, hd, selV_true, selV_false]
          · exact hJ
        · go_simp
          refine hK.out x _ _ ?_ ?_
          · simp [hl, hd, selV_true, selV_false]
          · exact hJ
        · go_simp
          refine hK.out x _ _ ?_ ?_
          · simp [hl, hd, selV_true, selV_false]
          · exact hJ
        · go_simp
          refine hK.out x _ _ ?_ ?_
          · simp [hl, hd, selV_true, selV_false]
          · exact hJ
        · go_simp
          refine hK.out x _ _ ?_ ?_
          · simp [hl, hd, selV_true, selV_false]
          · exact hJ
        · go_simp
          refine hK.out x _ _ ?_ ?_
          · simp [hl, hd, selV_true, selV_false]
          · exact hJ
        · go_simp
          refine hK.out x _ _ ?_ ?_
          · simp [hl, hd, selV_true, selV_false]
          · exact hJ
        · go_simp
          refine hK.out x _ _ ?_ ?_
          · simp [hl, hd, selV_true, selV_false]
          · exact hJ
        · have h13 := hs 13 _ rfl (by simp [Region.binds])
          have hB := hJ
          go_simp
          refine hK.out (wx.heap.size, x.2) _ _ ?_ ?_
          · simp [hl, hd, h13, selV_true, selV_false]
          · exact ⟨Kg.cast (hJ.1.new 2 (.cells #[.slice Ak m ck] 25 (0, 0)) (by simp [hl, entO_no])) (by simp [h13, entO_yes]), by simpa [h13] using hJ.2.1.below ((Below.refl _ _).alloc (Nat.le_refl _) _), by have := hJ.2.2; simp; omega⟩
        · have h14 := hs 14 _ rfl (by simp [Region.binds])
          have hB := hJ.1
          have hO := hJ.2.1
          simp only [hd, hl, Bool.not_false, Bool.and_self, Bool.true_and, entO_yes] at hB
          simp only [hl, Bool.false_eq_true, if_false] at hO
          have hx : wx.heap[x.1]? = some (.cells #[.slice Ak m ck] 25 (0, 0)) := hB.at_ 2 rfl
          rw [if_pos (by kernel_rfl)]
          refine wp_append_own wx (.tmp 25) (.tmp 37) 22 rfl W2.heap.size 25 i0 (.slice none 0 0) 1 24 Tryz.underlying22 HI.out HZ.out hz1 hz2 rfl (by decide) v vs.length vs rfl hO ⟨x.1, 0, none⟩ 1 1 [.slice Ak m ck] rfl rfl (fun j u hj => ?_) (fun u hu => ?_) (by unfold maxLen; omega) (by omega) hJ.2.2 (fun v' w' hown hgr _ => ?_)
          · match j, hj with
            | 0, hj =>
              simp at hj
              subst hj
              rw [add_from0]
              exact cell_of_row wx x.1 0 _ _ _ hx
            | j + 1, hj => simp at hj
          · simp at hu
            subst hu
            rfl
          · have hOn : OwS w' W2.heap.size v' (vs ++ [.slice Ak m ck]) := by
              unfold OwS
              rw [List.length_append]
              exact hown
            refine hK.out (x.1, v') _ _ ?_ ?_
            · simp [hl, hd, h14, selV_true, selV_false, Act.put]
            · have hB2 := ((hB.take 2).other hgr (fun q e => ⟨by have := OwS.own hO q e; omega, fun i c o hi => by
                have h1 := OwS.own hO q e
                match i, hi with
                | 0, hi => simp at hi; have := HK2.out.lt 0 rfl; omega
                | 1, hi => simp at hi; have := HK2.out.lt 1 rfl; omega⟩)).room
              exact ⟨by simpa [entO_no] using hB2, by simpa using hOn, Nat.le_trans hJ.2.2 hgr.size⟩
        · go_simp
          refine hK.out x _ _ ?_ ?_
          · simp [hl, hd, selV_true, selV_false]
          · exact hJ
      · rintro ⟨x1, v2⟩ Wx ⟨hKx, hOx, hszx⟩
        simp only [selA, selT_cons, selT_nil, List.set_cons_zero, List.set_cons_succ, List.getD_cons_zero, List.getD_cons_succ, selV_true]
        simp only [if_true] at hOx
        have HOx := Lib.hid hOx
        have HKx := Lib.hid (show Kg none w Wx [some (w.heap.size, .cells #[.int .i64 n0, .int .i64 n1] 23 (0, 0)), some (w.heap.size + 1, .cells #[.int .i64 a0, .int .i64 a1] 23 (0, 0))] from hKx.take 2)
        clear hOx hKx
        go_wp2
        go_roundw
        case rel => exact ⟨v2, k + 1, vs ++ [.slice Ak m ck], rfl, by simp, by simp [hvl], by omega, by omega, HOx.out, HCUT2.out, hszx, HKx.out⟩
        case measure => simp [intOf]; omega
    · obtain ⟨A', c', hv, hrows⟩ := HCUT.out.rows HO.out (Kg.below_ HK3.out)
      rw [hvl] at hv hrows
      subst hv
      obtain ⟨R, hRe⟩ : ∃ R, R = cutRows rows k := ⟨_, rfl⟩
      rw [← hRe] at hrows
      have hRl : R.length = k := by rw [hRe]; simp [cutRows]
      have hRg : ∀ i, R.getD i [] = if i < k then (rows.getD i []).take 8 else [] := fun i => by
        rw [hRe]
        unfold cutRows
        rw [List.getD_eq_getElem?_getD, List.getElem?_map]
        split
        · next h => rw [List.getElem?_range h]; rfl
        · next h => rw [List.getElem?_eq_none (by simpa using h)]; rfl
      have hR8 : ∀ i, (R.getD i []).length ≤ 8 := fun i => by
        rw [hRg]
        split
        · rw [List.length_take]; exact Nat.min_le_left _ _
        · simp
      have hRb : ∀ i j, -9223372036854775808 ≤ (R.getD i []).getD j 0 ∧ (R.getD i []).getD j 0 ≤ 9223372036854775807 := fun i j => by
        rw [hRg]
        split
        · rw [List.getD_eq_getElem?_getD]
          rcases Nat.lt_or_ge j 8 with h | h
          · rw [List.getElem?_take_of_lt h, ← List.getD_eq_getElem?_getD]
            exact HBD.out i j
          · rw [List.getElem?_eq_none (by rw [List.length_take]; omega)]
            simp
        · simp
      obtain ⟨c, hc⟩ : ∃ c, maxL R k = c := ⟨_, rfl⟩
      have hc8 : c ≤ 8 := by rw [← hc]; exact maxL_le R k 8 hR8
      obtain ⟨NN, hNN⟩ : ∃ NN, k * c = NN := ⟨_, rfl⟩
      have hNb : NN ≤ 64 := by rw [← hNN]; exact Nat.mul_le_mul hk8 hc8
      obtain ⟨zs, hzs⟩ : ∃ zs, zs = ofL R k c := ⟨_, rfl⟩
      have hzl : zs.length = k * c := by rw [hzs]; simp [ofL]
      have hof := fun W hW => Of_fits A' k c' c NN R W hW hRl (by omega) hc (by omega) hNN hRb
      have hrof := fun W hW => rOf_fits A' k c' c NN R W hW hRl (by omega) hc (by omega) hNN hRb
      have hatb := fun g1 g2 i j => At_both g1 g2 k c NN zs hzl hNN (by omega) (by omega) i j
      have hsm := fun g1 g2 W (h1 : Lw W g1 (enc zs)) (h2 : Lw W g2 (enc zs)) => same_refl (k : Int) (c : Int) (some ⟨g1, 0, none⟩) (some ⟨g2, 0, none⟩) NN (enc zs) W h1.rdw h2.rdw (by rw [enc_length, hzl, hNN]) (by omega)
      rw [← hzs] at hof hrof
      unfold mat at hof hrof hatb
      have HOF := Lib.hid hof
      have HROF := Lib.hid hrof
      have HAT := Lib.hid hatb
      have HSM := Lib.hid hsm
      have HROWS := Lib.hid hrows
      clear hof hrof hatb hsm hrows hRe hRl hRg hR8 hRb hc hNN hzs hzl HCUT HO hvl
      have h1 : len ≤ k := by omega
      clear hlt
      all_goals
        go_wp2_with fail
        with_reducible refine (HOF.out _ HROWS.out).mono ?_
        rintro e V1 ⟨g1, rfl, hg, hL, hb⟩
        have HK4 := Lib.hid ((HK3.out.room.came 2 rfl hb hg (o := lwO (enc zs)) hL).more (mrow k c (some ⟨g1, 0, none⟩) NN NN))
        have HROWS2 := Lib.hid ((HROWS.out.below hb).below ((Below.refl _ _).alloc (Nat.le_refl _) (mrow k c (some ⟨g1, 0, none⟩) NN NN)))
        clear hg hL hb
        go_wp2_with fail
        change Calls _ _ _ (V1.alloc (mrow k c (some ⟨g1, 0, none⟩) NN NN)) _
        generalize V1.alloc (mrow k c (some ⟨g1, 0, none⟩) NN NN) = V2 at *
        generalize V1.heap.size = b10 at *
        with_reducible refine (HROF.out _ HROWS2.out).mono ?_
        rintro e V3 ⟨g2, rfl, hg, hL, hb⟩
        have HK5 := Lib.hid (show Kg none w (V3.alloc (mrow k c (some ⟨g2, 0, none⟩) NN NN)) [some (w.heap.size, .cells #[.int .i64 n0, .int .i64 n1] 23 (0, 0)), some (w.heap.size + 1, .cells #[.int .i64 a0, .int .i64 a1] 23 (0, 0)), some (g1, lwO (enc zs)), some (b10, mrow k c (some ⟨g1, 0, none⟩) NN NN), some (g2, lwO (enc zs)), some (V3.heap.size, mrow k c (some ⟨g2, 0, none⟩) NN NN)] from (HK4.out.room.came 4 rfl hb hg (o := lwO (enc zs)) hL).more (mrow k c (some ⟨g2, 0, none⟩) NN NN))
        clear hg hL hb
        go_wp2_with fail
        change Code.wp _ _ _ _ (V3.alloc (mrow k c (some ⟨g2, 0, none⟩) NN NN))
        generalize V3.alloc (mrow k c (some ⟨g2, 0, none⟩) NN NN) = V4 at *
        generalize V3.heap.size = b11 at *
        obtain ⟨x1, s1, hat1, hrat1⟩ := HAT.out g1 g2 a0 a1
        obtain ⟨x2, s2, hat2, hrat2⟩ := HAT.out g1 g2 (bits .and .i64 a0 7) (bits .and .i64 a1 7)
        have HAT1 := Lib.hid hat1
        have HRAT1 := Lib.hid hrat1
        have HAT2 := Lib.hid hat2
        have HRAT2 := Lib.hid hrat2
        clear hat1 hrat1 hat2 hrat2
        refine wp_region_acts (X := Unit) (fun x => [(0, 43, .agg #[.int .i64 (k : Int), .int .i64 (c : Int), .slice (some ⟨g1, 0, none⟩) NN NN]), (1, 44, .agg #[.int .i64 (k : Int), .int .i64 (c : Int), .slice (some ⟨g2, 0, none⟩) NN NN]), (2, 45, .bool true), (3, 46, .bool true), (4, 47, .agg #[.int .i64 (k : Int), .int .i64 (c : Int), .slice (some ⟨g1, 0, none⟩) NN NN]), (5, 48, .pointer (some ⟨w.heap.size + 1, 0, none⟩)), (6, 49, .int .i64 a0), (7, 50, .pointer (some ⟨w.heap.size + 1, 1, none⟩)), (8, 51, .int .i64 a1), (9, 52, .agg #[.bool x1, .string s1]), (10, 53, .agg #[.int .i64 (k : Int), .int .i64 (c : Int), .slice (some ⟨g2, 0, none⟩) NN NN]), (11, 54, .pointer (some ⟨w.heap.size + 1, 0, none⟩)), (12, 55, .int .i64 a0), (13, 56, .pointer (some ⟨w.heap.size + 1, 1, none⟩)), (14, 57, .int .i64 a1), (15, 58, .agg #[.bool x1, .string s1]), (16, 59, .bool true), (17, 60, .bool true), (18, 61, .bool true), (19, 62, .agg #[.int .i64 (k : Int), .int .i64 (c : Int), .slice (some ⟨g1, 0, none⟩) NN NN]), (20, 63, .pointer (some ⟨w.heap.size + 1, 0, none⟩)), (21, 64, .int .i64 a0), (22, 65, .int .i64 (bits .and .i64 a0 7)), (23, 66, .pointer (some ⟨w.heap.size + 1, 1, none⟩)), (24, 67, .int .i64 a1), (25, 68, .int .i64 (bits .and .i64 a1 7)), (26, 69, .agg #[.bool x2, .string s2]), (27, 70, .agg #[.int .i64 (k : Int), .int .i64 (c : Int), .slice (some ⟨g2, 0, none⟩) NN NN]), (28, 71, .pointer (some ⟨w.heap.size + 1, 0, none⟩)), (29, 72, .int .i64 a0), (30, 73, .int .i64 (bits .and .i64 a0 7)), (31, 74, .pointer (some ⟨w.heap.size + 1, 1, none⟩)), (32, 75, .int .i64 a1), (33, 76, .int .i64 (bits .and .i64 a1 7)), (34, 77, .agg #[.bool x2, .string s2]), (35, 78, .bool true), (36, 79, .bool true), (37, 12, .bool true)])
          (fun _ L W => Kg none w W [some (w.heap.size, .cells #[.int .i64 n0, .int .i64 n1] 23 (0, 0)), some (w.heap.size + 1, .cells #[.int .i64 a0, .int .i64 a1] 23 (0, 0)), some (g1, lwO (enc zs)), some (b10, mrow k c (some ⟨g1, 0, none⟩) NN NN), some (g2, lwO (enc zs)), some (b11, mrow k c (some ⟨g2, 0, none⟩) NN NN)]) (by kernel_rfl) (by kernel_rfl) () ?st (by kernel_rfl) ?_ ?_
        case st => exact HK5.out.drew
        · simp only [selA, selT_cons, selT_nil, List.set_cons_zero, List.set_cons_succ, List.getD_cons_zero, List.getD_cons_succ]
          repeat' (first | exact ActSteps.nil | refine ActSteps.cons ?_ ?_)
          all_goals
            intro L x wx hJ hl hd hs K hK
            (try simp [Region.binds] at hd)
            have p0 := hJ.cell 1 0 rfl rfl
            have p1 := hJ.cell 1 1 rfl rfl
            have q0 := hJ.cell 3 0 rfl rfl
            have q1 := hJ.cell 3 1 rfl rfl
            have q2 := hJ.cell 3 2 rfl rfl
            have r0 := hJ.cell 5 0 rfl rfl
            have r1 := hJ.cell 5 1 rfl rfl
            have r2 := hJ.cell 5 2 rfl rfl
            try simp only [hd, hl, selV_true, selV_false]
          · go_simp
            refine hK.out x _ _ ?_ ?_
            · simp [hl, hd, selV_true, selV_false]
            · exact hJ
          · go_simp
            refine hK.out x _ _ ?_ ?_
            · simp [hl, hd, selV_true, selV_false]
            · exact hJ
          · have hx1 : Lw wx g1 (enc zs) := hJ.at_ 2 rfl
            have hx2 : Lw wx g2 (enc zs) := hJ.at_ 4 rfl
            go_simp
            go_at_call 17
            with_reducible refine (HSM.out g1 g2 wx hx1 hx2).mono ?_
            rintro e v ⟨rfl, hb⟩
            refine hK.out x _ _ ?_ ?_
            · simp [hl, hd, selV_true, selV_false]
            · exact hJ.step hb
          · go_simp
            refine hK.out x _ _ ?_ ?_
            · simp [hl, hd, selV_true, selV_false]
            · exact hJ
          · rw [if_pos (by kernel_rfl)]
            go_simp
            refine hK.out x _ _ ?_ ?_
            · simp [hl, hd, selV_true, selV_false]
            · exact hJ
          · rw [if_pos (by kernel_rfl)]
            go_simp
            refine hK.out x _ _ ?_ ?_
            · simp [hl, hd, selV_true, selV_false]
            · exact hJ
          · rw [if_pos (by kernel_rfl)]
            go_simp
            refine hK.out x _ _ ?_ ?_
            · simp [hl, hd, selV_true, selV_false]
            · exact hJ
          · rw [if_pos (by kernel_rfl)]
            go_simp
            refine hK.out x _ _ ?_ ?_
            · simp [hl, hd, selV_true, selV_false]
            · exact hJ
          · rw [if_pos (by kernel_rfl)]
            go_simp
            refine hK.out x _ _ ?_ ?_
            · simp [hl, hd, selV_true, selV_false]
            · exact hJ
          · have hx1 : Lw wx g1 (enc zs) := hJ.at_ 2 rfl
            have hx2 : Lw wx g2 (enc zs) := hJ.at_ 4 rfl
            rw [if_pos (by kernel_rfl)]
            go_simp
            go_at_call 18
            with_reducible refine (HAT1.out wx hx1).mono ?_
            rintro e v ⟨rfl, hb⟩
            refine hK.out x _ _ ?_ ?_
            · simp [hl, hd, selV_true, selV_false]
            · exact hJ.step hb
          · rw [if_pos (by kernel_rfl)]
            go_simp
            refine hK.out x _ _ ?_ ?_
            · simp [hl, hd, selV_true, selV_false]
            · exact hJ
          · rw [if_pos (by kernel_rfl)]
            go_simp
            refine hK.out x _ _ ?_ ?_
            · simp [hl, hd, selV_true, selV_false]
            · exact hJ
          · rw [if_pos (by kernel_rfl)]
            go_simp
            refine hK.out x _ _ ?_ ?_
            · simp [hl, hd, selV_true, selV_false]
            · exact hJ
          · rw [if_pos (by kernel_rfl)]
            go_simp
            refine hK.out x _ _ ?_ ?_
            · simp [hl, hd, selV_true, selV_false]
            · exact hJ
          · rw [if_pos (by kernel_rfl)]
            go_simp
            refine hK.out x _ _ ?_ ?_
            · simp [hl, hd, selV_true, selV_false]
            · exact hJ
          · have hx1 : Lw wx g1 (enc zs) := hJ.at_ 2 rfl
            have hx2 : Lw wx g2 (enc zs) := hJ.at_ 4 rfl
            rw [if_pos (by kernel_rfl)]
            go_simp
            go_at_call 19
            with_reducible refine (HRAT1.out wx hx2).mono ?_
            rintro e v ⟨rfl, hb⟩
            refine hK.out x _ _ ?_ ?_
            · simp [hl, hd, selV_true, selV_false]
            · exact hJ.step hb
          · rw [if_pos (by kernel_rfl)]
            go_simp
            refine hK.out x _ _ ?_ ?_
            · simp [hl, hd, selV_true, selV_false]
            · exact hJ
          · go_simp
            refine hK.out x _ _ ?_ ?_
            · simp [hl, hd, selV_true, selV_false]
            · exact hJ
          · go_simp
            refine hK.out x _ _ ?_ ?_
            · simp [hl, hd, selV_true, selV_false]
            · exact hJ
          · rw [if_pos (by kernel_rfl)]
            go_simp
            refine hK.out x _ _ ?_ ?_
            · simp [hl, hd, selV_true, selV_false]
            · exact hJ
          · rw [if_pos (by kernel_rfl)]
            go_simp
            refine hK.out x _ _ ?_ ?_
            · simp [hl, hd, selV_true, selV_false]
            · exact hJ
          · rw [if_pos (by kernel_rfl)]
            go_simp
            refine hK.out x _ _ ?_ ?_
            · simp [hl, hd, selV_true, selV_false]
            · exact hJ
          · rw [if_pos (by kernel_rfl)]
            go_simp
            refine hK.out x _ _ ?_ ?_
            · simp [hl, hd, selV_true, selV_false]
            · exact hJ
          · rw [if_pos (by kernel_rfl)]
            go_simp
            refine hK.out x _ _ ?_ ?_
            · simp [hl, hd, selV_true, selV_false]
            · exact hJ
          · rw [if_pos (by kernel_rfl)]
            go_simp
            refine hK.out x _ _ ?_ ?_
            · simp [hl, hd, selV_true, selV_false]
            · exact hJ
          · rw [if_pos (by kernel_rfl)]
            go_simp
            refine hK.out x _ _ ?_ ?_
            · simp [hl, hd, selV_true, selV_false]
            · exact hJ
          · have hx1 : Lw wx g1 (enc zs) := hJ.at_ 2 rfl
            have hx2 : Lw wx g2 (enc zs) := hJ.at_ 4 rfl
            rw [if_pos (by kernel_rfl)]
            go_simp
            go_at_call 18
            with_reducible refine (HAT2.out wx hx1).mono ?_
            rintro e v ⟨rfl, hb⟩
            refine hK.out x _ _ ?_ ?_
            · simp [hl, hd, selV_true, selV_false]
            · exact hJ.step hb
          · rw [if_pos (by kernel_rfl)]
            go_simp
            refine hK.out x _ _ ?_ ?_
            · simp [hl, hd, selV_true, selV_false]
            · exact hJ
          · rw [if_pos (by kernel_rfl)]
            go_simp
            refine hK.out x _ _ ?_ ?_
            · simp [hl, hd, selV_true, selV_false]
            · exact hJ
          · rw [if_pos (by kernel_rfl)]
            go_simp
            refine hK.out x _ _ ?_ ?_
            · simp [hl, hd, selV_true, selV_false]
            · exact hJ
          · rw [if_pos (by kernel_rfl)]
            go_simp
            refine hK.out x _ _ ?_ ?_
            · simp [hl, hd, selV_true, selV_false]
            · exact hJ
          · rw [if_pos (by kernel_rfl)]
            go_simp
            refine hK.out x _ _ ?_ ?_
            · simp [hl, hd, selV_true, selV_false]
            · exact hJ
          · rw [if_pos (by kernel_rfl)]
            go_simp
            refine hK.out x _ _ ?_ ?_
            · simp [hl, hd, selV_true, selV_false]
            · exact hJ
          · rw [if_pos (by kernel_rfl)]
            go_simp
            refine hK.out x _ _ ?_ ?_
            · simp [hl, hd, selV_true, selV_false]
            · exact hJ
          · have hx1 : Lw wx g1 (enc zs) := hJ.at_ 2 rfl
            have hx2 : Lw wx g2 (enc zs) := hJ.at_ 4 rfl
            rw [if_pos (by kernel_rfl)]
            go_simp
            go_at_call 19
            with_reducible refine (HRAT2.out wx hx2).mono ?_
            rintro e v ⟨rfl, hb⟩
            refine hK.out x _ _ ?_ ?_
            · simp [hl, hd, selV_true, selV_false]
            · exact hJ.step hb
          · rw [if_pos (by kernel_rfl)]
            go_simp
            refine hK.out x _ _ ?_ ?_
            · simp [hl, hd, selV_true, selV_false]
            · exact hJ
          · go_simp
            refine hK.out x _ _ ?_ ?_
            · simp [hl, hd, selV_true, selV_false]
            · exact hJ
          · go_simp
            refine hK.out x _ _ ?_ ?_
            · simp [hl, hd, selV_true, selV_false]
            · exact hJ
        · rintro _ V5 hK6
          simp only [selA, selT_cons, selT_nil, List.set_cons_zero, List.set_cons_succ, List.getD_cons_zero, List.getD_cons_succ, selV_true]
          have HK6 := Lib.hid (show Kg none w V5 [some (w.heap.size, .cells #[.int .i64 n0, .int .i64 n1] 23 (0, 0)), some (w.heap.size + 1, .cells #[.int .i64 a0, .int .i64 a1] 23 (0, 0))] from hK6.take 2)
          clear hK6 HK5 HAT1 HRAT1 HAT2 HRAT2
          obtain ⟨r1, c1, N1, zs1, hl1, hn1', hz1', hrz1⟩ := Zero_both n0 n1
          obtain ⟨r2, c2, N2, zs2, hl2, hn2', hz2', hrz2⟩ := One_both n0
          obtain ⟨r3, c3, N3, zs3, hl3, hn3', hz3', hrz3⟩ := Zero_both (n0.tmod 210) (n1.tmod 210)
          obtain ⟨r4, c4, N4, zs4, hl4, hn4', hz4', hrz4⟩ := One_both (n1.tmod 210)
          unfold RetM at hz1' hrz1 hz2' hrz2 hz3' hrz3 hz4' hrz4
          have HZ1 := Lib.hid hz1'
          have HRZ1 := Lib.hid hrz1
          have HZ2 := Lib.hid hz2'
          have HRZ2 := Lib.hid hrz2
          have HZ3 := Lib.hid hz3'
          have HRZ3 := Lib.hid hrz3
          have HZ4 := Lib.hid hz4'
          have HRZ4 := Lib.hid hrz4
          have HS1 := Lib.hid (fun A B W h1 h2 => same_refl r1 c1 A B N1 zs1 W h1 h2 hl1 (by omega))
          have HS2 := Lib.hid (fun A B W h1 h2 => same_refl r2 c2 A B N2 zs2 W h1 h2 hl2 (by omega))
          have HS3 := Lib.hid (fun A B W h1 h2 => same_refl r3 c3 A B N3 zs3 W h1 h2 hl3 (by omega))
          have HS4 := Lib.hid (fun A B W h1 h2 => same_refl r4 c4 A B N4 zs4 W h1 h2 hl4 (by omega))
          clear hz1' hrz1 hz2' hrz2 hz3' hrz3 hz4' hrz4 hl1 hl2 hl3 hl4 hn1' hn2' hn3' hn4'
          go_wp2_with fail
          refine wp_region_acts (X := Nat → Option Addr) (fun x => [(0, 80, .pointer (some ⟨w.heap.size, 0, none⟩)), (1, 81, .int .i64 n0), (2, 82, .pointer (some ⟨w.heap.size, 1, none⟩)), (3, 83, .int .i64 n1), (4, 84, .agg #[.int .i64 r1, .int .i64 c1, .slice (x 4) N1 N1]), (5, 85, .pointer (some ⟨w.heap.size, 0, none⟩)), (6, 86, .int .i64 n0), (7, 87, .pointer (some ⟨w.heap.size, 1, none⟩)), (8, 88, .int .i64 n1), (9, 89, .agg #[.int .i64 r1, .int .i64 c1, .slice (x 9) N1 N1]), (10, 90, .bool true), (11, 91, .bool true), (12, 92, .pointer (some ⟨w.heap.size, 0, none⟩)), (13, 93, .int .i64 n0), (14, 94, .agg #[.int .i64 r2, .int .i64 c2, .slice (x 14) N2 N2]), (15, 95, .pointer (some ⟨w.heap.size, 0, none⟩)), (16, 96, .int .i64 n0), (17, 97, .agg #[.int .i64 r2, .int .i64 c2, .slice (x 17) N2 N2]), (18, 98, .bool true), (19, 99, .bool true), (20, 100, .bool true), (21, 101, .pointer (some ⟨w.heap.size, 0, none⟩)), (22, 102, .int .i64 n0), (23, 103, .int .i64 (n0.tmod 210)), (24, 104, .pointer (some ⟨w.heap.size, 1, none⟩)), (25, 105, .int .i64 n1), (26, 106, .int .i64 (n1.tmod 210)), (27, 107, .agg #[.int .i64 r3, .int .i64 c3, .slice (x 27) N3 N3]), (28, 108, .pointer (some ⟨w.heap.size, 0, none⟩)), (29, 109, .int .i64 n0), (30, 110, .int .i64 (n0.tmod 210)), (31, 111, .pointer (some ⟨w.heap.size, 1, none⟩)), (32, 112, .int .i64 n1), (33, 113, .int .i64 (n1.tmod 210)), (34, 114, .agg #[.int .i64 r3, .int .i64 c3, .slice (x 34) N3 N3]), (35, 115, .bool true), (36, 116, .bool true), (37, 117, .bool true), (38, 118, .pointer (some ⟨w.heap.size, 1, none⟩)), (39, 119, .int .i64 n1), (40, 120, .int .i64 (n1.tmod 210)), (41, 121, .agg #[.int .i64 r4, .int .i64 c4, .slice (x 41) N4 N4]), (42, 122, .pointer (some ⟨w.heap.size, 1, none⟩)), (43, 123, .int .i64 n1), (44, 124, .int .i64 (n1.tmod 210)), (45, 125, .agg #[.int .i64 r4, .int .i64 c4, .slice (x 45) N4 N4]), (46, 126, .bool true), (47, 127, .bool true), (48, 13, .bool true)])
            (fun x L W => Kg none w W [some (w.heap.size, .cells #[.int .i64 n0, .int .i64 n1] 23 (0, 0)), some (w.heap.size + 1, .cells #[.int .i64 a0, .int .i64 a1] 23 (0, 0))] ∧ (L 4 = true → RdW W (x 4) zs1) ∧ (L 9 = true → RdW W (x 9) zs1) ∧ (L 14 = true → RdW W (x 14) zs2) ∧ (L 17 = true → RdW W (x 17) zs2) ∧ (L 27 = true → RdW W (x 27) zs3) ∧ (L 34 = true → RdW W (x 34) zs3) ∧ (L 41 = true → RdW W (x 41) zs4) ∧ (L 45 = true → RdW W (x 45) zs4)) (by kernel_rfl) (by kernel_rfl) (fun _ => none) ?st (by kernel_rfl) ?_ ?_
          case st => exact ⟨HK6.out.drew, fun h => by simp at h, fun h => by simp at h, fun h => by simp at h, fun h => by simp at h, fun h => by simp at h, fun h => by simp at h, fun h => by simp at h, fun h => by simp at h⟩
          · simp only [selA, selT_cons, selT_nil, List.set_cons_zero, List.set_cons_succ, List.getD_cons_zero, List.getD_cons_succ]
            repeat' (first | exact ActSteps.nil | refine ActSteps.cons ?_ ?_)
            all_goals
              intro L x wx hJ hl hd hs K hK
              (try simp [Region.binds] at hd)
              have p0 := hJ.1.cell 0 0 rfl rfl
              have p1 := hJ.1.cell 0 1 rfl rfl
              try simp only [hd, hl, selV_true, selV_false]
            · go_simp
              refine hK.out x _ _ ?_ ?_
              · simp [hl, hd, selV_true, selV_false]
              · exact hJ
            · go_simp
              refine hK.out x _ _ ?_ ?_
              · simp [hl, hd, selV_true, selV_false]
              · exact hJ
            · go_simp
              refine hK.out x _ _ ?_ ?_
              · simp [hl, hd, selV_true, selV_false]
              · exact hJ
            · go_simp
              refine hK.out x _ _ ?_ ?_
              · simp [hl, hd, selV_true, selV_false]
              · exact hJ
            · go_simp
              go_at_call 20
              with_reducible refine (HZ1.out wx).mono ?_
              rintro e v ⟨A, rfl, hr, hb⟩
              refine hK.out (updA x 4 A) _ _ ?_ ?_
              · simp [hl, hd, selV_true, selV_false, updA]
              · exact ⟨hJ.1.step hb, fun _ => hr, fun h => (hJ.2.2.1 h).below hb, fun h => (hJ.2.2.2.1 h).below hb, fun h => (hJ.2.2.2.2.1 h).below hb, fun h => (hJ.2.2.2.2.2.1 h).below hb, fun h => (hJ.2.2.2.2.2.2.1 h).below hb, fun h => (hJ.2.2.2.2.2.2.2.1 h).below hb, fun h => (hJ.2.2.2.2.2.2.2.2 h).below hb⟩
            · go_simp
              refine hK.out x _ _ ?_ ?_
              · simp [hl, hd, selV_true, selV_false]
              · exact hJ
            · go_simp
              refine hK.out x _ _ ?_ ?_
              · simp [hl, hd, selV_true, selV_false]
              · exact hJ
            · go_simp
              refine hK.out x _ _ ?_ ?_
              · simp [hl, hd, selV_true, selV_false]
              · exact hJ
            · go_simp
              refine hK.out x _ _ ?_ ?_
              · simp [hl, hd, selV_true, selV_false]
              · exact hJ
            · go_simp
              go_at_call 21
              with_reducible refine (HRZ1.out wx).mono ?_
              rintro e v ⟨A, rfl, hr, hb⟩
              refine hK.out (updA x 9 A) _ _ ?_ ?_
              · simp [hl, hd, selV_true, selV_false, updA]
              · exact ⟨hJ.1.step hb, fun h => (hJ.2.1 h).below hb, fun _ => hr, fun h => (hJ.2.2.2.1 h).below hb, fun h => (hJ.2.2.2.2.1 h).below hb, fun h => (hJ.2.2.2.2.2.1 h).below hb, fun h => (hJ.2.2.2.2.2.2.1 h).below hb, fun h => (hJ.2.2.2.2.2.2.2.1 h).below hb, fun h => (hJ.2.2.2.2.2.2.2.2 h).below hb⟩
            · go_simp
              go_at_call 17
              with_reducible refine (HS1.out _ _ wx (hJ.2.1 (by simp [hd])) (hJ.2.2.1 (by simp [hd]))).mono ?_
              rintro e v ⟨rfl, hb⟩
              refine hK.out x _ _ ?_ ?_
              · simp [hl, hd, selV_true, selV_false]
              · exact ⟨hJ.1.step hb, fun h => (hJ.2.1 h).below hb, fun h => (hJ.2.2.1 h).below hb, fun h => (hJ.2.2.2.1 h).below hb, fun h => (hJ.2.2.2.2.1 h).below hb, fun h => (hJ.2.2.2.2.2.1 h).below hb, fun h => (hJ.2.2.2.2.2.2.1 h).below hb, fun h => (hJ.2.2.2.2.2.2.2.1 h).below hb, fun h => (hJ.2.2.2.2.2.2.2.2 h).below hb⟩
            · go_simp
              refine hK.out x _ _ ?_ ?_
              · simp [hl, hd, selV_true, selV_false]
              · exact hJ
            · rw [if_pos (by kernel_rfl)]
              go_simp
              refine hK.out x _ _ ?_ ?_
              · simp [hl, hd, selV_true, selV_false]
              · exact hJ
            · rw [if_pos (by kernel_rfl)]
              go_simp
              refine hK.out x _ _ ?_ ?_
              · simp [hl, hd, selV_true, selV_false]
              · exact hJ
            · rw [if_pos (by kernel_rfl)]
              go_simp
              go_at_call 22
              with_reducible refine (HZ2.out wx).mono ?_
              rintro e v ⟨A, rfl, hr, hb⟩
              refine hK.out (updA x 14 A) _ _ ?_ ?_
              · simp [hl, hd, selV_true, selV_false, updA]
              · exact ⟨hJ.1.step hb, fun h => (hJ.2.1 h).below hb, fun h => (hJ.2.2.1 h).below hb, fun _ => hr, fun h => (hJ.2.2.2.2.1 h).below hb, fun h => (hJ.2.2.2.2.2.1 h).below hb, fun h => (hJ.2.2.2.2.2.2.1 h).below hb, fun h => (hJ.2.2.2.2.2.2.2.1 h).below hb, fun h => (hJ.2.2.2.2.2.2.2.2 h).below hb⟩
            · rw [if_pos (by kernel_rfl)]
              go_simp
              refine hK.out x _ _ ?_ ?_
              · simp [hl, hd, selV_true, selV_false]
              · exact hJ
            · rw [if_pos (by kernel_rfl)]
              go_simp
              refine hK.out x _ _ ?_ ?_
              · simp [hl, hd, selV_true, selV_false]
              · exact hJ
            · rw [if_pos (by kernel_rfl)]
              go_simp
              go_at_call 23
              with_reducible refine (HRZ2.out wx).mono ?_
              rintro e v ⟨A, rfl, hr, hb⟩
              refine hK.out (updA x 17 A) _ _ ?_ ?_
              · simp [hl, hd, selV_true, selV_false, updA]
              · exact ⟨hJ.1.step hb, fun h => (hJ.2.1 h).below hb, fun h => (hJ.2.2.1 h).below hb, fun h => (hJ.2.2.2.1 h).below hb, fun _ => hr, fun h => (hJ.2.2.2.2.2.1 h).below hb, fun h => (hJ.2.2.2.2.2.2.1 h).below hb, fun h => (hJ.2.2.2.2.2.2.2.1 h).below hb, fun h => (hJ.2.2.2.2.2.2.2.2 h).below hb⟩
            · rw [if_pos (by kernel_rfl)]
              go_simp
              go_at_call 17
              with_reducible refine (HS2.out _ _ wx (hJ.2.2.2.1 (by simp [hd])) (hJ.2.2.2.2.1 (by simp [hd]))).mono ?_
              rintro e v ⟨rfl, hb⟩
              refine hK.out x _ _ ?_ ?_
              · simp [hl, hd, selV_true, selV_false]
              · exact ⟨hJ.1.step hb, fun h => (hJ.2.1 h).below hb, fun h => (hJ.2.2.1 h).below hb, fun h => (hJ.2.2.2.1 h).below hb, fun h => (hJ.2.2.2.2.1 h).below hb, fun h => (hJ.2.2.2.2.2.1 h).below hb, fun h => (hJ.2.2.2.2.2.2.1 h).below hb, fun h => (hJ.2.2.2.2.2.2.2.1 h).below hb, fun h => (hJ.2.2.2.2.2.2.2.2 h).below hb⟩
            · go_simp
              refine hK.out x _ _ ?_ ?_
              · simp [hl, hd, selV_true, selV_false]
              · exact hJ
            · go_simp
              refine hK.out x _ _ ?_ ?_
              · simp [hl, hd, selV_true, selV_false]
              · exact hJ
            · rw [if_pos (by kernel_rfl)]
              go_simp
              refine hK.out x _ _ ?_ ?_
              · simp [hl, hd, selV_true, selV_false]
              · exact hJ
            · rw [if_pos (by kernel_rfl)]
              go_simp
              refine hK.out x _ _ ?_ ?_
              · simp [hl, hd, selV_true, selV_false]
              · exact hJ
            · rw [if_pos (by kernel_rfl)]
              go_simp
              refine hK.out x _ _ ?_ ?_
              · simp [hl, hd, selV_true, selV_false]
              · exact hJ
            · rw [if_pos (by kernel_rfl)]
              go_simp
              refine hK.out x _ _ ?_ ?_
              · simp [hl, hd, selV_true, selV_false]
              · exact hJ
            · rw [if_pos (by kernel_rfl)]
              go_simp
              refine hK.out x _ _ ?_ ?_
              · simp [hl, hd, selV_true, selV_false]
              · exact hJ
            · rw [if_pos (by kernel_rfl)]
              go_simp
              refine hK.out x _ _ ?_ ?_
              · simp [hl, hd, selV_true, selV_false]
              · exact hJ
            · rw [if_pos (by kernel_rfl)]
              go_simp
              go_at_call 20
              with_reducible refine (HZ3.out wx).mono ?_
              rintro e v ⟨A, rfl, hr, hb⟩
              refine hK.out (updA x 27 A) _ _ ?_ ?_
              · simp [hl, hd, selV_true, selV_false, updA]
              · exact ⟨hJ.1.step hb, fun h => (hJ.2.1 h).below hb, fun h => (hJ.2.2.1 h).below hb, fun h => (hJ.2.2.2.1 h).below hb, fun h => (hJ.2.2.2.2.1 h).below hb, fun _ => hr, fun h => (hJ.2.2.2.2.2.2.1 h).below hb, fun h => (hJ.2.2.2.2.2.2.2.1 h).below hb, fun h => (hJ.2.2.2.2.2.2.2.2 h).below hb⟩
            · rw [if_pos (by kernel_rfl)]
              go_simp
              refine hK.out x _ _ ?_ ?_
              · simp [hl, hd, selV_true, selV_false]
              · exact hJ
            · rw [if_pos (by kernel_rfl)]
              go_simp
              refine hK.out x _ _ ?_ ?_
              · simp [hl, hd, selV_true, selV_false]
              · exact hJ
            · rw [if_pos (by kernel_rfl)]
              go_simp
              refine hK.out x _ _ ?_ ?_
              · simp [hl, hd, selV_true, selV_false]
              · exact hJ
            · rw [if_pos (by kernel_rfl)]
              go_simp
              refine hK.out x _ _ ?_ ?_
              · simp [hl, hd, selV_true, selV_false]
              · exact hJ
            · rw [if_pos (by kernel_rfl)]
              go_simp
              refine hK.out x _ _ ?_ ?_
              · simp [hl, hd, selV_true, selV_false]
              · exact hJ
            · rw [if_pos (by kernel_rfl)]
              go_simp
              refine hK.out x _ _ ?_ ?_
              · simp [hl, hd, selV_true, selV_false]
              · exact hJ
            · rw [if_pos (by kernel_rfl)]
              go_simp
              go_at_call 21
              with_reducible refine (HRZ3.out wx).mono ?_
              rintro e v ⟨A, rfl, hr, hb⟩
              refine hK.out (updA x 34 A) _ _ ?_ ?_
              · simp [hl, hd, selV_true, selV_false, updA]
              · exact ⟨hJ.1.step hb, fun h => (hJ.2.1 h).below hb, fun h => (hJ.2.2.1 h).below hb, fun h => (hJ.2.2.2.1 h).below hb, fun h => (hJ.2.2.2.2.1 h).below hb, fun h => (hJ.2.2.2.2.2.1 h).below hb, fun _ => hr, fun h => (hJ.2.2.2.2.2.2.2.1 h).below hb, fun h => (hJ.2.2.2.2.2.2.2.2 h).below hb⟩
            · rw [if_pos (by kernel_rfl)]
              go_simp
              go_at_call 17
              with_reducible refine (HS3.out _ _ wx (hJ.2.2.2.2.2.1 (by simp [hd])) (hJ.2.2.2.2.2.2.1 (by simp [hd]))).mono ?_
              rintro e v ⟨rfl, hb⟩
              refine hK.out x _ _ ?_ ?_
              · simp [hl, hd, selV_true, selV_false]
              · exact ⟨hJ.1.step hb, fun h => (hJ.2.1 h).below hb, fun h => (hJ.2.2.1 h).below hb, fun h => (hJ.2.2.2.1 h).below hb, fun h => (hJ.2.2.2.2.1 h).below hb, fun h => (hJ.2.2.2.2.2.1 h).below hb, fun h => (hJ.2.2.2.2.2.2.1 h).below hb, fun h => (hJ.2.2.2.2.2.2.2.1 h).below hb, fun h => (hJ.2.2.2.2.2.2.2.2 h).below hb⟩
            · go_simp
              refine hK.out x _ _ ?_ ?_
              · simp [hl, hd, selV_true, selV_false]
              · exact hJ
            · go_simp
              refine hK.out x _ _ ?_ ?_
              · simp [hl, hd, selV_true, selV_false]
              · exact hJ
            · rw [if_pos (by kernel_rfl)]
              go_simp
              refine hK.out x _ _ ?_ ?_
              · simp [hl, hd, selV_true, selV_false]
              · exact hJ
            · rw [if_pos (by kernel_rfl)]
              go_simp
              refine hK.out x _ _ ?_ ?_
              · simp [hl, hd, selV_true, selV_false]
              · exact hJ
            · rw [if_pos (by kernel_rfl)]
              go_simp
              refine hK.out x _ _ ?_ ?_
              · simp [hl, hd, selV_true, selV_false]
              · exact hJ
            · rw [if_pos (by kernel_rfl)]
              go_simp
              go_at_call 22
              with_reducible refine (HZ4.out wx).mono ?_
              rintro e v ⟨A, rfl, hr, hb⟩
              refine hK.out (updA x 41 A) _ _ ?_ ?_
              · simp [hl, hd, selV_true, selV_false, updA]
              · exact ⟨hJ.1.step hb, fun h => (hJ.2.1 h).below hb, fun h => (hJ.2.2.1 h).below hb, fun h => (hJ.2.2.2.1 h).below hb, fun h => (hJ.2.2.2.2.1 h).below hb, fun h => (hJ.2.2.2.2.2.1 h).below hb, fun h => (hJ.2.2.2.2.2.2.1 h).below hb, fun _ => hr, fun h => (hJ.2.2.2.2.2.2.2.2 h).below hb⟩
            · rw [if_pos (by kernel_rfl)]
              go_simp
              refine hK.out x _ _ ?_ ?_
              · simp [hl, hd, selV_true, selV_false]
              · exact hJ
            · rw [if_pos (by kernel_rfl)]
              go_simp
              refine hK.out x _ _ ?_ ?_
              · simp [hl, hd, selV_true, selV_false]
              · exact hJ
            · rw [if_pos (by kernel_rfl)]
              go_simp
              refine hK.out x _ _ ?_ ?_
              · simp [hl, hd, selV_true, selV_false]
              · exact hJ
            · rw [if_pos (by kernel_rfl)]
              go_simp
              go_at_call 23
              with_reducible refine (HRZ4.out wx).mono ?_
              rintro e v ⟨A, rfl, hr, hb⟩
              refine hK.out (updA x 45 A) _ _ ?_ ?_
              · simp [hl, hd, selV_true, selV_false, updA]
              · exact ⟨hJ.1.step hb, fun h => (hJ.2.1 h).below hb, fun h => (hJ.2.2.1 h).below hb, fun h => (hJ.2.2.2.1 h).below hb, fun h => (hJ.2.2.2.2.1 h).below hb, fun h => (hJ.2.2.2.2.2.1 h).below hb, fun h => (hJ.2.2.2.2.2.2.1 h).below hb, fun h => (hJ.2.2.2.2.2.2.2.1 h).below hb, fun _ => hr⟩
            · rw [if_pos (by kernel_rfl)]
              go_simp
              go_at_call 17
              with_reducible refine (HS4.out _ _ wx (hJ.2.2.2.2.2.2.2.1 (by simp [hd])) (hJ.2.2.2.2.2.2.2.2 (by simp [hd]))).mono ?_
              rintro e v ⟨rfl, hb⟩
              refine hK.out x _ _ ?_ ?_
              · simp [hl, hd, selV_true, selV_false]
              · exact ⟨hJ.1.step hb, fun h => (hJ.2.1 h).below hb, fun h => (hJ.2.2.1 h).below hb, fun h => (hJ.2.2.2.1 h).below hb, fun h => (hJ.2.2.2.2.1 h).below hb, fun h => (hJ.2.2.2.2.2.1 h).below hb, fun h => (hJ.2.2.2.2.2.2.1 h).below hb, fun h => (hJ.2.2.2.2.2.2.2.1 h).below hb, fun h => (hJ.2.2.2.2.2.2.2.2 h).below hb⟩
            · go_simp
              refine hK.out x _ _ ?_ ?_
              · simp [hl, hd, selV_true, selV_false]
              · exact hJ
            · go_simp
              refine hK.out x _ _ ?_ ?_
              · simp [hl, hd, selV_true, selV_false]
              · exact hJ
          · rintro x7 V6 hK7
            simp only [selA, selT_cons, selT_nil, List.set_cons_zero, List.set_cons_succ, List.getD_cons_zero, List.getD_cons_succ, selV_true]
            have HBe := Lib.hid (Kg.below_ hK7.1)
            clear hK7
            go_wp2
            go_ret
            exact ⟨rfl, HBe.out⟩
end Go.Proofs.YtknaghdoffigjaaGreatDoor
