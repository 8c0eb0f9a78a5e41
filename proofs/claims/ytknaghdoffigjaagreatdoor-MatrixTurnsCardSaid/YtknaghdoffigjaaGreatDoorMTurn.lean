/-
  The contract of matrix.Transpose for a right matrix.
-/
import Derived.Test.YtknaghdoffigjaaGreatDoorMJoin
set_option linter.unusedSimpArgs false
set_option linter.unusedVariables false
set_option linter.unnecessarySimpa false
namespace Go.Proofs.YtknaghdoffigjaaGreatDoor
open Go.RowKit Go
attribute [local go_sem] Oper.semAt_some

/-- The transposed matrix, of which i columns are filled, and j elements of the next one. -/
def trT (xs : List Int) (r c i j : Nat) : List Int := (List.range (c * r)).map fun n => if n % r < i ∨ (n % r = i ∧ n / r < j) then xs.getD (n % r * c + n / r) 0 else 0
def trF (xs : List Int) (r c : Nat) : List Int := (List.range (c * r)).map fun n => xs.getD (n % r * c + n / r) 0
theorem trT_length (xs : List Int) (r c i j : Nat) : (trT xs r c i j).length = c * r := by simp [trT]
theorem trF_length (xs : List Int) (r c : Nat) : (trF xs r c).length = c * r := by simp [trF]
theorem pos_of_lt2 {n a b : Nat} (h : n < a * b) : 0 < b := by
  rcases Nat.eq_zero_or_pos b with h0 | h0
  · subst h0; omega
  · exact h0
theorem trT_zero (xs : List Int) (r c : Nat) : enc (trT xs r c 0 0) = List.replicate (c * r) (false, ⟨#[]⟩) := by
  rw [← enc_zeros]
  congr 1
  unfold trT
  apply List.ext_getElem
  · simp
  · intro i h1 h2
    simp
theorem trT_full (xs : List Int) (r c : Nat) : trT xs r c r 0 = trF xs r c := by
  unfold trT trF
  apply List.map_congr_left
  intro n hn
  have hn : n < c * r := by simpa using hn
  rw [if_pos (.inl (Nat.mod_lt _ (pos_of_lt2 hn)))]
theorem trT_col (xs : List Int) (r c i : Nat) : trT xs r c i c = trT xs r c (i + 1) 0 := by
  unfold trT
  apply List.map_congr_left
  intro n hn
  have hn : n < c * r := by simpa using hn
  have hd : n / r < c := (Nat.div_lt_iff_lt_mul (pos_of_lt2 hn)).2 hn
  generalize xs.getD (n % r * c + n / r) 0 = v
  generalize n / r = q at *
  generalize n % r = p at *
  by_cases h : p < i ∨ (p = i ∧ q < c)
  · rw [if_pos h, if_pos (by omega)]
  · rw [if_neg h, if_neg (by omega)]
theorem encSet (xs : List Int) (k : Nat) (z : Int) : (enc xs).set k (wneg z, wmag z) = enc (xs.set k z) := by
  unfold enc
  rw [List.map_set]
theorem trT_next (xs : List Int) (r c i j : Nat) (hi : i < r) : (enc (trT xs r c i j)).set (j * r + i) (wneg (xs.getD (i * c + j) 0), wmag (xs.getD (i * c + j) 0)) = enc (trT xs r c i (j + 1)) := by
  rw [encSet]
  congr 1
  unfold trT
  apply List.ext_getElem
  · simp
  · intro n h1 h2
    rw [List.getElem_set]
    simp only [List.getElem_map, List.getElem_range]
    have hr : 0 < r := by omega
    have hdm := Nat.div_add_mod n r
    have hml := Nat.mod_lt n hr
    rw [Nat.mul_comm] at hdm
    by_cases h : j * r + i = n
    · have hd : n / r = j := by
        rw [← h, Nat.mul_comm, Nat.mul_add_div hr, Nat.div_eq_of_lt hi]
        rfl
      have hm : n % r = i := by rw [hd] at hdm; omega
      rw [if_pos h, if_pos (.inr ⟨hm, by omega⟩), hd, hm]
    · rw [if_neg h]
      by_cases hm : n % r = i
      · have hne : n / r ≠ j := by
          intro e
          rw [hm, e] at hdm
          exact h hdm
        by_cases h3 : n / r < j
        · rw [if_pos (.inr ⟨hm, h3⟩), if_pos (.inr ⟨hm, by omega⟩)]
        · rw [if_neg (by omega), if_neg (by omega)]
      · by_cases h3 : n % r < i
        · rw [if_pos (.inl h3), if_pos (.inl h3)]
        · rw [if_neg (by omega), if_neg (by omega)]
set_option maxRecDepth 100000 in
set_option maxHeartbeats 4000000 in
theorem Transpose_ok (gA r c NA capA NN : Nat) (xs : List Int) (w : World) (hA : Lw w gA (enc xs)) (hlA : xs.length = r * c) (hNA : NA = r * c) (hcA : NA ≤ capA) (hmA : capA ≤ maxLen)
    (hrA : mright r c (enc xs) = true) (hr2 : r ≤ 200) (hc2 : c ≤ 200) (hNN : c * r = NN) :
    Calls Tryz.prog 34 #[mat r c (some ⟨gA, 0, none⟩) NA capA] w fun e w' => ∃ g, e = .returned (mat c r (some ⟨g, 0, none⟩) NN NN) ∧ w.heap.size ≤ g ∧ Lw w' g (enc (trF xs r c)) ∧ Below w.heap.size w w' := by
  have hNN2 : NN ≤ 40000 := by rw [← hNN]; exact Nat.le_trans (Nat.mul_le_mul hc2 hr2) (by omega)
  have hri := fun W hW => Right_any (r : Int) (c : Int) (some ⟨gA, 0, none⟩) NA capA (enc xs) W hW (by rw [enc_length, hlA, hNA]) (by omega)
  rw [hrA] at hri
  have hto := fun W => tableOf_any (r : Int) (c : Int) (some ⟨gA, 0, none⟩) NA capA W
  have hnt := fun W => newTable_any c r NN W (by omega) (by omega) hNN hNN2
  have hmo := fun g W => matrixOf_any (c : Int) (r : Int) (some ⟨g, 0, none⟩) NN NN W
  have hrw := fun (g j : Nat) (hj : j < c) W => row_any c r j (some ⟨g, 0, none⟩) NN NN W hj (by omega) (by omega) (Nat.le_of_eq hNN) (by unfold maxLen; omega)
  simp only [row_of0] at hrw
  have hvis := each_visits r c (some ⟨gA, 0, none⟩) NA capA (by omega) (by omega) (by omega) hmA
  unfold mat at *
  have HRI := Lib.hid hri
  have HTO := Lib.hid hto
  have HNT := Lib.hid hnt
  have HMO := Lib.hid hmo
  have HRW := Lib.hid hrw
  have HVIS := Lib.hid hvis
  have HA := Lib.hid hA
  have HLA := Lib.hid hlA
  have HNN := Lib.hid hNN
  have hgA := heap_lt hA
  clear hri hto hnt hmo hrw hvis hA hlA hNA hNN hrA
  have hK1 := (Kg.none_ none w 2).new 0 (mrow (r : Int) (c : Int) (some ⟨gA, 0, none⟩) NA capA) rfl
  have HK2 := Lib.hid ((hK1.new 1 (mrow 0 0 none 0 0) rfl).cast (l' := [some (w.heap.size, mrow (r : Int) (c : Int) (some ⟨gA, 0, none⟩) NA capA), some (w.heap.size + 1, mrow 0 0 none 0 0)]) (by simp))
  have hAs : ∀ W l, Kg none w W l → Lw W gA (enc xs) := fun W l h => (h.1.block gA hgA (by simp)).trans HA.out
  have HAS := Lib.hid hAs
  have c0 := HK2.out.cell 0 0 rfl rfl
  have c1' := HK2.out.cell 0 1 rfl rfl
  have c2' := HK2.out.cell 0 2 rfl rfl
  clear hK1 hAs
  refine (callsIn_wide (n := 0)).1 ?_
  refine callsIn_of_wp_marks Tryz.func34 rfl trivial ?_ rfl
  simp only [Tryz.ntmps34, List.size_toArray, List.length_cons, List.length_nil, Nat.reduceAdd, Nat.reduceSub, Array.replicate_succ, Array.replicate_zero, List.push_toArray, List.append_toArray, List.nil_append, List.cons_append]
  gi_wp2_with fail
  change _ ∧ _ ∧ CallsIn _ _ _ _ _ ((w.alloc (mrow (r : Int) (c : Int) (some ⟨gA, 0, none⟩) NA capA)).alloc (mrow 0 0 none 0 0)) _
  generalize (w.alloc (mrow (r : Int) (c : Int) (some ⟨gA, 0, none⟩) NA capA)).alloc (mrow 0 0 none 0 0) = W2 at *
  refine ⟨trivial, rfl, ?_⟩
  with_reducible refine (callsIn_wide.2 (HRI.out _ (HAS.out _ _ HK2.out).rdw)).mono ?_
  rintro e w1 ⟨rfl, hb1⟩
  have HK3 := Lib.hid (HK2.out.step hb1)
  clear c0 c1' c2' hb1 HK2
  have c0 := HK3.out.cell 0 0 rfl rfl
  have c1' := HK3.out.cell 0 1 rfl rfl
  gi_wp2_with fail
  refine ⟨trivial, rfl, ?_⟩
  with_reducible refine (callsIn_wide.2 (HNT.out _)).mono ?_
  rintro e w6 ⟨g, rfl, hg, hLg, hb6⟩
  have HK6 := Lib.hid ((HK3.out.room.came 2 rfl hb6 hg (o := lwO (enc (trT xs r c 0 0))) (by rw [trT_zero, HNN.out]; exact hLg)).more (.cells #[.int .i64 (c : Int), .int .i64 (r : Int), .slice (some ⟨g, 0, none⟩) NN NN] 68 (0, 0)))
  clear hLg hb6 c0 c1'
  have c0 := HK6.out.cell 0 0 rfl rfl
  have c1' := HK6.out.cell 0 1 rfl rfl
  have c2' := HK6.out.cell 0 2 rfl rfl
  gi_wp2_with fail
  change _ ∧ _ ∧ CallsIn _ _ _ _ _ (w6.alloc (.cells #[.int .i64 (c : Int), .int .i64 (r : Int), .slice (some ⟨g, 0, none⟩) NN NN] 68 (0, 0))) _
  generalize w6.alloc (.cells #[.int .i64 (c : Int), .int .i64 (r : Int), .slice (some ⟨g, 0, none⟩) NN NN] 68 (0, 0)) = W6 at *
  generalize w6.heap.size = b13 at *
  refine ⟨trivial, rfl, ?_⟩
  with_reducible refine (callsIn_wide.2 (HTO.out _)).mono ?_
  rintro e W7 ⟨rfl, hb7⟩
  have HK7 := Lib.hid (show Kg none w W7 [some (w.heap.size, mrow (r : Int) (c : Int) (some ⟨gA, 0, none⟩) NA capA), some (w.heap.size + 1, mrow 0 0 none 0 0), some (g, lwO (enc (trT xs r c 0 0))), some (b13, tbO (c : Int) (r : Int) (some ⟨g, 0, none⟩) NN NN)] from HK6.out.step hb7)
  clear hb7 c0 c1' c2' HK6 HK3
  gi_wp2_with fail
  refine range_boxed (a := ?A) (ps := #[20, 21]) (gf := 59) (first := #[.agg #[.int .i64 (r : Int), .int .i64 (c : Int), .slice (some ⟨gA, 0, none⟩) NA capA]]) ?hg1 (enters_of Tryz.func59 (by kernel_rfl) rfl)
    HVIS.out ?hps1
    (fun i V => Kg none w V [some (w.heap.size, mrow (r : Int) (c : Int) (some ⟨gA, 0, none⟩) NA capA), some (w.heap.size + 1, mrow 0 0 none 0 0), some (g, lwO (enc (trT xs r c i 0))), some (b13, tbO (c : Int) (r : Int) (some ⟨g, 0, none⟩) NN NN)])
    (fun _ _ => False) ?own ?ownx HK7.out
    (fun i a' V => a' = { tmps := ((((?A).tmps.setIfInBounds 20 (.int .i64 (i : Int))).setIfInBounds 21 (.slice (some ⟨gA, i * c * 2, none⟩) c c)).setIfInBounds 4 (.int .i64 (i : Int))).setIfInBounds 5 (.slice (some ⟨gA, i * c * 2, none⟩) c c), defers := [] })
    (fun _ _ _ _ h _ => h) ?assign ?body ?done (fun _ _ _ _ h => h.elim)
  case hg1 => rfl
  case hps1 => exact fun k => rfl
  case own => exact fun i V V' h hl => h.later' hl HK7.out.1.size rfl
  case ownx => exact fun _ _ _ h _ => h.elim
  case assign =>
    intro l i V K' hi hz hI hK'
    unfold rowArgs
    rw [row_of0]
    clear hI
    gi_wp2
    exact hK' _ _ rfl (Below.refl _ _)
  case body =>
    rintro l i a' V hi hz hl0 hl1 hKV rfl
    simp only [List.setIfInBounds_toArray, List.set_cons_succ, List.set_cons_zero]
    have HKV := Lib.hid hKV
    have Hkk := Lib.hid (Kept.refl W7.heap.size V)
    have hgl := HK7.out.lt 2 rfl
    clear hKV
    gi_wp2_with fail
    gi_loopw [6, 7, 24] (fun _ _ ii wr => ∃ j : Nat, ii = .int .i64 (j : Int) ∧ j ≤ c ∧ Kg none w wr [some (w.heap.size, mrow (r : Int) (c : Int) (some ⟨gA, 0, none⟩) NA capA), some (w.heap.size + 1, mrow 0 0 none 0 0), some (g, lwO (enc (trT xs r c i j))), some (b13, tbO (c : Int) (r : Int) (some ⟨g, 0, none⟩) NN NN)] ∧ Kept W7.heap.size V wr) (fun _ _ ii _ => c - (intOf ii).toNat)
    case atStart => exact ⟨0, rfl, Nat.zero_le _, HKV.out, Hkk.out⟩
    case round =>
      obtain ⟨j, rfl, hj, hKj, hkj⟩ := hrel
      have HKj := Lib.hid hKj
      have Hkj := Lib.hid hkj
      clear hKj hkj HKV Hkk
      by_cases hlt : j < c
      · have hin : i * c + j < xs.length := by
          rw [HLA.out]
          have := Nat.mul_le_mul_right c (show i + 1 ≤ r by omega)
          rw [Nat.add_mul] at this
          omega
        have hLa := HAS.out _ _ HKj.out
        have c0 := hLa.cell0 (i * c + j) (by rw [enc_length]; exact hin)
        have c1' := hLa.cell1 (i * c + j) (by rw [enc_length]; exact hin)
        rw [enc_get] at c0 c1'
        rw [Nat.add_mul] at c0 c1'
        dsimp only at c0 c1'
        have hnx := trT_next xs r c i j hi
        generalize xs.getD (i * c + j) 0 = z at *
        have hsN : j * r + i < NN := by
          have := Nat.mul_le_mul_right r (show j + 1 ≤ c by omega)
          rw [Nat.add_mul] at this
          have := HNN.out
          omega
        have hrj := fun W => HRW.out g j hlt W
        have HNX := Lib.hid hnx
        have HRJ := Lib.hid hrj
        have HSN := Lib.hid hsN
        have HKa := Lib.hid (show Kg none w (wr.alloc (wbox (wneg z) (wmag z))) [some (w.heap.size, mrow (r : Int) (c : Int) (some ⟨gA, 0, none⟩) NA capA), some (w.heap.size + 1, mrow 0 0 none 0 0), some (g, lwO (enc (trT xs r c i j))), some (b13, tbO (c : Int) (r : Int) (some ⟨g, 0, none⟩) NN NN), some (wr.heap.size, wbox (wneg z) (wmag z))] from HKj.out.more (wbox (wneg z) (wmag z)))
        have Hka := Lib.hid (Hkj.out.below ((Below.refl _ _).alloc (Nat.le_refl _) (wbox (wneg z) (wmag z))))
        clear hnx hrj hsN hLa hin HKj Hkj
        gi_wp2_with fail
        clear c0 c1'
        change Code.wpIn _ _ _ _ _ _ (wr.alloc (wbox (wneg z) (wmag z)))
        generalize wr.alloc (wbox (wneg z) (wmag z)) = W8 at *
        generalize wr.heap.size = b8 at *
        refine wpIn_region_facts (X := Unit) (fun x => [(0, 29, .agg #[.int .i64 (c : Int), .int .i64 (r : Int), .slice (some ⟨g, 0, none⟩) NN NN]), (1, 30, .int .i64 (j : Int)), (2, 31, .slice (some ⟨g, j * r * 2, none⟩) r r), (3, 32, .int .i64 (i : Int)), (4, 33, .agg #[.bool (wneg z), .string (wmag z)]), (5, 34, .pointer (some ⟨g, j * r * 2 + i * 2, none⟩))])
          (fun _ L W => Kg none w W [some (w.heap.size, mrow (r : Int) (c : Int) (some ⟨gA, 0, none⟩) NA capA), some (w.heap.size + 1, mrow 0 0 none 0 0), some (g, lwO (enc (if L 6 = true then trT xs r c i (j + 1) else trT xs r c i j))), some (b13, tbO (c : Int) (r : Int) (some ⟨g, 0, none⟩) NN NN), some (b8, wbox (wneg z) (wmag z))] ∧ Kept W7.heap.size V W) (by kernel_rfl) (by kernel_rfl) () ?st (by kernel_rfl) ?_ ?_
        case st => exact ⟨by simpa using HKa.out.drew, Hka.out.drew⟩
        · repeat' (first | exact FactStepsIn.nil | refine FactStepsIn.cons ?_ ?_)
          all_goals
            intro L x wx hJ hl hd hs K hK
            (try simp [Region.binds] at hd)
            have e0 := hJ.1.cell 3 0 rfl rfl
            have e1 := hJ.1.cell 3 1 rfl rfl
            have e2 := hJ.1.cell 3 2 rfl rfl
            have e3 := hJ.1.cell 4 0 rfl rfl
            have e4 := hJ.1.cell 4 1 rfl rfl
            simp only [selA, selT_cons, selT_nil, List.set_cons_zero, List.set_cons_succ, List.getD_cons_zero, List.getD_cons_succ, hd, hl, selV_true, selV_false]
          · go_simp
            refine hK.out x _ _ ?_ ?_
            · simp [selA, selT_cons, selT_nil, hl, hd, selV_true, selV_false]
            · exact ⟨by simpa [hl] using hJ.1, hJ.2⟩
          · go_simp
            refine hK.out x _ _ ?_ ?_
            · simp [selA, selT_cons, selT_nil, hl, hd, selV_true, selV_false]
            · exact ⟨by simpa [hl] using hJ.1, hJ.2⟩
          · go_simp
            refine ⟨trivial, rfl, ?_⟩
            with_reducible refine (CallsIn.inRound l (callsIn_wide.2 (HRJ.out _))).mono ?_
            rintro e v ⟨rfl, hb⟩
            refine hK.out x _ _ ?_ ?_
            · simp [selA, selT_cons, selT_nil, hl, hd, selV_true, selV_false]
            · exact ⟨by simpa [hl] using hJ.1.step hb, hJ.2.below hb⟩
          · go_simp
            refine hK.out x _ _ ?_ ?_
            · simp [selA, selT_cons, selT_nil, hl, hd, selV_true, selV_false]
            · exact ⟨by simpa [hl] using hJ.1, hJ.2⟩
          · go_simp
            refine hK.out x _ _ ?_ ?_
            · simp [selA, selT_cons, selT_nil, hl, hd, selV_true, selV_false]
            · exact ⟨by simpa [hl] using hJ.1, hJ.2⟩
          · go_simp
            refine hK.out x _ _ ?_ ?_
            · simp [selA, selT_cons, selT_nil, hl, hd, selV_true, selV_false]
            · exact ⟨by simpa [hl] using hJ.1, hJ.2⟩
          · have hB := hJ.1
            simp only [hl, Bool.false_eq_true, if_false] at hB
            have hLg : Lw wx g (enc (trT xs r c i j)) := hB.at_ 2 rfl
            have hql : j * r + i < (enc (trT xs r c i j)).length := by rw [enc_length, trT_length, HNN.out]; exact HSN.out
            have d0 := hLg.cell0 (j * r + i) hql
            have d1 := hLg.cell1 (j * r + i) hql
            have f0 := hB.frozen 2 ((j * r + i) * 2) rfl
            have f1 := hB.frozen 2 ((j * r + i) * 2 + 1) rfl
            generalize ((enc (trT xs r c i j))[j * r + i]'hql).1 = u0 at d0
            generalize ((enc (trT xs r c i j))[j * r + i]'hql).2 = u1 at d1
            have hP := hLg.put (j * r + i) (wneg z) (wmag z)
            rw [HNX.out] at hP
            have hGr := grownBy_setRow (g := g) (p := ⟨g, (j * r + i) * 2 + 1, none⟩) (grownBy_setRow (g := g) (p := ⟨g, (j * r + i) * 2, none⟩) (World.grownBy.refl wx _) rfl (.bool (wneg z))) rfl (.string (wmag z))
            rw [Nat.add_mul] at d0 d1 f0 f1 hP hGr
            have HP := Lib.hid hP
            have HGr := Lib.hid hGr
            have HB := Lib.hid hB
            clear hP hLg hB hGr
            go_simp
            refine hK.out x _ _ ?_ ?_
            · simp [selA, selT_cons, selT_nil, hl, hd, selV_true, selV_false]
            · exact ⟨(HB.out.change 2 rfl HGr.out (o' := lwO (enc (trT xs r c i (j + 1)))) HP.out).cast (by simp), hJ.2.grown HGr.out hgl⟩
        · rintro _ Wx ⟨hKx, hkx⟩
          simp only [selA, selT_cons, selT_nil, List.set_cons_zero, List.set_cons_succ, List.getD_cons_zero, List.getD_cons_succ, selV_true]
          simp only [if_true] at hKx
          have hK9 : Kg none w Wx [some (w.heap.size, mrow (r : Int) (c : Int) (some ⟨gA, 0, none⟩) NA capA), some (w.heap.size + 1, mrow 0 0 none 0 0), some (g, lwO (enc (trT xs r c i (j + 1)))), some (b13, tbO (c : Int) (r : Int) (some ⟨g, 0, none⟩) NN NN)] := hKx.take 4
          gi_wp2_with fail
          exact ⟨⟨j + 1, by simp, by omega, hK9, hkx⟩, by simp [intOf]; omega⟩
      · obtain rfl : j = c := by omega
        gi_wp2_with fail
        have h9 := HKj.out
        rw [trT_col] at h9
        exact ⟨Hkj.out, h9⟩
  case done =>
    rintro D V hD h2 hd
    rw [trT_full] at h2
    have c0 := h2.cell 3 0 rfl rfl
    have c1' := h2.cell 3 1 rfl rfl
    have c2' := h2.cell 3 2 rfl rfl
    have HK := Lib.hid h2
    clear h2
    gi_wp2_with fail
    refine ⟨trivial, rfl, ?_⟩
    with_reducible refine (callsIn_wide.2 (HMO.out g _)).mono ?_
    rintro e V1 ⟨rfl, hb1⟩
    clear c0 c1' c2'
    have hK1 := HK.out.step hb1
    have d0 := hK1.cell 1 0 rfl rfl
    have d1 := hK1.cell 1 1 rfl rfl
    have d2 := hK1.cell 1 2 rfl rfl
    have f0 := hK1.frozen 1 0 rfl
    have f1 := hK1.frozen 1 1 rfl
    have f2 := hK1.frozen 1 2 rfl
    have hdl := heap_lt hd
    have hd1 := (hb1.block D hdl).trans hd
    have HK1 := Lib.hid hK1
    have HD1 := Lib.hid hd1
    clear hK1 hd1
    gi_wp2_with fail
    have hl1 := HK7.out.lt 1 rfl
    have hK2 := ((HK1.out.put 1 0 rfl (.int .i64 (c : Int))).put 1 1 rfl (.int .i64 (r : Int))).put 1 2 rfl (.slice (some ⟨g, 0, none⟩) NN NN)
    have hd2 : (((V1.setCell ⟨w.heap.size + 1, 0, none⟩ (.int .i64 (c : Int))).setCell ⟨w.heap.size + 1, 1, none⟩ (.int .i64 (r : Int))).setCell ⟨w.heap.size + 1, 2, none⟩ (.slice (some ⟨g, 0, none⟩) NN NN)).heap[D]? = some (.deferred (some [])) :=
      (Below.heap_setCell _ _ _ _ (by simp only []; omega)).trans ((Below.heap_setCell _ _ _ _ (by simp only []; omega)).trans ((Below.heap_setCell _ _ _ _ (by simp only []; omega)).trans HD1.out))
    have hlp := later_put (B := W7.heap.size) (.deferred none) hD hd2 rfl
    have hK5 := hK2.later' hlp HK7.out.1.size rfl
    refine ⟨by simp, .inl ⟨_, _, rfl, run_takeDeferred hd2, ?_⟩⟩
    exact ⟨_, results_mat (b := w.heap.size + 1) rfl rfl (hK5.at_ 1 rfl), g, rfl, HK7.out.ge 2 rfl, hK5.at_ 2 rfl, ⟨hK5.1.os, hK5.1.tape, hK5.1.output, hK5.1.size, fun i hi => hK5.1.block i hi (by simp)⟩⟩
end Go.Proofs.YtknaghdoffigjaaGreatDoor
