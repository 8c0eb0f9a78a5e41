/-
  The contract of matrix.Join, where the matrices fit.
-/
import Derived.Test.YtknaghdoffigjaaGreatDoorMPart
set_option linter.unusedSimpArgs false
set_option linter.unusedVariables false
set_option linter.unnecessarySimpa false
namespace Go.Proofs.YtknaghdoffigjaaGreatDoor
open Go.RowKit Go
attribute [local go_sem] Oper.semAt_some

/-- The variable of a table of Wides. -/
def tbO (r c : Int) (A : Option Addr) (n cap : Nat) : Obj := .cells #[.int .i64 r, .int .i64 c, .slice A n cap] 68 (0, 0)
/-- A table's variable that may not be there, or not be filled yet. -/
def entT (a s : Bool) (b : Nat) (o : Obj) : Option (Nat × Obj) := if a = true then some (b, if s = true then o else tbO 0 0 none 0 0) else none
theorem entT_no (s : Bool) (b : Nat) (o : Obj) : entT false s b o = none := rfl
theorem entT_new (b : Nat) (o : Obj) : entT true false b o = some (b, tbO 0 0 none 0 0) := rfl
theorem entT_full (b : Nat) (o : Obj) : entT true true b o = some (b, o) := rfl
/-- The rows of the joined matrix. -/
def jnr (xs ys : List Int) (c1 c2 r : Nat) : List (List Int) := (List.range r).map fun i => ((List.range c1).map fun j => xs.getD (i * c1 + j) 0) ++ ((List.range c2).map fun j => ys.getD (i * c2 + j) 0)
theorem jnr_get (xs ys : List Int) (c1 c2 r i : Nat) (h : i < r) : (jnr xs ys c1 c2 r).getD i [] = ((List.range c1).map fun j => xs.getD (i * c1 + j) 0) ++ ((List.range c2).map fun j => ys.getD (i * c2 + j) 0) := by
  unfold jnr
  rw [List.getD_eq_getElem?_getD, List.getElem?_map, List.getElem?_range h]
  rfl
theorem cpL_zero {α : Type} (o : Nat) (ys xs : List α) : cpL o 0 ys xs = xs := by unfold cpL; simp
theorem cpL_two {α : Type} (o n1 n2 : Nat) (ys1 ys2 xs : List α) (h1 : ys1.length = n1) (h2 : ys2.length = n2) (h : o + n1 + n2 ≤ xs.length) :
    cpL (o + n1) n2 ys2 (cpL o n1 ys1 xs) = cpL o (n1 + n2) (ys1 ++ ys2) xs := by
  apply List.ext_getElem?
  intro i
  rw [cpL_get _ _ _ _ (by omega) (by rw [cpL_length _ _ _ _ (by omega) (by omega)]; omega), cpL_get _ _ _ _ (by omega) (by omega), cpL_get _ _ _ _ (by rw [List.length_append]; omega) (by omega)]
  by_cases a : i < o
  · rw [if_pos (by omega), if_pos a, if_pos a]
  · by_cases b : i < o + n1
    · rw [if_pos b, if_neg a, if_pos b, if_neg a, if_pos (by omega), List.getElem?_append_left (by omega)]
    · rw [if_neg b]
      by_cases c : i < o + n1 + n2
      · rw [if_pos c, if_neg a, if_pos (by omega), List.getElem?_append_right (by omega), h1, show i - (o + n1) = i - o - n1 by omega]
      · rw [if_neg c, if_neg a, if_neg b, if_neg a, if_neg (by omega)]
theorem enc_range (f : Nat → Int) (n : Nat) : ((List.range n).map fun j => (wneg (f j), wmag (f j))) = enc ((List.range n).map f) := by
  unfold enc
  rw [List.map_map]
  rfl
theorem enc_row (xs : List Int) : ((List.range xs.length).map fun j => (wneg (xs.getD j 0), wmag (xs.getD j 0))) = enc xs := by
  unfold enc
  apply List.ext_getElem
  · simp
  · intro i h1 h2
    have h3 : i < xs.length := by simpa using h1
    simp [h3]
theorem row_of0 (g i c : Nat) : (if c = 0 then some (⟨g, 0, none⟩ : Addr) else (some (⟨g, 0, none⟩ : Addr)).map (·.add (i * c * 2))) = some ⟨g, i * c * 2, none⟩ := by
  simp only [Option.map_some, add_from0]
  by_cases h : c = 0
  · rw [if_pos h, h]; simp
  · rw [if_neg h]
set_option maxRecDepth 100000 in
set_option maxHeartbeats 4000000 in
theorem Join_ok (gA gB r c1 c2 NA capA NB capB m NN : Nat) (xs ys : List Int) (w : World) (hA : Lw w gA (enc xs)) (hB : Lw w gB (enc ys)) (hlA : xs.length = r * c1) (hNA : NA = r * c1) (hcA : NA ≤ capA) (hmA : capA ≤ maxLen) (hlB : ys.length = r * c2) (hNB : NB = r * c2) (hcB : NB ≤ capB) (hmB : capB ≤ maxLen)
    (hrA : mright r c1 (enc xs) = true) (hrB : mright r c2 (enc ys) = true) (hr2 : r ≤ 200) (hm : c1 + c2 = m) (hm2 : m ≤ 200) (hNN : r * m = NN) :
    Calls Tryz.prog 49 #[mat r c1 (some ⟨gA, 0, none⟩) NA capA, mat r c2 (some ⟨gB, 0, none⟩) NB capB] w fun e w' => ∃ g, e = .returned (.tuple #[mat r m (some ⟨g, 0, none⟩) NN NN, .bool true]) ∧ w.heap.size ≤ g ∧ Lw w' g (enc (ofL (jnr xs ys c1 c2 r) r m)) ∧ Below w.heap.size w w' := by
  have hNN2 : NN ≤ 40000 := by rw [← hNN]; exact Nat.le_trans (Nat.mul_le_mul hr2 hm2) (by omega)
  have hri := fun W hW => Right_any (r : Int) (c1 : Int) (some ⟨gA, 0, none⟩) NA capA (enc xs) W hW (by rw [enc_length, hlA, hNA]) (by omega)
  rw [hrA] at hri
  have hrj := fun W hW => Right_any (r : Int) (c2 : Int) (some ⟨gB, 0, none⟩) NB capB (enc ys) W hW (by rw [enc_length, hlB, hNB]) (by omega)
  rw [hrB] at hrj
  have his := fun W => isSize_any (m : Int) W
  rw [show msize (m : Int) = true from by unfold msize; simp; omega] at his
  have hto := fun W => tableOf_any (r : Int) (c1 : Int) (some ⟨gA, 0, none⟩) NA capA W
  have htp := fun W => tableOf_any (r : Int) (c2 : Int) (some ⟨gB, 0, none⟩) NB capB W
  have hnt := fun W => newTable_any r m NN W (by omega) (by omega) hNN hNN2
  have hmo := fun g W => matrixOf_any (r : Int) (m : Int) (some ⟨g, 0, none⟩) NN NN W
  have hrw := fun (i : Nat) (hi : i < r) W => row_any r c1 i (some ⟨gA, 0, none⟩) NA capA W hi (by omega) (by omega) (by omega) hmA
  have hrv := fun (i : Nat) (hi : i < r) W => row_any r c2 i (some ⟨gB, 0, none⟩) NB capB W hi (by omega) (by omega) (by omega) hmB
  simp only [row_of0] at hrw hrv
  have wm : IntKind.i64.wrap ((c1 : Int) + (c2 : Int)) = (m : Int) := by rw [show (c1 : Int) + (c2 : Int) = (m : Int) from by omega]; exact IntWalk.i64_in _ (by omega)
  have hne : ((r : Int) != (r : Int)) = false := by simp
  have hne2 : ((r : Int) == (r : Int)) = true := by simp
  unfold mat at *
  have HRI := Lib.hid hri
  have HRJ := Lib.hid hrj
  have HIS := Lib.hid his
  have HTO := Lib.hid hto
  have HTP := Lib.hid htp
  have HNT := Lib.hid hnt
  have HMO := Lib.hid hmo
  have HRW := Lib.hid hrw
  have HRV := Lib.hid hrv
  have HA := Lib.hid hA
  have HB := Lib.hid hB
  have HLA := Lib.hid hlA
  have HLB := Lib.hid hlB
  have HNN := Lib.hid hNN
  have HM := Lib.hid hm
  have hcm : c1 ≤ m ∧ c2 ≤ m := by omega
  have hgA := heap_lt hA
  have hgB := heap_lt hB
  clear hri hrj his hto htp hnt hmo hrw hrv hA hB hlA hNA hlB hNB hNN hrA hrB hm
  have hK1 := ((Kg.none_ none w 3).new 0 (mrow (r : Int) (c1 : Int) (some ⟨gA, 0, none⟩) NA capA) rfl).new 1 (mrow (r : Int) (c2 : Int) (some ⟨gB, 0, none⟩) NB capB) rfl
  have HK2 := Lib.hid ((hK1.new 2 (mrow 0 0 none 0 0) rfl).cast (l' := [some (w.heap.size, mrow (r : Int) (c1 : Int) (some ⟨gA, 0, none⟩) NA capA), some (w.heap.size + 1, mrow (r : Int) (c2 : Int) (some ⟨gB, 0, none⟩) NB capB), some (w.heap.size + 1 + 1, mrow 0 0 none 0 0)]) (by simp))
  have hAs : ∀ W l, Kg none w W l → Lw W gA (enc xs) := fun W l h => (h.1.block gA hgA (by simp)).trans HA.out
  have hBs : ∀ W l, Kg none w W l → Lw W gB (enc ys) := fun W l h => (h.1.block gB hgB (by simp)).trans HB.out
  have HAS := Lib.hid hAs
  have HBS := Lib.hid hBs
  have c0 := HK2.out.cell 0 0 rfl rfl
  have c1' := HK2.out.cell 0 1 rfl rfl
  have c2' := HK2.out.cell 0 2 rfl rfl
  have d0 := HK2.out.cell 1 0 rfl rfl
  have d1 := HK2.out.cell 1 1 rfl rfl
  have d2 := HK2.out.cell 1 2 rfl rfl
  clear hK1 hAs hBs
  refine (callsIn_wide (n := 0)).1 ?_
  refine callsIn_of_wp_marks Tryz.func49 rfl trivial ?_ rfl
  simp only [Tryz.ntmps49, List.size_toArray, List.length_cons, List.length_nil, Nat.reduceAdd, Nat.reduceSub, Array.replicate_succ, Array.replicate_zero, List.push_toArray, List.append_toArray, List.nil_append, List.cons_append]
  gi_wp2_with fail
  change _ ∧ _ ∧ CallsIn _ _ _ _ _ (((w.alloc (mrow (r : Int) (c1 : Int) (some ⟨gA, 0, none⟩) NA capA)).alloc (mrow (r : Int) (c2 : Int) (some ⟨gB, 0, none⟩) NB capB)).alloc (mrow 0 0 none 0 0)) _
  generalize ((w.alloc (mrow (r : Int) (c1 : Int) (some ⟨gA, 0, none⟩) NA capA)).alloc (mrow (r : Int) (c2 : Int) (some ⟨gB, 0, none⟩) NB capB)).alloc (mrow 0 0 none 0 0) = W2 at *
  refine ⟨trivial, rfl, ?_⟩
  with_reducible refine (callsIn_wide.2 (HRI.out _ (HAS.out _ _ HK2.out).rdw)).mono ?_
  rintro e w1 ⟨rfl, hb1⟩
  have HK3 := Lib.hid (HK2.out.step hb1)
  clear c0 c1' c2' d0 d1 d2 hb1 HK2
  have d0 := HK3.out.cell 1 0 rfl rfl
  have d1 := HK3.out.cell 1 1 rfl rfl
  have d2 := HK3.out.cell 1 2 rfl rfl
  gi_wp2_with fail
  refine ⟨trivial, rfl, ?_⟩
  with_reducible refine (callsIn_wide.2 (HRJ.out _ (HBS.out _ _ HK3.out).rdw)).mono ?_
  rintro e w2 ⟨rfl, hb2⟩
  have HK4 := Lib.hid (HK3.out.step hb2)
  clear d0 d1 d2 hb2 HK3
  have c0 := HK4.out.cell 0 0 rfl rfl
  have c1' := HK4.out.cell 0 1 rfl rfl
  have d0 := HK4.out.cell 1 0 rfl rfl
  have d1 := HK4.out.cell 1 1 rfl rfl
  gi_wp2_with fail
  refine ⟨trivial, rfl, ?_⟩
  with_reducible refine (callsIn_wide.2 (HIS.out _)).mono ?_
  rintro e w3 ⟨rfl, rfl⟩
  clear c0 c1' d0 d1
  gi_wp2_with fail
  refine wpIn_region_facts (X := Nat × Nat) (fun x => [(0, 36, .agg #[.int .i64 (r : Int), .int .i64 (c1 : Int), .slice (some ⟨gA, 0, none⟩) NA capA]), (1, 37, .agg #[.int .i64 (r : Int), .int .i64 (c1 : Int), .slice (some ⟨gA, 0, none⟩) NA capA]), (2, 38, .agg #[.int .i64 (r : Int), .int .i64 (c2 : Int), .slice (some ⟨gB, 0, none⟩) NB capB]), (3, 39, .agg #[.int .i64 (r : Int), .int .i64 (c2 : Int), .slice (some ⟨gB, 0, none⟩) NB capB]), (4, 6, .pointer (some ⟨x.1, 0, none⟩)), (5, 7, .pointer (some ⟨x.2, 0, none⟩))])
    (fun x L W => Kg none w W [some (w.heap.size, mrow (r : Int) (c1 : Int) (some ⟨gA, 0, none⟩) NA capA), some (w.heap.size + 1, mrow (r : Int) (c2 : Int) (some ⟨gB, 0, none⟩) NB capB), some (w.heap.size + 1 + 1, mrow 0 0 none 0 0), entT (L 4) (L 6) x.1 (tbO (r : Int) (c1 : Int) (some ⟨gA, 0, none⟩) NA capA), entT (L 5) (L 7) x.2 (tbO (r : Int) (c2 : Int) (some ⟨gB, 0, none⟩) NB capB)]) (by kernel_rfl) (by kernel_rfl) (0, 0) HK4.out.drew.room.room (by kernel_rfl) ?_ ?_
  · repeat' (first | exact FactStepsIn.nil | refine FactStepsIn.cons ?_ ?_)
    all_goals
      intro L x wx hJ hl hd hs K hK
      (try simp [Region.binds] at hd)
      have e0 := hJ.cell 0 0 rfl rfl
      have e1 := hJ.cell 0 1 rfl rfl
      have e2 := hJ.cell 0 2 rfl rfl
      have e3 := hJ.cell 1 0 rfl rfl
      have e4 := hJ.cell 1 1 rfl rfl
      have e5 := hJ.cell 1 2 rfl rfl
      simp only [selA, selT_cons, selT_nil, List.set_cons_zero, List.set_cons_succ, List.getD_cons_zero, List.getD_cons_succ, hd, hl, selV_true, selV_false]
    · go_simp
      refine hK.out x _ _ ?_ ?_
      · simp [selA, selT_cons, selT_nil, hl, hd, selV_true, selV_false]
      · simpa [hl] using hJ
    · go_simp
      refine ⟨trivial, rfl, ?_⟩
      with_reducible refine (callsIn_wide.2 (HTO.out _)).mono ?_
      rintro e v ⟨rfl, hb⟩
      refine hK.out x _ _ ?_ ?_
      · simp [selA, selT_cons, selT_nil, hl, hd, selV_true, selV_false]
      · simpa [hl] using hJ.step hb
    · go_simp
      refine hK.out x _ _ ?_ ?_
      · simp [selA, selT_cons, selT_nil, hl, hd, selV_true, selV_false]
      · simpa [hl] using hJ
    · go_simp
      refine ⟨trivial, rfl, ?_⟩
      with_reducible refine (callsIn_wide.2 (HTP.out _)).mono ?_
      rintro e v ⟨rfl, hb⟩
      refine hK.out x _ _ ?_ ?_
      · simp [selA, selT_cons, selT_nil, hl, hd, selV_true, selV_false]
      · simpa [hl] using hJ.step hb
    · have hn := hs 6 _ rfl (by simp [Region.binds])
      go_simp
      refine hK.out (wx.heap.size, x.2) _ _ ?_ ?_
      · simp [selA, selT_cons, selT_nil, hl, hd, hn, selV_true, selV_false]
      · refine Kg.cast (hJ.new 3 (tbO 0 0 none 0 0) (by simp [hl, entT_no])) ?_
        simp [hn, entT_new]
    · have hn := hs 7 _ rfl (by simp [Region.binds])
      go_simp
      refine hK.out (x.1, wx.heap.size) _ _ ?_ ?_
      · simp [selA, selT_cons, selT_nil, hl, hd, hn, selV_true, selV_false]
      · refine Kg.cast (hJ.new 4 (tbO 0 0 none 0 0) (by simp [hl, entT_no])) ?_
        simp [hn, entT_new]
    · have hJ2 := hJ
      simp only [hl, hd, entT_new] at hJ2
      have f0 := hJ2.frozen 3 0 rfl
      have f1 := hJ2.frozen 3 1 rfl
      have f2 := hJ2.frozen 3 2 rfl
      have g0 := hJ2.cell 3 0 rfl rfl
      have g1 := hJ2.cell 3 1 rfl rfl
      have g2 := hJ2.cell 3 2 rfl rfl
      go_simp
      refine hK.out x _ _ ?_ ?_
      · simp [selA, selT_cons, selT_nil, hl, hd, selV_true, selV_false]
      · refine Kg.cast (((hJ2.put 3 0 rfl (.int .i64 (r : Int))).put 3 1 rfl (.int .i64 (c1 : Int))).put 3 2 rfl (.slice (some ⟨gA, 0, none⟩) NA capA)) ?_
        simp [hd, entT_full, tbO]
    · have hJ2 := hJ
      simp only [hl, hd, entT_new] at hJ2
      have f0 := hJ2.frozen 4 0 rfl
      have f1 := hJ2.frozen 4 1 rfl
      have f2 := hJ2.frozen 4 2 rfl
      have g0 := hJ2.cell 4 0 rfl rfl
      have g1 := hJ2.cell 4 1 rfl rfl
      have g2 := hJ2.cell 4 2 rfl rfl
      go_simp
      refine hK.out x _ _ ?_ ?_
      · simp [selA, selT_cons, selT_nil, hl, hd, selV_true, selV_false]
      · refine Kg.cast (((hJ2.put 4 0 rfl (.int .i64 (r : Int))).put 4 1 rfl (.int .i64 (c2 : Int))).put 4 2 rfl (.slice (some ⟨gB, 0, none⟩) NB capB)) ?_
        simp [hd, entT_full, tbO]
  · rintro ⟨x1, x2⟩ W4 hK4
    simp only [selA, selT_cons, selT_nil, List.set_cons_zero, List.set_cons_succ, List.getD_cons_zero, List.getD_cons_succ, selV_true]
    simp only [entT_full] at hK4
    have HK5 := Lib.hid (show Kg none w W4 [some (w.heap.size, mrow (r : Int) (c1 : Int) (some ⟨gA, 0, none⟩) NA capA), some (w.heap.size + 1, mrow (r : Int) (c2 : Int) (some ⟨gB, 0, none⟩) NB capB), some (w.heap.size + 1 + 1, mrow 0 0 none 0 0), some (x1, tbO (r : Int) (c1 : Int) (some ⟨gA, 0, none⟩) NA capA), some (x2, tbO (r : Int) (c2 : Int) (some ⟨gB, 0, none⟩) NB capB)] from hK4)
    have c0 := hK4.cell 0 0 rfl rfl
    have c1' := hK4.cell 0 1 rfl rfl
    have d1 := hK4.cell 1 1 rfl rfl
    clear hK4 HK4
    gi_wp2_with fail
    refine ⟨trivial, rfl, ?_⟩
    with_reducible refine (callsIn_wide.2 (HNT.out _)).mono ?_
    rintro e w6 ⟨g, rfl, hg, hLg, hb6⟩
    have hK6 := ((HK5.out.room.came 5 rfl hb6 hg (o := lwO (ofS (jnr xs ys c1 c2 r) r m 0)) (by rw [ofS_zero, HNN.out]; exact hLg)).more (tbO (r : Int) (m : Int) (some ⟨g, 0, none⟩) NN NN))
    have HK6 := Lib.hid hK6
    clear hK6 hLg hb6 c0 c1' d1
    gi_wp2_with fail
    change Code.wpIn _ _ _ _ _ _ (w6.alloc (tbO (r : Int) (m : Int) (some ⟨g, 0, none⟩) NN NN))
    generalize w6.alloc (tbO (r : Int) (m : Int) (some ⟨g, 0, none⟩) NN NN) = W7 at *
    generalize w6.heap.size = b13 at *
    have hK7 : Kg none w W7 [some (w.heap.size, mrow (r : Int) (c1 : Int) (some ⟨gA, 0, none⟩) NA capA), some (w.heap.size + 1, mrow (r : Int) (c2 : Int) (some ⟨gB, 0, none⟩) NB capB), some (w.heap.size + 1 + 1, mrow 0 0 none 0 0), some (x1, tbO (r : Int) (c1 : Int) (some ⟨gA, 0, none⟩) NA capA), some (x2, tbO (r : Int) (c2 : Int) (some ⟨gB, 0, none⟩) NB capB), some (g, lwO (ofS (jnr xs ys c1 c2 r) r m 0)), some (b13, tbO (r : Int) (m : Int) (some ⟨g, 0, none⟩) NN NN)] := HK6.out
    have HK7 := Lib.hid hK7
    clear HK6 hK7 HK5
    refine range_boxed (a := ?A) (ps := #[50, 51]) (gf := 59) (first := #[.agg #[.int .i64 (r : Int), .int .i64 (m : Int), .slice (some ⟨g, 0, none⟩) NN NN]]) ?hg1 (enters_of Tryz.func59 (by kernel_rfl) rfl)
      (each_visits r m (some ⟨g, 0, none⟩) NN NN (by omega) (by omega) (Nat.le_of_eq HNN.out) (by unfold maxLen; omega)) ?hps1
      (fun i V => Kg none w V [some (w.heap.size, mrow (r : Int) (c1 : Int) (some ⟨gA, 0, none⟩) NA capA), some (w.heap.size + 1, mrow (r : Int) (c2 : Int) (some ⟨gB, 0, none⟩) NB capB), some (w.heap.size + 1 + 1, mrow 0 0 none 0 0), some (x1, tbO (r : Int) (c1 : Int) (some ⟨gA, 0, none⟩) NA capA), some (x2, tbO (r : Int) (c2 : Int) (some ⟨gB, 0, none⟩) NB capB), some (g, lwO (ofS (jnr xs ys c1 c2 r) r m i)), some (b13, tbO (r : Int) (m : Int) (some ⟨g, 0, none⟩) NN NN)])
      (fun _ _ => False) ?own ?ownx HK7.out
      (fun i a' V => a' = { tmps := ((((?A).tmps.setIfInBounds 50 (.int .i64 (i : Int))).setIfInBounds 51 (.slice (if m = 0 then some ⟨g, 0, none⟩ else some ⟨g, i * m * 2, none⟩) m m)).setIfInBounds 9 (.int .i64 (i : Int))).setIfInBounds 10 (.slice (if m = 0 then some ⟨g, 0, none⟩ else some ⟨g, i * m * 2, none⟩) m m), defers := [] })
      (fun _ _ _ _ h _ => h) ?assign ?body ?done (fun _ _ _ _ h => h.elim)
    case hg1 => rfl
    case hps1 => exact fun k => rfl
    case own => exact fun i V V' h hl => h.later' hl HK7.out.1.size rfl
    case ownx => exact fun _ _ _ h _ => h.elim
    case assign =>
      intro l i V K' hi hz hI hK'
      unfold rowArgs
      simp only [Option.map_some, add_from0]
      generalize (if m = 0 then some (⟨g, 0, none⟩ : Addr) else some ⟨g, i * m * 2, none⟩) = A' at *
      clear hI
      gi_wp2
      exact hK' _ _ rfl (Below.refl _ _)
    case body =>
      rintro l i a' V hi hz hl0 hl1 hKV rfl
      simp only [List.setIfInBounds_toArray, List.set_cons_succ, List.set_cons_zero]
      have hAi : (if m = 0 then some (⟨g, 0, none⟩ : Addr) else some ⟨g, i * m * 2, none⟩) = some ⟨g, i * m * 2, none⟩ := by
        by_cases h : m = 0
        · rw [if_pos h, h]; simp
        · rw [if_neg h]
      rw [hAi]
      have hcs : c1 + c2 = m := HM.out
      have hfit : i * m + m ≤ NN := by
        have := Nat.mul_le_mul_right m (show i + 1 ≤ r by omega)
        rw [Nat.add_mul] at this
        have := HNN.out
        omega
      have hfA : i * c1 + c1 ≤ xs.length := by
        have := Nat.mul_le_mul_right c1 (show i + 1 ≤ r by omega)
        rw [Nat.add_mul] at this
        have := HLA.out
        omega
      have hfB : i * c2 + c2 ≤ ys.length := by
        have := Nat.mul_le_mul_right c2 (show i + 1 ≤ r by omega)
        rw [Nat.add_mul] at this
        have := HLB.out
        omega
      obtain ⟨yA, hyA⟩ : ∃ yA, yA = (List.range c1).map fun j => (wneg (xs.getD (i * c1 + j) 0), wmag (xs.getD (i * c1 + j) 0)) := ⟨_, rfl⟩
      obtain ⟨yB, hyB⟩ : ∃ yB, yB = (List.range c2).map fun j => (wneg (ys.getD (i * c2 + j) 0), wmag (ys.getD (i * c2 + j) 0)) := ⟨_, rfl⟩
      have hyAl : yA.length = c1 := by rw [hyA]; simp
      have hyBl : yB.length = c2 := by rw [hyB]; simp
      obtain ⟨mid, hmid⟩ : ∃ mid, mid = cpL (i * m) c1 yA (ofS (jnr xs ys c1 c2 r) r m i) := ⟨_, rfl⟩
      have hmidl : mid.length = NN := by rw [hmid, cpL_length _ _ _ _ (by omega) (by rw [ofS_length, HNN.out]; omega), ofS_length, HNN.out]
      obtain ⟨od, hod⟩ : ∃ od, od = if m = c1 then i * m else i * m + c1 := ⟨_, rfl⟩
      have hodl : od + c2 ≤ NN := by
        rw [hod]
        split <;> omega
      have hnx : cpL od c2 yB mid = ofS (jnr xs ys c1 c2 r) r m (i + 1) := by
        have h := ofS_next (jnr xs ys c1 c2 r) r m i hi (by rw [jnr_get _ _ _ _ _ _ hi]; simp; omega)
        rw [jnr_get _ _ _ _ _ _ hi] at h
        rw [← h, enc_row]
        have e : enc (((List.range c1).map fun j => xs.getD (i * c1 + j) 0) ++ ((List.range c2).map fun j => ys.getD (i * c2 + j) 0)) = yA ++ yB := by
          rw [hyA, hyB, enc_range, enc_range]
          unfold enc
          rw [List.map_append]
        rw [e, List.length_append, List.length_map, List.length_map, List.length_range, List.length_range, ← cpL_two (i * m) c1 c2 yA yB _ hyAl hyBl (by rw [ofS_length, HNN.out]; omega), ← hmid, hod]
        by_cases hc : m = c1
        · have h0 : c2 = 0 := by omega
          subst h0
          rw [cpL_zero, cpL_zero]
        · rw [if_neg hc]
      have hrdA : ∀ W, Lw W gA (enc xs) → RdW W (some ⟨gA, i * c1 * 2, none⟩) yA := fun W hW => by rw [hyA]; exact hW.rdAt (i * c1) c1 hfA
      have hrdB : ∀ W, Lw W gB (enc ys) → RdW W (some ⟨gB, i * c2 * 2, none⟩) yB := fun W hW => by rw [hyB]; exact hW.rdAt (i * c2) c2 hfB
      have hcut := fun W => slice_loW (some ⟨g, i * m * 2, none⟩) m m c1 hcm.1 (Nat.le_refl _) W
      have hAd : (if m = c1 then some (⟨g, i * m * 2, none⟩ : Addr) else (some (⟨g, i * m * 2, none⟩ : Addr)).map (·.add (c1 * 2))) = some ⟨g, od * 2, none⟩ := by
        rw [hod]
        by_cases hc : m = c1
        · rw [if_pos hc, if_pos hc]
        · rw [if_neg hc, if_neg hc]
          simp only [Option.map_some, Addr.add]
          split
          · rw [show c1 = 0 by omega]; rfl
          · rw [show i * m * 2 + c1 * 2 = (i * m + c1) * 2 by omega]
      rw [hAd] at hcut
      have HMIDL := Lib.hid hmidl
      have HMID := Lib.hid hmid
      have HNX := Lib.hid hnx
      have HRA := Lib.hid hrdA
      have HRB := Lib.hid hrdB
      have HYA := Lib.hid hyAl
      have HYB := Lib.hid hyBl
      have HKV := Lib.hid hKV
      have Hkk := Lib.hid (Kept.refl W7.heap.size V)
      have hgl := HK7.out.lt 5 rfl
      have HODL := Lib.hid hodl
      have HFIT := Lib.hid hfit
      clear hcs hmidl hmid hnx hrdA hrdB hyAl hyBl hyA hyB hod hodl hAi hAd hfA hfB hfit
      have c0 := hKV.cell 3 0 rfl rfl
      have c1' := hKV.cell 3 1 rfl rfl
      have c2' := hKV.cell 3 2 rfl rfl
      clear hKV
      gi_wp2_with fail
      refine ⟨trivial, rfl, ?_⟩
      with_reducible refine (CallsIn.inRound l (callsIn_wide.2 (HRW.out i hi _))).mono ?_
      rintro e V1 ⟨rfl, hb1⟩
      have hK1 := HKV.out.step hb1
      have hLg : Lw V1 g (ofS (jnr xs ys c1 c2 r) r m i) := hK1.at_ 5 rfl
      have hcp := copyW V1 g (i * m) m m _ hLg (some ⟨gA, i * c1 * 2, none⟩) c1 c1 c1 yA (HRA.out V1 (HAS.out _ _ hK1)) (Nat.le_of_eq HYA.out.symm) (show c1 = Nat.min c1 m from (Nat.min_eq_left hcm.1).symm) (by rw [ofS_length, HNN.out]; have := HFIT.out; omega)
      rw [← HMID.out] at hcp
      have hGr := grown_setRow V1 g (flat mid).toArray
      have HK2 := Lib.hid (show Kg none w (V1.setRow g (flat mid).toArray) [some (w.heap.size, mrow (r : Int) (c1 : Int) (some ⟨gA, 0, none⟩) NA capA), some (w.heap.size + 1, mrow (r : Int) (c2 : Int) (some ⟨gB, 0, none⟩) NB capB), some (w.heap.size + 1 + 1, mrow 0 0 none 0 0), some (x1, tbO (r : Int) (c1 : Int) (some ⟨gA, 0, none⟩) NA capA), some (x2, tbO (r : Int) (c2 : Int) (some ⟨gB, 0, none⟩) NB capB), some (g, lwO (mid)), some (b13, tbO (r : Int) (m : Int) (some ⟨g, 0, none⟩) NN NN)] from hK1.change 5 rfl hGr (o' := lwO mid) (setRow_heap V1 g _ _ _ _ hLg))
      have Hkk2 := Lib.hid ((Hkk.out.below hb1).grown hGr hgl)
      clear hK1 hLg hGr hb1 c0 c1' c2' HKV Hkk
      gi_wp2_with fail
      clear hcp
      change Code.wpIn _ _ _ _ _ _ (V1.setRow g (flat mid).toArray)
      generalize V1.setRow g (flat mid).toArray = V2 at *
      refine wpIn_region_facts (X := Unit) (fun x => [(0, 57, .slice (some ⟨g, i * m * 2, none⟩) m m), (1, 58, .pointer (some ⟨w.heap.size, 1, none⟩)), (2, 59, .int .i64 (c1 : Int)), (3, 60, .slice (some ⟨g, od * 2, none⟩) (m - c1) (m - c1)), (4, 61, .agg #[.int .i64 (r : Int), .int .i64 (c2 : Int), .slice (some ⟨gB, 0, none⟩) NB capB]), (5, 62, .int .i64 (i : Int)), (6, 63, .slice (some ⟨gB, i * c2 * 2, none⟩) c2 c2), (7, 64, .int .i64 (c2 : Int))])
        (fun _ L W => Kg none w W [some (w.heap.size, mrow (r : Int) (c1 : Int) (some ⟨gA, 0, none⟩) NA capA), some (w.heap.size + 1, mrow (r : Int) (c2 : Int) (some ⟨gB, 0, none⟩) NB capB), some (w.heap.size + 1 + 1, mrow 0 0 none 0 0), some (x1, tbO (r : Int) (c1 : Int) (some ⟨gA, 0, none⟩) NA capA), some (x2, tbO (r : Int) (c2 : Int) (some ⟨gB, 0, none⟩) NB capB), some (g, lwO (if L 7 = true then ofS (jnr xs ys c1 c2 r) r m (i + 1) else mid)), some (b13, tbO (r : Int) (m : Int) (some ⟨g, 0, none⟩) NN NN)] ∧ Kept W7.heap.size V W) (by kernel_rfl) (by kernel_rfl) () ?st (by kernel_rfl) ?_ ?_
      case st => exact ⟨by simpa using HK2.out.drew, Hkk2.out.drew⟩
      · repeat' (first | exact FactStepsIn.nil | refine FactStepsIn.cons ?_ ?_)
        all_goals
          intro L x wx hJ hl hd hs K hK
          (try simp [Region.binds] at hd)
          have e0 := hJ.1.cell 4 0 rfl rfl
          have e1 := hJ.1.cell 4 1 rfl rfl
          have e2 := hJ.1.cell 4 2 rfl rfl
          have e3 := hJ.1.cell 0 1 rfl rfl
          simp only [selA, selT_cons, selT_nil, List.set_cons_zero, List.set_cons_succ, List.getD_cons_zero, List.getD_cons_succ, hd, hl, selV_true, selV_false]
        · go_simp
          refine hK.out x _ _ ?_ ?_
          · simp [selA, selT_cons, selT_nil, hl, hd, selV_true, selV_false]
          · exact ⟨by simpa [hl] using hJ.1, hJ.2⟩
        · go_simp
          refine hK.out x _ _ ?_ ?_
          · simp [selA, selT_cons, selT_nil, hl, hd, selV_true, selV_false]
          · exact ⟨by simpa [hl] using hJ.1, hJ.2⟩
        · go_simp
          refine hK.out x _ _ ?_ ?_
          · simp [selA, selT_cons, selT_nil, hl, hd, selV_true, selV_false]
          · exact ⟨by simpa [hl] using hJ.1, hJ.2⟩
        · go_simp
          refine hK.out x _ _ ?_ ?_
          · simp [selA, selT_cons, selT_nil, hl, hd, selV_true, selV_false]
          · exact ⟨by simpa [hl] using hJ.1, hJ.2⟩
        · go_simp
          refine hK.out x _ _ ?_ ?_
          · simp [selA, selT_cons, selT_nil, hl, hd, selV_true, selV_false]
          · exact ⟨by simpa [hl] using hJ.1, hJ.2⟩
        · go_simp
          refine hK.out x _ _ ?_ ?_
          · simp [selA, selT_cons, selT_nil, hl, hd, selV_true, selV_false]
          · exact ⟨by simpa [hl] using hJ.1, hJ.2⟩
        · go_simp
          refine ⟨trivial, rfl, ?_⟩
          with_reducible refine (CallsIn.inRound l (callsIn_wide.2 (HRV.out i hi _))).mono ?_
          rintro e v ⟨rfl, hb⟩
          refine hK.out x _ _ ?_ ?_
          · simp [selA, selT_cons, selT_nil, hl, hd, selV_true, selV_false]
          · exact ⟨by simpa [hl] using hJ.1.step hb, hJ.2.below hb⟩
        · have hB := hJ.1
          simp only [hl, Bool.false_eq_true, if_false] at hB
          have hLg : Lw wx g mid := hB.at_ 5 rfl
          have hcp := copyW wx g od (m - c1) (m - c1) mid hLg (some ⟨gB, i * c2 * 2, none⟩) c2 c2 c2 yB (HRB.out wx (HBS.out _ _ hB)) (Nat.le_of_eq HYB.out.symm) (show c2 = Nat.min c2 (m - c1) from (Nat.min_eq_left (by have := HM.out; omega)).symm) (by rw [HMIDL.out]; exact HODL.out)
          rw [HNX.out] at hcp
          have HGr := Lib.hid (grown_setRow wx g (flat (ofS (jnr xs ys c1 c2 r) r m (i + 1))).toArray)
          have HLg := Lib.hid hLg
          clear hLg hB
          go_simp
          refine hK.out x _ _ ?_ ?_
          · simp [selA, selT_cons, selT_nil, hl, hd, selV_true, selV_false]
          · have hB := hJ.1
            simp only [hl, Bool.false_eq_true, if_false] at hB
            exact ⟨by simpa using hB.change 5 rfl HGr.out (o' := lwO (ofS (jnr xs ys c1 c2 r) r m (i + 1))) (setRow_heap wx g _ _ _ _ HLg.out), hJ.2.grown HGr.out hgl⟩
      · rintro _ Wx ⟨hKx, hkx⟩
        simp only [selA, selT_cons, selT_nil, List.set_cons_zero, List.set_cons_succ, List.getD_cons_zero, List.getD_cons_succ, selV_true]
        simp only [if_true] at hKx
        gi_wp2_with fail
        exact ⟨hkx, hKx⟩
    case done =>
      rintro D V hD h2 hd
      have c0 := h2.cell 6 0 rfl rfl
      have c1' := h2.cell 6 1 rfl rfl
      have c2' := h2.cell 6 2 rfl rfl
      have HK := Lib.hid h2
      clear h2
      gi_wp2_with fail
      refine ⟨trivial, rfl, ?_⟩
      with_reducible refine (callsIn_wide.2 (HMO.out g _)).mono ?_
      rintro e V1 ⟨rfl, hb1⟩
      clear c0 c1' c2'
      have hK1 := HK.out.step hb1
      have d0 := hK1.cell 2 0 rfl rfl
      have d1 := hK1.cell 2 1 rfl rfl
      have d2 := hK1.cell 2 2 rfl rfl
      have f0 := hK1.frozen 2 0 rfl
      have f1 := hK1.frozen 2 1 rfl
      have f2 := hK1.frozen 2 2 rfl
      have hdl := heap_lt hd
      have hd1 := (hb1.block D hdl).trans hd
      have HK1 := Lib.hid hK1
      have HD1 := Lib.hid hd1
      clear hK1 hd1
      gi_wp2_with fail
      have hl1 := HK7.out.lt 2 rfl
      have hK2 := ((HK1.out.put 2 0 rfl (.int .i64 (r : Int))).put 2 1 rfl (.int .i64 (m : Int))).put 2 2 rfl (.slice (some ⟨g, 0, none⟩) NN NN)
      have hd2 : (((V1.setCell ⟨w.heap.size + 1 + 1, 0, none⟩ (.int .i64 (r : Int))).setCell ⟨w.heap.size + 1 + 1, 1, none⟩ (.int .i64 (m : Int))).setCell ⟨w.heap.size + 1 + 1, 2, none⟩ (.slice (some ⟨g, 0, none⟩) NN NN)).heap[D]? = some (.deferred (some [])) :=
        (Below.heap_setCell _ _ _ _ (by simp only []; omega)).trans ((Below.heap_setCell _ _ _ _ (by simp only []; omega)).trans ((Below.heap_setCell _ _ _ _ (by simp only []; omega)).trans HD1.out))
      have hlp := later_put (B := W7.heap.size) (.deferred none) hD hd2 rfl
      have hK5 := hK2.later' hlp HK7.out.1.size rfl
      refine ⟨by simp, .inl ⟨_, _, rfl, run_takeDeferred hd2, ?_⟩⟩
      exact ⟨_, results_mat_tmp (b := w.heap.size + 1 + 1) rfl rfl (hK5.at_ 2 rfl), g, rfl, HK7.out.ge 5 rfl, by rw [← ofS_full]; exact hK5.at_ 5 rfl, ⟨hK5.1.os, hK5.1.tape, hK5.1.output, hK5.1.size, fun i hi => hK5.1.block i hi (by simp)⟩⟩
end Go.Proofs.YtknaghdoffigjaaGreatDoor
