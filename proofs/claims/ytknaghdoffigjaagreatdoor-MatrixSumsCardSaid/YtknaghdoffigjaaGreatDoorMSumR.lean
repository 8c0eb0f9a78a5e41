import Derived.Test.YtknaghdoffigjaaGreatDoorMRefN
import Derived.Test.YtknaghdoffigjaaGreatDoorZMAlg
import Derived.Test.YtknaghdoffigjaaGreatDoorRAdd
set_option linter.unusedSimpArgs false
set_option linter.unusedVariables false
set_option linter.unnecessarySimpa false
namespace Go.Proofs.YtknaghdoffigjaaGreatDoor
open Go.RowKit Go
attribute [local go_sem] Oper.semAt_some
def pfS (f : Nat → Int) (n k : Nat) : List Int := (List.range n).map fun i => if i < k then f i else 0
theorem pfS_length (f : Nat → Int) (n k : Nat) : (pfS f n k).length = n := by simp [pfS]
theorem pfS_zero (f : Nat → Int) (n : Nat) : enc (pfS f n 0) = List.replicate n (false, ⟨#[]⟩) := by
 rw [← enc_zeros]
 congr 1
 unfold pfS
 apply List.ext_getElem
 ·simp
 ·intro i h1 h2
  simp
theorem pfS_full (f : Nat → Int) (n : Nat) : pfS f n n = (List.range n).map f := by
 unfold pfS
 apply List.map_congr_left
 intro i hi
 rw [if_pos (by simpa using hi)]
theorem pfS_next (f : Nat → Int) (n k : Nat) : (enc (pfS f n k)).set k (wneg (f k), wmag (f k)) = enc (pfS f n (k + 1)) := by
 rw [enc_set]
 congr 1
 unfold pfS
 apply List.ext_getElem
 ·simp
 ·intro i h1 h2
  rw [List.getElem_set]
  simp only [List.getElem_map, List.getElem_range]
  by_cases h : k = i
  ·subst h
   rw [if_pos rfl, if_pos (by omega)]
  ·rw [if_neg h]
   by_cases h3 : i < k
   ·rw [if_pos h3, if_pos (by omega)]
   ·rw [if_neg h3, if_neg (by omega)]
theorem wint_nm (z : Int) : wint (wneg z) (wmag z) = z := wint_wv z
theorem cells_at {w : World} {g : Nat} {zs : List Int} (h : Lw w g (enc zs)) (k : Nat) (hk : k < zs.length) :
  w.cell? ⟨g, k * 2, none⟩ = some (.bool (wneg (zs.getD k 0))) ∧ w.cell? ⟨g, k * 2 + 1, none⟩ = some (.string (wmag (zs.getD k 0))) := by
 have hk2 : k < (enc zs).length := by rw [enc_length]; exact hk
 have h0 := h.cell0 k hk2
 have h1 := h.cell1 k hk2
 rw [enc_get] at h0 h1
 exact ⟨h0, h1⟩
set_option maxRecDepth 100000 in
set_option maxHeartbeats 4000000 in
theorem alike_any (gA gB r1 c1 r2 c2 NA capA NB capB : Nat) (xs ys : List Int) (w : World) (hA : Lw w gA (enc xs)) (hB : Lw w gB (enc ys)) (hlA : xs.length = r1 * c1) (hNA : NA = r1 * c1) (hcA : NA ≤ capA) (hmA : capA ≤ maxLen) (hlB : ys.length = r2 * c2) (hNB : NB = r2 * c2) (hcB : NB ≤ capB) (hmB : capB ≤ maxLen) (hr1 : r1 ≤ 200) (hc1 : c1 ≤ 200) (hr2 : r2 ≤ 200) (hc2 : c2 ≤ 200) :
  Calls Tryz.prog 89 #[mat r1 c1 (some ⟨gA, 0, none⟩) NA capA, mat r2 c2 (some ⟨gB, 0, none⟩) NB capB] w fun e w' => e = .returned (.bool (decide (r1 = r2) && decide (c1 = c2))) ∧ Below w.heap.size w w' := by
 have hri := fun W hW => rRight_any (r1 : Int) (c1 : Int) (some ⟨gA, 0, none⟩) NA capA (enc xs) W hW (by rw [enc_length, hlA, hNA]) (by omega)
 rw [mright_ints r1 c1 xs hlA hr1 hc1] at hri
 have hrj := fun W hW => rRight_any (r2 : Int) (c2 : Int) (some ⟨gB, 0, none⟩) NB capB (enc ys) W hW (by rw [enc_length, hlB, hNB]) (by omega)
 rw [mright_ints r2 c2 ys hlB hr2 hc2] at hrj
 unfold mat at *
 have HRI := Lib.hid hri
 have HRJ := Lib.hid hrj
 have hgA := heap_lt hA
 have hgB := heap_lt hB
 have HAS := Lib.hid (show ∀ W l, Kg none w W l → Lw W gA (enc xs) from fun W l h => (h.1.block gA hgA (by simp)).trans hA)
 have HBS := Lib.hid (show ∀ W l, Kg none w W l → Lw W gB (enc ys) from fun W l h => (h.1.block gB hgB (by simp)).trans hB)
 have HK2 := Lib.hid ((((Kg.none_ none w 0).more (mrow (r1 : Int) (c1 : Int) (some ⟨gA, 0, none⟩) NA capA)).more (mrow (r2 : Int) (c2 : Int) (some ⟨gB, 0, none⟩) NB capB)).cast (l' := [some (w.heap.size, mrow (r1 : Int) (c1 : Int) (some ⟨gA, 0, none⟩) NA capA), some (w.heap.size + 1, mrow (r2 : Int) (c2 : Int) (some ⟨gB, 0, none⟩) NB capB)]) (by simp))
 have x0 := HK2.out.cell 0 0 rfl rfl
 have x1 := HK2.out.cell 0 1 rfl rfl
 have x2 := HK2.out.cell 0 2 rfl rfl
 clear hri hrj hA hB hlA hNA hlB hNB
 go_enter Tryz.func89, Tryz.ntmps89
 go_wp2_with fail
 change Calls _ _ _ ((w.alloc (mrow (r1 : Int) (c1 : Int) (some ⟨gA, 0, none⟩) NA capA)).alloc (mrow (r2 : Int) (c2 : Int) (some ⟨gB, 0, none⟩) NB capB)) _
 generalize (w.alloc (mrow (r1 : Int) (c1 : Int) (some ⟨gA, 0, none⟩) NA capA)).alloc (mrow (r2 : Int) (c2 : Int) (some ⟨gB, 0, none⟩) NB capB) = W2 at *
 with_reducible refine (HRI.out _ (HAS.out _ _ HK2.out).rdw).mono ?_
 rintro e w1 ⟨rfl, hb1⟩
 have HK3 := Lib.hid (HK2.out.step hb1)
 clear x0 x1 x2 hb1 HK2
 have x0 := HK3.out.cell 1 0 rfl rfl
 have x1 := HK3.out.cell 1 1 rfl rfl
 have x2 := HK3.out.cell 1 2 rfl rfl
 go_wp2_with fail
 with_reducible refine (HRJ.out _ (HBS.out _ _ HK3.out).rdw).mono ?_
 rintro e w2 ⟨rfl, hb2⟩
 have HKf := Lib.hid (HK3.out.step hb2)
 clear x0 x1 x2 hb2 HK3
 have x0 := HKf.out.cell 0 0 rfl rfl
 have x1 := HKf.out.cell 0 1 rfl rfl
 have x2 := HKf.out.cell 1 0 rfl rfl
 have x3 := HKf.out.cell 1 1 rfl rfl
 by_cases h1 : r1 = r2
 ·subst h1
  by_cases h2 : c1 = c2
  ·subst h2
   go_wp2
   go_ret
   exact ⟨by simp, Kg.below_ HKf.out⟩
  ·have n0 : ((c1 : Int) == (c2 : Int)) = false := by rw [beq_eq_false_iff_ne]; omega
   have m0 : ((c1 : Int) != (c2 : Int)) = true := by rw [bne_iff_ne]; omega
   have k0 : ¬ c1 = c2 := by omega
   go_wp2
   go_ret
   exact ⟨by simp [h2], Kg.below_ HKf.out⟩
 ·have n0 : ((r1 : Int) == (r2 : Int)) = false := by rw [beq_eq_false_iff_ne]; omega
  have m0 : ((r1 : Int) != (r2 : Int)) = true := by rw [bne_iff_ne]; omega
  have k0 : ¬ r1 = r2 := by omega
  go_wp2
  go_ret
  exact ⟨by simp [h1], Kg.below_ HKf.out⟩
set_option maxRecDepth 100000 in
set_option maxHeartbeats 4000000 in
theorem rAdd_no (gA gB r1 c1 r2 c2 NA capA NB capB : Nat) (xs ys : List Int) (w : World) (hA : Lw w gA (enc xs)) (hB : Lw w gB (enc ys)) (hlA : xs.length = r1 * c1) (hNA : NA = r1 * c1) (hcA : NA ≤ capA) (hmA : capA ≤ maxLen) (hlB : ys.length = r2 * c2) (hNB : NB = r2 * c2) (hcB : NB ≤ capB) (hmB : capB ≤ maxLen) (hr1 : r1 ≤ 200) (hc1 : c1 ≤ 200) (hr2 : r2 ≤ 200) (hc2 : c2 ≤ 200) (hno : ¬ (r1 = r2 ∧ c1 = c2)) :
  Calls Tryz.prog 37 #[mat r1 c1 (some ⟨gA, 0, none⟩) NA capA, mat r2 c2 (some ⟨gB, 0, none⟩) NB capB] w fun e w' => e = .returned (.tuple #[mat 0 0 none 0 0, .bool false]) ∧ Below w.heap.size w w' := by
 have hal := fun W h1 h2 => alike_any gA gB r1 c1 r2 c2 NA capA NB capB xs ys W h1 h2 hlA hNA hcA hmA hlB hNB hcB hmB hr1 hc1 hr2 hc2
 have hfa : (decide (r1 = r2) && decide (c1 = c2)) = false := by
  rw [Bool.eq_false_iff]
  intro h
  simp only [Bool.and_eq_true, decide_eq_true_eq] at h
  exact hno h
 rw [hfa] at hal
 unfold mat at *
 have HAL := Lib.hid hal
 have hgA := heap_lt hA
 have hgB := heap_lt hB
 have HAS := Lib.hid (show ∀ W l, Kg none w W l → Lw W gA (enc xs) from fun W l h => (h.1.block gA hgA (by simp)).trans hA)
 have HBS := Lib.hid (show ∀ W l, Kg none w W l → Lw W gB (enc ys) from fun W l h => (h.1.block gB hgB (by simp)).trans hB)
 have HK2 := Lib.hid (((((Kg.none_ none w 0).more (mrow (r1 : Int) (c1 : Int) (some ⟨gA, 0, none⟩) NA capA)).more (mrow (r2 : Int) (c2 : Int) (some ⟨gB, 0, none⟩) NB capB)).more (mrow 0 0 none 0 0)).cast (l' := [some (w.heap.size, mrow (r1 : Int) (c1 : Int) (some ⟨gA, 0, none⟩) NA capA), some (w.heap.size + 1, mrow (r2 : Int) (c2 : Int) (some ⟨gB, 0, none⟩) NB capB), some (w.heap.size + 1 + 1, mrow 0 0 none 0 0)]) (by simp))
 have x0 := HK2.out.cell 0 0 rfl rfl
 have x1 := HK2.out.cell 0 1 rfl rfl
 have x2 := HK2.out.cell 0 2 rfl rfl
 have y0 := HK2.out.cell 1 0 rfl rfl
 have y1 := HK2.out.cell 1 1 rfl rfl
 have y2 := HK2.out.cell 1 2 rfl rfl
 clear hal hA hB hlA hNA hlB hNB hno hfa
 go_enter Tryz.func37, Tryz.ntmps37
 go_wp2_with fail
 change Calls _ _ _ (((w.alloc (mrow (r1 : Int) (c1 : Int) (some ⟨gA, 0, none⟩) NA capA)).alloc (mrow (r2 : Int) (c2 : Int) (some ⟨gB, 0, none⟩) NB capB)).alloc (mrow 0 0 none 0 0)) _
 generalize ((w.alloc (mrow (r1 : Int) (c1 : Int) (some ⟨gA, 0, none⟩) NA capA)).alloc (mrow (r2 : Int) (c2 : Int) (some ⟨gB, 0, none⟩) NB capB)).alloc (mrow 0 0 none 0 0) = W2 at *
 with_reducible refine (HAL.out _ (HAS.out _ _ HK2.out) (HBS.out _ _ HK2.out)).mono ?_
 rintro e w1 ⟨rfl, hb1⟩
 have HKf := Lib.hid (HK2.out.step hb1)
 clear x0 x1 x2 y0 y1 y2 hb1 HK2
 have f0 := HKf.out.frozen 2 0 rfl
 have g0 := HKf.out.cell 2 0 rfl rfl
 have f1 := HKf.out.frozen 2 1 rfl
 have g1 := HKf.out.cell 2 1 rfl rfl
 have f2 := HKf.out.frozen 2 2 rfl
 have g2 := HKf.out.cell 2 2 rfl rfl
 go_wp2_with fail
 have hP := ((HKf.out.put 2 0 rfl (.int .i64 0)).put 2 1 rfl (.int .i64 0)).put 2 2 rfl (.slice none 0 0)
 exact bodyPost_ret (results_mat_tmp (b := w.heap.size + 1 + 1) rfl rfl (hP.at_ 2 rfl)) rfl ⟨rfl, Kg.below_ hP⟩
set_option maxRecDepth 100000 in
set_option maxHeartbeats 4000000 in
theorem rSub_no (gA gB r1 c1 r2 c2 NA capA NB capB : Nat) (xs ys : List Int) (w : World) (hA : Lw w gA (enc xs)) (hB : Lw w gB (enc ys)) (hlA : xs.length = r1 * c1) (hNA : NA = r1 * c1) (hcA : NA ≤ capA) (hmA : capA ≤ maxLen) (hlB : ys.length = r2 * c2) (hNB : NB = r2 * c2) (hcB : NB ≤ capB) (hmB : capB ≤ maxLen) (hr1 : r1 ≤ 200) (hc1 : c1 ≤ 200) (hr2 : r2 ≤ 200) (hc2 : c2 ≤ 200) (hno : ¬ (r1 = r2 ∧ c1 = c2)) :
  Calls Tryz.prog 42 #[mat r1 c1 (some ⟨gA, 0, none⟩) NA capA, mat r2 c2 (some ⟨gB, 0, none⟩) NB capB] w fun e w' => e = .returned (.tuple #[mat 0 0 none 0 0, .bool false]) ∧ Below w.heap.size w w' := by
 have hal := fun W h1 h2 => alike_any gA gB r1 c1 r2 c2 NA capA NB capB xs ys W h1 h2 hlA hNA hcA hmA hlB hNB hcB hmB hr1 hc1 hr2 hc2
 have hfa : (decide (r1 = r2) && decide (c1 = c2)) = false := by
  rw [Bool.eq_false_iff]
  intro h
  simp only [Bool.and_eq_true, decide_eq_true_eq] at h
  exact hno h
 rw [hfa] at hal
 unfold mat at *
 have HAL := Lib.hid hal
 have hgA := heap_lt hA
 have hgB := heap_lt hB
 have HAS := Lib.hid (show ∀ W l, Kg none w W l → Lw W gA (enc xs) from fun W l h => (h.1.block gA hgA (by simp)).trans hA)
 have HBS := Lib.hid (show ∀ W l, Kg none w W l → Lw W gB (enc ys) from fun W l h => (h.1.block gB hgB (by simp)).trans hB)
 have HK2 := Lib.hid (((((Kg.none_ none w 0).more (mrow (r1 : Int) (c1 : Int) (some ⟨gA, 0, none⟩) NA capA)).more (mrow (r2 : Int) (c2 : Int) (some ⟨gB, 0, none⟩) NB capB)).more (mrow 0 0 none 0 0)).cast (l' := [some (w.heap.size, mrow (r1 : Int) (c1 : Int) (some ⟨gA, 0, none⟩) NA capA), some (w.heap.size + 1, mrow (r2 : Int) (c2 : Int) (some ⟨gB, 0, none⟩) NB capB), some (w.heap.size + 1 + 1, mrow 0 0 none 0 0)]) (by simp))
 have x0 := HK2.out.cell 0 0 rfl rfl
 have x1 := HK2.out.cell 0 1 rfl rfl
 have x2 := HK2.out.cell 0 2 rfl rfl
 have y0 := HK2.out.cell 1 0 rfl rfl
 have y1 := HK2.out.cell 1 1 rfl rfl
 have y2 := HK2.out.cell 1 2 rfl rfl
 clear hal hA hB hlA hNA hlB hNB hno hfa
 go_enter Tryz.func42, Tryz.ntmps42
 go_wp2_with fail
 change Calls _ _ _ (((w.alloc (mrow (r1 : Int) (c1 : Int) (some ⟨gA, 0, none⟩) NA capA)).alloc (mrow (r2 : Int) (c2 : Int) (some ⟨gB, 0, none⟩) NB capB)).alloc (mrow 0 0 none 0 0)) _
 generalize ((w.alloc (mrow (r1 : Int) (c1 : Int) (some ⟨gA, 0, none⟩) NA capA)).alloc (mrow (r2 : Int) (c2 : Int) (some ⟨gB, 0, none⟩) NB capB)).alloc (mrow 0 0 none 0 0) = W2 at *
 with_reducible refine (HAL.out _ (HAS.out _ _ HK2.out) (HBS.out _ _ HK2.out)).mono ?_
 rintro e w1 ⟨rfl, hb1⟩
 have HKf := Lib.hid (HK2.out.step hb1)
 clear x0 x1 x2 y0 y1 y2 hb1 HK2
 have f0 := HKf.out.frozen 2 0 rfl
 have g0 := HKf.out.cell 2 0 rfl rfl
 have f1 := HKf.out.frozen 2 1 rfl
 have g1 := HKf.out.cell 2 1 rfl rfl
 have f2 := HKf.out.frozen 2 2 rfl
 have g2 := HKf.out.cell 2 2 rfl rfl
 go_wp2_with fail
 have hP := ((HKf.out.put 2 0 rfl (.int .i64 0)).put 2 1 rfl (.int .i64 0)).put 2 2 rfl (.slice none 0 0)
 exact bodyPost_ret (results_mat_tmp (b := w.heap.size + 1 + 1) rfl rfl (hP.at_ 2 rfl)) rfl ⟨rfl, Kg.below_ hP⟩
set_option maxRecDepth 100000 in
set_option maxHeartbeats 4000000 in
theorem rAdd_ok (gA gB r c NN capA capB : Nat) (xs ys : List Int) (w : World) (hA : Lw w gA (enc xs)) (hB : Lw w gB (enc ys)) (hlA : xs.length = NN) (hlB : ys.length = NN) (hNN : r * c = NN) (hcA : NN ≤ capA) (hmA : capA ≤ maxLen) (hcB : NN ≤ capB) (hmB : capB ≤ maxLen) (hr2 : r ≤ 200) (hc2 : c ≤ 200) (hsx : ∀ k, (wmag (xs.getD k 0)).size ≤ 100) (hsy : ∀ k, (wmag (ys.getD k 0)).size ≤ 100) :
  Calls Tryz.prog 37 #[mat r c (some ⟨gA, 0, none⟩) NN capA, mat r c (some ⟨gB, 0, none⟩) NN capB] w fun e w' => ∃ g, e = .returned (.tuple #[mat r c (some ⟨g, 0, none⟩) NN NN, .bool true]) ∧ w.heap.size ≤ g ∧ Lw w' g (enc (cmb (fun x y => x + y) xs ys NN)) ∧ Below w.heap.size w w' := by
 have hNN2 : NN ≤ 40000 := by rw [← hNN]; exact Nat.le_trans (Nat.mul_le_mul hr2 hc2) (by omega)
 have hal := fun W h1 h2 => alike_any gA gB r c r c NN capA NN capB xs ys W h1 h2 (hlA.trans hNN.symm) hNN.symm hcA hmA (hlB.trans hNN.symm) hNN.symm hcB hmB hr2 hc2 hr2 hc2
 rw [show (decide (r = r) && decide (c = c)) = true from by simp] at hal
 have hze := fun W => rZero_fits r c NN W hr2 hc2 hNN
 obtain ⟨f, hf⟩ : ∃ f : Nat → Int, f = fun k => xs.getD k 0 + ys.getD k 0 := ⟨_, rfl⟩
 have hful : pfS f NN NN = cmb (fun x y => x + y) xs ys NN := by rw [pfS_full, hf]; rfl
 rw [← hful]
 have hst := pfS_zero f NN
 have hstep : ∀ k, k < NN → ∃ x y : Int, (∀ W l, Kg none w W l → (W.cell? ⟨gA, k * 2, none⟩ = some (.bool (wneg x)) ∧ W.cell? ⟨gA, k * 2 + 1, none⟩ = some (.string (wmag x))) ∧ (W.cell? ⟨gB, k * 2, none⟩ = some (.bool (wneg y)) ∧ W.cell? ⟨gB, k * 2 + 1, none⟩ = some (.string (wmag y)))) ∧
   (∀ W, Calls Tryz.prog 90 #[.agg #[.bool (wneg x), .string (wmag x)], .agg #[.bool (wneg y), .string (wmag y)]] W fun e w' => e = .returned (.agg #[.bool (wneg (x + y)), .string (wmag (x + y))]) ∧ Below W.heap.size W w') ∧
   (enc (pfS f NN k)).set k (wneg (x + y), wmag (x + y)) = enc (pfS f NN (k + 1)) := fun k hk => by
  have hgA := heap_lt hA
  have hgB := heap_lt hB
  refine ⟨xs.getD k 0, ys.getD k 0, fun W l h => ⟨cells_at ((h.1.block gA hgA (by simp)).trans hA) k (by omega), cells_at ((h.1.block gB hgB (by simp)).trans hB) k (by omega)⟩, fun W => ?_, ?_⟩
  ·have h1 := hsx k
   have h2 := hsy k
   exact RAdd_any _ _ _ _ W (by omega) (by omega) _ (by rw [wint_nm, wint_nm])
  ·have h := pfS_next f NN k
   rw [hf] at h ⊢
   exact h
 unfold mat at *
 have HAL := Lib.hid hal
 have HZE := Lib.hid hze
 have HST := Lib.hid hst
 have HSTEP := Lib.hid hstep
 have hgA := heap_lt hA
 have hgB := heap_lt hB
 have HAS := Lib.hid (show ∀ W l, Kg none w W l → Lw W gA (enc xs) from fun W l h => (h.1.block gA hgA (by simp)).trans hA)
 have HBS := Lib.hid (show ∀ W l, Kg none w W l → Lw W gB (enc ys) from fun W l h => (h.1.block gB hgB (by simp)).trans hB)
 have HK2 := Lib.hid (((((Kg.none_ none w 0).more (mrow (r : Int) (c : Int) (some ⟨gA, 0, none⟩) NN capA)).more (mrow (r : Int) (c : Int) (some ⟨gB, 0, none⟩) NN capB)).more (mrow 0 0 none 0 0)).cast (l' := [some (w.heap.size, mrow (r : Int) (c : Int) (some ⟨gA, 0, none⟩) NN capA), some (w.heap.size + 1, mrow (r : Int) (c : Int) (some ⟨gB, 0, none⟩) NN capB), some (w.heap.size + 1 + 1, mrow 0 0 none 0 0)]) (by simp))
 have x0 := HK2.out.cell 0 0 rfl rfl
 have x1 := HK2.out.cell 0 1 rfl rfl
 have x2 := HK2.out.cell 0 2 rfl rfl
 have y0 := HK2.out.cell 1 0 rfl rfl
 have y1 := HK2.out.cell 1 1 rfl rfl
 have y2 := HK2.out.cell 1 2 rfl rfl
 clear hal hze hst hstep hA hB hlA hlB hNN hsx hsy hf hful
 go_enter Tryz.func37, Tryz.ntmps37
 go_wp2_with fail
 change Calls _ _ _ (((w.alloc (mrow (r : Int) (c : Int) (some ⟨gA, 0, none⟩) NN capA)).alloc (mrow (r : Int) (c : Int) (some ⟨gB, 0, none⟩) NN capB)).alloc (mrow 0 0 none 0 0)) _
 generalize ((w.alloc (mrow (r : Int) (c : Int) (some ⟨gA, 0, none⟩) NN capA)).alloc (mrow (r : Int) (c : Int) (some ⟨gB, 0, none⟩) NN capB)).alloc (mrow 0 0 none 0 0) = W2 at *
 with_reducible refine (HAL.out _ (HAS.out _ _ HK2.out) (HBS.out _ _ HK2.out)).mono ?_
 rintro e w1 ⟨rfl, hb1⟩
 have HK3 := Lib.hid (HK2.out.step hb1)
 clear x0 x1 x2 y0 y1 y2 hb1 HK2
 have x0 := HK3.out.cell 0 0 rfl rfl
 have x1 := HK3.out.cell 0 1 rfl rfl
 go_wp2_with fail
 with_reducible refine (HZE.out _).mono ?_
 rintro e V1 ⟨g, rfl, hg, hL, hb⟩
 rw [← HST.out] at hL
 have HK4 := Lib.hid (show Kg none w (V1.alloc (mrow (r : Int) (c : Int) (some ⟨g, 0, none⟩) NN NN)) [some (w.heap.size, mrow (r : Int) (c : Int) (some ⟨gA, 0, none⟩) NN capA), some (w.heap.size + 1, mrow (r : Int) (c : Int) (some ⟨gB, 0, none⟩) NN capB), some (w.heap.size + 1 + 1, mrow 0 0 none 0 0), some (V1.heap.size, mrow (r : Int) (c : Int) (some ⟨g, 0, none⟩) NN NN), some (g, lwO (enc (pfS f NN 0)))] from ((HK3.out.room.came 3 rfl hb hg (o := lwO (enc (pfS f NN 0))) hL).more (mrow (r : Int) (c : Int) (some ⟨g, 0, none⟩) NN NN)).sel [0, 1, 2, 4, 3] (by decide))
 clear hb HK3 hg hL x0 x1
 go_wp2_with fail
 change Code.wp _ _ _ _ (V1.alloc (mrow (r : Int) (c : Int) (some ⟨g, 0, none⟩) NN NN))
 generalize V1.alloc (mrow (r : Int) (c : Int) (some ⟨g, 0, none⟩) NN NN) = W4 at *
 generalize V1.heap.size = bT at *
 go_loopw [8] (fun i wr => ∃ k : Nat, i = .int .i64 (k : Int) ∧ k ≤ NN ∧ Kg none w wr [some (w.heap.size, mrow (r : Int) (c : Int) (some ⟨gA, 0, none⟩) NN capA), some (w.heap.size + 1, mrow (r : Int) (c : Int) (some ⟨gB, 0, none⟩) NN capB), some (w.heap.size + 1 + 1, mrow 0 0 none 0 0), some (bT, mrow (r : Int) (c : Int) (some ⟨g, 0, none⟩) NN NN), some (g, lwO (enc (pfS f NN k)))]) (fun i _ => NN - (intOf i).toNat)
 case atStart => exact ⟨0, rfl, Nat.zero_le _, HK4.out⟩
 case round =>
  clear HK4
  obtain ⟨k, rfl, hk, hK⟩ := hrel
  have HK5 := Lib.hid hK
  have x0 := hK.cell 3 2 rfl rfl
  clear hK
  by_cases hlt : k < NN
  ·obtain ⟨x, y, hcel, hrl, hnx⟩ := HSTEP.out k hlt
   have HCEL := Lib.hid hcel
   have HRL := Lib.hid hrl
   have HNX := Lib.hid hnx
   clear hcel hrl hnx
   generalize x + y = z at *
   go_wp2_with fail
   clear x0
   refine wp_region_acts (X := Unit) (fun _ => [(0, 27, .pointer (some ⟨bT, 2, none⟩)), (1, 28, .slice (some ⟨g, 0, none⟩) NN NN), (2, 29, .int .i64 (k : Int)), (3, 30, .pointer (some ⟨w.heap.size, 2, none⟩)), (4, 31, .slice (some ⟨gA, 0, none⟩) NN capA), (5, 32, .int .i64 (k : Int)), (6, 33, .pointer (some ⟨gA, k * 2, none⟩)), (7, 34, .agg #[.bool (wneg x), .string (wmag x)]), (8, 35, .pointer (some ⟨w.heap.size + 1, 2, none⟩)), (9, 36, .slice (some ⟨gB, 0, none⟩) NN capB), (10, 37, .int .i64 (k : Int)), (11, 38, .pointer (some ⟨gB, k * 2, none⟩)), (12, 39, .agg #[.bool (wneg y), .string (wmag y)]), (13, 40, .agg #[.bool (wneg z), .string (wmag z)]), (14, 41, .pointer (some ⟨g, k * 2, none⟩))])
    (fun _ L W => Kg none w W [some (w.heap.size, mrow (r : Int) (c : Int) (some ⟨gA, 0, none⟩) NN capA), some (w.heap.size + 1, mrow (r : Int) (c : Int) (some ⟨gB, 0, none⟩) NN capB), some (w.heap.size + 1 + 1, mrow 0 0 none 0 0), some (bT, mrow (r : Int) (c : Int) (some ⟨g, 0, none⟩) NN NN), some (g, if L 15 = true then lwO (enc (pfS f NN (k + 1))) else lwO (enc (pfS f NN k)))]) (by kernel_rfl) (by kernel_rfl) () ?st (by kernel_rfl) ?_ ?_
   case st => simpa using HK5.out.drew
   ·simp only [selA, selT_cons, selT_nil, List.set_cons_zero, List.set_cons_succ, List.getD_cons_zero, List.getD_cons_succ]
    repeat' (first | exact ActSteps.nil | refine ActSteps.cons ?_ ?_)
    all_goals
     intro L x' wx hJ hl hd hs K hK
     (try simp [Region.binds] at hd)
     have e0 := hJ.cell 0 2 rfl rfl
     have e1 := hJ.cell 1 2 rfl rfl
     have e3 := hJ.cell 3 2 rfl rfl
     obtain ⟨⟨u0, u1⟩, v0, v1⟩ := HCEL.out _ _ hJ
     try simp only [hd, hl, selV_true, selV_false]
    ·go_simp
     refine hK.out x' _ _ ?_ ?_
     ·simp [hl, hd, selV_true, selV_false]
     ·exact hJ
    ·go_simp
     refine hK.out x' _ _ ?_ ?_
     ·simp [hl, hd, selV_true, selV_false]
     ·exact hJ
    ·go_simp
     refine hK.out x' _ _ ?_ ?_
     ·simp [hl, hd, selV_true, selV_false]
     ·exact hJ
    ·go_simp
     refine hK.out x' _ _ ?_ ?_
     ·simp [hl, hd, selV_true, selV_false]
     ·exact hJ
    ·go_simp
     refine hK.out x' _ _ ?_ ?_
     ·simp [hl, hd, selV_true, selV_false]
     ·exact hJ
    ·go_simp
     refine hK.out x' _ _ ?_ ?_
     ·simp [hl, hd, selV_true, selV_false]
     ·exact hJ
    ·go_simp
     refine hK.out x' _ _ ?_ ?_
     ·simp [hl, hd, selV_true, selV_false]
     ·exact hJ
    ·go_simp
     refine hK.out x' _ _ ?_ ?_
     ·simp [hl, hd, selV_true, selV_false]
     ·exact hJ
    ·go_simp
     refine hK.out x' _ _ ?_ ?_
     ·simp [hl, hd, selV_true, selV_false]
     ·exact hJ
    ·go_simp
     refine hK.out x' _ _ ?_ ?_
     ·simp [hl, hd, selV_true, selV_false]
     ·exact hJ
    ·go_simp
     refine hK.out x' _ _ ?_ ?_
     ·simp [hl, hd, selV_true, selV_false]
     ·exact hJ
    ·go_simp
     refine hK.out x' _ _ ?_ ?_
     ·simp [hl, hd, selV_true, selV_false]
     ·exact hJ
    ·go_simp
     refine hK.out x' _ _ ?_ ?_
     ·simp [hl, hd, selV_true, selV_false]
     ·exact hJ
    ·go_simp
     with_reducible refine (HRL.out _).mono ?_
     rintro e v ⟨rfl, hb⟩
     refine hK.out x' _ _ ?_ ?_
     ·simp [hl, hd, selV_true, selV_false]
     ·exact hJ.step hb
    ·go_simp
     refine hK.out x' _ _ ?_ ?_
     ·simp [hl, hd, selV_true, selV_false]
     ·exact hJ
    ·have hB := hJ
     simp only [hl, Bool.false_eq_true, if_false] at hB
     have hLg : Lw wx g (enc (pfS f NN k)) := hB.at_ 4 rfl
     have hql : k < (enc (pfS f NN k)).length := by rw [enc_length, pfS_length]; exact hlt
     have d0 := hLg.cell0 k hql
     have d1 := hLg.cell1 k hql
     have f0 := hB.frozen 4 (k * 2) rfl
     have f1 := hB.frozen 4 (k * 2 + 1) rfl
     generalize ((enc (pfS f NN k))[k]'hql).1 = u0' at d0
     generalize ((enc (pfS f NN k))[k]'hql).2 = u1' at d1
     have hP := hLg.put k (wneg z) (wmag z)
     rw [HNX.out] at hP
     have HP := Lib.hid hP
     have HB := Lib.hid hB
     clear hP hLg hB
     go_simp
     refine hK.out x' _ _ ?_ ?_
     ·simp [hl, hd, selV_true, selV_false]
     ·have hGr := grownBy_setRow (g := g) (p := ⟨g, k * 2 + 1, none⟩) (grownBy_setRow (g := g) (p := ⟨g, k * 2, none⟩) (World.grownBy.refl wx _) rfl (.bool (wneg z))) rfl (.string (wmag z))
      exact (HB.out.change 4 rfl hGr (o' := lwO (enc (pfS f NN (k + 1)))) HP.out).cast (by simp)
   ·rintro _ Wx hKx
    simp only [selA, selT_cons, selT_nil, List.set_cons_zero, List.set_cons_succ, List.getD_cons_zero, List.getD_cons_succ, selV_true]
    simp only [if_true] at hKx
    have HKX := Lib.hid hKx
    clear hKx
    go_wp2
    go_roundw
    case rel => exact ⟨k + 1, by simp, by omega, HKX.out⟩
    case measure => simp [intOf]; omega
  ·obtain rfl : NN = k := by omega
   have f0 := HK5.out.frozen 2 0 rfl
   have g0 := HK5.out.cell 2 0 rfl rfl
   have d0 := HK5.out.cell 3 0 rfl rfl
   have f1 := HK5.out.frozen 2 1 rfl
   have g1 := HK5.out.cell 2 1 rfl rfl
   have d1 := HK5.out.cell 3 1 rfl rfl
   have f2 := HK5.out.frozen 2 2 rfl
   have g2 := HK5.out.cell 2 2 rfl rfl
   have d2 := HK5.out.cell 3 2 rfl rfl
   clear x0
   go_wp2_with fail
   have hP := ((HK5.out.put 2 0 rfl (.int .i64 (r : Int))).put 2 1 rfl (.int .i64 (c : Int))).put 2 2 rfl (.slice (some ⟨g, 0, none⟩) NN NN)
   exact bodyPost_ret (results_mat_tmp (b := w.heap.size + 1 + 1) rfl rfl (hP.at_ 2 rfl)) rfl ⟨g, rfl, hP.ge 4 rfl, hP.at_ 4 rfl, Kg.below_ hP⟩
set_option maxRecDepth 100000 in
set_option maxHeartbeats 4000000 in
theorem rSub_ok (gA gB r c NN capA capB : Nat) (xs ys : List Int) (w : World) (hA : Lw w gA (enc xs)) (hB : Lw w gB (enc ys)) (hlA : xs.length = NN) (hlB : ys.length = NN) (hNN : r * c = NN) (hcA : NN ≤ capA) (hmA : capA ≤ maxLen) (hcB : NN ≤ capB) (hmB : capB ≤ maxLen) (hr2 : r ≤ 200) (hc2 : c ≤ 200) (hsx : ∀ k, (wmag (xs.getD k 0)).size ≤ 100) (hsy : ∀ k, (wmag (ys.getD k 0)).size ≤ 100) :
  Calls Tryz.prog 42 #[mat r c (some ⟨gA, 0, none⟩) NN capA, mat r c (some ⟨gB, 0, none⟩) NN capB] w fun e w' => ∃ g, e = .returned (.tuple #[mat r c (some ⟨g, 0, none⟩) NN NN, .bool true]) ∧ w.heap.size ≤ g ∧ Lw w' g (enc (cmb (fun x y => x - y) xs ys NN)) ∧ Below w.heap.size w w' := by
 have hNN2 : NN ≤ 40000 := by rw [← hNN]; exact Nat.le_trans (Nat.mul_le_mul hr2 hc2) (by omega)
 have hal := fun W h1 h2 => alike_any gA gB r c r c NN capA NN capB xs ys W h1 h2 (hlA.trans hNN.symm) hNN.symm hcA hmA (hlB.trans hNN.symm) hNN.symm hcB hmB hr2 hc2 hr2 hc2
 rw [show (decide (r = r) && decide (c = c)) = true from by simp] at hal
 have hze := fun W => rZero_fits r c NN W hr2 hc2 hNN
 obtain ⟨f, hf⟩ : ∃ f : Nat → Int, f = fun k => xs.getD k 0 - ys.getD k 0 := ⟨_, rfl⟩
 have hful : pfS f NN NN = cmb (fun x y => x - y) xs ys NN := by rw [pfS_full, hf]; rfl
 rw [← hful]
 have hst := pfS_zero f NN
 have hstep : ∀ k, k < NN → ∃ x y : Int, (∀ W l, Kg none w W l → (W.cell? ⟨gA, k * 2, none⟩ = some (.bool (wneg x)) ∧ W.cell? ⟨gA, k * 2 + 1, none⟩ = some (.string (wmag x))) ∧ (W.cell? ⟨gB, k * 2, none⟩ = some (.bool (wneg y)) ∧ W.cell? ⟨gB, k * 2 + 1, none⟩ = some (.string (wmag y)))) ∧
   (∀ W, Calls Tryz.prog 77 #[.agg #[.bool (wneg x), .string (wmag x)], .agg #[.bool (wneg y), .string (wmag y)]] W fun e w' => e = .returned (.agg #[.bool (wneg (x - y)), .string (wmag (x - y))]) ∧ Below W.heap.size W w') ∧
   (enc (pfS f NN k)).set k (wneg (x - y), wmag (x - y)) = enc (pfS f NN (k + 1)) := fun k hk => by
  have hgA := heap_lt hA
  have hgB := heap_lt hB
  refine ⟨xs.getD k 0, ys.getD k 0, fun W l h => ⟨cells_at ((h.1.block gA hgA (by simp)).trans hA) k (by omega), cells_at ((h.1.block gB hgB (by simp)).trans hB) k (by omega)⟩, fun W => ?_, ?_⟩
  ·have h1 := hsx k
   have h2 := hsy k
   exact RSub_any _ _ _ _ W (by omega) (by omega) _ (by rw [wint_nm, wint_nm])
  ·have h := pfS_next f NN k
   rw [hf] at h ⊢
   exact h
 unfold mat at *
 have HAL := Lib.hid hal
 have HZE := Lib.hid hze
 have HST := Lib.hid hst
 have HSTEP := Lib.hid hstep
 have hgA := heap_lt hA
 have hgB := heap_lt hB
 have HAS := Lib.hid (show ∀ W l, Kg none w W l → Lw W gA (enc xs) from fun W l h => (h.1.block gA hgA (by simp)).trans hA)
 have HBS := Lib.hid (show ∀ W l, Kg none w W l → Lw W gB (enc ys) from fun W l h => (h.1.block gB hgB (by simp)).trans hB)
 have HK2 := Lib.hid (((((Kg.none_ none w 0).more (mrow (r : Int) (c : Int) (some ⟨gA, 0, none⟩) NN capA)).more (mrow (r : Int) (c : Int) (some ⟨gB, 0, none⟩) NN capB)).more (mrow 0 0 none 0 0)).cast (l' := [some (w.heap.size, mrow (r : Int) (c : Int) (some ⟨gA, 0, none⟩) NN capA), some (w.heap.size + 1, mrow (r : Int) (c : Int) (some ⟨gB, 0, none⟩) NN capB), some (w.heap.size + 1 + 1, mrow 0 0 none 0 0)]) (by simp))
 have x0 := HK2.out.cell 0 0 rfl rfl
 have x1 := HK2.out.cell 0 1 rfl rfl
 have x2 := HK2.out.cell 0 2 rfl rfl
 have y0 := HK2.out.cell 1 0 rfl rfl
 have y1 := HK2.out.cell 1 1 rfl rfl
 have y2 := HK2.out.cell 1 2 rfl rfl
 clear hal hze hst hstep hA hB hlA hlB hNN hsx hsy hf hful
 go_enter Tryz.func42, Tryz.ntmps42
 go_wp2_with fail
 change Calls _ _ _ (((w.alloc (mrow (r : Int) (c : Int) (some ⟨gA, 0, none⟩) NN capA)).alloc (mrow (r : Int) (c : Int) (some ⟨gB, 0, none⟩) NN capB)).alloc (mrow 0 0 none 0 0)) _
 generalize ((w.alloc (mrow (r : Int) (c : Int) (some ⟨gA, 0, none⟩) NN capA)).alloc (mrow (r : Int) (c : Int) (some ⟨gB, 0, none⟩) NN capB)).alloc (mrow 0 0 none 0 0) = W2 at *
 with_reducible refine (HAL.out _ (HAS.out _ _ HK2.out) (HBS.out _ _ HK2.out)).mono ?_
 rintro e w1 ⟨rfl, hb1⟩
 have HK3 := Lib.hid (HK2.out.step hb1)
 clear x0 x1 x2 y0 y1 y2 hb1 HK2
 have x0 := HK3.out.cell 0 0 rfl rfl
 have x1 := HK3.out.cell 0 1 rfl rfl
 go_wp2_with fail
 with_reducible refine (HZE.out _).mono ?_
 rintro e V1 ⟨g, rfl, hg, hL, hb⟩
 rw [← HST.out] at hL
 have HK4 := Lib.hid (show Kg none w (V1.alloc (mrow (r : Int) (c : Int) (some ⟨g, 0, none⟩) NN NN)) [some (w.heap.size, mrow (r : Int) (c : Int) (some ⟨gA, 0, none⟩) NN capA), some (w.heap.size + 1, mrow (r : Int) (c : Int) (some ⟨gB, 0, none⟩) NN capB), some (w.heap.size + 1 + 1, mrow 0 0 none 0 0), some (V1.heap.size, mrow (r : Int) (c : Int) (some ⟨g, 0, none⟩) NN NN), some (g, lwO (enc (pfS f NN 0)))] from ((HK3.out.room.came 3 rfl hb hg (o := lwO (enc (pfS f NN 0))) hL).more (mrow (r : Int) (c : Int) (some ⟨g, 0, none⟩) NN NN)).sel [0, 1, 2, 4, 3] (by decide))
 clear hb HK3 hg hL x0 x1
 go_wp2_with fail
 change Code.wp _ _ _ _ (V1.alloc (mrow (r : Int) (c : Int) (some ⟨g, 0, none⟩) NN NN))
 generalize V1.alloc (mrow (r : Int) (c : Int) (some ⟨g, 0, none⟩) NN NN) = W4 at *
 generalize V1.heap.size = bT at *
 go_loopw [8] (fun i wr => ∃ k : Nat, i = .int .i64 (k : Int) ∧ k ≤ NN ∧ Kg none w wr [some (w.heap.size, mrow (r : Int) (c : Int) (some ⟨gA, 0, none⟩) NN capA), some (w.heap.size + 1, mrow (r : Int) (c : Int) (some ⟨gB, 0, none⟩) NN capB), some (w.heap.size + 1 + 1, mrow 0 0 none 0 0), some (bT, mrow (r : Int) (c : Int) (some ⟨g, 0, none⟩) NN NN), some (g, lwO (enc (pfS f NN k)))]) (fun i _ => NN - (intOf i).toNat)
 case atStart => exact ⟨0, rfl, Nat.zero_le _, HK4.out⟩
 case round =>
  clear HK4
  obtain ⟨k, rfl, hk, hK⟩ := hrel
  have HK5 := Lib.hid hK
  have x0 := hK.cell 3 2 rfl rfl
  clear hK
  by_cases hlt : k < NN
  ·obtain ⟨x, y, hcel, hrl, hnx⟩ := HSTEP.out k hlt
   have HCEL := Lib.hid hcel
   have HRL := Lib.hid hrl
   have HNX := Lib.hid hnx
   clear hcel hrl hnx
   generalize x - y = z at *
   go_wp2_with fail
   clear x0
   refine wp_region_acts (X := Unit) (fun _ => [(0, 27, .pointer (some ⟨bT, 2, none⟩)), (1, 28, .slice (some ⟨g, 0, none⟩) NN NN), (2, 29, .int .i64 (k : Int)), (3, 30, .pointer (some ⟨w.heap.size, 2, none⟩)), (4, 31, .slice (some ⟨gA, 0, none⟩) NN capA), (5, 32, .int .i64 (k : Int)), (6, 33, .pointer (some ⟨gA, k * 2, none⟩)), (7, 34, .agg #[.bool (wneg x), .string (wmag x)]), (8, 35, .pointer (some ⟨w.heap.size + 1, 2, none⟩)), (9, 36, .slice (some ⟨gB, 0, none⟩) NN capB), (10, 37, .int .i64 (k : Int)), (11, 38, .pointer (some ⟨gB, k * 2, none⟩)), (12, 39, .agg #[.bool (wneg y), .string (wmag y)]), (13, 40, .agg #[.bool (wneg z), .string (wmag z)]), (14, 41, .pointer (some ⟨g, k * 2, none⟩))])
    (fun _ L W => Kg none w W [some (w.heap.size, mrow (r : Int) (c : Int) (some ⟨gA, 0, none⟩) NN capA), some (w.heap.size + 1, mrow (r : Int) (c : Int) (some ⟨gB, 0, none⟩) NN capB), some (w.heap.size + 1 + 1, mrow 0 0 none 0 0), some (bT, mrow (r : Int) (c : Int) (some ⟨g, 0, none⟩) NN NN), some (g, if L 15 = true then lwO (enc (pfS f NN (k + 1))) else lwO (enc (pfS f NN k)))]) (by kernel_rfl) (by kernel_rfl) () ?st (by kernel_rfl) ?_ ?_
   case st => simpa using HK5.out.drew
   ·simp only [selA, selT_cons, selT_nil, List.set_cons_zero, List.set_cons_succ, List.getD_cons_zero, List.getD_cons_succ]
    repeat' (first | exact ActSteps.nil | refine ActSteps.cons ?_ ?_)
    all_goals
     intro L x' wx hJ hl hd hs K hK
     (try simp [Region.binds] at hd)
     have e0 := hJ.cell 0 2 rfl rfl
     have e1 := hJ.cell 1 2 rfl rfl
     have e3 := hJ.cell 3 2 rfl rfl
     obtain ⟨⟨u0, u1⟩, v0, v1⟩ := HCEL.out _ _ hJ
     try simp only [hd, hl, selV_true, selV_false]
    ·go_simp
     refine hK.out x' _ _ ?_ ?_
     ·simp [hl, hd, selV_true, selV_false]
     ·exact hJ
    ·go_simp
     refine hK.out x' _ _ ?_ ?_
     ·simp [hl, hd, selV_true, selV_false]
     ·exact hJ
    ·go_simp
     refine hK.out x' _ _ ?_ ?_
     ·simp [hl, hd, selV_true, selV_false]
     ·exact hJ
    ·go_simp
     refine hK.out x' _ _ ?_ ?_
     ·simp [hl, hd, selV_true, selV_false]
     ·exact hJ
    ·go_simp
     refine hK.out x' _ _ ?_ ?_
     ·simp [hl, hd, selV_true, selV_false]
     ·exact hJ
    ·go_simp
     refine hK.out x' _ _ ?_ ?_
     ·simp [hl, hd, selV_true, selV_false]
     ·exact hJ
    ·go_simp
     refine hK.out x' _ _ ?_ ?_
     ·simp [hl, hd, selV_true, selV_false]
     ·exact hJ
    ·go_simp
     refine hK.out x' _ _ ?_ ?_
     ·simp [hl, hd, selV_true, selV_false]
     ·exact hJ
    ·go_simp
     refine hK.out x' _ _ ?_ ?_
     ·simp [hl, hd, selV_true, selV_false]
     ·exact hJ
    ·go_simp
     refine hK.out x' _ _ ?_ ?_
     ·simp [hl, hd, selV_true, selV_false]
     ·exact hJ
    ·go_simp
     refine hK.out x' _ _ ?_ ?_
     ·simp [hl, hd, selV_true, selV_false]
     ·exact hJ
    ·go_simp
     refine hK.out x' _ _ ?_ ?_
     ·simp [hl, hd, selV_true, selV_false]
     ·exact hJ
    ·go_simp
     refine hK.out x' _ _ ?_ ?_
     ·simp [hl, hd, selV_true, selV_false]
     ·exact hJ
    ·go_simp
     with_reducible refine (HRL.out _).mono ?_
     rintro e v ⟨rfl, hb⟩
     refine hK.out x' _ _ ?_ ?_
     ·simp [hl, hd, selV_true, selV_false]
     ·exact hJ.step hb
    ·go_simp
     refine hK.out x' _ _ ?_ ?_
     ·simp [hl, hd, selV_true, selV_false]
     ·exact hJ
    ·have hB := hJ
     simp only [hl, Bool.false_eq_true, if_false] at hB
     have hLg : Lw wx g (enc (pfS f NN k)) := hB.at_ 4 rfl
     have hql : k < (enc (pfS f NN k)).length := by rw [enc_length, pfS_length]; exact hlt
     have d0 := hLg.cell0 k hql
     have d1 := hLg.cell1 k hql
     have f0 := hB.frozen 4 (k * 2) rfl
     have f1 := hB.frozen 4 (k * 2 + 1) rfl
     generalize ((enc (pfS f NN k))[k]'hql).1 = u0' at d0
     generalize ((enc (pfS f NN k))[k]'hql).2 = u1' at d1
     have hP := hLg.put k (wneg z) (wmag z)
     rw [HNX.out] at hP
     have HP := Lib.hid hP
     have HB := Lib.hid hB
     clear hP hLg hB
     go_simp
     refine hK.out x' _ _ ?_ ?_
     ·simp [hl, hd, selV_true, selV_false]
     ·have hGr := grownBy_setRow (g := g) (p := ⟨g, k * 2 + 1, none⟩) (grownBy_setRow (g := g) (p := ⟨g, k * 2, none⟩) (World.grownBy.refl wx _) rfl (.bool (wneg z))) rfl (.string (wmag z))
      exact (HB.out.change 4 rfl hGr (o' := lwO (enc (pfS f NN (k + 1)))) HP.out).cast (by simp)
   ·rintro _ Wx hKx
    simp only [selA, selT_cons, selT_nil, List.set_cons_zero, List.set_cons_succ, List.getD_cons_zero, List.getD_cons_succ, selV_true]
    simp only [if_true] at hKx
    have HKX := Lib.hid hKx
    clear hKx
    go_wp2
    go_roundw
    case rel => exact ⟨k + 1, by simp, by omega, HKX.out⟩
    case measure => simp [intOf]; omega
  ·obtain rfl : NN = k := by omega
   have f0 := HK5.out.frozen 2 0 rfl
   have g0 := HK5.out.cell 2 0 rfl rfl
   have d0 := HK5.out.cell 3 0 rfl rfl
   have f1 := HK5.out.frozen 2 1 rfl
   have g1 := HK5.out.cell 2 1 rfl rfl
   have d1 := HK5.out.cell 3 1 rfl rfl
   have f2 := HK5.out.frozen 2 2 rfl
   have g2 := HK5.out.cell 2 2 rfl rfl
   have d2 := HK5.out.cell 3 2 rfl rfl
   clear x0
   go_wp2_with fail
   have hP := ((HK5.out.put 2 0 rfl (.int .i64 (r : Int))).put 2 1 rfl (.int .i64 (c : Int))).put 2 2 rfl (.slice (some ⟨g, 0, none⟩) NN NN)
   exact bodyPost_ret (results_mat_tmp (b := w.heap.size + 1 + 1) rfl rfl (hP.at_ 2 rfl)) rfl ⟨g, rfl, hP.ge 4 rfl, hP.at_ 4 rfl, Kg.below_ hP⟩
set_option maxRecDepth 100000 in
set_option maxHeartbeats 4000000 in
theorem placeAdd_no (gA gB r1 c1 r2 c2 NA capA NB capB : Nat) (xs ys : List Int) (w : World) (hA : Lw w gA (enc xs)) (hB : Lw w gB (enc ys)) (hlA : xs.length = r1 * c1) (hNA : NA = r1 * c1) (hcA : NA ≤ capA) (hmA : capA ≤ maxLen) (hlB : ys.length = r2 * c2) (hNB : NB = r2 * c2) (hcB : NB ≤ capB) (hmB : capB ≤ maxLen) (hr1 : r1 ≤ 200) (hc1 : c1 ≤ 200) (hr2 : r2 ≤ 200) (hc2 : c2 ≤ 200) (hno : ¬ (r1 = r2 ∧ c1 = c2)) :
  Calls Tryz.prog 88 #[mat r1 c1 (some ⟨gA, 0, none⟩) NA capA, mat r2 c2 (some ⟨gB, 0, none⟩) NB capB, .func (.func 52) #[] #[]] w fun e w' => e = .returned (.tuple #[mat 0 0 none 0 0, .bool false]) ∧ Below w.heap.size w w' := by
 have hri := fun W hW => Right_any (r1 : Int) (c1 : Int) (some ⟨gA, 0, none⟩) NA capA (enc xs) W hW (by rw [enc_length, hlA, hNA]) (by omega)
 rw [mright_ints r1 c1 xs hlA hr1 hc1] at hri
 have hrj := fun W hW => Right_any (r2 : Int) (c2 : Int) (some ⟨gB, 0, none⟩) NB capB (enc ys) W hW (by rw [enc_length, hlB, hNB]) (by omega)
 rw [mright_ints r2 c2 ys hlB hr2 hc2] at hrj
 have hss := fun W => sameShape_any (r1 : Int) (c1 : Int) (r2 : Int) (c2 : Int) (some ⟨gA, 0, none⟩) (some ⟨gB, 0, none⟩) NA capA NB capB W
 rw [show ((r1 : Int) == (r2 : Int) && (c1 : Int) == (c2 : Int)) = false from by
  rw [Bool.eq_false_iff]
  intro h
  simp only [Bool.and_eq_true, beq_iff_eq] at h
  exact hno ⟨by omega, by omega⟩] at hss
 unfold mat at *
 have HRI := Lib.hid hri
 have HRJ := Lib.hid hrj
 have HSS := Lib.hid hss
 have hgA := heap_lt hA
 have hgB := heap_lt hB
 have HAS := Lib.hid (show ∀ W l, Kg none w W l → Lw W gA (enc xs) from fun W l h => (h.1.block gA hgA (by simp)).trans hA)
 have HBS := Lib.hid (show ∀ W l, Kg none w W l → Lw W gB (enc ys) from fun W l h => (h.1.block gB hgB (by simp)).trans hB)
 have HK2 := Lib.hid (((((Kg.none_ none w 0).more (mrow (r1 : Int) (c1 : Int) (some ⟨gA, 0, none⟩) NA capA)).more (mrow (r2 : Int) (c2 : Int) (some ⟨gB, 0, none⟩) NB capB)).more (mrow 0 0 none 0 0)).cast (l' := [some (w.heap.size, mrow (r1 : Int) (c1 : Int) (some ⟨gA, 0, none⟩) NA capA), some (w.heap.size + 1, mrow (r2 : Int) (c2 : Int) (some ⟨gB, 0, none⟩) NB capB), some (w.heap.size + 1 + 1, mrow 0 0 none 0 0)]) (by simp))
 have x0 := HK2.out.cell 0 0 rfl rfl
 have x1 := HK2.out.cell 0 1 rfl rfl
 have x2 := HK2.out.cell 0 2 rfl rfl
 clear hri hrj hss hA hB hlA hNA hlB hNB hno
 go_enter Tryz.func88, Tryz.ntmps88
 go_wp2_with fail
 change Calls _ _ _ (((w.alloc (mrow (r1 : Int) (c1 : Int) (some ⟨gA, 0, none⟩) NA capA)).alloc (mrow (r2 : Int) (c2 : Int) (some ⟨gB, 0, none⟩) NB capB)).alloc (mrow 0 0 none 0 0)) _
 generalize ((w.alloc (mrow (r1 : Int) (c1 : Int) (some ⟨gA, 0, none⟩) NA capA)).alloc (mrow (r2 : Int) (c2 : Int) (some ⟨gB, 0, none⟩) NB capB)).alloc (mrow 0 0 none 0 0) = W2 at *
 with_reducible refine (HRI.out _ (HAS.out _ _ HK2.out).rdw).mono ?_
 rintro e w1 ⟨rfl, hb1⟩
 have HK3 := Lib.hid (HK2.out.step hb1)
 clear x0 x1 x2 hb1 HK2
 have x0 := HK3.out.cell 1 0 rfl rfl
 have x1 := HK3.out.cell 1 1 rfl rfl
 have x2 := HK3.out.cell 1 2 rfl rfl
 go_wp2_with fail
 with_reducible refine (HRJ.out _ (HBS.out _ _ HK3.out).rdw).mono ?_
 rintro e w2 ⟨rfl, hb2⟩
 have HKf := Lib.hid (HK3.out.step hb2)
 clear x0 x1 x2 hb2 HK3
 have x0 := HKf.out.cell 0 0 rfl rfl
 have x1 := HKf.out.cell 0 1 rfl rfl
 have x2 := HKf.out.cell 0 2 rfl rfl
 have y0 := HKf.out.cell 1 0 rfl rfl
 have y1 := HKf.out.cell 1 1 rfl rfl
 have y2 := HKf.out.cell 1 2 rfl rfl
 go_wp2_with fail
 with_reducible refine (HSS.out _).mono ?_
 rintro e w3 ⟨rfl, hb3⟩
 have HKg := Lib.hid (HKf.out.step hb3)
 clear x0 x1 x2 y0 y1 y2 hb3 HKf
 have f0 := HKg.out.frozen 2 0 rfl
 have g0 := HKg.out.cell 2 0 rfl rfl
 have f1 := HKg.out.frozen 2 1 rfl
 have g1 := HKg.out.cell 2 1 rfl rfl
 have f2 := HKg.out.frozen 2 2 rfl
 have g2 := HKg.out.cell 2 2 rfl rfl
 go_wp2_with fail
 have hP := ((HKg.out.put 2 0 rfl (.int .i64 0)).put 2 1 rfl (.int .i64 0)).put 2 2 rfl (.slice none 0 0)
 exact bodyPost_ret (results_mat_tmp (b := w.heap.size + 1 + 1) rfl rfl (hP.at_ 2 rfl)) rfl ⟨rfl, Kg.below_ hP⟩
set_option maxRecDepth 100000 in
set_option maxHeartbeats 4000000 in
theorem MAdd_no (gA gB r1 c1 r2 c2 NA capA NB capB : Nat) (xs ys : List Int) (w : World) (hA : Lw w gA (enc xs)) (hB : Lw w gB (enc ys)) (hlA : xs.length = r1 * c1) (hNA : NA = r1 * c1) (hcA : NA ≤ capA) (hmA : capA ≤ maxLen) (hlB : ys.length = r2 * c2) (hNB : NB = r2 * c2) (hcB : NB ≤ capB) (hmB : capB ≤ maxLen) (hr1 : r1 ≤ 200) (hc1 : c1 ≤ 200) (hr2 : r2 ≤ 200) (hc2 : c2 ≤ 200) (hno : ¬ (r1 = r2 ∧ c1 = c2)) :
  Calls Tryz.prog 36 #[mat r1 c1 (some ⟨gA, 0, none⟩) NA capA, mat r2 c2 (some ⟨gB, 0, none⟩) NB capB] w fun e w' => e = .returned (.tuple #[mat 0 0 none 0 0, .bool false]) ∧ Below w.heap.size w w' := by
 have hpl := fun W h1 h2 => placeAdd_no gA gB r1 c1 r2 c2 NA capA NB capB xs ys W h1 h2 hlA hNA hcA hmA hlB hNB hcB hmB hr1 hc1 hr2 hc2 hno
 unfold mat at *
 have HPL := Lib.hid hpl
 have hgA := heap_lt hA
 have hgB := heap_lt hB
 have HAS := Lib.hid (show ∀ W l, Kg none w W l → Lw W gA (enc xs) from fun W l h => (h.1.block gA hgA (by simp)).trans hA)
 have HBS := Lib.hid (show ∀ W l, Kg none w W l → Lw W gB (enc ys) from fun W l h => (h.1.block gB hgB (by simp)).trans hB)
 have HK2 := Lib.hid (((((Kg.none_ none w 0).more (mrow (r1 : Int) (c1 : Int) (some ⟨gA, 0, none⟩) NA capA)).more (mrow (r2 : Int) (c2 : Int) (some ⟨gB, 0, none⟩) NB capB)).more (mrow 0 0 none 0 0)).cast (l' := [some (w.heap.size, mrow (r1 : Int) (c1 : Int) (some ⟨gA, 0, none⟩) NA capA), some (w.heap.size + 1, mrow (r2 : Int) (c2 : Int) (some ⟨gB, 0, none⟩) NB capB), some (w.heap.size + 1 + 1, mrow 0 0 none 0 0)]) (by simp))
 have x0 := HK2.out.cell 0 0 rfl rfl
 have x1 := HK2.out.cell 0 1 rfl rfl
 have x2 := HK2.out.cell 0 2 rfl rfl
 have y0 := HK2.out.cell 1 0 rfl rfl
 have y1 := HK2.out.cell 1 1 rfl rfl
 have y2 := HK2.out.cell 1 2 rfl rfl
 clear hpl hA hB hlA hNA hlB hNB hno
 go_enter Tryz.func36, Tryz.ntmps36
 go_wp2_with fail
 change Calls _ _ _ (((w.alloc (mrow (r1 : Int) (c1 : Int) (some ⟨gA, 0, none⟩) NA capA)).alloc (mrow (r2 : Int) (c2 : Int) (some ⟨gB, 0, none⟩) NB capB)).alloc (mrow 0 0 none 0 0)) _
 generalize ((w.alloc (mrow (r1 : Int) (c1 : Int) (some ⟨gA, 0, none⟩) NA capA)).alloc (mrow (r2 : Int) (c2 : Int) (some ⟨gB, 0, none⟩) NB capB)).alloc (mrow 0 0 none 0 0) = W2 at *
 with_reducible refine (HPL.out _ (HAS.out _ _ HK2.out) (HBS.out _ _ HK2.out)).mono ?_
 rintro e w1 ⟨rfl, hb1⟩
 have HKf := Lib.hid (HK2.out.step hb1)
 clear x0 x1 x2 y0 y1 y2 hb1 HK2
 have f0 := HKf.out.frozen 2 0 rfl
 have g0 := HKf.out.cell 2 0 rfl rfl
 have f1 := HKf.out.frozen 2 1 rfl
 have g1 := HKf.out.cell 2 1 rfl rfl
 have f2 := HKf.out.frozen 2 2 rfl
 have g2 := HKf.out.cell 2 2 rfl rfl
 go_wp2_with fail
 have hP := ((HKf.out.put 2 0 rfl (.int .i64 0)).put 2 1 rfl (.int .i64 0)).put 2 2 rfl (.slice none 0 0)
 exact bodyPost_ret (results_mat_tmp (b := w.heap.size + 1 + 1) rfl rfl (hP.at_ 2 rfl)) rfl ⟨rfl, Kg.below_ hP⟩
set_option maxRecDepth 100000 in
set_option maxHeartbeats 4000000 in
theorem placeSub_no (gA gB r1 c1 r2 c2 NA capA NB capB : Nat) (xs ys : List Int) (w : World) (hA : Lw w gA (enc xs)) (hB : Lw w gB (enc ys)) (hlA : xs.length = r1 * c1) (hNA : NA = r1 * c1) (hcA : NA ≤ capA) (hmA : capA ≤ maxLen) (hlB : ys.length = r2 * c2) (hNB : NB = r2 * c2) (hcB : NB ≤ capB) (hmB : capB ≤ maxLen) (hr1 : r1 ≤ 200) (hc1 : c1 ≤ 200) (hr2 : r2 ≤ 200) (hc2 : c2 ≤ 200) (hno : ¬ (r1 = r2 ∧ c1 = c2)) :
  Calls Tryz.prog 88 #[mat r1 c1 (some ⟨gA, 0, none⟩) NA capA, mat r2 c2 (some ⟨gB, 0, none⟩) NB capB, .func (.func 54) #[] #[]] w fun e w' => e = .returned (.tuple #[mat 0 0 none 0 0, .bool false]) ∧ Below w.heap.size w w' := by
 have hri := fun W hW => Right_any (r1 : Int) (c1 : Int) (some ⟨gA, 0, none⟩) NA capA (enc xs) W hW (by rw [enc_length, hlA, hNA]) (by omega)
 rw [mright_ints r1 c1 xs hlA hr1 hc1] at hri
 have hrj := fun W hW => Right_any (r2 : Int) (c2 : Int) (some ⟨gB, 0, none⟩) NB capB (enc ys) W hW (by rw [enc_length, hlB, hNB]) (by omega)
 rw [mright_ints r2 c2 ys hlB hr2 hc2] at hrj
 have hss := fun W => sameShape_any (r1 : Int) (c1 : Int) (r2 : Int) (c2 : Int) (some ⟨gA, 0, none⟩) (some ⟨gB, 0, none⟩) NA capA NB capB W
 rw [show ((r1 : Int) == (r2 : Int) && (c1 : Int) == (c2 : Int)) = false from by
  rw [Bool.eq_false_iff]
  intro h
  simp only [Bool.and_eq_true, beq_iff_eq] at h
  exact hno ⟨by omega, by omega⟩] at hss
 unfold mat at *
 have HRI := Lib.hid hri
 have HRJ := Lib.hid hrj
 have HSS := Lib.hid hss
 have hgA := heap_lt hA
 have hgB := heap_lt hB
 have HAS := Lib.hid (show ∀ W l, Kg none w W l → Lw W gA (enc xs) from fun W l h => (h.1.block gA hgA (by simp)).trans hA)
 have HBS := Lib.hid (show ∀ W l, Kg none w W l → Lw W gB (enc ys) from fun W l h => (h.1.block gB hgB (by simp)).trans hB)
 have HK2 := Lib.hid (((((Kg.none_ none w 0).more (mrow (r1 : Int) (c1 : Int) (some ⟨gA, 0, none⟩) NA capA)).more (mrow (r2 : Int) (c2 : Int) (some ⟨gB, 0, none⟩) NB capB)).more (mrow 0 0 none 0 0)).cast (l' := [some (w.heap.size, mrow (r1 : Int) (c1 : Int) (some ⟨gA, 0, none⟩) NA capA), some (w.heap.size + 1, mrow (r2 : Int) (c2 : Int) (some ⟨gB, 0, none⟩) NB capB), some (w.heap.size + 1 + 1, mrow 0 0 none 0 0)]) (by simp))
 have x0 := HK2.out.cell 0 0 rfl rfl
 have x1 := HK2.out.cell 0 1 rfl rfl
 have x2 := HK2.out.cell 0 2 rfl rfl
 clear hri hrj hss hA hB hlA hNA hlB hNB hno
 go_enter Tryz.func88, Tryz.ntmps88
 go_wp2_with fail
 change Calls _ _ _ (((w.alloc (mrow (r1 : Int) (c1 : Int) (some ⟨gA, 0, none⟩) NA capA)).alloc (mrow (r2 : Int) (c2 : Int) (some ⟨gB, 0, none⟩) NB capB)).alloc (mrow 0 0 none 0 0)) _
 generalize ((w.alloc (mrow (r1 : Int) (c1 : Int) (some ⟨gA, 0, none⟩) NA capA)).alloc (mrow (r2 : Int) (c2 : Int) (some ⟨gB, 0, none⟩) NB capB)).alloc (mrow 0 0 none 0 0) = W2 at *
 with_reducible refine (HRI.out _ (HAS.out _ _ HK2.out).rdw).mono ?_
 rintro e w1 ⟨rfl, hb1⟩
 have HK3 := Lib.hid (HK2.out.step hb1)
 clear x0 x1 x2 hb1 HK2
 have x0 := HK3.out.cell 1 0 rfl rfl
 have x1 := HK3.out.cell 1 1 rfl rfl
 have x2 := HK3.out.cell 1 2 rfl rfl
 go_wp2_with fail
 with_reducible refine (HRJ.out _ (HBS.out _ _ HK3.out).rdw).mono ?_
 rintro e w2 ⟨rfl, hb2⟩
 have HKf := Lib.hid (HK3.out.step hb2)
 clear x0 x1 x2 hb2 HK3
 have x0 := HKf.out.cell 0 0 rfl rfl
 have x1 := HKf.out.cell 0 1 rfl rfl
 have x2 := HKf.out.cell 0 2 rfl rfl
 have y0 := HKf.out.cell 1 0 rfl rfl
 have y1 := HKf.out.cell 1 1 rfl rfl
 have y2 := HKf.out.cell 1 2 rfl rfl
 go_wp2_with fail
 with_reducible refine (HSS.out _).mono ?_
 rintro e w3 ⟨rfl, hb3⟩
 have HKg := Lib.hid (HKf.out.step hb3)
 clear x0 x1 x2 y0 y1 y2 hb3 HKf
 have f0 := HKg.out.frozen 2 0 rfl
 have g0 := HKg.out.cell 2 0 rfl rfl
 have f1 := HKg.out.frozen 2 1 rfl
 have g1 := HKg.out.cell 2 1 rfl rfl
 have f2 := HKg.out.frozen 2 2 rfl
 have g2 := HKg.out.cell 2 2 rfl rfl
 go_wp2_with fail
 have hP := ((HKg.out.put 2 0 rfl (.int .i64 0)).put 2 1 rfl (.int .i64 0)).put 2 2 rfl (.slice none 0 0)
 exact bodyPost_ret (results_mat_tmp (b := w.heap.size + 1 + 1) rfl rfl (hP.at_ 2 rfl)) rfl ⟨rfl, Kg.below_ hP⟩
set_option maxRecDepth 100000 in
set_option maxHeartbeats 4000000 in
theorem MSub_no (gA gB r1 c1 r2 c2 NA capA NB capB : Nat) (xs ys : List Int) (w : World) (hA : Lw w gA (enc xs)) (hB : Lw w gB (enc ys)) (hlA : xs.length = r1 * c1) (hNA : NA = r1 * c1) (hcA : NA ≤ capA) (hmA : capA ≤ maxLen) (hlB : ys.length = r2 * c2) (hNB : NB = r2 * c2) (hcB : NB ≤ capB) (hmB : capB ≤ maxLen) (hr1 : r1 ≤ 200) (hc1 : c1 ≤ 200) (hr2 : r2 ≤ 200) (hc2 : c2 ≤ 200) (hno : ¬ (r1 = r2 ∧ c1 = c2)) :
  Calls Tryz.prog 41 #[mat r1 c1 (some ⟨gA, 0, none⟩) NA capA, mat r2 c2 (some ⟨gB, 0, none⟩) NB capB] w fun e w' => e = .returned (.tuple #[mat 0 0 none 0 0, .bool false]) ∧ Below w.heap.size w w' := by
 have hpl := fun W h1 h2 => placeSub_no gA gB r1 c1 r2 c2 NA capA NB capB xs ys W h1 h2 hlA hNA hcA hmA hlB hNB hcB hmB hr1 hc1 hr2 hc2 hno
 unfold mat at *
 have HPL := Lib.hid hpl
 have hgA := heap_lt hA
 have hgB := heap_lt hB
 have HAS := Lib.hid (show ∀ W l, Kg none w W l → Lw W gA (enc xs) from fun W l h => (h.1.block gA hgA (by simp)).trans hA)
 have HBS := Lib.hid (show ∀ W l, Kg none w W l → Lw W gB (enc ys) from fun W l h => (h.1.block gB hgB (by simp)).trans hB)
 have HK2 := Lib.hid (((((Kg.none_ none w 0).more (mrow (r1 : Int) (c1 : Int) (some ⟨gA, 0, none⟩) NA capA)).more (mrow (r2 : Int) (c2 : Int) (some ⟨gB, 0, none⟩) NB capB)).more (mrow 0 0 none 0 0)).cast (l' := [some (w.heap.size, mrow (r1 : Int) (c1 : Int) (some ⟨gA, 0, none⟩) NA capA), some (w.heap.size + 1, mrow (r2 : Int) (c2 : Int) (some ⟨gB, 0, none⟩) NB capB), some (w.heap.size + 1 + 1, mrow 0 0 none 0 0)]) (by simp))
 have x0 := HK2.out.cell 0 0 rfl rfl
 have x1 := HK2.out.cell 0 1 rfl rfl
 have x2 := HK2.out.cell 0 2 rfl rfl
 have y0 := HK2.out.cell 1 0 rfl rfl
 have y1 := HK2.out.cell 1 1 rfl rfl
 have y2 := HK2.out.cell 1 2 rfl rfl
 clear hpl hA hB hlA hNA hlB hNB hno
 go_enter Tryz.func41, Tryz.ntmps41
 go_wp2_with fail
 change Calls _ _ _ (((w.alloc (mrow (r1 : Int) (c1 : Int) (some ⟨gA, 0, none⟩) NA capA)).alloc (mrow (r2 : Int) (c2 : Int) (some ⟨gB, 0, none⟩) NB capB)).alloc (mrow 0 0 none 0 0)) _
 generalize ((w.alloc (mrow (r1 : Int) (c1 : Int) (some ⟨gA, 0, none⟩) NA capA)).alloc (mrow (r2 : Int) (c2 : Int) (some ⟨gB, 0, none⟩) NB capB)).alloc (mrow 0 0 none 0 0) = W2 at *
 with_reducible refine (HPL.out _ (HAS.out _ _ HK2.out) (HBS.out _ _ HK2.out)).mono ?_
 rintro e w1 ⟨rfl, hb1⟩
 have HKf := Lib.hid (HK2.out.step hb1)
 clear x0 x1 x2 y0 y1 y2 hb1 HK2
 have f0 := HKf.out.frozen 2 0 rfl
 have g0 := HKf.out.cell 2 0 rfl rfl
 have f1 := HKf.out.frozen 2 1 rfl
 have g1 := HKf.out.cell 2 1 rfl rfl
 have f2 := HKf.out.frozen 2 2 rfl
 have g2 := HKf.out.cell 2 2 rfl rfl
 go_wp2_with fail
 have hP := ((HKf.out.put 2 0 rfl (.int .i64 0)).put 2 1 rfl (.int .i64 0)).put 2 2 rfl (.slice none 0 0)
 exact bodyPost_ret (results_mat_tmp (b := w.heap.size + 1 + 1) rfl rfl (hP.at_ 2 rfl)) rfl ⟨rfl, Kg.below_ hP⟩
set_option maxRecDepth 100000 in
set_option maxHeartbeats 4000000 in
theorem Mul_no (gA gB r1 c1 r2 c2 NA capA NB capB : Nat) (xs ys : List Int) (w : World) (hA : Lw w gA (enc xs)) (hB : Lw w gB (enc ys)) (hlA : xs.length = r1 * c1) (hNA : NA = r1 * c1) (hcA : NA ≤ capA) (hmA : capA ≤ maxLen) (hlB : ys.length = r2 * c2) (hNB : NB = r2 * c2) (hcB : NB ≤ capB) (hmB : capB ≤ maxLen) (hr1 : r1 ≤ 200) (hc1 : c1 ≤ 200) (hr2 : r2 ≤ 200) (hc2 : c2 ≤ 200) (hno : ¬ c1 = r2) :
  Calls Tryz.prog 43 #[mat r1 c1 (some ⟨gA, 0, none⟩) NA capA, mat r2 c2 (some ⟨gB, 0, none⟩) NB capB] w fun e w' => e = .returned (.tuple #[mat 0 0 none 0 0, .bool false]) ∧ Below w.heap.size w w' := by
 have hri := fun W hW => Right_any (r1 : Int) (c1 : Int) (some ⟨gA, 0, none⟩) NA capA (enc xs) W hW (by rw [enc_length, hlA, hNA]) (by omega)
 rw [mright_ints r1 c1 xs hlA hr1 hc1] at hri
 have hrj := fun W hW => Right_any (r2 : Int) (c2 : Int) (some ⟨gB, 0, none⟩) NB capB (enc ys) W hW (by rw [enc_length, hlB, hNB]) (by omega)
 rw [mright_ints r2 c2 ys hlB hr2 hc2] at hrj
 have n0 : ((c1 : Int) == (r2 : Int)) = false := by rw [beq_eq_false_iff_ne]; omega
 have m0 : ((c1 : Int) != (r2 : Int)) = true := by rw [bne_iff_ne]; omega
 have k0 : ¬ c1 = r2 := by omega
 unfold mat at *
 have HRI := Lib.hid hri
 have HRJ := Lib.hid hrj
 have hgA := heap_lt hA
 have hgB := heap_lt hB
 have HAS := Lib.hid (show ∀ W l, Kg none w W l → Lw W gA (enc xs) from fun W l h => (h.1.block gA hgA (by simp)).trans hA)
 have HBS := Lib.hid (show ∀ W l, Kg none w W l → Lw W gB (enc ys) from fun W l h => (h.1.block gB hgB (by simp)).trans hB)
 have HK2 := Lib.hid (((((Kg.none_ none w 0).more (mrow (r1 : Int) (c1 : Int) (some ⟨gA, 0, none⟩) NA capA)).more (mrow (r2 : Int) (c2 : Int) (some ⟨gB, 0, none⟩) NB capB)).more (mrow 0 0 none 0 0)).cast (l' := [some (w.heap.size, mrow (r1 : Int) (c1 : Int) (some ⟨gA, 0, none⟩) NA capA), some (w.heap.size + 1, mrow (r2 : Int) (c2 : Int) (some ⟨gB, 0, none⟩) NB capB), some (w.heap.size + 1 + 1, mrow 0 0 none 0 0)]) (by simp))
 have x0 := HK2.out.cell 0 0 rfl rfl
 have x1 := HK2.out.cell 0 1 rfl rfl
 have x2 := HK2.out.cell 0 2 rfl rfl
 clear hri hrj hA hB hlA hNA hlB hNB
 go_enter Tryz.func43, Tryz.ntmps43
 go_wp2_with fail
 change Calls _ _ _ (((w.alloc (mrow (r1 : Int) (c1 : Int) (some ⟨gA, 0, none⟩) NA capA)).alloc (mrow (r2 : Int) (c2 : Int) (some ⟨gB, 0, none⟩) NB capB)).alloc (mrow 0 0 none 0 0)) _
 generalize ((w.alloc (mrow (r1 : Int) (c1 : Int) (some ⟨gA, 0, none⟩) NA capA)).alloc (mrow (r2 : Int) (c2 : Int) (some ⟨gB, 0, none⟩) NB capB)).alloc (mrow 0 0 none 0 0) = W2 at *
 with_reducible refine (HRI.out _ (HAS.out _ _ HK2.out).rdw).mono ?_
 rintro e w1 ⟨rfl, hb1⟩
 have HK3 := Lib.hid (HK2.out.step hb1)
 clear x0 x1 x2 hb1 HK2
 have x0 := HK3.out.cell 1 0 rfl rfl
 have x1 := HK3.out.cell 1 1 rfl rfl
 have x2 := HK3.out.cell 1 2 rfl rfl
 go_wp2_with fail
 with_reducible refine (HRJ.out _ (HBS.out _ _ HK3.out).rdw).mono ?_
 rintro e w2 ⟨rfl, hb2⟩
 have HKf := Lib.hid (HK3.out.step hb2)
 clear x0 x1 x2 hb2 HK3
 have x1 := HKf.out.cell 0 1 rfl rfl
 have x2 := HKf.out.cell 1 0 rfl rfl
 have f0 := HKf.out.frozen 2 0 rfl
 have g0 := HKf.out.cell 2 0 rfl rfl
 have f1 := HKf.out.frozen 2 1 rfl
 have g1 := HKf.out.cell 2 1 rfl rfl
 have f2 := HKf.out.frozen 2 2 rfl
 have g2 := HKf.out.cell 2 2 rfl rfl
 go_wp2_with fail
 have hP := ((HKf.out.put 2 0 rfl (.int .i64 0)).put 2 1 rfl (.int .i64 0)).put 2 2 rfl (.slice none 0 0)
 exact bodyPost_ret (results_mat_tmp (b := w.heap.size + 1 + 1) rfl rfl (hP.at_ 2 rfl)) rfl ⟨rfl, Kg.below_ hP⟩
set_option maxRecDepth 100000 in
set_option maxHeartbeats 4000000 in
theorem rMul_no (gA gB r1 c1 r2 c2 NA capA NB capB : Nat) (xs ys : List Int) (w : World) (hA : Lw w gA (enc xs)) (hB : Lw w gB (enc ys)) (hlA : xs.length = r1 * c1) (hNA : NA = r1 * c1) (hcA : NA ≤ capA) (hmA : capA ≤ maxLen) (hlB : ys.length = r2 * c2) (hNB : NB = r2 * c2) (hcB : NB ≤ capB) (hmB : capB ≤ maxLen) (hr1 : r1 ≤ 200) (hc1 : c1 ≤ 200) (hr2 : r2 ≤ 200) (hc2 : c2 ≤ 200) (hno : ¬ c1 = r2) :
  Calls Tryz.prog 44 #[mat r1 c1 (some ⟨gA, 0, none⟩) NA capA, mat r2 c2 (some ⟨gB, 0, none⟩) NB capB] w fun e w' => e = .returned (.tuple #[mat 0 0 none 0 0, .bool false]) ∧ Below w.heap.size w w' := by
 have hri := fun W hW => rRight_any (r1 : Int) (c1 : Int) (some ⟨gA, 0, none⟩) NA capA (enc xs) W hW (by rw [enc_length, hlA, hNA]) (by omega)
 rw [mright_ints r1 c1 xs hlA hr1 hc1] at hri
 have hrj := fun W hW => rRight_any (r2 : Int) (c2 : Int) (some ⟨gB, 0, none⟩) NB capB (enc ys) W hW (by rw [enc_length, hlB, hNB]) (by omega)
 rw [mright_ints r2 c2 ys hlB hr2 hc2] at hrj
 have n0 : ((c1 : Int) == (r2 : Int)) = false := by rw [beq_eq_false_iff_ne]; omega
 have m0 : ((c1 : Int) != (r2 : Int)) = true := by rw [bne_iff_ne]; omega
 have k0 : ¬ c1 = r2 := by omega
 unfold mat at *
 have HRI := Lib.hid hri
 have HRJ := Lib.hid hrj
 have hgA := heap_lt hA
 have hgB := heap_lt hB
 have HAS := Lib.hid (show ∀ W l, Kg none w W l → Lw W gA (enc xs) from fun W l h => (h.1.block gA hgA (by simp)).trans hA)
 have HBS := Lib.hid (show ∀ W l, Kg none w W l → Lw W gB (enc ys) from fun W l h => (h.1.block gB hgB (by simp)).trans hB)
 have HK2 := Lib.hid (((((Kg.none_ none w 0).more (mrow (r1 : Int) (c1 : Int) (some ⟨gA, 0, none⟩) NA capA)).more (mrow (r2 : Int) (c2 : Int) (some ⟨gB, 0, none⟩) NB capB)).more (mrow 0 0 none 0 0)).cast (l' := [some (w.heap.size, mrow (r1 : Int) (c1 : Int) (some ⟨gA, 0, none⟩) NA capA), some (w.heap.size + 1, mrow (r2 : Int) (c2 : Int) (some ⟨gB, 0, none⟩) NB capB), some (w.heap.size + 1 + 1, mrow 0 0 none 0 0)]) (by simp))
 have x0 := HK2.out.cell 0 0 rfl rfl
 have x1 := HK2.out.cell 0 1 rfl rfl
 have x2 := HK2.out.cell 0 2 rfl rfl
 clear hri hrj hA hB hlA hNA hlB hNB
 go_enter Tryz.func44, Tryz.ntmps44
 go_wp2_with fail
 change Calls _ _ _ (((w.alloc (mrow (r1 : Int) (c1 : Int) (some ⟨gA, 0, none⟩) NA capA)).alloc (mrow (r2 : Int) (c2 : Int) (some ⟨gB, 0, none⟩) NB capB)).alloc (mrow 0 0 none 0 0)) _
 generalize ((w.alloc (mrow (r1 : Int) (c1 : Int) (some ⟨gA, 0, none⟩) NA capA)).alloc (mrow (r2 : Int) (c2 : Int) (some ⟨gB, 0, none⟩) NB capB)).alloc (mrow 0 0 none 0 0) = W2 at *
 with_reducible refine (HRI.out _ (HAS.out _ _ HK2.out).rdw).mono ?_
 rintro e w1 ⟨rfl, hb1⟩
 have HK3 := Lib.hid (HK2.out.step hb1)
 clear x0 x1 x2 hb1 HK2
 have x0 := HK3.out.cell 1 0 rfl rfl
 have x1 := HK3.out.cell 1 1 rfl rfl
 have x2 := HK3.out.cell 1 2 rfl rfl
 go_wp2_with fail
 with_reducible refine (HRJ.out _ (HBS.out _ _ HK3.out).rdw).mono ?_
 rintro e w2 ⟨rfl, hb2⟩
 have HKf := Lib.hid (HK3.out.step hb2)
 clear x0 x1 x2 hb2 HK3
 have x1 := HKf.out.cell 0 1 rfl rfl
 have x2 := HKf.out.cell 1 0 rfl rfl
 have f0 := HKf.out.frozen 2 0 rfl
 have g0 := HKf.out.cell 2 0 rfl rfl
 have f1 := HKf.out.frozen 2 1 rfl
 have g1 := HKf.out.cell 2 1 rfl rfl
 have f2 := HKf.out.frozen 2 2 rfl
 have g2 := HKf.out.cell 2 2 rfl rfl
 go_wp2_with fail
 have hP := ((HKf.out.put 2 0 rfl (.int .i64 0)).put 2 1 rfl (.int .i64 0)).put 2 2 rfl (.slice none 0 0)
 exact bodyPost_ret (results_mat_tmp (b := w.heap.size + 1 + 1) rfl rfl (hP.at_ 2 rfl)) rfl ⟨rfl, Kg.below_ hP⟩
end Go.Proofs.YtknaghdoffigjaaGreatDoor
