import Derived.Test.YtknaghdoffigjaaGreatDoorMJoin
import Derived.Test.YtknaghdoffigjaaGreatDoorZRDig
set_option linter.unusedSimpArgs false
set_option linter.unusedVariables false
set_option linter.unnecessarySimpa false
namespace Go.Proofs.YtknaghdoffigjaaGreatDoor
open Go.RowKit Go
attribute [local go_sem] Oper.semAt_some
def cmb (op : Int → Int → Int) (xs ys : List Int) (n : Nat) : List Int := (List.range n).map fun i => op (xs.getD i 0) (ys.getD i 0)
theorem cmb_length (op : Int → Int → Int) (xs ys : List Int) (n : Nat) : (cmb op xs ys n).length = n := by simp [cmb]
theorem cell_pair {w : World} {B : Option Addr} {zs : List Int} (h : RdW w B (enc zs)) (k : Nat) (hk : k < zs.length) :
  ∃ b, B = some b ∧ b.block < w.heap.size ∧ w.cell? (b.add (k * 2)) = some (.bool (wneg (zs.getD k 0))) ∧ w.cell? ⟨(b.add (k * 2)).block, (b.add (k * 2)).off + 1, none⟩ = some (.string (wmag (zs.getD k 0))) := by
 have hk2 : k < (enc zs).length := by rw [enc_length]; exact hk
 obtain ⟨b, e, hb, h1, h2⟩ := h k hk2
 rw [enc_get] at h1 h2
 exact ⟨b, e, hb, h1, h2⟩
set_option maxRecDepth 100000 in
set_option maxHeartbeats 4000000 in
theorem combine_add (A B : Option Addr) (n ca cb : Nat) (xs ys : List Int) (w : World) (hA : RdW w A (enc xs)) (hB : RdW w B (enc ys)) (hx : xs.length = n) (hy : ys.length = n) (hn : n ≤ 40000) (hsx : ∀ k, (wmag (xs.getD k 0)).size ≤ 1000) (hsy : ∀ k, (wmag (ys.getD k 0)).size ≤ 1000) :
  Calls Tryz.prog 127 #[.slice A n ca, .slice B n cb, .func (.func 52) #[] #[]] w fun e w' =>
   ∃ g, e = .returned (.slice (some ⟨g, 0, none⟩) n n) ∧ w.heap.size ≤ g ∧ Lw w' g (enc (cmb (fun x y => x + y) xs ys n)) ∧ Below w.heap.size w w' := by
 obtain ⟨f, hf⟩ : ∃ f : Nat → Bool × ByteArray, f = fun j => (wneg (xs.getD j 0 + ys.getD j 0), wmag (xs.getD j 0 + ys.getD j 0)) := ⟨_, rfl⟩
 have hfin : cvL f n n = enc (cmb (fun x y => x + y) xs ys n) := by rw [cvL_full, hf]; exact enc_range (fun j => xs.getD j 0 + ys.getD j 0) n
 rw [← hfin]
 have hmk := make_wides n hn
 have hce : ∀ W l, Kg none w W l → ∀ p : Addr, p.block < w.heap.size → W.cell? p = w.cell? p := fun W l h p hp => World.cell?_of_block (w := w) (h.1.block p.block hp (by simp))
 have HA := Lib.hid hA
 have HB := Lib.hid hB
 have HX := Lib.hid hx
 have HY := Lib.hid hy
 have HSX := Lib.hid hsx
 have HSY := Lib.hid hsy
 have HCE := Lib.hid hce
 have HF := Lib.hid hf
 clear hA hB hx hy hsx hsy hce hf hfin
 have HK1 := Lib.hid (show Kg none w (w.alloc (.cells (flat (List.replicate n (false, ⟨#[]⟩))).toArray 32 (0, 0))) [some (w.heap.size, lwO (cvL f n 0))] from by
  have h := (Kg.none_ none w 0).more (lwO (cvL f n 0))
  rw [cvL_zero] at h ⊢
  exact h)
 go_enter Tryz.func127, Tryz.ntmps127
 go_wp2_with fail
 clear hmk
 go_loopw [8, 9, 15] (fun _ _ i wr => ∃ k : Nat, i = .int .i64 k ∧ k ≤ n ∧ Kg none w wr [some (w.heap.size, lwO (cvL f n k))]) (fun _ _ i _ => n - (intOf i).toNat)
 case atStart => exact ⟨0, rfl, Nat.zero_le _, HK1.out⟩
 case round =>
  obtain ⟨k, rfl, hk, hK⟩ := hrel
  have HK2 := Lib.hid hK
  clear hK HK1
  by_cases hlt : k < n
  ·obtain ⟨a, rfl, hab, a0, a1⟩ := cell_pair HA.out k (by rw [HX.out]; exact hlt)
   obtain ⟨b, rfl, hbb, b0, b1⟩ := cell_pair HB.out k (by rw [HY.out]; exact hlt)
   have hfk : f k = (wneg (xs.getD k 0 + ys.getD k 0), wmag (xs.getD k 0 + ys.getD k 0)) := by rw [HF.out]
   have hop := fun W => Add_any (wneg (xs.getD k 0)) (wneg (ys.getD k 0)) (wmag (xs.getD k 0)) (wmag (ys.getD k 0)) W (Nat.le_trans (HSX.out k) (by omega)) (Nat.le_trans (HSY.out k) (by omega))
   rw [wint_wv', wint_wv', wv_def] at hop
   generalize xs.getD k 0 = x at *
   generalize ys.getD k 0 = y at *
   generalize x + y = z at *
   have hnx := cvL_next f n k
   rw [hfk] at hnx
   have HNX := Lib.hid hnx
   have HOP := Lib.hid hop
   have HA0 := Lib.hid a0
   have HA1 := Lib.hid a1
   have HB0 := Lib.hid b0
   have HB1 := Lib.hid b1
   have hcl := HCE.out _ _ HK2.out
   have a0' := (hcl (a.add (k * 2)) (by rw [block_add]; exact hab)).trans HA0.out
   have a1' := (hcl ⟨(a.add (k * 2)).block, (a.add (k * 2)).off + 1, none⟩ (by simp only []; rw [block_add]; exact hab)).trans HA1.out
   clear hnx hop hfk a0 a1 b0 b1 hcl
   have HK3 := Lib.hid (show Kg none w (wr.alloc (wbox (wneg x) (wmag x))) [some (w.heap.size, lwO (cvL f n k)), some (wr.heap.size, wbox (wneg x) (wmag x))] from HK2.out.more (wbox (wneg x) (wmag x)))
   go_wp2_with fail
   clear a0' a1' HK2
   change Code.wp _ _ _ _ (wr.alloc (wbox (wneg x) (wmag x)))
   generalize wr.alloc (wbox (wneg x) (wmag x)) = W3 at *
   generalize wr.heap.size = bx at *
   refine wp_region_acts (X := Unit) (fun _ => [(0, 20, .slice (some ⟨w.heap.size, 0, none⟩) n n), (1, 21, .int .i64 (k : Int)), (2, 22, .func (.func 52) #[] #[]), (3, 23, .agg #[.bool (wneg x), .string (wmag x)]), (4, 24, .slice (some b) n cb), (5, 25, .int .i64 (k : Int)), (6, 26, .pointer (some (b.add (k * 2)))), (7, 27, .agg #[.bool (wneg y), .string (wmag y)]), (8, 28, .agg #[.bool (wneg z), .string (wmag z)]), (9, 29, .pointer (some ⟨w.heap.size, k * 2, none⟩))])
    (fun _ L W => Kg none w W [some (w.heap.size, if L 10 = true then lwO (cvL f n (k + 1)) else lwO (cvL f n k)), some (bx, wbox (wneg x) (wmag x))]) (by kernel_rfl) (by kernel_rfl) () ?st (by kernel_rfl) ?_ ?_
   case st => simpa using HK3.out.drew
   ·simp only [selA, selT_cons, selT_nil, List.set_cons_zero, List.set_cons_succ, List.getD_cons_zero, List.getD_cons_succ]
    repeat' (first | exact ActSteps.nil | refine ActSteps.cons ?_ ?_)
    all_goals
     intro L x' wx hJ hl hd hs K hK
     (try simp [Region.binds] at hd)
     have e0 := hJ.cell 1 0 rfl rfl
     have e1 := hJ.cell 1 1 rfl rfl
     have b0 := (HCE.out _ _ hJ (b.add (k * 2)) (by rw [block_add]; exact hbb)).trans HB0.out
     have b1 := (HCE.out _ _ hJ ⟨(b.add (k * 2)).block, (b.add (k * 2)).off + 1, none⟩ (by simp only []; rw [block_add]; exact hbb)).trans HB1.out
     try simp only [hd, hl, selV_true, selV_false]
    ·go_simp
     refine hK.out x' _ _ ?_ ?_
     ·simp [hl, hd, selV_true, selV_false]
     ·exact hJ
    ·go_simp
     refine hK.out x' _ _ ?_ ?_
     ·simp [hl, hd, selV_true, selV_false]
     ·exact hJ
    ·go_simp
     refine hK.out x' _ _ ?_ ?_
     ·simp [hl, hd, selV_true, selV_false]
     ·exact hJ
    ·go_simp
     refine hK.out x' _ _ ?_ ?_
     ·simp [hl, hd, selV_true, selV_false]
     ·exact hJ
    ·go_simp
     refine hK.out x' _ _ ?_ ?_
     ·simp [hl, hd, selV_true, selV_false]
     ·exact hJ
    ·go_simp
     refine hK.out x' _ _ ?_ ?_
     ·simp [hl, hd, selV_true, selV_false]
     ·exact hJ
    ·go_simp
     refine hK.out x' _ _ ?_ ?_
     ·simp [hl, hd, selV_true, selV_false]
     ·exact hJ
    ·go_simp
     refine hK.out x' _ _ ?_ ?_
     ·simp [hl, hd, selV_true, selV_false]
     ·exact hJ
    ·go_simp
     with_reducible refine (HOP.out _).mono ?_
     rintro e v ⟨rfl, hb⟩
     refine hK.out x' _ _ ?_ ?_
     ·simp [hl, hd, selV_true, selV_false]
     ·exact hJ.step hb
    ·go_simp
     refine hK.out x' _ _ ?_ ?_
     ·simp [hl, hd, selV_true, selV_false]
     ·exact hJ
    ·have hB := hJ
     simp only [hl, Bool.false_eq_true, if_false] at hB
     have hLg : Lw wx w.heap.size (cvL f n k) := hB.at_ 0 rfl
     have hql : k < (cvL f n k).length := by rw [cvL_length]; exact hlt
     have d0 := hLg.cell0 k hql
     have d1 := hLg.cell1 k hql
     have f0 := hB.frozen 0 (k * 2) rfl
     have f1 := hB.frozen 0 (k * 2 + 1) rfl
     generalize ((cvL f n k)[k]'hql).1 = u0 at d0
     generalize ((cvL f n k)[k]'hql).2 = u1 at d1
     have hP := hLg.put k (wneg z) (wmag z)
     rw [HNX.out] at hP
     have HP := Lib.hid hP
     have HB := Lib.hid hB
     clear hP hLg hB
     go_simp
     refine hK.out x' _ _ ?_ ?_
     ·simp [hl, hd, selV_true, selV_false]
     ·have hGr := grownBy_setRow (g := w.heap.size) (p := ⟨w.heap.size, k * 2 + 1, none⟩) (grownBy_setRow (g := w.heap.size) (p := ⟨w.heap.size, k * 2, none⟩) (World.grownBy.refl wx _) rfl (.bool (wneg z))) rfl (.string (wmag z))
      exact (HB.out.change 0 rfl hGr (o' := lwO (cvL f n (k + 1))) HP.out).cast (by simp)
   ·rintro _ Wx hKx
    simp only [selA, selT_cons, selT_nil, List.set_cons_zero, List.set_cons_succ, List.getD_cons_zero, List.getD_cons_succ, selV_true]
    simp only [if_true] at hKx
    have HKX := Lib.hid (show Kg none w Wx [some (w.heap.size, lwO (cvL f n (k + 1)))] from hKx.take 1)
    clear hKx
    go_wp2
    go_roundw
    case rel => exact ⟨k + 1, rfl, by omega, HKX.out⟩
    case measure => simp [intOf]; omega
  ·obtain rfl : k = n := by omega
   go_wp2
   go_ret
   exact ⟨w.heap.size, rfl, Nat.le_refl _, HK2.out.at_ 0 rfl, ⟨HK2.out.1.os, HK2.out.1.tape, HK2.out.1.output, HK2.out.1.size, fun i hi => HK2.out.1.block i hi (by simp)⟩⟩
set_option maxRecDepth 100000 in
set_option maxHeartbeats 4000000 in
theorem combine_sub (A B : Option Addr) (n ca cb : Nat) (xs ys : List Int) (w : World) (hA : RdW w A (enc xs)) (hB : RdW w B (enc ys)) (hx : xs.length = n) (hy : ys.length = n) (hn : n ≤ 40000) (hsx : ∀ k, (wmag (xs.getD k 0)).size ≤ 1000) (hsy : ∀ k, (wmag (ys.getD k 0)).size ≤ 1000) :
  Calls Tryz.prog 127 #[.slice A n ca, .slice B n cb, .func (.func 54) #[] #[]] w fun e w' =>
   ∃ g, e = .returned (.slice (some ⟨g, 0, none⟩) n n) ∧ w.heap.size ≤ g ∧ Lw w' g (enc (cmb (fun x y => x - y) xs ys n)) ∧ Below w.heap.size w w' := by
 obtain ⟨f, hf⟩ : ∃ f : Nat → Bool × ByteArray, f = fun j => (wneg (xs.getD j 0 - ys.getD j 0), wmag (xs.getD j 0 - ys.getD j 0)) := ⟨_, rfl⟩
 have hfin : cvL f n n = enc (cmb (fun x y => x - y) xs ys n) := by rw [cvL_full, hf]; exact enc_range (fun j => xs.getD j 0 - ys.getD j 0) n
 rw [← hfin]
 have hmk := make_wides n hn
 have hce : ∀ W l, Kg none w W l → ∀ p : Addr, p.block < w.heap.size → W.cell? p = w.cell? p := fun W l h p hp => World.cell?_of_block (w := w) (h.1.block p.block hp (by simp))
 have HA := Lib.hid hA
 have HB := Lib.hid hB
 have HX := Lib.hid hx
 have HY := Lib.hid hy
 have HSX := Lib.hid hsx
 have HSY := Lib.hid hsy
 have HCE := Lib.hid hce
 have HF := Lib.hid hf
 clear hA hB hx hy hsx hsy hce hf hfin
 have HK1 := Lib.hid (show Kg none w (w.alloc (.cells (flat (List.replicate n (false, ⟨#[]⟩))).toArray 32 (0, 0))) [some (w.heap.size, lwO (cvL f n 0))] from by
  have h := (Kg.none_ none w 0).more (lwO (cvL f n 0))
  rw [cvL_zero] at h ⊢
  exact h)
 go_enter Tryz.func127, Tryz.ntmps127
 go_wp2_with fail
 clear hmk
 go_loopw [8, 9, 15] (fun _ _ i wr => ∃ k : Nat, i = .int .i64 k ∧ k ≤ n ∧ Kg none w wr [some (w.heap.size, lwO (cvL f n k))]) (fun _ _ i _ => n - (intOf i).toNat)
 case atStart => exact ⟨0, rfl, Nat.zero_le _, HK1.out⟩
 case round =>
  obtain ⟨k, rfl, hk, hK⟩ := hrel
  have HK2 := Lib.hid hK
  clear hK HK1
  by_cases hlt : k < n
  ·obtain ⟨a, rfl, hab, a0, a1⟩ := cell_pair HA.out k (by rw [HX.out]; exact hlt)
   obtain ⟨b, rfl, hbb, b0, b1⟩ := cell_pair HB.out k (by rw [HY.out]; exact hlt)
   have hfk : f k = (wneg (xs.getD k 0 - ys.getD k 0), wmag (xs.getD k 0 - ys.getD k 0)) := by rw [HF.out]
   have hop := fun W => Sub_any (wneg (xs.getD k 0)) (wneg (ys.getD k 0)) (wmag (xs.getD k 0)) (wmag (ys.getD k 0)) W (Nat.le_trans (HSX.out k) (by omega)) (Nat.le_trans (HSY.out k) (by omega))
   rw [wint_wv', wint_wv', wv_def] at hop
   generalize xs.getD k 0 = x at *
   generalize ys.getD k 0 = y at *
   generalize x - y = z at *
   have hnx := cvL_next f n k
   rw [hfk] at hnx
   have HNX := Lib.hid hnx
   have HOP := Lib.hid hop
   have HA0 := Lib.hid a0
   have HA1 := Lib.hid a1
   have HB0 := Lib.hid b0
   have HB1 := Lib.hid b1
   have hcl := HCE.out _ _ HK2.out
   have a0' := (hcl (a.add (k * 2)) (by rw [block_add]; exact hab)).trans HA0.out
   have a1' := (hcl ⟨(a.add (k * 2)).block, (a.add (k * 2)).off + 1, none⟩ (by simp only []; rw [block_add]; exact hab)).trans HA1.out
   clear hnx hop hfk a0 a1 b0 b1 hcl
   have HK3 := Lib.hid (show Kg none w (wr.alloc (wbox (wneg x) (wmag x))) [some (w.heap.size, lwO (cvL f n k)), some (wr.heap.size, wbox (wneg x) (wmag x))] from HK2.out.more (wbox (wneg x) (wmag x)))
   go_wp2_with fail
   clear a0' a1' HK2
   change Code.wp _ _ _ _ (wr.alloc (wbox (wneg x) (wmag x)))
   generalize wr.alloc (wbox (wneg x) (wmag x)) = W3 at *
   generalize wr.heap.size = bx at *
   refine wp_region_acts (X := Unit) (fun _ => [(0, 20, .slice (some ⟨w.heap.size, 0, none⟩) n n), (1, 21, .int .i64 (k : Int)), (2, 22, .func (.func 54) #[] #[]), (3, 23, .agg #[.bool (wneg x), .string (wmag x)]), (4, 24, .slice (some b) n cb), (5, 25, .int .i64 (k : Int)), (6, 26, .pointer (some (b.add (k * 2)))), (7, 27, .agg #[.bool (wneg y), .string (wmag y)]), (8, 28, .agg #[.bool (wneg z), .string (wmag z)]), (9, 29, .pointer (some ⟨w.heap.size, k * 2, none⟩))])
    (fun _ L W => Kg none w W [some (w.heap.size, if L 10 = true then lwO (cvL f n (k + 1)) else lwO (cvL f n k)), some (bx, wbox (wneg x) (wmag x))]) (by kernel_rfl) (by kernel_rfl) () ?st (by kernel_rfl) ?_ ?_
   case st => simpa using HK3.out.drew
   ·simp only [selA, selT_cons, selT_nil, List.set_cons_zero, List.set_cons_succ, List.getD_cons_zero, List.getD_cons_succ]
    repeat' (first | exact ActSteps.nil | refine ActSteps.cons ?_ ?_)
    all_goals
     intro L x' wx hJ hl hd hs K hK
     (try simp [Region.binds] at hd)
     have e0 := hJ.cell 1 0 rfl rfl
     have e1 := hJ.cell 1 1 rfl rfl
     have b0 := (HCE.out _ _ hJ (b.add (k * 2)) (by rw [block_add]; exact hbb)).trans HB0.out
     have b1 := (HCE.out _ _ hJ ⟨(b.add (k * 2)).block, (b.add (k * 2)).off + 1, none⟩ (by simp only []; rw [block_add]; exact hbb)).trans HB1.out
     try simp only [hd, hl, selV_true, selV_false]
    ·go_simp
     refine hK.out x' _ _ ?_ ?_
     ·simp [hl, hd, selV_true, selV_false]
     ·exact hJ
    ·go_simp
     refine hK.out x' _ _ ?_ ?_
     ·simp [hl, hd, selV_true, selV_false]
     ·exact hJ
    ·go_simp
     refine hK.out x' _ _ ?_ ?_
     ·simp [hl, hd, selV_true, selV_false]
     ·exact hJ
    ·go_simp
     refine hK.out x' _ _ ?_ ?_
     ·simp [hl, hd, selV_true, selV_false]
     ·exact hJ
    ·go_simp
     refine hK.out x' _ _ ?_ ?_
     ·simp [hl, hd, selV_true, selV_false]
     ·exact hJ
    ·go_simp
     refine hK.out x' _ _ ?_ ?_
     ·simp [hl, hd, selV_true, selV_false]
     ·exact hJ
    ·go_simp
     refine hK.out x' _ _ ?_ ?_
     ·simp [hl, hd, selV_true, selV_false]
     ·exact hJ
    ·go_simp
     refine hK.out x' _ _ ?_ ?_
     ·simp [hl, hd, selV_true, selV_false]
     ·exact hJ
    ·go_simp
     with_reducible refine (HOP.out _).mono ?_
     rintro e v ⟨rfl, hb⟩
     refine hK.out x' _ _ ?_ ?_
     ·simp [hl, hd, selV_true, selV_false]
     ·exact hJ.step hb
    ·go_simp
     refine hK.out x' _ _ ?_ ?_
     ·simp [hl, hd, selV_true, selV_false]
     ·exact hJ
    ·have hB := hJ
     simp only [hl, Bool.false_eq_true, if_false] at hB
     have hLg : Lw wx w.heap.size (cvL f n k) := hB.at_ 0 rfl
     have hql : k < (cvL f n k).length := by rw [cvL_length]; exact hlt
     have d0 := hLg.cell0 k hql
     have d1 := hLg.cell1 k hql
     have f0 := hB.frozen 0 (k * 2) rfl
     have f1 := hB.frozen 0 (k * 2 + 1) rfl
     generalize ((cvL f n k)[k]'hql).1 = u0 at d0
     generalize ((cvL f n k)[k]'hql).2 = u1 at d1
     have hP := hLg.put k (wneg z) (wmag z)
     rw [HNX.out] at hP
     have HP := Lib.hid hP
     have HB := Lib.hid hB
     clear hP hLg hB
     go_simp
     refine hK.out x' _ _ ?_ ?_
     ·simp [hl, hd, selV_true, selV_false]
     ·have hGr := grownBy_setRow (g := w.heap.size) (p := ⟨w.heap.size, k * 2 + 1, none⟩) (grownBy_setRow (g := w.heap.size) (p := ⟨w.heap.size, k * 2, none⟩) (World.grownBy.refl wx _) rfl (.bool (wneg z))) rfl (.string (wmag z))
      exact (HB.out.change 0 rfl hGr (o' := lwO (cvL f n (k + 1))) HP.out).cast (by simp)
   ·rintro _ Wx hKx
    simp only [selA, selT_cons, selT_nil, List.set_cons_zero, List.set_cons_succ, List.getD_cons_zero, List.getD_cons_succ, selV_true]
    simp only [if_true] at hKx
    have HKX := Lib.hid (show Kg none w Wx [some (w.heap.size, lwO (cvL f n (k + 1)))] from hKx.take 1)
    clear hKx
    go_wp2
    go_roundw
    case rel => exact ⟨k + 1, rfl, by omega, HKX.out⟩
    case measure => simp [intOf]; omega
  ·obtain rfl : k = n := by omega
   go_wp2
   go_ret
   exact ⟨w.heap.size, rfl, Nat.le_refl _, HK2.out.at_ 0 rfl, ⟨HK2.out.1.os, HK2.out.1.tape, HK2.out.1.output, HK2.out.1.size, fun i hi => HK2.out.1.block i hi (by simp)⟩⟩
set_option maxRecDepth 100000 in
set_option maxHeartbeats 4000000 in
theorem place_add (gA gB r c NN capA capB : Nat) (xs ys : List Int) (w : World) (hA : Lw w gA (enc xs)) (hB : Lw w gB (enc ys)) (hlA : xs.length = NN) (hlB : ys.length = NN) (hNN : r * c = NN) (hcA : NN ≤ capA) (hmA : capA ≤ maxLen) (hcB : NN ≤ capB) (hmB : capB ≤ maxLen) (hrA : mright r c (enc xs) = true) (hrB : mright r c (enc ys) = true) (hr2 : r ≤ 200) (hc2 : c ≤ 200) (hsx : ∀ k, (wmag (xs.getD k 0)).size ≤ 1000) (hsy : ∀ k, (wmag (ys.getD k 0)).size ≤ 1000) :
  Calls Tryz.prog 88 #[mat r c (some ⟨gA, 0, none⟩) NN capA, mat r c (some ⟨gB, 0, none⟩) NN capB, .func (.func 52) #[] #[]] w fun e w' => ∃ g, e = .returned (.tuple #[mat r c (some ⟨g, 0, none⟩) NN NN, .bool true]) ∧ w.heap.size ≤ g ∧ Lw w' g (enc (cmb (fun x y => x + y) xs ys NN)) ∧ Below w.heap.size w w' := by
 have hNN2 : NN ≤ 40000 := by rw [← hNN]; exact Nat.le_trans (Nat.mul_le_mul hr2 hc2) (by omega)
 have hri := fun W hW => Right_any (r : Int) (c : Int) (some ⟨gA, 0, none⟩) NN capA (enc xs) W hW (by rw [enc_length, hlA]) (by omega)
 rw [hrA] at hri
 have hrj := fun W hW => Right_any (r : Int) (c : Int) (some ⟨gB, 0, none⟩) NN capB (enc ys) W hW (by rw [enc_length, hlB]) (by omega)
 rw [hrB] at hrj
 have hss := fun W => sameShape_any (r : Int) (c : Int) (r : Int) (c : Int) (some ⟨gA, 0, none⟩) (some ⟨gB, 0, none⟩) NN capA NN capB W
 rw [show ((r : Int) == (r : Int) && (c : Int) == (c : Int)) = true from by simp] at hss
 have hcb := fun W h1 h2 => combine_add (some ⟨gA, 0, none⟩) (some ⟨gB, 0, none⟩) NN capA capB xs ys W h1 h2 hlA hlB hNN2 hsx hsy
 unfold mat at *
 have HRI := Lib.hid hri
 have HRJ := Lib.hid hrj
 have HSS := Lib.hid hss
 have HCB := Lib.hid hcb
 have HA := Lib.hid hA
 have HB := Lib.hid hB
 have hgA := heap_lt hA
 have hgB := heap_lt hB
 obtain ⟨CM, hCM⟩ : ∃ CM, CM = cmb (fun x y => x + y) xs ys NN := ⟨_, rfl⟩
 rw [← hCM] at HCB ⊢
 clear hri hrj hss hcb hA hB hlA hlB hNN hrA hrB hsx hsy hCM
 have hK1 := ((Kg.none_ none w 3).new 0 (mrow (r : Int) (c : Int) (some ⟨gA, 0, none⟩) NN capA) rfl).new 1 (mrow (r : Int) (c : Int) (some ⟨gB, 0, none⟩) NN capB) rfl
 have HK2 := Lib.hid ((hK1.new 2 (mrow 0 0 none 0 0) rfl).cast (l' := [some (w.heap.size, mrow (r : Int) (c : Int) (some ⟨gA, 0, none⟩) NN capA), some (w.heap.size + 1, mrow (r : Int) (c : Int) (some ⟨gB, 0, none⟩) NN capB), some (w.heap.size + 1 + 1, mrow 0 0 none 0 0)]) (by simp))
 have hAs : ∀ W l, Kg none w W l → Lw W gA (enc xs) := fun W l h => (h.1.block gA hgA (by simp)).trans HA.out
 have hBs : ∀ W l, Kg none w W l → Lw W gB (enc ys) := fun W l h => (h.1.block gB hgB (by simp)).trans HB.out
 have HAS := Lib.hid hAs
 have HBS := Lib.hid hBs
 have c0 := HK2.out.cell 0 0 rfl rfl
 have c1' := HK2.out.cell 0 1 rfl rfl
 have c2' := HK2.out.cell 0 2 rfl rfl
 clear hK1 hAs hBs
 go_enter Tryz.func88, Tryz.ntmps88
 go_wp2_with fail
 change Calls _ _ _ (((w.alloc (mrow (r : Int) (c : Int) (some ⟨gA, 0, none⟩) NN capA)).alloc (mrow (r : Int) (c : Int) (some ⟨gB, 0, none⟩) NN capB)).alloc (mrow 0 0 none 0 0)) _
 generalize ((w.alloc (mrow (r : Int) (c : Int) (some ⟨gA, 0, none⟩) NN capA)).alloc (mrow (r : Int) (c : Int) (some ⟨gB, 0, none⟩) NN capB)).alloc (mrow 0 0 none 0 0) = W2 at *
 with_reducible refine (HRI.out _ (HAS.out _ _ HK2.out).rdw).mono ?_
 rintro e w1 ⟨rfl, hb1⟩
 have HK3 := Lib.hid (HK2.out.step hb1)
 clear c0 c1' c2' hb1 HK2
 have d0 := HK3.out.cell 1 0 rfl rfl
 have d1 := HK3.out.cell 1 1 rfl rfl
 have d2 := HK3.out.cell 1 2 rfl rfl
 go_wp2_with fail
 with_reducible refine (HRJ.out _ (HBS.out _ _ HK3.out).rdw).mono ?_
 rintro e w2 ⟨rfl, hb2⟩
 have HK4 := Lib.hid (HK3.out.step hb2)
 clear d0 d1 d2 hb2 HK3
 have c0 := HK4.out.cell 0 0 rfl rfl
 have c1' := HK4.out.cell 0 1 rfl rfl
 have c2' := HK4.out.cell 0 2 rfl rfl
 have d0 := HK4.out.cell 1 0 rfl rfl
 have d1 := HK4.out.cell 1 1 rfl rfl
 have d2 := HK4.out.cell 1 2 rfl rfl
 go_wp2_with fail
 with_reducible refine (HSS.out _).mono ?_
 rintro e w3 ⟨rfl, hb3⟩
 have HK5 := Lib.hid (HK4.out.step hb3)
 clear c0 c1' c2' d0 d1 d2 hb3 HK4
 go_wp2_with fail
 refine wp_region_acts (X := Nat) (fun x => [(0, 23, .pointer (some ⟨w.heap.size, 0, none⟩)), (1, 24, .int .i64 (r : Int)), (2, 25, .pointer (some ⟨w.heap.size, 1, none⟩)), (3, 26, .int .i64 (c : Int)), (4, 27, .pointer (some ⟨w.heap.size, 2, none⟩)), (5, 28, .slice (some ⟨gA, 0, none⟩) NN capA), (6, 29, .pointer (some ⟨w.heap.size + 1, 2, none⟩)), (7, 30, .slice (some ⟨gB, 0, none⟩) NN capB), (8, 31, .func (.func 52) #[] #[]), (9, 32, .slice (some ⟨x, 0, none⟩) NN NN), (10, 33, .agg #[.int .i64 (r : Int), .int .i64 (c : Int), .slice (some ⟨x, 0, none⟩) NN NN]), (12, 7, .bool true)])
  (fun x L W => Kg none w W [some (w.heap.size, mrow (r : Int) (c : Int) (some ⟨gA, 0, none⟩) NN capA), some (w.heap.size + 1, mrow (r : Int) (c : Int) (some ⟨gB, 0, none⟩) NN capB), some (w.heap.size + 1 + 1, if L 11 = true then mrow (r : Int) (c : Int) (some ⟨x, 0, none⟩) NN NN else mrow 0 0 none 0 0), entO (L 9) x (lwO (enc CM))]) (by kernel_rfl) (by kernel_rfl) 0 ?st (by kernel_rfl) ?_ ?_
 case st => simpa [entO_no] using HK5.out.drew.room
 ·simp only [selA, selT_cons, selT_nil, List.set_cons_zero, List.set_cons_succ, List.getD_cons_zero, List.getD_cons_succ]
  repeat' (first | exact ActSteps.nil | refine ActSteps.cons ?_ ?_)
  all_goals
   intro L x wx hJ hl hd hs K hK
   (try simp [Region.binds] at hd)
   have e0 := hJ.cell 0 0 rfl rfl
   have e1 := hJ.cell 0 1 rfl rfl
   have e2 := hJ.cell 0 2 rfl rfl
   have e3 := hJ.cell 1 2 rfl rfl
   try simp only [hd, hl, selV_true, selV_false]
  ·go_simp
   refine hK.out x _ _ ?_ ?_
   ·simp [hl, hd, selV_true, selV_false]
   ·exact hJ
  ·go_simp
   refine hK.out x _ _ ?_ ?_
   ·simp [hl, hd, selV_true, selV_false]
   ·exact hJ
  ·go_simp
   refine hK.out x _ _ ?_ ?_
   ·simp [hl, hd, selV_true, selV_false]
   ·exact hJ
  ·go_simp
   refine hK.out x _ _ ?_ ?_
   ·simp [hl, hd, selV_true, selV_false]
   ·exact hJ
  ·go_simp
   refine hK.out x _ _ ?_ ?_
   ·simp [hl, hd, selV_true, selV_false]
   ·exact hJ
  ·go_simp
   refine hK.out x _ _ ?_ ?_
   ·simp [hl, hd, selV_true, selV_false]
   ·exact hJ
  ·go_simp
   refine hK.out x _ _ ?_ ?_
   ·simp [hl, hd, selV_true, selV_false]
   ·exact hJ
  ·go_simp
   refine hK.out x _ _ ?_ ?_
   ·simp [hl, hd, selV_true, selV_false]
   ·exact hJ
  ·go_simp
   refine hK.out x _ _ ?_ ?_
   ·simp [hl, hd, selV_true, selV_false]
   ·exact hJ
  ·have hn := hs 11 _ rfl (by simp [Region.binds])
   have hn2 := hs 10 _ rfl (by simp [Region.binds])
   have hB := hJ
   simp only [hn, hl, Bool.false_eq_true, if_false, entO_no] at hB
   go_simp
   with_reducible refine (HCB.out _ (HAS.out _ _ hB).rdw (HBS.out _ _ hB).rdw).mono ?_
   rintro e v ⟨h, rfl, hh, hLh, hb⟩
   refine hK.out h _ _ ?_ ?_
   ·simp [hl, hd, hn, hn2, selV_true, selV_false]
   ·exact (hB.came 3 rfl hb hh (o := lwO (enc CM)) hLh).cast (by simp [hn, entO_yes])
  ·have hn := hs 11 _ rfl (by simp [Region.binds])
   go_simp
   refine hK.out x _ _ ?_ ?_
   ·simp [hl, hd, hn, selV_true, selV_false]
   ·exact hJ
  ·have hB := hJ
   simp only [hl, Bool.false_eq_true, if_false] at hB
   have f0 := hB.frozen 2 0 rfl
   have f1 := hB.frozen 2 1 rfl
   have f2 := hB.frozen 2 2 rfl
   have g0 := hB.cell 2 0 rfl rfl
   have g1 := hB.cell 2 1 rfl rfl
   have g2 := hB.cell 2 2 rfl rfl
   have HB := Lib.hid hB
   clear hB
   go_simp
   refine hK.out x _ _ ?_ ?_
   ·simp [hl, hd, selV_true, selV_false]
   ·refine Kg.cast (((HB.out.put 2 0 rfl (.int .i64 (r : Int))).put 2 1 rfl (.int .i64 (c : Int))).put 2 2 rfl (.slice (some ⟨x, 0, none⟩) NN NN)) ?_
    simp [mrow, hd]
  ·go_simp
   refine hK.out x _ _ ?_ ?_
   ·simp [hl, hd, selV_true, selV_false]
   ·exact hJ
 ·rintro x3 Wx hKx
  simp only [selA, selT_cons, selT_nil, List.set_cons_zero, List.set_cons_succ, List.getD_cons_zero, List.getD_cons_succ, selV_true]
  simp only [if_true, entO_yes] at hKx
  have HKX := Lib.hid hKx
  clear hKx
  go_wp2_with fail
  exact bodyPost_ret (results_mat_tmp (b := w.heap.size + 1 + 1) rfl rfl (HKX.out.at_ 2 rfl)) rfl ⟨x3, rfl, HKX.out.ge 3 rfl, HKX.out.at_ 3 rfl, ⟨HKX.out.1.os, HKX.out.1.tape, HKX.out.1.output, HKX.out.1.size, fun i hi => HKX.out.1.block i hi (by simp)⟩⟩
set_option maxRecDepth 100000 in
set_option maxHeartbeats 4000000 in
theorem Madd_ok (gA gB r c NN capA capB : Nat) (xs ys : List Int) (w : World) (hA : Lw w gA (enc xs)) (hB : Lw w gB (enc ys)) (hlA : xs.length = NN) (hlB : ys.length = NN) (hNN : r * c = NN) (hcA : NN ≤ capA) (hmA : capA ≤ maxLen) (hcB : NN ≤ capB) (hmB : capB ≤ maxLen) (hrA : mright r c (enc xs) = true) (hrB : mright r c (enc ys) = true) (hr2 : r ≤ 200) (hc2 : c ≤ 200) (hsx : ∀ k, (wmag (xs.getD k 0)).size ≤ 1000) (hsy : ∀ k, (wmag (ys.getD k 0)).size ≤ 1000) :
  Calls Tryz.prog 36 #[mat r c (some ⟨gA, 0, none⟩) NN capA, mat r c (some ⟨gB, 0, none⟩) NN capB] w fun e w' => ∃ g, e = .returned (.tuple #[mat r c (some ⟨g, 0, none⟩) NN NN, .bool true]) ∧ w.heap.size ≤ g ∧ Lw w' g (enc (cmb (fun x y => x + y) xs ys NN)) ∧ Below w.heap.size w w' := by
 have hpl := fun W h1 h2 => place_add gA gB r c NN capA capB xs ys W h1 h2 hlA hlB hNN hcA hmA hcB hmB hrA hrB hr2 hc2 hsx hsy
 obtain ⟨CM, hCM⟩ : ∃ CM, CM = cmb (fun x y => x + y) xs ys NN := ⟨_, rfl⟩
 rw [← hCM] at hpl ⊢
 unfold mat at *
 have HPL := Lib.hid hpl
 have HA := Lib.hid hA
 have HB := Lib.hid hB
 have hgA := heap_lt hA
 have hgB := heap_lt hB
 clear hpl hA hB hlA hlB hNN hrA hrB hsx hsy hCM
 have hK1 := ((Kg.none_ none w 3).new 0 (mrow (r : Int) (c : Int) (some ⟨gA, 0, none⟩) NN capA) rfl).new 1 (mrow (r : Int) (c : Int) (some ⟨gB, 0, none⟩) NN capB) rfl
 have HK2 := Lib.hid ((hK1.new 2 (mrow 0 0 none 0 0) rfl).cast (l' := [some (w.heap.size, mrow (r : Int) (c : Int) (some ⟨gA, 0, none⟩) NN capA), some (w.heap.size + 1, mrow (r : Int) (c : Int) (some ⟨gB, 0, none⟩) NN capB), some (w.heap.size + 1 + 1, mrow 0 0 none 0 0)]) (by simp))
 have c0 := HK2.out.cell 0 0 rfl rfl
 have c1' := HK2.out.cell 0 1 rfl rfl
 have c2' := HK2.out.cell 0 2 rfl rfl
 have d0 := HK2.out.cell 1 0 rfl rfl
 have d1 := HK2.out.cell 1 1 rfl rfl
 have d2 := HK2.out.cell 1 2 rfl rfl
 clear hK1
 go_enter Tryz.func36, Tryz.ntmps36
 go_wp2_with fail
 change Calls _ _ _ (((w.alloc (mrow (r : Int) (c : Int) (some ⟨gA, 0, none⟩) NN capA)).alloc (mrow (r : Int) (c : Int) (some ⟨gB, 0, none⟩) NN capB)).alloc (mrow 0 0 none 0 0)) _
 generalize ((w.alloc (mrow (r : Int) (c : Int) (some ⟨gA, 0, none⟩) NN capA)).alloc (mrow (r : Int) (c : Int) (some ⟨gB, 0, none⟩) NN capB)).alloc (mrow 0 0 none 0 0) = W2 at *
 have hA2 : Lw W2 gA (enc xs) := (HK2.out.1.block gA hgA (by simp)).trans HA.out
 have hB2 : Lw W2 gB (enc ys) := (HK2.out.1.block gB hgB (by simp)).trans HB.out
 with_reducible refine (HPL.out _ hA2 hB2).mono ?_
 rintro e V ⟨g, rfl, hg, hLg, hb⟩
 have HK3 := Lib.hid (show Kg none w V [some (w.heap.size, mrow (r : Int) (c : Int) (some ⟨gA, 0, none⟩) NN capA), some (w.heap.size + 1, mrow (r : Int) (c : Int) (some ⟨gB, 0, none⟩) NN capB), some (w.heap.size + 1 + 1, mrow 0 0 none 0 0), some (g, lwO (enc CM))] from HK2.out.room.came 3 rfl hb hg (o := lwO (enc CM)) hLg)
 clear c0 c1' c2' d0 d1 d2 hg hLg hb HK2
 have f0 := HK3.out.frozen 2 0 rfl
 have f1 := HK3.out.frozen 2 1 rfl
 have f2 := HK3.out.frozen 2 2 rfl
 have g0 := HK3.out.cell 2 0 rfl rfl
 have g1 := HK3.out.cell 2 1 rfl rfl
 have g2 := HK3.out.cell 2 2 rfl rfl
 go_wp2_with fail
 have hP := ((HK3.out.put 2 0 rfl (.int .i64 (r : Int))).put 2 1 rfl (.int .i64 (c : Int))).put 2 2 rfl (.slice (some ⟨g, 0, none⟩) NN NN)
 exact bodyPost_ret (results_mat_tmp (b := w.heap.size + 1 + 1) rfl rfl (hP.at_ 2 rfl)) rfl ⟨g, rfl, hP.ge 3 rfl, hP.at_ 3 rfl, ⟨hP.1.os, hP.1.tape, hP.1.output, hP.1.size, fun i hi => hP.1.block i hi (by simp)⟩⟩
set_option maxRecDepth 100000 in
set_option maxHeartbeats 4000000 in
theorem place_sub (gA gB r c NN capA capB : Nat) (xs ys : List Int) (w : World) (hA : Lw w gA (enc xs)) (hB : Lw w gB (enc ys)) (hlA : xs.length = NN) (hlB : ys.length = NN) (hNN : r * c = NN) (hcA : NN ≤ capA) (hmA : capA ≤ maxLen) (hcB : NN ≤ capB) (hmB : capB ≤ maxLen) (hrA : mright r c (enc xs) = true) (hrB : mright r c (enc ys) = true) (hr2 : r ≤ 200) (hc2 : c ≤ 200) (hsx : ∀ k, (wmag (xs.getD k 0)).size ≤ 1000) (hsy : ∀ k, (wmag (ys.getD k 0)).size ≤ 1000) :
  Calls Tryz.prog 88 #[mat r c (some ⟨gA, 0, none⟩) NN capA, mat r c (some ⟨gB, 0, none⟩) NN capB, .func (.func 54) #[] #[]] w fun e w' => ∃ g, e = .returned (.tuple #[mat r c (some ⟨g, 0, none⟩) NN NN, .bool true]) ∧ w.heap.size ≤ g ∧ Lw w' g (enc (cmb (fun x y => x - y) xs ys NN)) ∧ Below w.heap.size w w' := by
 have hNN2 : NN ≤ 40000 := by rw [← hNN]; exact Nat.le_trans (Nat.mul_le_mul hr2 hc2) (by omega)
 have hri := fun W hW => Right_any (r : Int) (c : Int) (some ⟨gA, 0, none⟩) NN capA (enc xs) W hW (by rw [enc_length, hlA]) (by omega)
 rw [hrA] at hri
 have hrj := fun W hW => Right_any (r : Int) (c : Int) (some ⟨gB, 0, none⟩) NN capB (enc ys) W hW (by rw [enc_length, hlB]) (by omega)
 rw [hrB] at hrj
 have hss := fun W => sameShape_any (r : Int) (c : Int) (r : Int) (c : Int) (some ⟨gA, 0, none⟩) (some ⟨gB, 0, none⟩) NN capA NN capB W
 rw [show ((r : Int) == (r : Int) && (c : Int) == (c : Int)) = true from by simp] at hss
 have hcb := fun W h1 h2 => combine_sub (some ⟨gA, 0, none⟩) (some ⟨gB, 0, none⟩) NN capA capB xs ys W h1 h2 hlA hlB hNN2 hsx hsy
 unfold mat at *
 have HRI := Lib.hid hri
 have HRJ := Lib.hid hrj
 have HSS := Lib.hid hss
 have HCB := Lib.hid hcb
 have HA := Lib.hid hA
 have HB := Lib.hid hB
 have hgA := heap_lt hA
 have hgB := heap_lt hB
 obtain ⟨CM, hCM⟩ : ∃ CM, CM = cmb (fun x y => x - y) xs ys NN := ⟨_, rfl⟩
 rw [← hCM] at HCB ⊢
 clear hri hrj hss hcb hA hB hlA hlB hNN hrA hrB hsx hsy hCM
 have hK1 := ((Kg.none_ none w 3).new 0 (mrow (r : Int) (c : Int) (some ⟨gA, 0, none⟩) NN capA) rfl).new 1 (mrow (r : Int) (c : Int) (some ⟨gB, 0, none⟩) NN capB) rfl
 have HK2 := Lib.hid ((hK1.new 2 (mrow 0 0 none 0 0) rfl).cast (l' := [some (w.heap.size, mrow (r : Int) (c : Int) (some ⟨gA, 0, none⟩) NN capA), some (w.heap.size + 1, mrow (r : Int) (c : Int) (some ⟨gB, 0, none⟩) NN capB), some (w.heap.size + 1 + 1, mrow 0 0 none 0 0)]) (by simp))
 have hAs : ∀ W l, Kg none w W l → Lw W gA (enc xs) := fun W l h => (h.1.block gA hgA (by simp)).trans HA.out
 have hBs : ∀ W l, Kg none w W l → Lw W gB (enc ys) := fun W l h => (h.1.block gB hgB (by simp)).trans HB.out
 have HAS := Lib.hid hAs
 have HBS := Lib.hid hBs
 have c0 := HK2.out.cell 0 0 rfl rfl
 have c1' := HK2.out.cell 0 1 rfl rfl
 have c2' := HK2.out.cell 0 2 rfl rfl
 clear hK1 hAs hBs
 go_enter Tryz.func88, Tryz.ntmps88
 go_wp2_with fail
 change Calls _ _ _ (((w.alloc (mrow (r : Int) (c : Int) (some ⟨gA, 0, none⟩) NN capA)).alloc (mrow (r : Int) (c : Int) (some ⟨gB, 0, none⟩) NN capB)).alloc (mrow 0 0 none 0 0)) _
 generalize ((w.alloc (mrow (r : Int) (c : Int) (some ⟨gA, 0, none⟩) NN capA)).alloc (mrow (r : Int) (c : Int) (some ⟨gB, 0, none⟩) NN capB)).alloc (mrow 0 0 none 0 0) = W2 at *
 with_reducible refine (HRI.out _ (HAS.out _ _ HK2.out).rdw).mono ?_
 rintro e w1 ⟨rfl, hb1⟩
 have HK3 := Lib.hid (HK2.out.step hb1)
 clear c0 c1' c2' hb1 HK2
 have d0 := HK3.out.cell 1 0 rfl rfl
 have d1 := HK3.out.cell 1 1 rfl rfl
 have d2 := HK3.out.cell 1 2 rfl rfl
 go_wp2_with fail
 with_reducible refine (HRJ.out _ (HBS.out _ _ HK3.out).rdw).mono ?_
 rintro e w2 ⟨rfl, hb2⟩
 have HK4 := Lib.hid (HK3.out.step hb2)
 clear d0 d1 d2 hb2 HK3
 have c0 := HK4.out.cell 0 0 rfl rfl
 have c1' := HK4.out.cell 0 1 rfl rfl
 have c2' := HK4.out.cell 0 2 rfl rfl
 have d0 := HK4.out.cell 1 0 rfl rfl
 have d1 := HK4.out.cell 1 1 rfl rfl
 have d2 := HK4.out.cell 1 2 rfl rfl
 go_wp2_with fail
 with_reducible refine (HSS.out _).mono ?_
 rintro e w3 ⟨rfl, hb3⟩
 have HK5 := Lib.hid (HK4.out.step hb3)
 clear c0 c1' c2' d0 d1 d2 hb3 HK4
 go_wp2_with fail
 refine wp_region_acts (X := Nat) (fun x => [(0, 23, .pointer (some ⟨w.heap.size, 0, none⟩)), (1, 24, .int .i64 (r : Int)), (2, 25, .pointer (some ⟨w.heap.size, 1, none⟩)), (3, 26, .int .i64 (c : Int)), (4, 27, .pointer (some ⟨w.heap.size, 2, none⟩)), (5, 28, .slice (some ⟨gA, 0, none⟩) NN capA), (6, 29, .pointer (some ⟨w.heap.size + 1, 2, none⟩)), (7, 30, .slice (some ⟨gB, 0, none⟩) NN capB), (8, 31, .func (.func 54) #[] #[]), (9, 32, .slice (some ⟨x, 0, none⟩) NN NN), (10, 33, .agg #[.int .i64 (r : Int), .int .i64 (c : Int), .slice (some ⟨x, 0, none⟩) NN NN]), (12, 7, .bool true)])
  (fun x L W => Kg none w W [some (w.heap.size, mrow (r : Int) (c : Int) (some ⟨gA, 0, none⟩) NN capA), some (w.heap.size + 1, mrow (r : Int) (c : Int) (some ⟨gB, 0, none⟩) NN capB), some (w.heap.size + 1 + 1, if L 11 = true then mrow (r : Int) (c : Int) (some ⟨x, 0, none⟩) NN NN else mrow 0 0 none 0 0), entO (L 9) x (lwO (enc CM))]) (by kernel_rfl) (by kernel_rfl) 0 ?st (by kernel_rfl) ?_ ?_
 case st => simpa [entO_no] using HK5.out.drew.room
 ·simp only [selA, selT_cons, selT_nil, List.set_cons_zero, List.set_cons_succ, List.getD_cons_zero, List.getD_cons_succ]
  repeat' (first | exact ActSteps.nil | refine ActSteps.cons ?_ ?_)
  all_goals
   intro L x wx hJ hl hd hs K hK
   (try simp [Region.binds] at hd)
   have e0 := hJ.cell 0 0 rfl rfl
   have e1 := hJ.cell 0 1 rfl rfl
   have e2 := hJ.cell 0 2 rfl rfl
   have e3 := hJ.cell 1 2 rfl rfl
   try simp only [hd, hl, selV_true, selV_false]
  ·go_simp
   refine hK.out x _ _ ?_ ?_
   ·simp [hl, hd, selV_true, selV_false]
   ·exact hJ
  ·go_simp
   refine hK.out x _ _ ?_ ?_
   ·simp [hl, hd, selV_true, selV_false]
   ·exact hJ
  ·go_simp
   refine hK.out x _ _ ?_ ?_
   ·simp [hl, hd, selV_true, selV_false]
   ·exact hJ
  ·go_simp
   refine hK.out x _ _ ?_ ?_
   ·simp [hl, hd, selV_true, selV_false]
   ·exact hJ
  ·go_simp
   refine hK.out x _ _ ?_ ?_
   ·simp [hl, hd, selV_true, selV_false]
   ·exact hJ
  ·go_simp
   refine hK.out x _ _ ?_ ?_
   ·simp [hl, hd, selV_true, selV_false]
   ·exact hJ
  ·go_simp
   refine hK.out x _ _ ?_ ?_
   ·simp [hl, hd, selV_true, selV_false]
   ·exact hJ
  ·go_simp
   refine hK.out x _ _ ?_ ?_
   ·simp [hl, hd, selV_true, selV_false]
   ·exact hJ
  ·go_simp
   refine hK.out x _ _ ?_ ?_
   ·simp [hl, hd, selV_true, selV_false]
   ·exact hJ
  ·have hn := hs 11 _ rfl (by simp [Region.binds])
   have hn2 := hs 10 _ rfl (by simp [Region.binds])
   have hB := hJ
   simp only [hn, hl, Bool.false_eq_true, if_false, entO_no] at hB
   go_simp
   with_reducible refine (HCB.out _ (HAS.out _ _ hB).rdw (HBS.out _ _ hB).rdw).mono ?_
   rintro e v ⟨h, rfl, hh, hLh, hb⟩
   refine hK.out h _ _ ?_ ?_
   ·simp [hl, hd, hn, hn2, selV_true, selV_false]
   ·exact (hB.came 3 rfl hb hh (o := lwO (enc CM)) hLh).cast (by simp [hn, entO_yes])
  ·have hn := hs 11 _ rfl (by simp [Region.binds])
   go_simp
   refine hK.out x _ _ ?_ ?_
   ·simp [hl, hd, hn, selV_true, selV_false]
   ·exact hJ
  ·have hB := hJ
   simp only [hl, Bool.false_eq_true, if_false] at hB
   have f0 := hB.frozen 2 0 rfl
   have f1 := hB.frozen 2 1 rfl
   have f2 := hB.frozen 2 2 rfl
   have g0 := hB.cell 2 0 rfl rfl
   have g1 := hB.cell 2 1 rfl rfl
   have g2 := hB.cell 2 2 rfl rfl
   have HB := Lib.hid hB
   clear hB
   go_simp
   refine hK.out x _ _ ?_ ?_
   ·simp [hl, hd, selV_true, selV_false]
   ·refine Kg.cast (((HB.out.put 2 0 rfl (.int .i64 (r : Int))).put 2 1 rfl (.int .i64 (c : Int))).put 2 2 rfl (.slice (some ⟨x, 0, none⟩) NN NN)) ?_
    simp [mrow, hd]
  ·go_simp
   refine hK.out x _ _ ?_ ?_
   ·simp [hl, hd, selV_true, selV_false]
   ·exact hJ
 ·rintro x3 Wx hKx
  simp only [selA, selT_cons, selT_nil, List.set_cons_zero, List.set_cons_succ, List.getD_cons_zero, List.getD_cons_succ, selV_true]
  simp only [if_true, entO_yes] at hKx
  have HKX := Lib.hid hKx
  clear hKx
  go_wp2_with fail
  exact bodyPost_ret (results_mat_tmp (b := w.heap.size + 1 + 1) rfl rfl (HKX.out.at_ 2 rfl)) rfl ⟨x3, rfl, HKX.out.ge 3 rfl, HKX.out.at_ 3 rfl, ⟨HKX.out.1.os, HKX.out.1.tape, HKX.out.1.output, HKX.out.1.size, fun i hi => HKX.out.1.block i hi (by simp)⟩⟩
set_option maxRecDepth 100000 in
set_option maxHeartbeats 4000000 in
theorem Msub_ok (gA gB r c NN capA capB : Nat) (xs ys : List Int) (w : World) (hA : Lw w gA (enc xs)) (hB : Lw w gB (enc ys)) (hlA : xs.length = NN) (hlB : ys.length = NN) (hNN : r * c = NN) (hcA : NN ≤ capA) (hmA : capA ≤ maxLen) (hcB : NN ≤ capB) (hmB : capB ≤ maxLen) (hrA : mright r c (enc xs) = true) (hrB : mright r c (enc ys) = true) (hr2 : r ≤ 200) (hc2 : c ≤ 200) (hsx : ∀ k, (wmag (xs.getD k 0)).size ≤ 1000) (hsy : ∀ k, (wmag (ys.getD k 0)).size ≤ 1000) :
  Calls Tryz.prog 41 #[mat r c (some ⟨gA, 0, none⟩) NN capA, mat r c (some ⟨gB, 0, none⟩) NN capB] w fun e w' => ∃ g, e = .returned (.tuple #[mat r c (some ⟨g, 0, none⟩) NN NN, .bool true]) ∧ w.heap.size ≤ g ∧ Lw w' g (enc (cmb (fun x y => x - y) xs ys NN)) ∧ Below w.heap.size w w' := by
 have hpl := fun W h1 h2 => place_sub gA gB r c NN capA capB xs ys W h1 h2 hlA hlB hNN hcA hmA hcB hmB hrA hrB hr2 hc2 hsx hsy
 obtain ⟨CM, hCM⟩ : ∃ CM, CM = cmb (fun x y => x - y) xs ys NN := ⟨_, rfl⟩
 rw [← hCM] at hpl ⊢
 unfold mat at *
 have HPL := Lib.hid hpl
 have HA := Lib.hid hA
 have HB := Lib.hid hB
 have hgA := heap_lt hA
 have hgB := heap_lt hB
 clear hpl hA hB hlA hlB hNN hrA hrB hsx hsy hCM
 have hK1 := ((Kg.none_ none w 3).new 0 (mrow (r : Int) (c : Int) (some ⟨gA, 0, none⟩) NN capA) rfl).new 1 (mrow (r : Int) (c : Int) (some ⟨gB, 0, none⟩) NN capB) rfl
 have HK2 := Lib.hid ((hK1.new 2 (mrow 0 0 none 0 0) rfl).cast (l' := [some (w.heap.size, mrow (r : Int) (c : Int) (some ⟨gA, 0, none⟩) NN capA), some (w.heap.size + 1, mrow (r : Int) (c : Int) (some ⟨gB, 0, none⟩) NN capB), some (w.heap.size + 1 + 1, mrow 0 0 none 0 0)]) (by simp))
 have c0 := HK2.out.cell 0 0 rfl rfl
 have c1' := HK2.out.cell 0 1 rfl rfl
 have c2' := HK2.out.cell 0 2 rfl rfl
 have d0 := HK2.out.cell 1 0 rfl rfl
 have d1 := HK2.out.cell 1 1 rfl rfl
 have d2 := HK2.out.cell 1 2 rfl rfl
 clear hK1
 go_enter Tryz.func41, Tryz.ntmps41
 go_wp2_with fail
 change Calls _ _ _ (((w.alloc (mrow (r : Int) (c : Int) (some ⟨gA, 0, none⟩) NN capA)).alloc (mrow (r : Int) (c : Int) (some ⟨gB, 0, none⟩) NN capB)).alloc (mrow 0 0 none 0 0)) _
 generalize ((w.alloc (mrow (r : Int) (c : Int) (some ⟨gA, 0, none⟩) NN capA)).alloc (mrow (r : Int) (c : Int) (some ⟨gB, 0, none⟩) NN capB)).alloc (mrow 0 0 none 0 0) = W2 at *
 have hA2 : Lw W2 gA (enc xs) := (HK2.out.1.block gA hgA (by simp)).trans HA.out
 have hB2 : Lw W2 gB (enc ys) := (HK2.out.1.block gB hgB (by simp)).trans HB.out
 with_reducible refine (HPL.out _ hA2 hB2).mono ?_
 rintro e V ⟨g, rfl, hg, hLg, hb⟩
 have HK3 := Lib.hid (show Kg none w V [some (w.heap.size, mrow (r : Int) (c : Int) (some ⟨gA, 0, none⟩) NN capA), some (w.heap.size + 1, mrow (r : Int) (c : Int) (some ⟨gB, 0, none⟩) NN capB), some (w.heap.size + 1 + 1, mrow 0 0 none 0 0), some (g, lwO (enc CM))] from HK2.out.room.came 3 rfl hb hg (o := lwO (enc CM)) hLg)
 clear c0 c1' c2' d0 d1 d2 hg hLg hb HK2
 have f0 := HK3.out.frozen 2 0 rfl
 have f1 := HK3.out.frozen 2 1 rfl
 have f2 := HK3.out.frozen 2 2 rfl
 have g0 := HK3.out.cell 2 0 rfl rfl
 have g1 := HK3.out.cell 2 1 rfl rfl
 have g2 := HK3.out.cell 2 2 rfl rfl
 go_wp2_with fail
 have hP := ((HK3.out.put 2 0 rfl (.int .i64 (r : Int))).put 2 1 rfl (.int .i64 (c : Int))).put 2 2 rfl (.slice (some ⟨g, 0, none⟩) NN NN)
 exact bodyPost_ret (results_mat_tmp (b := w.heap.size + 1 + 1) rfl rfl (hP.at_ 2 rfl)) rfl ⟨g, rfl, hP.ge 3 rfl, hP.at_ 3 rfl, ⟨hP.1.os, hP.1.tape, hP.1.output, hP.1.size, fun i hi => hP.1.block i hi (by simp)⟩⟩
end Go.Proofs.YtknaghdoffigjaaGreatDoor
