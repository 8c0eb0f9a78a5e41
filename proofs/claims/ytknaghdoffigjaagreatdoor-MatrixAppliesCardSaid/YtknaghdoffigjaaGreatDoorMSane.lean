import Derived.Test.YtknaghdoffigjaaGreatDoorZMEqual
import Derived.Test.YtknaghdoffigjaaGreatDoorZMInvV
import Derived.Test.YtknaghdoffigjaaGreatDoorZRDig
set_option linter.unusedSimpArgs false
set_option linter.unusedVariables false
set_option linter.unnecessarySimpa false
namespace Go.Proofs.YtknaghdoffigjaaGreatDoor
open Go.RowKit Go
attribute [local go_sem] Oper.semAt_some
set_option maxRecDepth 100000 in
set_option maxHeartbeats 8000000 in
theorem sanity_any (w : World) (hTz : Tz w) : Calls Tryz.prog 14 #[] w fun e w' => e = .returned (.bool true) ∧ Below w.heap.size w w' := by
 have hTs : ∀ W l, Kg none w W l → Tz W := fun W l h => hTz.of fun b hb => h.1.block b hb (by simp)
 have HOA := Lib.hid (fun b b1 b2 W h h1 h2 => Of_two b b1 b2 2 2 2 4 [1, 2] [3, 4] [1, 2, 3, 4] W h h1 h2 rfl rfl rfl (by omega) rfl (by decide) (by decide) 2 rfl)
 have HOB := Lib.hid (fun b b1 b2 W h h1 h2 => Of_two b b1 b2 2 2 2 4 [0, 1] [1, 0] [0, 1, 1, 0] W h h1 h2 rfl rfl rfl (by omega) rfl (by decide) (by decide) 2 rfl)
 have HOC := Lib.hid (fun b b1 b2 W h h1 h2 => Of_two b b1 b2 2 2 2 4 [2, 1] [1, 1] [2, 1, 1, 1] W h h1 h2 rfl rfl rfl (by omega) rfl (by decide) (by decide) 2 rfl)
 have HOD := Lib.hid (fun b b1 b2 W h h1 h2 => Of_two b b1 b2 3 3 3 6 [1, 2, 3] [4, 5, 6] [1, 2, 3, 4, 5, 6] W h h1 h2 rfl rfl rfl (by omega) rfl (by decide) (by decide) 3 rfl)
 have HOE := Lib.hid (fun b b1 b2 W h h1 h2 => Of_two b b1 b2 2 1 2 4 [1, 2] [3] [1, 2, 3, 0] W h h1 h2 rfl rfl rfl (by omega) rfl (by decide) (by decide) 2 rfl)
 have HOF := Lib.hid (fun b b1 b2 W h h1 h2 => Of_two b b1 b2 2 2 2 4 [1, 2] [3, 0] [1, 2, 3, 0] W h h1 h2 rfl rfl rfl (by omega) rfl (by decide) (by decide) 2 rfl)
 have HOG := Lib.hid (fun b b1 b2 W h h1 h2 => Of_two b b1 b2 2 2 2 4 [2, 1] [4, 3] [2, 1, 4, 3] W h h1 h2 rfl rfl rfl (by omega) rfl (by decide) (by decide) 2 rfl)
 have HOI := Lib.hid (fun b b1 b2 W h h1 h2 => Of_two b b1 b2 2 2 2 4 [1, -1] [-1, 2] [1, -1, -1, 2] W h h1 h2 rfl rfl rfl (by omega) rfl (by decide) (by decide) 2 rfl)
 have HOJ := Lib.hid (fun b b1 W h h1 => Of_one b b1 2 2 2 [5, 6] [5, 6] W h h1 rfl rfl (by omega) rfl (by decide) (by decide) 2 rfl)
 have HMU := Lib.hid (fun ga gb W hA hB => (show Calls Tryz.prog 43 #[.agg #[.int .i64 2, .int .i64 2, .slice (some ⟨ga, 0, none⟩) 4 4], .agg #[.int .i64 2, .int .i64 2, .slice (some ⟨gb, 0, none⟩) 4 4]] W fun e w' => ∃ g, e = .returned (.tuple #[.agg #[.int .i64 2, .int .i64 2, .slice (some ⟨g, 0, none⟩) 4 4], .bool true]) ∧ W.heap.size ≤ g ∧ Lw w' g (enc [2, 1, 4, 3]) ∧ Below W.heap.size W w' from
  Mul_ints ga gb 2 2 2 4 4 4 4 4 [1, 2, 3, 4] [0, 1, 1, 0] W hA hB rfl rfl rfl rfl (by omega) (by omega) (by omega) rfl (by decide +kernel) (by decide +kernel) (small_fit _ (by decide)) (small_fit _ (by decide)) (by decide +kernel)))
 have HDE := Lib.hid (fun ga W hA hW => (show Calls Tryz.prog 26 #[.agg #[.int .i64 2, .int .i64 2, .slice (some ⟨ga, 0, none⟩) 4 4]] W fun e w' => e = .returned (.tuple #[.agg #[.bool (wneg (-2)), .string (wmag (-2))], .bool true]) ∧ Below W.heap.size W w' from
  Det_sane ga 4 W hA (by omega) (by unfold maxLen; omega) hW))
 have HI1 := Lib.hid (fun ga W hA hW => (show Calls Tryz.prog 28 #[.agg #[.int .i64 2, .int .i64 2, .slice (some ⟨ga, 0, none⟩) 4 4]] W fun e w' => ∃ g, e = .returned (.tuple #[.agg #[.int .i64 2, .int .i64 2, .slice (some ⟨g, 0, none⟩) 4 4], .bool true]) ∧ W.heap.size ≤ g ∧ Lw w' g (enc [1, -1, -1, 2]) ∧ Below W.heap.size W w' from
  Inverse_sane1 ga 4 W hA (by omega) (by unfold maxLen; omega) hW))
 have HI2 := Lib.hid (fun ga W hA hW => (show Calls Tryz.prog 28 #[.agg #[.int .i64 2, .int .i64 2, .slice (some ⟨ga, 0, none⟩) 4 4]] W fun e w' => e = .returned (.tuple #[.agg #[.int .i64 0, .int .i64 0, .slice none 0 0], .bool false]) ∧ Below W.heap.size W w' from
  Inverse_sane2 ga 4 W hA (by omega) (by unfold maxLen; omega) hW))
 have HPA := Lib.hid (fun ga W hA => (show Calls Tryz.prog 30 #[.agg #[.int .i64 2, .int .i64 3, .slice (some ⟨ga, 0, none⟩) 6 6], .int .i64 1, .int .i64 1, .int .i64 1, .int .i64 2] W fun e w' => ∃ g, e = .returned (.tuple #[.agg #[.int .i64 1, .int .i64 2, .slice (some ⟨g, 0, none⟩) 2 2], .bool true]) ∧ W.heap.size ≤ g ∧ Lw w' g (enc [5, 6]) ∧ Below W.heap.size W w' from
  Part_ok ga 2 3 6 6 1 1 1 2 2 [1, 2, 3, 4, 5, 6] W hA rfl rfl (by omega) (by unfold maxLen; omega) (by decide +kernel) (by omega) (by omega) (by omega) (by omega) rfl))
 have HEQ := Lib.hid (fun (zs : List Int) (r : Int) (ga gb n : Nat) W hA hB (hl : zs.length = n) (hn : n ≤ 100) (ht : (mright r 2 (enc zs) && mright r 2 (enc zs) && (r == r && (2 : Int) == 2) && decide (enc zs = enc zs)) = true) => (show Calls Tryz.prog 38 #[.agg #[.int .i64 r, .int .i64 2, .slice (some ⟨ga, 0, none⟩) n n], .agg #[.int .i64 r, .int .i64 2, .slice (some ⟨gb, 0, none⟩) n n]] W fun e w' => e = .returned (.bool true) ∧ Below W.heap.size W w' from by
  have h := Equal_any r 2 r 2 (some ⟨ga, 0, none⟩) (some ⟨gb, 0, none⟩) n n n n (enc zs) (enc zs) W hA hB (by rw [enc_length, hl]) (by rw [enc_length, hl]) (by omega) (by omega)
  rw [ht] at h
  exact h))
 have HRF := Lib.hid (fun W => RFrom_any (-2) W (by omega) (by omega))
 have HK1 := Lib.hid (((((Kg.none_ none w 0).more (liO [1, 2])).more (liO [3, 4])).more (rwO [(w.heap.size, 2), (w.heap.size + 1, 2)])).cast (l' := [some (w.heap.size, liO [1, 2]), some (w.heap.size + 1, liO [3, 4]), some (w.heap.size + 1 + 1, rwO [(w.heap.size, 2), (w.heap.size + 1, 2)])]) (by simp))
 go_enter Tryz.func14, Tryz.ntmps14
 go_wp2_with fail
 change Calls _ _ _ (((w.alloc (liO [1, 2])).alloc (liO [3, 4])).alloc (rwO [(w.heap.size, 2), (w.heap.size + 1, 2)])) _
 generalize (((w.alloc (liO [1, 2])).alloc (liO [3, 4])).alloc (rwO [(w.heap.size, 2), (w.heap.size + 1, 2)])) = W1 at *
 with_reducible refine (HOA.out _ _ _ _ (HK1.out.at_ 2 rfl) (HK1.out.at_ 0 rfl) (HK1.out.at_ 1 rfl)).mono ?_
 rintro e V1 ⟨gA, rfl, hg, hL, hb⟩
 have HK2 := Lib.hid ((HK1.out.room.came 3 rfl hb hg (o := (lwO (enc [1, 2, 3, 4]))) hL).more (mrow 2 2 (some ⟨gA, 0, none⟩) 4 4))
 clear hg hL hb HK1
 go_wp2_with fail
 change Code.wp _ _ _ _ (V1.alloc (mrow 2 2 (some ⟨gA, 0, none⟩) 4 4))
 generalize V1.alloc (mrow 2 2 (some ⟨gA, 0, none⟩) 4 4) = W2 at *
 generalize V1.heap.size = bA at *
 have HK3 := Lib.hid (show Kg none w W2 [some (gA, (lwO (enc [1, 2, 3, 4]))), some (bA, (mrow 2 2 (some ⟨gA, 0, none⟩) 4 4))] from HK2.out.sel [3, 4] (by decide))
 clear HK2
 refine wp_region_acts (X := Nat → Nat) (fun x => [(0, 18, .agg #[.int .i64 2, .int .i64 2, .slice (some ⟨gA, 0, none⟩) 4 4]), (1, 19, .slice (some ⟨x 1, 0, none⟩) 2 2), (2, 20, .slice (some ⟨x 2, 0, none⟩) 2 2), (3, 21, .slice (some ⟨x 3, 0, none⟩) 2 2), (4, 22, .agg #[.int .i64 2, .int .i64 2, .slice (some ⟨x 4, 0, none⟩) 4 4]), (5, 23, .tuple #[.agg #[.int .i64 2, .int .i64 2, .slice (some ⟨x 5, 0, none⟩) 4 4], .bool true]), (6, 17, .tuple #[.agg #[.int .i64 2, .int .i64 2, .slice (some ⟨x 5, 0, none⟩) 4 4], .bool true]), (7, 24, .agg #[.int .i64 2, .int .i64 2, .slice (some ⟨x 5, 0, none⟩) 4 4]), (8, 25, .bool true), (9, 2, .pointer (some ⟨x 9, 0, none⟩)), (11, 3, .bool true)])
  (fun x L W => Kg none w W [some (gA, (lwO (enc [1, 2, 3, 4]))), some (bA, (mrow 2 2 (some ⟨gA, 0, none⟩) 4 4)), entO (L 1) (x 1) (liO [0, 1]), entO (L 2) (x 2) (liO [1, 0]), entO (L 3) (x 3) (rwO [(x 1, 2), (x 2, 2)]), entO (L 4) (x 4) (lwO (enc [0, 1, 1, 0])), entO (L 5) (x 5) (lwO (enc [2, 1, 4, 3])), entO (L 9) (x 9) (if L 10 = true then (mrow 2 2 (some ⟨x 5, 0, none⟩) 4 4) else mrow 0 0 none 0 0)] ∧ (L 3 = true → L 1 = true ∧ L 2 = true) ∧ (L 5 = false → L 6 = false ∧ L 7 = false)) (by kernel_rfl) (by kernel_rfl) (fun _ => 0) ?st (by kernel_rfl) ?_ ?_
 case st => exact ⟨by simpa [entO_no] using HK3.out.drew.room.room.room.room.room.room, fun h => by simp at h, fun _ => ⟨by simp, by simp⟩⟩
 ·simp only [selA, selT_cons, selT_nil, List.set_cons_zero, List.set_cons_succ, List.getD_cons_zero, List.getD_cons_succ]
  repeat' (first | exact ActSteps.nil | refine ActSteps.cons ?_ ?_)
  all_goals
   intro L x wx hJ hl hd hs K hK
   (try simp [Region.binds] at hd)
   have e0 := hJ.1.cell 1 0 rfl rfl
   have e1 := hJ.1.cell 1 1 rfl rfl
   have e2 := hJ.1.cell 1 2 rfl rfl
   try simp only [hd, hl, selV_true, selV_false]
  ·go_simp
   refine hK.out x _ _ ?_ ?_
   ·simp [hl, hd, selV_true, selV_false, upd]
   ·exact ⟨by simpa [hl] using hJ.1, by simpa [hl, hd] using hJ.2⟩
  ·have h3 := hs 3 _ rfl (by simp [Region.binds])
   go_simp
   refine hK.out (upd x 1 wx.heap.size) _ _ ?_ ?_
   ·simp [hl, hd, selV_true, selV_false, upd, h3]
   ·exact ⟨(Kg.cast (hJ.1.new 2 (liO [0, 1]) (by simp [hl, entO_no])) (by simp [entO_yes, entO_no, upd, h3])), by simpa [hl, hd, h3] using hJ.2⟩
  ·have h3 := hs 3 _ rfl (by simp [Region.binds])
   go_simp
   refine hK.out (upd x 2 wx.heap.size) _ _ ?_ ?_
   ·simp [hl, hd, selV_true, selV_false, upd, h3]
   ·exact ⟨(Kg.cast (hJ.1.new 3 (liO [1, 0]) (by simp [hl, entO_no])) (by simp [entO_yes, entO_no, upd, h3])), by simpa [hl, hd, h3] using hJ.2⟩
  ·go_simp
   refine hK.out (upd x 3 wx.heap.size) _ _ ?_ ?_
   ·simp [hl, hd, selV_true, selV_false, upd]
   ·exact ⟨(Kg.cast (hJ.1.new 4 (rwO [(x 1, 2), (x 2, 2)]) (by simp [hl, entO_no])) (by simp [entO_yes, entO_no, upd])), by simpa [hl, hd] using hJ.2⟩
  ·have hB := hJ.1
   have hp := hJ.2.1 (by simp [hd])
   simp only [hd, hp, and_self, entO_yes] at hB
   skip
   go_simp
   go_at_call 15
   with_reducible refine (HOB.out _ _ _ wx (hB.at_ 4 rfl) (hB.at_ 2 rfl) (hB.at_ 3 rfl)).mono ?_
   rintro e v ⟨g, rfl, hg, hLg, hb⟩
   refine hK.out (upd x 4 g) _ _ ?_ ?_
   ·simp [hl, hd, selV_true, selV_false, upd, hp]
   ·exact ⟨(Kg.cast (hJ.1.came 5 (by simp [hl, entO_no]) hb hg (o := (lwO (enc [0, 1, 1, 0]))) hLg) (by simp [entO_yes, entO_no, upd])), hJ.2⟩
  ·have h10 := hs 10 _ rfl (by simp [Region.binds])
   have h67 := hJ.2.2 hl
   have hB := hJ.1
   simp only [hd, entO_yes] at hB
   have hx1 : Lw wx gA (enc [1, 2, 3, 4]) := hB.at_ 0 rfl
   have hx2 : Lw wx (x 4) (enc [0, 1, 1, 0]) := hB.at_ 5 rfl
   go_simp
   go_at_call 43
   with_reducible refine (HMU.out gA (x 4) wx hx1 hx2).mono ?_
   rintro e v ⟨g, rfl, hg, hLg, hb⟩
   refine hK.out (upd x 5 g) _ _ ?_ ?_
   ·simp [hl, hd, selV_true, selV_false, upd, h67.1, h67.2]
   ·exact ⟨Kg.cast (hJ.1.came 6 (by simp [hl, entO_no]) hb hg (o := (lwO (enc [2, 1, 4, 3]))) hLg) (by simp [entO_yes, upd, h10]), by simpa [hl] using hJ.2.1, by simp⟩
  ·go_simp
   refine hK.out x _ _ ?_ ?_
   ·simp [hl, hd, selV_true, selV_false, upd]
   ·exact ⟨by simpa [hl] using hJ.1, by simpa [hl] using hJ.2.1, by simp [hd]⟩
  ·go_simp
   refine hK.out x _ _ ?_ ?_
   ·simp [hl, hd, selV_true, selV_false, upd]
   ·exact ⟨by simpa [hl] using hJ.1, by simpa [hl] using hJ.2.1, fun h => absurd (hJ.2.2 h).1 (by simp [hd])⟩
  ·go_simp
   refine hK.out x _ _ ?_ ?_
   ·simp [hl, hd, selV_true, selV_false, upd]
   ·exact ⟨by simpa [hl] using hJ.1, by simpa [hl, hd] using hJ.2⟩
  ·have h10 := hs 10 _ rfl (by simp [Region.binds])
   go_simp
   refine hK.out (upd x 9 wx.heap.size) _ _ ?_ ?_
   ·simp [hl, hd, selV_true, selV_false, upd, h10]
   ·exact ⟨Kg.cast (hJ.1.new 7 (mrow 0 0 none 0 0) (by simp [hl, entO_no])) (by simp [entO_yes, upd, h10]), by simpa [hl, hd] using hJ.2⟩
  ·have hB := hJ.1
   simp only [hl, hd, entO_yes, Bool.false_eq_true, if_false] at hB
   have f0 := hB.frozen 7 0 rfl
   have f1 := hB.frozen 7 1 rfl
   have f2 := hB.frozen 7 2 rfl
   have d0 := hB.cell 7 0 rfl rfl
   have d1 := hB.cell 7 1 rfl rfl
   have d2 := hB.cell 7 2 rfl rfl
   have HP := Lib.hid (((hB.put 7 0 rfl (.int .i64 2)).put 7 1 rfl (.int .i64 2)).put 7 2 rfl (.slice (some ⟨x 5, 0, none⟩) 4 4))
   clear hB
   go_simp
   refine hK.out x _ _ ?_ ?_
   ·simp [hl, hd, selV_true, selV_false, upd]
   ·exact ⟨Kg.cast HP.out (by simp [hd, entO_yes, mrow]), by simp [hl, hd]⟩
  ·go_simp
   refine hK.out x _ _ ?_ ?_
   ·simp [hl, hd, selV_true, selV_false, upd]
   ·exact ⟨by simpa [hl] using hJ.1, by simp [hl, hd]⟩
 ·rintro x2 V2 ⟨hK4, _⟩
  simp only [selA, selT_cons, selT_nil, List.set_cons_zero, List.set_cons_succ, List.getD_cons_zero, List.getD_cons_succ, selV_true]
  simp only [entO_yes, if_true] at hK4
  have HK4 := Lib.hid (show Kg none w V2 [some (gA, (lwO (enc [1, 2, 3, 4]))), some (bA, (mrow 2 2 (some ⟨gA, 0, none⟩) 4 4)), some (x2 5, (lwO (enc [2, 1, 4, 3]))), some (x2 9, (mrow 2 2 (some ⟨x2 5, 0, none⟩) 4 4))] from hK4.sel [0, 1, 6, 7] (by decide))
  clear hK4 HK3
  generalize x2 5 = gM at *
  generalize x2 9 = bM at *
  have e0 := HK4.out.cell 1 0 rfl rfl
  have e1 := HK4.out.cell 1 1 rfl rfl
  have e2 := HK4.out.cell 1 2 rfl rfl
  have hx : Lw V2 gA (enc [1, 2, 3, 4]) := HK4.out.at_ 0 rfl
  have hw := hTs _ _ HK4.out
  go_wp2_with fail
  with_reducible refine (HDE.out gA V2 hx hw).mono ?_
  rintro e V3 ⟨rfl, hb⟩
  have HK5 := Lib.hid ((((((HK4.out.step hb).more (wbox (wneg (-2)) (wmag (-2)))).more (liO [2, 1])).more (liO [1, 1])).more (rwO [(V3.heap.size + 1, 2), (V3.heap.size + 1 + 1, 2)])).cast (l' := [some (gA, (lwO (enc [1, 2, 3, 4]))), some (bA, (mrow 2 2 (some ⟨gA, 0, none⟩) 4 4)), some (gM, (lwO (enc [2, 1, 4, 3]))), some (bM, (mrow 2 2 (some ⟨gM, 0, none⟩) 4 4)), some (V3.heap.size, (wbox (wneg (-2)) (wmag (-2)))), some (V3.heap.size + 1, (liO [2, 1])), some (V3.heap.size + 1 + 1, (liO [1, 1])), some (V3.heap.size + 1 + 1 + 1, (rwO [(V3.heap.size + 1, 2), (V3.heap.size + 1 + 1, 2)]))]) (by simp))
  clear e0 e1 e2 hb HK4 hx hw
  go_wp2_with fail
  change Calls _ _ _ ((((V3.alloc (wbox (wneg (-2)) (wmag (-2)))).alloc (liO [2, 1])).alloc (liO [1, 1])).alloc (rwO [(V3.heap.size + 1, 2), (V3.heap.size + 1 + 1, 2)])) _
  generalize ((((V3.alloc (wbox (wneg (-2)) (wmag (-2)))).alloc (liO [2, 1])).alloc (liO [1, 1])).alloc (rwO [(V3.heap.size + 1, 2), (V3.heap.size + 1 + 1, 2)])) = V4 at *
  with_reducible refine (HOC.out _ _ _ V4 (HK5.out.at_ 7 rfl) (HK5.out.at_ 5 rfl) (HK5.out.at_ 6 rfl)).mono ?_
  rintro e V5 ⟨gC, rfl, hg, hL, hb⟩
  have hK6 := (HK5.out.room.came 8 rfl hb hg (o := (lwO (enc [2, 1, 1, 1]))) hL).sel [0, 1, 2, 3, 4, 8] (by decide)
  clear hg hL hb HK5
  generalize V3.heap.size = bD at *
  have HK6 := Lib.hid (show Kg none w V5 [some (gA, (lwO (enc [1, 2, 3, 4]))), some (bA, (mrow 2 2 (some ⟨gA, 0, none⟩) 4 4)), some (gM, (lwO (enc [2, 1, 4, 3]))), some (bM, (mrow 2 2 (some ⟨gM, 0, none⟩) 4 4)), some (bD, (wbox (wneg (-2)) (wmag (-2)))), some (gC, (lwO (enc [2, 1, 1, 1])))] from hK6)
  clear hK6
  have hx : Lw V5 gC (enc [2, 1, 1, 1]) := HK6.out.at_ 5 rfl
  have hw := hTs _ _ HK6.out
  go_wp2_with fail
  with_reducible refine (HI1.out gC V5 hx hw).mono ?_
  rintro e V6 ⟨gI, rfl, hg, hL, hb⟩
  have hK7 := ((HK6.out.room.came 6 rfl hb hg (o := (lwO (enc [1, -1, -1, 2]))) hL).more (mrow 2 2 (some ⟨gI, 0, none⟩) 4 4)).sel [0, 1, 2, 3, 4, 6, 7] (by decide)
  have HK7 := Lib.hid (show Kg none w (V6.alloc (mrow 2 2 (some ⟨gI, 0, none⟩) 4 4)) [some (gA, (lwO (enc [1, 2, 3, 4]))), some (bA, (mrow 2 2 (some ⟨gA, 0, none⟩) 4 4)), some (gM, (lwO (enc [2, 1, 4, 3]))), some (bM, (mrow 2 2 (some ⟨gM, 0, none⟩) 4 4)), some (bD, (wbox (wneg (-2)) (wmag (-2)))), some (gI, (lwO (enc [1, -1, -1, 2]))), some (V6.heap.size, (mrow 2 2 (some ⟨gI, 0, none⟩) 4 4))] from hK7)
  clear hg hL hb HK6 hx hw hK7
  have e0 := HK7.out.cell 1 0 rfl rfl
  have e1 := HK7.out.cell 1 1 rfl rfl
  have e2 := HK7.out.cell 1 2 rfl rfl
  unfold mrow at e0 e1 e2
  go_wp2_with fail
  change Calls _ _ _ (V6.alloc (mrow 2 2 (some ⟨gI, 0, none⟩) 4 4)) _
  clear e0 e1 e2
  generalize V6.alloc (mrow 2 2 (some ⟨gI, 0, none⟩) 4 4) = V7 at *
  generalize V6.heap.size = bI at *
  have hx : Lw V7 gA (enc [1, 2, 3, 4]) := HK7.out.at_ 0 rfl
  have hw := hTs _ _ HK7.out
  with_reducible refine (HI2.out gA V7 hx hw).mono ?_
  rintro e V8 ⟨rfl, hb⟩
  have HK8 := Lib.hid ((((((HK7.out.step hb).more (mrow 0 0 none 0 0)).more (liO [1, 2, 3])).more (liO [4, 5, 6])).more (rwO [(V8.heap.size + 1, 3), (V8.heap.size + 1 + 1, 3)])).cast (l' := [some (gA, (lwO (enc [1, 2, 3, 4]))), some (bA, (mrow 2 2 (some ⟨gA, 0, none⟩) 4 4)), some (gM, (lwO (enc [2, 1, 4, 3]))), some (bM, (mrow 2 2 (some ⟨gM, 0, none⟩) 4 4)), some (bD, (wbox (wneg (-2)) (wmag (-2)))), some (gI, (lwO (enc [1, -1, -1, 2]))), some (bI, (mrow 2 2 (some ⟨gI, 0, none⟩) 4 4)), some (V8.heap.size, (mrow 0 0 none 0 0)), some (V8.heap.size + 1, (liO [1, 2, 3])), some (V8.heap.size + 1 + 1, (liO [4, 5, 6])), some (V8.heap.size + 1 + 1 + 1, (rwO [(V8.heap.size + 1, 3), (V8.heap.size + 1 + 1, 3)]))]) (by simp))
  clear hb HK7 hx hw
  go_wp2_with fail
  change Calls _ _ _ ((((V8.alloc (mrow 0 0 none 0 0)).alloc (liO [1, 2, 3])).alloc (liO [4, 5, 6])).alloc (rwO [(V8.heap.size + 1, 3), (V8.heap.size + 1 + 1, 3)])) _
  generalize ((((V8.alloc (mrow 0 0 none 0 0)).alloc (liO [1, 2, 3])).alloc (liO [4, 5, 6])).alloc (rwO [(V8.heap.size + 1, 3), (V8.heap.size + 1 + 1, 3)])) = V9 at *
  with_reducible refine (HOD.out _ _ _ V9 (HK8.out.at_ 10 rfl) (HK8.out.at_ 8 rfl) (HK8.out.at_ 9 rfl)).mono ?_
  rintro e V10 ⟨gD, rfl, hg, hL, hb⟩
  have HK9 := Lib.hid (show Kg none w V10 [some (gA, (lwO (enc [1, 2, 3, 4]))), some (bA, (mrow 2 2 (some ⟨gA, 0, none⟩) 4 4)), some (gM, (lwO (enc [2, 1, 4, 3]))), some (bM, (mrow 2 2 (some ⟨gM, 0, none⟩) 4 4)), some (bD, (wbox (wneg (-2)) (wmag (-2)))), some (gI, (lwO (enc [1, -1, -1, 2]))), some (bI, (mrow 2 2 (some ⟨gI, 0, none⟩) 4 4)), some (gD, (lwO (enc [1, 2, 3, 4, 5, 6])))] from (HK8.out.room.came 11 rfl hb hg (o := (lwO (enc [1, 2, 3, 4, 5, 6]))) hL).sel [0, 1, 2, 3, 4, 5, 6, 11] (by decide))
  clear hg hL hb HK8
  have hx : Lw V10 gD (enc [1, 2, 3, 4, 5, 6]) := HK9.out.at_ 7 rfl
  go_wp2_with fail
  with_reducible refine (HPA.out gD V10 hx).mono ?_
  rintro e V11 ⟨gP, rfl, hg, hL, hb⟩
  have hK10 := ((HK9.out.room.came 8 rfl hb hg (o := (lwO (enc [5, 6]))) hL).more (mrow 1 2 (some ⟨gP, 0, none⟩) 2 2)).sel [0, 1, 2, 3, 4, 5, 6, 8, 9] (by decide)
  clear hg hL hb HK9 hx
  go_wp2_with fail
  change Code.wp _ _ _ _ (V11.alloc (mrow 1 2 (some ⟨gP, 0, none⟩) 2 2))
  generalize V11.alloc (mrow 1 2 (some ⟨gP, 0, none⟩) 2 2) = V12 at *
  generalize V11.heap.size = bP at *
  have HK10 := Lib.hid (show Kg none w V12 [some (gA, (lwO (enc [1, 2, 3, 4]))), some (bA, (mrow 2 2 (some ⟨gA, 0, none⟩) 4 4)), some (gM, (lwO (enc [2, 1, 4, 3]))), some (bM, (mrow 2 2 (some ⟨gM, 0, none⟩) 4 4)), some (bD, (wbox (wneg (-2)) (wmag (-2)))), some (gI, (lwO (enc [1, -1, -1, 2]))), some (bI, (mrow 2 2 (some ⟨gI, 0, none⟩) 4 4)), some (gP, (lwO (enc [5, 6]))), some (bP, (mrow 1 2 (some ⟨gP, 0, none⟩) 2 2))] from hK10)
  clear hK10
  refine wp_region_acts (X := Nat → Nat) (fun x => [(0, 52, .slice (some ⟨x 0, 0, none⟩) 2 2), (1, 53, .slice (some ⟨x 1, 0, none⟩) 1 1), (2, 54, .slice (some ⟨x 2, 0, none⟩) 2 2), (3, 55, .agg #[.int .i64 2, .int .i64 2, .slice (some ⟨x 3, 0, none⟩) 4 4]), (4, 56, .slice (some ⟨x 4, 0, none⟩) 2 2), (5, 57, .slice (some ⟨x 5, 0, none⟩) 2 2), (6, 58, .slice (some ⟨x 6, 0, none⟩) 2 2), (7, 59, .agg #[.int .i64 2, .int .i64 2, .slice (some ⟨x 7, 0, none⟩) 4 4]), (8, 60, .bool true), (9, 61, .bool true), (10, 62, .bool true), (11, 63, .bool true), (12, 64, .bool true), (13, 65, .agg #[.int .i64 2, .int .i64 2, .slice (some ⟨gM, 0, none⟩) 4 4]), (14, 66, .slice (some ⟨x 14, 0, none⟩) 2 2), (15, 67, .slice (some ⟨x 15, 0, none⟩) 2 2), (16, 68, .slice (some ⟨x 16, 0, none⟩) 2 2), (17, 69, .agg #[.int .i64 2, .int .i64 2, .slice (some ⟨x 17, 0, none⟩) 4 4]), (18, 70, .bool true), (19, 71, .bool true), (20, 12, .bool true)])
   (fun x L W => Kg none w W [some (gA, (lwO (enc [1, 2, 3, 4]))), some (bA, (mrow 2 2 (some ⟨gA, 0, none⟩) 4 4)), some (gM, (lwO (enc [2, 1, 4, 3]))), some (bM, (mrow 2 2 (some ⟨gM, 0, none⟩) 4 4)), some (bD, (wbox (wneg (-2)) (wmag (-2)))), some (gI, (lwO (enc [1, -1, -1, 2]))), some (bI, (mrow 2 2 (some ⟨gI, 0, none⟩) 4 4)), some (gP, (lwO (enc [5, 6]))), some (bP, (mrow 1 2 (some ⟨gP, 0, none⟩) 2 2)), entO (L 0) (x 0) (liO [1, 2]), entO (L 1) (x 1) (liO [3]), entO (L 2) (x 2) (rwO [(x 0, 2), (x 1, 1)]), entO (L 3) (x 3) (lwO (enc [1, 2, 3, 0])), entO (L 4) (x 4) (liO [1, 2]), entO (L 5) (x 5) (liO [3, 0]), entO (L 6) (x 6) (rwO [(x 4, 2), (x 5, 2)]), entO (L 7) (x 7) (lwO (enc [1, 2, 3, 0])), entO (L 14) (x 14) (liO [2, 1]), entO (L 15) (x 15) (liO [4, 3]), entO (L 16) (x 16) (rwO [(x 14, 2), (x 15, 2)]), entO (L 17) (x 17) (lwO (enc [2, 1, 4, 3]))] ∧ (L 2 = true → L 0 = true ∧ L 1 = true) ∧ (L 6 = true → L 4 = true ∧ L 5 = true) ∧ (L 16 = true → L 14 = true ∧ L 15 = true)) (by kernel_rfl) (by kernel_rfl) (fun _ => 0) ?st (by kernel_rfl) ?_ ?_
  case st => exact ⟨by simpa [entO_no] using HK10.out.drew.room.room.room.room.room.room.room.room.room.room.room.room, fun h => by simp at h, fun h => by simp at h, fun h => by simp at h⟩
  ·simp only [selA, selT_cons, selT_nil, List.set_cons_zero, List.set_cons_succ, List.getD_cons_zero, List.getD_cons_succ]
   repeat' (first | exact ActSteps.nil | refine ActSteps.cons ?_ ?_)
   all_goals
    intro L x wx hJ hl hd hs K hK
    (try simp [Region.binds] at hd)
    have e0 := hJ.1.cell 3 0 rfl rfl
    have e1 := hJ.1.cell 3 1 rfl rfl
    have e2 := hJ.1.cell 3 2 rfl rfl
    try simp only [hd, hl, selV_true, selV_false]
   ·have h2 := hs 2 _ rfl (by simp [Region.binds])
    go_simp
    refine hK.out (upd x 0 wx.heap.size) _ _ ?_ ?_
    ·simp [hl, hd, selV_true, selV_false, upd, h2]
    ·exact ⟨(Kg.cast (hJ.1.new 9 (liO [1, 2]) (by simp [hl, entO_no])) (by simp [entO_yes, entO_no, upd, h2])), by simpa [hl, hd, h2] using hJ.2⟩
   ·have h2 := hs 2 _ rfl (by simp [Region.binds])
    go_simp
    refine hK.out (upd x 1 wx.heap.size) _ _ ?_ ?_
    ·simp [hl, hd, selV_true, selV_false, upd, h2]
    ·exact ⟨(Kg.cast (hJ.1.new 10 (liO [3]) (by simp [hl, entO_no])) (by simp [entO_yes, entO_no, upd, h2])), by simpa [hl, hd, h2] using hJ.2⟩
   ·go_simp
    refine hK.out (upd x 2 wx.heap.size) _ _ ?_ ?_
    ·simp [hl, hd, selV_true, selV_false, upd]
    ·exact ⟨(Kg.cast (hJ.1.new 11 (rwO [(x 0, 2), (x 1, 1)]) (by simp [hl, entO_no])) (by simp [entO_yes, entO_no, upd])), by simpa [hl, hd] using hJ.2⟩
   ·have hB := hJ.1
    have hp := hJ.2.1 (by simp [hd])
    simp only [hd, hp, and_self, entO_yes] at hB
    skip
    go_simp
    go_at_call 15
    with_reducible refine (HOE.out _ _ _ wx (hB.at_ 11 rfl) (hB.at_ 9 rfl) (hB.at_ 10 rfl)).mono ?_
    rintro e v ⟨g, rfl, hg, hLg, hb⟩
    refine hK.out (upd x 3 g) _ _ ?_ ?_
    ·simp [hl, hd, selV_true, selV_false, upd, hp]
    ·exact ⟨(Kg.cast (hJ.1.came 12 (by simp [hl, entO_no]) hb hg (o := (lwO (enc [1, 2, 3, 0]))) hLg) (by simp [entO_yes, entO_no, upd])), hJ.2⟩
   ·have h6 := hs 6 _ rfl (by simp [Region.binds])
    go_simp
    refine hK.out (upd x 4 wx.heap.size) _ _ ?_ ?_
    ·simp [hl, hd, selV_true, selV_false, upd, h6]
    ·exact ⟨(Kg.cast (hJ.1.new 13 (liO [1, 2]) (by simp [hl, entO_no])) (by simp [entO_yes, entO_no, upd, h6])), by simpa [hl, hd, h6] using hJ.2⟩
   ·have h6 := hs 6 _ rfl (by simp [Region.binds])
    go_simp
    refine hK.out (upd x 5 wx.heap.size) _ _ ?_ ?_
    ·simp [hl, hd, selV_true, selV_false, upd, h6]
    ·exact ⟨(Kg.cast (hJ.1.new 14 (liO [3, 0]) (by simp [hl, entO_no])) (by simp [entO_yes, entO_no, upd, h6])), by simpa [hl, hd, h6] using hJ.2⟩
   ·go_simp
    refine hK.out (upd x 6 wx.heap.size) _ _ ?_ ?_
    ·simp [hl, hd, selV_true, selV_false, upd]
    ·exact ⟨(Kg.cast (hJ.1.new 15 (rwO [(x 4, 2), (x 5, 2)]) (by simp [hl, entO_no])) (by simp [entO_yes, entO_no, upd])), by simpa [hl, hd] using hJ.2⟩
   ·have hB := hJ.1
    have hp := hJ.2.2.1 (by simp [hd])
    simp only [hd, hp, and_self, entO_yes] at hB
    skip
    go_simp
    go_at_call 15
    with_reducible refine (HOF.out _ _ _ wx (hB.at_ 15 rfl) (hB.at_ 13 rfl) (hB.at_ 14 rfl)).mono ?_
    rintro e v ⟨g, rfl, hg, hLg, hb⟩
    refine hK.out (upd x 7 g) _ _ ?_ ?_
    ·simp [hl, hd, selV_true, selV_false, upd, hp]
    ·exact ⟨(Kg.cast (hJ.1.came 16 (by simp [hl, entO_no]) hb hg (o := (lwO (enc [1, 2, 3, 0]))) hLg) (by simp [entO_yes, entO_no, upd])), hJ.2⟩
   ·have hB := hJ.1
    simp only [hd, entO_yes] at hB
    have hx1 : Lw wx (x 3) (enc [1, 2, 3, 0]) := hB.at_ 12 rfl
    have hx2 : Lw wx (x 7) (enc [1, 2, 3, 0]) := hB.at_ 16 rfl
    skip
    go_simp
    go_at_call 38
    with_reducible refine (HEQ.out [1, 2, 3, 0] 2 (x 3) (x 7) 4 wx hx1.rdw hx2.rdw rfl (by omega) (by decide +kernel)).mono ?_
    rintro e v ⟨rfl, hb⟩
    refine hK.out x _ _ ?_ ?_
    ·simp [hl, hd, selV_true, selV_false, upd]
    ·exact ⟨hJ.1.step hb, hJ.2⟩
   ·go_simp
    refine hK.out x _ _ ?_ ?_
    ·simp [hl, hd, selV_true, selV_false, upd]
    ·exact hJ
   ·rw [if_pos (by kernel_rfl)]
    go_simp
    refine hK.out x _ _ ?_ ?_
    ·simp [hl, hd, selV_true, selV_false, upd]
    ·exact hJ
   ·go_simp
    refine hK.out x _ _ ?_ ?_
    ·simp [hl, hd, selV_true, selV_false, upd]
    ·exact hJ
   ·go_simp
    refine hK.out x _ _ ?_ ?_
    ·simp [hl, hd, selV_true, selV_false, upd]
    ·exact hJ
   ·rw [if_pos (by kernel_rfl)]
    go_simp
    refine hK.out x _ _ ?_ ?_
    ·simp [hl, hd, selV_true, selV_false, upd]
    ·exact hJ
   ·have h16 := hs 16 _ rfl (by simp [Region.binds])
    rw [if_pos (by kernel_rfl)]
    go_simp
    refine hK.out (upd x 14 wx.heap.size) _ _ ?_ ?_
    ·simp [hl, hd, selV_true, selV_false, upd, h16]
    ·exact ⟨(Kg.cast (hJ.1.new 17 (liO [2, 1]) (by simp [hl, entO_no])) (by simp [entO_yes, entO_no, upd, h16])), by simpa [hl, hd, h16] using hJ.2⟩
   ·have h16 := hs 16 _ rfl (by simp [Region.binds])
    rw [if_pos (by kernel_rfl)]
    go_simp
    refine hK.out (upd x 15 wx.heap.size) _ _ ?_ ?_
    ·simp [hl, hd, selV_true, selV_false, upd, h16]
    ·exact ⟨(Kg.cast (hJ.1.new 18 (liO [4, 3]) (by simp [hl, entO_no])) (by simp [entO_yes, entO_no, upd, h16])), by simpa [hl, hd, h16] using hJ.2⟩
   ·rw [if_pos (by kernel_rfl)]
    go_simp
    refine hK.out (upd x 16 wx.heap.size) _ _ ?_ ?_
    ·simp [hl, hd, selV_true, selV_false, upd]
    ·exact ⟨(Kg.cast (hJ.1.new 19 (rwO [(x 14, 2), (x 15, 2)]) (by simp [hl, entO_no])) (by simp [entO_yes, entO_no, upd])), by simpa [hl, hd] using hJ.2⟩
   ·have hB := hJ.1
    have hp := hJ.2.2.2 (by simp [hd])
    simp only [hd, hp, and_self, entO_yes] at hB
    rw [if_pos (by kernel_rfl)]
    go_simp
    go_at_call 15
    with_reducible refine (HOG.out _ _ _ wx (hB.at_ 19 rfl) (hB.at_ 17 rfl) (hB.at_ 18 rfl)).mono ?_
    rintro e v ⟨g, rfl, hg, hLg, hb⟩
    refine hK.out (upd x 17 g) _ _ ?_ ?_
    ·simp [hl, hd, selV_true, selV_false, upd, hp]
    ·exact ⟨(Kg.cast (hJ.1.came 20 (by simp [hl, entO_no]) hb hg (o := (lwO (enc [2, 1, 4, 3]))) hLg) (by simp [entO_yes, entO_no, upd])), hJ.2⟩
   ·have hB := hJ.1
    simp only [hd, entO_yes] at hB
    have hx1 : Lw wx gM (enc [2, 1, 4, 3]) := hB.at_ 2 rfl
    have hx2 : Lw wx (x 17) (enc [2, 1, 4, 3]) := hB.at_ 20 rfl
    rw [if_pos (by kernel_rfl)]
    go_simp
    go_at_call 38
    with_reducible refine (HEQ.out [2, 1, 4, 3] 2 gM (x 17) 4 wx hx1.rdw hx2.rdw rfl (by omega) (by decide +kernel)).mono ?_
    rintro e v ⟨rfl, hb⟩
    refine hK.out x _ _ ?_ ?_
    ·simp [hl, hd, selV_true, selV_false, upd]
    ·exact ⟨hJ.1.step hb, hJ.2⟩
   ·go_simp
    refine hK.out x _ _ ?_ ?_
    ·simp [hl, hd, selV_true, selV_false, upd]
    ·exact hJ
   ·go_simp
    refine hK.out x _ _ ?_ ?_
    ·simp [hl, hd, selV_true, selV_false, upd]
    ·exact hJ
  ·rintro x7 V13 ⟨hK11, _⟩
   simp only [selA, selT_cons, selT_nil, List.set_cons_zero, List.set_cons_succ, List.getD_cons_zero, List.getD_cons_succ, selV_true]
   have HK11 := Lib.hid (show Kg none w V13 [some (gA, (lwO (enc [1, 2, 3, 4]))), some (bA, (mrow 2 2 (some ⟨gA, 0, none⟩) 4 4)), some (gM, (lwO (enc [2, 1, 4, 3]))), some (bM, (mrow 2 2 (some ⟨gM, 0, none⟩) 4 4)), some (bD, (wbox (wneg (-2)) (wmag (-2)))), some (gI, (lwO (enc [1, -1, -1, 2]))), some (bI, (mrow 2 2 (some ⟨gI, 0, none⟩) 4 4)), some (gP, (lwO (enc [5, 6]))), some (bP, (mrow 1 2 (some ⟨gP, 0, none⟩) 2 2))] from hK11.sel [0, 1, 2, 3, 4, 5, 6, 7, 8] (by decide))
   clear hK11 HK10
   go_wp2_with fail
   refine wp_region_acts (X := Nat → Nat) (fun x => [(0, 72, .bool true), (1, 73, .bool true), (2, 74, .bool true), (3, 75, .bool true), (4, 76, .bool true), (5, 77, .agg #[.bool (wneg (-2)), .string (wmag (-2))]), (6, 78, .agg #[.bool (wneg (-2)), .string (wmag (-2))]), (7, 79, .bool true), (8, 80, .bool true), (9, 81, .bool true), (10, 82, .bool true), (11, 83, .bool true), (12, 84, .bool true), (13, 85, .agg #[.int .i64 2, .int .i64 2, .slice (some ⟨gI, 0, none⟩) 4 4]), (14, 86, .slice (some ⟨x 14, 0, none⟩) 2 2), (15, 87, .slice (some ⟨x 15, 0, none⟩) 2 2), (16, 88, .slice (some ⟨x 16, 0, none⟩) 2 2), (17, 89, .agg #[.int .i64 2, .int .i64 2, .slice (some ⟨x 17, 0, none⟩) 4 4]), (18, 90, .bool true), (19, 91, .bool true), (20, 92, .bool true), (21, 93, .bool false), (22, 94, .bool true), (23, 95, .bool true), (24, 96, .bool true), (25, 97, .bool true), (26, 98, .bool true), (27, 99, .bool true), (28, 100, .agg #[.int .i64 1, .int .i64 2, .slice (some ⟨gP, 0, none⟩) 2 2]), (29, 101, .slice (some ⟨x 29, 0, none⟩) 2 2), (30, 102, .slice (some ⟨x 30, 0, none⟩) 1 1), (31, 103, .agg #[.int .i64 1, .int .i64 2, .slice (some ⟨x 31, 0, none⟩) 2 2]), (32, 104, .bool true), (33, 105, .bool true), (34, 0, .bool true)])
    (fun x L W => Kg none w W [some (gA, (lwO (enc [1, 2, 3, 4]))), some (bA, (mrow 2 2 (some ⟨gA, 0, none⟩) 4 4)), some (gM, (lwO (enc [2, 1, 4, 3]))), some (bM, (mrow 2 2 (some ⟨gM, 0, none⟩) 4 4)), some (bD, (wbox (wneg (-2)) (wmag (-2)))), some (gI, (lwO (enc [1, -1, -1, 2]))), some (bI, (mrow 2 2 (some ⟨gI, 0, none⟩) 4 4)), some (gP, (lwO (enc [5, 6]))), some (bP, (mrow 1 2 (some ⟨gP, 0, none⟩) 2 2)), entO (L 14) (x 14) (liO [1, -1]), entO (L 15) (x 15) (liO [-1, 2]), entO (L 16) (x 16) (rwO [(x 14, 2), (x 15, 2)]), entO (L 17) (x 17) (lwO (enc [1, -1, -1, 2])), entO (L 29) (x 29) (liO [5, 6]), entO (L 30) (x 30) (rwO [(x 29, 2)]), entO (L 31) (x 31) (lwO (enc [5, 6]))] ∧ (L 16 = true → L 14 = true ∧ L 15 = true) ∧ (L 30 = true → L 29 = true)) (by kernel_rfl) (by kernel_rfl) (fun _ => 0) ?st (by kernel_rfl) ?_ ?_
   case st => exact ⟨by simpa [entO_no] using HK11.out.drew.room.room.room.room.room.room.room, fun h => by simp at h, fun h => by simp at h⟩
   ·simp only [selA, selT_cons, selT_nil, List.set_cons_zero, List.set_cons_succ, List.getD_cons_zero, List.getD_cons_succ]
    repeat' (first | exact ActSteps.nil | refine ActSteps.cons ?_ ?_)
    all_goals
     intro L x wx hJ hl hd hs K hK
     (try simp [Region.binds] at hd)
     have e0 := hJ.1.cell 4 0 rfl rfl
     have e1 := hJ.1.cell 4 1 rfl rfl
     have a0 := hJ.1.cell 6 0 rfl rfl
     have a1 := hJ.1.cell 6 1 rfl rfl
     have a2 := hJ.1.cell 6 2 rfl rfl
     have b0 := hJ.1.cell 8 0 rfl rfl
     have b1 := hJ.1.cell 8 1 rfl rfl
     have b2 := hJ.1.cell 8 2 rfl rfl
     try simp only [hd, hl, selV_true, selV_false]
    ·go_simp
     refine hK.out x _ _ ?_ ?_
     ·simp [hl, hd, selV_true, selV_false, upd]
     ·exact hJ
    ·go_simp
     refine hK.out x _ _ ?_ ?_
     ·simp [hl, hd, selV_true, selV_false, upd]
     ·exact hJ
    ·rw [if_pos (by kernel_rfl)]
     go_simp
     refine hK.out x _ _ ?_ ?_
     ·simp [hl, hd, selV_true, selV_false, upd]
     ·exact hJ
    ·go_simp
     refine hK.out x _ _ ?_ ?_
     ·simp [hl, hd, selV_true, selV_false, upd]
     ·exact hJ
    ·go_simp
     refine hK.out x _ _ ?_ ?_
     ·simp [hl, hd, selV_true, selV_false, upd]
     ·exact hJ
    ·rw [if_pos (by kernel_rfl)]
     go_simp
     refine hK.out x _ _ ?_ ?_
     ·simp [hl, hd, selV_true, selV_false, upd]
     ·exact hJ
    ·rw [if_pos (by kernel_rfl)]
     go_simp
     go_at_call 56
     with_reducible refine (HRF.out _).mono ?_
     rintro e v ⟨rfl, hb⟩
     refine hK.out x _ _ ?_ ?_
     ·simp [hl, hd, selV_true, selV_false, upd]
     ·exact ⟨hJ.1.step hb, hJ.2⟩
    ·rw [if_pos (by kernel_rfl)]
     go_simp
     refine hK.out x _ _ ?_ ?_
     ·simp [hl, hd, selV_true, selV_false, upd]
     ·exact hJ
    ·go_simp
     refine hK.out x _ _ ?_ ?_
     ·simp [hl, hd, selV_true, selV_false, upd]
     ·exact hJ
    ·go_simp
     refine hK.out x _ _ ?_ ?_
     ·simp [hl, hd, selV_true, selV_false, upd]
     ·exact hJ
    ·rw [if_pos (by kernel_rfl)]
     go_simp
     refine hK.out x _ _ ?_ ?_
     ·simp [hl, hd, selV_true, selV_false, upd]
     ·exact hJ
    ·go_simp
     refine hK.out x _ _ ?_ ?_
     ·simp [hl, hd, selV_true, selV_false, upd]
     ·exact hJ
    ·go_simp
     refine hK.out x _ _ ?_ ?_
     ·simp [hl, hd, selV_true, selV_false, upd]
     ·exact hJ
    ·rw [if_pos (by kernel_rfl)]
     go_simp
     refine hK.out x _ _ ?_ ?_
     ·simp [hl, hd, selV_true, selV_false, upd]
     ·exact hJ
    ·have h16 := hs 16 _ rfl (by simp [Region.binds])
     rw [if_pos (by kernel_rfl)]
     go_simp
     refine hK.out (upd x 14 wx.heap.size) _ _ ?_ ?_
     ·simp [hl, hd, selV_true, selV_false, upd, h16]
     ·exact ⟨(Kg.cast (hJ.1.new 9 (liO [1, -1]) (by simp [hl, entO_no])) (by simp [entO_yes, entO_no, upd, h16])), by simpa [hl, hd, h16] using hJ.2⟩
    ·have h16 := hs 16 _ rfl (by simp [Region.binds])
     rw [if_pos (by kernel_rfl)]
     go_simp
     refine hK.out (upd x 15 wx.heap.size) _ _ ?_ ?_
     ·simp [hl, hd, selV_true, selV_false, upd, h16]
     ·exact ⟨(Kg.cast (hJ.1.new 10 (liO [-1, 2]) (by simp [hl, entO_no])) (by simp [entO_yes, entO_no, upd, h16])), by simpa [hl, hd, h16] using hJ.2⟩
    ·rw [if_pos (by kernel_rfl)]
     go_simp
     refine hK.out (upd x 16 wx.heap.size) _ _ ?_ ?_
     ·simp [hl, hd, selV_true, selV_false, upd]
     ·exact ⟨(Kg.cast (hJ.1.new 11 (rwO [(x 14, 2), (x 15, 2)]) (by simp [hl, entO_no])) (by simp [entO_yes, entO_no, upd])), by simpa [hl, hd] using hJ.2⟩
    ·have hB := hJ.1
     have hp := hJ.2.1 (by simp [hd])
     simp only [hd, hp, and_self, entO_yes] at hB
     rw [if_pos (by kernel_rfl)]
     go_simp
     go_at_call 15
     with_reducible refine (HOI.out _ _ _ wx (hB.at_ 11 rfl) (hB.at_ 9 rfl) (hB.at_ 10 rfl)).mono ?_
     rintro e v ⟨g, rfl, hg, hLg, hb⟩
     refine hK.out (upd x 17 g) _ _ ?_ ?_
     ·simp [hl, hd, selV_true, selV_false, upd, hp]
     ·exact ⟨(Kg.cast (hJ.1.came 12 (by simp [hl, entO_no]) hb hg (o := (lwO (enc [1, -1, -1, 2]))) hLg) (by simp [entO_yes, entO_no, upd])), hJ.2⟩
    ·have hB := hJ.1
     simp only [hd, entO_yes] at hB
     have hx1 : Lw wx gI (enc [1, -1, -1, 2]) := hB.at_ 5 rfl
     have hx2 : Lw wx (x 17) (enc [1, -1, -1, 2]) := hB.at_ 12 rfl
     rw [if_pos (by kernel_rfl)]
     go_simp
     go_at_call 38
     with_reducible refine (HEQ.out [1, -1, -1, 2] 2 gI (x 17) 4 wx hx1.rdw hx2.rdw rfl (by omega) (by decide +kernel)).mono ?_
     rintro e v ⟨rfl, hb⟩
     refine hK.out x _ _ ?_ ?_
     ·simp [hl, hd, selV_true, selV_false, upd]
     ·exact ⟨hJ.1.step hb, hJ.2⟩
    ·go_simp
     refine hK.out x _ _ ?_ ?_
     ·simp [hl, hd, selV_true, selV_false, upd]
     ·exact hJ
    ·go_simp
     refine hK.out x _ _ ?_ ?_
     ·simp [hl, hd, selV_true, selV_false, upd]
     ·exact hJ
    ·rw [if_pos (by kernel_rfl)]
     go_simp
     refine hK.out x _ _ ?_ ?_
     ·simp [hl, hd, selV_true, selV_false, upd]
     ·exact hJ
    ·rw [if_pos (by kernel_rfl)]
     go_simp
     refine hK.out x _ _ ?_ ?_
     ·simp [hl, hd, selV_true, selV_false, upd]
     ·exact hJ
    ·go_simp
     refine hK.out x _ _ ?_ ?_
     ·simp [hl, hd, selV_true, selV_false, upd]
     ·exact hJ
    ·go_simp
     refine hK.out x _ _ ?_ ?_
     ·simp [hl, hd, selV_true, selV_false, upd]
     ·exact hJ
    ·rw [if_pos (by kernel_rfl)]
     go_simp
     refine hK.out x _ _ ?_ ?_
     ·simp [hl, hd, selV_true, selV_false, upd]
     ·exact hJ
    ·go_simp
     refine hK.out x _ _ ?_ ?_
     ·simp [hl, hd, selV_true, selV_false, upd]
     ·exact hJ
    ·go_simp
     refine hK.out x _ _ ?_ ?_
     ·simp [hl, hd, selV_true, selV_false, upd]
     ·exact hJ
    ·rw [if_pos (by kernel_rfl)]
     go_simp
     refine hK.out x _ _ ?_ ?_
     ·simp [hl, hd, selV_true, selV_false, upd]
     ·exact hJ
    ·have h30 := hs 30 _ rfl (by simp [Region.binds])
     rw [if_pos (by kernel_rfl)]
     go_simp
     refine hK.out (upd x 29 wx.heap.size) _ _ ?_ ?_
     ·simp [hl, hd, selV_true, selV_false, upd, h30]
     ·exact ⟨(Kg.cast (hJ.1.new 13 (liO [5, 6]) (by simp [hl, entO_no])) (by simp [entO_yes, entO_no, upd, h30])), by simpa [hl, hd, h30] using hJ.2⟩
    ·rw [if_pos (by kernel_rfl)]
     go_simp
     refine hK.out (upd x 30 wx.heap.size) _ _ ?_ ?_
     ·simp [hl, hd, selV_true, selV_false, upd]
     ·exact ⟨(Kg.cast (hJ.1.new 14 (rwO [(x 29, 2)]) (by simp [hl, entO_no])) (by simp [entO_yes, entO_no, upd])), by simpa [hl, hd] using hJ.2⟩
    ·have hB := hJ.1
     have hp := hJ.2.2 (by simp [hd])
     simp only [hd, hp, and_self, entO_yes] at hB
     rw [if_pos (by kernel_rfl)]
     go_simp
     go_at_call 15
     with_reducible refine (HOJ.out _ _ wx (hB.at_ 14 rfl) (hB.at_ 13 rfl)).mono ?_
     rintro e v ⟨g, rfl, hg, hLg, hb⟩
     refine hK.out (upd x 31 g) _ _ ?_ ?_
     ·simp [hl, hd, selV_true, selV_false, upd, hp]
     ·exact ⟨(Kg.cast (hJ.1.came 15 (by simp [hl, entO_no]) hb hg (o := (lwO (enc [5, 6]))) hLg) (by simp [entO_yes, entO_no, upd])), hJ.2⟩
    ·have hB := hJ.1
     simp only [hd, entO_yes] at hB
     have hx1 : Lw wx gP (enc [5, 6]) := hB.at_ 7 rfl
     have hx2 : Lw wx (x 31) (enc [5, 6]) := hB.at_ 15 rfl
     rw [if_pos (by kernel_rfl)]
     go_simp
     go_at_call 38
     with_reducible refine (HEQ.out [5, 6] 1 gP (x 31) 2 wx hx1.rdw hx2.rdw rfl (by omega) (by decide +kernel)).mono ?_
     rintro e v ⟨rfl, hb⟩
     refine hK.out x _ _ ?_ ?_
     ·simp [hl, hd, selV_true, selV_false, upd]
     ·exact ⟨hJ.1.step hb, hJ.2⟩
    ·go_simp
     refine hK.out x _ _ ?_ ?_
     ·simp [hl, hd, selV_true, selV_false, upd]
     ·exact hJ
    ·go_simp
     refine hK.out x _ _ ?_ ?_
     ·simp [hl, hd, selV_true, selV_false, upd]
     ·exact hJ
   ·rintro x8 V14 ⟨hK12, _⟩
    simp only [selA, selT_cons, selT_nil, List.set_cons_zero, List.set_cons_succ, List.getD_cons_zero, List.getD_cons_succ, selV_true]
    go_wp2
    go_ret
    exact ⟨rfl, ⟨hK12.1.os, hK12.1.tape, hK12.1.output, hK12.1.size, fun i hi => hK12.1.block i hi (by simp)⟩⟩
end Go.Proofs.YtknaghdoffigjaaGreatDoor
