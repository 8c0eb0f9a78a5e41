import Derived.Test.YtknaghdoffigjaaGreatDoorZMMulR
import Derived.Test.YtknaghdoffigjaaGreatDoorZRDig
set_option linter.unusedSimpArgs false
set_option linter.unusedVariables false
set_option linter.unnecessarySimpa false
namespace Go.Proofs.YtknaghdoffigjaaGreatDoor
open Go.RowKit Go
attribute [local go_sem] Oper.semAt_some
theorem Add_both (r1 c1 r2 c2 NA NB : Nat) (xs ys : List Int) (hlA : xs.length = r1 * c1) (hNA : NA = r1 * c1) (hmA : NA ≤ maxLen) (hlB : ys.length = r2 * c2) (hNB : NB = r2 * c2) (hmB : NB ≤ maxLen) (hr1 : r1 ≤ 200) (hc1 : c1 ≤ 200) (hr2 : r2 ≤ 200) (hc2 : c2 ≤ 200) (hsx : ∀ q, (wmag (xs.getD q 0)).size ≤ 8) (hsy : ∀ q, (wmag (ys.getD q 0)).size ≤ 8) :
  ∃ (ok : Bool) (rr cc : Int) (N : Nat) (es : List (Bool × ByteArray)), es.length = N ∧ N ≤ 40000 ∧
   (∀ gA gB W, Lw W gA (enc xs) → Lw W gB (enc ys) → RetP Tryz.prog 36 #[.agg #[.int .i64 (r1 : Int), .int .i64 (c1 : Int), .slice (some ⟨gA, 0, none⟩) NA NA], .agg #[.int .i64 (r2 : Int), .int .i64 (c2 : Int), .slice (some ⟨gB, 0, none⟩) NB NB]] ok rr cc N es W) ∧
   (∀ gA gB W, Lw W gA (enc xs) → Lw W gB (enc ys) → RetP Tryz.prog 37 #[.agg #[.int .i64 (r1 : Int), .int .i64 (c1 : Int), .slice (some ⟨gA, 0, none⟩) NA NA], .agg #[.int .i64 (r2 : Int), .int .i64 (c2 : Int), .slice (some ⟨gB, 0, none⟩) NB NB]] ok rr cc N es W) := by
 by_cases h : r1 = r2 ∧ c1 = c2
 ·obtain ⟨rfl, rfl⟩ := h
  obtain rfl : NA = NB := hNA.trans hNB.symm
  refine ⟨true, r1, c1, NA, enc (cmb (fun x y => x + y) xs ys NA), by rw [enc_length, cmb_length], by rw [hNA]; exact Nat.le_trans (Nat.mul_le_mul hr1 hc1) (by omega), fun gA gB W hA hB => ?_, fun gA gB W hA hB => ?_⟩
  ·refine (Madd_ok gA gB r1 c1 NA NA NA xs ys W hA hB (hlA.trans hNA.symm) (hlB.trans hNA.symm) hNA.symm (Nat.le_refl _) hmA (Nat.le_refl _) hmA (mright_ints r1 c1 xs hlA hr1 hc1) (mright_ints r1 c1 ys hlB hr1 hc1) hr1 hc1 (fun q => Nat.le_trans (hsx q) (by omega)) (fun q => Nat.le_trans (hsy q) (by omega))).mono ?_
   rintro e w' ⟨g, rfl, hg, hL, hb⟩
   exact ⟨_, _, rfl, hL.rdw, hb⟩
  ·refine (rAdd_ok gA gB r1 c1 NA NA NA xs ys W hA hB (hlA.trans hNA.symm) (hlB.trans hNA.symm) hNA.symm (Nat.le_refl _) hmA (Nat.le_refl _) hmA hr1 hc1 (fun q => Nat.le_trans (hsx q) (by omega)) (fun q => Nat.le_trans (hsy q) (by omega))).mono ?_
   rintro e w' ⟨g, rfl, hg, hL, hb⟩
   exact ⟨_, _, rfl, hL.rdw, hb⟩
 ·refine ⟨false, 0, 0, 0, [], rfl, by omega, fun gA gB W hA hB => ?_, fun gA gB W hA hB => ?_⟩
  ·refine (MAdd_no gA gB r1 c1 r2 c2 NA NA NB NB xs ys W hA hB hlA hNA (Nat.le_refl _) hmA hlB hNB (Nat.le_refl _) hmB hr1 hc1 hr2 hc2 h).mono ?_
   rintro e w' ⟨rfl, hb⟩
   exact ⟨none, 0, rfl, RdW.nil _ _, hb⟩
  ·refine (rAdd_no gA gB r1 c1 r2 c2 NA NA NB NB xs ys W hA hB hlA hNA (Nat.le_refl _) hmA hlB hNB (Nat.le_refl _) hmB hr1 hc1 hr2 hc2 h).mono ?_
   rintro e w' ⟨rfl, hb⟩
   exact ⟨none, 0, rfl, RdW.nil _ _, hb⟩
theorem Sub_both (r1 c1 r2 c2 NA NB : Nat) (xs ys : List Int) (hlA : xs.length = r1 * c1) (hNA : NA = r1 * c1) (hmA : NA ≤ maxLen) (hlB : ys.length = r2 * c2) (hNB : NB = r2 * c2) (hmB : NB ≤ maxLen) (hr1 : r1 ≤ 200) (hc1 : c1 ≤ 200) (hr2 : r2 ≤ 200) (hc2 : c2 ≤ 200) (hsx : ∀ q, (wmag (xs.getD q 0)).size ≤ 8) (hsy : ∀ q, (wmag (ys.getD q 0)).size ≤ 8) :
  ∃ (ok : Bool) (rr cc : Int) (N : Nat) (es : List (Bool × ByteArray)), es.length = N ∧ N ≤ 40000 ∧
   (∀ gA gB W, Lw W gA (enc xs) → Lw W gB (enc ys) → RetP Tryz.prog 41 #[.agg #[.int .i64 (r1 : Int), .int .i64 (c1 : Int), .slice (some ⟨gA, 0, none⟩) NA NA], .agg #[.int .i64 (r2 : Int), .int .i64 (c2 : Int), .slice (some ⟨gB, 0, none⟩) NB NB]] ok rr cc N es W) ∧
   (∀ gA gB W, Lw W gA (enc xs) → Lw W gB (enc ys) → RetP Tryz.prog 42 #[.agg #[.int .i64 (r1 : Int), .int .i64 (c1 : Int), .slice (some ⟨gA, 0, none⟩) NA NA], .agg #[.int .i64 (r2 : Int), .int .i64 (c2 : Int), .slice (some ⟨gB, 0, none⟩) NB NB]] ok rr cc N es W) := by
 by_cases h : r1 = r2 ∧ c1 = c2
 ·obtain ⟨rfl, rfl⟩ := h
  obtain rfl : NA = NB := hNA.trans hNB.symm
  refine ⟨true, r1, c1, NA, enc (cmb (fun x y => x - y) xs ys NA), by rw [enc_length, cmb_length], by rw [hNA]; exact Nat.le_trans (Nat.mul_le_mul hr1 hc1) (by omega), fun gA gB W hA hB => ?_, fun gA gB W hA hB => ?_⟩
  ·refine (Msub_ok gA gB r1 c1 NA NA NA xs ys W hA hB (hlA.trans hNA.symm) (hlB.trans hNA.symm) hNA.symm (Nat.le_refl _) hmA (Nat.le_refl _) hmA (mright_ints r1 c1 xs hlA hr1 hc1) (mright_ints r1 c1 ys hlB hr1 hc1) hr1 hc1 (fun q => Nat.le_trans (hsx q) (by omega)) (fun q => Nat.le_trans (hsy q) (by omega))).mono ?_
   rintro e w' ⟨g, rfl, hg, hL, hb⟩
   exact ⟨_, _, rfl, hL.rdw, hb⟩
  ·refine (rSub_ok gA gB r1 c1 NA NA NA xs ys W hA hB (hlA.trans hNA.symm) (hlB.trans hNA.symm) hNA.symm (Nat.le_refl _) hmA (Nat.le_refl _) hmA hr1 hc1 (fun q => Nat.le_trans (hsx q) (by omega)) (fun q => Nat.le_trans (hsy q) (by omega))).mono ?_
   rintro e w' ⟨g, rfl, hg, hL, hb⟩
   exact ⟨_, _, rfl, hL.rdw, hb⟩
 ·refine ⟨false, 0, 0, 0, [], rfl, by omega, fun gA gB W hA hB => ?_, fun gA gB W hA hB => ?_⟩
  ·refine (MSub_no gA gB r1 c1 r2 c2 NA NA NB NB xs ys W hA hB hlA hNA (Nat.le_refl _) hmA hlB hNB (Nat.le_refl _) hmB hr1 hc1 hr2 hc2 h).mono ?_
   rintro e w' ⟨rfl, hb⟩
   exact ⟨none, 0, rfl, RdW.nil _ _, hb⟩
  ·refine (rSub_no gA gB r1 c1 r2 c2 NA NA NB NB xs ys W hA hB hlA hNA (Nat.le_refl _) hmA hlB hNB (Nat.le_refl _) hmB hr1 hc1 hr2 hc2 h).mono ?_
   rintro e w' ⟨rfl, hb⟩
   exact ⟨none, 0, rfl, RdW.nil _ _, hb⟩
theorem Mul_both (r1 c1 r2 c2 NA NB : Nat) (xs ys : List Int) (hlA : xs.length = r1 * c1) (hNA : NA = r1 * c1) (hmA : NA ≤ maxLen) (hlB : ys.length = r2 * c2) (hNB : NB = r2 * c2) (hmB : NB ≤ maxLen) (hr1 : r1 ≤ 200) (hc1 : c1 ≤ 200) (hr2 : r2 ≤ 200) (hc2 : c2 ≤ 200) (hsx : ∀ q, (wmag (xs.getD q 0)).size ≤ 8) (hsy : ∀ q, (wmag (ys.getD q 0)).size ≤ 8) :
  ∃ (ok : Bool) (rr cc : Int) (N : Nat) (es : List (Bool × ByteArray)), es.length = N ∧ N ≤ 40000 ∧
   (∀ gA gB W, Lw W gA (enc xs) → Lw W gB (enc ys) → RetP Tryz.prog 43 #[.agg #[.int .i64 (r1 : Int), .int .i64 (c1 : Int), .slice (some ⟨gA, 0, none⟩) NA NA], .agg #[.int .i64 (r2 : Int), .int .i64 (c2 : Int), .slice (some ⟨gB, 0, none⟩) NB NB]] ok rr cc N es W) ∧
   (∀ gA gB W, Lw W gA (enc xs) → Lw W gB (enc ys) → RetP Tryz.prog 44 #[.agg #[.int .i64 (r1 : Int), .int .i64 (c1 : Int), .slice (some ⟨gA, 0, none⟩) NA NA], .agg #[.int .i64 (r2 : Int), .int .i64 (c2 : Int), .slice (some ⟨gB, 0, none⟩) NB NB]] ok rr cc N es W) := by
 by_cases h : c1 = r2
 ·subst h
  refine ⟨true, r1, c2, r1 * c2, enc (mulL xs ys r1 c1 c2), by rw [enc_length, mulL_length], Nat.le_trans (Nat.mul_le_mul hr1 hc2) (by omega), fun gA gB W hA hB => ?_, fun gA gB W hA hB => ?_⟩
  ·refine (Mul_ok gA gB r1 c1 c2 NA NB NA NB (r1 * c2) xs ys W hA hB hlA hlB hNA hNB hr1 hc1 hc2 rfl (Nat.le_refl _) (Nat.le_refl _) hmA hmB (fun q => Nat.le_trans (hsx q) (by omega)) (fun q => Nat.le_trans (hsy q) (by omega))).mono ?_
   rintro e w' ⟨g, rfl, hg, hL, hb⟩
   exact ⟨_, _, rfl, hL.rdw, hb⟩
  ·refine (rMul_ok gA gB r1 c1 c2 NA NA NB NB (r1 * c2) xs ys W hA hB hlA hNA (Nat.le_refl _) hmA hlB hNB (Nat.le_refl _) hmB hr1 hc1 hc2 rfl (fun q => Nat.le_trans (hsx q) (by omega)) (fun q => Nat.le_trans (hsy q) (by omega))).mono ?_
   rintro e w' ⟨g, rfl, hg, hL, hb⟩
   exact ⟨_, _, rfl, hL.rdw, hb⟩
 ·refine ⟨false, 0, 0, 0, [], rfl, by omega, fun gA gB W hA hB => ?_, fun gA gB W hA hB => ?_⟩
  ·refine (Mul_no gA gB r1 c1 r2 c2 NA NA NB NB xs ys W hA hB hlA hNA (Nat.le_refl _) hmA hlB hNB (Nat.le_refl _) hmB hr1 hc1 hr2 hc2 h).mono ?_
   rintro e w' ⟨rfl, hb⟩
   exact ⟨none, 0, rfl, RdW.nil _ _, hb⟩
  ·refine (rMul_no gA gB r1 c1 r2 c2 NA NA NB NB xs ys W hA hB hlA hNA (Nat.le_refl _) hmA hlB hNB (Nat.le_refl _) hmB hr1 hc1 hr2 hc2 h).mono ?_
   rintro e w' ⟨rfl, hb⟩
   exact ⟨none, 0, rfl, RdW.nil _ _, hb⟩
set_option maxRecDepth 100000 in
set_option maxHeartbeats 8000000 in
theorem sums_any (A1 : Option Addr) (n1 c1 R1 C1 : Nat) (L1 : List Int) (A2 : Option Addr) (n2 c2 R2 C2 : Nat) (L2 : List Int) (w : World) (hR1 : RdI w A1 L1) (hl1 : L1.length = n1) (hm1 : n1 ≤ maxLen) (hb1 : ∀ j, -9223372036854775808 ≤ L1.getD j 0 ∧ L1.getD j 0 ≤ 9223372036854775807) (hR2 : RdI w A2 L2) (hl2 : L2.length = n2) (hm2 : n2 ≤ maxLen) (hb2 : ∀ j, -9223372036854775808 ≤ L2.getD j 0 ∧ L2.getD j 0 ≤ 9223372036854775807) (hTz : Tz w) :
  Calls Tryz.prog 5 #[.agg #[.int .u8 (R1 : Int), .int .u8 (C1 : Int), .slice A1 n1 c1], .agg #[.int .u8 (R2 : Int), .int .u8 (C2 : Int), .slice A2 n2 c2]] w fun e w' => e = .returned (.bool true) ∧ Below w.heap.size w w' := by
 obtain ⟨r, hr⟩ : ∃ x, R1 % 7 = x := ⟨_, rfl⟩
 have hr6 : r ≤ 6 := by omega
 obtain ⟨k, hk⟩ : ∃ x, C1 % 7 = x := ⟨_, rfl⟩
 have hk6 : k ≤ 6 := by omega
 obtain ⟨rt, hrt⟩ : ∃ x, R2 % 7 = x := ⟨_, rfl⟩
 have hrt6 : rt ≤ 6 := by omega
 obtain ⟨kt, hkt⟩ : ∃ x, C2 % 7 = x := ⟨_, rfl⟩
 have hkt6 : kt ≤ 6 := by omega
 obtain ⟨Na, hNa⟩ : ∃ x, r * k = x := ⟨_, rfl⟩
 have bNa : Na ≤ 36 := by rw [← hNa]; exact Nat.mul_le_mul hr6 hk6
 have xNa : Na ≤ maxLen := by unfold maxLen; omega
 obtain ⟨Nt, hNt⟩ : ∃ x, rt * kt = x := ⟨_, rfl⟩
 have bNt : Nt ≤ 36 := by rw [← hNt]; exact Nat.mul_le_mul hrt6 hkt6
 have xNt : Nt ≤ maxLen := by unfold maxLen; omega
 obtain ⟨Nw, hNw⟩ : ∃ x, k * kt = x := ⟨_, rfl⟩
 have bNw : Nw ≤ 36 := by rw [← hNw]; exact Nat.mul_le_mul hk6 hkt6
 have xNw : Nw ≤ maxLen := by unfold maxLen; omega
 have et2 : ((C2 : Int)).tmod 7 = (kt : Int) := by rw [← hkt]; rfl
 have wt2 : IntKind.i64.wrap (kt : Int) = (kt : Int) := IntWalk.i64_in _ (by omega)
 have hma := fun W h => Mat_any A1 n1 c1 L1 R1 C1 r k Na W h hl1 hm1 hr hk hNa hb1
 have sa := wth_size L1 Na hb1
 have la : (wth L1 Na).length = r * k := by rw [wth_length, hNa]
 obtain ⟨za, hza⟩ : ∃ x, x = wth L1 Na := ⟨_, rfl⟩
 rw [← hza] at hma sa la
 have hmt := fun W h => Mat_any A2 n2 c2 L2 R2 C2 rt kt Nt W h hl2 hm2 hrt hkt hNt hb2
 have st := wth_size L2 Nt hb2
 have lt : (wth L2 Nt).length = rt * kt := by rw [wth_length, hNt]
 obtain ⟨zt, hzt⟩ : ∃ x, x = wth L2 Nt := ⟨_, rfl⟩
 rw [← hzt] at hmt st lt
 have hwb := fun W h => With_any A2 n2 c2 L2 (R2 : Int) (C2 : Int) r k Na W h hl2 hm2 (by omega) (by omega) hNa hb2
 have sb := wth_size L2 Na hb2
 have lb : (wth L2 Na).length = r * k := by rw [wth_length, hNa]
 obtain ⟨zb, hzb⟩ : ∃ x, x = wth L2 Na := ⟨_, rfl⟩
 rw [← hzb] at hwb sb lb
 have hww := fun W h => With_any A2 n2 c2 L2 (R2 : Int) (C2 : Int) k kt Nw W h hl2 hm2 (by omega) (by omega) hNw hb2
 have sw := wth_size L2 Nw hb2
 have lw : (wth L2 Nw).length = k * kt := by rw [wth_length, hNw]
 obtain ⟨zw, hzw⟩ : ∃ x, x = wth L2 Nw := ⟨_, rfl⟩
 rw [← hzw] at hww sw lw
 have hbtAdd := Add_both r k rt kt Na Nt za zt la hNa.symm xNa lt hNt.symm xNt (by omega) (by omega) (by omega) (by omega) sa st
 have hbtSub := Sub_both r k rt kt Na Nt za zt la hNa.symm xNa lt hNt.symm xNt (by omega) (by omega) (by omega) (by omega) sa st
 have hbtMul := Mul_both r k rt kt Na Nt za zt la hNa.symm xNa lt hNt.symm xNt (by omega) (by omega) (by omega) (by omega) sa st
 have hbbAdd := Add_both r k r k Na Na za zb la hNa.symm xNa lb hNa.symm xNa (by omega) (by omega) (by omega) (by omega) sa sb
 have hbbSub := Sub_both r k r k Na Na za zb la hNa.symm xNa lb hNa.symm xNa (by omega) (by omega) (by omega) (by omega) sa sb
 have hbbMul := Mul_both r k r k Na Na za zb la hNa.symm xNa lb hNa.symm xNa (by omega) (by omega) (by omega) (by omega) sa sb
 have hbwAdd := Add_both r k k kt Na Nw za zw la hNa.symm xNa lw hNw.symm xNw (by omega) (by omega) (by omega) (by omega) sa sw
 have hbwSub := Sub_both r k k kt Na Nw za zw la hNa.symm xNa lw hNw.symm xNw (by omega) (by omega) (by omega) (by omega) sa sw
 have hbwMul := Mul_both r k k kt Na Nw za zw la hNa.symm xNa lw hNw.symm xNw (by omega) (by omega) (by omega) (by omega) sa sw
 have hTs : ∀ W l, Kg none w W l → Tz W := fun W l h => hTz.of fun b hb => h.1.block b hb (by simp)
 have hR1k : ∀ W l, Kg none w W l → RdI W A1 L1 := fun W l h => hR1.below (Kg.below_ h)
 have hR2k : ∀ W l, Kg none w W l → RdI W A2 L2 := fun W l h => hR2.below (Kg.below_ h)
 unfold mat at *
 have HMA := Lib.hid hma
 have HMT := Lib.hid hmt
 have HWB := Lib.hid hwb
 have HWW := Lib.hid hww
 have HBTADD := Lib.hid hbtAdd
 have HBTSUB := Lib.hid hbtSub
 have HBTMUL := Lib.hid hbtMul
 have HBBADD := Lib.hid hbbAdd
 have HBBSUB := Lib.hid hbbSub
 have HBBMUL := Lib.hid hbbMul
 have HBWADD := Lib.hid hbwAdd
 have HBWSUB := Lib.hid hbwSub
 have HBWMUL := Lib.hid hbwMul
 have HSA := Lib.hid (fun W hW => sanity_any W hW)
 have HTS := Lib.hid hTs
 have HRDA := Lib.hid hR1k
 have HRDB := Lib.hid hR2k
 have HK1 := Lib.hid ((((Kg.none_ none w 0).more (.cells #[.int .u8 (R1 : Int), .int .u8 (C1 : Int), .slice A1 n1 c1] 38 (0, 0))).more (.cells #[.int .u8 (R2 : Int), .int .u8 (C2 : Int), .slice A2 n2 c2] 38 (0, 0))).cast (l' := [some (w.heap.size, .cells #[.int .u8 (R1 : Int), .int .u8 (C1 : Int), .slice A1 n1 c1] 38 (0, 0)), some (w.heap.size + 1, .cells #[.int .u8 (R2 : Int), .int .u8 (C2 : Int), .slice A2 n2 c2] 38 (0, 0))]) (by simp))
 clear hma hmt hwb hww hbtAdd hbtSub hbtMul hbbAdd hbbSub hbbMul hbwAdd hbwSub hbwMul hTs hR1k hR2k hza la sa hzt lt st hzb lb sb hzw lw sw hR1 hR2 hl1 hl2 hm1 hm2 hb1 hb2 hTz hr hk hrt hkt hNa bNa xNa hNt bNt xNt hNw bNw xNw
 go_enter Tryz.func5, Tryz.ntmps5
 go_wp2_with fail
 change Calls _ _ _ ((w.alloc (.cells #[.int .u8 (R1 : Int), .int .u8 (C1 : Int), .slice A1 n1 c1] 38 (0, 0))).alloc (.cells #[.int .u8 (R2 : Int), .int .u8 (C2 : Int), .slice A2 n2 c2] 38 (0, 0))) _
 generalize (w.alloc (.cells #[.int .u8 (R1 : Int), .int .u8 (C1 : Int), .slice A1 n1 c1] 38 (0, 0))).alloc (.cells #[.int .u8 (R2 : Int), .int .u8 (C2 : Int), .slice A2 n2 c2] 38 (0, 0)) = W1 at *
 with_reducible refine (HSA.out _ (HTS.out _ _ HK1.out)).mono ?_
 rintro e V1 ⟨rfl, hb2⟩
 have HK2 := Lib.hid (HK1.out.step hb2)
 clear hb2 HK1
 have x0 := HK2.out.cell 0 0 rfl rfl
 have x1 := HK2.out.cell 0 1 rfl rfl
 have x2 := HK2.out.cell 0 2 rfl rfl
 go_wp2_with fail
 with_reducible refine (HMA.out _ (HRDA.out _ _ HK2.out)).mono ?_
 rintro e V3 ⟨g1, rfl, hg, hL, hb⟩
 have HK3 := Lib.hid (show Kg none w (V3.alloc (mrow r k (some ⟨g1, 0, none⟩) Na Na)) [some (w.heap.size, .cells #[.int .u8 (R1 : Int), .int .u8 (C1 : Int), .slice A1 n1 c1] 38 (0, 0)), some (w.heap.size + 1, .cells #[.int .u8 (R2 : Int), .int .u8 (C2 : Int), .slice A2 n2 c2] 38 (0, 0)), some (g1, lwO (enc (za))), some (V3.heap.size, mrow r k (some ⟨g1, 0, none⟩) Na Na)] from (HK2.out.room.came 2 rfl hb hg (o := lwO (enc (za))) hL).more (mrow r k (some ⟨g1, 0, none⟩) Na Na))
 clear hg hL hb x0 x1 x2 HK2
 go_wp2_with fail
 change Code.wp _ _ _ _ (V3.alloc (mrow r k (some ⟨g1, 0, none⟩) Na Na))
 generalize V3.alloc (mrow r k (some ⟨g1, 0, none⟩) Na Na) = W4 at *
 generalize V3.heap.size = b3 at *
 refine wp_region_acts (X := Nat × Nat × Nat × Nat) (fun x => [(0, 24, .agg #[.int .u8 (R2 : Int), .int .u8 (C2 : Int), .slice A2 n2 c2]), (1, 25, .agg #[.int .i64 (rt : Int), .int .i64 (kt : Int), .slice (some ⟨x.1, 0, none⟩) Nt Nt]), (2, 26, .agg #[.int .u8 (R2 : Int), .int .u8 (C2 : Int), .slice A2 n2 c2]), (3, 27, .pointer (some ⟨b3, 0, none⟩)), (4, 28, .int .i64 (r : Int)), (5, 29, .pointer (some ⟨b3, 1, none⟩)), (6, 30, .int .i64 (k : Int)), (7, 31, .agg #[.int .i64 (r : Int), .int .i64 (k : Int), .slice (some ⟨x.2.1, 0, none⟩) Na Na]), (8, 32, .agg #[.int .u8 (R2 : Int), .int .u8 (C2 : Int), .slice A2 n2 c2]), (9, 33, .pointer (some ⟨b3, 1, none⟩)), (10, 34, .int .i64 (k : Int)), (11, 35, .pointer (some ⟨w.heap.size + 1, 1, none⟩)), (12, 36, .int .u8 (C2 : Int)), (13, 37, .int .u8 (kt : Int)), (14, 38, .int .i64 (kt : Int)), (15, 39, .agg #[.int .i64 (k : Int), .int .i64 (kt : Int), .slice (some ⟨x.2.2.1, 0, none⟩) Nw Nw]), (16, 40, .slice (some ⟨x.2.2.2, 0, none⟩) 3 3), (17, 7, .slice (some ⟨x.2.2.2, 0, none⟩) 3 3)])
  (fun x L W => Kg none w W [some (w.heap.size, .cells #[.int .u8 (R1 : Int), .int .u8 (C1 : Int), .slice A1 n1 c1] 38 (0, 0)), some (w.heap.size + 1, .cells #[.int .u8 (R2 : Int), .int .u8 (C2 : Int), .slice A2 n2 c2] 38 (0, 0)), some (g1, lwO (enc (za))), some (b3, mrow r k (some ⟨g1, 0, none⟩) Na Na), entO (L 1) x.1 (lwO (enc (zt))), entO (L 7) x.2.1 (lwO (enc (zb))), entO (L 15) x.2.2.1 (lwO (enc (zw))), entO (L 16) x.2.2.2 (.cells #[.int .i64 (rt : Int), .int .i64 (kt : Int), .slice (some ⟨x.1, 0, none⟩) Nt Nt, .int .i64 (r : Int), .int .i64 (k : Int), .slice (some ⟨x.2.1, 0, none⟩) Na Na, .int .i64 (k : Int), .int .i64 (kt : Int), .slice (some ⟨x.2.2.1, 0, none⟩) Nw Nw] 28 (0, 0))]) (by kernel_rfl) (by kernel_rfl) (0, 0, 0, 0) ?st (by kernel_rfl) ?_ ?_
 case st => exact (by simpa [entO_no] using HK3.out.drew.room.room.room.room)
 ·simp only [selA, selT_cons, selT_nil, List.set_cons_zero, List.set_cons_succ, List.getD_cons_zero, List.getD_cons_succ]
  repeat' (first | exact ActSteps.nil | refine ActSteps.cons ?_ ?_)
  all_goals
   intro L x wx hJ hl hd hs K hK
   (try simp [Region.binds] at hd)
   have p0 := hJ.cell 1 0 rfl rfl
   have p1 := hJ.cell 1 1 rfl rfl
   have p2 := hJ.cell 1 2 rfl rfl
   have p3 := hJ.cell 3 0 rfl rfl
   have p4 := hJ.cell 3 1 rfl rfl
   have p5 := hJ.cell 3 2 rfl rfl
   try simp only [hd, hl, selV_true, selV_false]
  ·go_simp
   refine hK.out x _ _ ?_ ?_
   ·simp [hl, hd, selV_true, selV_false]
   ·simpa [hl] using hJ
  ·have hn16 := hs 16 _ rfl (by simp [Region.binds])
   have hB := hJ
   try simp only [hl, hd, entO_no, entO_yes] at hB
   go_simp
   with_reducible refine (HMT.out _ (HRDB.out _ _ hB)).mono ?_
   rintro e v ⟨h, rfl, hh, hLh, hb⟩
   refine hK.out (h, x.2.1, x.2.2.1, x.2.2.2) _ _ ?_ ?_
   ·simp [hl, hd, hn16, selV_true, selV_false]
   ·exact (hJ.came 4 (by simp [hl, entO_no]) hb hh (o := lwO (enc (zt))) hLh).cast (by simp [hd, entO_yes, hn16, entO_no])
  ·go_simp
   refine hK.out x _ _ ?_ ?_
   ·simp [hl, hd, selV_true, selV_false]
   ·simpa [hl] using hJ
  ·go_simp
   refine hK.out x _ _ ?_ ?_
   ·simp [hl, hd, selV_true, selV_false]
   ·simpa [hl] using hJ
  ·go_simp
   refine hK.out x _ _ ?_ ?_
   ·simp [hl, hd, selV_true, selV_false]
   ·simpa [hl] using hJ
  ·go_simp
   refine hK.out x _ _ ?_ ?_
   ·simp [hl, hd, selV_true, selV_false]
   ·simpa [hl] using hJ
  ·go_simp
   refine hK.out x _ _ ?_ ?_
   ·simp [hl, hd, selV_true, selV_false]
   ·simpa [hl] using hJ
  ·have hn16 := hs 16 _ rfl (by simp [Region.binds])
   have hB := hJ
   try simp only [hl, hd, entO_no, entO_yes] at hB
   go_simp
   with_reducible refine (HWB.out _ (HRDB.out _ _ hB)).mono ?_
   rintro e v ⟨h, rfl, hh, hLh, hb⟩
   refine hK.out (x.1, h, x.2.2.1, x.2.2.2) _ _ ?_ ?_
   ·simp [hl, hd, hn16, selV_true, selV_false]
   ·exact (hJ.came 5 (by simp [hl, entO_no]) hb hh (o := lwO (enc (zb))) hLh).cast (by simp [hd, entO_yes, hn16, entO_no])
  ·go_simp
   refine hK.out x _ _ ?_ ?_
   ·simp [hl, hd, selV_true, selV_false]
   ·simpa [hl] using hJ
  ·go_simp
   refine hK.out x _ _ ?_ ?_
   ·simp [hl, hd, selV_true, selV_false]
   ·simpa [hl] using hJ
  ·go_simp
   refine hK.out x _ _ ?_ ?_
   ·simp [hl, hd, selV_true, selV_false]
   ·simpa [hl] using hJ
  ·go_simp
   refine hK.out x _ _ ?_ ?_
   ·simp [hl, hd, selV_true, selV_false]
   ·simpa [hl] using hJ
  ·go_simp
   refine hK.out x _ _ ?_ ?_
   ·simp [hl, hd, selV_true, selV_false]
   ·simpa [hl] using hJ
  ·go_simp
   refine hK.out x _ _ ?_ ?_
   ·simp [hl, hd, selV_true, selV_false]
   ·simpa [hl] using hJ
  ·go_simp
   refine hK.out x _ _ ?_ ?_
   ·simp [hl, hd, selV_true, selV_false]
   ·simpa [hl] using hJ
  ·have hn16 := hs 16 _ rfl (by simp [Region.binds])
   have hB := hJ
   try simp only [hl, hd, entO_no, entO_yes] at hB
   go_simp
   with_reducible refine (HWW.out _ (HRDB.out _ _ hB)).mono ?_
   rintro e v ⟨h, rfl, hh, hLh, hb⟩
   refine hK.out (x.1, x.2.1, h, x.2.2.2) _ _ ?_ ?_
   ·simp [hl, hd, hn16, selV_true, selV_false]
   ·exact (hJ.came 6 (by simp [hl, entO_no]) hb hh (o := lwO (enc (zw))) hLh).cast (by simp [hd, entO_yes, hn16, entO_no])
  ·have hn17 := hs 17 _ rfl (by simp [Region.binds])
   go_simp
   refine hK.out (x.1, x.2.1, x.2.2.1, wx.heap.size) _ _ ?_ ?_
   ·simp [hl, hd, hn17, selV_true, selV_false]
   ·exact (hJ.new 7 (.cells #[.int .i64 (rt : Int), .int .i64 (kt : Int), .slice (some ⟨x.1, 0, none⟩) Nt Nt, .int .i64 (r : Int), .int .i64 (k : Int), .slice (some ⟨x.2.1, 0, none⟩) Na Na, .int .i64 (k : Int), .int .i64 (kt : Int), .slice (some ⟨x.2.2.1, 0, none⟩) Nw Nw] 28 (0, 0)) (by simp [hl, entO_no])).cast (by simp [hl, hd, entO_yes])
  ·go_simp
   refine hK.out x _ _ ?_ ?_
   ·simp [hl, hd, selV_true, selV_false]
   ·simpa [hl] using hJ
 ·rintro ⟨y0, y1, y2, y3⟩ W5 hKx
  simp only [selA, selT_cons, selT_nil, List.set_cons_zero, List.set_cons_succ, List.getD_cons_zero, List.getD_cons_succ, selV_true]
  simp only [entO_yes] at hKx
  have HK5 := Lib.hid (show Kg none w W5 [some (w.heap.size, .cells #[.int .u8 (R1 : Int), .int .u8 (C1 : Int), .slice A1 n1 c1] 38 (0, 0)), some (w.heap.size + 1, .cells #[.int .u8 (R2 : Int), .int .u8 (C2 : Int), .slice A2 n2 c2] 38 (0, 0)), some (g1, lwO (enc (za))), some (b3, mrow r k (some ⟨g1, 0, none⟩) Na Na), some (y0, lwO (enc (zt))), some (y1, lwO (enc (zb))), some (y2, lwO (enc (zw))), some (y3, .cells #[.int .i64 (rt : Int), .int .i64 (kt : Int), .slice (some ⟨y0, 0, none⟩) Nt Nt, .int .i64 (r : Int), .int .i64 (k : Int), .slice (some ⟨y1, 0, none⟩) Na Na, .int .i64 (k : Int), .int .i64 (kt : Int), .slice (some ⟨y2, 0, none⟩) Nw Nw] 28 (0, 0))] from hKx)
  clear hKx HK3
  have HPR := Lib.hid (show ∀ i, i < 3 → ∃ (rb cb gb Nb : Nat) (ok1 : Bool) (rr1 cc1 : Int) (M1 : Nat) (es1 : List (Bool × ByteArray)) (ok2 : Bool) (rr2 cc2 : Int) (M2 : Nat) (es2 : List (Bool × ByteArray)) (ok3 : Bool) (rr3 cc3 : Int) (M3 : Nat) (es3 : List (Bool × ByteArray)),
    (#[.int .i64 (rt : Int), .int .i64 (kt : Int), .slice (some ⟨y0, 0, none⟩) Nt Nt, .int .i64 (r : Int), .int .i64 (k : Int), .slice (some ⟨y1, 0, none⟩) Na Na, .int .i64 (k : Int), .int .i64 (kt : Int), .slice (some ⟨y2, 0, none⟩) Nw Nw] : Array Value)[i * 3]? = some (.int .i64 (rb : Int)) ∧ (#[.int .i64 (rt : Int), .int .i64 (kt : Int), .slice (some ⟨y0, 0, none⟩) Nt Nt, .int .i64 (r : Int), .int .i64 (k : Int), .slice (some ⟨y1, 0, none⟩) Na Na, .int .i64 (k : Int), .int .i64 (kt : Int), .slice (some ⟨y2, 0, none⟩) Nw Nw] : Array Value)[i * 3 + 1]? = some (.int .i64 (cb : Int)) ∧ (#[.int .i64 (rt : Int), .int .i64 (kt : Int), .slice (some ⟨y0, 0, none⟩) Nt Nt, .int .i64 (r : Int), .int .i64 (k : Int), .slice (some ⟨y1, 0, none⟩) Na Na, .int .i64 (k : Int), .int .i64 (kt : Int), .slice (some ⟨y2, 0, none⟩) Nw Nw] : Array Value)[i * 3 + 2]? = some (.slice (some ⟨gb, 0, none⟩) Nb Nb) ∧
    es1.length = M1 ∧ M1 ≤ 40000 ∧ es2.length = M2 ∧ M2 ≤ 40000 ∧ es3.length = M3 ∧ M3 ≤ 40000 ∧
    (∀ W, Kg none w W [some (w.heap.size, .cells #[.int .u8 (R1 : Int), .int .u8 (C1 : Int), .slice A1 n1 c1] 38 (0, 0)), some (w.heap.size + 1, .cells #[.int .u8 (R2 : Int), .int .u8 (C2 : Int), .slice A2 n2 c2] 38 (0, 0)), some (g1, lwO (enc (za))), some (b3, mrow r k (some ⟨g1, 0, none⟩) Na Na), some (y0, lwO (enc (zt))), some (y1, lwO (enc (zb))), some (y2, lwO (enc (zw))), some (y3, .cells #[.int .i64 (rt : Int), .int .i64 (kt : Int), .slice (some ⟨y0, 0, none⟩) Nt Nt, .int .i64 (r : Int), .int .i64 (k : Int), .slice (some ⟨y1, 0, none⟩) Na Na, .int .i64 (k : Int), .int .i64 (kt : Int), .slice (some ⟨y2, 0, none⟩) Nw Nw] 28 (0, 0))] → RetP Tryz.prog 36 #[.agg #[.int .i64 (r : Int), .int .i64 (k : Int), .slice (some ⟨g1, 0, none⟩) Na Na], .agg #[.int .i64 (rb : Int), .int .i64 (cb : Int), .slice (some ⟨gb, 0, none⟩) Nb Nb]] ok1 rr1 cc1 M1 es1 W) ∧ (∀ W, Kg none w W [some (w.heap.size, .cells #[.int .u8 (R1 : Int), .int .u8 (C1 : Int), .slice A1 n1 c1] 38 (0, 0)), some (w.heap.size + 1, .cells #[.int .u8 (R2 : Int), .int .u8 (C2 : Int), .slice A2 n2 c2] 38 (0, 0)), some (g1, lwO (enc (za))), some (b3, mrow r k (some ⟨g1, 0, none⟩) Na Na), some (y0, lwO (enc (zt))), some (y1, lwO (enc (zb))), some (y2, lwO (enc (zw))), some (y3, .cells #[.int .i64 (rt : Int), .int .i64 (kt : Int), .slice (some ⟨y0, 0, none⟩) Nt Nt, .int .i64 (r : Int), .int .i64 (k : Int), .slice (some ⟨y1, 0, none⟩) Na Na, .int .i64 (k : Int), .int .i64 (kt : Int), .slice (some ⟨y2, 0, none⟩) Nw Nw] 28 (0, 0))] → RetP Tryz.prog 37 #[.agg #[.int .i64 (r : Int), .int .i64 (k : Int), .slice (some ⟨g1, 0, none⟩) Na Na], .agg #[.int .i64 (rb : Int), .int .i64 (cb : Int), .slice (some ⟨gb, 0, none⟩) Nb Nb]] ok1 rr1 cc1 M1 es1 W) ∧ (∀ W, Kg none w W [some (w.heap.size, .cells #[.int .u8 (R1 : Int), .int .u8 (C1 : Int), .slice A1 n1 c1] 38 (0, 0)), some (w.heap.size + 1, .cells #[.int .u8 (R2 : Int), .int .u8 (C2 : Int), .slice A2 n2 c2] 38 (0, 0)), some (g1, lwO (enc (za))), some (b3, mrow r k (some ⟨g1, 0, none⟩) Na Na), some (y0, lwO (enc (zt))), some (y1, lwO (enc (zb))), some (y2, lwO (enc (zw))), some (y3, .cells #[.int .i64 (rt : Int), .int .i64 (kt : Int), .slice (some ⟨y0, 0, none⟩) Nt Nt, .int .i64 (r : Int), .int .i64 (k : Int), .slice (some ⟨y1, 0, none⟩) Na Na, .int .i64 (k : Int), .int .i64 (kt : Int), .slice (some ⟨y2, 0, none⟩) Nw Nw] 28 (0, 0))] → RetP Tryz.prog 41 #[.agg #[.int .i64 (r : Int), .int .i64 (k : Int), .slice (some ⟨g1, 0, none⟩) Na Na], .agg #[.int .i64 (rb : Int), .int .i64 (cb : Int), .slice (some ⟨gb, 0, none⟩) Nb Nb]] ok2 rr2 cc2 M2 es2 W) ∧ (∀ W, Kg none w W [some (w.heap.size, .cells #[.int .u8 (R1 : Int), .int .u8 (C1 : Int), .slice A1 n1 c1] 38 (0, 0)), some (w.heap.size + 1, .cells #[.int .u8 (R2 : Int), .int .u8 (C2 : Int), .slice A2 n2 c2] 38 (0, 0)), some (g1, lwO (enc (za))), some (b3, mrow r k (some ⟨g1, 0, none⟩) Na Na), some (y0, lwO (enc (zt))), some (y1, lwO (enc (zb))), some (y2, lwO (enc (zw))), some (y3, .cells #[.int .i64 (rt : Int), .int .i64 (kt : Int), .slice (some ⟨y0, 0, none⟩) Nt Nt, .int .i64 (r : Int), .int .i64 (k : Int), .slice (some ⟨y1, 0, none⟩) Na Na, .int .i64 (k : Int), .int .i64 (kt : Int), .slice (some ⟨y2, 0, none⟩) Nw Nw] 28 (0, 0))] → RetP Tryz.prog 42 #[.agg #[.int .i64 (r : Int), .int .i64 (k : Int), .slice (some ⟨g1, 0, none⟩) Na Na], .agg #[.int .i64 (rb : Int), .int .i64 (cb : Int), .slice (some ⟨gb, 0, none⟩) Nb Nb]] ok2 rr2 cc2 M2 es2 W) ∧ (∀ W, Kg none w W [some (w.heap.size, .cells #[.int .u8 (R1 : Int), .int .u8 (C1 : Int), .slice A1 n1 c1] 38 (0, 0)), some (w.heap.size + 1, .cells #[.int .u8 (R2 : Int), .int .u8 (C2 : Int), .slice A2 n2 c2] 38 (0, 0)), some (g1, lwO (enc (za))), some (b3, mrow r k (some ⟨g1, 0, none⟩) Na Na), some (y0, lwO (enc (zt))), some (y1, lwO (enc (zb))), some (y2, lwO (enc (zw))), some (y3, .cells #[.int .i64 (rt : Int), .int .i64 (kt : Int), .slice (some ⟨y0, 0, none⟩) Nt Nt, .int .i64 (r : Int), .int .i64 (k : Int), .slice (some ⟨y1, 0, none⟩) Na Na, .int .i64 (k : Int), .int .i64 (kt : Int), .slice (some ⟨y2, 0, none⟩) Nw Nw] 28 (0, 0))] → RetP Tryz.prog 43 #[.agg #[.int .i64 (r : Int), .int .i64 (k : Int), .slice (some ⟨g1, 0, none⟩) Na Na], .agg #[.int .i64 (rb : Int), .int .i64 (cb : Int), .slice (some ⟨gb, 0, none⟩) Nb Nb]] ok3 rr3 cc3 M3 es3 W) ∧ (∀ W, Kg none w W [some (w.heap.size, .cells #[.int .u8 (R1 : Int), .int .u8 (C1 : Int), .slice A1 n1 c1] 38 (0, 0)), some (w.heap.size + 1, .cells #[.int .u8 (R2 : Int), .int .u8 (C2 : Int), .slice A2 n2 c2] 38 (0, 0)), some (g1, lwO (enc (za))), some (b3, mrow r k (some ⟨g1, 0, none⟩) Na Na), some (y0, lwO (enc (zt))), some (y1, lwO (enc (zb))), some (y2, lwO (enc (zw))), some (y3, .cells #[.int .i64 (rt : Int), .int .i64 (kt : Int), .slice (some ⟨y0, 0, none⟩) Nt Nt, .int .i64 (r : Int), .int .i64 (k : Int), .slice (some ⟨y1, 0, none⟩) Na Na, .int .i64 (k : Int), .int .i64 (kt : Int), .slice (some ⟨y2, 0, none⟩) Nw Nw] 28 (0, 0))] → RetP Tryz.prog 44 #[.agg #[.int .i64 (r : Int), .int .i64 (k : Int), .slice (some ⟨g1, 0, none⟩) Na Na], .agg #[.int .i64 (rb : Int), .int .i64 (cb : Int), .slice (some ⟨gb, 0, none⟩) Nb Nb]] ok3 rr3 cc3 M3 es3 W) from fun i hi => by
   match i, hi with
   | 0, _ =>
    obtain ⟨ok1, rr1, cc1, M1, es1, l1, m1, h1, j1⟩ := HBTADD.out
    obtain ⟨ok2, rr2, cc2, M2, es2, l2, m2, h2, j2⟩ := HBTSUB.out
    obtain ⟨ok3, rr3, cc3, M3, es3, l3, m3, h3, j3⟩ := HBTMUL.out
    exact ⟨rt, kt, y0, Nt, ok1, rr1, cc1, M1, es1, ok2, rr2, cc2, M2, es2, ok3, rr3, cc3, M3, es3, rfl, rfl, rfl, l1, m1, l2, m2, l3, m3, fun W h => h1 g1 y0 W (h.at_ 2 rfl) (h.at_ 4 rfl), fun W h => j1 g1 y0 W (h.at_ 2 rfl) (h.at_ 4 rfl), fun W h => h2 g1 y0 W (h.at_ 2 rfl) (h.at_ 4 rfl), fun W h => j2 g1 y0 W (h.at_ 2 rfl) (h.at_ 4 rfl), fun W h => h3 g1 y0 W (h.at_ 2 rfl) (h.at_ 4 rfl), fun W h => j3 g1 y0 W (h.at_ 2 rfl) (h.at_ 4 rfl)⟩
   | 1, _ =>
    obtain ⟨ok1, rr1, cc1, M1, es1, l1, m1, h1, j1⟩ := HBBADD.out
    obtain ⟨ok2, rr2, cc2, M2, es2, l2, m2, h2, j2⟩ := HBBSUB.out
    obtain ⟨ok3, rr3, cc3, M3, es3, l3, m3, h3, j3⟩ := HBBMUL.out
    exact ⟨r, k, y1, Na, ok1, rr1, cc1, M1, es1, ok2, rr2, cc2, M2, es2, ok3, rr3, cc3, M3, es3, rfl, rfl, rfl, l1, m1, l2, m2, l3, m3, fun W h => h1 g1 y1 W (h.at_ 2 rfl) (h.at_ 5 rfl), fun W h => j1 g1 y1 W (h.at_ 2 rfl) (h.at_ 5 rfl), fun W h => h2 g1 y1 W (h.at_ 2 rfl) (h.at_ 5 rfl), fun W h => j2 g1 y1 W (h.at_ 2 rfl) (h.at_ 5 rfl), fun W h => h3 g1 y1 W (h.at_ 2 rfl) (h.at_ 5 rfl), fun W h => j3 g1 y1 W (h.at_ 2 rfl) (h.at_ 5 rfl)⟩
   | 2, _ =>
    obtain ⟨ok1, rr1, cc1, M1, es1, l1, m1, h1, j1⟩ := HBWADD.out
    obtain ⟨ok2, rr2, cc2, M2, es2, l2, m2, h2, j2⟩ := HBWSUB.out
    obtain ⟨ok3, rr3, cc3, M3, es3, l3, m3, h3, j3⟩ := HBWMUL.out
    exact ⟨k, kt, y2, Nw, ok1, rr1, cc1, M1, es1, ok2, rr2, cc2, M2, es2, ok3, rr3, cc3, M3, es3, rfl, rfl, rfl, l1, m1, l2, m2, l3, m3, fun W h => h1 g1 y2 W (h.at_ 2 rfl) (h.at_ 6 rfl), fun W h => j1 g1 y2 W (h.at_ 2 rfl) (h.at_ 6 rfl), fun W h => h2 g1 y2 W (h.at_ 2 rfl) (h.at_ 6 rfl), fun W h => j2 g1 y2 W (h.at_ 2 rfl) (h.at_ 6 rfl), fun W h => h3 g1 y2 W (h.at_ 2 rfl) (h.at_ 6 rfl), fun W h => j3 g1 y2 W (h.at_ 2 rfl) (h.at_ 6 rfl)⟩
   )
  clear HBTADD HBTSUB HBTMUL HBBADD HBBSUB HBBMUL HBWADD HBWSUB HBWMUL
  go_wp2_with fail
  go_loopw [8] (fun ii wr => ∃ i : Nat, ii = .int .i64 (i : Int) ∧ i ≤ 3 ∧ Kg none w wr [some (w.heap.size, .cells #[.int .u8 (R1 : Int), .int .u8 (C1 : Int), .slice A1 n1 c1] 38 (0, 0)), some (w.heap.size + 1, .cells #[.int .u8 (R2 : Int), .int .u8 (C2 : Int), .slice A2 n2 c2] 38 (0, 0)), some (g1, lwO (enc (za))), some (b3, mrow r k (some ⟨g1, 0, none⟩) Na Na), some (y0, lwO (enc (zt))), some (y1, lwO (enc (zb))), some (y2, lwO (enc (zw))), some (y3, .cells #[.int .i64 (rt : Int), .int .i64 (kt : Int), .slice (some ⟨y0, 0, none⟩) Nt Nt, .int .i64 (r : Int), .int .i64 (k : Int), .slice (some ⟨y1, 0, none⟩) Na Na, .int .i64 (k : Int), .int .i64 (kt : Int), .slice (some ⟨y2, 0, none⟩) Nw Nw] 28 (0, 0))]) (fun ii _ => 3 - (intOf ii).toNat)
  case atStart => exact ⟨0, rfl, Nat.zero_le _, HK5.out⟩
  case round =>
   clear HK5
   obtain ⟨i, rfl, hi, hKi⟩ := hrel
   have HK10 := Lib.hid hKi
   clear hKi
   by_cases hli : i < 3
   ·have hki : (i : Int) < 3 := by omega
    obtain ⟨rb, cb, gb, Nb, ok1, rr1, cc1, M1, es1, ok2, rr2, cc2, M2, es2, ok3, rr3, cc3, M3, es3, ha0, ha1, ha2, l1, m1, l2, m2, l3, m3, hq1, hp1, hq2, hp2, hq3, hp3⟩ := HPR.out i hli
    have HA0 := Lib.hid ha0
    have HA1 := Lib.hid ha1
    have HA2 := Lib.hid ha2
    unfold RetP at hq1 hp1 hq2 hp2 hq3 hp3
    have HQ1 := Lib.hid hq1
    have HP1 := Lib.hid hp1
    have HQ2 := Lib.hid hq2
    have HP2 := Lib.hid hp2
    have HQ3 := Lib.hid hq3
    have HP3 := Lib.hid hp3
    have HS1 := Lib.hid (fun A B ca cb W h1 h2 => same_caps rr1 cc1 A B M1 ca cb es1 W h1 h2 l1 (by omega))
    have HS2 := Lib.hid (fun A B ca cb W h1 h2 => same_caps rr2 cc2 A B M2 ca cb es2 W h1 h2 l2 (by omega))
    have HS3 := Lib.hid (fun A B ca cb W h1 h2 => same_caps rr3 cc3 A B M3 ca cb es3 W h1 h2 l3 (by omega))
    clear ha0 ha1 ha2 hq1 hp1 hq2 hp2 hq3 hp3 l1 m1 l2 m2 l3 m3
    go_wp2_with fail
    refine wp_region_acts (X := Nat × Option Addr × Nat) (fun x => [(0, 46, .agg #[.int .i64 (r : Int), .int .i64 (k : Int), .slice (some ⟨g1, 0, none⟩) Na Na]), (1, 47, .slice (some ⟨y3, 0, none⟩) 3 3), (2, 48, .int .i64 (i : Int)), (3, 49, .pointer (some ⟨y3, i * 3, none⟩)), (4, 50, .agg #[.int .i64 (rb : Int), .int .i64 (cb : Int), .slice (some ⟨gb, 0, none⟩) Nb Nb]), (5, 51, .tuple #[.agg #[.int .i64 rr1, .int .i64 cc1, .slice x.2.1 M1 x.2.2], .bool ok1]), (6, 45, .tuple #[.agg #[.int .i64 rr1, .int .i64 cc1, .slice x.2.1 M1 x.2.2], .bool ok1]), (7, 52, .agg #[.int .i64 rr1, .int .i64 cc1, .slice x.2.1 M1 x.2.2]), (8, 53, .bool ok1), (9, 9, .pointer (some ⟨x.1, 0, none⟩)), (11, 10, .bool ok1)])
     (fun x L W => Kg none w W [some (w.heap.size, .cells #[.int .u8 (R1 : Int), .int .u8 (C1 : Int), .slice A1 n1 c1] 38 (0, 0)), some (w.heap.size + 1, .cells #[.int .u8 (R2 : Int), .int .u8 (C2 : Int), .slice A2 n2 c2] 38 (0, 0)), some (g1, lwO (enc (za))), some (b3, mrow r k (some ⟨g1, 0, none⟩) Na Na), some (y0, lwO (enc (zt))), some (y1, lwO (enc (zb))), some (y2, lwO (enc (zw))), some (y3, .cells #[.int .i64 (rt : Int), .int .i64 (kt : Int), .slice (some ⟨y0, 0, none⟩) Nt Nt, .int .i64 (r : Int), .int .i64 (k : Int), .slice (some ⟨y1, 0, none⟩) Na Na, .int .i64 (k : Int), .int .i64 (kt : Int), .slice (some ⟨y2, 0, none⟩) Nw Nw] 28 (0, 0)), entM (L 9) (L 10) x.1 (.cells #[.int .i64 rr1, .int .i64 cc1, .slice x.2.1 M1 x.2.2] 28 (0, 0))] ∧ RdL W [] ∧ (L 5 = true → RdW W x.2.1 es1) ∧ (L 7 = true → L 6 = true)) (by kernel_rfl) (by kernel_rfl) (0, none, 0) ?st (by kernel_rfl) ?_ ?_
    case st => exact ⟨by simpa [entM_no] using HK10.out.drew.room, RdL.nil _, fun h3 => by simp at h3, fun h3 => by simp at h3⟩
    ·simp only [selA, selT_cons, selT_nil, List.set_cons_zero, List.set_cons_succ, List.getD_cons_zero, List.getD_cons_succ]
     repeat' (first | exact ActSteps.nil | refine ActSteps.cons ?_ ?_)
     all_goals
      intro L x wx hJ hl hd hs K hK
      (try simp [Region.binds] at hd)
      have p0 := hJ.1.cell 3 0 rfl rfl
      have p1 := hJ.1.cell 3 1 rfl rfl
      have p2 := hJ.1.cell 3 2 rfl rfl
      have r0 := hJ.1.cell 7 (i * 3) rfl HA0.out
      have r1 := hJ.1.cell 7 (i * 3 + 1) rfl HA1.out
      have r2 := hJ.1.cell 7 (i * 3 + 2) rfl HA2.out
      try simp only [hd, hl, selV_true, selV_false]
     ·go_simp
      refine hK.out x _ _ ?_ ?_
      ·simp [hl, hd, hki, selV_true, selV_false]
      ·exact ⟨by simpa [hl] using hJ.1, hJ.2.1, by simpa [hl] using hJ.2.2.1, by simpa [hl, hd] using hJ.2.2.2⟩
     ·go_simp
      refine hK.out x _ _ ?_ ?_
      ·simp [hl, hd, hki, selV_true, selV_false]
      ·exact ⟨by simpa [hl] using hJ.1, hJ.2.1, by simpa [hl] using hJ.2.2.1, by simpa [hl, hd] using hJ.2.2.2⟩
     ·go_simp
      refine hK.out x _ _ ?_ ?_
      ·simp [hl, hd, hki, selV_true, selV_false]
      ·exact ⟨by simpa [hl] using hJ.1, hJ.2.1, by simpa [hl] using hJ.2.2.1, by simpa [hl, hd] using hJ.2.2.2⟩
     ·go_simp
      refine hK.out x _ _ ?_ ?_
      ·simp [hl, hd, hki, selV_true, selV_false]
      ·exact ⟨by simpa [hl] using hJ.1, hJ.2.1, by simpa [hl] using hJ.2.2.1, by simpa [hl, hd] using hJ.2.2.2⟩
     ·go_simp
      refine hK.out x _ _ ?_ ?_
      ·simp [hl, hd, hki, selV_true, selV_false]
      ·exact ⟨by simpa [hl] using hJ.1, hJ.2.1, by simpa [hl] using hJ.2.2.1, by simpa [hl, hd] using hJ.2.2.2⟩
     ·have hn6 := hs 6 _ rfl (by simp [Region.binds])
      have hn10 := hs 10 _ rfl (by simp [Region.binds])
      have hn7 := lt_of_false hJ.2.2.2 hn6
      go_simp
      with_reducible refine (HQ1.out _ (hJ.1.take 8)).mono ?_
      rintro e v ⟨A, cap, rfl, hrd, hb⟩
      refine hK.out (x.1, A, cap) _ _ ?_ ?_
      ·simp [hl, hd, hn6, hn7, hn10, selV_true, selV_false]
      ·exact ⟨by simpa [hn10, entM_false] using hJ.1.step hb, hJ.2.1.below hb, fun _ => hrd, by simp [hn7]⟩
     ·go_simp
      refine hK.out x _ _ ?_ ?_
      ·simp [hl, hd, hki, selV_true, selV_false]
      ·exact ⟨by simpa [hl] using hJ.1, hJ.2.1, by simpa [hl] using hJ.2.2.1, by simpa [hl, hd] using hJ.2.2.2⟩
     ·go_simp
      refine hK.out x _ _ ?_ ?_
      ·simp [hl, hd, hki, selV_true, selV_false]
      ·exact ⟨by simpa [hl] using hJ.1, hJ.2.1, by simpa [hl] using hJ.2.2.1, by simpa [hl, hd] using hJ.2.2.2⟩
     ·go_simp
      refine hK.out x _ _ ?_ ?_
      ·simp [hl, hd, hki, selV_true, selV_false]
      ·exact ⟨by simpa [hl] using hJ.1, hJ.2.1, by simpa [hl] using hJ.2.2.1, by simpa [hl, hd] using hJ.2.2.2⟩
     ·have hn10 := hs 10 _ rfl (by simp [Region.binds])
      go_simp
      refine hK.out (wx.heap.size, x.2) _ _ ?_ ?_
      ·simp [hl, hd, hn10, selV_true, selV_false]
      ·refine ⟨Kg.cast (hJ.1.new 8 (mrow 0 0 none 0 0) (by simp [hl, entM_no])) ?_, hJ.2.1.alloc _, fun h3 => RdW.below (hJ.2.2.1 (by simpa using h3)) ((Below.refl _ _).alloc (Nat.le_refl _) _), by simpa using hJ.2.2.2⟩
       simp [hn10, entM_new]
     ·have hJ2 := hJ.1
      simp only [hl, hd, entM_new] at hJ2
      have f0 := hJ2.frozen 8 0 rfl
      have f1 := hJ2.frozen 8 1 rfl
      have f2 := hJ2.frozen 8 2 rfl
      have g0 := hJ2.cell 8 0 rfl rfl
      have g1' := hJ2.cell 8 1 rfl rfl
      have g2' := hJ2.cell 8 2 rfl rfl
      go_simp
      have hKp := ((hJ2.put 8 0 rfl (.int .i64 rr1)).put 8 1 rfl (.int .i64 cc1)).put 8 2 rfl (.slice x.2.1 M1 x.2.2)
      have hm0 := hJ2.at_ 8 rfl
      have hm1 := (hJ2.put 8 0 rfl (.int .i64 rr1)).at_ 8 rfl
      have hm2 := ((hJ2.put 8 0 rfl (.int .i64 rr1)).put 8 1 rfl (.int .i64 cc1)).at_ 8 rfl
      refine hK.out x _ _ ?_ ?_
      ·simp [hl, hd, selV_true, selV_false]
      ·refine ⟨Kg.cast hKp (by simp [hd, entM_full]), ?_, ?_, by simpa [hd] using hJ.2.2.2⟩
       ·exact ((hJ.2.1.matput hm0 0 _).matput hm1 1 _).matput hm2 2 _
       ·exact fun h3 => (((hJ.2.2.1 (by simpa using h3)).matput hm0 0 _).matput hm1 1 _).matput hm2 2 _
     ·go_simp
      refine hK.out x _ _ ?_ ?_
      ·simp [hl, hd, hki, selV_true, selV_false]
      ·exact ⟨by simpa [hl] using hJ.1, hJ.2.1, by simpa [hl] using hJ.2.2.1, by simpa [hl, hd] using hJ.2.2.2⟩
    ·rintro ⟨c11, Ar11, ca11⟩ W11 hKx
     simp only [selA, selT_cons, selT_nil, List.set_cons_zero, List.set_cons_succ, List.getD_cons_zero, List.getD_cons_succ, selV_true]
     simp only [entM_full] at hKx
     obtain ⟨hKx, hRl, hRa, _⟩ := hKx
     have HK11 := Lib.hid (show Kg none w W11 [some (w.heap.size, .cells #[.int .u8 (R1 : Int), .int .u8 (C1 : Int), .slice A1 n1 c1] 38 (0, 0)), some (w.heap.size + 1, .cells #[.int .u8 (R2 : Int), .int .u8 (C2 : Int), .slice A2 n2 c2] 38 (0, 0)), some (g1, lwO (enc (za))), some (b3, mrow r k (some ⟨g1, 0, none⟩) Na Na), some (y0, lwO (enc (zt))), some (y1, lwO (enc (zb))), some (y2, lwO (enc (zw))), some (y3, .cells #[.int .i64 (rt : Int), .int .i64 (kt : Int), .slice (some ⟨y0, 0, none⟩) Nt Nt, .int .i64 (r : Int), .int .i64 (k : Int), .slice (some ⟨y1, 0, none⟩) Na Na, .int .i64 (k : Int), .int .i64 (kt : Int), .slice (some ⟨y2, 0, none⟩) Nw Nw] 28 (0, 0)), some (c11, .cells #[.int .i64 rr1, .int .i64 cc1, .slice Ar11 M1 ca11] 28 (0, 0))] from hKx)
     have HRL11 := Lib.hid (hRl.more (hRa trivial))
     clear hKx hRl hRa HK10
     go_wp2_with fail
     refine wp_region_acts (X := Nat × Option Addr × Nat) (fun x => [(0, 55, .agg #[.int .i64 (r : Int), .int .i64 (k : Int), .slice (some ⟨g1, 0, none⟩) Na Na]), (1, 56, .slice (some ⟨y3, 0, none⟩) 3 3), (2, 57, .int .i64 (i : Int)), (3, 58, .pointer (some ⟨y3, i * 3, none⟩)), (4, 59, .agg #[.int .i64 (rb : Int), .int .i64 (cb : Int), .slice (some ⟨gb, 0, none⟩) Nb Nb]), (5, 60, .tuple #[.agg #[.int .i64 rr1, .int .i64 cc1, .slice x.2.1 M1 x.2.2], .bool ok1]), (6, 54, .tuple #[.agg #[.int .i64 rr1, .int .i64 cc1, .slice x.2.1 M1 x.2.2], .bool ok1]), (7, 61, .agg #[.int .i64 rr1, .int .i64 cc1, .slice x.2.1 M1 x.2.2]), (8, 62, .bool ok1), (9, 11, .pointer (some ⟨x.1, 0, none⟩)), (11, 12, .bool ok1)])
      (fun x L W => Kg none w W [some (w.heap.size, .cells #[.int .u8 (R1 : Int), .int .u8 (C1 : Int), .slice A1 n1 c1] 38 (0, 0)), some (w.heap.size + 1, .cells #[.int .u8 (R2 : Int), .int .u8 (C2 : Int), .slice A2 n2 c2] 38 (0, 0)), some (g1, lwO (enc (za))), some (b3, mrow r k (some ⟨g1, 0, none⟩) Na Na), some (y0, lwO (enc (zt))), some (y1, lwO (enc (zb))), some (y2, lwO (enc (zw))), some (y3, .cells #[.int .i64 (rt : Int), .int .i64 (kt : Int), .slice (some ⟨y0, 0, none⟩) Nt Nt, .int .i64 (r : Int), .int .i64 (k : Int), .slice (some ⟨y1, 0, none⟩) Na Na, .int .i64 (k : Int), .int .i64 (kt : Int), .slice (some ⟨y2, 0, none⟩) Nw Nw] 28 (0, 0)), some (c11, .cells #[.int .i64 rr1, .int .i64 cc1, .slice Ar11 M1 ca11] 28 (0, 0)), entM (L 9) (L 10) x.1 (.cells #[.int .i64 rr1, .int .i64 cc1, .slice x.2.1 M1 x.2.2] 28 (0, 0))] ∧ RdL W [(Ar11, es1)] ∧ (L 5 = true → RdW W x.2.1 es1) ∧ (L 7 = true → L 6 = true)) (by kernel_rfl) (by kernel_rfl) (0, none, 0) ?st (by kernel_rfl) ?_ ?_
     case st => exact ⟨by simpa [entM_no] using HK11.out.drew.room, HRL11.out, fun h3 => by simp at h3, fun h3 => by simp at h3⟩
     ·simp only [selA, selT_cons, selT_nil, List.set_cons_zero, List.set_cons_succ, List.getD_cons_zero, List.getD_cons_succ]
      repeat' (first | exact ActSteps.nil | refine ActSteps.cons ?_ ?_)
      all_goals
       intro L x wx hJ hl hd hs K hK
       (try simp [Region.binds] at hd)
       have p0 := hJ.1.cell 3 0 rfl rfl
       have p1 := hJ.1.cell 3 1 rfl rfl
       have p2 := hJ.1.cell 3 2 rfl rfl
       have r0 := hJ.1.cell 7 (i * 3) rfl HA0.out
       have r1 := hJ.1.cell 7 (i * 3 + 1) rfl HA1.out
       have r2 := hJ.1.cell 7 (i * 3 + 2) rfl HA2.out
       try simp only [hd, hl, selV_true, selV_false]
      ·go_simp
       refine hK.out x _ _ ?_ ?_
       ·simp [hl, hd, hki, selV_true, selV_false]
       ·exact ⟨by simpa [hl] using hJ.1, hJ.2.1, by simpa [hl] using hJ.2.2.1, by simpa [hl, hd] using hJ.2.2.2⟩
      ·go_simp
       refine hK.out x _ _ ?_ ?_
       ·simp [hl, hd, hki, selV_true, selV_false]
       ·exact ⟨by simpa [hl] using hJ.1, hJ.2.1, by simpa [hl] using hJ.2.2.1, by simpa [hl, hd] using hJ.2.2.2⟩
      ·go_simp
       refine hK.out x _ _ ?_ ?_
       ·simp [hl, hd, hki, selV_true, selV_false]
       ·exact ⟨by simpa [hl] using hJ.1, hJ.2.1, by simpa [hl] using hJ.2.2.1, by simpa [hl, hd] using hJ.2.2.2⟩
      ·go_simp
       refine hK.out x _ _ ?_ ?_
       ·simp [hl, hd, hki, selV_true, selV_false]
       ·exact ⟨by simpa [hl] using hJ.1, hJ.2.1, by simpa [hl] using hJ.2.2.1, by simpa [hl, hd] using hJ.2.2.2⟩
      ·go_simp
       refine hK.out x _ _ ?_ ?_
       ·simp [hl, hd, hki, selV_true, selV_false]
       ·exact ⟨by simpa [hl] using hJ.1, hJ.2.1, by simpa [hl] using hJ.2.2.1, by simpa [hl, hd] using hJ.2.2.2⟩
      ·have hn6 := hs 6 _ rfl (by simp [Region.binds])
       have hn10 := hs 10 _ rfl (by simp [Region.binds])
       have hn7 := lt_of_false hJ.2.2.2 hn6
       go_simp
       with_reducible refine (HP1.out _ (hJ.1.take 8)).mono ?_
       rintro e v ⟨A, cap, rfl, hrd, hb⟩
       refine hK.out (x.1, A, cap) _ _ ?_ ?_
       ·simp [hl, hd, hn6, hn7, hn10, selV_true, selV_false]
       ·exact ⟨by simpa [hn10, entM_false] using hJ.1.step hb, hJ.2.1.below hb, fun _ => hrd, by simp [hn7]⟩
      ·go_simp
       refine hK.out x _ _ ?_ ?_
       ·simp [hl, hd, hki, selV_true, selV_false]
       ·exact ⟨by simpa [hl] using hJ.1, hJ.2.1, by simpa [hl] using hJ.2.2.1, by simpa [hl, hd] using hJ.2.2.2⟩
      ·go_simp
       refine hK.out x _ _ ?_ ?_
       ·simp [hl, hd, hki, selV_true, selV_false]
       ·exact ⟨by simpa [hl] using hJ.1, hJ.2.1, by simpa [hl] using hJ.2.2.1, by simpa [hl, hd] using hJ.2.2.2⟩
      ·go_simp
       refine hK.out x _ _ ?_ ?_
       ·simp [hl, hd, hki, selV_true, selV_false]
       ·exact ⟨by simpa [hl] using hJ.1, hJ.2.1, by simpa [hl] using hJ.2.2.1, by simpa [hl, hd] using hJ.2.2.2⟩
      ·have hn10 := hs 10 _ rfl (by simp [Region.binds])
       go_simp
       refine hK.out (wx.heap.size, x.2) _ _ ?_ ?_
       ·simp [hl, hd, hn10, selV_true, selV_false]
       ·refine ⟨Kg.cast (hJ.1.new 9 (mrow 0 0 none 0 0) (by simp [hl, entM_no])) ?_, hJ.2.1.alloc _, fun h3 => RdW.below (hJ.2.2.1 (by simpa using h3)) ((Below.refl _ _).alloc (Nat.le_refl _) _), by simpa using hJ.2.2.2⟩
        simp [hn10, entM_new]
      ·have hJ2 := hJ.1
       simp only [hl, hd, entM_new] at hJ2
       have f0 := hJ2.frozen 9 0 rfl
       have f1 := hJ2.frozen 9 1 rfl
       have f2 := hJ2.frozen 9 2 rfl
       have g0 := hJ2.cell 9 0 rfl rfl
       have g1' := hJ2.cell 9 1 rfl rfl
       have g2' := hJ2.cell 9 2 rfl rfl
       go_simp
       have hKp := ((hJ2.put 9 0 rfl (.int .i64 rr1)).put 9 1 rfl (.int .i64 cc1)).put 9 2 rfl (.slice x.2.1 M1 x.2.2)
       have hm0 := hJ2.at_ 9 rfl
       have hm1 := (hJ2.put 9 0 rfl (.int .i64 rr1)).at_ 9 rfl
       have hm2 := ((hJ2.put 9 0 rfl (.int .i64 rr1)).put 9 1 rfl (.int .i64 cc1)).at_ 9 rfl
       refine hK.out x _ _ ?_ ?_
       ·simp [hl, hd, selV_true, selV_false]
       ·refine ⟨Kg.cast hKp (by simp [hd, entM_full]), ?_, ?_, by simpa [hd] using hJ.2.2.2⟩
        ·exact ((hJ.2.1.matput hm0 0 _).matput hm1 1 _).matput hm2 2 _
        ·exact fun h3 => (((hJ.2.2.1 (by simpa using h3)).matput hm0 0 _).matput hm1 1 _).matput hm2 2 _
      ·go_simp
       refine hK.out x _ _ ?_ ?_
       ·simp [hl, hd, hki, selV_true, selV_false]
       ·exact ⟨by simpa [hl] using hJ.1, hJ.2.1, by simpa [hl] using hJ.2.2.1, by simpa [hl, hd] using hJ.2.2.2⟩
     ·rintro ⟨c12, Ar12, ca12⟩ W12 hKx
      simp only [selA, selT_cons, selT_nil, List.set_cons_zero, List.set_cons_succ, List.getD_cons_zero, List.getD_cons_succ, selV_true]
      simp only [entM_full] at hKx
      obtain ⟨hKx, hRl, hRa, _⟩ := hKx
      have HK12 := Lib.hid (show Kg none w W12 [some (w.heap.size, .cells #[.int .u8 (R1 : Int), .int .u8 (C1 : Int), .slice A1 n1 c1] 38 (0, 0)), some (w.heap.size + 1, .cells #[.int .u8 (R2 : Int), .int .u8 (C2 : Int), .slice A2 n2 c2] 38 (0, 0)), some (g1, lwO (enc (za))), some (b3, mrow r k (some ⟨g1, 0, none⟩) Na Na), some (y0, lwO (enc (zt))), some (y1, lwO (enc (zb))), some (y2, lwO (enc (zw))), some (y3, .cells #[.int .i64 (rt : Int), .int .i64 (kt : Int), .slice (some ⟨y0, 0, none⟩) Nt Nt, .int .i64 (r : Int), .int .i64 (k : Int), .slice (some ⟨y1, 0, none⟩) Na Na, .int .i64 (k : Int), .int .i64 (kt : Int), .slice (some ⟨y2, 0, none⟩) Nw Nw] 28 (0, 0)), some (c11, .cells #[.int .i64 rr1, .int .i64 cc1, .slice Ar11 M1 ca11] 28 (0, 0)), some (c12, .cells #[.int .i64 rr1, .int .i64 cc1, .slice Ar12 M1 ca12] 28 (0, 0))] from hKx)
      have HRL12 := Lib.hid (hRl.more (hRa trivial))
      clear hKx hRl hRa HK11 HRL11
      go_wp2_with fail
      refine wp_region_acts (X := Nat × Option Addr × Nat) (fun x => [(0, 64, .agg #[.int .i64 (r : Int), .int .i64 (k : Int), .slice (some ⟨g1, 0, none⟩) Na Na]), (1, 65, .slice (some ⟨y3, 0, none⟩) 3 3), (2, 66, .int .i64 (i : Int)), (3, 67, .pointer (some ⟨y3, i * 3, none⟩)), (4, 68, .agg #[.int .i64 (rb : Int), .int .i64 (cb : Int), .slice (some ⟨gb, 0, none⟩) Nb Nb]), (5, 69, .tuple #[.agg #[.int .i64 rr2, .int .i64 cc2, .slice x.2.1 M2 x.2.2], .bool ok2]), (6, 63, .tuple #[.agg #[.int .i64 rr2, .int .i64 cc2, .slice x.2.1 M2 x.2.2], .bool ok2]), (7, 70, .agg #[.int .i64 rr2, .int .i64 cc2, .slice x.2.1 M2 x.2.2]), (8, 71, .bool ok2), (9, 13, .pointer (some ⟨x.1, 0, none⟩)), (11, 14, .bool ok2)])
       (fun x L W => Kg none w W [some (w.heap.size, .cells #[.int .u8 (R1 : Int), .int .u8 (C1 : Int), .slice A1 n1 c1] 38 (0, 0)), some (w.heap.size + 1, .cells #[.int .u8 (R2 : Int), .int .u8 (C2 : Int), .slice A2 n2 c2] 38 (0, 0)), some (g1, lwO (enc (za))), some (b3, mrow r k (some ⟨g1, 0, none⟩) Na Na), some (y0, lwO (enc (zt))), some (y1, lwO (enc (zb))), some (y2, lwO (enc (zw))), some (y3, .cells #[.int .i64 (rt : Int), .int .i64 (kt : Int), .slice (some ⟨y0, 0, none⟩) Nt Nt, .int .i64 (r : Int), .int .i64 (k : Int), .slice (some ⟨y1, 0, none⟩) Na Na, .int .i64 (k : Int), .int .i64 (kt : Int), .slice (some ⟨y2, 0, none⟩) Nw Nw] 28 (0, 0)), some (c11, .cells #[.int .i64 rr1, .int .i64 cc1, .slice Ar11 M1 ca11] 28 (0, 0)), some (c12, .cells #[.int .i64 rr1, .int .i64 cc1, .slice Ar12 M1 ca12] 28 (0, 0)), entM (L 9) (L 10) x.1 (.cells #[.int .i64 rr2, .int .i64 cc2, .slice x.2.1 M2 x.2.2] 28 (0, 0))] ∧ RdL W [(Ar11, es1), (Ar12, es1)] ∧ (L 5 = true → RdW W x.2.1 es2) ∧ (L 7 = true → L 6 = true)) (by kernel_rfl) (by kernel_rfl) (0, none, 0) ?st (by kernel_rfl) ?_ ?_
      case st => exact ⟨by simpa [entM_no] using HK12.out.drew.room, HRL12.out, fun h3 => by simp at h3, fun h3 => by simp at h3⟩
      ·simp only [selA, selT_cons, selT_nil, List.set_cons_zero, List.set_cons_succ, List.getD_cons_zero, List.getD_cons_succ]
       repeat' (first | exact ActSteps.nil | refine ActSteps.cons ?_ ?_)
       all_goals
        intro L x wx hJ hl hd hs K hK
        (try simp [Region.binds] at hd)
        have p0 := hJ.1.cell 3 0 rfl rfl
        have p1 := hJ.1.cell 3 1 rfl rfl
        have p2 := hJ.1.cell 3 2 rfl rfl
        have r0 := hJ.1.cell 7 (i * 3) rfl HA0.out
        have r1 := hJ.1.cell 7 (i * 3 + 1) rfl HA1.out
        have r2 := hJ.1.cell 7 (i * 3 + 2) rfl HA2.out
        try simp only [hd, hl, selV_true, selV_false]
       ·go_simp
        refine hK.out x _ _ ?_ ?_
        ·simp [hl, hd, hki, selV_true, selV_false]
        ·exact ⟨by simpa [hl] using hJ.1, hJ.2.1, by simpa [hl] using hJ.2.2.1, by simpa [hl, hd] using hJ.2.2.2⟩
       ·go_simp
        refine hK.out x _ _ ?_ ?_
        ·simp [hl, hd, hki, selV_true, selV_false]
        ·exact ⟨by simpa [hl] using hJ.1, hJ.2.1, by simpa [hl] using hJ.2.2.1, by simpa [hl, hd] using hJ.2.2.2⟩
       ·go_simp
        refine hK.out x _ _ ?_ ?_
        ·simp [hl, hd, hki, selV_true, selV_false]
        ·exact ⟨by simpa [hl] using hJ.1, hJ.2.1, by simpa [hl] using hJ.2.2.1, by simpa [hl, hd] using hJ.2.2.2⟩
       ·go_simp
        refine hK.out x _ _ ?_ ?_
        ·simp [hl, hd, hki, selV_true, selV_false]
        ·exact ⟨by simpa [hl] using hJ.1, hJ.2.1, by simpa [hl] using hJ.2.2.1, by simpa [hl, hd] using hJ.2.2.2⟩
       ·go_simp
        refine hK.out x _ _ ?_ ?_
        ·simp [hl, hd, hki, selV_true, selV_false]
        ·exact ⟨by simpa [hl] using hJ.1, hJ.2.1, by simpa [hl] using hJ.2.2.1, by simpa [hl, hd] using hJ.2.2.2⟩
       ·have hn6 := hs 6 _ rfl (by simp [Region.binds])
        have hn10 := hs 10 _ rfl (by simp [Region.binds])
        have hn7 := lt_of_false hJ.2.2.2 hn6
        go_simp
        with_reducible refine (HQ2.out _ (hJ.1.take 8)).mono ?_
        rintro e v ⟨A, cap, rfl, hrd, hb⟩
        refine hK.out (x.1, A, cap) _ _ ?_ ?_
        ·simp [hl, hd, hn6, hn7, hn10, selV_true, selV_false]
        ·exact ⟨by simpa [hn10, entM_false] using hJ.1.step hb, hJ.2.1.below hb, fun _ => hrd, by simp [hn7]⟩
       ·go_simp
        refine hK.out x _ _ ?_ ?_
        ·simp [hl, hd, hki, selV_true, selV_false]
        ·exact ⟨by simpa [hl] using hJ.1, hJ.2.1, by simpa [hl] using hJ.2.2.1, by simpa [hl, hd] using hJ.2.2.2⟩
       ·go_simp
        refine hK.out x _ _ ?_ ?_
        ·simp [hl, hd, hki, selV_true, selV_false]
        ·exact ⟨by simpa [hl] using hJ.1, hJ.2.1, by simpa [hl] using hJ.2.2.1, by simpa [hl, hd] using hJ.2.2.2⟩
       ·go_simp
        refine hK.out x _ _ ?_ ?_
        ·simp [hl, hd, hki, selV_true, selV_false]
        ·exact ⟨by simpa [hl] using hJ.1, hJ.2.1, by simpa [hl] using hJ.2.2.1, by simpa [hl, hd] using hJ.2.2.2⟩
       ·have hn10 := hs 10 _ rfl (by simp [Region.binds])
        go_simp
        refine hK.out (wx.heap.size, x.2) _ _ ?_ ?_
        ·simp [hl, hd, hn10, selV_true, selV_false]
        ·refine ⟨Kg.cast (hJ.1.new 10 (mrow 0 0 none 0 0) (by simp [hl, entM_no])) ?_, hJ.2.1.alloc _, fun h3 => RdW.below (hJ.2.2.1 (by simpa using h3)) ((Below.refl _ _).alloc (Nat.le_refl _) _), by simpa using hJ.2.2.2⟩
         simp [hn10, entM_new]
       ·have hJ2 := hJ.1
        simp only [hl, hd, entM_new] at hJ2
        have f0 := hJ2.frozen 10 0 rfl
        have f1 := hJ2.frozen 10 1 rfl
        have f2 := hJ2.frozen 10 2 rfl
        have g0 := hJ2.cell 10 0 rfl rfl
        have g1' := hJ2.cell 10 1 rfl rfl
        have g2' := hJ2.cell 10 2 rfl rfl
        go_simp
        have hKp := ((hJ2.put 10 0 rfl (.int .i64 rr2)).put 10 1 rfl (.int .i64 cc2)).put 10 2 rfl (.slice x.2.1 M2 x.2.2)
        have hm0 := hJ2.at_ 10 rfl
        have hm1 := (hJ2.put 10 0 rfl (.int .i64 rr2)).at_ 10 rfl
        have hm2 := ((hJ2.put 10 0 rfl (.int .i64 rr2)).put 10 1 rfl (.int .i64 cc2)).at_ 10 rfl
        refine hK.out x _ _ ?_ ?_
        ·simp [hl, hd, selV_true, selV_false]
        ·refine ⟨Kg.cast hKp (by simp [hd, entM_full]), ?_, ?_, by simpa [hd] using hJ.2.2.2⟩
         ·exact ((hJ.2.1.matput hm0 0 _).matput hm1 1 _).matput hm2 2 _
         ·exact fun h3 => (((hJ.2.2.1 (by simpa using h3)).matput hm0 0 _).matput hm1 1 _).matput hm2 2 _
       ·go_simp
        refine hK.out x _ _ ?_ ?_
        ·simp [hl, hd, hki, selV_true, selV_false]
        ·exact ⟨by simpa [hl] using hJ.1, hJ.2.1, by simpa [hl] using hJ.2.2.1, by simpa [hl, hd] using hJ.2.2.2⟩
      ·rintro ⟨c13, Ar13, ca13⟩ W13 hKx
       simp only [selA, selT_cons, selT_nil, List.set_cons_zero, List.set_cons_succ, List.getD_cons_zero, List.getD_cons_succ, selV_true]
       simp only [entM_full] at hKx
       obtain ⟨hKx, hRl, hRa, _⟩ := hKx
       have HK13 := Lib.hid (show Kg none w W13 [some (w.heap.size, .cells #[.int .u8 (R1 : Int), .int .u8 (C1 : Int), .slice A1 n1 c1] 38 (0, 0)), some (w.heap.size + 1, .cells #[.int .u8 (R2 : Int), .int .u8 (C2 : Int), .slice A2 n2 c2] 38 (0, 0)), some (g1, lwO (enc (za))), some (b3, mrow r k (some ⟨g1, 0, none⟩) Na Na), some (y0, lwO (enc (zt))), some (y1, lwO (enc (zb))), some (y2, lwO (enc (zw))), some (y3, .cells #[.int .i64 (rt : Int), .int .i64 (kt : Int), .slice (some ⟨y0, 0, none⟩) Nt Nt, .int .i64 (r : Int), .int .i64 (k : Int), .slice (some ⟨y1, 0, none⟩) Na Na, .int .i64 (k : Int), .int .i64 (kt : Int), .slice (some ⟨y2, 0, none⟩) Nw Nw] 28 (0, 0)), some (c11, .cells #[.int .i64 rr1, .int .i64 cc1, .slice Ar11 M1 ca11] 28 (0, 0)), some (c12, .cells #[.int .i64 rr1, .int .i64 cc1, .slice Ar12 M1 ca12] 28 (0, 0)), some (c13, .cells #[.int .i64 rr2, .int .i64 cc2, .slice Ar13 M2 ca13] 28 (0, 0))] from hKx)
       have HRL13 := Lib.hid (hRl.more (hRa trivial))
       clear hKx hRl hRa HK12 HRL12
       go_wp2_with fail
       refine wp_region_acts (X := Nat × Option Addr × Nat) (fun x => [(0, 73, .agg #[.int .i64 (r : Int), .int .i64 (k : Int), .slice (some ⟨g1, 0, none⟩) Na Na]), (1, 74, .slice (some ⟨y3, 0, none⟩) 3 3), (2, 75, .int .i64 (i : Int)), (3, 76, .pointer (some ⟨y3, i * 3, none⟩)), (4, 77, .agg #[.int .i64 (rb : Int), .int .i64 (cb : Int), .slice (some ⟨gb, 0, none⟩) Nb Nb]), (5, 78, .tuple #[.agg #[.int .i64 rr2, .int .i64 cc2, .slice x.2.1 M2 x.2.2], .bool ok2]), (6, 72, .tuple #[.agg #[.int .i64 rr2, .int .i64 cc2, .slice x.2.1 M2 x.2.2], .bool ok2]), (7, 79, .agg #[.int .i64 rr2, .int .i64 cc2, .slice x.2.1 M2 x.2.2]), (8, 80, .bool ok2), (9, 15, .pointer (some ⟨x.1, 0, none⟩)), (11, 16, .bool ok2)])
        (fun x L W => Kg none w W [some (w.heap.size, .cells #[.int .u8 (R1 : Int), .int .u8 (C1 : Int), .slice A1 n1 c1] 38 (0, 0)), some (w.heap.size + 1, .cells #[.int .u8 (R2 : Int), .int .u8 (C2 : Int), .slice A2 n2 c2] 38 (0, 0)), some (g1, lwO (enc (za))), some (b3, mrow r k (some ⟨g1, 0, none⟩) Na Na), some (y0, lwO (enc (zt))), some (y1, lwO (enc (zb))), some (y2, lwO (enc (zw))), some (y3, .cells #[.int .i64 (rt : Int), .int .i64 (kt : Int), .slice (some ⟨y0, 0, none⟩) Nt Nt, .int .i64 (r : Int), .int .i64 (k : Int), .slice (some ⟨y1, 0, none⟩) Na Na, .int .i64 (k : Int), .int .i64 (kt : Int), .slice (some ⟨y2, 0, none⟩) Nw Nw] 28 (0, 0)), some (c11, .cells #[.int .i64 rr1, .int .i64 cc1, .slice Ar11 M1 ca11] 28 (0, 0)), some (c12, .cells #[.int .i64 rr1, .int .i64 cc1, .slice Ar12 M1 ca12] 28 (0, 0)), some (c13, .cells #[.int .i64 rr2, .int .i64 cc2, .slice Ar13 M2 ca13] 28 (0, 0)), entM (L 9) (L 10) x.1 (.cells #[.int .i64 rr2, .int .i64 cc2, .slice x.2.1 M2 x.2.2] 28 (0, 0))] ∧ RdL W [(Ar11, es1), (Ar12, es1), (Ar13, es2)] ∧ (L 5 = true → RdW W x.2.1 es2) ∧ (L 7 = true → L 6 = true)) (by kernel_rfl) (by kernel_rfl) (0, none, 0) ?st (by kernel_rfl) ?_ ?_
       case st => exact ⟨by simpa [entM_no] using HK13.out.drew.room, HRL13.out, fun h3 => by simp at h3, fun h3 => by simp at h3⟩
       ·simp only [selA, selT_cons, selT_nil, List.set_cons_zero, List.set_cons_succ, List.getD_cons_zero, List.getD_cons_succ]
        repeat' (first | exact ActSteps.nil | refine ActSteps.cons ?_ ?_)
        all_goals
         intro L x wx hJ hl hd hs K hK
         (try simp [Region.binds] at hd)
         have p0 := hJ.1.cell 3 0 rfl rfl
         have p1 := hJ.1.cell 3 1 rfl rfl
         have p2 := hJ.1.cell 3 2 rfl rfl
         have r0 := hJ.1.cell 7 (i * 3) rfl HA0.out
         have r1 := hJ.1.cell 7 (i * 3 + 1) rfl HA1.out
         have r2 := hJ.1.cell 7 (i * 3 + 2) rfl HA2.out
         try simp only [hd, hl, selV_true, selV_false]
        ·go_simp
         refine hK.out x _ _ ?_ ?_
         ·simp [hl, hd, hki, selV_true, selV_false]
         ·exact ⟨by simpa [hl] using hJ.1, hJ.2.1, by simpa [hl] using hJ.2.2.1, by simpa [hl, hd] using hJ.2.2.2⟩
        ·go_simp
         refine hK.out x _ _ ?_ ?_
         ·simp [hl, hd, hki, selV_true, selV_false]
         ·exact ⟨by simpa [hl] using hJ.1, hJ.2.1, by simpa [hl] using hJ.2.2.1, by simpa [hl, hd] using hJ.2.2.2⟩
        ·go_simp
         refine hK.out x _ _ ?_ ?_
         ·simp [hl, hd, hki, selV_true, selV_false]
         ·exact ⟨by simpa [hl] using hJ.1, hJ.2.1, by simpa [hl] using hJ.2.2.1, by simpa [hl, hd] using hJ.2.2.2⟩
        ·go_simp
         refine hK.out x _ _ ?_ ?_
         ·simp [hl, hd, hki, selV_true, selV_false]
         ·exact ⟨by simpa [hl] using hJ.1, hJ.2.1, by simpa [hl] using hJ.2.2.1, by simpa [hl, hd] using hJ.2.2.2⟩
        ·go_simp
         refine hK.out x _ _ ?_ ?_
         ·simp [hl, hd, hki, selV_true, selV_false]
         ·exact ⟨by simpa [hl] using hJ.1, hJ.2.1, by simpa [hl] using hJ.2.2.1, by simpa [hl, hd] using hJ.2.2.2⟩
        ·have hn6 := hs 6 _ rfl (by simp [Region.binds])
         have hn10 := hs 10 _ rfl (by simp [Region.binds])
         have hn7 := lt_of_false hJ.2.2.2 hn6
         go_simp
         with_reducible refine (HP2.out _ (hJ.1.take 8)).mono ?_
         rintro e v ⟨A, cap, rfl, hrd, hb⟩
         refine hK.out (x.1, A, cap) _ _ ?_ ?_
         ·simp [hl, hd, hn6, hn7, hn10, selV_true, selV_false]
         ·exact ⟨by simpa [hn10, entM_false] using hJ.1.step hb, hJ.2.1.below hb, fun _ => hrd, by simp [hn7]⟩
        ·go_simp
         refine hK.out x _ _ ?_ ?_
         ·simp [hl, hd, hki, selV_true, selV_false]
         ·exact ⟨by simpa [hl] using hJ.1, hJ.2.1, by simpa [hl] using hJ.2.2.1, by simpa [hl, hd] using hJ.2.2.2⟩
        ·go_simp
         refine hK.out x _ _ ?_ ?_
         ·simp [hl, hd, hki, selV_true, selV_false]
         ·exact ⟨by simpa [hl] using hJ.1, hJ.2.1, by simpa [hl] using hJ.2.2.1, by simpa [hl, hd] using hJ.2.2.2⟩
        ·go_simp
         refine hK.out x _ _ ?_ ?_
         ·simp [hl, hd, hki, selV_true, selV_false]
         ·exact ⟨by simpa [hl] using hJ.1, hJ.2.1, by simpa [hl] using hJ.2.2.1, by simpa [hl, hd] using hJ.2.2.2⟩
        ·have hn10 := hs 10 _ rfl (by simp [Region.binds])
         go_simp
         refine hK.out (wx.heap.size, x.2) _ _ ?_ ?_
         ·simp [hl, hd, hn10, selV_true, selV_false]
         ·refine ⟨Kg.cast (hJ.1.new 11 (mrow 0 0 none 0 0) (by simp [hl, entM_no])) ?_, hJ.2.1.alloc _, fun h3 => RdW.below (hJ.2.2.1 (by simpa using h3)) ((Below.refl _ _).alloc (Nat.le_refl _) _), by simpa using hJ.2.2.2⟩
          simp [hn10, entM_new]
        ·have hJ2 := hJ.1
         simp only [hl, hd, entM_new] at hJ2
         have f0 := hJ2.frozen 11 0 rfl
         have f1 := hJ2.frozen 11 1 rfl
         have f2 := hJ2.frozen 11 2 rfl
         have g0 := hJ2.cell 11 0 rfl rfl
         have g1' := hJ2.cell 11 1 rfl rfl
         have g2' := hJ2.cell 11 2 rfl rfl
         go_simp
         have hKp := ((hJ2.put 11 0 rfl (.int .i64 rr2)).put 11 1 rfl (.int .i64 cc2)).put 11 2 rfl (.slice x.2.1 M2 x.2.2)
         have hm0 := hJ2.at_ 11 rfl
         have hm1 := (hJ2.put 11 0 rfl (.int .i64 rr2)).at_ 11 rfl
         have hm2 := ((hJ2.put 11 0 rfl (.int .i64 rr2)).put 11 1 rfl (.int .i64 cc2)).at_ 11 rfl
         refine hK.out x _ _ ?_ ?_
         ·simp [hl, hd, selV_true, selV_false]
         ·refine ⟨Kg.cast hKp (by simp [hd, entM_full]), ?_, ?_, by simpa [hd] using hJ.2.2.2⟩
          ·exact ((hJ.2.1.matput hm0 0 _).matput hm1 1 _).matput hm2 2 _
          ·exact fun h3 => (((hJ.2.2.1 (by simpa using h3)).matput hm0 0 _).matput hm1 1 _).matput hm2 2 _
        ·go_simp
         refine hK.out x _ _ ?_ ?_
         ·simp [hl, hd, hki, selV_true, selV_false]
         ·exact ⟨by simpa [hl] using hJ.1, hJ.2.1, by simpa [hl] using hJ.2.2.1, by simpa [hl, hd] using hJ.2.2.2⟩
       ·rintro ⟨c14, Ar14, ca14⟩ W14 hKx
        simp only [selA, selT_cons, selT_nil, List.set_cons_zero, List.set_cons_succ, List.getD_cons_zero, List.getD_cons_succ, selV_true]
        simp only [entM_full] at hKx
        obtain ⟨hKx, hRl, hRa, _⟩ := hKx
        have HK14 := Lib.hid (show Kg none w W14 [some (w.heap.size, .cells #[.int .u8 (R1 : Int), .int .u8 (C1 : Int), .slice A1 n1 c1] 38 (0, 0)), some (w.heap.size + 1, .cells #[.int .u8 (R2 : Int), .int .u8 (C2 : Int), .slice A2 n2 c2] 38 (0, 0)), some (g1, lwO (enc (za))), some (b3, mrow r k (some ⟨g1, 0, none⟩) Na Na), some (y0, lwO (enc (zt))), some (y1, lwO (enc (zb))), some (y2, lwO (enc (zw))), some (y3, .cells #[.int .i64 (rt : Int), .int .i64 (kt : Int), .slice (some ⟨y0, 0, none⟩) Nt Nt, .int .i64 (r : Int), .int .i64 (k : Int), .slice (some ⟨y1, 0, none⟩) Na Na, .int .i64 (k : Int), .int .i64 (kt : Int), .slice (some ⟨y2, 0, none⟩) Nw Nw] 28 (0, 0)), some (c11, .cells #[.int .i64 rr1, .int .i64 cc1, .slice Ar11 M1 ca11] 28 (0, 0)), some (c12, .cells #[.int .i64 rr1, .int .i64 cc1, .slice Ar12 M1 ca12] 28 (0, 0)), some (c13, .cells #[.int .i64 rr2, .int .i64 cc2, .slice Ar13 M2 ca13] 28 (0, 0)), some (c14, .cells #[.int .i64 rr2, .int .i64 cc2, .slice Ar14 M2 ca14] 28 (0, 0))] from hKx)
        have HRL14 := Lib.hid (hRl.more (hRa trivial))
        clear hKx hRl hRa HK13 HRL13
        go_wp2_with fail
        refine wp_region_acts (X := Nat × Option Addr × Nat) (fun x => [(0, 82, .agg #[.int .i64 (r : Int), .int .i64 (k : Int), .slice (some ⟨g1, 0, none⟩) Na Na]), (1, 83, .slice (some ⟨y3, 0, none⟩) 3 3), (2, 84, .int .i64 (i : Int)), (3, 85, .pointer (some ⟨y3, i * 3, none⟩)), (4, 86, .agg #[.int .i64 (rb : Int), .int .i64 (cb : Int), .slice (some ⟨gb, 0, none⟩) Nb Nb]), (5, 87, .tuple #[.agg #[.int .i64 rr3, .int .i64 cc3, .slice x.2.1 M3 x.2.2], .bool ok3]), (6, 81, .tuple #[.agg #[.int .i64 rr3, .int .i64 cc3, .slice x.2.1 M3 x.2.2], .bool ok3]), (7, 88, .agg #[.int .i64 rr3, .int .i64 cc3, .slice x.2.1 M3 x.2.2]), (8, 89, .bool ok3), (9, 17, .pointer (some ⟨x.1, 0, none⟩)), (11, 18, .bool ok3)])
         (fun x L W => Kg none w W [some (w.heap.size, .cells #[.int .u8 (R1 : Int), .int .u8 (C1 : Int), .slice A1 n1 c1] 38 (0, 0)), some (w.heap.size + 1, .cells #[.int .u8 (R2 : Int), .int .u8 (C2 : Int), .slice A2 n2 c2] 38 (0, 0)), some (g1, lwO (enc (za))), some (b3, mrow r k (some ⟨g1, 0, none⟩) Na Na), some (y0, lwO (enc (zt))), some (y1, lwO (enc (zb))), some (y2, lwO (enc (zw))), some (y3, .cells #[.int .i64 (rt : Int), .int .i64 (kt : Int), .slice (some ⟨y0, 0, none⟩) Nt Nt, .int .i64 (r : Int), .int .i64 (k : Int), .slice (some ⟨y1, 0, none⟩) Na Na, .int .i64 (k : Int), .int .i64 (kt : Int), .slice (some ⟨y2, 0, none⟩) Nw Nw] 28 (0, 0)), some (c11, .cells #[.int .i64 rr1, .int .i64 cc1, .slice Ar11 M1 ca11] 28 (0, 0)), some (c12, .cells #[.int .i64 rr1, .int .i64 cc1, .slice Ar12 M1 ca12] 28 (0, 0)), some (c13, .cells #[.int .i64 rr2, .int .i64 cc2, .slice Ar13 M2 ca13] 28 (0, 0)), some (c14, .cells #[.int .i64 rr2, .int .i64 cc2, .slice Ar14 M2 ca14] 28 (0, 0)), entM (L 9) (L 10) x.1 (.cells #[.int .i64 rr3, .int .i64 cc3, .slice x.2.1 M3 x.2.2] 28 (0, 0))] ∧ RdL W [(Ar11, es1), (Ar12, es1), (Ar13, es2), (Ar14, es2)] ∧ (L 5 = true → RdW W x.2.1 es3) ∧ (L 7 = true → L 6 = true)) (by kernel_rfl) (by kernel_rfl) (0, none, 0) ?st (by kernel_rfl) ?_ ?_
        case st => exact ⟨by simpa [entM_no] using HK14.out.drew.room, HRL14.out, fun h3 => by simp at h3, fun h3 => by simp at h3⟩
        ·simp only [selA, selT_cons, selT_nil, List.set_cons_zero, List.set_cons_succ, List.getD_cons_zero, List.getD_cons_succ]
         repeat' (first | exact ActSteps.nil | refine ActSteps.cons ?_ ?_)
         all_goals
          intro L x wx hJ hl hd hs K hK
          (try simp [Region.binds] at hd)
          have p0 := hJ.1.cell 3 0 rfl rfl
          have p1 := hJ.1.cell 3 1 rfl rfl
          have p2 := hJ.1.cell 3 2 rfl rfl
          have r0 := hJ.1.cell 7 (i * 3) rfl HA0.out
          have r1 := hJ.1.cell 7 (i * 3 + 1) rfl HA1.out
          have r2 := hJ.1.cell 7 (i * 3 + 2) rfl HA2.out
          try simp only [hd, hl, selV_true, selV_false]
         ·go_simp
          refine hK.out x _ _ ?_ ?_
          ·simp [hl, hd, hki, selV_true, selV_false]
          ·exact ⟨by simpa [hl] using hJ.1, hJ.2.1, by simpa [hl] using hJ.2.2.1, by simpa [hl, hd] using hJ.2.2.2⟩
         ·go_simp
          refine hK.out x _ _ ?_ ?_
          ·simp [hl, hd, hki, selV_true, selV_false]
          ·exact ⟨by simpa [hl] using hJ.1, hJ.2.1, by simpa [hl] using hJ.2.2.1, by simpa [hl, hd] using hJ.2.2.2⟩
         ·go_simp
          refine hK.out x _ _ ?_ ?_
          ·simp [hl, hd, hki, selV_true, selV_false]
          ·exact ⟨by simpa [hl] using hJ.1, hJ.2.1, by simpa [hl] using hJ.2.2.1, by simpa [hl, hd] using hJ.2.2.2⟩
         ·go_simp
          refine hK.out x _ _ ?_ ?_
          ·simp [hl, hd, hki, selV_true, selV_false]
          ·exact ⟨by simpa [hl] using hJ.1, hJ.2.1, by simpa [hl] using hJ.2.2.1, by simpa [hl, hd] using hJ.2.2.2⟩
         ·go_simp
          refine hK.out x _ _ ?_ ?_
          ·simp [hl, hd, hki, selV_true, selV_false]
          ·exact ⟨by simpa [hl] using hJ.1, hJ.2.1, by simpa [hl] using hJ.2.2.1, by simpa [hl, hd] using hJ.2.2.2⟩
         ·have hn6 := hs 6 _ rfl (by simp [Region.binds])
          have hn10 := hs 10 _ rfl (by simp [Region.binds])
          have hn7 := lt_of_false hJ.2.2.2 hn6
          go_simp
          with_reducible refine (HQ3.out _ (hJ.1.take 8)).mono ?_
          rintro e v ⟨A, cap, rfl, hrd, hb⟩
          refine hK.out (x.1, A, cap) _ _ ?_ ?_
          ·simp [hl, hd, hn6, hn7, hn10, selV_true, selV_false]
          ·exact ⟨by simpa [hn10, entM_false] using hJ.1.step hb, hJ.2.1.below hb, fun _ => hrd, by simp [hn7]⟩
         ·go_simp
          refine hK.out x _ _ ?_ ?_
          ·simp [hl, hd, hki, selV_true, selV_false]
          ·exact ⟨by simpa [hl] using hJ.1, hJ.2.1, by simpa [hl] using hJ.2.2.1, by simpa [hl, hd] using hJ.2.2.2⟩
         ·go_simp
          refine hK.out x _ _ ?_ ?_
          ·simp [hl, hd, hki, selV_true, selV_false]
          ·exact ⟨by simpa [hl] using hJ.1, hJ.2.1, by simpa [hl] using hJ.2.2.1, by simpa [hl, hd] using hJ.2.2.2⟩
         ·go_simp
          refine hK.out x _ _ ?_ ?_
          ·simp [hl, hd, hki, selV_true, selV_false]
          ·exact ⟨by simpa [hl] using hJ.1, hJ.2.1, by simpa [hl] using hJ.2.2.1, by simpa [hl, hd] using hJ.2.2.2⟩
         ·have hn10 := hs 10 _ rfl (by simp [Region.binds])
          go_simp
          refine hK.out (wx.heap.size, x.2) _ _ ?_ ?_
          ·simp [hl, hd, hn10, selV_true, selV_false]
          ·refine ⟨Kg.cast (hJ.1.new 12 (mrow 0 0 none 0 0) (by simp [hl, entM_no])) ?_, hJ.2.1.alloc _, fun h3 => RdW.below (hJ.2.2.1 (by simpa using h3)) ((Below.refl _ _).alloc (Nat.le_refl _) _), by simpa using hJ.2.2.2⟩
           simp [hn10, entM_new]
         ·have hJ2 := hJ.1
          simp only [hl, hd, entM_new] at hJ2
          have f0 := hJ2.frozen 12 0 rfl
          have f1 := hJ2.frozen 12 1 rfl
          have f2 := hJ2.frozen 12 2 rfl
          have g0 := hJ2.cell 12 0 rfl rfl
          have g1' := hJ2.cell 12 1 rfl rfl
          have g2' := hJ2.cell 12 2 rfl rfl
          go_simp
          have hKp := ((hJ2.put 12 0 rfl (.int .i64 rr3)).put 12 1 rfl (.int .i64 cc3)).put 12 2 rfl (.slice x.2.1 M3 x.2.2)
          have hm0 := hJ2.at_ 12 rfl
          have hm1 := (hJ2.put 12 0 rfl (.int .i64 rr3)).at_ 12 rfl
          have hm2 := ((hJ2.put 12 0 rfl (.int .i64 rr3)).put 12 1 rfl (.int .i64 cc3)).at_ 12 rfl
          refine hK.out x _ _ ?_ ?_
          ·simp [hl, hd, selV_true, selV_false]
          ·refine ⟨Kg.cast hKp (by simp [hd, entM_full]), ?_, ?_, by simpa [hd] using hJ.2.2.2⟩
           ·exact ((hJ.2.1.matput hm0 0 _).matput hm1 1 _).matput hm2 2 _
           ·exact fun h3 => (((hJ.2.2.1 (by simpa using h3)).matput hm0 0 _).matput hm1 1 _).matput hm2 2 _
         ·go_simp
          refine hK.out x _ _ ?_ ?_
          ·simp [hl, hd, hki, selV_true, selV_false]
          ·exact ⟨by simpa [hl] using hJ.1, hJ.2.1, by simpa [hl] using hJ.2.2.1, by simpa [hl, hd] using hJ.2.2.2⟩
        ·rintro ⟨c15, Ar15, ca15⟩ W15 hKx
         simp only [selA, selT_cons, selT_nil, List.set_cons_zero, List.set_cons_succ, List.getD_cons_zero, List.getD_cons_succ, selV_true]
         simp only [entM_full] at hKx
         obtain ⟨hKx, hRl, hRa, _⟩ := hKx
         have HK15 := Lib.hid (show Kg none w W15 [some (w.heap.size, .cells #[.int .u8 (R1 : Int), .int .u8 (C1 : Int), .slice A1 n1 c1] 38 (0, 0)), some (w.heap.size + 1, .cells #[.int .u8 (R2 : Int), .int .u8 (C2 : Int), .slice A2 n2 c2] 38 (0, 0)), some (g1, lwO (enc (za))), some (b3, mrow r k (some ⟨g1, 0, none⟩) Na Na), some (y0, lwO (enc (zt))), some (y1, lwO (enc (zb))), some (y2, lwO (enc (zw))), some (y3, .cells #[.int .i64 (rt : Int), .int .i64 (kt : Int), .slice (some ⟨y0, 0, none⟩) Nt Nt, .int .i64 (r : Int), .int .i64 (k : Int), .slice (some ⟨y1, 0, none⟩) Na Na, .int .i64 (k : Int), .int .i64 (kt : Int), .slice (some ⟨y2, 0, none⟩) Nw Nw] 28 (0, 0)), some (c11, .cells #[.int .i64 rr1, .int .i64 cc1, .slice Ar11 M1 ca11] 28 (0, 0)), some (c12, .cells #[.int .i64 rr1, .int .i64 cc1, .slice Ar12 M1 ca12] 28 (0, 0)), some (c13, .cells #[.int .i64 rr2, .int .i64 cc2, .slice Ar13 M2 ca13] 28 (0, 0)), some (c14, .cells #[.int .i64 rr2, .int .i64 cc2, .slice Ar14 M2 ca14] 28 (0, 0)), some (c15, .cells #[.int .i64 rr3, .int .i64 cc3, .slice Ar15 M3 ca15] 28 (0, 0))] from hKx)
         have HRL15 := Lib.hid (hRl.more (hRa trivial))
         clear hKx hRl hRa HK14 HRL14
         go_wp2_with fail
         refine wp_region_acts (X := Nat × Option Addr × Nat) (fun x => [(0, 91, .agg #[.int .i64 (r : Int), .int .i64 (k : Int), .slice (some ⟨g1, 0, none⟩) Na Na]), (1, 92, .slice (some ⟨y3, 0, none⟩) 3 3), (2, 93, .int .i64 (i : Int)), (3, 94, .pointer (some ⟨y3, i * 3, none⟩)), (4, 95, .agg #[.int .i64 (rb : Int), .int .i64 (cb : Int), .slice (some ⟨gb, 0, none⟩) Nb Nb]), (5, 96, .tuple #[.agg #[.int .i64 rr3, .int .i64 cc3, .slice x.2.1 M3 x.2.2], .bool ok3]), (6, 90, .tuple #[.agg #[.int .i64 rr3, .int .i64 cc3, .slice x.2.1 M3 x.2.2], .bool ok3]), (7, 97, .agg #[.int .i64 rr3, .int .i64 cc3, .slice x.2.1 M3 x.2.2]), (8, 98, .bool ok3), (9, 19, .pointer (some ⟨x.1, 0, none⟩)), (11, 20, .bool ok3)])
          (fun x L W => Kg none w W [some (w.heap.size, .cells #[.int .u8 (R1 : Int), .int .u8 (C1 : Int), .slice A1 n1 c1] 38 (0, 0)), some (w.heap.size + 1, .cells #[.int .u8 (R2 : Int), .int .u8 (C2 : Int), .slice A2 n2 c2] 38 (0, 0)), some (g1, lwO (enc (za))), some (b3, mrow r k (some ⟨g1, 0, none⟩) Na Na), some (y0, lwO (enc (zt))), some (y1, lwO (enc (zb))), some (y2, lwO (enc (zw))), some (y3, .cells #[.int .i64 (rt : Int), .int .i64 (kt : Int), .slice (some ⟨y0, 0, none⟩) Nt Nt, .int .i64 (r : Int), .int .i64 (k : Int), .slice (some ⟨y1, 0, none⟩) Na Na, .int .i64 (k : Int), .int .i64 (kt : Int), .slice (some ⟨y2, 0, none⟩) Nw Nw] 28 (0, 0)), some (c11, .cells #[.int .i64 rr1, .int .i64 cc1, .slice Ar11 M1 ca11] 28 (0, 0)), some (c12, .cells #[.int .i64 rr1, .int .i64 cc1, .slice Ar12 M1 ca12] 28 (0, 0)), some (c13, .cells #[.int .i64 rr2, .int .i64 cc2, .slice Ar13 M2 ca13] 28 (0, 0)), some (c14, .cells #[.int .i64 rr2, .int .i64 cc2, .slice Ar14 M2 ca14] 28 (0, 0)), some (c15, .cells #[.int .i64 rr3, .int .i64 cc3, .slice Ar15 M3 ca15] 28 (0, 0)), entM (L 9) (L 10) x.1 (.cells #[.int .i64 rr3, .int .i64 cc3, .slice x.2.1 M3 x.2.2] 28 (0, 0))] ∧ RdL W [(Ar11, es1), (Ar12, es1), (Ar13, es2), (Ar14, es2), (Ar15, es3)] ∧ (L 5 = true → RdW W x.2.1 es3) ∧ (L 7 = true → L 6 = true)) (by kernel_rfl) (by kernel_rfl) (0, none, 0) ?st (by kernel_rfl) ?_ ?_
         case st => exact ⟨by simpa [entM_no] using HK15.out.drew.room, HRL15.out, fun h3 => by simp at h3, fun h3 => by simp at h3⟩
         ·simp only [selA, selT_cons, selT_nil, List.set_cons_zero, List.set_cons_succ, List.getD_cons_zero, List.getD_cons_succ]
          repeat' (first | exact ActSteps.nil | refine ActSteps.cons ?_ ?_)
          all_goals
           intro L x wx hJ hl hd hs K hK
           (try simp [Region.binds] at hd)
           have p0 := hJ.1.cell 3 0 rfl rfl
           have p1 := hJ.1.cell 3 1 rfl rfl
           have p2 := hJ.1.cell 3 2 rfl rfl
           have r0 := hJ.1.cell 7 (i * 3) rfl HA0.out
           have r1 := hJ.1.cell 7 (i * 3 + 1) rfl HA1.out
           have r2 := hJ.1.cell 7 (i * 3 + 2) rfl HA2.out
           try simp only [hd, hl, selV_true, selV_false]
          ·go_simp
           refine hK.out x _ _ ?_ ?_
           ·simp [hl, hd, hki, selV_true, selV_false]
           ·exact ⟨by simpa [hl] using hJ.1, hJ.2.1, by simpa [hl] using hJ.2.2.1, by simpa [hl, hd] using hJ.2.2.2⟩
          ·go_simp
           refine hK.out x _ _ ?_ ?_
           ·simp [hl, hd, hki, selV_true, selV_false]
           ·exact ⟨by simpa [hl] using hJ.1, hJ.2.1, by simpa [hl] using hJ.2.2.1, by simpa [hl, hd] using hJ.2.2.2⟩
          ·go_simp
           refine hK.out x _ _ ?_ ?_
           ·simp [hl, hd, hki, selV_true, selV_false]
           ·exact ⟨by simpa [hl] using hJ.1, hJ.2.1, by simpa [hl] using hJ.2.2.1, by simpa [hl, hd] using hJ.2.2.2⟩
          ·go_simp
           refine hK.out x _ _ ?_ ?_
           ·simp [hl, hd, hki, selV_true, selV_false]
           ·exact ⟨by simpa [hl] using hJ.1, hJ.2.1, by simpa [hl] using hJ.2.2.1, by simpa [hl, hd] using hJ.2.2.2⟩
          ·go_simp
           refine hK.out x _ _ ?_ ?_
           ·simp [hl, hd, hki, selV_true, selV_false]
           ·exact ⟨by simpa [hl] using hJ.1, hJ.2.1, by simpa [hl] using hJ.2.2.1, by simpa [hl, hd] using hJ.2.2.2⟩
          ·have hn6 := hs 6 _ rfl (by simp [Region.binds])
           have hn10 := hs 10 _ rfl (by simp [Region.binds])
           have hn7 := lt_of_false hJ.2.2.2 hn6
           go_simp
           with_reducible refine (HP3.out _ (hJ.1.take 8)).mono ?_
           rintro e v ⟨A, cap, rfl, hrd, hb⟩
           refine hK.out (x.1, A, cap) _ _ ?_ ?_
           ·simp [hl, hd, hn6, hn7, hn10, selV_true, selV_false]
           ·exact ⟨by simpa [hn10, entM_false] using hJ.1.step hb, hJ.2.1.below hb, fun _ => hrd, by simp [hn7]⟩
          ·go_simp
           refine hK.out x _ _ ?_ ?_
           ·simp [hl, hd, hki, selV_true, selV_false]
           ·exact ⟨by simpa [hl] using hJ.1, hJ.2.1, by simpa [hl] using hJ.2.2.1, by simpa [hl, hd] using hJ.2.2.2⟩
          ·go_simp
           refine hK.out x _ _ ?_ ?_
           ·simp [hl, hd, hki, selV_true, selV_false]
           ·exact ⟨by simpa [hl] using hJ.1, hJ.2.1, by simpa [hl] using hJ.2.2.1, by simpa [hl, hd] using hJ.2.2.2⟩
          ·go_simp
           refine hK.out x _ _ ?_ ?_
           ·simp [hl, hd, hki, selV_true, selV_false]
           ·exact ⟨by simpa [hl] using hJ.1, hJ.2.1, by simpa [hl] using hJ.2.2.1, by simpa [hl, hd] using hJ.2.2.2⟩
          ·have hn10 := hs 10 _ rfl (by simp [Region.binds])
           go_simp
           refine hK.out (wx.heap.size, x.2) _ _ ?_ ?_
           ·simp [hl, hd, hn10, selV_true, selV_false]
           ·refine ⟨Kg.cast (hJ.1.new 13 (mrow 0 0 none 0 0) (by simp [hl, entM_no])) ?_, hJ.2.1.alloc _, fun h3 => RdW.below (hJ.2.2.1 (by simpa using h3)) ((Below.refl _ _).alloc (Nat.le_refl _) _), by simpa using hJ.2.2.2⟩
            simp [hn10, entM_new]
          ·have hJ2 := hJ.1
           simp only [hl, hd, entM_new] at hJ2
           have f0 := hJ2.frozen 13 0 rfl
           have f1 := hJ2.frozen 13 1 rfl
           have f2 := hJ2.frozen 13 2 rfl
           have g0 := hJ2.cell 13 0 rfl rfl
           have g1' := hJ2.cell 13 1 rfl rfl
           have g2' := hJ2.cell 13 2 rfl rfl
           go_simp
           have hKp := ((hJ2.put 13 0 rfl (.int .i64 rr3)).put 13 1 rfl (.int .i64 cc3)).put 13 2 rfl (.slice x.2.1 M3 x.2.2)
           have hm0 := hJ2.at_ 13 rfl
           have hm1 := (hJ2.put 13 0 rfl (.int .i64 rr3)).at_ 13 rfl
           have hm2 := ((hJ2.put 13 0 rfl (.int .i64 rr3)).put 13 1 rfl (.int .i64 cc3)).at_ 13 rfl
           refine hK.out x _ _ ?_ ?_
           ·simp [hl, hd, selV_true, selV_false]
           ·refine ⟨Kg.cast hKp (by simp [hd, entM_full]), ?_, ?_, by simpa [hd] using hJ.2.2.2⟩
            ·exact ((hJ.2.1.matput hm0 0 _).matput hm1 1 _).matput hm2 2 _
            ·exact fun h3 => (((hJ.2.2.1 (by simpa using h3)).matput hm0 0 _).matput hm1 1 _).matput hm2 2 _
          ·go_simp
           refine hK.out x _ _ ?_ ?_
           ·simp [hl, hd, hki, selV_true, selV_false]
           ·exact ⟨by simpa [hl] using hJ.1, hJ.2.1, by simpa [hl] using hJ.2.2.1, by simpa [hl, hd] using hJ.2.2.2⟩
         ·rintro ⟨c16, Ar16, ca16⟩ W16 hKx
          simp only [selA, selT_cons, selT_nil, List.set_cons_zero, List.set_cons_succ, List.getD_cons_zero, List.getD_cons_succ, selV_true]
          simp only [entM_full] at hKx
          obtain ⟨hKx, hRl, hRa, _⟩ := hKx
          have HK16 := Lib.hid (show Kg none w W16 [some (w.heap.size, .cells #[.int .u8 (R1 : Int), .int .u8 (C1 : Int), .slice A1 n1 c1] 38 (0, 0)), some (w.heap.size + 1, .cells #[.int .u8 (R2 : Int), .int .u8 (C2 : Int), .slice A2 n2 c2] 38 (0, 0)), some (g1, lwO (enc (za))), some (b3, mrow r k (some ⟨g1, 0, none⟩) Na Na), some (y0, lwO (enc (zt))), some (y1, lwO (enc (zb))), some (y2, lwO (enc (zw))), some (y3, .cells #[.int .i64 (rt : Int), .int .i64 (kt : Int), .slice (some ⟨y0, 0, none⟩) Nt Nt, .int .i64 (r : Int), .int .i64 (k : Int), .slice (some ⟨y1, 0, none⟩) Na Na, .int .i64 (k : Int), .int .i64 (kt : Int), .slice (some ⟨y2, 0, none⟩) Nw Nw] 28 (0, 0)), some (c11, .cells #[.int .i64 rr1, .int .i64 cc1, .slice Ar11 M1 ca11] 28 (0, 0)), some (c12, .cells #[.int .i64 rr1, .int .i64 cc1, .slice Ar12 M1 ca12] 28 (0, 0)), some (c13, .cells #[.int .i64 rr2, .int .i64 cc2, .slice Ar13 M2 ca13] 28 (0, 0)), some (c14, .cells #[.int .i64 rr2, .int .i64 cc2, .slice Ar14 M2 ca14] 28 (0, 0)), some (c15, .cells #[.int .i64 rr3, .int .i64 cc3, .slice Ar15 M3 ca15] 28 (0, 0)), some (c16, .cells #[.int .i64 rr3, .int .i64 cc3, .slice Ar16 M3 ca16] 28 (0, 0))] from hKx)
          have HRL16 := Lib.hid (hRl.more (hRa trivial))
          clear hKx hRl hRa HK15 HRL15
          have x0 := HK16.out.cell 8 0 rfl rfl
          have x1 := HK16.out.cell 8 1 rfl rfl
          have x2 := HK16.out.cell 8 2 rfl rfl
          have x3 := HK16.out.cell 9 0 rfl rfl
          have x4 := HK16.out.cell 9 1 rfl rfl
          have x5 := HK16.out.cell 9 2 rfl rfl
          go_wp2_with fail
          have hra := HRL16.out _ (show (Ar11, es1) ∈ _ by simp)
          have hrb := HRL16.out _ (show (Ar12, es1) ∈ _ by simp)
          with_reducible refine (HS1.out Ar11 Ar12 ca11 ca12 _ hra hrb).mono ?_
          rintro e U1 ⟨rfl, hb⟩
          have HK17 := Lib.hid (HK16.out.step hb)
          have HRL17 := Lib.hid (HRL16.out.below hb)
          clear hra hrb hb x0 x1 x2 x3 x4 x5 HK16 HRL16
          have x0 := HK17.out.cell 10 0 rfl rfl
          have x1 := HK17.out.cell 10 1 rfl rfl
          have x2 := HK17.out.cell 10 2 rfl rfl
          have x3 := HK17.out.cell 11 0 rfl rfl
          have x4 := HK17.out.cell 11 1 rfl rfl
          have x5 := HK17.out.cell 11 2 rfl rfl
          go_wp2_with fail
          have hra := HRL17.out _ (show (Ar13, es2) ∈ _ by simp)
          have hrb := HRL17.out _ (show (Ar14, es2) ∈ _ by simp)
          with_reducible refine (HS2.out Ar13 Ar14 ca13 ca14 _ hra hrb).mono ?_
          rintro e U2 ⟨rfl, hb⟩
          have HK18 := Lib.hid (HK17.out.step hb)
          have HRL18 := Lib.hid (HRL17.out.below hb)
          clear hra hrb hb x0 x1 x2 x3 x4 x5 HK17 HRL17
          have x0 := HK18.out.cell 12 0 rfl rfl
          have x1 := HK18.out.cell 12 1 rfl rfl
          have x2 := HK18.out.cell 12 2 rfl rfl
          have x3 := HK18.out.cell 13 0 rfl rfl
          have x4 := HK18.out.cell 13 1 rfl rfl
          have x5 := HK18.out.cell 13 2 rfl rfl
          go_wp2_with fail
          have hra := HRL18.out _ (show (Ar15, es3) ∈ _ by simp)
          have hrb := HRL18.out _ (show (Ar16, es3) ∈ _ by simp)
          with_reducible refine (HS3.out Ar15 Ar16 ca15 ca16 _ hra hrb).mono ?_
          rintro e U3 ⟨rfl, hb⟩
          have HK19 := Lib.hid (HK18.out.step hb)
          have HRL19 := Lib.hid (HRL18.out.below hb)
          clear hra hrb hb x0 x1 x2 x3 x4 x5 HK18 HRL18
          go_wp2
          go_roundw
          case rel => exact ⟨i + 1, by simp, by omega, HK19.out.take 8⟩
          case measure => simp [intOf]; omega
   ·obtain rfl : i = 3 := by omega
    go_wp2
    go_ret
    exact ⟨rfl, Kg.below_ HK10.out⟩
end Go.Proofs.YtknaghdoffigjaaGreatDoor
