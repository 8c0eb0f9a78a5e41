/-
  The law MatrixTurns, its call: it returns true.
-/
import Derived.Test.YtknaghdoffigjaaGreatDoorZMWith
import Derived.Test.YtknaghdoffigjaaGreatDoorZMEqual
import Derived.Test.YtknaghdoffigjaaGreatDoorZRDig
set_option linter.unusedSimpArgs false
set_option linter.unusedVariables false
set_option linter.unnecessarySimpa false
namespace Go.Proofs.YtknaghdoffigjaaGreatDoor
open Go.RowKit Go
attribute [local go_sem] Oper.semAt_some

set_option maxRecDepth 100000 in
set_option maxHeartbeats 8000000 in
theorem turns_any (A1 : Option Addr) (n1 c1 R1 C1 : Nat) (L1 : List Int) (A2 : Option Addr) (n2 c2 R2 C2 : Nat) (L2 : List Int) (w : World) (hR1 : RdI w A1 L1) (hl1 : L1.length = n1) (hm1 : n1 ≤ maxLen) (hb1 : ∀ j, -9223372036854775808 ≤ L1.getD j 0 ∧ L1.getD j 0 ≤ 9223372036854775807) (hR2 : RdI w A2 L2) (hl2 : L2.length = n2) (hm2 : n2 ≤ maxLen) (hb2 : ∀ j, -9223372036854775808 ≤ L2.getD j 0 ∧ L2.getD j 0 ≤ 9223372036854775807) (hTz : Tz w) :
    Calls Tryz.prog 8 #[.agg #[.int .u8 (R1 : Int), .int .u8 (C1 : Int), .slice A1 n1 c1], .agg #[.int .u8 (R2 : Int), .int .u8 (C2 : Int), .slice A2 n2 c2]] w fun e w' => e = .returned (.bool true) ∧ Below w.heap.size w w' := by
  obtain ⟨r, hr⟩ : ∃ x, R1 % 7 = x := ⟨_, rfl⟩
  have hr6 : r ≤ 6 := by omega
  obtain ⟨k, hk⟩ : ∃ x, C1 % 7 = x := ⟨_, rfl⟩
  have hk6 : k ≤ 6 := by omega
  obtain ⟨p, hp⟩ : ∃ x, C2 % 7 = x := ⟨_, rfl⟩
  have hp6 : p ≤ 6 := by omega
  obtain ⟨Na, hNa⟩ : ∃ x, r * k = x := ⟨_, rfl⟩
  have bNa : Na ≤ 36 := by rw [← hNa]; exact Nat.mul_le_mul hr6 hk6
  have xNa : Na ≤ maxLen := by unfold maxLen; omega
  obtain ⟨Nt, hNt⟩ : ∃ x, k * r = x := ⟨_, rfl⟩
  have bNt : Nt ≤ 36 := by rw [← hNt]; exact Nat.mul_le_mul hk6 hr6
  have xNt : Nt ≤ maxLen := by unfold maxLen; omega
  obtain ⟨Nb, hNb⟩ : ∃ x, k * p = x := ⟨_, rfl⟩
  have bNb : Nb ≤ 36 := by rw [← hNb]; exact Nat.mul_le_mul hk6 hp6
  have xNb : Nb ≤ maxLen := by unfold maxLen; omega
  obtain ⟨Nu, hNu⟩ : ∃ x, p * k = x := ⟨_, rfl⟩
  have bNu : Nu ≤ 36 := by rw [← hNu]; exact Nat.mul_le_mul hp6 hk6
  have xNu : Nu ≤ maxLen := by unfold maxLen; omega
  obtain ⟨Nab, hNab⟩ : ∃ x, r * p = x := ⟨_, rfl⟩
  have bNab : Nab ≤ 36 := by rw [← hNab]; exact Nat.mul_le_mul hr6 hp6
  have xNab : Nab ≤ maxLen := by unfold maxLen; omega
  obtain ⟨Nba, hNba⟩ : ∃ x, p * r = x := ⟨_, rfl⟩
  have bNba : Nba ≤ 36 := by rw [← hNba]; exact Nat.mul_le_mul hp6 hr6
  have xNba : Nba ≤ maxLen := by unfold maxLen; omega
  have hNat : Nt = Na := by rw [← hNa, ← hNt, Nat.mul_comm]
  have et2 : ((C2 : Int)).tmod 7 = (p : Int) := by rw [← hp]; rfl
  have wt2 : IntKind.i64.wrap (p : Int) = (p : Int) := IntWalk.i64_in _ (by omega)
  have hma := fun W h => Mat_any A1 n1 c1 L1 R1 C1 r k Na W h hl1 hm1 hr hk hNa hb1
  have sa := wth_size L1 Na hb1
  have la : (wth L1 Na).length = r * k := by rw [wth_length, hNa]
  obtain ⟨za, hza⟩ : ∃ x, x = wth L1 Na := ⟨_, rfl⟩
  rw [← hza] at hma sa la
  have hwb := fun W h => With_any A2 n2 c2 L2 (R2 : Int) (C2 : Int) k p Nb W h hl2 hm2 (by omega) (by omega) hNb hb2
  have sb := wth_size L2 Nb hb2
  have lb : (wth L2 Nb).length = k * p := by rw [wth_length, hNb]
  obtain ⟨zb, hzb⟩ : ∃ x, x = wth L2 Nb := ⟨_, rfl⟩
  rw [← hzb] at hwb sb lb
  have hwc := fun W h => With_any A2 n2 c2 L2 (R2 : Int) (C2 : Int) r k Na W h hl2 hm2 (by omega) (by omega) hNa hb2
  have sc := wth_size L2 Na hb2
  have lc : (wth L2 Na).length = r * k := by rw [wth_length, hNa]
  obtain ⟨zc, hzc⟩ : ∃ x, x = wth L2 Na := ⟨_, rfl⟩
  rw [← hzc] at hwc sc lc
  have hab := fun gA gB W h1 h2 => Mul_ok gA gB r k p Na Nb Na Nb Nab za zb W h1 h2 la lb hNa.symm hNb.symm (by omega) (by omega) (by omega) hNab (Nat.le_refl _) (Nat.le_refl _) xNa xNb (fun j => Nat.le_trans (sa j) (by omega)) (fun j => Nat.le_trans (sb j) (by omega))
  obtain ⟨zab, hzab⟩ : ∃ x, x = mulL za zb r k p := ⟨_, rfl⟩
  have lab : zab.length = r * p := by rw [hzab, mulL_length]
  have sab : ∀ j, (wmag (zab.getD j 0)).size ≤ 17 := by rw [hzab]; exact mulL_size za zb r k p 8 8 (by omega) sa sb
  rw [← hzab] at hab
  have hta := fun gA W h1 => Transpose_ok gA r k Na Na Nt za W h1 la hNa.symm (Nat.le_refl _) xNa (mright_ints r k za la (by omega) (by omega)) (by omega) (by omega) hNt
  obtain ⟨zta, hzta⟩ : ∃ x, x = trF za r k := ⟨_, rfl⟩
  have lta : zta.length = k * r := by rw [hzta, trF_length]
  have sta : ∀ j, (wmag (zta.getD j 0)).size ≤ 8 := by rw [hzta]; exact tr_size za r k 8 sa
  rw [← hzta] at hta
  have htb := fun gA W h1 => Transpose_ok gA k p Nb Nb Nu zb W h1 lb hNb.symm (Nat.le_refl _) xNb (mright_ints k p zb lb (by omega) (by omega)) (by omega) (by omega) hNu
  obtain ⟨ztb, hztb⟩ : ∃ x, x = trF zb k p := ⟨_, rfl⟩
  have ltb : ztb.length = p * k := by rw [hztb, trF_length]
  have stb : ∀ j, (wmag (ztb.getD j 0)).size ≤ 8 := by rw [hztb]; exact tr_size zb k p 8 sb
  rw [← hztb] at htb
  have htc := fun gA W h1 => Transpose_ok gA r k Na Na Nt zc W h1 lc hNa.symm (Nat.le_refl _) xNa (mright_ints r k zc lc (by omega) (by omega)) (by omega) (by omega) hNt
  obtain ⟨ztc, hztc⟩ : ∃ x, x = trF zc r k := ⟨_, rfl⟩
  have ltc : ztc.length = k * r := by rw [hztc, trF_length]
  have stc : ∀ j, (wmag (ztc.getD j 0)).size ≤ 8 := by rw [hztc]; exact tr_size zc r k 8 sc
  rw [← hztc] at htc
  have hba := fun gA gB W h1 h2 => Mul_ok gA gB p k r Nu Nt Nu Nt Nba ztb zta W h1 h2 ltb lta hNu.symm hNt.symm (by omega) (by omega) (by omega) hNba (Nat.le_refl _) (Nat.le_refl _) xNu xNt (fun j => Nat.le_trans (stb j) (by omega)) (fun j => Nat.le_trans (sta j) (by omega))
  obtain ⟨zba, hzba⟩ : ∃ x, x = mulL ztb zta p k r := ⟨_, rfl⟩
  have lba : zba.length = p * r := by rw [hzba, mulL_length]
  have sba : ∀ j, (wmag (zba.getD j 0)).size ≤ 17 := by rw [hzba]; exact mulL_size ztb zta p k r 8 8 (by omega) stb sta
  rw [← hzba] at hba
  have hac := fun gA gB W h1 h2 => Madd_ok gA gB r k Na Na Na za zc W h1 h2 (la.trans hNa) (lc.trans hNa) hNa (Nat.le_refl _) xNa (Nat.le_refl _) xNa (mright_ints r k za la (by omega) (by omega)) (mright_ints r k zc lc (by omega) (by omega)) (by omega) (by omega) (fun j => Nat.le_trans (sa j) (by omega)) (fun j => Nat.le_trans (sc j) (by omega))
  obtain ⟨zac, hzac⟩ : ∃ x, x = cmb (fun x y => x + y) za zc Na := ⟨_, rfl⟩
  have lac : zac.length = r * k := by rw [hzac, cmb_length, hNa]
  have sac : ∀ j, (wmag (zac.getD j 0)).size ≤ 9 := by rw [hzac]; exact add_size za zc Na 8 (fun j => Nat.le_trans (sa j) (by omega)) (fun j => Nat.le_trans (sc j) (by omega))
  rw [← hzac] at hac
  have hat := fun gA gB W h1 h2 => Madd_ok gA gB k r Nt Nt Nt zta ztc W h1 h2 (lta.trans hNt) (ltc.trans hNt) hNt (Nat.le_refl _) xNt (Nat.le_refl _) xNt (mright_ints k r zta lta (by omega) (by omega)) (mright_ints k r ztc ltc (by omega) (by omega)) (by omega) (by omega) (fun j => Nat.le_trans (sta j) (by omega)) (fun j => Nat.le_trans (stc j) (by omega))
  obtain ⟨zat, hzat⟩ : ∃ x, x = cmb (fun x y => x + y) zta ztc Nt := ⟨_, rfl⟩
  have lat : zat.length = k * r := by rw [hzat, cmb_length, hNt]
  have sat : ∀ j, (wmag (zat.getD j 0)).size ≤ 9 := by rw [hzat]; exact add_size zta ztc Nt 8 (fun j => Nat.le_trans (sta j) (by omega)) (fun j => Nat.le_trans (stc j) (by omega))
  rw [← hzat] at hat
  have htt := fun gA W h1 => Transpose_ok gA k r Nt Nt Na zta W h1 lta hNt.symm (Nat.le_refl _) xNt (mright_ints k r zta lta (by omega) (by omega)) (by omega) (by omega) hNa
  rw [hzta, tr_tr za r k la, ← hzta] at htt
  have htab := fun gA W h1 => Transpose_ok gA r p Nab Nab Nba zab W h1 lab hNab.symm (Nat.le_refl _) xNab (mright_ints r p zab lab (by omega) (by omega)) (by omega) (by omega) hNba
  rw [hzab, tr_mul za zb r k p, ← hzta, ← hztb, ← hzba, ← hzab] at htab
  have htac := fun gA W h1 => Transpose_ok gA r k Na Na Nt zac W h1 lac hNa.symm (Nat.le_refl _) xNa (mright_ints r k zac lac (by omega) (by omega)) (by omega) (by omega) hNt
  rw [hzac, tr_add za zc r k Na hNa (by rw [hNt, hNat]), ← hzta, ← hztc, show cmb (fun x y => x + y) zta ztc Na = zat from by rw [hzat, hNat], ← hzac] at htac
  have hea := fun gA gB W h1 h2 => Equal_self r k Na za la hNa (by omega) (by omega) gA gB W h1 h2
  have heba := fun gA gB W h1 h2 => Equal_self p r Nba zba lba hNba (by omega) (by omega) gA gB W h1 h2
  have heat := fun gA gB W h1 h2 => Equal_self k r Nt zat lat hNt (by omega) (by omega) gA gB W h1 h2
  have hra : ∀ gA i j, i < r → j < k → ∀ W, Lw W gA (enc za) → Calls Tryz.prog 18 #[mat r k (some ⟨gA, 0, none⟩) Na Na, .int .i64 (i : Int), .int .i64 (j : Int)] W fun e w' => e = .returned (.agg #[.bool (wneg (za.getD (i * k + j) 0)), .string (wmag (za.getD (i * k + j) 0))]) ∧ Below W.heap.size W w' :=
    fun gA i j hi hj W h1 => At_ok gA r k Na Na i j za W h1 la hNa.symm (mright_ints r k za la (by omega) (by omega)) (by omega) (by omega) hi hj
  have hrt : ∀ gA i j, i < r → j < k → ∀ W, Lw W gA (enc zta) → Calls Tryz.prog 18 #[mat k r (some ⟨gA, 0, none⟩) Nt Nt, .int .i64 (j : Int), .int .i64 (i : Int)] W fun e w' => e = .returned (.agg #[.bool (wneg (za.getD (i * k + j) 0)), .string (wmag (za.getD (i * k + j) 0))]) ∧ Below W.heap.size W w' :=
    fun gA i j hi hj W h1 => by
      have h := At_ok gA k r Nt Nt j i zta W h1 lta hNt.symm (mright_ints k r zta lta (by omega) (by omega)) (by omega) (by omega) hj hi
      rw [hzta, trF_at za r k i j hi hj] at h
      exact h
  have hTs : ∀ W l, Kg none w W l → Tz W := fun W l h => hTz.of fun b hb => h.1.block b hb (by simp)
  have hR1k : ∀ W l, Kg none w W l → RdI W A1 L1 := fun W l h => hR1.below (Kg.below_ h)
  have hR2k : ∀ W l, Kg none w W l → RdI W A2 L2 := fun W l h => hR2.below (Kg.below_ h)
  unfold mat at *
  have HMA := Lib.hid hma
  have HWB := Lib.hid hwb
  have HWC := Lib.hid hwc
  have HAB := Lib.hid hab
  have HTA := Lib.hid hta
  have HTB := Lib.hid htb
  have HTC := Lib.hid htc
  have HBA := Lib.hid hba
  have HAC := Lib.hid hac
  have HAT := Lib.hid hat
  have HTT := Lib.hid htt
  have HTAB := Lib.hid htab
  have HTAC := Lib.hid htac
  have HEA := Lib.hid hea
  have HEBA := Lib.hid heba
  have HEAT := Lib.hid heat
  have HRA := Lib.hid hra
  have HRT := Lib.hid hrt
  have HSA := Lib.hid (fun W hW => sanity_any W hW)
  have HTS := Lib.hid hTs
  have HRDA := Lib.hid hR1k
  have HRDB := Lib.hid hR2k
  have HK1 := Lib.hid ((((Kg.none_ none w 0).more (.cells #[.int .u8 (R1 : Int), .int .u8 (C1 : Int), .slice A1 n1 c1] 38 (0, 0))).more (.cells #[.int .u8 (R2 : Int), .int .u8 (C2 : Int), .slice A2 n2 c2] 38 (0, 0))).cast (l' := [some (w.heap.size, .cells #[.int .u8 (R1 : Int), .int .u8 (C1 : Int), .slice A1 n1 c1] 38 (0, 0)), some (w.heap.size + 1, .cells #[.int .u8 (R2 : Int), .int .u8 (C2 : Int), .slice A2 n2 c2] 38 (0, 0))]) (by simp))
  clear hma hwb hwc hab hta htb htc hba hac hat htt htab htac hea heba heat hra hrt hTs hR1k hR2k hNat hza la sa hzb lb sb hzc lc sc hzab lab sab hzta lta sta hztb ltb stb hztc ltc stc hzba lba sba hzac lac sac hzat lat sat hR1 hR2 hl1 hl2 hm1 hm2 hb1 hb2 hTz hr hk hp hNa bNa xNa hNt bNt xNt hNb bNb xNb hNu bNu xNu hNab bNab xNab hNba bNba xNba
  go_enter Tryz.func8, Tryz.ntmps8
  go_wp2_with fail
  change Calls _ _ _ ((w.alloc (.cells #[.int .u8 (R1 : Int), .int .u8 (C1 : Int), .slice A1 n1 c1] 38 (0, 0))).alloc (.cells #[.int .u8 (R2 : Int), .int .u8 (C2 : Int), .slice A2 n2 c2] 38 (0, 0))) _
  generalize (w.alloc (.cells #[.int .u8 (R1 : Int), .int .u8 (C1 : Int), .slice A1 n1 c1] 38 (0, 0))).alloc (.cells #[.int .u8 (R2 : Int), .int .u8 (C2 : Int), .slice A2 n2 c2] 38 (0, 0)) = W1 at *
  with_reducible refine (HSA.out _ (HTS.out _ _ HK1.out)).mono ?_
  rintro e V1 ⟨rfl, hb2⟩
  have HK2 := Lib.hid (HK1.out.step hb2)
  clear hb2 HK1
  have x0 := HK2.out.cell 0 0 rfl rfl
  have x1 := HK2.out.cell 0 1 rfl rfl
  have x2 := HK2.out.cell 0 2 rfl rfl
  go_wp2_with fail
  with_reducible refine (HMA.out _ (HRDA.out _ _ HK2.out)).mono ?_
  rintro e V3 ⟨g1, rfl, hg, hL, hb⟩
  have HK3 := Lib.hid (show Kg none w (V3.alloc (.cells #[.int .i64 (r : Int), .int .i64 (k : Int), .slice (some ⟨g1, 0, none⟩) Na Na] 28 (0, 0))) [some (w.heap.size, .cells #[.int .u8 (R1 : Int), .int .u8 (C1 : Int), .slice A1 n1 c1] 38 (0, 0)), some (w.heap.size + 1, .cells #[.int .u8 (R2 : Int), .int .u8 (C2 : Int), .slice A2 n2 c2] 38 (0, 0)), some (g1, lwO (enc (za))), some (V3.heap.size, .cells #[.int .i64 (r : Int), .int .i64 (k : Int), .slice (some ⟨g1, 0, none⟩) Na Na] 28 (0, 0))] from (HK2.out.room.came 2 rfl hb hg (o := lwO (enc (za))) hL).more (.cells #[.int .i64 (r : Int), .int .i64 (k : Int), .slice (some ⟨g1, 0, none⟩) Na Na] 28 (0, 0)))
  clear hg hL hb x0 x1 x2 HK2
  have x0 := HK3.out.cell 1 0 rfl rfl
  have x1 := HK3.out.cell 1 1 rfl rfl
  have x2 := HK3.out.cell 1 2 rfl rfl
  have x3 := HK3.out.cell 3 1 rfl rfl
  go_wp2_with fail
  change Calls _ _ _ (V3.alloc (.cells #[.int .i64 (r : Int), .int .i64 (k : Int), .slice (some ⟨g1, 0, none⟩) Na Na] 28 (0, 0))) _
  generalize V3.alloc (.cells #[.int .i64 (r : Int), .int .i64 (k : Int), .slice (some ⟨g1, 0, none⟩) Na Na] 28 (0, 0)) = W4 at *
  generalize V3.heap.size = b3 at *
  with_reducible refine (HWB.out _ (HRDB.out _ _ HK3.out)).mono ?_
  rintro e V5 ⟨g2, rfl, hg, hL, hb⟩
  have HK5 := Lib.hid (show Kg none w (V5.alloc (.cells #[.int .i64 (k : Int), .int .i64 (p : Int), .slice (some ⟨g2, 0, none⟩) Nb Nb] 28 (0, 0))) [some (w.heap.size, .cells #[.int .u8 (R1 : Int), .int .u8 (C1 : Int), .slice A1 n1 c1] 38 (0, 0)), some (w.heap.size + 1, .cells #[.int .u8 (R2 : Int), .int .u8 (C2 : Int), .slice A2 n2 c2] 38 (0, 0)), some (g1, lwO (enc (za))), some (b3, .cells #[.int .i64 (r : Int), .int .i64 (k : Int), .slice (some ⟨g1, 0, none⟩) Na Na] 28 (0, 0)), some (g2, lwO (enc (zb))), some (V5.heap.size, .cells #[.int .i64 (k : Int), .int .i64 (p : Int), .slice (some ⟨g2, 0, none⟩) Nb Nb] 28 (0, 0))] from (HK3.out.room.came 4 rfl hb hg (o := lwO (enc (zb))) hL).more (.cells #[.int .i64 (k : Int), .int .i64 (p : Int), .slice (some ⟨g2, 0, none⟩) Nb Nb] 28 (0, 0)))
  clear hg hL hb x0 x1 x2 x3 HK3
  have x0 := HK5.out.cell 1 0 rfl rfl
  have x1 := HK5.out.cell 1 1 rfl rfl
  have x2 := HK5.out.cell 1 2 rfl rfl
  have x3 := HK5.out.cell 3 0 rfl rfl
  have x4 := HK5.out.cell 3 1 rfl rfl
  go_wp2_with fail
  change Calls _ _ _ (V5.alloc (.cells #[.int .i64 (k : Int), .int .i64 (p : Int), .slice (some ⟨g2, 0, none⟩) Nb Nb] 28 (0, 0))) _
  generalize V5.alloc (.cells #[.int .i64 (k : Int), .int .i64 (p : Int), .slice (some ⟨g2, 0, none⟩) Nb Nb] 28 (0, 0)) = W6 at *
  generalize V5.heap.size = b5 at *
  with_reducible refine (HWC.out _ (HRDB.out _ _ HK5.out)).mono ?_
  rintro e V7 ⟨g3, rfl, hg, hL, hb⟩
  have HK7 := Lib.hid (show Kg none w (V7.alloc (.cells #[.int .i64 (r : Int), .int .i64 (k : Int), .slice (some ⟨g3, 0, none⟩) Na Na] 28 (0, 0))) [some (w.heap.size, .cells #[.int .u8 (R1 : Int), .int .u8 (C1 : Int), .slice A1 n1 c1] 38 (0, 0)), some (w.heap.size + 1, .cells #[.int .u8 (R2 : Int), .int .u8 (C2 : Int), .slice A2 n2 c2] 38 (0, 0)), some (g1, lwO (enc (za))), some (b3, .cells #[.int .i64 (r : Int), .int .i64 (k : Int), .slice (some ⟨g1, 0, none⟩) Na Na] 28 (0, 0)), some (g2, lwO (enc (zb))), some (b5, .cells #[.int .i64 (k : Int), .int .i64 (p : Int), .slice (some ⟨g2, 0, none⟩) Nb Nb] 28 (0, 0)), some (g3, lwO (enc (zc))), some (V7.heap.size, .cells #[.int .i64 (r : Int), .int .i64 (k : Int), .slice (some ⟨g3, 0, none⟩) Na Na] 28 (0, 0))] from (HK5.out.room.came 6 rfl hb hg (o := lwO (enc (zc))) hL).more (.cells #[.int .i64 (r : Int), .int .i64 (k : Int), .slice (some ⟨g3, 0, none⟩) Na Na] 28 (0, 0)))
  clear hg hL hb x0 x1 x2 x3 x4 HK5
  have x0 := HK7.out.cell 3 0 rfl rfl
  have x1 := HK7.out.cell 3 1 rfl rfl
  have x2 := HK7.out.cell 3 2 rfl rfl
  have x3 := HK7.out.cell 5 0 rfl rfl
  have x4 := HK7.out.cell 5 1 rfl rfl
  have x5 := HK7.out.cell 5 2 rfl rfl
  go_wp2_with fail
  change Calls _ _ _ (V7.alloc (.cells #[.int .i64 (r : Int), .int .i64 (k : Int), .slice (some ⟨g3, 0, none⟩) Na Na] 28 (0, 0))) _
  generalize V7.alloc (.cells #[.int .i64 (r : Int), .int .i64 (k : Int), .slice (some ⟨g3, 0, none⟩) Na Na] 28 (0, 0)) = W8 at *
  generalize V7.heap.size = b7 at *
  have hxa : Lw W8 g1 (enc za) := HK7.out.at_ 2 rfl
  have hxb : Lw W8 g2 (enc zb) := HK7.out.at_ 4 rfl
  with_reducible refine (HAB.out g1 g2 _ hxa hxb).mono ?_
  rintro e V9 ⟨g4, rfl, hg, hL, hb⟩
  have HK9 := Lib.hid (show Kg none w (V9.alloc (.cells #[.int .i64 (r : Int), .int .i64 (p : Int), .slice (some ⟨g4, 0, none⟩) Nab Nab] 28 (0, 0))) [some (w.heap.size, .cells #[.int .u8 (R1 : Int), .int .u8 (C1 : Int), .slice A1 n1 c1] 38 (0, 0)), some (w.heap.size + 1, .cells #[.int .u8 (R2 : Int), .int .u8 (C2 : Int), .slice A2 n2 c2] 38 (0, 0)), some (g1, lwO (enc (za))), some (b3, .cells #[.int .i64 (r : Int), .int .i64 (k : Int), .slice (some ⟨g1, 0, none⟩) Na Na] 28 (0, 0)), some (g2, lwO (enc (zb))), some (b5, .cells #[.int .i64 (k : Int), .int .i64 (p : Int), .slice (some ⟨g2, 0, none⟩) Nb Nb] 28 (0, 0)), some (g3, lwO (enc (zc))), some (b7, .cells #[.int .i64 (r : Int), .int .i64 (k : Int), .slice (some ⟨g3, 0, none⟩) Na Na] 28 (0, 0)), some (g4, lwO (enc (zab))), some (V9.heap.size, .cells #[.int .i64 (r : Int), .int .i64 (p : Int), .slice (some ⟨g4, 0, none⟩) Nab Nab] 28 (0, 0))] from (HK7.out.room.came 8 rfl hb hg (o := lwO (enc (zab))) hL).more (.cells #[.int .i64 (r : Int), .int .i64 (p : Int), .slice (some ⟨g4, 0, none⟩) Nab Nab] 28 (0, 0)))
  clear hg hL hb x0 x1 x2 x3 x4 x5 hxa hxb HK7
  go_wp2_with fail
  change Code.wp _ _ _ _ (V9.alloc (.cells #[.int .i64 (r : Int), .int .i64 (p : Int), .slice (some ⟨g4, 0, none⟩) Nab Nab] 28 (0, 0)))
  generalize V9.alloc (.cells #[.int .i64 (r : Int), .int .i64 (p : Int), .slice (some ⟨g4, 0, none⟩) Nab Nab] 28 (0, 0)) = W11 at *
  generalize V9.heap.size = b9 at *
  refine wp_region_acts (X := Nat × Nat × Nat × Nat) (fun x => [(0, 43, .agg #[.int .i64 (k : Int), .int .i64 (p : Int), .slice (some ⟨g2, 0, none⟩) Nb Nb]), (1, 44, .agg #[.int .i64 (p : Int), .int .i64 (k : Int), .slice (some ⟨x.1, 0, none⟩) Nu Nu]), (2, 45, .agg #[.int .i64 (r : Int), .int .i64 (k : Int), .slice (some ⟨g1, 0, none⟩) Na Na]), (3, 46, .agg #[.int .i64 (k : Int), .int .i64 (r : Int), .slice (some ⟨x.2.1, 0, none⟩) Nt Nt]), (4, 47, .tuple #[.agg #[.int .i64 (p : Int), .int .i64 (r : Int), .slice (some ⟨x.2.2.1, 0, none⟩) Nba Nba], .bool true]), (5, 42, .tuple #[.agg #[.int .i64 (p : Int), .int .i64 (r : Int), .slice (some ⟨x.2.2.1, 0, none⟩) Nba Nba], .bool true]), (6, 48, .agg #[.int .i64 (p : Int), .int .i64 (r : Int), .slice (some ⟨x.2.2.1, 0, none⟩) Nba Nba]), (7, 49, .bool true), (8, 11, .pointer (some ⟨x.2.2.2, 0, none⟩)), (10, 12, .bool true)])
    (fun x L W => Kg none w W [some (w.heap.size, .cells #[.int .u8 (R1 : Int), .int .u8 (C1 : Int), .slice A1 n1 c1] 38 (0, 0)), some (w.heap.size + 1, .cells #[.int .u8 (R2 : Int), .int .u8 (C2 : Int), .slice A2 n2 c2] 38 (0, 0)), some (g1, lwO (enc (za))), some (b3, .cells #[.int .i64 (r : Int), .int .i64 (k : Int), .slice (some ⟨g1, 0, none⟩) Na Na] 28 (0, 0)), some (g2, lwO (enc (zb))), some (b5, .cells #[.int .i64 (k : Int), .int .i64 (p : Int), .slice (some ⟨g2, 0, none⟩) Nb Nb] 28 (0, 0)), some (g3, lwO (enc (zc))), some (b7, .cells #[.int .i64 (r : Int), .int .i64 (k : Int), .slice (some ⟨g3, 0, none⟩) Na Na] 28 (0, 0)), some (g4, lwO (enc (zab))), some (b9, .cells #[.int .i64 (r : Int), .int .i64 (p : Int), .slice (some ⟨g4, 0, none⟩) Nab Nab] 28 (0, 0)), entO (L 1) x.1 (lwO (enc (ztb))), entO (L 3) x.2.1 (lwO (enc (zta))), entO (L 4) x.2.2.1 (lwO (enc (zba))), entM (L 8) (L 9) x.2.2.2 (.cells #[.int .i64 (p : Int), .int .i64 (r : Int), .slice (some ⟨x.2.2.1, 0, none⟩) Nba Nba] 28 (0, 0))] ∧ (L 6 = true → L 5 = true)) (by kernel_rfl) (by kernel_rfl) (0, 0, 0, 0) ?st (by kernel_rfl) ?_ ?_
  case st => exact ⟨by simpa [entO_no, entM_no] using HK9.out.drew.room.room.room.room, fun h3 => by simp at h3⟩
  · simp only [selA, selT_cons, selT_nil, List.set_cons_zero, List.set_cons_succ, List.getD_cons_zero, List.getD_cons_succ]
    repeat' (first | exact ActSteps.nil | refine ActSteps.cons ?_ ?_)
    all_goals
      intro L x wx hJ hl hd hs K hK
      (try simp [Region.binds] at hd)
      have p0 := hJ.1.cell 5 0 rfl rfl
      have p1 := hJ.1.cell 5 1 rfl rfl
      have p2 := hJ.1.cell 5 2 rfl rfl
      have p3 := hJ.1.cell 3 0 rfl rfl
      have p4 := hJ.1.cell 3 1 rfl rfl
      have p5 := hJ.1.cell 3 2 rfl rfl
      try simp only [hd, hl, selV_true, selV_false]
    · go_simp
      refine hK.out x _ _ ?_ ?_
      · simp [hl, hd, selV_true, selV_false]
      · exact ⟨by simpa [hl] using hJ.1, by simpa [hl, hd] using hJ.2⟩
    · have hB := hJ.1
      simp only [hl, hd, entO_no, entO_yes] at hB
      have hxa : Lw wx g2 (enc zb) := hB.at_ 4 rfl
      go_simp
      with_reducible refine (HTB.out g2 _ hxa).mono ?_
      rintro e v ⟨h, rfl, hh, hLh, hb⟩
      refine hK.out (h, x.2.1, x.2.2.1, x.2.2.2) _ _ ?_ ?_
      · simp [hl, hd, selV_true, selV_false]
      · exact ⟨((hJ.1).came 10 (by simp [hl, entO_no]) hb hh (o := lwO (enc (ztb))) hLh).cast (by simp [hd, entO_yes]), by simpa [hl, hd] using hJ.2⟩
    · go_simp
      refine hK.out x _ _ ?_ ?_
      · simp [hl, hd, selV_true, selV_false]
      · exact ⟨by simpa [hl] using hJ.1, by simpa [hl, hd] using hJ.2⟩
    · have hB := hJ.1
      simp only [hl, hd, entO_no, entO_yes] at hB
      have hxa : Lw wx g1 (enc za) := hB.at_ 2 rfl
      go_simp
      with_reducible refine (HTA.out g1 _ hxa).mono ?_
      rintro e v ⟨h, rfl, hh, hLh, hb⟩
      refine hK.out (x.1, h, x.2.2.1, x.2.2.2) _ _ ?_ ?_
      · simp [hl, hd, selV_true, selV_false]
      · exact ⟨((hJ.1).came 11 (by simp [hl, entO_no]) hb hh (o := lwO (enc (zta))) hLh).cast (by simp [hd, entO_yes]), by simpa [hl, hd] using hJ.2⟩
    · have hn5 := hs 5 _ rfl (by simp [Region.binds])
      have hn9 := hs 9 _ rfl (by simp [Region.binds])
      have hn6 := lt_of_false hJ.2 hn5
      have hB := hJ.1
      simp only [hl, hd, entO_no, entO_yes] at hB
      have hxa : Lw wx x.1 (enc ztb) := hB.at_ 10 rfl
      have hxb : Lw wx x.2.1 (enc zta) := hB.at_ 11 rfl
      go_simp
      with_reducible refine (HBA.out x.1 x.2.1 _ hxa hxb).mono ?_
      rintro e v ⟨h, rfl, hh, hLh, hb⟩
      refine hK.out (x.1, x.2.1, h, x.2.2.2) _ _ ?_ ?_
      · simp [hl, hd, hn5, hn9, hn6, selV_true, selV_false]
      · exact ⟨((hJ.1).came 12 (by simp [hl, entO_no]) hb hh (o := lwO (enc (zba))) hLh).cast (by simp [hd, entO_yes, hn5, hn9, hn6, entM_false]), by simpa [hl, hd, hn5, hn9, hn6] using hJ.2⟩
    · go_simp
      refine hK.out x _ _ ?_ ?_
      · simp [hl, hd, selV_true, selV_false]
      · exact ⟨by simpa [hl] using hJ.1, by simpa [hl, hd] using hJ.2⟩
    · go_simp
      refine hK.out x _ _ ?_ ?_
      · simp [hl, hd, selV_true, selV_false]
      · exact ⟨by simpa [hl] using hJ.1, by simpa [hl, hd] using hJ.2⟩
    · go_simp
      refine hK.out x _ _ ?_ ?_
      · simp [hl, hd, selV_true, selV_false]
      · exact ⟨by simpa [hl] using hJ.1, by simpa [hl, hd] using hJ.2⟩
    · have hn9 := hs 9 _ rfl (by simp [Region.binds])
      go_simp
      refine hK.out (x.1, x.2.1, x.2.2.1, wx.heap.size) _ _ ?_ ?_
      · simp [hl, hd, hn9, selV_true, selV_false]
      · exact ⟨Kg.cast ((hJ.1).new 13 (mrow 0 0 none 0 0) (by simp [hl, entM_no])) (by simp [hn9, entM_new]), by simpa [hl, hd, hn9] using hJ.2⟩
    · have hJ2 := hJ.1
      simp only [hl, hd, entM_new] at hJ2
      have f0 := hJ2.frozen 13 0 rfl
      have f1 := hJ2.frozen 13 1 rfl
      have f2 := hJ2.frozen 13 2 rfl
      have y0 := hJ2.cell 13 0 rfl rfl
      have y1 := hJ2.cell 13 1 rfl rfl
      have y2 := hJ2.cell 13 2 rfl rfl
      go_simp
      have hKp := ((hJ2.put 13 0 rfl (.int .i64 (p : Int))).put 13 1 rfl (.int .i64 (r : Int))).put 13 2 rfl (.slice (some ⟨x.2.2.1, 0, none⟩) Nba Nba)
      refine hK.out x _ _ ?_ ?_
      · simp [hl, hd, selV_true, selV_false]
      · exact ⟨Kg.cast hKp (by simp [hd, entM_full]), by simpa [hl, hd] using hJ.2⟩
    · go_simp
      refine hK.out x _ _ ?_ ?_
      · simp [hl, hd, selV_true, selV_false]
      · exact ⟨by simpa [hl] using hJ.1, by simpa [hl, hd] using hJ.2⟩
  · rintro ⟨yb0, yb1, yb2, yb3⟩ W10 hKx
    simp only [selA, selT_cons, selT_nil, List.set_cons_zero, List.set_cons_succ, List.getD_cons_zero, List.getD_cons_succ, selV_true]
    simp only [entM_full, entO_yes] at hKx
    obtain ⟨hKx, _⟩ := hKx
    have HK10 := Lib.hid (show Kg none w W10 [some (w.heap.size, .cells #[.int .u8 (R1 : Int), .int .u8 (C1 : Int), .slice A1 n1 c1] 38 (0, 0)), some (w.heap.size + 1, .cells #[.int .u8 (R2 : Int), .int .u8 (C2 : Int), .slice A2 n2 c2] 38 (0, 0)), some (g1, lwO (enc (za))), some (b3, .cells #[.int .i64 (r : Int), .int .i64 (k : Int), .slice (some ⟨g1, 0, none⟩) Na Na] 28 (0, 0)), some (g2, lwO (enc (zb))), some (b5, .cells #[.int .i64 (k : Int), .int .i64 (p : Int), .slice (some ⟨g2, 0, none⟩) Nb Nb] 28 (0, 0)), some (g3, lwO (enc (zc))), some (b7, .cells #[.int .i64 (r : Int), .int .i64 (k : Int), .slice (some ⟨g3, 0, none⟩) Na Na] 28 (0, 0)), some (g4, lwO (enc (zab))), some (b9, .cells #[.int .i64 (r : Int), .int .i64 (p : Int), .slice (some ⟨g4, 0, none⟩) Nab Nab] 28 (0, 0)), some (yb2, lwO (enc (zba))), some (yb3, .cells #[.int .i64 (p : Int), .int .i64 (r : Int), .slice (some ⟨yb2, 0, none⟩) Nba Nba] 28 (0, 0))] from hKx.sel [0, 1, 2, 3, 4, 5, 6, 7, 8, 9, 12, 13] (by decide))
    clear hKx HK9
    have x0 := HK10.out.cell 3 0 rfl rfl
    have x1 := HK10.out.cell 3 1 rfl rfl
    have x2 := HK10.out.cell 3 2 rfl rfl
    have x3 := HK10.out.cell 7 0 rfl rfl
    have x4 := HK10.out.cell 7 1 rfl rfl
    have x5 := HK10.out.cell 7 2 rfl rfl
    go_wp2_with fail
    have hxa : Lw W10 g1 (enc za) := HK10.out.at_ 2 rfl
    have hxb : Lw W10 g3 (enc zc) := HK10.out.at_ 6 rfl
    with_reducible refine (HAC.out g1 g3 _ hxa hxb).mono ?_
    rintro e V12 ⟨g5, rfl, hg, hL, hb⟩
    have HK12 := Lib.hid (show Kg none w (V12.alloc (.cells #[.int .i64 (r : Int), .int .i64 (k : Int), .slice (some ⟨g5, 0, none⟩) Na Na] 28 (0, 0))) [some (w.heap.size, .cells #[.int .u8 (R1 : Int), .int .u8 (C1 : Int), .slice A1 n1 c1] 38 (0, 0)), some (w.heap.size + 1, .cells #[.int .u8 (R2 : Int), .int .u8 (C2 : Int), .slice A2 n2 c2] 38 (0, 0)), some (g1, lwO (enc (za))), some (b3, .cells #[.int .i64 (r : Int), .int .i64 (k : Int), .slice (some ⟨g1, 0, none⟩) Na Na] 28 (0, 0)), some (g2, lwO (enc (zb))), some (b5, .cells #[.int .i64 (k : Int), .int .i64 (p : Int), .slice (some ⟨g2, 0, none⟩) Nb Nb] 28 (0, 0)), some (g3, lwO (enc (zc))), some (b7, .cells #[.int .i64 (r : Int), .int .i64 (k : Int), .slice (some ⟨g3, 0, none⟩) Na Na] 28 (0, 0)), some (g4, lwO (enc (zab))), some (b9, .cells #[.int .i64 (r : Int), .int .i64 (p : Int), .slice (some ⟨g4, 0, none⟩) Nab Nab] 28 (0, 0)), some (yb2, lwO (enc (zba))), some (yb3, .cells #[.int .i64 (p : Int), .int .i64 (r : Int), .slice (some ⟨yb2, 0, none⟩) Nba Nba] 28 (0, 0)), some (g5, lwO (enc (zac))), some (V12.heap.size, .cells #[.int .i64 (r : Int), .int .i64 (k : Int), .slice (some ⟨g5, 0, none⟩) Na Na] 28 (0, 0))] from (HK10.out.room.came 12 rfl hb hg (o := lwO (enc (zac))) hL).more (.cells #[.int .i64 (r : Int), .int .i64 (k : Int), .slice (some ⟨g5, 0, none⟩) Na Na] 28 (0, 0)))
    clear hg hL hb x0 x1 x2 x3 x4 x5 hxa hxb HK10
    go_wp2_with fail
    change Code.wp _ _ _ _ (V12.alloc (.cells #[.int .i64 (r : Int), .int .i64 (k : Int), .slice (some ⟨g5, 0, none⟩) Na Na] 28 (0, 0)))
    generalize V12.alloc (.cells #[.int .i64 (r : Int), .int .i64 (k : Int), .slice (some ⟨g5, 0, none⟩) Na Na] 28 (0, 0)) = W14 at *
    generalize V12.heap.size = b12 at *
    refine wp_region_acts (X := Nat × Nat × Nat × Nat) (fun x => [(0, 57, .agg #[.int .i64 (r : Int), .int .i64 (k : Int), .slice (some ⟨g1, 0, none⟩) Na Na]), (1, 58, .agg #[.int .i64 (k : Int), .int .i64 (r : Int), .slice (some ⟨x.1, 0, none⟩) Nt Nt]), (2, 59, .agg #[.int .i64 (r : Int), .int .i64 (k : Int), .slice (some ⟨g3, 0, none⟩) Na Na]), (3, 60, .agg #[.int .i64 (k : Int), .int .i64 (r : Int), .slice (some ⟨x.2.1, 0, none⟩) Nt Nt]), (4, 61, .tuple #[.agg #[.int .i64 (k : Int), .int .i64 (r : Int), .slice (some ⟨x.2.2.1, 0, none⟩) Nt Nt], .bool true]), (5, 56, .tuple #[.agg #[.int .i64 (k : Int), .int .i64 (r : Int), .slice (some ⟨x.2.2.1, 0, none⟩) Nt Nt], .bool true]), (6, 62, .agg #[.int .i64 (k : Int), .int .i64 (r : Int), .slice (some ⟨x.2.2.1, 0, none⟩) Nt Nt]), (7, 63, .bool true), (8, 15, .pointer (some ⟨x.2.2.2, 0, none⟩)), (10, 16, .bool true)])
      (fun x L W => Kg none w W [some (w.heap.size, .cells #[.int .u8 (R1 : Int), .int .u8 (C1 : Int), .slice A1 n1 c1] 38 (0, 0)), some (w.heap.size + 1, .cells #[.int .u8 (R2 : Int), .int .u8 (C2 : Int), .slice A2 n2 c2] 38 (0, 0)), some (g1, lwO (enc (za))), some (b3, .cells #[.int .i64 (r : Int), .int .i64 (k : Int), .slice (some ⟨g1, 0, none⟩) Na Na] 28 (0, 0)), some (g2, lwO (enc (zb))), some (b5, .cells #[.int .i64 (k : Int), .int .i64 (p : Int), .slice (some ⟨g2, 0, none⟩) Nb Nb] 28 (0, 0)), some (g3, lwO (enc (zc))), some (b7, .cells #[.int .i64 (r : Int), .int .i64 (k : Int), .slice (some ⟨g3, 0, none⟩) Na Na] 28 (0, 0)), some (g4, lwO (enc (zab))), some (b9, .cells #[.int .i64 (r : Int), .int .i64 (p : Int), .slice (some ⟨g4, 0, none⟩) Nab Nab] 28 (0, 0)), some (yb2, lwO (enc (zba))), some (yb3, .cells #[.int .i64 (p : Int), .int .i64 (r : Int), .slice (some ⟨yb2, 0, none⟩) Nba Nba] 28 (0, 0)), some (g5, lwO (enc (zac))), some (b12, .cells #[.int .i64 (r : Int), .int .i64 (k : Int), .slice (some ⟨g5, 0, none⟩) Na Na] 28 (0, 0)), entO (L 1) x.1 (lwO (enc (zta))), entO (L 3) x.2.1 (lwO (enc (ztc))), entO (L 4) x.2.2.1 (lwO (enc (zat))), entM (L 8) (L 9) x.2.2.2 (.cells #[.int .i64 (k : Int), .int .i64 (r : Int), .slice (some ⟨x.2.2.1, 0, none⟩) Nt Nt] 28 (0, 0))] ∧ (L 6 = true → L 5 = true)) (by kernel_rfl) (by kernel_rfl) (0, 0, 0, 0) ?st (by kernel_rfl) ?_ ?_
    case st => exact ⟨by simpa [entO_no, entM_no] using HK12.out.drew.room.room.room.room, fun h3 => by simp at h3⟩
    · simp only [selA, selT_cons, selT_nil, List.set_cons_zero, List.set_cons_succ, List.getD_cons_zero, List.getD_cons_succ]
      repeat' (first | exact ActSteps.nil | refine ActSteps.cons ?_ ?_)
      all_goals
        intro L x wx hJ hl hd hs K hK
        (try simp [Region.binds] at hd)
        have p0 := hJ.1.cell 3 0 rfl rfl
        have p1 := hJ.1.cell 3 1 rfl rfl
        have p2 := hJ.1.cell 3 2 rfl rfl
        have p3 := hJ.1.cell 7 0 rfl rfl
        have p4 := hJ.1.cell 7 1 rfl rfl
        have p5 := hJ.1.cell 7 2 rfl rfl
        try simp only [hd, hl, selV_true, selV_false]
      · go_simp
        refine hK.out x _ _ ?_ ?_
        · simp [hl, hd, selV_true, selV_false]
        · exact ⟨by simpa [hl] using hJ.1, by simpa [hl, hd] using hJ.2⟩
      · have hB := hJ.1
        simp only [hl, hd, entO_no, entO_yes] at hB
        have hxa : Lw wx g1 (enc za) := hB.at_ 2 rfl
        go_simp
        with_reducible refine (HTA.out g1 _ hxa).mono ?_
        rintro e v ⟨h, rfl, hh, hLh, hb⟩
        refine hK.out (h, x.2.1, x.2.2.1, x.2.2.2) _ _ ?_ ?_
        · simp [hl, hd, selV_true, selV_false]
        · exact ⟨((hJ.1).came 14 (by simp [hl, entO_no]) hb hh (o := lwO (enc (zta))) hLh).cast (by simp [hd, entO_yes]), by simpa [hl, hd] using hJ.2⟩
      · go_simp
        refine hK.out x _ _ ?_ ?_
        · simp [hl, hd, selV_true, selV_false]
        · exact ⟨by simpa [hl] using hJ.1, by simpa [hl, hd] using hJ.2⟩
      · have hB := hJ.1
        simp only [hl, hd, entO_no, entO_yes] at hB
        have hxa : Lw wx g3 (enc zc) := hB.at_ 6 rfl
        go_simp
        with_reducible refine (HTC.out g3 _ hxa).mono ?_
        rintro e v ⟨h, rfl, hh, hLh, hb⟩
        refine hK.out (x.1, h, x.2.2.1, x.2.2.2) _ _ ?_ ?_
        · simp [hl, hd, selV_true, selV_false]
        · exact ⟨((hJ.1).came 15 (by simp [hl, entO_no]) hb hh (o := lwO (enc (ztc))) hLh).cast (by simp [hd, entO_yes]), by simpa [hl, hd] using hJ.2⟩
      · have hn5 := hs 5 _ rfl (by simp [Region.binds])
        have hn9 := hs 9 _ rfl (by simp [Region.binds])
        have hn6 := lt_of_false hJ.2 hn5
        have hB := hJ.1
        simp only [hl, hd, entO_no, entO_yes] at hB
        have hxa : Lw wx x.1 (enc zta) := hB.at_ 14 rfl
        have hxb : Lw wx x.2.1 (enc ztc) := hB.at_ 15 rfl
        go_simp
        with_reducible refine (HAT.out x.1 x.2.1 _ hxa hxb).mono ?_
        rintro e v ⟨h, rfl, hh, hLh, hb⟩
        refine hK.out (x.1, x.2.1, h, x.2.2.2) _ _ ?_ ?_
        · simp [hl, hd, hn5, hn9, hn6, selV_true, selV_false]
        · exact ⟨((hJ.1).came 16 (by simp [hl, entO_no]) hb hh (o := lwO (enc (zat))) hLh).cast (by simp [hd, entO_yes, hn5, hn9, hn6, entM_false]), by simpa [hl, hd, hn5, hn9, hn6] using hJ.2⟩
      · go_simp
        refine hK.out x _ _ ?_ ?_
        · simp [hl, hd, selV_true, selV_false]
        · exact ⟨by simpa [hl] using hJ.1, by simpa [hl, hd] using hJ.2⟩
      · go_simp
        refine hK.out x _ _ ?_ ?_
        · simp [hl, hd, selV_true, selV_false]
        · exact ⟨by simpa [hl] using hJ.1, by simpa [hl, hd] using hJ.2⟩
      · go_simp
        refine hK.out x _ _ ?_ ?_
        · simp [hl, hd, selV_true, selV_false]
        · exact ⟨by simpa [hl] using hJ.1, by simpa [hl, hd] using hJ.2⟩
      · have hn9 := hs 9 _ rfl (by simp [Region.binds])
        go_simp
        refine hK.out (x.1, x.2.1, x.2.2.1, wx.heap.size) _ _ ?_ ?_
        · simp [hl, hd, hn9, selV_true, selV_false]
        · exact ⟨Kg.cast ((hJ.1).new 17 (mrow 0 0 none 0 0) (by simp [hl, entM_no])) (by simp [hn9, entM_new]), by simpa [hl, hd, hn9] using hJ.2⟩
      · have hJ2 := hJ.1
        simp only [hl, hd, entM_new] at hJ2
        have f0 := hJ2.frozen 17 0 rfl
        have f1 := hJ2.frozen 17 1 rfl
        have f2 := hJ2.frozen 17 2 rfl
        have y0 := hJ2.cell 17 0 rfl rfl
        have y1 := hJ2.cell 17 1 rfl rfl
        have y2 := hJ2.cell 17 2 rfl rfl
        go_simp
        have hKp := ((hJ2.put 17 0 rfl (.int .i64 (k : Int))).put 17 1 rfl (.int .i64 (r : Int))).put 17 2 rfl (.slice (some ⟨x.2.2.1, 0, none⟩) Nt Nt)
        refine hK.out x _ _ ?_ ?_
        · simp [hl, hd, selV_true, selV_false]
        · exact ⟨Kg.cast hKp (by simp [hd, entM_full]), by simpa [hl, hd] using hJ.2⟩
      · go_simp
        refine hK.out x _ _ ?_ ?_
        · simp [hl, hd, selV_true, selV_false]
        · exact ⟨by simpa [hl] using hJ.1, by simpa [hl, hd] using hJ.2⟩
    · rintro ⟨yt0, yt1, yt2, yt3⟩ W13 hKx
      simp only [selA, selT_cons, selT_nil, List.set_cons_zero, List.set_cons_succ, List.getD_cons_zero, List.getD_cons_succ, selV_true]
      simp only [entM_full, entO_yes] at hKx
      obtain ⟨hKx, _⟩ := hKx
      have HK13 := Lib.hid (show Kg none w W13 [some (w.heap.size, .cells #[.int .u8 (R1 : Int), .int .u8 (C1 : Int), .slice A1 n1 c1] 38 (0, 0)), some (w.heap.size + 1, .cells #[.int .u8 (R2 : Int), .int .u8 (C2 : Int), .slice A2 n2 c2] 38 (0, 0)), some (g1, lwO (enc (za))), some (b3, .cells #[.int .i64 (r : Int), .int .i64 (k : Int), .slice (some ⟨g1, 0, none⟩) Na Na] 28 (0, 0)), some (g2, lwO (enc (zb))), some (b5, .cells #[.int .i64 (k : Int), .int .i64 (p : Int), .slice (some ⟨g2, 0, none⟩) Nb Nb] 28 (0, 0)), some (g3, lwO (enc (zc))), some (b7, .cells #[.int .i64 (r : Int), .int .i64 (k : Int), .slice (some ⟨g3, 0, none⟩) Na Na] 28 (0, 0)), some (g4, lwO (enc (zab))), some (b9, .cells #[.int .i64 (r : Int), .int .i64 (p : Int), .slice (some ⟨g4, 0, none⟩) Nab Nab] 28 (0, 0)), some (yb2, lwO (enc (zba))), some (yb3, .cells #[.int .i64 (p : Int), .int .i64 (r : Int), .slice (some ⟨yb2, 0, none⟩) Nba Nba] 28 (0, 0)), some (g5, lwO (enc (zac))), some (b12, .cells #[.int .i64 (r : Int), .int .i64 (k : Int), .slice (some ⟨g5, 0, none⟩) Na Na] 28 (0, 0)), some (yt2, lwO (enc (zat))), some (yt3, .cells #[.int .i64 (k : Int), .int .i64 (r : Int), .slice (some ⟨yt2, 0, none⟩) Nt Nt] 28 (0, 0))] from hKx.sel [0, 1, 2, 3, 4, 5, 6, 7, 8, 9, 10, 11, 12, 13, 16, 17] (by decide))
      clear hKx HK12
      go_wp2_with fail
      go_loopw [17, 18] (fun i _ wr => ∃ q : Nat, i = .int .i64 (q : Int) ∧ q ≤ r ∧ Kg none w wr [some (w.heap.size, .cells #[.int .u8 (R1 : Int), .int .u8 (C1 : Int), .slice A1 n1 c1] 38 (0, 0)), some (w.heap.size + 1, .cells #[.int .u8 (R2 : Int), .int .u8 (C2 : Int), .slice A2 n2 c2] 38 (0, 0)), some (g1, lwO (enc (za))), some (b3, .cells #[.int .i64 (r : Int), .int .i64 (k : Int), .slice (some ⟨g1, 0, none⟩) Na Na] 28 (0, 0)), some (g2, lwO (enc (zb))), some (b5, .cells #[.int .i64 (k : Int), .int .i64 (p : Int), .slice (some ⟨g2, 0, none⟩) Nb Nb] 28 (0, 0)), some (g3, lwO (enc (zc))), some (b7, .cells #[.int .i64 (r : Int), .int .i64 (k : Int), .slice (some ⟨g3, 0, none⟩) Na Na] 28 (0, 0)), some (g4, lwO (enc (zab))), some (b9, .cells #[.int .i64 (r : Int), .int .i64 (p : Int), .slice (some ⟨g4, 0, none⟩) Nab Nab] 28 (0, 0)), some (yb2, lwO (enc (zba))), some (yb3, .cells #[.int .i64 (p : Int), .int .i64 (r : Int), .slice (some ⟨yb2, 0, none⟩) Nba Nba] 28 (0, 0)), some (g5, lwO (enc (zac))), some (b12, .cells #[.int .i64 (r : Int), .int .i64 (k : Int), .slice (some ⟨g5, 0, none⟩) Na Na] 28 (0, 0)), some (yt2, lwO (enc (zat))), some (yt3, .cells #[.int .i64 (k : Int), .int .i64 (r : Int), .slice (some ⟨yt2, 0, none⟩) Nt Nt] 28 (0, 0))]) (fun i _ _ => r - (intOf i).toNat)
      case atStart => exact ⟨0, rfl, Nat.zero_le _, HK13.out⟩
      case round =>
        clear HK13
        obtain ⟨q, rfl, hq, hKq⟩ := hrel
        have HKq := Lib.hid hKq
        have x0 := hKq.cell 3 0 rfl rfl
        clear hKq
        by_cases hlt : q < r
        · go_wp2_with fail
          clear x0
          go_loopw [18] (fun j wr => ∃ s : Nat, j = .int .i64 (s : Int) ∧ s ≤ k ∧ Kg none w wr [some (w.heap.size, .cells #[.int .u8 (R1 : Int), .int .u8 (C1 : Int), .slice A1 n1 c1] 38 (0, 0)), some (w.heap.size + 1, .cells #[.int .u8 (R2 : Int), .int .u8 (C2 : Int), .slice A2 n2 c2] 38 (0, 0)), some (g1, lwO (enc (za))), some (b3, .cells #[.int .i64 (r : Int), .int .i64 (k : Int), .slice (some ⟨g1, 0, none⟩) Na Na] 28 (0, 0)), some (g2, lwO (enc (zb))), some (b5, .cells #[.int .i64 (k : Int), .int .i64 (p : Int), .slice (some ⟨g2, 0, none⟩) Nb Nb] 28 (0, 0)), some (g3, lwO (enc (zc))), some (b7, .cells #[.int .i64 (r : Int), .int .i64 (k : Int), .slice (some ⟨g3, 0, none⟩) Na Na] 28 (0, 0)), some (g4, lwO (enc (zab))), some (b9, .cells #[.int .i64 (r : Int), .int .i64 (p : Int), .slice (some ⟨g4, 0, none⟩) Nab Nab] 28 (0, 0)), some (yb2, lwO (enc (zba))), some (yb3, .cells #[.int .i64 (p : Int), .int .i64 (r : Int), .slice (some ⟨yb2, 0, none⟩) Nba Nba] 28 (0, 0)), some (g5, lwO (enc (zac))), some (b12, .cells #[.int .i64 (r : Int), .int .i64 (k : Int), .slice (some ⟨g5, 0, none⟩) Na Na] 28 (0, 0)), some (yt2, lwO (enc (zat))), some (yt3, .cells #[.int .i64 (k : Int), .int .i64 (r : Int), .slice (some ⟨yt2, 0, none⟩) Nt Nt] 28 (0, 0))]) (fun j _ => k - (intOf j).toNat)
          case atStart => exact ⟨0, rfl, Nat.zero_le _, HKq.out⟩
          case round =>
            clear HKq
            obtain ⟨s, rfl, hs_, hKs⟩ := hrel
            have HKi := Lib.hid hKs
            have x0 := hKs.cell 3 1 rfl rfl
            clear hKs
            by_cases hls : s < k
            · have hra := fun W h1 => HRA.out g1 q s hlt hls W h1
              have hrt := fun gA W h1 => HRT.out gA q s hlt hls W h1
              generalize za.getD (q * k + s) 0 = z at *
              have HRAQ := Lib.hid hra
              have HRTQ := Lib.hid hrt
              clear hra hrt
              go_wp2_with fail
              clear x0
              refine wp_region_acts (X := Nat) (fun x => [(0, 76, .agg #[.int .i64 (r : Int), .int .i64 (k : Int), .slice (some ⟨g1, 0, none⟩) Na Na]), (1, 77, .int .i64 (q : Int)), (2, 78, .int .i64 (s : Int)), (3, 79, .agg #[.bool (wneg z), .string (wmag z)]), (4, 80, .agg #[.int .i64 (r : Int), .int .i64 (k : Int), .slice (some ⟨g1, 0, none⟩) Na Na]), (5, 81, .agg #[.int .i64 (k : Int), .int .i64 (r : Int), .slice (some ⟨x, 0, none⟩) Nt Nt]), (6, 82, .int .i64 (s : Int)), (7, 83, .int .i64 (q : Int)), (8, 84, .agg #[.bool (wneg z), .string (wmag z)]), (9, 85, .bool false)])
                (fun x L W => Kg none w W [some (w.heap.size, .cells #[.int .u8 (R1 : Int), .int .u8 (C1 : Int), .slice A1 n1 c1] 38 (0, 0)), some (w.heap.size + 1, .cells #[.int .u8 (R2 : Int), .int .u8 (C2 : Int), .slice A2 n2 c2] 38 (0, 0)), some (g1, lwO (enc (za))), some (b3, .cells #[.int .i64 (r : Int), .int .i64 (k : Int), .slice (some ⟨g1, 0, none⟩) Na Na] 28 (0, 0)), some (g2, lwO (enc (zb))), some (b5, .cells #[.int .i64 (k : Int), .int .i64 (p : Int), .slice (some ⟨g2, 0, none⟩) Nb Nb] 28 (0, 0)), some (g3, lwO (enc (zc))), some (b7, .cells #[.int .i64 (r : Int), .int .i64 (k : Int), .slice (some ⟨g3, 0, none⟩) Na Na] 28 (0, 0)), some (g4, lwO (enc (zab))), some (b9, .cells #[.int .i64 (r : Int), .int .i64 (p : Int), .slice (some ⟨g4, 0, none⟩) Nab Nab] 28 (0, 0)), some (yb2, lwO (enc (zba))), some (yb3, .cells #[.int .i64 (p : Int), .int .i64 (r : Int), .slice (some ⟨yb2, 0, none⟩) Nba Nba] 28 (0, 0)), some (g5, lwO (enc (zac))), some (b12, .cells #[.int .i64 (r : Int), .int .i64 (k : Int), .slice (some ⟨g5, 0, none⟩) Na Na] 28 (0, 0)), some (yt2, lwO (enc (zat))), some (yt3, .cells #[.int .i64 (k : Int), .int .i64 (r : Int), .slice (some ⟨yt2, 0, none⟩) Nt Nt] 28 (0, 0)), entO (L 5) x (lwO (enc (zta)))]) (by kernel_rfl) (by kernel_rfl) 0 ?st (by kernel_rfl) ?_ ?_
              case st => exact (by simpa [entO_no] using HKi.out.drew.room)
              · simp only [selA, selT_cons, selT_nil, List.set_cons_zero, List.set_cons_succ, List.getD_cons_zero, List.getD_cons_succ]
                repeat' (first | exact ActSteps.nil | refine ActSteps.cons ?_ ?_)
                all_goals
                  intro L x wx hJ hl hd hs K hK
                  (try simp [Region.binds] at hd)
                  have p0 := hJ.cell 3 0 rfl rfl
                  have p1 := hJ.cell 3 1 rfl rfl
                  have p2 := hJ.cell 3 2 rfl rfl
                  try simp only [hd, hl, selV_true, selV_false]
                · go_simp
                  refine hK.out x _ _ ?_ ?_
                  · simp [hl, hd, selV_true, selV_false]
                  · simpa [hl] using hJ
                · go_simp
                  refine hK.out x _ _ ?_ ?_
                  · simp [hl, hd, selV_true, selV_false]
                  · simpa [hl] using hJ
                · go_simp
                  refine hK.out x _ _ ?_ ?_
                  · simp [hl, hd, selV_true, selV_false]
                  · simpa [hl] using hJ
                · have hB := hJ
                  try simp only [hl, hd, entO_no, entO_yes] at hB
                  have hxa : Lw wx g1 (enc za) := hB.at_ 2 rfl
                  go_simp
                  with_reducible refine (HRAQ.out _ hxa).mono ?_
                  rintro e v ⟨rfl, hb⟩
                  refine hK.out x _ _ ?_ ?_
                  · simp [hl, hd, selV_true, selV_false]
                  · exact (hJ.step hb).cast (by simp [hd])
                · go_simp
                  refine hK.out x _ _ ?_ ?_
                  · simp [hl, hd, selV_true, selV_false]
                  · simpa [hl] using hJ
                · have hB := hJ
                  try simp only [hl, hd, entO_no, entO_yes] at hB
                  have hxa : Lw wx g1 (enc za) := hB.at_ 2 rfl
                  go_simp
                  with_reducible refine (HTA.out g1 _ hxa).mono ?_
                  rintro e v ⟨h, rfl, hh, hLh, hb⟩
                  refine hK.out h _ _ ?_ ?_
                  · simp [hl, hd, selV_true, selV_false]
                  · exact (hJ.came 16 (by simp [hl, entO_no]) hb hh (o := lwO (enc (zta))) hLh).cast (by simp [hd, entO_yes])
                · go_simp
                  refine hK.out x _ _ ?_ ?_
                  · simp [hl, hd, selV_true, selV_false]
                  · simpa [hl] using hJ
                · go_simp
                  refine hK.out x _ _ ?_ ?_
                  · simp [hl, hd, selV_true, selV_false]
                  · simpa [hl] using hJ
                · have hB := hJ
                  try simp only [hl, hd, entO_no, entO_yes] at hB
                  have hxt : Lw wx x (enc zta) := hB.at_ 16 rfl
                  go_simp
                  with_reducible refine (HRTQ.out x _ hxt).mono ?_
                  rintro e v ⟨rfl, hb⟩
                  refine hK.out x _ _ ?_ ?_
                  · simp [hl, hd, selV_true, selV_false]
                  · exact (hJ.step hb).cast (by simp [hd])
                · go_simp
                  refine hK.out x _ _ ?_ ?_
                  · simp [hl, hd, selV_true, selV_false]
                  · simpa [hl] using hJ
              · rintro yv0 W101 hKx
                simp only [selA, selT_cons, selT_nil, List.set_cons_zero, List.set_cons_succ, List.getD_cons_zero, List.getD_cons_succ, selV_true]
                have HK101 := Lib.hid (show Kg none w W101 [some (w.heap.size, .cells #[.int .u8 (R1 : Int), .int .u8 (C1 : Int), .slice A1 n1 c1] 38 (0, 0)), some (w.heap.size + 1, .cells #[.int .u8 (R2 : Int), .int .u8 (C2 : Int), .slice A2 n2 c2] 38 (0, 0)), some (g1, lwO (enc (za))), some (b3, .cells #[.int .i64 (r : Int), .int .i64 (k : Int), .slice (some ⟨g1, 0, none⟩) Na Na] 28 (0, 0)), some (g2, lwO (enc (zb))), some (b5, .cells #[.int .i64 (k : Int), .int .i64 (p : Int), .slice (some ⟨g2, 0, none⟩) Nb Nb] 28 (0, 0)), some (g3, lwO (enc (zc))), some (b7, .cells #[.int .i64 (r : Int), .int .i64 (k : Int), .slice (some ⟨g3, 0, none⟩) Na Na] 28 (0, 0)), some (g4, lwO (enc (zab))), some (b9, .cells #[.int .i64 (r : Int), .int .i64 (p : Int), .slice (some ⟨g4, 0, none⟩) Nab Nab] 28 (0, 0)), some (yb2, lwO (enc (zba))), some (yb3, .cells #[.int .i64 (p : Int), .int .i64 (r : Int), .slice (some ⟨yb2, 0, none⟩) Nba Nba] 28 (0, 0)), some (g5, lwO (enc (zac))), some (b12, .cells #[.int .i64 (r : Int), .int .i64 (k : Int), .slice (some ⟨g5, 0, none⟩) Na Na] 28 (0, 0)), some (yt2, lwO (enc (zat))), some (yt3, .cells #[.int .i64 (k : Int), .int .i64 (r : Int), .slice (some ⟨yt2, 0, none⟩) Nt Nt] 28 (0, 0))] from hKx.take 16)
                clear hKx HKi
                go_wp2
                go_roundw
                case rel => exact ⟨s + 1, by simp, by omega, HK101.out⟩
                case measure => simp [intOf]; omega
            · obtain rfl : k = s := by omega
              go_wp2
              go_roundw
              case rel => exact ⟨q + 1, by simp, by omega, HKi.out⟩
              case measure => simp [intOf]; omega
        · obtain rfl : r = q := by omega
          go_wp2_with fail
          clear x0
          refine wp_region_acts (X := Nat × Nat × Nat × Nat) (fun x => [(0, 86, .bool true), (1, 87, .bool true), (2, 88, .bool true), (3, 89, .bool true), (4, 90, .bool true), (5, 91, .bool true), (6, 92, .bool true), (7, 93, .bool true), (8, 94, .agg #[.int .i64 (r : Int), .int .i64 (k : Int), .slice (some ⟨g1, 0, none⟩) Na Na]), (9, 95, .agg #[.int .i64 (k : Int), .int .i64 (r : Int), .slice (some ⟨x.1, 0, none⟩) Nt Nt]), (10, 96, .agg #[.int .i64 (r : Int), .int .i64 (k : Int), .slice (some ⟨x.2.1, 0, none⟩) Na Na]), (11, 97, .agg #[.int .i64 (r : Int), .int .i64 (k : Int), .slice (some ⟨g1, 0, none⟩) Na Na]), (12, 98, .bool true), (13, 99, .bool true), (14, 100, .bool true), (15, 101, .agg #[.int .i64 (r : Int), .int .i64 (p : Int), .slice (some ⟨g4, 0, none⟩) Nab Nab]), (16, 102, .agg #[.int .i64 (p : Int), .int .i64 (r : Int), .slice (some ⟨x.2.2.1, 0, none⟩) Nba Nba]), (17, 103, .agg #[.int .i64 (p : Int), .int .i64 (r : Int), .slice (some ⟨yb2, 0, none⟩) Nba Nba]), (18, 104, .bool true), (19, 105, .bool true), (20, 106, .bool true), (21, 107, .agg #[.int .i64 (r : Int), .int .i64 (k : Int), .slice (some ⟨g5, 0, none⟩) Na Na]), (22, 108, .agg #[.int .i64 (k : Int), .int .i64 (r : Int), .slice (some ⟨x.2.2.2, 0, none⟩) Nt Nt]), (23, 109, .agg #[.int .i64 (k : Int), .int .i64 (r : Int), .slice (some ⟨yt2, 0, none⟩) Nt Nt]), (24, 110, .bool true), (25, 111, .bool true), (26, 4, .bool true)])
            (fun x L W => Kg none w W [some (w.heap.size, .cells #[.int .u8 (R1 : Int), .int .u8 (C1 : Int), .slice A1 n1 c1] 38 (0, 0)), some (w.heap.size + 1, .cells #[.int .u8 (R2 : Int), .int .u8 (C2 : Int), .slice A2 n2 c2] 38 (0, 0)), some (g1, lwO (enc (za))), some (b3, .cells #[.int .i64 (r : Int), .int .i64 (k : Int), .slice (some ⟨g1, 0, none⟩) Na Na] 28 (0, 0)), some (g2, lwO (enc (zb))), some (b5, .cells #[.int .i64 (k : Int), .int .i64 (p : Int), .slice (some ⟨g2, 0, none⟩) Nb Nb] 28 (0, 0)), some (g3, lwO (enc (zc))), some (b7, .cells #[.int .i64 (r : Int), .int .i64 (k : Int), .slice (some ⟨g3, 0, none⟩) Na Na] 28 (0, 0)), some (g4, lwO (enc (zab))), some (b9, .cells #[.int .i64 (r : Int), .int .i64 (p : Int), .slice (some ⟨g4, 0, none⟩) Nab Nab] 28 (0, 0)), some (yb2, lwO (enc (zba))), some (yb3, .cells #[.int .i64 (p : Int), .int .i64 (r : Int), .slice (some ⟨yb2, 0, none⟩) Nba Nba] 28 (0, 0)), some (g5, lwO (enc (zac))), some (b12, .cells #[.int .i64 (r : Int), .int .i64 (k : Int), .slice (some ⟨g5, 0, none⟩) Na Na] 28 (0, 0)), some (yt2, lwO (enc (zat))), some (yt3, .cells #[.int .i64 (k : Int), .int .i64 (r : Int), .slice (some ⟨yt2, 0, none⟩) Nt Nt] 28 (0, 0)), entO (L 9) x.1 (lwO (enc (zta))), entO (L 10) x.2.1 (lwO (enc (za))), entO (L 16) x.2.2.1 (lwO (enc (zba))), entO (L 22) x.2.2.2 (lwO (enc (zat)))]) (by kernel_rfl) (by kernel_rfl) (0, 0, 0, 0) ?st (by kernel_rfl) ?_ ?_
          case st => exact (by simpa [entO_no] using HKq.out.drew.room.room.room.room)
          · simp only [selA, selT_cons, selT_nil, List.set_cons_zero, List.set_cons_succ, List.getD_cons_zero, List.getD_cons_succ]
            repeat' (first | exact ActSteps.nil | refine ActSteps.cons ?_ ?_)
            all_goals
              intro L x wx hJ hl hd hs K hK
              (try simp [Region.binds] at hd)
              have p0 := hJ.cell 3 0 rfl rfl
              have p1 := hJ.cell 3 1 rfl rfl
              have p2 := hJ.cell 3 2 rfl rfl
              have p3 := hJ.cell 9 0 rfl rfl
              have p4 := hJ.cell 9 1 rfl rfl
              have p5 := hJ.cell 9 2 rfl rfl
              have p6 := hJ.cell 11 0 rfl rfl
              have p7 := hJ.cell 11 1 rfl rfl
              have p8 := hJ.cell 11 2 rfl rfl
              have p9 := hJ.cell 13 0 rfl rfl
              have p10 := hJ.cell 13 1 rfl rfl
              have p11 := hJ.cell 13 2 rfl rfl
              have p12 := hJ.cell 15 0 rfl rfl
              have p13 := hJ.cell 15 1 rfl rfl
              have p14 := hJ.cell 15 2 rfl rfl
              try simp only [hd, hl, selV_true, selV_false]
            · go_simp
              refine hK.out x _ _ ?_ ?_
              · simp [hl, hd, selV_true, selV_false]
              · simpa [hl] using hJ
            · go_simp
              refine hK.out x _ _ ?_ ?_
              · simp [hl, hd, selV_true, selV_false]
              · simpa [hl] using hJ
            · rw [if_pos (by kernel_rfl)]
              go_simp
              refine hK.out x _ _ ?_ ?_
              · simp [hl, hd, selV_true, selV_false]
              · simpa [hl] using hJ
            · go_simp
              refine hK.out x _ _ ?_ ?_
              · simp [hl, hd, selV_true, selV_false]
              · simpa [hl] using hJ
            · go_simp
              refine hK.out x _ _ ?_ ?_
              · simp [hl, hd, selV_true, selV_false]
              · simpa [hl] using hJ
            · rw [if_pos (by kernel_rfl)]
              go_simp
              refine hK.out x _ _ ?_ ?_
              · simp [hl, hd, selV_true, selV_false]
              · simpa [hl] using hJ
            · go_simp
              refine hK.out x _ _ ?_ ?_
              · simp [hl, hd, selV_true, selV_false]
              · simpa [hl] using hJ
            · go_simp
              refine hK.out x _ _ ?_ ?_
              · simp [hl, hd, selV_true, selV_false]
              · simpa [hl] using hJ
            · rw [if_pos (by kernel_rfl)]
              go_simp
              refine hK.out x _ _ ?_ ?_
              · simp [hl, hd, selV_true, selV_false]
              · simpa [hl] using hJ
            · have hB := hJ
              try simp only [hl, hd, entO_no, entO_yes] at hB
              have hxa : Lw wx g1 (enc za) := hB.at_ 2 rfl
              rw [if_pos (by kernel_rfl)]
              go_simp
              go_at_call 34
              with_reducible refine (HTA.out g1 _ hxa).mono ?_
              rintro e v ⟨h, rfl, hh, hLh, hb⟩
              refine hK.out (h, x.2.1, x.2.2.1, x.2.2.2) _ _ ?_ ?_
              · simp [hl, hd, selV_true, selV_false]
              · exact (hJ.came 16 (by simp [hl, entO_no]) hb hh (o := lwO (enc (zta))) hLh).cast (by simp [hd, entO_yes])
            · have hB := hJ
              try simp only [hl, hd, entO_no, entO_yes] at hB
              have hxa : Lw wx x.1 (enc zta) := hB.at_ 16 rfl
              rw [if_pos (by kernel_rfl)]
              go_simp
              go_at_call 34
              with_reducible refine (HTT.out x.1 _ hxa).mono ?_
              rintro e v ⟨h, rfl, hh, hLh, hb⟩
              refine hK.out (x.1, h, x.2.2.1, x.2.2.2) _ _ ?_ ?_
              · simp [hl, hd, selV_true, selV_false]
              · exact (hJ.came 17 (by simp [hl, entO_no]) hb hh (o := lwO (enc (za))) hLh).cast (by simp [hd, entO_yes])
            · rw [if_pos (by kernel_rfl)]
              go_simp
              refine hK.out x _ _ ?_ ?_
              · simp [hl, hd, selV_true, selV_false]
              · simpa [hl] using hJ
            · have hB := hJ
              try simp only [hl, hd, entO_no, entO_yes] at hB
              have hxa : Lw wx x.2.1 (enc za) := hB.at_ 17 rfl
              have hxb : Lw wx g1 (enc za) := hB.at_ 2 rfl
              rw [if_pos (by kernel_rfl)]
              go_simp
              go_at_call 38
              with_reducible refine (HEA.out x.2.1 g1 _ hxa hxb).mono ?_
              rintro e v ⟨rfl, hb⟩
              refine hK.out x _ _ ?_ ?_
              · simp [hl, hd, selV_true, selV_false]
              · exact (hJ.step hb).cast (by simp [hd])
            · go_simp
              refine hK.out x _ _ ?_ ?_
              · simp [hl, hd, selV_true, selV_false]
              · simpa [hl] using hJ
            · go_simp
              refine hK.out x _ _ ?_ ?_
              · simp [hl, hd, selV_true, selV_false]
              · simpa [hl] using hJ
            · rw [if_pos (by kernel_rfl)]
              go_simp
              refine hK.out x _ _ ?_ ?_
              · simp [hl, hd, selV_true, selV_false]
              · simpa [hl] using hJ
            · have hB := hJ
              try simp only [hl, hd, entO_no, entO_yes] at hB
              have hxa : Lw wx g4 (enc zab) := hB.at_ 8 rfl
              rw [if_pos (by kernel_rfl)]
              go_simp
              go_at_call 34
              with_reducible refine (HTAB.out g4 _ hxa).mono ?_
              rintro e v ⟨h, rfl, hh, hLh, hb⟩
              refine hK.out (x.1, x.2.1, h, x.2.2.2) _ _ ?_ ?_
              · simp [hl, hd, selV_true, selV_false]
              · exact (hJ.came 18 (by simp [hl, entO_no]) hb hh (o := lwO (enc (zba))) hLh).cast (by simp [hd, entO_yes])
            · rw [if_pos (by kernel_rfl)]
              go_simp
              refine hK.out x _ _ ?_ ?_
              · simp [hl, hd, selV_true, selV_false]
              · simpa [hl] using hJ
            · have hB := hJ
              try simp only [hl, hd, entO_no, entO_yes] at hB
              have hxa : Lw wx x.2.2.1 (enc zba) := hB.at_ 18 rfl
              have hxb : Lw wx yb2 (enc zba) := hB.at_ 10 rfl
              rw [if_pos (by kernel_rfl)]
              go_simp
              go_at_call 38
              with_reducible refine (HEBA.out x.2.2.1 yb2 _ hxa hxb).mono ?_
              rintro e v ⟨rfl, hb⟩
              refine hK.out x _ _ ?_ ?_
              · simp [hl, hd, selV_true, selV_false]
              · exact (hJ.step hb).cast (by simp [hd])
            · go_simp
              refine hK.out x _ _ ?_ ?_
              · simp [hl, hd, selV_true, selV_false]
              · simpa [hl] using hJ
            · go_simp
              refine hK.out x _ _ ?_ ?_
              · simp [hl, hd, selV_true, selV_false]
              · simpa [hl] using hJ
            · rw [if_pos (by kernel_rfl)]
              go_simp
              refine hK.out x _ _ ?_ ?_
              · simp [hl, hd, selV_true, selV_false]
              · simpa [hl] using hJ
            · have hB := hJ
              try simp only [hl, hd, entO_no, entO_yes] at hB
              have hxa : Lw wx g5 (enc zac) := hB.at_ 12 rfl
              rw [if_pos (by kernel_rfl)]
              go_simp
              go_at_call 34
              with_reducible refine (HTAC.out g5 _ hxa).mono ?_
              rintro e v ⟨h, rfl, hh, hLh, hb⟩
              refine hK.out (x.1, x.2.1, x.2.2.1, h) _ _ ?_ ?_
              · simp [hl, hd, selV_true, selV_false]
              · exact (hJ.came 19 (by simp [hl, entO_no]) hb hh (o := lwO (enc (zat))) hLh).cast (by simp [hd, entO_yes])
            · rw [if_pos (by kernel_rfl)]
              go_simp
              refine hK.out x _ _ ?_ ?_
              · simp [hl, hd, selV_true, selV_false]
              · simpa [hl] using hJ
            · have hB := hJ
              try simp only [hl, hd, entO_no, entO_yes] at hB
              have hxa : Lw wx x.2.2.2 (enc zat) := hB.at_ 19 rfl
              have hxb : Lw wx yt2 (enc zat) := hB.at_ 14 rfl
              rw [if_pos (by kernel_rfl)]
              go_simp
              go_at_call 38
              with_reducible refine (HEAT.out x.2.2.2 yt2 _ hxa hxb).mono ?_
              rintro e v ⟨rfl, hb⟩
              refine hK.out x _ _ ?_ ?_
              · simp [hl, hd, selV_true, selV_false]
              · exact (hJ.step hb).cast (by simp [hd])
            · go_simp
              refine hK.out x _ _ ?_ ?_
              · simp [hl, hd, selV_true, selV_false]
              · simpa [hl] using hJ
            · go_simp
              refine hK.out x _ _ ?_ ?_
              · simp [hl, hd, selV_true, selV_false]
              · simpa [hl] using hJ
          · rintro ⟨yw0, yw1, yw2, yw3⟩ W102 hKx
            simp only [selA, selT_cons, selT_nil, List.set_cons_zero, List.set_cons_succ, List.getD_cons_zero, List.getD_cons_succ, selV_true]
            have HK102 := Lib.hid (show Kg none w W102 [some (w.heap.size, .cells #[.int .u8 (R1 : Int), .int .u8 (C1 : Int), .slice A1 n1 c1] 38 (0, 0)), some (w.heap.size + 1, .cells #[.int .u8 (R2 : Int), .int .u8 (C2 : Int), .slice A2 n2 c2] 38 (0, 0)), some (g1, lwO (enc (za))), some (b3, .cells #[.int .i64 (r : Int), .int .i64 (k : Int), .slice (some ⟨g1, 0, none⟩) Na Na] 28 (0, 0)), some (g2, lwO (enc (zb))), some (b5, .cells #[.int .i64 (k : Int), .int .i64 (p : Int), .slice (some ⟨g2, 0, none⟩) Nb Nb] 28 (0, 0)), some (g3, lwO (enc (zc))), some (b7, .cells #[.int .i64 (r : Int), .int .i64 (k : Int), .slice (some ⟨g3, 0, none⟩) Na Na] 28 (0, 0)), some (g4, lwO (enc (zab))), some (b9, .cells #[.int .i64 (r : Int), .int .i64 (p : Int), .slice (some ⟨g4, 0, none⟩) Nab Nab] 28 (0, 0)), some (yb2, lwO (enc (zba))), some (yb3, .cells #[.int .i64 (p : Int), .int .i64 (r : Int), .slice (some ⟨yb2, 0, none⟩) Nba Nba] 28 (0, 0)), some (g5, lwO (enc (zac))), some (b12, .cells #[.int .i64 (r : Int), .int .i64 (k : Int), .slice (some ⟨g5, 0, none⟩) Na Na] 28 (0, 0)), some (yt2, lwO (enc (zat))), some (yt3, .cells #[.int .i64 (k : Int), .int .i64 (r : Int), .slice (some ⟨yt2, 0, none⟩) Nt Nt] 28 (0, 0))] from hKx.take 16)
            clear hKx HKq
            go_wp2
            go_ret
            exact ⟨rfl, Kg.below_ HK102.out⟩

end Go.Proofs.YtknaghdoffigjaaGreatDoor
