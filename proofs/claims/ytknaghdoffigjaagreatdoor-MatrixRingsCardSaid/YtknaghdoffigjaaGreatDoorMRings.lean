/-
  The law MatrixRings, its call: it returns true.
-/
import Derived.Test.YtknaghdoffigjaaGreatDoorZMWith
set_option linter.unusedSimpArgs false
set_option linter.unusedVariables false
set_option linter.unnecessarySimpa false
namespace Go.Proofs.YtknaghdoffigjaaGreatDoor
open Go.RowKit Go
attribute [local go_sem] Oper.semAt_some

set_option maxRecDepth 100000 in
set_option maxHeartbeats 8000000 in
theorem rings_any (A1 : Option Addr) (n1 c1 R1 C1 : Nat) (L1 : List Int) (A2 : Option Addr) (n2 c2 R2 C2 : Nat) (L2 : List Int) (A3 : Option Addr) (n3 c3 R3 C3 : Nat) (L3 : List Int) (w : World) (hR1 : RdI w A1 L1) (hl1 : L1.length = n1) (hm1 : n1 ≤ maxLen) (hb1 : ∀ j, -9223372036854775808 ≤ L1.getD j 0 ∧ L1.getD j 0 ≤ 9223372036854775807) (hR2 : RdI w A2 L2) (hl2 : L2.length = n2) (hm2 : n2 ≤ maxLen) (hb2 : ∀ j, -9223372036854775808 ≤ L2.getD j 0 ∧ L2.getD j 0 ≤ 9223372036854775807) (hR3 : RdI w A3 L3) (hl3 : L3.length = n3) (hm3 : n3 ≤ maxLen) (hb3 : ∀ j, -9223372036854775808 ≤ L3.getD j 0 ∧ L3.getD j 0 ≤ 9223372036854775807) (hTz : Tz w) :
    Calls Tryz.prog 6 #[.agg #[.int .u8 (R1 : Int), .int .u8 (C1 : Int), .slice A1 n1 c1], .agg #[.int .u8 (R2 : Int), .int .u8 (C2 : Int), .slice A2 n2 c2], .agg #[.int .u8 (R3 : Int), .int .u8 (C3 : Int), .slice A3 n3 c3]] w fun e w' => e = .returned (.bool true) ∧ Below w.heap.size w w' := by
  obtain ⟨r, hr⟩ : ∃ x, R1 % 7 = x := ⟨_, rfl⟩
  have hr6 : r ≤ 6 := by omega
  obtain ⟨k, hk⟩ : ∃ x, C1 % 7 = x := ⟨_, rfl⟩
  have hk6 : k ≤ 6 := by omega
  obtain ⟨p, hp⟩ : ∃ x, C2 % 7 = x := ⟨_, rfl⟩
  have hp6 : p ≤ 6 := by omega
  obtain ⟨q, hq⟩ : ∃ x, C3 % 7 = x := ⟨_, rfl⟩
  have hq6 : q ≤ 6 := by omega
  obtain ⟨Na, hNa⟩ : ∃ x, r * k = x := ⟨_, rfl⟩
  have bNa : Na ≤ 36 := by rw [← hNa]; exact Nat.mul_le_mul hr6 hk6
  have xNa : Na ≤ maxLen := by unfold maxLen; omega
  obtain ⟨Nb, hNb⟩ : ∃ x, k * p = x := ⟨_, rfl⟩
  have bNb : Nb ≤ 36 := by rw [← hNb]; exact Nat.mul_le_mul hk6 hp6
  have xNb : Nb ≤ maxLen := by unfold maxLen; omega
  obtain ⟨Nc, hNc⟩ : ∃ x, p * q = x := ⟨_, rfl⟩
  have bNc : Nc ≤ 36 := by rw [← hNc]; exact Nat.mul_le_mul hp6 hq6
  have xNc : Nc ≤ maxLen := by unfold maxLen; omega
  obtain ⟨Nab, hNab⟩ : ∃ x, r * p = x := ⟨_, rfl⟩
  have bNab : Nab ≤ 36 := by rw [← hNab]; exact Nat.mul_le_mul hr6 hp6
  have xNab : Nab ≤ maxLen := by unfold maxLen; omega
  obtain ⟨Nbc, hNbc⟩ : ∃ x, k * q = x := ⟨_, rfl⟩
  have bNbc : Nbc ≤ 36 := by rw [← hNbc]; exact Nat.mul_le_mul hk6 hq6
  have xNbc : Nbc ≤ maxLen := by unfold maxLen; omega
  obtain ⟨Nl, hNl⟩ : ∃ x, r * q = x := ⟨_, rfl⟩
  have bNl : Nl ≤ 36 := by rw [← hNl]; exact Nat.mul_le_mul hr6 hq6
  have xNl : Nl ≤ maxLen := by unfold maxLen; omega
  obtain ⟨No, hNo⟩ : ∃ x, r * r = x := ⟨_, rfl⟩
  have bNo : No ≤ 36 := by rw [← hNo]; exact Nat.mul_le_mul hr6 hr6
  have xNo : No ≤ maxLen := by unfold maxLen; omega
  obtain ⟨Nu, hNu⟩ : ∃ x, k * k = x := ⟨_, rfl⟩
  have bNu : Nu ≤ 36 := by rw [← hNu]; exact Nat.mul_le_mul hk6 hk6
  have xNu : Nu ≤ maxLen := by unfold maxLen; omega
  have et2 : ((C2 : Int)).tmod 7 = (p : Int) := by rw [← hp]; rfl
  have et3 : ((C3 : Int)).tmod 7 = (q : Int) := by rw [← hq]; rfl
  have wt2 : IntKind.i64.wrap (p : Int) = (p : Int) := IntWalk.i64_in _ (by omega)
  have wt3 : IntKind.i64.wrap (q : Int) = (q : Int) := IntWalk.i64_in _ (by omega)
  have hma := fun W h => Mat_any A1 n1 c1 L1 R1 C1 r k Na W h hl1 hm1 hr hk hNa hb1
  have hwb := fun W h => With_any A2 n2 c2 L2 (R2 : Int) (C2 : Int) k p Nb W h hl2 hm2 (by omega) (by omega) hNb hb2
  have hwc := fun W h => With_any A3 n3 c3 L3 (R3 : Int) (C3 : Int) p q Nc W h hl3 hm3 (by omega) (by omega) hNc hb3
  have hwd := fun W h => With_any A3 n3 c3 L3 (R3 : Int) (C3 : Int) k p Nb W h hl3 hm3 (by omega) (by omega) hNb hb3
  have sa := wth_size L1 Na hb1
  have sb := wth_size L2 Nb hb2
  have sc := wth_size L3 Nc hb3
  have sd := wth_size L3 Nb hb3
  have la : (wth L1 Na).length = r * k := by rw [wth_length, hNa]
  have lb : (wth L2 Nb).length = k * p := by rw [wth_length, hNb]
  have lc : (wth L3 Nc).length = p * q := by rw [wth_length, hNc]
  have ld : (wth L3 Nb).length = k * p := by rw [wth_length, hNb]
  obtain ⟨za, hza⟩ : ∃ x, x = wth L1 Na := ⟨_, rfl⟩
  obtain ⟨zb, hzb⟩ : ∃ x, x = wth L2 Nb := ⟨_, rfl⟩
  obtain ⟨zc, hzc⟩ : ∃ x, x = wth L3 Nc := ⟨_, rfl⟩
  obtain ⟨zd, hzd⟩ : ∃ x, x = wth L3 Nb := ⟨_, rfl⟩
  rw [← hza] at hma sa la
  rw [← hzb] at hwb sb lb
  rw [← hzc] at hwc sc lc
  rw [← hzd] at hwd sd ld
  have hab := fun gA gB W h1 h2 => Mul_ok gA gB r k p Na Nb Na Nb Nab za zb W h1 h2 la lb hNa.symm hNb.symm (by omega) (by omega) (by omega) hNab (Nat.le_refl _) (Nat.le_refl _) xNa xNb (fun j => Nat.le_trans (sa j) (by omega)) (fun j => Nat.le_trans (sb j) (by omega))
  obtain ⟨zab, hzab⟩ : ∃ x, x = mulL za zb r k p := ⟨_, rfl⟩
  have lab : zab.length = r * p := by rw [hzab, mulL_length]
  have sab : ∀ j, (wmag (zab.getD j 0)).size ≤ 8 + 8 + 1 := by rw [hzab]; exact mulL_size za zb r k p 8 8 (by omega) sa sb
  rw [← hzab] at hab
  have hbc := fun gA gB W h1 h2 => Mul_ok gA gB k p q Nb Nc Nb Nc Nbc zb zc W h1 h2 lb lc hNb.symm hNc.symm (by omega) (by omega) (by omega) hNbc (Nat.le_refl _) (Nat.le_refl _) xNb xNc (fun j => Nat.le_trans (sb j) (by omega)) (fun j => Nat.le_trans (sc j) (by omega))
  obtain ⟨zbc, hzbc⟩ : ∃ x, x = mulL zb zc k p q := ⟨_, rfl⟩
  have lbc : zbc.length = k * q := by rw [hzbc, mulL_length]
  have sbc : ∀ j, (wmag (zbc.getD j 0)).size ≤ 8 + 8 + 1 := by rw [hzbc]; exact mulL_size zb zc k p q 8 8 (by omega) sb sc
  rw [← hzbc] at hbc
  have hl := fun gA gB W h1 h2 => Mul_ok gA gB r p q Nab Nc Nab Nc Nl zab zc W h1 h2 lab lc hNab.symm hNc.symm (by omega) (by omega) (by omega) hNl (Nat.le_refl _) (Nat.le_refl _) xNab xNc (fun j => Nat.le_trans (sab j) (by omega)) (fun j => Nat.le_trans (sc j) (by omega))
  obtain ⟨zl, hzl⟩ : ∃ x, x = mulL zab zc r p q := ⟨_, rfl⟩
  have ll : zl.length = r * q := by rw [hzl, mulL_length]
  have sl : ∀ j, (wmag (zl.getD j 0)).size ≤ 8 + 8 + 1 + 8 + 1 := by rw [hzl]; exact mulL_size zab zc r p q (8 + 8 + 1) 8 (by omega) sab sc
  rw [← hzl] at hl
  have hr_ := fun gA gB W h1 h2 => Mul_ok gA gB r k q Na Nbc Na Nbc Nl za zbc W h1 h2 la lbc hNa.symm hNbc.symm (by omega) (by omega) (by omega) hNl (Nat.le_refl _) (Nat.le_refl _) xNa xNbc (fun j => Nat.le_trans (sa j) (by omega)) (fun j => Nat.le_trans (sbc j) (by omega))
  rw [hzbc, ← mul_assoc_ za zb zc r k p q, ← hzab, ← hzl, ← hzbc] at hr_
  have hbd := fun gA gB W h1 h2 => Madd_ok gA gB k p Nb Nb Nb zb zd W h1 h2 (lb.trans hNb) (ld.trans hNb) hNb (Nat.le_refl _) xNb (Nat.le_refl _) xNb (mright_ints k p zb lb (by omega) (by omega)) (mright_ints k p zd ld (by omega) (by omega)) (by omega) (by omega) (fun j => Nat.le_trans (sb j) (by omega)) (fun j => Nat.le_trans (sd j) (by omega))
  obtain ⟨zbd, hzbd⟩ : ∃ x, x = cmb (fun x y => x + y) zb zd Nb := ⟨_, rfl⟩
  have lbd : zbd.length = k * p := by rw [hzbd, cmb_length, hNb]
  have sbd : ∀ j, (wmag (zbd.getD j 0)).size ≤ 8 + 1 := by rw [hzbd]; exact add_size zb zd Nb 8 (fun j => Nat.le_trans (sb j) (by omega)) (fun j => Nat.le_trans (sd j) (by omega))
  rw [← hzbd] at hbd
  have had := fun gA gB W h1 h2 => Mul_ok gA gB r k p Na Nb Na Nb Nab za zd W h1 h2 la ld hNa.symm hNb.symm (by omega) (by omega) (by omega) hNab (Nat.le_refl _) (Nat.le_refl _) xNa xNb (fun j => Nat.le_trans (sa j) (by omega)) (fun j => Nat.le_trans (sd j) (by omega))
  obtain ⟨zad, hzad⟩ : ∃ x, x = mulL za zd r k p := ⟨_, rfl⟩
  have lad : zad.length = r * p := by rw [hzad, mulL_length]
  have sad : ∀ j, (wmag (zad.getD j 0)).size ≤ 8 + 8 + 1 := by rw [hzad]; exact mulL_size za zd r k p 8 8 (by omega) sa sd
  rw [← hzad] at had
  have hm := fun gA gB W h1 h2 => Mul_ok gA gB r k p Na Nb Na Nb Nab za zbd W h1 h2 la lbd hNa.symm hNb.symm (by omega) (by omega) (by omega) hNab (Nat.le_refl _) (Nat.le_refl _) xNa xNb (fun j => Nat.le_trans (sa j) (by omega)) (fun j => Nat.le_trans (sbd j) (by omega))
  obtain ⟨zm, hzm⟩ : ∃ x, x = mulL za zbd r k p := ⟨_, rfl⟩
  have lm : zm.length = r * p := by rw [hzm, mulL_length]
  have sm : ∀ j, (wmag (zm.getD j 0)).size ≤ 8 + (8 + 1) + 1 := by rw [hzm]; exact mulL_size za zbd r k p 8 (8 + 1) (by omega) sa sbd
  rw [← hzm] at hm
  have hn := fun gA gB W h1 h2 => Madd_ok gA gB r p Nab Nab Nab zab zad W h1 h2 (lab.trans hNab) (lad.trans hNab) hNab (Nat.le_refl _) xNab (Nat.le_refl _) xNab (mright_ints r p zab lab (by omega) (by omega)) (mright_ints r p zad lad (by omega) (by omega)) (by omega) (by omega) (fun j => Nat.le_trans (sab j) (by omega)) (fun j => Nat.le_trans (sad j) (by omega))
  rw [hzab, hzad, ← mul_add_ za zb zd r k p Nb Nab hNb hNab, ← hzbd, ← hzm, ← hzab, ← hzad] at hn
  have hbk := fun gA gB W h1 h2 => Msub_ok gA gB k p Nb Nb Nb zbd zd W h1 h2 (lbd.trans hNb) (ld.trans hNb) hNb (Nat.le_refl _) xNb (Nat.le_refl _) xNb (mright_ints k p zbd lbd (by omega) (by omega)) (mright_ints k p zd ld (by omega) (by omega)) (by omega) (by omega) (fun j => Nat.le_trans (sbd j) (by omega)) (fun j => Nat.le_trans (sd j) (by omega))
  rw [hzbd, sub_add_ zb zd Nb (lb.trans hNb), ← hzbd] at hbk
  have ho := fun W => One_fits r W (by omega)
  rw [oneI_enc, hNo] at ho
  obtain ⟨zo, hzo⟩ : ∃ x, x = oneI r := ⟨_, rfl⟩
  have lo : zo.length = r * r := by rw [hzo, oneI_length]
  have so : ∀ j, (wmag (zo.getD j 0)).size ≤ 1 := by rw [hzo]; exact one_size r
  rw [← hzo] at ho
  have hu := fun W => One_fits k W (by omega)
  rw [oneI_enc, hNu] at hu
  obtain ⟨zu, hzu⟩ : ∃ x, x = oneI k := ⟨_, rfl⟩
  have lu : zu.length = k * k := by rw [hzu, oneI_length]
  have su : ∀ j, (wmag (zu.getD j 0)).size ≤ 1 := by rw [hzu]; exact one_size k
  rw [← hzu] at hu
  have hi := fun gA gB W h1 h2 => Mul_ok gA gB r r k No Na No Na Na zo za W h1 h2 lo la hNo.symm hNa.symm (by omega) (by omega) (by omega) hNa (Nat.le_refl _) (Nat.le_refl _) xNo xNa (fun j => Nat.le_trans (so j) (by omega)) (fun j => Nat.le_trans (sa j) (by omega))
  have hj := fun gA gB W h1 h2 => Mul_ok gA gB r k k Na Nu Na Nu Na za zu W h1 h2 la lu hNa.symm hNu.symm (by omega) (by omega) (by omega) hNa (Nat.le_refl _) (Nat.le_refl _) xNa xNu (fun j => Nat.le_trans (sa j) (by omega)) (fun j => Nat.le_trans (su j) (by omega))
  rw [hzo, one_mul_ za r k la, ← hzo] at hi
  rw [hzu, mul_one_ za r k la, ← hzu] at hj
  have hrl := fun gA W h1 => Right_self r q Nl zl ll hNl (by omega) (by omega) gA W h1
  have hel := fun gA gB W h1 h2 => Equal_self r q Nl zl ll hNl (by omega) (by omega) gA gB W h1 h2
  have hem := fun gA gB W h1 h2 => Equal_self r p Nab zm lm hNab (by omega) (by omega) gA gB W h1 h2
  have heb := fun gA gB W h1 h2 => Equal_self k p Nb zb lb hNb (by omega) (by omega) gA gB W h1 h2
  have hea := fun gA gB W h1 h2 => Equal_self r k Na za la hNa (by omega) (by omega) gA gB W h1 h2
  have hTs : ∀ W l, Kg none w W l → Tz W := fun W l h => hTz.of fun b hb => h.1.block b hb (by simp)
  have hR1k : ∀ W l, Kg none w W l → RdI W A1 L1 := fun W l h => hR1.below (Kg.below_ h)
  have hR2k : ∀ W l, Kg none w W l → RdI W A2 L2 := fun W l h => hR2.below (Kg.below_ h)
  have hR3k : ∀ W l, Kg none w W l → RdI W A3 L3 := fun W l h => hR3.below (Kg.below_ h)
  unfold mat at *
  have HMA := Lib.hid hma
  have HWB := Lib.hid hwb
  have HWC := Lib.hid hwc
  have HWD := Lib.hid hwd
  have HAB := Lib.hid hab
  have HBC := Lib.hid hbc
  have HL := Lib.hid hl
  have HR_ := Lib.hid hr_
  have HBD := Lib.hid hbd
  have HAD := Lib.hid had
  have HM := Lib.hid hm
  have HN := Lib.hid hn
  have HBK := Lib.hid hbk
  have HO := Lib.hid ho
  have HU := Lib.hid hu
  have HI := Lib.hid hi
  have HJ := Lib.hid hj
  have HRL := Lib.hid hrl
  have HEL := Lib.hid hel
  have HEM := Lib.hid hem
  have HEB := Lib.hid heb
  have HEA := Lib.hid hea
  have HSA := Lib.hid (fun W hW => sanity_any W hW)
  have HTS := Lib.hid hTs
  have HRA := Lib.hid hR1k
  have HRB := Lib.hid hR2k
  have HRC := Lib.hid hR3k
  have HK1 := Lib.hid (((((Kg.none_ none w 0).more (.cells #[.int .u8 (R1 : Int), .int .u8 (C1 : Int), .slice A1 n1 c1] 38 (0, 0))).more (.cells #[.int .u8 (R2 : Int), .int .u8 (C2 : Int), .slice A2 n2 c2] 38 (0, 0))).more (.cells #[.int .u8 (R3 : Int), .int .u8 (C3 : Int), .slice A3 n3 c3] 38 (0, 0))).cast (l' := [some (w.heap.size, .cells #[.int .u8 (R1 : Int), .int .u8 (C1 : Int), .slice A1 n1 c1] 38 (0, 0)), some (w.heap.size + 1, .cells #[.int .u8 (R2 : Int), .int .u8 (C2 : Int), .slice A2 n2 c2] 38 (0, 0)), some (w.heap.size + 1 + 1, .cells #[.int .u8 (R3 : Int), .int .u8 (C3 : Int), .slice A3 n3 c3] 38 (0, 0))]) (by simp))
  clear hma hwb hwc hwd hab hbc hl hr_ hbd had hm hn hbk ho hu hi hj hrl hel hem heb hea hTs hR1k hR2k hR3k hza la sa hzb lb sb hzc lc sc hzd ld sd hzab lab sab hzbc lbc sbc hzl ll sl hzbd lbd sbd hzad lad sad hzm lm sm hzo lo so hzu lu su hR1 hR2 hR3 hl1 hl2 hl3 hm1 hm2 hm3 hb1 hb2 hb3 hTz hr hk hp hq hNa bNa xNa hNb bNb xNb hNc bNc xNc hNab bNab xNab hNbc bNbc xNbc hNl bNl xNl hNo bNo xNo hNu bNu xNu
  go_enter Tryz.func6, Tryz.ntmps6
  go_wp2_with fail
  change Calls _ _ _ (((w.alloc (.cells #[.int .u8 (R1 : Int), .int .u8 (C1 : Int), .slice A1 n1 c1] 38 (0, 0))).alloc (.cells #[.int .u8 (R2 : Int), .int .u8 (C2 : Int), .slice A2 n2 c2] 38 (0, 0))).alloc (.cells #[.int .u8 (R3 : Int), .int .u8 (C3 : Int), .slice A3 n3 c3] 38 (0, 0))) _
  generalize ((w.alloc (.cells #[.int .u8 (R1 : Int), .int .u8 (C1 : Int), .slice A1 n1 c1] 38 (0, 0))).alloc (.cells #[.int .u8 (R2 : Int), .int .u8 (C2 : Int), .slice A2 n2 c2] 38 (0, 0))).alloc (.cells #[.int .u8 (R3 : Int), .int .u8 (C3 : Int), .slice A3 n3 c3] 38 (0, 0)) = W1 at *
  with_reducible refine (HSA.out _ (HTS.out _ _ HK1.out)).mono ?_
  rintro e V1 ⟨rfl, hb2⟩
  have HK2 := Lib.hid (HK1.out.step hb2)
  clear hb2 HK1
  have x0 := HK2.out.cell 0 0 rfl rfl
  have x1 := HK2.out.cell 0 1 rfl rfl
  have x2 := HK2.out.cell 0 2 rfl rfl
  go_wp2_with fail
  with_reducible refine (HMA.out _ (HRA.out _ _ HK2.out)).mono ?_
  rintro e V3 ⟨g1, rfl, hg, hL, hb⟩
  have HK3 := Lib.hid (show Kg none w (V3.alloc (.cells #[.int .i64 (r : Int), .int .i64 (k : Int), .slice (some ⟨g1, 0, none⟩) Na Na] 28 (0, 0))) [some (w.heap.size, .cells #[.int .u8 (R1 : Int), .int .u8 (C1 : Int), .slice A1 n1 c1] 38 (0, 0)), some (w.heap.size + 1, .cells #[.int .u8 (R2 : Int), .int .u8 (C2 : Int), .slice A2 n2 c2] 38 (0, 0)), some (w.heap.size + 1 + 1, .cells #[.int .u8 (R3 : Int), .int .u8 (C3 : Int), .slice A3 n3 c3] 38 (0, 0)), some (g1, lwO (enc (za))), some (V3.heap.size, .cells #[.int .i64 (r : Int), .int .i64 (k : Int), .slice (some ⟨g1, 0, none⟩) Na Na] 28 (0, 0))] from (HK2.out.room.came 3 rfl hb hg (o := lwO (enc (za))) hL).more (.cells #[.int .i64 (r : Int), .int .i64 (k : Int), .slice (some ⟨g1, 0, none⟩) Na Na] 28 (0, 0)))
  clear hg hL hb x0 x1 x2 HK2
  have x0 := HK3.out.cell 1 0 rfl rfl
  have x1 := HK3.out.cell 1 1 rfl rfl
  have x2 := HK3.out.cell 1 2 rfl rfl
  have x3 := HK3.out.cell 4 1 rfl rfl
  go_wp2_with fail
  change Calls _ _ _ (V3.alloc (.cells #[.int .i64 (r : Int), .int .i64 (k : Int), .slice (some ⟨g1, 0, none⟩) Na Na] 28 (0, 0))) _
  generalize V3.alloc (.cells #[.int .i64 (r : Int), .int .i64 (k : Int), .slice (some ⟨g1, 0, none⟩) Na Na] 28 (0, 0)) = W4 at *
  generalize V3.heap.size = b3 at *
  with_reducible refine (HWB.out _ (HRB.out _ _ HK3.out)).mono ?_
  rintro e V5 ⟨g2, rfl, hg, hL, hb⟩
  have HK5 := Lib.hid (show Kg none w (V5.alloc (.cells #[.int .i64 (k : Int), .int .i64 (p : Int), .slice (some ⟨g2, 0, none⟩) Nb Nb] 28 (0, 0))) [some (w.heap.size, .cells #[.int .u8 (R1 : Int), .int .u8 (C1 : Int), .slice A1 n1 c1] 38 (0, 0)), some (w.heap.size + 1, .cells #[.int .u8 (R2 : Int), .int .u8 (C2 : Int), .slice A2 n2 c2] 38 (0, 0)), some (w.heap.size + 1 + 1, .cells #[.int .u8 (R3 : Int), .int .u8 (C3 : Int), .slice A3 n3 c3] 38 (0, 0)), some (g1, lwO (enc (za))), some (b3, .cells #[.int .i64 (r : Int), .int .i64 (k : Int), .slice (some ⟨g1, 0, none⟩) Na Na] 28 (0, 0)), some (g2, lwO (enc (zb))), some (V5.heap.size, .cells #[.int .i64 (k : Int), .int .i64 (p : Int), .slice (some ⟨g2, 0, none⟩) Nb Nb] 28 (0, 0))] from (HK3.out.room.came 5 rfl hb hg (o := lwO (enc (zb))) hL).more (.cells #[.int .i64 (k : Int), .int .i64 (p : Int), .slice (some ⟨g2, 0, none⟩) Nb Nb] 28 (0, 0)))
  clear hg hL hb x0 x1 x2 x3 HK3
  have x0 := HK5.out.cell 2 0 rfl rfl
  have x1 := HK5.out.cell 2 1 rfl rfl
  have x2 := HK5.out.cell 2 2 rfl rfl
  have x3 := HK5.out.cell 6 1 rfl rfl
  go_wp2_with fail
  change Calls _ _ _ (V5.alloc (.cells #[.int .i64 (k : Int), .int .i64 (p : Int), .slice (some ⟨g2, 0, none⟩) Nb Nb] 28 (0, 0))) _
  generalize V5.alloc (.cells #[.int .i64 (k : Int), .int .i64 (p : Int), .slice (some ⟨g2, 0, none⟩) Nb Nb] 28 (0, 0)) = W6 at *
  generalize V5.heap.size = b5 at *
  with_reducible refine (HWC.out _ (HRC.out _ _ HK5.out)).mono ?_
  rintro e V7 ⟨g3, rfl, hg, hL, hb⟩
  have HK7 := Lib.hid (show Kg none w (V7.alloc (.cells #[.int .i64 (p : Int), .int .i64 (q : Int), .slice (some ⟨g3, 0, none⟩) Nc Nc] 28 (0, 0))) [some (w.heap.size, .cells #[.int .u8 (R1 : Int), .int .u8 (C1 : Int), .slice A1 n1 c1] 38 (0, 0)), some (w.heap.size + 1, .cells #[.int .u8 (R2 : Int), .int .u8 (C2 : Int), .slice A2 n2 c2] 38 (0, 0)), some (w.heap.size + 1 + 1, .cells #[.int .u8 (R3 : Int), .int .u8 (C3 : Int), .slice A3 n3 c3] 38 (0, 0)), some (g1, lwO (enc (za))), some (b3, .cells #[.int .i64 (r : Int), .int .i64 (k : Int), .slice (some ⟨g1, 0, none⟩) Na Na] 28 (0, 0)), some (g2, lwO (enc (zb))), some (b5, .cells #[.int .i64 (k : Int), .int .i64 (p : Int), .slice (some ⟨g2, 0, none⟩) Nb Nb] 28 (0, 0)), some (g3, lwO (enc (zc))), some (V7.heap.size, .cells #[.int .i64 (p : Int), .int .i64 (q : Int), .slice (some ⟨g3, 0, none⟩) Nc Nc] 28 (0, 0))] from (HK5.out.room.came 7 rfl hb hg (o := lwO (enc (zc))) hL).more (.cells #[.int .i64 (p : Int), .int .i64 (q : Int), .slice (some ⟨g3, 0, none⟩) Nc Nc] 28 (0, 0)))
  clear hg hL hb x0 x1 x2 x3 HK5
  have x0 := HK7.out.cell 2 0 rfl rfl
  have x1 := HK7.out.cell 2 1 rfl rfl
  have x2 := HK7.out.cell 2 2 rfl rfl
  have x3 := HK7.out.cell 4 1 rfl rfl
  have x4 := HK7.out.cell 6 1 rfl rfl
  go_wp2_with fail
  change Calls _ _ _ (V7.alloc (.cells #[.int .i64 (p : Int), .int .i64 (q : Int), .slice (some ⟨g3, 0, none⟩) Nc Nc] 28 (0, 0))) _
  generalize V7.alloc (.cells #[.int .i64 (p : Int), .int .i64 (q : Int), .slice (some ⟨g3, 0, none⟩) Nc Nc] 28 (0, 0)) = W8 at *
  generalize V7.heap.size = b7 at *
  with_reducible refine (HWD.out _ (HRC.out _ _ HK7.out)).mono ?_
  rintro e V9 ⟨g4, rfl, hg, hL, hb⟩
  have HK9 := Lib.hid (show Kg none w (V9.alloc (.cells #[.int .i64 (k : Int), .int .i64 (p : Int), .slice (some ⟨g4, 0, none⟩) Nb Nb] 28 (0, 0))) [some (w.heap.size, .cells #[.int .u8 (R1 : Int), .int .u8 (C1 : Int), .slice A1 n1 c1] 38 (0, 0)), some (w.heap.size + 1, .cells #[.int .u8 (R2 : Int), .int .u8 (C2 : Int), .slice A2 n2 c2] 38 (0, 0)), some (w.heap.size + 1 + 1, .cells #[.int .u8 (R3 : Int), .int .u8 (C3 : Int), .slice A3 n3 c3] 38 (0, 0)), some (g1, lwO (enc (za))), some (b3, .cells #[.int .i64 (r : Int), .int .i64 (k : Int), .slice (some ⟨g1, 0, none⟩) Na Na] 28 (0, 0)), some (g2, lwO (enc (zb))), some (b5, .cells #[.int .i64 (k : Int), .int .i64 (p : Int), .slice (some ⟨g2, 0, none⟩) Nb Nb] 28 (0, 0)), some (g3, lwO (enc (zc))), some (b7, .cells #[.int .i64 (p : Int), .int .i64 (q : Int), .slice (some ⟨g3, 0, none⟩) Nc Nc] 28 (0, 0)), some (g4, lwO (enc (zd))), some (V9.heap.size, .cells #[.int .i64 (k : Int), .int .i64 (p : Int), .slice (some ⟨g4, 0, none⟩) Nb Nb] 28 (0, 0))] from (HK7.out.room.came 9 rfl hb hg (o := lwO (enc (zd))) hL).more (.cells #[.int .i64 (k : Int), .int .i64 (p : Int), .slice (some ⟨g4, 0, none⟩) Nb Nb] 28 (0, 0)))
  clear hg hL hb x0 x1 x2 x3 x4 HK7
  have x0 := HK9.out.cell 4 0 rfl rfl
  have x1 := HK9.out.cell 4 1 rfl rfl
  have x2 := HK9.out.cell 4 2 rfl rfl
  have x3 := HK9.out.cell 6 0 rfl rfl
  have x4 := HK9.out.cell 6 1 rfl rfl
  have x5 := HK9.out.cell 6 2 rfl rfl
  go_wp2_with fail
  change Calls _ _ _ (V9.alloc (.cells #[.int .i64 (k : Int), .int .i64 (p : Int), .slice (some ⟨g4, 0, none⟩) Nb Nb] 28 (0, 0))) _
  generalize V9.alloc (.cells #[.int .i64 (k : Int), .int .i64 (p : Int), .slice (some ⟨g4, 0, none⟩) Nb Nb] 28 (0, 0)) = W10 at *
  generalize V9.heap.size = b9 at *
  have hxa : Lw W10 g1 (enc za) := HK9.out.at_ 3 rfl
  have hxb : Lw W10 g2 (enc zb) := HK9.out.at_ 5 rfl
  with_reducible refine (HAB.out g1 g2 _ hxa hxb).mono ?_
  rintro e V11 ⟨g5, rfl, hg, hL, hb⟩
  have HK11 := Lib.hid (show Kg none w (V11.alloc (.cells #[.int .i64 (r : Int), .int .i64 (p : Int), .slice (some ⟨g5, 0, none⟩) Nab Nab] 28 (0, 0))) [some (w.heap.size, .cells #[.int .u8 (R1 : Int), .int .u8 (C1 : Int), .slice A1 n1 c1] 38 (0, 0)), some (w.heap.size + 1, .cells #[.int .u8 (R2 : Int), .int .u8 (C2 : Int), .slice A2 n2 c2] 38 (0, 0)), some (w.heap.size + 1 + 1, .cells #[.int .u8 (R3 : Int), .int .u8 (C3 : Int), .slice A3 n3 c3] 38 (0, 0)), some (g1, lwO (enc (za))), some (b3, .cells #[.int .i64 (r : Int), .int .i64 (k : Int), .slice (some ⟨g1, 0, none⟩) Na Na] 28 (0, 0)), some (g2, lwO (enc (zb))), some (b5, .cells #[.int .i64 (k : Int), .int .i64 (p : Int), .slice (some ⟨g2, 0, none⟩) Nb Nb] 28 (0, 0)), some (g3, lwO (enc (zc))), some (b7, .cells #[.int .i64 (p : Int), .int .i64 (q : Int), .slice (some ⟨g3, 0, none⟩) Nc Nc] 28 (0, 0)), some (g4, lwO (enc (zd))), some (b9, .cells #[.int .i64 (k : Int), .int .i64 (p : Int), .slice (some ⟨g4, 0, none⟩) Nb Nb] 28 (0, 0)), some (g5, lwO (enc (zab))), some (V11.heap.size, .cells #[.int .i64 (r : Int), .int .i64 (p : Int), .slice (some ⟨g5, 0, none⟩) Nab Nab] 28 (0, 0))] from (HK9.out.room.came 11 rfl hb hg (o := lwO (enc (zab))) hL).more (.cells #[.int .i64 (r : Int), .int .i64 (p : Int), .slice (some ⟨g5, 0, none⟩) Nab Nab] 28 (0, 0)))
  clear hg hL hb x0 x1 x2 x3 x4 x5 hxa hxb HK9
  have x0 := HK11.out.cell 6 0 rfl rfl
  have x1 := HK11.out.cell 6 1 rfl rfl
  have x2 := HK11.out.cell 6 2 rfl rfl
  have x3 := HK11.out.cell 8 0 rfl rfl
  have x4 := HK11.out.cell 8 1 rfl rfl
  have x5 := HK11.out.cell 8 2 rfl rfl
  go_wp2_with fail
  change Calls _ _ _ (V11.alloc (.cells #[.int .i64 (r : Int), .int .i64 (p : Int), .slice (some ⟨g5, 0, none⟩) Nab Nab] 28 (0, 0))) _
  generalize V11.alloc (.cells #[.int .i64 (r : Int), .int .i64 (p : Int), .slice (some ⟨g5, 0, none⟩) Nab Nab] 28 (0, 0)) = W12 at *
  generalize V11.heap.size = b11 at *
  have hxa : Lw W12 g2 (enc zb) := HK11.out.at_ 5 rfl
  have hxb : Lw W12 g3 (enc zc) := HK11.out.at_ 7 rfl
  with_reducible refine (HBC.out g2 g3 _ hxa hxb).mono ?_
  rintro e V13 ⟨g6, rfl, hg, hL, hb⟩
  have HK13 := Lib.hid (show Kg none w (V13.alloc (.cells #[.int .i64 (k : Int), .int .i64 (q : Int), .slice (some ⟨g6, 0, none⟩) Nbc Nbc] 28 (0, 0))) [some (w.heap.size, .cells #[.int .u8 (R1 : Int), .int .u8 (C1 : Int), .slice A1 n1 c1] 38 (0, 0)), some (w.heap.size + 1, .cells #[.int .u8 (R2 : Int), .int .u8 (C2 : Int), .slice A2 n2 c2] 38 (0, 0)), some (w.heap.size + 1 + 1, .cells #[.int .u8 (R3 : Int), .int .u8 (C3 : Int), .slice A3 n3 c3] 38 (0, 0)), some (g1, lwO (enc (za))), some (b3, .cells #[.int .i64 (r : Int), .int .i64 (k : Int), .slice (some ⟨g1, 0, none⟩) Na Na] 28 (0, 0)), some (g2, lwO (enc (zb))), some (b5, .cells #[.int .i64 (k : Int), .int .i64 (p : Int), .slice (some ⟨g2, 0, none⟩) Nb Nb] 28 (0, 0)), some (g3, lwO (enc (zc))), some (b7, .cells #[.int .i64 (p : Int), .int .i64 (q : Int), .slice (some ⟨g3, 0, none⟩) Nc Nc] 28 (0, 0)), some (g4, lwO (enc (zd))), some (b9, .cells #[.int .i64 (k : Int), .int .i64 (p : Int), .slice (some ⟨g4, 0, none⟩) Nb Nb] 28 (0, 0)), some (g5, lwO (enc (zab))), some (b11, .cells #[.int .i64 (r : Int), .int .i64 (p : Int), .slice (some ⟨g5, 0, none⟩) Nab Nab] 28 (0, 0)), some (g6, lwO (enc (zbc))), some (V13.heap.size, .cells #[.int .i64 (k : Int), .int .i64 (q : Int), .slice (some ⟨g6, 0, none⟩) Nbc Nbc] 28 (0, 0))] from (HK11.out.room.came 13 rfl hb hg (o := lwO (enc (zbc))) hL).more (.cells #[.int .i64 (k : Int), .int .i64 (q : Int), .slice (some ⟨g6, 0, none⟩) Nbc Nbc] 28 (0, 0)))
  clear hg hL hb x0 x1 x2 x3 x4 x5 hxa hxb HK11
  have x0 := HK13.out.cell 12 0 rfl rfl
  have x1 := HK13.out.cell 12 1 rfl rfl
  have x2 := HK13.out.cell 12 2 rfl rfl
  have x3 := HK13.out.cell 8 0 rfl rfl
  have x4 := HK13.out.cell 8 1 rfl rfl
  have x5 := HK13.out.cell 8 2 rfl rfl
  go_wp2_with fail
  change Calls _ _ _ (V13.alloc (.cells #[.int .i64 (k : Int), .int .i64 (q : Int), .slice (some ⟨g6, 0, none⟩) Nbc Nbc] 28 (0, 0))) _
  generalize V13.alloc (.cells #[.int .i64 (k : Int), .int .i64 (q : Int), .slice (some ⟨g6, 0, none⟩) Nbc Nbc] 28 (0, 0)) = W14 at *
  generalize V13.heap.size = b13 at *
  have hxa : Lw W14 g5 (enc zab) := HK13.out.at_ 11 rfl
  have hxb : Lw W14 g3 (enc zc) := HK13.out.at_ 7 rfl
  with_reducible refine (HL.out g5 g3 _ hxa hxb).mono ?_
  rintro e V15 ⟨g7, rfl, hg, hL, hb⟩
  have HK15 := Lib.hid (show Kg none w (V15.alloc (.cells #[.int .i64 (r : Int), .int .i64 (q : Int), .slice (some ⟨g7, 0, none⟩) Nl Nl] 28 (0, 0))) [some (w.heap.size, .cells #[.int .u8 (R1 : Int), .int .u8 (C1 : Int), .slice A1 n1 c1] 38 (0, 0)), some (w.heap.size + 1, .cells #[.int .u8 (R2 : Int), .int .u8 (C2 : Int), .slice A2 n2 c2] 38 (0, 0)), some (w.heap.size + 1 + 1, .cells #[.int .u8 (R3 : Int), .int .u8 (C3 : Int), .slice A3 n3 c3] 38 (0, 0)), some (g1, lwO (enc (za))), some (b3, .cells #[.int .i64 (r : Int), .int .i64 (k : Int), .slice (some ⟨g1, 0, none⟩) Na Na] 28 (0, 0)), some (g2, lwO (enc (zb))), some (b5, .cells #[.int .i64 (k : Int), .int .i64 (p : Int), .slice (some ⟨g2, 0, none⟩) Nb Nb] 28 (0, 0)), some (g3, lwO (enc (zc))), some (b7, .cells #[.int .i64 (p : Int), .int .i64 (q : Int), .slice (some ⟨g3, 0, none⟩) Nc Nc] 28 (0, 0)), some (g4, lwO (enc (zd))), some (b9, .cells #[.int .i64 (k : Int), .int .i64 (p : Int), .slice (some ⟨g4, 0, none⟩) Nb Nb] 28 (0, 0)), some (g5, lwO (enc (zab))), some (b11, .cells #[.int .i64 (r : Int), .int .i64 (p : Int), .slice (some ⟨g5, 0, none⟩) Nab Nab] 28 (0, 0)), some (g6, lwO (enc (zbc))), some (b13, .cells #[.int .i64 (k : Int), .int .i64 (q : Int), .slice (some ⟨g6, 0, none⟩) Nbc Nbc] 28 (0, 0)), some (g7, lwO (enc (zl))), some (V15.heap.size, .cells #[.int .i64 (r : Int), .int .i64 (q : Int), .slice (some ⟨g7, 0, none⟩) Nl Nl] 28 (0, 0))] from (HK13.out.room.came 15 rfl hb hg (o := lwO (enc (zl))) hL).more (.cells #[.int .i64 (r : Int), .int .i64 (q : Int), .slice (some ⟨g7, 0, none⟩) Nl Nl] 28 (0, 0)))
  clear hg hL hb x0 x1 x2 x3 x4 x5 hxa hxb HK13
  have x0 := HK15.out.cell 4 0 rfl rfl
  have x1 := HK15.out.cell 4 1 rfl rfl
  have x2 := HK15.out.cell 4 2 rfl rfl
  have x3 := HK15.out.cell 14 0 rfl rfl
  have x4 := HK15.out.cell 14 1 rfl rfl
  have x5 := HK15.out.cell 14 2 rfl rfl
  go_wp2_with fail
  change Calls _ _ _ (V15.alloc (.cells #[.int .i64 (r : Int), .int .i64 (q : Int), .slice (some ⟨g7, 0, none⟩) Nl Nl] 28 (0, 0))) _
  generalize V15.alloc (.cells #[.int .i64 (r : Int), .int .i64 (q : Int), .slice (some ⟨g7, 0, none⟩) Nl Nl] 28 (0, 0)) = W16 at *
  generalize V15.heap.size = b15 at *
  have hxa : Lw W16 g1 (enc za) := HK15.out.at_ 3 rfl
  have hxb : Lw W16 g6 (enc zbc) := HK15.out.at_ 13 rfl
  with_reducible refine (HR_.out g1 g6 _ hxa hxb).mono ?_
  rintro e V17 ⟨g8, rfl, hg, hL, hb⟩
  have HK17 := Lib.hid (show Kg none w (V17.alloc (.cells #[.int .i64 (r : Int), .int .i64 (q : Int), .slice (some ⟨g8, 0, none⟩) Nl Nl] 28 (0, 0))) [some (w.heap.size, .cells #[.int .u8 (R1 : Int), .int .u8 (C1 : Int), .slice A1 n1 c1] 38 (0, 0)), some (w.heap.size + 1, .cells #[.int .u8 (R2 : Int), .int .u8 (C2 : Int), .slice A2 n2 c2] 38 (0, 0)), some (w.heap.size + 1 + 1, .cells #[.int .u8 (R3 : Int), .int .u8 (C3 : Int), .slice A3 n3 c3] 38 (0, 0)), some (g1, lwO (enc (za))), some (b3, .cells #[.int .i64 (r : Int), .int .i64 (k : Int), .slice (some ⟨g1, 0, none⟩) Na Na] 28 (0, 0)), some (g2, lwO (enc (zb))), some (b5, .cells #[.int .i64 (k : Int), .int .i64 (p : Int), .slice (some ⟨g2, 0, none⟩) Nb Nb] 28 (0, 0)), some (g3, lwO (enc (zc))), some (b7, .cells #[.int .i64 (p : Int), .int .i64 (q : Int), .slice (some ⟨g3, 0, none⟩) Nc Nc] 28 (0, 0)), some (g4, lwO (enc (zd))), some (b9, .cells #[.int .i64 (k : Int), .int .i64 (p : Int), .slice (some ⟨g4, 0, none⟩) Nb Nb] 28 (0, 0)), some (g5, lwO (enc (zab))), some (b11, .cells #[.int .i64 (r : Int), .int .i64 (p : Int), .slice (some ⟨g5, 0, none⟩) Nab Nab] 28 (0, 0)), some (g6, lwO (enc (zbc))), some (b13, .cells #[.int .i64 (k : Int), .int .i64 (q : Int), .slice (some ⟨g6, 0, none⟩) Nbc Nbc] 28 (0, 0)), some (g7, lwO (enc (zl))), some (b15, .cells #[.int .i64 (r : Int), .int .i64 (q : Int), .slice (some ⟨g7, 0, none⟩) Nl Nl] 28 (0, 0)), some (g8, lwO (enc (zl))), some (V17.heap.size, .cells #[.int .i64 (r : Int), .int .i64 (q : Int), .slice (some ⟨g8, 0, none⟩) Nl Nl] 28 (0, 0))] from (HK15.out.room.came 17 rfl hb hg (o := lwO (enc (zl))) hL).more (.cells #[.int .i64 (r : Int), .int .i64 (q : Int), .slice (some ⟨g8, 0, none⟩) Nl Nl] 28 (0, 0)))
  clear hg hL hb x0 x1 x2 x3 x4 x5 hxa hxb HK15
  have x0 := HK17.out.cell 6 0 rfl rfl
  have x1 := HK17.out.cell 6 1 rfl rfl
  have x2 := HK17.out.cell 6 2 rfl rfl
  have x3 := HK17.out.cell 10 0 rfl rfl
  have x4 := HK17.out.cell 10 1 rfl rfl
  have x5 := HK17.out.cell 10 2 rfl rfl
  go_wp2_with fail
  change Calls _ _ _ (V17.alloc (.cells #[.int .i64 (r : Int), .int .i64 (q : Int), .slice (some ⟨g8, 0, none⟩) Nl Nl] 28 (0, 0))) _
  generalize V17.alloc (.cells #[.int .i64 (r : Int), .int .i64 (q : Int), .slice (some ⟨g8, 0, none⟩) Nl Nl] 28 (0, 0)) = W18 at *
  generalize V17.heap.size = b17 at *
  have hxa : Lw W18 g2 (enc zb) := HK17.out.at_ 5 rfl
  have hxb : Lw W18 g4 (enc zd) := HK17.out.at_ 9 rfl
  with_reducible refine (HBD.out g2 g4 _ hxa hxb).mono ?_
  rintro e V19 ⟨g9, rfl, hg, hL, hb⟩
  have HK19 := Lib.hid (show Kg none w (V19.alloc (.cells #[.int .i64 (k : Int), .int .i64 (p : Int), .slice (some ⟨g9, 0, none⟩) Nb Nb] 28 (0, 0))) [some (w.heap.size, .cells #[.int .u8 (R1 : Int), .int .u8 (C1 : Int), .slice A1 n1 c1] 38 (0, 0)), some (w.heap.size + 1, .cells #[.int .u8 (R2 : Int), .int .u8 (C2 : Int), .slice A2 n2 c2] 38 (0, 0)), some (w.heap.size + 1 + 1, .cells #[.int .u8 (R3 : Int), .int .u8 (C3 : Int), .slice A3 n3 c3] 38 (0, 0)), some (g1, lwO (enc (za))), some (b3, .cells #[.int .i64 (r : Int), .int .i64 (k : Int), .slice (some ⟨g1, 0, none⟩) Na Na] 28 (0, 0)), some (g2, lwO (enc (zb))), some (b5, .cells #[.int .i64 (k : Int), .int .i64 (p : Int), .slice (some ⟨g2, 0, none⟩) Nb Nb] 28 (0, 0)), some (g3, lwO (enc (zc))), some (b7, .cells #[.int .i64 (p : Int), .int .i64 (q : Int), .slice (some ⟨g3, 0, none⟩) Nc Nc] 28 (0, 0)), some (g4, lwO (enc (zd))), some (b9, .cells #[.int .i64 (k : Int), .int .i64 (p : Int), .slice (some ⟨g4, 0, none⟩) Nb Nb] 28 (0, 0)), some (g5, lwO (enc (zab))), some (b11, .cells #[.int .i64 (r : Int), .int .i64 (p : Int), .slice (some ⟨g5, 0, none⟩) Nab Nab] 28 (0, 0)), some (g6, lwO (enc (zbc))), some (b13, .cells #[.int .i64 (k : Int), .int .i64 (q : Int), .slice (some ⟨g6, 0, none⟩) Nbc Nbc] 28 (0, 0)), some (g7, lwO (enc (zl))), some (b15, .cells #[.int .i64 (r : Int), .int .i64 (q : Int), .slice (some ⟨g7, 0, none⟩) Nl Nl] 28 (0, 0)), some (g8, lwO (enc (zl))), some (b17, .cells #[.int .i64 (r : Int), .int .i64 (q : Int), .slice (some ⟨g8, 0, none⟩) Nl Nl] 28 (0, 0)), some (g9, lwO (enc (zbd))), some (V19.heap.size, .cells #[.int .i64 (k : Int), .int .i64 (p : Int), .slice (some ⟨g9, 0, none⟩) Nb Nb] 28 (0, 0))] from (HK17.out.room.came 19 rfl hb hg (o := lwO (enc (zbd))) hL).more (.cells #[.int .i64 (k : Int), .int .i64 (p : Int), .slice (some ⟨g9, 0, none⟩) Nb Nb] 28 (0, 0)))
  clear hg hL hb x0 x1 x2 x3 x4 x5 hxa hxb HK17
  have x0 := HK19.out.cell 4 0 rfl rfl
  have x1 := HK19.out.cell 4 1 rfl rfl
  have x2 := HK19.out.cell 4 2 rfl rfl
  have x3 := HK19.out.cell 10 0 rfl rfl
  have x4 := HK19.out.cell 10 1 rfl rfl
  have x5 := HK19.out.cell 10 2 rfl rfl
  go_wp2_with fail
  change Calls _ _ _ (V19.alloc (.cells #[.int .i64 (k : Int), .int .i64 (p : Int), .slice (some ⟨g9, 0, none⟩) Nb Nb] 28 (0, 0))) _
  generalize V19.alloc (.cells #[.int .i64 (k : Int), .int .i64 (p : Int), .slice (some ⟨g9, 0, none⟩) Nb Nb] 28 (0, 0)) = W20 at *
  generalize V19.heap.size = b19 at *
  have hxa : Lw W20 g1 (enc za) := HK19.out.at_ 3 rfl
  have hxb : Lw W20 g4 (enc zd) := HK19.out.at_ 9 rfl
  with_reducible refine (HAD.out g1 g4 _ hxa hxb).mono ?_
  rintro e V21 ⟨g10, rfl, hg, hL, hb⟩
  have HK21 := Lib.hid (show Kg none w (V21.alloc (.cells #[.int .i64 (r : Int), .int .i64 (p : Int), .slice (some ⟨g10, 0, none⟩) Nab Nab] 28 (0, 0))) [some (w.heap.size, .cells #[.int .u8 (R1 : Int), .int .u8 (C1 : Int), .slice A1 n1 c1] 38 (0, 0)), some (w.heap.size + 1, .cells #[.int .u8 (R2 : Int), .int .u8 (C2 : Int), .slice A2 n2 c2] 38 (0, 0)), some (w.heap.size + 1 + 1, .cells #[.int .u8 (R3 : Int), .int .u8 (C3 : Int), .slice A3 n3 c3] 38 (0, 0)), some (g1, lwO (enc (za))), some (b3, .cells #[.int .i64 (r : Int), .int .i64 (k : Int), .slice (some ⟨g1, 0, none⟩) Na Na] 28 (0, 0)), some (g2, lwO (enc (zb))), some (b5, .cells #[.int .i64 (k : Int), .int .i64 (p : Int), .slice (some ⟨g2, 0, none⟩) Nb Nb] 28 (0, 0)), some (g3, lwO (enc (zc))), some (b7, .cells #[.int .i64 (p : Int), .int .i64 (q : Int), .slice (some ⟨g3, 0, none⟩) Nc Nc] 28 (0, 0)), some (g4, lwO (enc (zd))), some (b9, .cells #[.int .i64 (k : Int), .int .i64 (p : Int), .slice (some ⟨g4, 0, none⟩) Nb Nb] 28 (0, 0)), some (g5, lwO (enc (zab))), some (b11, .cells #[.int .i64 (r : Int), .int .i64 (p : Int), .slice (some ⟨g5, 0, none⟩) Nab Nab] 28 (0, 0)), some (g6, lwO (enc (zbc))), some (b13, .cells #[.int .i64 (k : Int), .int .i64 (q : Int), .slice (some ⟨g6, 0, none⟩) Nbc Nbc] 28 (0, 0)), some (g7, lwO (enc (zl))), some (b15, .cells #[.int .i64 (r : Int), .int .i64 (q : Int), .slice (some ⟨g7, 0, none⟩) Nl Nl] 28 (0, 0)), some (g8, lwO (enc (zl))), some (b17, .cells #[.int .i64 (r : Int), .int .i64 (q : Int), .slice (some ⟨g8, 0, none⟩) Nl Nl] 28 (0, 0)), some (g9, lwO (enc (zbd))), some (b19, .cells #[.int .i64 (k : Int), .int .i64 (p : Int), .slice (some ⟨g9, 0, none⟩) Nb Nb] 28 (0, 0)), some (g10, lwO (enc (zad))), some (V21.heap.size, .cells #[.int .i64 (r : Int), .int .i64 (p : Int), .slice (some ⟨g10, 0, none⟩) Nab Nab] 28 (0, 0))] from (HK19.out.room.came 21 rfl hb hg (o := lwO (enc (zad))) hL).more (.cells #[.int .i64 (r : Int), .int .i64 (p : Int), .slice (some ⟨g10, 0, none⟩) Nab Nab] 28 (0, 0)))
  clear hg hL hb x0 x1 x2 x3 x4 x5 hxa hxb HK19
  have x0 := HK21.out.cell 4 0 rfl rfl
  have x1 := HK21.out.cell 4 1 rfl rfl
  have x2 := HK21.out.cell 4 2 rfl rfl
  have x3 := HK21.out.cell 20 0 rfl rfl
  have x4 := HK21.out.cell 20 1 rfl rfl
  have x5 := HK21.out.cell 20 2 rfl rfl
  go_wp2_with fail
  change Calls _ _ _ (V21.alloc (.cells #[.int .i64 (r : Int), .int .i64 (p : Int), .slice (some ⟨g10, 0, none⟩) Nab Nab] 28 (0, 0))) _
  generalize V21.alloc (.cells #[.int .i64 (r : Int), .int .i64 (p : Int), .slice (some ⟨g10, 0, none⟩) Nab Nab] 28 (0, 0)) = W22 at *
  generalize V21.heap.size = b21 at *
  have hxa : Lw W22 g1 (enc za) := HK21.out.at_ 3 rfl
  have hxb : Lw W22 g9 (enc zbd) := HK21.out.at_ 19 rfl
  with_reducible refine (HM.out g1 g9 _ hxa hxb).mono ?_
  rintro e V23 ⟨g11, rfl, hg, hL, hb⟩
  have HK23 := Lib.hid (show Kg none w (V23.alloc (.cells #[.int .i64 (r : Int), .int .i64 (p : Int), .slice (some ⟨g11, 0, none⟩) Nab Nab] 28 (0, 0))) [some (w.heap.size, .cells #[.int .u8 (R1 : Int), .int .u8 (C1 : Int), .slice A1 n1 c1] 38 (0, 0)), some (w.heap.size + 1, .cells #[.int .u8 (R2 : Int), .int .u8 (C2 : Int), .slice A2 n2 c2] 38 (0, 0)), some (w.heap.size + 1 + 1, .cells #[.int .u8 (R3 : Int), .int .u8 (C3 : Int), .slice A3 n3 c3] 38 (0, 0)), some (g1, lwO (enc (za))), some (b3, .cells #[.int .i64 (r : Int), .int .i64 (k : Int), .slice (some ⟨g1, 0, none⟩) Na Na] 28 (0, 0)), some (g2, lwO (enc (zb))), some (b5, .cells #[.int .i64 (k : Int), .int .i64 (p : Int), .slice (some ⟨g2, 0, none⟩) Nb Nb] 28 (0, 0)), some (g3, lwO (enc (zc))), some (b7, .cells #[.int .i64 (p : Int), .int .i64 (q : Int), .slice (some ⟨g3, 0, none⟩) Nc Nc] 28 (0, 0)), some (g4, lwO (enc (zd))), some (b9, .cells #[.int .i64 (k : Int), .int .i64 (p : Int), .slice (some ⟨g4, 0, none⟩) Nb Nb] 28 (0, 0)), some (g5, lwO (enc (zab))), some (b11, .cells #[.int .i64 (r : Int), .int .i64 (p : Int), .slice (some ⟨g5, 0, none⟩) Nab Nab] 28 (0, 0)), some (g6, lwO (enc (zbc))), some (b13, .cells #[.int .i64 (k : Int), .int .i64 (q : Int), .slice (some ⟨g6, 0, none⟩) Nbc Nbc] 28 (0, 0)), some (g7, lwO (enc (zl))), some (b15, .cells #[.int .i64 (r : Int), .int .i64 (q : Int), .slice (some ⟨g7, 0, none⟩) Nl Nl] 28 (0, 0)), some (g8, lwO (enc (zl))), some (b17, .cells #[.int .i64 (r : Int), .int .i64 (q : Int), .slice (some ⟨g8, 0, none⟩) Nl Nl] 28 (0, 0)), some (g9, lwO (enc (zbd))), some (b19, .cells #[.int .i64 (k : Int), .int .i64 (p : Int), .slice (some ⟨g9, 0, none⟩) Nb Nb] 28 (0, 0)), some (g10, lwO (enc (zad))), some (b21, .cells #[.int .i64 (r : Int), .int .i64 (p : Int), .slice (some ⟨g10, 0, none⟩) Nab Nab] 28 (0, 0)), some (g11, lwO (enc (zm))), some (V23.heap.size, .cells #[.int .i64 (r : Int), .int .i64 (p : Int), .slice (some ⟨g11, 0, none⟩) Nab Nab] 28 (0, 0))] from (HK21.out.room.came 23 rfl hb hg (o := lwO (enc (zm))) hL).more (.cells #[.int .i64 (r : Int), .int .i64 (p : Int), .slice (some ⟨g11, 0, none⟩) Nab Nab] 28 (0, 0)))
  clear hg hL hb x0 x1 x2 x3 x4 x5 hxa hxb HK21
  have x0 := HK23.out.cell 12 0 rfl rfl
  have x1 := HK23.out.cell 12 1 rfl rfl
  have x2 := HK23.out.cell 12 2 rfl rfl
  have x3 := HK23.out.cell 22 0 rfl rfl
  have x4 := HK23.out.cell 22 1 rfl rfl
  have x5 := HK23.out.cell 22 2 rfl rfl
  go_wp2_with fail
  change Calls _ _ _ (V23.alloc (.cells #[.int .i64 (r : Int), .int .i64 (p : Int), .slice (some ⟨g11, 0, none⟩) Nab Nab] 28 (0, 0))) _
  generalize V23.alloc (.cells #[.int .i64 (r : Int), .int .i64 (p : Int), .slice (some ⟨g11, 0, none⟩) Nab Nab] 28 (0, 0)) = W24 at *
  generalize V23.heap.size = b23 at *
  have hxa : Lw W24 g5 (enc zab) := HK23.out.at_ 11 rfl
  have hxb : Lw W24 g10 (enc zad) := HK23.out.at_ 21 rfl
  with_reducible refine (HN.out g5 g10 _ hxa hxb).mono ?_
  rintro e V25 ⟨g12, rfl, hg, hL, hb⟩
  have HK25 := Lib.hid (show Kg none w (V25.alloc (.cells #[.int .i64 (r : Int), .int .i64 (p : Int), .slice (some ⟨g12, 0, none⟩) Nab Nab] 28 (0, 0))) [some (w.heap.size, .cells #[.int .u8 (R1 : Int), .int .u8 (C1 : Int), .slice A1 n1 c1] 38 (0, 0)), some (w.heap.size + 1, .cells #[.int .u8 (R2 : Int), .int .u8 (C2 : Int), .slice A2 n2 c2] 38 (0, 0)), some (w.heap.size + 1 + 1, .cells #[.int .u8 (R3 : Int), .int .u8 (C3 : Int), .slice A3 n3 c3] 38 (0, 0)), some (g1, lwO (enc (za))), some (b3, .cells #[.int .i64 (r : Int), .int .i64 (k : Int), .slice (some ⟨g1, 0, none⟩) Na Na] 28 (0, 0)), some (g2, lwO (enc (zb))), some (b5, .cells #[.int .i64 (k : Int), .int .i64 (p : Int), .slice (some ⟨g2, 0, none⟩) Nb Nb] 28 (0, 0)), some (g3, lwO (enc (zc))), some (b7, .cells #[.int .i64 (p : Int), .int .i64 (q : Int), .slice (some ⟨g3, 0, none⟩) Nc Nc] 28 (0, 0)), some (g4, lwO (enc (zd))), some (b9, .cells #[.int .i64 (k : Int), .int .i64 (p : Int), .slice (some ⟨g4, 0, none⟩) Nb Nb] 28 (0, 0)), some (g5, lwO (enc (zab))), some (b11, .cells #[.int .i64 (r : Int), .int .i64 (p : Int), .slice (some ⟨g5, 0, none⟩) Nab Nab] 28 (0, 0)), some (g6, lwO (enc (zbc))), some (b13, .cells #[.int .i64 (k : Int), .int .i64 (q : Int), .slice (some ⟨g6, 0, none⟩) Nbc Nbc] 28 (0, 0)), some (g7, lwO (enc (zl))), some (b15, .cells #[.int .i64 (r : Int), .int .i64 (q : Int), .slice (some ⟨g7, 0, none⟩) Nl Nl] 28 (0, 0)), some (g8, lwO (enc (zl))), some (b17, .cells #[.int .i64 (r : Int), .int .i64 (q : Int), .slice (some ⟨g8, 0, none⟩) Nl Nl] 28 (0, 0)), some (g9, lwO (enc (zbd))), some (b19, .cells #[.int .i64 (k : Int), .int .i64 (p : Int), .slice (some ⟨g9, 0, none⟩) Nb Nb] 28 (0, 0)), some (g10, lwO (enc (zad))), some (b21, .cells #[.int .i64 (r : Int), .int .i64 (p : Int), .slice (some ⟨g10, 0, none⟩) Nab Nab] 28 (0, 0)), some (g11, lwO (enc (zm))), some (b23, .cells #[.int .i64 (r : Int), .int .i64 (p : Int), .slice (some ⟨g11, 0, none⟩) Nab Nab] 28 (0, 0)), some (g12, lwO (enc (zm))), some (V25.heap.size, .cells #[.int .i64 (r : Int), .int .i64 (p : Int), .slice (some ⟨g12, 0, none⟩) Nab Nab] 28 (0, 0))] from (HK23.out.room.came 25 rfl hb hg (o := lwO (enc (zm))) hL).more (.cells #[.int .i64 (r : Int), .int .i64 (p : Int), .slice (some ⟨g12, 0, none⟩) Nab Nab] 28 (0, 0)))
  clear hg hL hb x0 x1 x2 x3 x4 x5 hxa hxb HK23
  have x0 := HK25.out.cell 20 0 rfl rfl
  have x1 := HK25.out.cell 20 1 rfl rfl
  have x2 := HK25.out.cell 20 2 rfl rfl
  have x3 := HK25.out.cell 10 0 rfl rfl
  have x4 := HK25.out.cell 10 1 rfl rfl
  have x5 := HK25.out.cell 10 2 rfl rfl
  go_wp2_with fail
  change Calls _ _ _ (V25.alloc (.cells #[.int .i64 (r : Int), .int .i64 (p : Int), .slice (some ⟨g12, 0, none⟩) Nab Nab] 28 (0, 0))) _
  generalize V25.alloc (.cells #[.int .i64 (r : Int), .int .i64 (p : Int), .slice (some ⟨g12, 0, none⟩) Nab Nab] 28 (0, 0)) = W26 at *
  generalize V25.heap.size = b25 at *
  have hxa : Lw W26 g9 (enc zbd) := HK25.out.at_ 19 rfl
  have hxb : Lw W26 g4 (enc zd) := HK25.out.at_ 9 rfl
  with_reducible refine (HBK.out g9 g4 _ hxa hxb).mono ?_
  rintro e V27 ⟨g13, rfl, hg, hL, hb⟩
  have HK27 := Lib.hid (show Kg none w (V27.alloc (.cells #[.int .i64 (k : Int), .int .i64 (p : Int), .slice (some ⟨g13, 0, none⟩) Nb Nb] 28 (0, 0))) [some (w.heap.size, .cells #[.int .u8 (R1 : Int), .int .u8 (C1 : Int), .slice A1 n1 c1] 38 (0, 0)), some (w.heap.size + 1, .cells #[.int .u8 (R2 : Int), .int .u8 (C2 : Int), .slice A2 n2 c2] 38 (0, 0)), some (w.heap.size + 1 + 1, .cells #[.int .u8 (R3 : Int), .int .u8 (C3 : Int), .slice A3 n3 c3] 38 (0, 0)), some (g1, lwO (enc (za))), some (b3, .cells #[.int .i64 (r : Int), .int .i64 (k : Int), .slice (some ⟨g1, 0, none⟩) Na Na] 28 (0, 0)), some (g2, lwO (enc (zb))), some (b5, .cells #[.int .i64 (k : Int), .int .i64 (p : Int), .slice (some ⟨g2, 0, none⟩) Nb Nb] 28 (0, 0)), some (g3, lwO (enc (zc))), some (b7, .cells #[.int .i64 (p : Int), .int .i64 (q : Int), .slice (some ⟨g3, 0, none⟩) Nc Nc] 28 (0, 0)), some (g4, lwO (enc (zd))), some (b9, .cells #[.int .i64 (k : Int), .int .i64 (p : Int), .slice (some ⟨g4, 0, none⟩) Nb Nb] 28 (0, 0)), some (g5, lwO (enc (zab))), some (b11, .cells #[.int .i64 (r : Int), .int .i64 (p : Int), .slice (some ⟨g5, 0, none⟩) Nab Nab] 28 (0, 0)), some (g6, lwO (enc (zbc))), some (b13, .cells #[.int .i64 (k : Int), .int .i64 (q : Int), .slice (some ⟨g6, 0, none⟩) Nbc Nbc] 28 (0, 0)), some (g7, lwO (enc (zl))), some (b15, .cells #[.int .i64 (r : Int), .int .i64 (q : Int), .slice (some ⟨g7, 0, none⟩) Nl Nl] 28 (0, 0)), some (g8, lwO (enc (zl))), some (b17, .cells #[.int .i64 (r : Int), .int .i64 (q : Int), .slice (some ⟨g8, 0, none⟩) Nl Nl] 28 (0, 0)), some (g9, lwO (enc (zbd))), some (b19, .cells #[.int .i64 (k : Int), .int .i64 (p : Int), .slice (some ⟨g9, 0, none⟩) Nb Nb] 28 (0, 0)), some (g10, lwO (enc (zad))), some (b21, .cells #[.int .i64 (r : Int), .int .i64 (p : Int), .slice (some ⟨g10, 0, none⟩) Nab Nab] 28 (0, 0)), some (g11, lwO (enc (zm))), some (b23, .cells #[.int .i64 (r : Int), .int .i64 (p : Int), .slice (some ⟨g11, 0, none⟩) Nab Nab] 28 (0, 0)), some (g12, lwO (enc (zm))), some (b25, .cells #[.int .i64 (r : Int), .int .i64 (p : Int), .slice (some ⟨g12, 0, none⟩) Nab Nab] 28 (0, 0)), some (g13, lwO (enc (zb))), some (V27.heap.size, .cells #[.int .i64 (k : Int), .int .i64 (p : Int), .slice (some ⟨g13, 0, none⟩) Nb Nb] 28 (0, 0))] from (HK25.out.room.came 27 rfl hb hg (o := lwO (enc (zb))) hL).more (.cells #[.int .i64 (k : Int), .int .i64 (p : Int), .slice (some ⟨g13, 0, none⟩) Nb Nb] 28 (0, 0)))
  clear hg hL hb x0 x1 x2 x3 x4 x5 hxa hxb HK25
  go_wp2_with fail
  change Code.wp _ _ _ _ (V27.alloc (.cells #[.int .i64 (k : Int), .int .i64 (p : Int), .slice (some ⟨g13, 0, none⟩) Nb Nb] 28 (0, 0)))
  generalize V27.alloc (.cells #[.int .i64 (k : Int), .int .i64 (p : Int), .slice (some ⟨g13, 0, none⟩) Nb Nb] 28 (0, 0)) = W29 at *
  generalize V27.heap.size = b27 at *
  refine wp_region_acts (X := Nat × Nat × Nat) (fun x => [(0, 114, .pointer (some ⟨b3, 0, none⟩)), (1, 115, .int .i64 (r : Int)), (2, 116, .agg #[.int .i64 (r : Int), .int .i64 (r : Int), .slice (some ⟨x.1, 0, none⟩) No No]), (3, 117, .agg #[.int .i64 (r : Int), .int .i64 (k : Int), .slice (some ⟨g1, 0, none⟩) Na Na]), (4, 118, .tuple #[.agg #[.int .i64 (r : Int), .int .i64 (k : Int), .slice (some ⟨x.2.1, 0, none⟩) Na Na], .bool true]), (5, 113, .tuple #[.agg #[.int .i64 (r : Int), .int .i64 (k : Int), .slice (some ⟨x.2.1, 0, none⟩) Na Na], .bool true]), (6, 119, .agg #[.int .i64 (r : Int), .int .i64 (k : Int), .slice (some ⟨x.2.1, 0, none⟩) Na Na]), (7, 120, .bool true), (8, 30, .pointer (some ⟨x.2.2, 0, none⟩)), (10, 31, .bool true)])
    (fun x L W => Kg none w W [some (w.heap.size, .cells #[.int .u8 (R1 : Int), .int .u8 (C1 : Int), .slice A1 n1 c1] 38 (0, 0)), some (w.heap.size + 1, .cells #[.int .u8 (R2 : Int), .int .u8 (C2 : Int), .slice A2 n2 c2] 38 (0, 0)), some (w.heap.size + 1 + 1, .cells #[.int .u8 (R3 : Int), .int .u8 (C3 : Int), .slice A3 n3 c3] 38 (0, 0)), some (g1, lwO (enc (za))), some (b3, .cells #[.int .i64 (r : Int), .int .i64 (k : Int), .slice (some ⟨g1, 0, none⟩) Na Na] 28 (0, 0)), some (g2, lwO (enc (zb))), some (b5, .cells #[.int .i64 (k : Int), .int .i64 (p : Int), .slice (some ⟨g2, 0, none⟩) Nb Nb] 28 (0, 0)), some (g3, lwO (enc (zc))), some (b7, .cells #[.int .i64 (p : Int), .int .i64 (q : Int), .slice (some ⟨g3, 0, none⟩) Nc Nc] 28 (0, 0)), some (g4, lwO (enc (zd))), some (b9, .cells #[.int .i64 (k : Int), .int .i64 (p : Int), .slice (some ⟨g4, 0, none⟩) Nb Nb] 28 (0, 0)), some (g5, lwO (enc (zab))), some (b11, .cells #[.int .i64 (r : Int), .int .i64 (p : Int), .slice (some ⟨g5, 0, none⟩) Nab Nab] 28 (0, 0)), some (g6, lwO (enc (zbc))), some (b13, .cells #[.int .i64 (k : Int), .int .i64 (q : Int), .slice (some ⟨g6, 0, none⟩) Nbc Nbc] 28 (0, 0)), some (g7, lwO (enc (zl))), some (b15, .cells #[.int .i64 (r : Int), .int .i64 (q : Int), .slice (some ⟨g7, 0, none⟩) Nl Nl] 28 (0, 0)), some (g8, lwO (enc (zl))), some (b17, .cells #[.int .i64 (r : Int), .int .i64 (q : Int), .slice (some ⟨g8, 0, none⟩) Nl Nl] 28 (0, 0)), some (g9, lwO (enc (zbd))), some (b19, .cells #[.int .i64 (k : Int), .int .i64 (p : Int), .slice (some ⟨g9, 0, none⟩) Nb Nb] 28 (0, 0)), some (g10, lwO (enc (zad))), some (b21, .cells #[.int .i64 (r : Int), .int .i64 (p : Int), .slice (some ⟨g10, 0, none⟩) Nab Nab] 28 (0, 0)), some (g11, lwO (enc (zm))), some (b23, .cells #[.int .i64 (r : Int), .int .i64 (p : Int), .slice (some ⟨g11, 0, none⟩) Nab Nab] 28 (0, 0)), some (g12, lwO (enc (zm))), some (b25, .cells #[.int .i64 (r : Int), .int .i64 (p : Int), .slice (some ⟨g12, 0, none⟩) Nab Nab] 28 (0, 0)), some (g13, lwO (enc (zb))), some (b27, .cells #[.int .i64 (k : Int), .int .i64 (p : Int), .slice (some ⟨g13, 0, none⟩) Nb Nb] 28 (0, 0)), entO (L 2) x.1 (lwO (enc (zo))), entO (L 4) x.2.1 (lwO (enc (za))), entM (L 8) (L 9) x.2.2 (.cells #[.int .i64 (r : Int), .int .i64 (k : Int), .slice (some ⟨x.2.1, 0, none⟩) Na Na] 28 (0, 0))] ∧ (L 6 = true → L 5 = true)) (by kernel_rfl) (by kernel_rfl) (0, 0, 0) ?st (by kernel_rfl) ?_ ?_
  case st => exact ⟨by simpa [entO_no, entM_no] using HK27.out.drew.room.room.room, fun h3 => by simp at h3⟩
  · simp only [selA, selT_cons, selT_nil, List.set_cons_zero, List.set_cons_succ, List.getD_cons_zero, List.getD_cons_succ]
    repeat' (first | exact ActSteps.nil | refine ActSteps.cons ?_ ?_)
    all_goals
      intro L x wx hJ hl hd hs K hK
      (try simp [Region.binds] at hd)
      have p0 := hJ.1.cell 4 0 rfl rfl
      have p1 := hJ.1.cell 4 1 rfl rfl
      have p2 := hJ.1.cell 4 2 rfl rfl
      try simp only [hd, hl, selV_true, selV_false]
    · go_simp
      refine hK.out x _ _ ?_ ?_
      · simp [hl, hd, selV_true, selV_false]
      · exact ⟨by simpa [hl] using hJ.1, by simpa [hl, hd] using hJ.2⟩
    · go_simp
      refine hK.out x _ _ ?_ ?_
      · simp [hl, hd, selV_true, selV_false]
      · exact ⟨by simpa [hl] using hJ.1, by simpa [hl, hd] using hJ.2⟩
    · have hB := hJ.1
      simp only [hl, hd, entO_no, entO_yes] at hB
      go_simp
      with_reducible refine (HO.out _).mono ?_
      rintro e v ⟨h, rfl, hh, hLh, hb⟩
      refine hK.out (h, x.2.1, x.2.2) _ _ ?_ ?_
      · simp [hl, hd, selV_true, selV_false]
      · exact ⟨((hJ.1).came 29 (by simp [hl, entO_no]) hb hh (o := lwO (enc (zo))) hLh).cast (by simp [hd, entO_yes]), by simpa [hl, hd] using hJ.2⟩
    · go_simp
      refine hK.out x _ _ ?_ ?_
      · simp [hl, hd, selV_true, selV_false]
      · exact ⟨by simpa [hl] using hJ.1, by simpa [hl, hd] using hJ.2⟩
    · have hn5 := hs 5 _ rfl (by simp [Region.binds])
      have hn9 := hs 9 _ rfl (by simp [Region.binds])
      have hn6 := lt_of_false hJ.2 hn5
      have hB := hJ.1
      simp only [hl, hd, entO_no, entO_yes] at hB
      have hxo : Lw wx x.1 (enc zo) := hB.at_ 29 rfl
      have hxa : Lw wx g1 (enc za) := hB.at_ 3 rfl
      go_simp
      with_reducible refine (HI.out x.1 g1 _ hxo hxa).mono ?_
      rintro e v ⟨h, rfl, hh, hLh, hb⟩
      refine hK.out (x.1, h, x.2.2) _ _ ?_ ?_
      · simp [hl, hd, hn5, hn9, hn6, selV_true, selV_false]
      · exact ⟨((hJ.1).came 30 (by simp [hl, entO_no]) hb hh (o := lwO (enc (za))) hLh).cast (by simp [hd, entO_yes, hn5, hn9, hn6, entM_false]), by simpa [hl, hd, hn5, hn9, hn6] using hJ.2⟩
    · go_simp
      refine hK.out x _ _ ?_ ?_
      · simp [hl, hd, selV_true, selV_false]
      · exact ⟨by simpa [hl] using hJ.1, by simpa [hl, hd] using hJ.2⟩
    · go_simp
      refine hK.out x _ _ ?_ ?_
      · simp [hl, hd, selV_true, selV_false]
      · exact ⟨by simpa [hl] using hJ.1, by simpa [hl, hd] using hJ.2⟩
    · go_simp
      refine hK.out x _ _ ?_ ?_
      · simp [hl, hd, selV_true, selV_false]
      · exact ⟨by simpa [hl] using hJ.1, by simpa [hl, hd] using hJ.2⟩
    · have hn9 := hs 9 _ rfl (by simp [Region.binds])
      go_simp
      refine hK.out (x.1, x.2.1, wx.heap.size) _ _ ?_ ?_
      · simp [hl, hd, hn9, selV_true, selV_false]
      · exact ⟨Kg.cast ((hJ.1).new 31 (mrow 0 0 none 0 0) (by simp [hl, entM_no])) (by simp [hn9, entM_new]), by simpa [hl, hd, hn9] using hJ.2⟩
    · have hJ2 := hJ.1
      simp only [hl, hd, entM_new] at hJ2
      have f0 := hJ2.frozen 31 0 rfl
      have f1 := hJ2.frozen 31 1 rfl
      have f2 := hJ2.frozen 31 2 rfl
      have y0 := hJ2.cell 31 0 rfl rfl
      have y1 := hJ2.cell 31 1 rfl rfl
      have y2 := hJ2.cell 31 2 rfl rfl
      go_simp
      have hKp := ((hJ2.put 31 0 rfl (.int .i64 (r : Int))).put 31 1 rfl (.int .i64 (k : Int))).put 31 2 rfl (.slice (some ⟨x.2.1, 0, none⟩) Na Na)
      refine hK.out x _ _ ?_ ?_
      · simp [hl, hd, selV_true, selV_false]
      · exact ⟨Kg.cast hKp (by simp [hd, entM_full]), by simpa [hl, hd] using hJ.2⟩
    · go_simp
      refine hK.out x _ _ ?_ ?_
      · simp [hl, hd, selV_true, selV_false]
      · exact ⟨by simpa [hl] using hJ.1, by simpa [hl, hd] using hJ.2⟩
  · rintro ⟨yi0, yi1, yi2⟩ W28 hKx
    simp only [selA, selT_cons, selT_nil, List.set_cons_zero, List.set_cons_succ, List.getD_cons_zero, List.getD_cons_succ, selV_true]
    simp only [entM_full, entO_yes] at hKx
    obtain ⟨hKx, _⟩ := hKx
    have HK28 := Lib.hid (show Kg none w W28 [some (w.heap.size, .cells #[.int .u8 (R1 : Int), .int .u8 (C1 : Int), .slice A1 n1 c1] 38 (0, 0)), some (w.heap.size + 1, .cells #[.int .u8 (R2 : Int), .int .u8 (C2 : Int), .slice A2 n2 c2] 38 (0, 0)), some (w.heap.size + 1 + 1, .cells #[.int .u8 (R3 : Int), .int .u8 (C3 : Int), .slice A3 n3 c3] 38 (0, 0)), some (g1, lwO (enc (za))), some (b3, .cells #[.int .i64 (r : Int), .int .i64 (k : Int), .slice (some ⟨g1, 0, none⟩) Na Na] 28 (0, 0)), some (g2, lwO (enc (zb))), some (b5, .cells #[.int .i64 (k : Int), .int .i64 (p : Int), .slice (some ⟨g2, 0, none⟩) Nb Nb] 28 (0, 0)), some (g3, lwO (enc (zc))), some (b7, .cells #[.int .i64 (p : Int), .int .i64 (q : Int), .slice (some ⟨g3, 0, none⟩) Nc Nc] 28 (0, 0)), some (g4, lwO (enc (zd))), some (b9, .cells #[.int .i64 (k : Int), .int .i64 (p : Int), .slice (some ⟨g4, 0, none⟩) Nb Nb] 28 (0, 0)), some (g5, lwO (enc (zab))), some (b11, .cells #[.int .i64 (r : Int), .int .i64 (p : Int), .slice (some ⟨g5, 0, none⟩) Nab Nab] 28 (0, 0)), some (g6, lwO (enc (zbc))), some (b13, .cells #[.int .i64 (k : Int), .int .i64 (q : Int), .slice (some ⟨g6, 0, none⟩) Nbc Nbc] 28 (0, 0)), some (g7, lwO (enc (zl))), some (b15, .cells #[.int .i64 (r : Int), .int .i64 (q : Int), .slice (some ⟨g7, 0, none⟩) Nl Nl] 28 (0, 0)), some (g8, lwO (enc (zl))), some (b17, .cells #[.int .i64 (r : Int), .int .i64 (q : Int), .slice (some ⟨g8, 0, none⟩) Nl Nl] 28 (0, 0)), some (g9, lwO (enc (zbd))), some (b19, .cells #[.int .i64 (k : Int), .int .i64 (p : Int), .slice (some ⟨g9, 0, none⟩) Nb Nb] 28 (0, 0)), some (g10, lwO (enc (zad))), some (b21, .cells #[.int .i64 (r : Int), .int .i64 (p : Int), .slice (some ⟨g10, 0, none⟩) Nab Nab] 28 (0, 0)), some (g11, lwO (enc (zm))), some (b23, .cells #[.int .i64 (r : Int), .int .i64 (p : Int), .slice (some ⟨g11, 0, none⟩) Nab Nab] 28 (0, 0)), some (g12, lwO (enc (zm))), some (b25, .cells #[.int .i64 (r : Int), .int .i64 (p : Int), .slice (some ⟨g12, 0, none⟩) Nab Nab] 28 (0, 0)), some (g13, lwO (enc (zb))), some (b27, .cells #[.int .i64 (k : Int), .int .i64 (p : Int), .slice (some ⟨g13, 0, none⟩) Nb Nb] 28 (0, 0)), some (yi1, lwO (enc (za))), some (yi2, .cells #[.int .i64 (r : Int), .int .i64 (k : Int), .slice (some ⟨yi1, 0, none⟩) Na Na] 28 (0, 0))] from hKx.sel [0, 1, 2, 3, 4, 5, 6, 7, 8, 9, 10, 11, 12, 13, 14, 15, 16, 17, 18, 19, 20, 21, 22, 23, 24, 25, 26, 27, 28, 30, 31] (by decide))
    clear hKx HK27
    go_wp2_with fail
    refine wp_region_acts (X := Nat × Nat × Nat) (fun x => [(0, 122, .agg #[.int .i64 (r : Int), .int .i64 (k : Int), .slice (some ⟨g1, 0, none⟩) Na Na]), (1, 123, .pointer (some ⟨b3, 1, none⟩)), (2, 124, .int .i64 (k : Int)), (3, 125, .agg #[.int .i64 (k : Int), .int .i64 (k : Int), .slice (some ⟨x.1, 0, none⟩) Nu Nu]), (4, 126, .tuple #[.agg #[.int .i64 (r : Int), .int .i64 (k : Int), .slice (some ⟨x.2.1, 0, none⟩) Na Na], .bool true]), (5, 121, .tuple #[.agg #[.int .i64 (r : Int), .int .i64 (k : Int), .slice (some ⟨x.2.1, 0, none⟩) Na Na], .bool true]), (6, 127, .agg #[.int .i64 (r : Int), .int .i64 (k : Int), .slice (some ⟨x.2.1, 0, none⟩) Na Na]), (7, 128, .bool true), (8, 32, .pointer (some ⟨x.2.2, 0, none⟩)), (10, 33, .bool true)])
      (fun x L W => Kg none w W [some (w.heap.size, .cells #[.int .u8 (R1 : Int), .int .u8 (C1 : Int), .slice A1 n1 c1] 38 (0, 0)), some (w.heap.size + 1, .cells #[.int .u8 (R2 : Int), .int .u8 (C2 : Int), .slice A2 n2 c2] 38 (0, 0)), some (w.heap.size + 1 + 1, .cells #[.int .u8 (R3 : Int), .int .u8 (C3 : Int), .slice A3 n3 c3] 38 (0, 0)), some (g1, lwO (enc (za))), some (b3, .cells #[.int .i64 (r : Int), .int .i64 (k : Int), .slice (some ⟨g1, 0, none⟩) Na Na] 28 (0, 0)), some (g2, lwO (enc (zb))), some (b5, .cells #[.int .i64 (k : Int), .int .i64 (p : Int), .slice (some ⟨g2, 0, none⟩) Nb Nb] 28 (0, 0)), some (g3, lwO (enc (zc))), some (b7, .cells #[.int .i64 (p : Int), .int .i64 (q : Int), .slice (some ⟨g3, 0, none⟩) Nc Nc] 28 (0, 0)), some (g4, lwO (enc (zd))), some (b9, .cells #[.int .i64 (k : Int), .int .i64 (p : Int), .slice (some ⟨g4, 0, none⟩) Nb Nb] 28 (0, 0)), some (g5, lwO (enc (zab))), some (b11, .cells #[.int .i64 (r : Int), .int .i64 (p : Int), .slice (some ⟨g5, 0, none⟩) Nab Nab] 28 (0, 0)), some (g6, lwO (enc (zbc))), some (b13, .cells #[.int .i64 (k : Int), .int .i64 (q : Int), .slice (some ⟨g6, 0, none⟩) Nbc Nbc] 28 (0, 0)), some (g7, lwO (enc (zl))), some (b15, .cells #[.int .i64 (r : Int), .int .i64 (q : Int), .slice (some ⟨g7, 0, none⟩) Nl Nl] 28 (0, 0)), some (g8, lwO (enc (zl))), some (b17, .cells #[.int .i64 (r : Int), .int .i64 (q : Int), .slice (some ⟨g8, 0, none⟩) Nl Nl] 28 (0, 0)), some (g9, lwO (enc (zbd))), some (b19, .cells #[.int .i64 (k : Int), .int .i64 (p : Int), .slice (some ⟨g9, 0, none⟩) Nb Nb] 28 (0, 0)), some (g10, lwO (enc (zad))), some (b21, .cells #[.int .i64 (r : Int), .int .i64 (p : Int), .slice (some ⟨g10, 0, none⟩) Nab Nab] 28 (0, 0)), some (g11, lwO (enc (zm))), some (b23, .cells #[.int .i64 (r : Int), .int .i64 (p : Int), .slice (some ⟨g11, 0, none⟩) Nab Nab] 28 (0, 0)), some (g12, lwO (enc (zm))), some (b25, .cells #[.int .i64 (r : Int), .int .i64 (p : Int), .slice (some ⟨g12, 0, none⟩) Nab Nab] 28 (0, 0)), some (g13, lwO (enc (zb))), some (b27, .cells #[.int .i64 (k : Int), .int .i64 (p : Int), .slice (some ⟨g13, 0, none⟩) Nb Nb] 28 (0, 0)), some (yi1, lwO (enc (za))), some (yi2, .cells #[.int .i64 (r : Int), .int .i64 (k : Int), .slice (some ⟨yi1, 0, none⟩) Na Na] 28 (0, 0)), entO (L 3) x.1 (lwO (enc (zu))), entO (L 4) x.2.1 (lwO (enc (za))), entM (L 8) (L 9) x.2.2 (.cells #[.int .i64 (r : Int), .int .i64 (k : Int), .slice (some ⟨x.2.1, 0, none⟩) Na Na] 28 (0, 0))] ∧ (L 6 = true → L 5 = true)) (by kernel_rfl) (by kernel_rfl) (0, 0, 0) ?st (by kernel_rfl) ?_ ?_
    case st => exact ⟨by simpa [entO_no, entM_no] using HK28.out.drew.room.room.room, fun h3 => by simp at h3⟩
    · simp only [selA, selT_cons, selT_nil, List.set_cons_zero, List.set_cons_succ, List.getD_cons_zero, List.getD_cons_succ]
      repeat' (first | exact ActSteps.nil | refine ActSteps.cons ?_ ?_)
      all_goals
        intro L x wx hJ hl hd hs K hK
        (try simp [Region.binds] at hd)
        have p0 := hJ.1.cell 4 0 rfl rfl
        have p1 := hJ.1.cell 4 1 rfl rfl
        have p2 := hJ.1.cell 4 2 rfl rfl
        try simp only [hd, hl, selV_true, selV_false]
      · go_simp
        refine hK.out x _ _ ?_ ?_
        · simp [hl, hd, selV_true, selV_false]
        · exact ⟨by simpa [hl] using hJ.1, by simpa [hl, hd] using hJ.2⟩
      · go_simp
        refine hK.out x _ _ ?_ ?_
        · simp [hl, hd, selV_true, selV_false]
        · exact ⟨by simpa [hl] using hJ.1, by simpa [hl, hd] using hJ.2⟩
      · go_simp
        refine hK.out x _ _ ?_ ?_
        · simp [hl, hd, selV_true, selV_false]
        · exact ⟨by simpa [hl] using hJ.1, by simpa [hl, hd] using hJ.2⟩
      · have hB := hJ.1
        simp only [hl, hd, entO_no, entO_yes] at hB
        go_simp
        with_reducible refine (HU.out _).mono ?_
        rintro e v ⟨h, rfl, hh, hLh, hb⟩
        refine hK.out (h, x.2.1, x.2.2) _ _ ?_ ?_
        · simp [hl, hd, selV_true, selV_false]
        · exact ⟨((hJ.1).came 31 (by simp [hl, entO_no]) hb hh (o := lwO (enc (zu))) hLh).cast (by simp [hd, entO_yes]), by simpa [hl, hd] using hJ.2⟩
      · have hn5 := hs 5 _ rfl (by simp [Region.binds])
        have hn9 := hs 9 _ rfl (by simp [Region.binds])
        have hn6 := lt_of_false hJ.2 hn5
        have hB := hJ.1
        simp only [hl, hd, entO_no, entO_yes] at hB
        have hxo : Lw wx x.1 (enc zu) := hB.at_ 31 rfl
        have hxa : Lw wx g1 (enc za) := hB.at_ 3 rfl
        go_simp
        with_reducible refine (HJ.out g1 x.1 _ hxa hxo).mono ?_
        rintro e v ⟨h, rfl, hh, hLh, hb⟩
        refine hK.out (x.1, h, x.2.2) _ _ ?_ ?_
        · simp [hl, hd, hn5, hn9, hn6, selV_true, selV_false]
        · exact ⟨((hJ.1).came 32 (by simp [hl, entO_no]) hb hh (o := lwO (enc (za))) hLh).cast (by simp [hd, entO_yes, hn5, hn9, hn6, entM_false]), by simpa [hl, hd, hn5, hn9, hn6] using hJ.2⟩
      · go_simp
        refine hK.out x _ _ ?_ ?_
        · simp [hl, hd, selV_true, selV_false]
        · exact ⟨by simpa [hl] using hJ.1, by simpa [hl, hd] using hJ.2⟩
      · go_simp
        refine hK.out x _ _ ?_ ?_
        · simp [hl, hd, selV_true, selV_false]
        · exact ⟨by simpa [hl] using hJ.1, by simpa [hl, hd] using hJ.2⟩
      · go_simp
        refine hK.out x _ _ ?_ ?_
        · simp [hl, hd, selV_true, selV_false]
        · exact ⟨by simpa [hl] using hJ.1, by simpa [hl, hd] using hJ.2⟩
      · have hn9 := hs 9 _ rfl (by simp [Region.binds])
        go_simp
        refine hK.out (x.1, x.2.1, wx.heap.size) _ _ ?_ ?_
        · simp [hl, hd, hn9, selV_true, selV_false]
        · exact ⟨Kg.cast ((hJ.1).new 33 (mrow 0 0 none 0 0) (by simp [hl, entM_no])) (by simp [hn9, entM_new]), by simpa [hl, hd, hn9] using hJ.2⟩
      · have hJ2 := hJ.1
        simp only [hl, hd, entM_new] at hJ2
        have f0 := hJ2.frozen 33 0 rfl
        have f1 := hJ2.frozen 33 1 rfl
        have f2 := hJ2.frozen 33 2 rfl
        have y0 := hJ2.cell 33 0 rfl rfl
        have y1 := hJ2.cell 33 1 rfl rfl
        have y2 := hJ2.cell 33 2 rfl rfl
        go_simp
        have hKp := ((hJ2.put 33 0 rfl (.int .i64 (r : Int))).put 33 1 rfl (.int .i64 (k : Int))).put 33 2 rfl (.slice (some ⟨x.2.1, 0, none⟩) Na Na)
        refine hK.out x _ _ ?_ ?_
        · simp [hl, hd, selV_true, selV_false]
        · exact ⟨Kg.cast hKp (by simp [hd, entM_full]), by simpa [hl, hd] using hJ.2⟩
      · go_simp
        refine hK.out x _ _ ?_ ?_
        · simp [hl, hd, selV_true, selV_false]
        · exact ⟨by simpa [hl] using hJ.1, by simpa [hl, hd] using hJ.2⟩
    · rintro ⟨yj0, yj1, yj2⟩ W30 hKx
      simp only [selA, selT_cons, selT_nil, List.set_cons_zero, List.set_cons_succ, List.getD_cons_zero, List.getD_cons_succ, selV_true]
      simp only [entM_full, entO_yes] at hKx
      obtain ⟨hKx, _⟩ := hKx
      have HK30 := Lib.hid (show Kg none w W30 [some (w.heap.size, .cells #[.int .u8 (R1 : Int), .int .u8 (C1 : Int), .slice A1 n1 c1] 38 (0, 0)), some (w.heap.size + 1, .cells #[.int .u8 (R2 : Int), .int .u8 (C2 : Int), .slice A2 n2 c2] 38 (0, 0)), some (w.heap.size + 1 + 1, .cells #[.int .u8 (R3 : Int), .int .u8 (C3 : Int), .slice A3 n3 c3] 38 (0, 0)), some (g1, lwO (enc (za))), some (b3, .cells #[.int .i64 (r : Int), .int .i64 (k : Int), .slice (some ⟨g1, 0, none⟩) Na Na] 28 (0, 0)), some (g2, lwO (enc (zb))), some (b5, .cells #[.int .i64 (k : Int), .int .i64 (p : Int), .slice (some ⟨g2, 0, none⟩) Nb Nb] 28 (0, 0)), some (g3, lwO (enc (zc))), some (b7, .cells #[.int .i64 (p : Int), .int .i64 (q : Int), .slice (some ⟨g3, 0, none⟩) Nc Nc] 28 (0, 0)), some (g4, lwO (enc (zd))), some (b9, .cells #[.int .i64 (k : Int), .int .i64 (p : Int), .slice (some ⟨g4, 0, none⟩) Nb Nb] 28 (0, 0)), some (g5, lwO (enc (zab))), some (b11, .cells #[.int .i64 (r : Int), .int .i64 (p : Int), .slice (some ⟨g5, 0, none⟩) Nab Nab] 28 (0, 0)), some (g6, lwO (enc (zbc))), some (b13, .cells #[.int .i64 (k : Int), .int .i64 (q : Int), .slice (some ⟨g6, 0, none⟩) Nbc Nbc] 28 (0, 0)), some (g7, lwO (enc (zl))), some (b15, .cells #[.int .i64 (r : Int), .int .i64 (q : Int), .slice (some ⟨g7, 0, none⟩) Nl Nl] 28 (0, 0)), some (g8, lwO (enc (zl))), some (b17, .cells #[.int .i64 (r : Int), .int .i64 (q : Int), .slice (some ⟨g8, 0, none⟩) Nl Nl] 28 (0, 0)), some (g9, lwO (enc (zbd))), some (b19, .cells #[.int .i64 (k : Int), .int .i64 (p : Int), .slice (some ⟨g9, 0, none⟩) Nb Nb] 28 (0, 0)), some (g10, lwO (enc (zad))), some (b21, .cells #[.int .i64 (r : Int), .int .i64 (p : Int), .slice (some ⟨g10, 0, none⟩) Nab Nab] 28 (0, 0)), some (g11, lwO (enc (zm))), some (b23, .cells #[.int .i64 (r : Int), .int .i64 (p : Int), .slice (some ⟨g11, 0, none⟩) Nab Nab] 28 (0, 0)), some (g12, lwO (enc (zm))), some (b25, .cells #[.int .i64 (r : Int), .int .i64 (p : Int), .slice (some ⟨g12, 0, none⟩) Nab Nab] 28 (0, 0)), some (g13, lwO (enc (zb))), some (b27, .cells #[.int .i64 (k : Int), .int .i64 (p : Int), .slice (some ⟨g13, 0, none⟩) Nb Nb] 28 (0, 0)), some (yi1, lwO (enc (za))), some (yi2, .cells #[.int .i64 (r : Int), .int .i64 (k : Int), .slice (some ⟨yi1, 0, none⟩) Na Na] 28 (0, 0)), some (yj1, lwO (enc (za))), some (yj2, .cells #[.int .i64 (r : Int), .int .i64 (k : Int), .slice (some ⟨yj1, 0, none⟩) Na Na] 28 (0, 0))] from hKx.sel [0, 1, 2, 3, 4, 5, 6, 7, 8, 9, 10, 11, 12, 13, 14, 15, 16, 17, 18, 19, 20, 21, 22, 23, 24, 25, 26, 27, 28, 29, 30, 32, 33] (by decide))
      clear hKx HK28
      have x0 := HK30.out.cell 16 0 rfl rfl
      have x1 := HK30.out.cell 16 1 rfl rfl
      have x2 := HK30.out.cell 16 2 rfl rfl
      go_wp2_with fail
      have hxa : Lw W30 g7 (enc zl) := HK30.out.at_ 15 rfl
      with_reducible refine (HRL.out g7 _ hxa).mono ?_
      rintro e V31 ⟨rfl, hb⟩
      have HK31 := Lib.hid (HK30.out.step hb)
      clear hb x0 x1 x2 hxa HK30
      have x0 := HK31.out.cell 16 0 rfl rfl
      have x1 := HK31.out.cell 16 1 rfl rfl
      have x2 := HK31.out.cell 16 2 rfl rfl
      have x3 := HK31.out.cell 18 0 rfl rfl
      have x4 := HK31.out.cell 18 1 rfl rfl
      have x5 := HK31.out.cell 18 2 rfl rfl
      go_wp2_with fail
      have hxa : Lw V31 g7 (enc zl) := HK31.out.at_ 15 rfl
      have hxb : Lw V31 g8 (enc zl) := HK31.out.at_ 17 rfl
      with_reducible refine (HEL.out g7 g8 _ hxa hxb).mono ?_
      rintro e V32 ⟨rfl, hb⟩
      have HK32 := Lib.hid (HK31.out.step hb)
      clear hb x0 x1 x2 x3 x4 x5 hxa hxb HK31
      have x0 := HK32.out.cell 24 0 rfl rfl
      have x1 := HK32.out.cell 24 1 rfl rfl
      have x2 := HK32.out.cell 24 2 rfl rfl
      have x3 := HK32.out.cell 26 0 rfl rfl
      have x4 := HK32.out.cell 26 1 rfl rfl
      have x5 := HK32.out.cell 26 2 rfl rfl
      go_wp2_with fail
      have hxa : Lw V32 g11 (enc zm) := HK32.out.at_ 23 rfl
      have hxb : Lw V32 g12 (enc zm) := HK32.out.at_ 25 rfl
      with_reducible refine (HEM.out g11 g12 _ hxa hxb).mono ?_
      rintro e V33 ⟨rfl, hb⟩
      have HK33 := Lib.hid (HK32.out.step hb)
      clear hb x0 x1 x2 x3 x4 x5 hxa hxb HK32
      have x0 := HK33.out.cell 28 0 rfl rfl
      have x1 := HK33.out.cell 28 1 rfl rfl
      have x2 := HK33.out.cell 28 2 rfl rfl
      have x3 := HK33.out.cell 6 0 rfl rfl
      have x4 := HK33.out.cell 6 1 rfl rfl
      have x5 := HK33.out.cell 6 2 rfl rfl
      go_wp2_with fail
      have hxa : Lw V33 g13 (enc zb) := HK33.out.at_ 27 rfl
      have hxb : Lw V33 g2 (enc zb) := HK33.out.at_ 5 rfl
      with_reducible refine (HEB.out g13 g2 _ hxa hxb).mono ?_
      rintro e V34 ⟨rfl, hb⟩
      have HK34 := Lib.hid (HK33.out.step hb)
      clear hb x0 x1 x2 x3 x4 x5 hxa hxb HK33
      have x0 := HK34.out.cell 30 0 rfl rfl
      have x1 := HK34.out.cell 30 1 rfl rfl
      have x2 := HK34.out.cell 30 2 rfl rfl
      have x3 := HK34.out.cell 4 0 rfl rfl
      have x4 := HK34.out.cell 4 1 rfl rfl
      have x5 := HK34.out.cell 4 2 rfl rfl
      go_wp2_with fail
      have hxa : Lw V34 yi1 (enc za) := HK34.out.at_ 29 rfl
      have hxb : Lw V34 g1 (enc za) := HK34.out.at_ 3 rfl
      with_reducible refine (HEA.out yi1 g1 _ hxa hxb).mono ?_
      rintro e V35 ⟨rfl, hb⟩
      have HK35 := Lib.hid (HK34.out.step hb)
      clear hb x0 x1 x2 x3 x4 x5 hxa hxb HK34
      have x0 := HK35.out.cell 32 0 rfl rfl
      have x1 := HK35.out.cell 32 1 rfl rfl
      have x2 := HK35.out.cell 32 2 rfl rfl
      have x3 := HK35.out.cell 4 0 rfl rfl
      have x4 := HK35.out.cell 4 1 rfl rfl
      have x5 := HK35.out.cell 4 2 rfl rfl
      go_wp2_with fail
      have hxa : Lw V35 yj1 (enc za) := HK35.out.at_ 31 rfl
      have hxb : Lw V35 g1 (enc za) := HK35.out.at_ 3 rfl
      with_reducible refine (HEA.out yj1 g1 _ hxa hxb).mono ?_
      rintro e V36 ⟨rfl, hb⟩
      have HK36 := Lib.hid (HK35.out.step hb)
      clear hb x0 x1 x2 x3 x4 x5 hxa hxb HK35
      go_wp2
      go_ret
      exact ⟨rfl, Kg.below_ HK36.out⟩

end Go.Proofs.YtknaghdoffigjaaGreatDoor
