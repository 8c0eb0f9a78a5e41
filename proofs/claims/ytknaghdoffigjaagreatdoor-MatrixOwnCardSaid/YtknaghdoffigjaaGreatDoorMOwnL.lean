/-
  The law MatrixOwn, its call: it returns true.
-/
import Derived.Test.YtknaghdoffigjaaGreatDoorZMRefOf
import Derived.Test.YtknaghdoffigjaaGreatDoorMAddm
import Derived.Test.YtknaghdoffigjaaGreatDoorZMTurn
import Derived.Test.YtknaghdoffigjaaGreatDoorZMInvV
set_option linter.unusedSimpArgs false
set_option linter.unusedVariables false
set_option linter.unnecessarySimpa false
namespace Go.Proofs.YtknaghdoffigjaaGreatDoor
open Go.RowKit Go
attribute [local go_sem] Oper.semAt_some

theorem wth_bounds (Ls : List Int) (n : Nat) (hb : ∀ j, -9223372036854775808 ≤ Ls.getD j 0 ∧ Ls.getD j 0 ≤ 9223372036854775807) (k : Nat) : -9223372036854775808 ≤ (wth Ls n).getD k 0 ∧ (wth Ls n).getD k 0 ≤ 9223372036854775807 := by
  unfold wth
  rw [List.getD_eq_getElem?_getD, List.getElem?_map]
  rcases Nat.lt_or_ge k n with h | h
  · rw [List.getElem?_range h]
    exact hb _
  · rw [List.getElem?_eq_none (by simpa using h)]
    simp
theorem wth_small (Ls : List Int) (n : Nat) (hb : ∀ j, -9223372036854775808 ≤ Ls.getD j 0 ∧ Ls.getD j 0 ≤ 9223372036854775807) (k : Nat) : (wmag ((wth Ls n).getD k 0)).size ≤ 1000 := by
  have h := wth_bounds Ls n hb k
  have := wmag_size ((wth Ls n).getD k 0) 8 (by rw [pow8]; omega)
  omega
/-- Another list at one of four places. -/
def upd4 (Z : Nat → List (Bool × ByteArray)) (k : Nat) (z : List (Bool × ByteArray)) : Nat → List (Bool × ByteArray) := fun i => if i = k then z else Z i
set_option maxRecDepth 100000 in
set_option maxHeartbeats 8000000 in
theorem own_any (A1 A2 : Option Addr) (n1 c1 n2 c2 R1 C1 R2 C2 : Nat) (L1 L2 : List Int) (w : World) (hR1 : RdI w A1 L1) (hl1 : L1.length = n1) (hm1 : n1 ≤ maxLen) (hb1 : ∀ j, -9223372036854775808 ≤ L1.getD j 0 ∧ L1.getD j 0 ≤ 9223372036854775807)
    (hR2 : RdI w A2 L2) (hl2 : L2.length = n2) (hm2 : n2 ≤ maxLen) (hb2 : ∀ j, -9223372036854775808 ≤ L2.getD j 0 ∧ L2.getD j 0 ≤ 9223372036854775807) (hTz : Tz w) :
    Calls Tryz.prog 13 #[.agg #[.int .u8 (R1 : Int), .int .u8 (C1 : Int), .slice A1 n1 c1], .agg #[.int .u8 (R2 : Int), .int .u8 (C2 : Int), .slice A2 n2 c2]] w fun e w' => e = .returned (.bool true) ∧ Below w.heap.size w w' := by
  obtain ⟨r, hr⟩ : ∃ r, R1 % 7 = r := ⟨_, rfl⟩
  obtain ⟨c, hc⟩ : ∃ c, C1 % 7 = c := ⟨_, rfl⟩
  have hr6 : r ≤ 6 := by omega
  have hc6 : c ≤ 6 := by omega
  obtain ⟨NN, hNN⟩ : ∃ NN, r * c = NN := ⟨_, rfl⟩
  have hNb : NN ≤ 36 := by rw [← hNN]; exact Nat.mul_le_mul hr6 hc6
  obtain ⟨m2, hm2c⟩ : ∃ m2, c + c = m2 := ⟨_, rfl⟩
  have hm12 : m2 ≤ 12 := by omega
  obtain ⟨N2, hN2⟩ : ∃ N2, r * m2 = N2 := ⟨_, rfl⟩
  have hN2b : N2 ≤ 72 := by rw [← hN2]; exact Nat.mul_le_mul hr6 hm12
  have hcr : c * r = NN := by rw [Nat.mul_comm]; exact hNN
  have hz1 : (wth L1 NN).length = NN := wth_length _ _
  have hz2 : (wth L2 NN).length = NN := wth_length _ _
  have hmr1 := mright_ints r c (wth L1 NN) (by rw [hz1, hNN]) (by omega) (by omega)
  have hmr2 := mright_ints r c (wth L2 NN) (by rw [hz2, hNN]) (by omega) (by omega)
  have hmA : NN ≤ maxLen := by unfold maxLen; omega
  have hma := fun W h => Mat_any A1 n1 c1 L1 R1 C1 r c NN W h hl1 hm1 hr hc hNN hb1
  have hwi := fun W h => With_any A2 n2 c2 L2 (R2 : Int) (C2 : Int) r c NN W h hl2 hm2 (by omega) (by omega) hNN hb2
  have had := fun gA gB W h1 h2 => Madd_ok gA gB r c NN NN NN (wth L1 NN) (wth L2 NN) W h1 h2 hz1 hz2 hNN (Nat.le_refl _) hmA (Nat.le_refl _) hmA hmr1 hmr2 (by omega) (by omega) (wth_small L1 NN hb1) (wth_small L2 NN hb2)
  have htr := fun gA W h1 => Transpose_ok gA r c NN NN NN (wth L1 NN) W h1 (by rw [hz1, hNN]) hNN.symm (Nat.le_refl _) hmA hmr1 (by omega) (by omega) hcr
  have hjo := fun gA gB W h1 h2 => Join_ok gA gB r c c NN NN NN NN m2 N2 (wth L1 NN) (wth L2 NN) W h1 h2 (by rw [hz1, hNN]) hNN.symm (Nat.le_refl _) hmA (by rw [hz2, hNN]) hNN.symm (Nat.le_refl _) hmA hmr1 hmr2 (by omega) hm2c (by omega) hN2
  have hpa : ∀ gA W, Lw W gA (enc (wth L1 NN)) → Calls Tryz.prog 30 #[mat r c (some ⟨gA, 0, none⟩) NN NN, .int .i64 0, .int .i64 0, .int .i64 (r : Int), .int .i64 (c : Int)] W fun e w' => ∃ g, e = .returned (.tuple #[mat r c (some ⟨g, 0, none⟩) NN NN, .bool true]) ∧ W.heap.size ≤ g ∧ Lw w' g (enc (ofL (prt (wth L1 NN) c 0 0 r c) r c)) ∧ Below W.heap.size W w' := fun gA W h => by
    have h := Part_ok gA r c NN NN 0 0 r c NN (wth L1 NN) W h (by rw [hz1, hNN]) hNN.symm (Nat.le_refl _) hmA hmr1 (by omega) (by omega) (by omega) (by omega) hNN
    simp only [show ((0 : Nat) : Int) = 0 from rfl] at h
    exact h
  have hfr := fun W => From_any 77 W (by omega) (by omega)
  rw [wv_def] at hfr
  have hsm1 := fun gA gB W (h1 : Lw W gA (enc (wth L1 NN))) (h2 : Lw W gB (enc (wth L1 NN))) => same_refl (r : Int) (c : Int) (some ⟨gA, 0, none⟩) (some ⟨gB, 0, none⟩) NN _ W h1.rdw h2.rdw (by rw [enc_length, hz1]) (by omega)
  have hsm2 := fun gA gB W (h1 : Lw W gA (enc (wth L2 NN))) (h2 : Lw W gB (enc (wth L2 NN))) => same_refl (r : Int) (c : Int) (some ⟨gA, 0, none⟩) (some ⟨gB, 0, none⟩) NN _ W h1.rdw h2.rdw (by rw [enc_length, hz2]) (by omega)
  obtain ⟨za, hza⟩ : ∃ za, za = wth L1 NN := ⟨_, rfl⟩
  obtain ⟨zb, hzb⟩ : ∃ zb, zb = wth L2 NN := ⟨_, rfl⟩
  obtain ⟨z3, hz3⟩ : ∃ z3, z3 = cmb (fun x y => x + y) za zb NN := ⟨_, rfl⟩
  obtain ⟨z4, hz4⟩ : ∃ z4, z4 = trF za r c := ⟨_, rfl⟩
  obtain ⟨z5, hz5⟩ : ∃ z5, z5 = ofL (jnr za zb c c r) r m2 := ⟨_, rfl⟩
  obtain ⟨z6, hz6⟩ : ∃ z6, z6 = ofL (prt za c 0 0 r c) r c := ⟨_, rfl⟩
  have hl3 : z3.length = NN := by rw [hz3, cmb_length]
  have hl4 : z4.length = NN := by rw [hz4, trF_length, hcr]
  have hl5 : z5.length = N2 := by rw [hz5, ← hN2]; simp [ofL]
  have hl6 : z6.length = NN := by rw [hz6, ← hNN]; simp [ofL]
  rw [← hza] at hma had htr hjo hpa hsm1
  rw [← hzb] at hwi had hjo hsm2
  rw [← hz3] at had
  rw [← hz4] at htr
  rw [← hz5] at hjo
  rw [← hz6] at hpa
  have hTs : ∀ W l, Kg none w W l → Tz W := fun W l h => hTz.of fun b hb => h.1.block b hb (by simp)
  have hRa : ∀ W l, Kg none w W l → RdI W A1 L1 := fun W l h => hR1.below (Kg.below_ h)
  have hRb : ∀ W l, Kg none w W l → RdI W A2 L2 := fun W l h => hR2.below (Kg.below_ h)
  unfold mat at *
  have HMA := Lib.hid hma
  have HWI := Lib.hid hwi
  have HAD := Lib.hid had
  have HTR := Lib.hid htr
  have HJO := Lib.hid hjo
  have HPA := Lib.hid hpa
  have HFR := Lib.hid hfr
  have HS1 := Lib.hid hsm1
  have HS2 := Lib.hid hsm2
  have HSA := Lib.hid (fun W hW => sanity_any W hW)
  have HTS := Lib.hid hTs
  have HRA := Lib.hid hRa
  have HRB := Lib.hid hRb
  have HL3 := Lib.hid hl3
  have HL4 := Lib.hid hl4
  have HL5 := Lib.hid hl5
  have HL6 := Lib.hid hl6
  have HK1 := Lib.hid ((((Kg.none_ none w 0).more (.cells #[.int .u8 (R1 : Int), .int .u8 (C1 : Int), .slice A1 n1 c1] 38 (0, 0))).more (.cells #[.int .u8 (R2 : Int), .int .u8 (C2 : Int), .slice A2 n2 c2] 38 (0, 0))).cast (l' := [some (w.heap.size, .cells #[.int .u8 (R1 : Int), .int .u8 (C1 : Int), .slice A1 n1 c1] 38 (0, 0)), some (w.heap.size + 1, .cells #[.int .u8 (R2 : Int), .int .u8 (C2 : Int), .slice A2 n2 c2] 38 (0, 0))]) (by simp))
  clear hma hwi had htr hjo hpa hfr hsm1 hsm2 hTs hRa hRb hl3 hl4 hl5 hl6 hza hzb hz3 hz4 hz5 hz6 hR1 hR2 hmr1 hmr2 hz1 hz2 hb1 hb2 hr hc hNN hN2 hcr hl1 hl2 hTz hm2c
  go_enter Tryz.func13, Tryz.ntmps13
  go_wp2_with fail
  change Calls _ _ _ ((w.alloc (.cells #[.int .u8 (R1 : Int), .int .u8 (C1 : Int), .slice A1 n1 c1] 38 (0, 0))).alloc (.cells #[.int .u8 (R2 : Int), .int .u8 (C2 : Int), .slice A2 n2 c2] 38 (0, 0))) _
  generalize (w.alloc (.cells #[.int .u8 (R1 : Int), .int .u8 (C1 : Int), .slice A1 n1 c1] 38 (0, 0))).alloc (.cells #[.int .u8 (R2 : Int), .int .u8 (C2 : Int), .slice A2 n2 c2] 38 (0, 0)) = W1 at *
  with_reducible refine (HSA.out _ (HTS.out _ _ HK1.out)).mono ?_
  rintro e V1 ⟨rfl, hb2⟩
  have HK2 := Lib.hid (HK1.out.step hb2)
  clear hb2 HK1
  have x0 := HK2.out.cell 0 0 rfl rfl
  have x1 := HK2.out.cell 0 1 rfl rfl
  have x2 := HK2.out.cell 0 2 rfl rfl
  go_wp2_with fail
  with_reducible refine (HMA.out _ (HRA.out _ _ HK2.out)).mono ?_
  rintro e V2 ⟨g1, rfl, hg, hL, hb⟩
  have HK3 := Lib.hid (show Kg none w (V2.alloc (.cells #[.int .i64 (r : Int), .int .i64 (c : Int), .slice (some ⟨g1, 0, none⟩) NN NN] 28 (0, 0))) [some (w.heap.size, .cells #[.int .u8 (R1 : Int), .int .u8 (C1 : Int), .slice A1 n1 c1] 38 (0, 0)), some (w.heap.size + 1, .cells #[.int .u8 (R2 : Int), .int .u8 (C2 : Int), .slice A2 n2 c2] 38 (0, 0)), some (g1, lwO (enc (za))), some (V2.heap.size, .cells #[.int .i64 (r : Int), .int .i64 (c : Int), .slice (some ⟨g1, 0, none⟩) NN NN] 28 (0, 0))] from (HK2.out.room.came 2 rfl hb hg (o := lwO (enc (za))) hL).more (.cells #[.int .i64 (r : Int), .int .i64 (c : Int), .slice (some ⟨g1, 0, none⟩) NN NN] 28 (0, 0)))
  clear hg hL hb x0 x1 x2 HK2
  have x0 := HK3.out.cell 1 0 rfl rfl
  have x1 := HK3.out.cell 1 1 rfl rfl
  have x2 := HK3.out.cell 1 2 rfl rfl
  have x3 := HK3.out.cell 3 0 rfl rfl
  have x4 := HK3.out.cell 3 1 rfl rfl
  go_wp2_with fail
  change Calls _ _ _ (V2.alloc (.cells #[.int .i64 (r : Int), .int .i64 (c : Int), .slice (some ⟨g1, 0, none⟩) NN NN] 28 (0, 0))) _
  generalize V2.alloc (.cells #[.int .i64 (r : Int), .int .i64 (c : Int), .slice (some ⟨g1, 0, none⟩) NN NN] 28 (0, 0)) = W3 at *
  generalize V2.heap.size = b2 at *
  with_reducible refine (HWI.out _ (HRB.out _ _ HK3.out)).mono ?_
  rintro e V3 ⟨g2, rfl, hg, hL, hb⟩
  have HK4 := Lib.hid (show Kg none w (V3.alloc (.cells #[.int .i64 (r : Int), .int .i64 (c : Int), .slice (some ⟨g2, 0, none⟩) NN NN] 28 (0, 0))) [some (w.heap.size, .cells #[.int .u8 (R1 : Int), .int .u8 (C1 : Int), .slice A1 n1 c1] 38 (0, 0)), some (w.heap.size + 1, .cells #[.int .u8 (R2 : Int), .int .u8 (C2 : Int), .slice A2 n2 c2] 38 (0, 0)), some (g1, lwO (enc (za))), some (b2, .cells #[.int .i64 (r : Int), .int .i64 (c : Int), .slice (some ⟨g1, 0, none⟩) NN NN] 28 (0, 0)), some (g2, lwO (enc (zb))), some (V3.heap.size, .cells #[.int .i64 (r : Int), .int .i64 (c : Int), .slice (some ⟨g2, 0, none⟩) NN NN] 28 (0, 0))] from (HK3.out.room.came 4 rfl hb hg (o := lwO (enc (zb))) hL).more (.cells #[.int .i64 (r : Int), .int .i64 (c : Int), .slice (some ⟨g2, 0, none⟩) NN NN] 28 (0, 0)))
  clear hg hL hb x0 x1 x2 x3 x4 HK3
  have x0 := HK4.out.cell 3 0 rfl rfl
  have x1 := HK4.out.cell 3 1 rfl rfl
  have x2 := HK4.out.cell 3 2 rfl rfl
  have x3 := HK4.out.cell 5 0 rfl rfl
  have x4 := HK4.out.cell 5 1 rfl rfl
  have x5 := HK4.out.cell 5 2 rfl rfl
  go_wp2_with fail
  change Calls _ _ _ (V3.alloc (.cells #[.int .i64 (r : Int), .int .i64 (c : Int), .slice (some ⟨g2, 0, none⟩) NN NN] 28 (0, 0))) _
  generalize V3.alloc (.cells #[.int .i64 (r : Int), .int .i64 (c : Int), .slice (some ⟨g2, 0, none⟩) NN NN] 28 (0, 0)) = W4 at *
  generalize V3.heap.size = b3 at *
  have hxa : Lw W4 g1 (enc za) := HK4.out.at_ 2 rfl
  have hxb : Lw W4 g2 (enc zb) := HK4.out.at_ 4 rfl
  with_reducible refine (HAD.out g1 g2 _ hxa hxb).mono ?_
  rintro e V4 ⟨g3, rfl, hg, hL, hb⟩
  have HK5 := Lib.hid (show Kg none w (V4.alloc (.cells #[.int .i64 (r : Int), .int .i64 (c : Int), .slice (some ⟨g3, 0, none⟩) NN NN] 28 (0, 0))) [some (w.heap.size, .cells #[.int .u8 (R1 : Int), .int .u8 (C1 : Int), .slice A1 n1 c1] 38 (0, 0)), some (w.heap.size + 1, .cells #[.int .u8 (R2 : Int), .int .u8 (C2 : Int), .slice A2 n2 c2] 38 (0, 0)), some (g1, lwO (enc (za))), some (b2, .cells #[.int .i64 (r : Int), .int .i64 (c : Int), .slice (some ⟨g1, 0, none⟩) NN NN] 28 (0, 0)), some (g2, lwO (enc (zb))), some (b3, .cells #[.int .i64 (r : Int), .int .i64 (c : Int), .slice (some ⟨g2, 0, none⟩) NN NN] 28 (0, 0)), some (g3, lwO (enc (z3))), some (V4.heap.size, .cells #[.int .i64 (r : Int), .int .i64 (c : Int), .slice (some ⟨g3, 0, none⟩) NN NN] 28 (0, 0))] from (HK4.out.room.came 6 rfl hb hg (o := lwO (enc (z3))) hL).more (.cells #[.int .i64 (r : Int), .int .i64 (c : Int), .slice (some ⟨g3, 0, none⟩) NN NN] 28 (0, 0)))
  clear hg hL hb x0 x1 x2 x3 x4 x5 hxa hxb HK4
  have x0 := HK5.out.cell 3 0 rfl rfl
  have x1 := HK5.out.cell 3 1 rfl rfl
  have x2 := HK5.out.cell 3 2 rfl rfl
  go_wp2_with fail
  change Calls _ _ _ (V4.alloc (.cells #[.int .i64 (r : Int), .int .i64 (c : Int), .slice (some ⟨g3, 0, none⟩) NN NN] 28 (0, 0))) _
  generalize V4.alloc (.cells #[.int .i64 (r : Int), .int .i64 (c : Int), .slice (some ⟨g3, 0, none⟩) NN NN] 28 (0, 0)) = W5 at *
  generalize V4.heap.size = b4 at *
  have hxa : Lw W5 g1 (enc za) := HK5.out.at_ 2 rfl
  have hxb : Lw W5 g2 (enc zb) := HK5.out.at_ 4 rfl
  with_reducible refine (HTR.out g1 _ hxa).mono ?_
  rintro e V5 ⟨g4, rfl, hg, hL, hb⟩
  have HK6 := Lib.hid (show Kg none w (V5.alloc (.cells #[.int .i64 (c : Int), .int .i64 (r : Int), .slice (some ⟨g4, 0, none⟩) NN NN] 28 (0, 0))) [some (w.heap.size, .cells #[.int .u8 (R1 : Int), .int .u8 (C1 : Int), .slice A1 n1 c1] 38 (0, 0)), some (w.heap.size + 1, .cells #[.int .u8 (R2 : Int), .int .u8 (C2 : Int), .slice A2 n2 c2] 38 (0, 0)), some (g1, lwO (enc (za))), some (b2, .cells #[.int .i64 (r : Int), .int .i64 (c : Int), .slice (some ⟨g1, 0, none⟩) NN NN] 28 (0, 0)), some (g2, lwO (enc (zb))), some (b3, .cells #[.int .i64 (r : Int), .int .i64 (c : Int), .slice (some ⟨g2, 0, none⟩) NN NN] 28 (0, 0)), some (g3, lwO (enc (z3))), some (b4, .cells #[.int .i64 (r : Int), .int .i64 (c : Int), .slice (some ⟨g3, 0, none⟩) NN NN] 28 (0, 0)), some (g4, lwO (enc (z4))), some (V5.heap.size, .cells #[.int .i64 (c : Int), .int .i64 (r : Int), .slice (some ⟨g4, 0, none⟩) NN NN] 28 (0, 0))] from (HK5.out.room.came 8 rfl hb hg (o := lwO (enc (z4))) hL).more (.cells #[.int .i64 (c : Int), .int .i64 (r : Int), .slice (some ⟨g4, 0, none⟩) NN NN] 28 (0, 0)))
  clear hg hL hb x0 x1 x2 hxa hxb HK5
  have x0 := HK6.out.cell 3 0 rfl rfl
  have x1 := HK6.out.cell 3 1 rfl rfl
  have x2 := HK6.out.cell 3 2 rfl rfl
  have x3 := HK6.out.cell 5 0 rfl rfl
  have x4 := HK6.out.cell 5 1 rfl rfl
  have x5 := HK6.out.cell 5 2 rfl rfl
  go_wp2_with fail
  change Calls _ _ _ (V5.alloc (.cells #[.int .i64 (c : Int), .int .i64 (r : Int), .slice (some ⟨g4, 0, none⟩) NN NN] 28 (0, 0))) _
  generalize V5.alloc (.cells #[.int .i64 (c : Int), .int .i64 (r : Int), .slice (some ⟨g4, 0, none⟩) NN NN] 28 (0, 0)) = W6 at *
  generalize V5.heap.size = b5 at *
  have hxa : Lw W6 g1 (enc za) := HK6.out.at_ 2 rfl
  have hxb : Lw W6 g2 (enc zb) := HK6.out.at_ 4 rfl
  with_reducible refine (HJO.out g1 g2 _ hxa hxb).mono ?_
  rintro e V6 ⟨g5, rfl, hg, hL, hb⟩
  have HK7 := Lib.hid (show Kg none w (V6.alloc (.cells #[.int .i64 (r : Int), .int .i64 (m2 : Int), .slice (some ⟨g5, 0, none⟩) N2 N2] 28 (0, 0))) [some (w.heap.size, .cells #[.int .u8 (R1 : Int), .int .u8 (C1 : Int), .slice A1 n1 c1] 38 (0, 0)), some (w.heap.size + 1, .cells #[.int .u8 (R2 : Int), .int .u8 (C2 : Int), .slice A2 n2 c2] 38 (0, 0)), some (g1, lwO (enc (za))), some (b2, .cells #[.int .i64 (r : Int), .int .i64 (c : Int), .slice (some ⟨g1, 0, none⟩) NN NN] 28 (0, 0)), some (g2, lwO (enc (zb))), some (b3, .cells #[.int .i64 (r : Int), .int .i64 (c : Int), .slice (some ⟨g2, 0, none⟩) NN NN] 28 (0, 0)), some (g3, lwO (enc (z3))), some (b4, .cells #[.int .i64 (r : Int), .int .i64 (c : Int), .slice (some ⟨g3, 0, none⟩) NN NN] 28 (0, 0)), some (g4, lwO (enc (z4))), some (b5, .cells #[.int .i64 (c : Int), .int .i64 (r : Int), .slice (some ⟨g4, 0, none⟩) NN NN] 28 (0, 0)), some (g5, lwO (enc (z5))), some (V6.heap.size, .cells #[.int .i64 (r : Int), .int .i64 (m2 : Int), .slice (some ⟨g5, 0, none⟩) N2 N2] 28 (0, 0))] from (HK6.out.room.came 10 rfl hb hg (o := lwO (enc (z5))) hL).more (.cells #[.int .i64 (r : Int), .int .i64 (m2 : Int), .slice (some ⟨g5, 0, none⟩) N2 N2] 28 (0, 0)))
  clear hg hL hb x0 x1 x2 x3 x4 x5 hxa hxb HK6
  have x0 := HK7.out.cell 3 0 rfl rfl
  have x1 := HK7.out.cell 3 1 rfl rfl
  have x2 := HK7.out.cell 3 2 rfl rfl
  go_wp2_with fail
  change Calls _ _ _ (V6.alloc (.cells #[.int .i64 (r : Int), .int .i64 (m2 : Int), .slice (some ⟨g5, 0, none⟩) N2 N2] 28 (0, 0))) _
  generalize V6.alloc (.cells #[.int .i64 (r : Int), .int .i64 (m2 : Int), .slice (some ⟨g5, 0, none⟩) N2 N2] 28 (0, 0)) = W7 at *
  generalize V6.heap.size = b6 at *
  have hxa : Lw W7 g1 (enc za) := HK7.out.at_ 2 rfl
  have hxb : Lw W7 g2 (enc zb) := HK7.out.at_ 4 rfl
  with_reducible refine (HPA.out g1 _ hxa).mono ?_
  rintro e V7 ⟨g6, rfl, hg, hL, hb⟩
  have HK8 := Lib.hid (show Kg none w (V7.alloc (.cells #[.int .i64 (r : Int), .int .i64 (c : Int), .slice (some ⟨g6, 0, none⟩) NN NN] 28 (0, 0))) [some (w.heap.size, .cells #[.int .u8 (R1 : Int), .int .u8 (C1 : Int), .slice A1 n1 c1] 38 (0, 0)), some (w.heap.size + 1, .cells #[.int .u8 (R2 : Int), .int .u8 (C2 : Int), .slice A2 n2 c2] 38 (0, 0)), some (g1, lwO (enc (za))), some (b2, .cells #[.int .i64 (r : Int), .int .i64 (c : Int), .slice (some ⟨g1, 0, none⟩) NN NN] 28 (0, 0)), some (g2, lwO (enc (zb))), some (b3, .cells #[.int .i64 (r : Int), .int .i64 (c : Int), .slice (some ⟨g2, 0, none⟩) NN NN] 28 (0, 0)), some (g3, lwO (enc (z3))), some (b4, .cells #[.int .i64 (r : Int), .int .i64 (c : Int), .slice (some ⟨g3, 0, none⟩) NN NN] 28 (0, 0)), some (g4, lwO (enc (z4))), some (b5, .cells #[.int .i64 (c : Int), .int .i64 (r : Int), .slice (some ⟨g4, 0, none⟩) NN NN] 28 (0, 0)), some (g5, lwO (enc (z5))), some (b6, .cells #[.int .i64 (r : Int), .int .i64 (m2 : Int), .slice (some ⟨g5, 0, none⟩) N2 N2] 28 (0, 0)), some (g6, lwO (enc (z6))), some (V7.heap.size, .cells #[.int .i64 (r : Int), .int .i64 (c : Int), .slice (some ⟨g6, 0, none⟩) NN NN] 28 (0, 0))] from (HK7.out.room.came 12 rfl hb hg (o := lwO (enc (z6))) hL).more (.cells #[.int .i64 (r : Int), .int .i64 (c : Int), .slice (some ⟨g6, 0, none⟩) NN NN] 28 (0, 0)))
  clear hg hL hb x0 x1 x2 hxa hxb HK7
  have x0 := HK8.out.cell 7 0 rfl rfl
  have x1 := HK8.out.cell 7 1 rfl rfl
  have x2 := HK8.out.cell 7 2 rfl rfl
  have x3 := HK8.out.cell 9 0 rfl rfl
  have x4 := HK8.out.cell 9 1 rfl rfl
  have x5 := HK8.out.cell 9 2 rfl rfl
  have x6 := HK8.out.cell 11 0 rfl rfl
  have x7 := HK8.out.cell 11 1 rfl rfl
  have x8 := HK8.out.cell 11 2 rfl rfl
  have x9 := HK8.out.cell 13 0 rfl rfl
  have x10 := HK8.out.cell 13 1 rfl rfl
  have x11 := HK8.out.cell 13 2 rfl rfl
  have hsel := (HK8.out.more (.cells #[.int .i64 (r : Int), .int .i64 (c : Int), .slice (some ⟨g3, 0, none⟩) NN NN, .int .i64 (c : Int), .int .i64 (r : Int), .slice (some ⟨g4, 0, none⟩) NN NN, .int .i64 (r : Int), .int .i64 (m2 : Int), .slice (some ⟨g5, 0, none⟩) N2 N2, .int .i64 (r : Int), .int .i64 (c : Int), .slice (some ⟨g6, 0, none⟩) NN NN] 28 (0, 0))).sel [0, 1, 2, 3, 4, 5, 14, 6, 8, 10, 12] (by decide)
  obtain ⟨Z0, hZ0⟩ : ∃ Z0 : Nat → List (Bool × ByteArray), Z0 = fun i => match i with | 0 => enc z3 | 1 => enc z4 | 2 => enc z5 | _ => enc z6 := ⟨_, rfl⟩
  obtain ⟨NL, hNL⟩ : ∃ NL : Nat → Nat, NL = fun i => match i with | 0 => NN | 1 => NN | 2 => N2 | _ => NN := ⟨_, rfl⟩
  obtain ⟨GG, hGG⟩ : ∃ GG : Nat → Nat, GG = fun i => match i with | 0 => g3 | 1 => g4 | 2 => g5 | _ => g6 := ⟨_, rfl⟩
  have HNL : ∀ i, i < 4 → NL i ≤ 72 := fun i hi => by
    rw [hNL]
    match i, hi with
    | 0, _ => simp only []; omega
    | 1, _ => simp only []; omega
    | 2, _ => simp only []; omega
    | 3, _ => simp only []; omega
  have HZL := Lib.hid (show ∀ i, i < 4 → (Z0 i).length = NL i from fun i hi => by
    rw [hNL, hZ0]
    match i, hi with
    | 0, _ => simp only [enc_length]; exact HL3.out
    | 1, _ => simp only [enc_length]; exact HL4.out
    | 2, _ => simp only [enc_length]; exact HL5.out
    | 3, _ => simp only [enc_length]; exact HL6.out)
  have HCS := Lib.hid (show ∀ i, i < 4 → (#[.int .i64 (r : Int), .int .i64 (c : Int), .slice (some ⟨g3, 0, none⟩) NN NN, .int .i64 (c : Int), .int .i64 (r : Int), .slice (some ⟨g4, 0, none⟩) NN NN, .int .i64 (r : Int), .int .i64 (m2 : Int), .slice (some ⟨g5, 0, none⟩) N2 N2, .int .i64 (r : Int), .int .i64 (c : Int), .slice (some ⟨g6, 0, none⟩) NN NN] : Array Value)[i * 3 + 2]? = some (.slice (some ⟨GG i, 0, none⟩) (NL i) (NL i)) from fun i hi => by
    rw [hNL, hGG]
    match i, hi with
    | 0, _ => rfl
    | 1, _ => rfl
    | 2, _ => rfl
    | 3, _ => rfl)
  go_wp2_with fail
  clear x0 x1 x2 x3 x4 x5 x6 x7 x8 x9 x10 x11
  have HK9 := Lib.hid (show Kg none w ((V7.alloc (.cells #[.int .i64 (r : Int), .int .i64 (c : Int), .slice (some ⟨g6, 0, none⟩) NN NN] 28 (0, 0))).alloc (.cells #[.int .i64 (r : Int), .int .i64 (c : Int), .slice (some ⟨g3, 0, none⟩) NN NN, .int .i64 (c : Int), .int .i64 (r : Int), .slice (some ⟨g4, 0, none⟩) NN NN, .int .i64 (r : Int), .int .i64 (m2 : Int), .slice (some ⟨g5, 0, none⟩) N2 N2, .int .i64 (r : Int), .int .i64 (c : Int), .slice (some ⟨g6, 0, none⟩) NN NN] 28 (0, 0))) [some (w.heap.size, .cells #[.int .u8 (R1 : Int), .int .u8 (C1 : Int), .slice A1 n1 c1] 38 (0, 0)), some (w.heap.size + 1, .cells #[.int .u8 (R2 : Int), .int .u8 (C2 : Int), .slice A2 n2 c2] 38 (0, 0)), some (g1, lwO (enc (za))), some (b2, .cells #[.int .i64 (r : Int), .int .i64 (c : Int), .slice (some ⟨g1, 0, none⟩) NN NN] 28 (0, 0)), some (g2, lwO (enc (zb))), some (b3, .cells #[.int .i64 (r : Int), .int .i64 (c : Int), .slice (some ⟨g2, 0, none⟩) NN NN] 28 (0, 0)), some ((V7.alloc (.cells #[.int .i64 (r : Int), .int .i64 (c : Int), .slice (some ⟨g6, 0, none⟩) NN NN] 28 (0, 0))).heap.size, .cells #[.int .i64 (r : Int), .int .i64 (c : Int), .slice (some ⟨g3, 0, none⟩) NN NN, .int .i64 (c : Int), .int .i64 (r : Int), .slice (some ⟨g4, 0, none⟩) NN NN, .int .i64 (r : Int), .int .i64 (m2 : Int), .slice (some ⟨g5, 0, none⟩) N2 N2, .int .i64 (r : Int), .int .i64 (c : Int), .slice (some ⟨g6, 0, none⟩) NN NN] 28 (0, 0)), some (g3, lwO (Z0 0)), some (g4, lwO (Z0 1)), some (g5, lwO (Z0 2)), some (g6, lwO (Z0 3))] from by rw [hZ0]; exact hsel)
  clear hsel HK8
  change Code.wp _ _ _ _ ((V7.alloc (.cells #[.int .i64 (r : Int), .int .i64 (c : Int), .slice (some ⟨g6, 0, none⟩) NN NN] 28 (0, 0))).alloc (.cells #[.int .i64 (r : Int), .int .i64 (c : Int), .slice (some ⟨g3, 0, none⟩) NN NN, .int .i64 (c : Int), .int .i64 (r : Int), .slice (some ⟨g4, 0, none⟩) NN NN, .int .i64 (r : Int), .int .i64 (m2 : Int), .slice (some ⟨g5, 0, none⟩) N2 N2, .int .i64 (r : Int), .int .i64 (c : Int), .slice (some ⟨g6, 0, none⟩) NN NN] 28 (0, 0)))
  have hbA : (V7.alloc (.cells #[.int .i64 (r : Int), .int .i64 (c : Int), .slice (some ⟨g6, 0, none⟩) NN NN] 28 (0, 0))).heap.size = V7.heap.size + 1 := by simp
  rw [hbA] at HK9
  clear hbA
  generalize (V7.alloc (.cells #[.int .i64 (r : Int), .int .i64 (c : Int), .slice (some ⟨g6, 0, none⟩) NN NN] 28 (0, 0))).alloc (.cells #[.int .i64 (r : Int), .int .i64 (c : Int), .slice (some ⟨g3, 0, none⟩) NN NN, .int .i64 (c : Int), .int .i64 (r : Int), .slice (some ⟨g4, 0, none⟩) NN NN, .int .i64 (r : Int), .int .i64 (m2 : Int), .slice (some ⟨g5, 0, none⟩) N2 N2, .int .i64 (r : Int), .int .i64 (c : Int), .slice (some ⟨g6, 0, none⟩) NN NN] 28 (0, 0)) = W9 at *
  generalize hbAe : V7.heap.size + 1 = bA at *
  have HIX := Lib.hid (show ∀ (Z : Nat → List (Bool × ByteArray)) i, i < 4 → ([some (w.heap.size, .cells #[.int .u8 (R1 : Int), .int .u8 (C1 : Int), .slice A1 n1 c1] 38 (0, 0)), some (w.heap.size + 1, .cells #[.int .u8 (R2 : Int), .int .u8 (C2 : Int), .slice A2 n2 c2] 38 (0, 0)), some (g1, lwO (enc (za))), some (b2, .cells #[.int .i64 (r : Int), .int .i64 (c : Int), .slice (some ⟨g1, 0, none⟩) NN NN] 28 (0, 0)), some (g2, lwO (enc (zb))), some (b3, .cells #[.int .i64 (r : Int), .int .i64 (c : Int), .slice (some ⟨g2, 0, none⟩) NN NN] 28 (0, 0)), some (bA, .cells #[.int .i64 (r : Int), .int .i64 (c : Int), .slice (some ⟨g3, 0, none⟩) NN NN, .int .i64 (c : Int), .int .i64 (r : Int), .slice (some ⟨g4, 0, none⟩) NN NN, .int .i64 (r : Int), .int .i64 (m2 : Int), .slice (some ⟨g5, 0, none⟩) N2 N2, .int .i64 (r : Int), .int .i64 (c : Int), .slice (some ⟨g6, 0, none⟩) NN NN] 28 (0, 0)), some (g3, lwO (Z 0)), some (g4, lwO (Z 1)), some (g5, lwO (Z 2)), some (g6, lwO (Z 3))] : List (Option (Nat × Obj)))[7 + i]? = some (some (GG i, lwO (Z i))) from fun Z i hi => by
    rw [hGG]
    match i, hi with
    | 0, _ => rfl
    | 1, _ => rfl
    | 2, _ => rfl
    | 3, _ => rfl)
  have HUP := Lib.hid (show ∀ (Z : Nat → List (Bool × ByteArray)) i z, i < 4 → ([some (w.heap.size, .cells #[.int .u8 (R1 : Int), .int .u8 (C1 : Int), .slice A1 n1 c1] 38 (0, 0)), some (w.heap.size + 1, .cells #[.int .u8 (R2 : Int), .int .u8 (C2 : Int), .slice A2 n2 c2] 38 (0, 0)), some (g1, lwO (enc (za))), some (b2, .cells #[.int .i64 (r : Int), .int .i64 (c : Int), .slice (some ⟨g1, 0, none⟩) NN NN] 28 (0, 0)), some (g2, lwO (enc (zb))), some (b3, .cells #[.int .i64 (r : Int), .int .i64 (c : Int), .slice (some ⟨g2, 0, none⟩) NN NN] 28 (0, 0)), some (bA, .cells #[.int .i64 (r : Int), .int .i64 (c : Int), .slice (some ⟨g3, 0, none⟩) NN NN, .int .i64 (c : Int), .int .i64 (r : Int), .slice (some ⟨g4, 0, none⟩) NN NN, .int .i64 (r : Int), .int .i64 (m2 : Int), .slice (some ⟨g5, 0, none⟩) N2 N2, .int .i64 (r : Int), .int .i64 (c : Int), .slice (some ⟨g6, 0, none⟩) NN NN] 28 (0, 0)), some (g3, lwO (Z 0)), some (g4, lwO (Z 1)), some (g5, lwO (Z 2)), some (g6, lwO (Z 3))] : List (Option (Nat × Obj))).set (7 + i) (some (GG i, lwO z)) = [some (w.heap.size, .cells #[.int .u8 (R1 : Int), .int .u8 (C1 : Int), .slice A1 n1 c1] 38 (0, 0)), some (w.heap.size + 1, .cells #[.int .u8 (R2 : Int), .int .u8 (C2 : Int), .slice A2 n2 c2] 38 (0, 0)), some (g1, lwO (enc (za))), some (b2, .cells #[.int .i64 (r : Int), .int .i64 (c : Int), .slice (some ⟨g1, 0, none⟩) NN NN] 28 (0, 0)), some (g2, lwO (enc (zb))), some (b3, .cells #[.int .i64 (r : Int), .int .i64 (c : Int), .slice (some ⟨g2, 0, none⟩) NN NN] 28 (0, 0)), some (bA, .cells #[.int .i64 (r : Int), .int .i64 (c : Int), .slice (some ⟨g3, 0, none⟩) NN NN, .int .i64 (c : Int), .int .i64 (r : Int), .slice (some ⟨g4, 0, none⟩) NN NN, .int .i64 (r : Int), .int .i64 (m2 : Int), .slice (some ⟨g5, 0, none⟩) N2 N2, .int .i64 (r : Int), .int .i64 (c : Int), .slice (some ⟨g6, 0, none⟩) NN NN] 28 (0, 0)), some (g3, lwO ((upd4 Z i z) 0)), some (g4, lwO ((upd4 Z i z) 1)), some (g5, lwO ((upd4 Z i z) 2)), some (g6, lwO ((upd4 Z i z) 3))] from fun Z i z hi => by
    rw [hGG]
    match i, hi with
    | 0, _ => rfl
    | 1, _ => rfl
    | 2, _ => rfl
    | 3, _ => rfl)
  clear hZ0 hNL hGG hbAe
  go_loopw [16, 17] (fun i _ wr => ∃ (k : Nat) (Z : Nat → List (Bool × ByteArray)), i = .int .i64 (k : Int) ∧ k ≤ 4 ∧ (∀ q, q < 4 → (Z q).length = NL q) ∧ Kg none w wr [some (w.heap.size, .cells #[.int .u8 (R1 : Int), .int .u8 (C1 : Int), .slice A1 n1 c1] 38 (0, 0)), some (w.heap.size + 1, .cells #[.int .u8 (R2 : Int), .int .u8 (C2 : Int), .slice A2 n2 c2] 38 (0, 0)), some (g1, lwO (enc (za))), some (b2, .cells #[.int .i64 (r : Int), .int .i64 (c : Int), .slice (some ⟨g1, 0, none⟩) NN NN] 28 (0, 0)), some (g2, lwO (enc (zb))), some (b3, .cells #[.int .i64 (r : Int), .int .i64 (c : Int), .slice (some ⟨g2, 0, none⟩) NN NN] 28 (0, 0)), some (bA, .cells #[.int .i64 (r : Int), .int .i64 (c : Int), .slice (some ⟨g3, 0, none⟩) NN NN, .int .i64 (c : Int), .int .i64 (r : Int), .slice (some ⟨g4, 0, none⟩) NN NN, .int .i64 (r : Int), .int .i64 (m2 : Int), .slice (some ⟨g5, 0, none⟩) N2 N2, .int .i64 (r : Int), .int .i64 (c : Int), .slice (some ⟨g6, 0, none⟩) NN NN] 28 (0, 0)), some (g3, lwO (Z 0)), some (g4, lwO (Z 1)), some (g5, lwO (Z 2)), some (g6, lwO (Z 3))]) (fun i _ _ => 4 - (intOf i).toNat)
  case atStart => exact ⟨0, Z0, rfl, by omega, HZL.out, HK9.out⟩
  case round =>
    obtain ⟨k, Z, rfl, hk, hZ, hK⟩ := hrel
    have HK10 := Lib.hid hK
    have HZ := Lib.hid hZ
    clear hK hZ HK9
    by_cases hlt : k < 4
    · have hki : (k : Int) < 4 := by omega
      have hnl := HNL k hlt
      have hcs := HCS.out k hlt
      have hix := fun Z => HIX.out Z k hlt
      have hup := fun Z z => HUP.out Z k z hlt
      have hzl := HZ.out k hlt
      generalize hn : NL k = nk at *
      generalize hg : GG k = gk at *
      have HCSk := Lib.hid hcs
      have HIXk := Lib.hid hix
      have HUPk := Lib.hid hup
      have HZk := Lib.hid hzl
      have HN := Lib.hid hn
      clear hcs hix hup hzl hg hn
      go_wp2_with fail
      go_loopw [17] (fun jj wr => ∃ (j : Nat) (Z : Nat → List (Bool × ByteArray)), jj = .int .i64 (j : Int) ∧ j ≤ nk ∧ (∀ q, q < 4 → (Z q).length = NL q) ∧ (Z k).length = nk ∧ Kg none w wr [some (w.heap.size, .cells #[.int .u8 (R1 : Int), .int .u8 (C1 : Int), .slice A1 n1 c1] 38 (0, 0)), some (w.heap.size + 1, .cells #[.int .u8 (R2 : Int), .int .u8 (C2 : Int), .slice A2 n2 c2] 38 (0, 0)), some (g1, lwO (enc (za))), some (b2, .cells #[.int .i64 (r : Int), .int .i64 (c : Int), .slice (some ⟨g1, 0, none⟩) NN NN] 28 (0, 0)), some (g2, lwO (enc (zb))), some (b3, .cells #[.int .i64 (r : Int), .int .i64 (c : Int), .slice (some ⟨g2, 0, none⟩) NN NN] 28 (0, 0)), some (bA, .cells #[.int .i64 (r : Int), .int .i64 (c : Int), .slice (some ⟨g3, 0, none⟩) NN NN, .int .i64 (c : Int), .int .i64 (r : Int), .slice (some ⟨g4, 0, none⟩) NN NN, .int .i64 (r : Int), .int .i64 (m2 : Int), .slice (some ⟨g5, 0, none⟩) N2 N2, .int .i64 (r : Int), .int .i64 (c : Int), .slice (some ⟨g6, 0, none⟩) NN NN] 28 (0, 0)), some (g3, lwO (Z 0)), some (g4, lwO (Z 1)), some (g5, lwO (Z 2)), some (g6, lwO (Z 3))]) (fun jj _ => nk - (intOf jj).toNat)
      case atStart => exact ⟨0, Z, rfl, Nat.zero_le _, HZ.out, HZk.out, HK10.out⟩
      case round =>
        clear HK10 HZ HZk Z
        obtain ⟨j, Z, rfl, hj, hZ, hZk, hK⟩ := hrel
        have HK11 := Lib.hid hK
        have HZ := Lib.hid hZ
        have c0 := hK.cell 6 (k * 3 + 2) rfl HCSk.out
        clear hK hZ
        by_cases hjl : j < nk
        · have hZ' : ∀ z, z.length = nk → ∀ q, q < 4 → (upd4 Z k z q).length = NL q := fun z hz q hq => by
            unfold upd4
            by_cases h : q = k
            · rw [if_pos h, h, hz, HN.out]
            · rw [if_neg h]; exact HZ.out q hq
          have HZ' := Lib.hid hZ'
          obtain ⟨zn, hzn⟩ : ∃ zn, zn = (Z k).set j (wneg 77, wmag 77) := ⟨_, rfl⟩
          have hznl : zn.length = nk := by rw [hzn, List.length_set]; exact hZk
          have HZN := Lib.hid hzn
          have HZNL := Lib.hid hznl
          clear hZ' hzn hznl
          go_wp2_with fail
          refine wp_region_acts (X := Unit) (fun x => [(0, 71, .slice (some ⟨bA, 0, none⟩) 4 4), (1, 72, .int .i64 (k : Int)), (2, 73, .pointer (some ⟨bA, k * 3, none⟩)), (3, 74, .pointer (some ⟨bA, k * 3 + 2, none⟩)), (4, 75, .slice (some ⟨gk, 0, none⟩) nk nk), (5, 76, .int .i64 (j : Int)), (6, 77, .agg #[.bool (wneg 77), .string (wmag 77)]), (7, 78, .pointer (some ⟨gk, j * 2, none⟩))])
            (fun _ L W => Kg none w W [some (w.heap.size, .cells #[.int .u8 (R1 : Int), .int .u8 (C1 : Int), .slice A1 n1 c1] 38 (0, 0)), some (w.heap.size + 1, .cells #[.int .u8 (R2 : Int), .int .u8 (C2 : Int), .slice A2 n2 c2] 38 (0, 0)), some (g1, lwO (enc (za))), some (b2, .cells #[.int .i64 (r : Int), .int .i64 (c : Int), .slice (some ⟨g1, 0, none⟩) NN NN] 28 (0, 0)), some (g2, lwO (enc (zb))), some (b3, .cells #[.int .i64 (r : Int), .int .i64 (c : Int), .slice (some ⟨g2, 0, none⟩) NN NN] 28 (0, 0)), some (bA, .cells #[.int .i64 (r : Int), .int .i64 (c : Int), .slice (some ⟨g3, 0, none⟩) NN NN, .int .i64 (c : Int), .int .i64 (r : Int), .slice (some ⟨g4, 0, none⟩) NN NN, .int .i64 (r : Int), .int .i64 (m2 : Int), .slice (some ⟨g5, 0, none⟩) N2 N2, .int .i64 (r : Int), .int .i64 (c : Int), .slice (some ⟨g6, 0, none⟩) NN NN] 28 (0, 0)), some (g3, lwO ((if L 8 = true then upd4 Z k zn else Z) 0)), some (g4, lwO ((if L 8 = true then upd4 Z k zn else Z) 1)), some (g5, lwO ((if L 8 = true then upd4 Z k zn else Z) 2)), some (g6, lwO ((if L 8 = true then upd4 Z k zn else Z) 3))]) (by kernel_rfl) (by kernel_rfl) () ?st (by kernel_rfl) ?_ ?_
          case st => simpa using HK11.out.drew
          · simp only [selA, selT_cons, selT_nil, List.set_cons_zero, List.set_cons_succ, List.getD_cons_zero, List.getD_cons_succ]
            repeat' (first | exact ActSteps.nil | refine ActSteps.cons ?_ ?_)
            all_goals
              intro L x wx hJ hl hd hs K hK
              (try simp [Region.binds] at hd)
              have c0 := hJ.cell 6 (k * 3 + 2) rfl HCSk.out
              try simp only [hd, hl, selV_true, selV_false]
            · go_simp
              refine hK.out x _ _ ?_ ?_
              · simp [hl, hd, hki, selV_true, selV_false]
              · exact hJ
            · go_simp
              refine hK.out x _ _ ?_ ?_
              · simp [hl, hd, hki, selV_true, selV_false]
              · exact hJ
            · go_simp
              refine hK.out x _ _ ?_ ?_
              · simp [hl, hd, hki, selV_true, selV_false]
              · exact hJ
            · go_simp
              refine hK.out x _ _ ?_ ?_
              · simp [hl, hd, hki, selV_true, selV_false]
              · exact hJ
            · go_simp
              refine hK.out x _ _ ?_ ?_
              · simp [hl, hd, hki, selV_true, selV_false]
              · exact hJ
            · go_simp
              refine hK.out x _ _ ?_ ?_
              · simp [hl, hd, hki, selV_true, selV_false]
              · exact hJ
            · go_simp
              with_reducible refine (HFR.out _).mono ?_
              rintro e v ⟨rfl, hb⟩
              refine hK.out x _ _ ?_ ?_
              · simp [hl, hd, hki, selV_true, selV_false]
              · exact hJ.step hb
            · go_simp
              refine hK.out x _ _ ?_ ?_
              · simp [hl, hd, hki, selV_true, selV_false]
              · exact hJ
            · have hB := hJ
              simp only [hl, Bool.false_eq_true, if_false] at hB
              have hLg : Lw wx gk (Z k) := hB.at_ (7 + k) (HIXk.out Z)
              have hql : j < (Z k).length := by rw [hZk]; exact hjl
              have d0 := hLg.cell0 j hql
              have d1 := hLg.cell1 j hql
              have f0 := hB.frozen (7 + k) (j * 2) (HIXk.out Z)
              have f1 := hB.frozen (7 + k) (j * 2 + 1) (HIXk.out Z)
              generalize ((Z k)[j]'hql).1 = u0 at d0
              generalize ((Z k)[j]'hql).2 = u1 at d1
              have hP := hLg.put j (wneg 77) (wmag 77)
              rw [← HZN.out] at hP
              have HP := Lib.hid hP
              have HB := Lib.hid hB
              clear hP hLg hB
              go_simp
              refine hK.out x _ _ ?_ ?_
              · simp [hl, hd, hki, selV_true, selV_false]
              · have hGr := grownBy_setRow (g := gk) (p := ⟨gk, j * 2 + 1, none⟩) (grownBy_setRow (g := gk) (p := ⟨gk, j * 2, none⟩) (World.grownBy.refl wx _) rfl (.bool (wneg 77))) rfl (.string (wmag 77))
                have h9 := HB.out.change (7 + k) (HIXk.out Z) hGr (o' := lwO zn) HP.out
                rw [HUPk.out] at h9
                exact h9
          · rintro _ Wx hKx
            simp only [selA, selT_cons, selT_nil, List.set_cons_zero, List.set_cons_succ, List.getD_cons_zero, List.getD_cons_succ, selV_true]
            simp only [if_true] at hKx
            have HKX := Lib.hid hKx
            clear hKx
            go_wp2
            go_roundw
            case rel => exact ⟨j + 1, upd4 Z k zn, by simp, by omega, HZ'.out zn HZNL.out, by unfold upd4; rw [if_pos rfl]; exact HZNL.out, HKX.out⟩
            case measure => simp [intOf]; omega
        · obtain rfl : j = nk := by omega
          go_wp2
          go_roundw
          case rel => exact ⟨k + 1, Z, by simp, by omega, HZ.out, HK11.out⟩
          case measure => simp [intOf]; omega
    · obtain rfl : k = 4 := by omega
      have HK12 := Lib.hid (show Kg none w wr [some (w.heap.size, .cells #[.int .u8 (R1 : Int), .int .u8 (C1 : Int), .slice A1 n1 c1] 38 (0, 0)), some (w.heap.size + 1, .cells #[.int .u8 (R2 : Int), .int .u8 (C2 : Int), .slice A2 n2 c2] 38 (0, 0)), some (g1, lwO (enc (za))), some (b2, .cells #[.int .i64 (r : Int), .int .i64 (c : Int), .slice (some ⟨g1, 0, none⟩) NN NN] 28 (0, 0)), some (g2, lwO (enc (zb))), some (b3, .cells #[.int .i64 (r : Int), .int .i64 (c : Int), .slice (some ⟨g2, 0, none⟩) NN NN] 28 (0, 0))] from HK10.out.take 6)
      clear HK10
      go_wp2_with fail
      refine wp_region_acts (X := Nat × Nat) (fun x => [(0, 79, .bool true), (1, 80, .bool true), (2, 81, .agg #[.int .i64 (r : Int), .int .i64 (c : Int), .slice (some ⟨g1, 0, none⟩) NN NN]), (3, 82, .agg #[.int .u8 (R1 : Int), .int .u8 (C1 : Int), .slice A1 n1 c1]), (4, 83, .agg #[.int .i64 (r : Int), .int .i64 (c : Int), .slice (some ⟨x.1, 0, none⟩) NN NN]), (5, 84, .bool true), (6, 85, .bool true), (7, 86, .bool true), (8, 87, .agg #[.int .i64 (r : Int), .int .i64 (c : Int), .slice (some ⟨g2, 0, none⟩) NN NN]), (9, 88, .agg #[.int .u8 (R2 : Int), .int .u8 (C2 : Int), .slice A2 n2 c2]), (10, 89, .pointer (some ⟨b2, 0, none⟩)), (11, 90, .int .i64 (r : Int)), (12, 91, .pointer (some ⟨b2, 1, none⟩)), (13, 92, .int .i64 (c : Int)), (14, 93, .agg #[.int .i64 (r : Int), .int .i64 (c : Int), .slice (some ⟨x.2, 0, none⟩) NN NN]), (15, 94, .bool true), (16, 95, .bool true), (17, 4, .bool true)])
        (fun x L W => Kg none w W [some (w.heap.size, .cells #[.int .u8 (R1 : Int), .int .u8 (C1 : Int), .slice A1 n1 c1] 38 (0, 0)), some (w.heap.size + 1, .cells #[.int .u8 (R2 : Int), .int .u8 (C2 : Int), .slice A2 n2 c2] 38 (0, 0)), some (g1, lwO (enc (za))), some (b2, .cells #[.int .i64 (r : Int), .int .i64 (c : Int), .slice (some ⟨g1, 0, none⟩) NN NN] 28 (0, 0)), some (g2, lwO (enc (zb))), some (b3, .cells #[.int .i64 (r : Int), .int .i64 (c : Int), .slice (some ⟨g2, 0, none⟩) NN NN] 28 (0, 0)), entO (L 4) x.1 (lwO (enc za)), entO (L 14) x.2 (lwO (enc zb))]) (by kernel_rfl) (by kernel_rfl) (0, 0) ?st (by kernel_rfl) ?_ ?_
      case st => simpa [entO_no] using HK12.out.drew.room.room
      · simp only [selA, selT_cons, selT_nil, List.set_cons_zero, List.set_cons_succ, List.getD_cons_zero, List.getD_cons_succ]
        repeat' (first | exact ActSteps.nil | refine ActSteps.cons ?_ ?_)
        all_goals
          intro L x wx hJ hl hd hs K hK
          (try simp [Region.binds] at hd)
          have p0 := hJ.cell 3 0 rfl rfl
          have p1 := hJ.cell 3 1 rfl rfl
          have p2 := hJ.cell 3 2 rfl rfl
          have p3 := hJ.cell 0 0 rfl rfl
          have p4 := hJ.cell 0 1 rfl rfl
          have p5 := hJ.cell 0 2 rfl rfl
          have p6 := hJ.cell 5 0 rfl rfl
          have p7 := hJ.cell 5 1 rfl rfl
          have p8 := hJ.cell 5 2 rfl rfl
          have p9 := hJ.cell 1 0 rfl rfl
          have p10 := hJ.cell 1 1 rfl rfl
          have p11 := hJ.cell 1 2 rfl rfl
          try simp only [hd, hl, selV_true, selV_false]
        · go_simp
          refine hK.out x _ _ ?_ ?_
          · simp [hl, hd, selV_true, selV_false]
          · exact hJ
        · go_simp
          refine hK.out x _ _ ?_ ?_
          · simp [hl, hd, selV_true, selV_false]
          · exact hJ
        · rw [if_pos (by kernel_rfl)]
          go_simp
          refine hK.out x _ _ ?_ ?_
          · simp [hl, hd, selV_true, selV_false]
          · exact hJ
        · rw [if_pos (by kernel_rfl)]
          go_simp
          refine hK.out x _ _ ?_ ?_
          · simp [hl, hd, selV_true, selV_false]
          · exact hJ
        · have hn := hs 5 _ rfl (by simp [Region.binds])
          have hB := hJ
          simp only [hl, entO_no] at hB
          rw [if_pos (by kernel_rfl)]
          go_simp
          go_at_call 24
          with_reducible refine (HMA.out wx (HRA.out _ _ hB)).mono ?_
          rintro e v ⟨h, rfl, hh, hLh, hb⟩
          refine hK.out (h, x.2) _ _ ?_ ?_
          · simp [hl, hd, hn, selV_true, selV_false]
          · exact (hB.came 6 rfl hb hh (o := lwO (enc za)) hLh).cast (by simp [entO_yes])
        · have hB := hJ
          simp only [hd, entO_yes] at hB
          have hx1 : Lw wx g1 (enc za) := hB.at_ 2 rfl
          have hx2 : Lw wx x.1 (enc za) := hB.at_ 6 rfl
          clear hB
          rw [if_pos (by kernel_rfl)]
          go_simp
          go_at_call 17
          with_reducible refine (HS1.out g1 x.1 wx hx1 hx2).mono ?_
          rintro e v ⟨rfl, hb⟩
          refine hK.out x _ _ ?_ ?_
          · simp [hl, hd, selV_true, selV_false]
          · exact hJ.step hb
        · go_simp
          refine hK.out x _ _ ?_ ?_
          · simp [hl, hd, selV_true, selV_false]
          · exact hJ
        · go_simp
          refine hK.out x _ _ ?_ ?_
          · simp [hl, hd, selV_true, selV_false]
          · exact hJ
        · rw [if_pos (by kernel_rfl)]
          go_simp
          refine hK.out x _ _ ?_ ?_
          · simp [hl, hd, selV_true, selV_false]
          · exact hJ
        · rw [if_pos (by kernel_rfl)]
          go_simp
          refine hK.out x _ _ ?_ ?_
          · simp [hl, hd, selV_true, selV_false]
          · exact hJ
        · rw [if_pos (by kernel_rfl)]
          go_simp
          refine hK.out x _ _ ?_ ?_
          · simp [hl, hd, selV_true, selV_false]
          · exact hJ
        · rw [if_pos (by kernel_rfl)]
          go_simp
          refine hK.out x _ _ ?_ ?_
          · simp [hl, hd, selV_true, selV_false]
          · exact hJ
        · rw [if_pos (by kernel_rfl)]
          go_simp
          refine hK.out x _ _ ?_ ?_
          · simp [hl, hd, selV_true, selV_false]
          · exact hJ
        · rw [if_pos (by kernel_rfl)]
          go_simp
          refine hK.out x _ _ ?_ ?_
          · simp [hl, hd, selV_true, selV_false]
          · exact hJ
        · have hn := hs 15 _ rfl (by simp [Region.binds])
          have hB := hJ
          simp only [hl, entO_no] at hB
          rw [if_pos (by kernel_rfl)]
          go_simp
          go_at_call 40
          with_reducible refine (HWI.out wx (HRB.out _ _ hB)).mono ?_
          rintro e v ⟨h, rfl, hh, hLh, hb⟩
          refine hK.out (x.1, h) _ _ ?_ ?_
          · simp [hl, hd, hn, selV_true, selV_false]
          · exact (hB.came 7 rfl hb hh (o := lwO (enc zb)) hLh).cast (by simp [entO_yes])
        · have hB := hJ
          simp only [hd, entO_yes] at hB
          have hx1 : Lw wx g2 (enc zb) := hB.at_ 4 rfl
          have hx2 : Lw wx x.2 (enc zb) := hB.at_ 7 rfl
          clear hB
          rw [if_pos (by kernel_rfl)]
          go_simp
          go_at_call 17
          with_reducible refine (HS2.out g2 x.2 wx hx1 hx2).mono ?_
          rintro e v ⟨rfl, hb⟩
          refine hK.out x _ _ ?_ ?_
          · simp [hl, hd, selV_true, selV_false]
          · exact hJ.step hb
        · go_simp
          refine hK.out x _ _ ?_ ?_
          · simp [hl, hd, selV_true, selV_false]
          · exact hJ
        · go_simp
          refine hK.out x _ _ ?_ ?_
          · simp [hl, hd, selV_true, selV_false]
          · exact hJ
      · rintro ⟨xa, xb⟩ Wx hKx
        simp only [selA, selT_cons, selT_nil, List.set_cons_zero, List.set_cons_succ, List.getD_cons_zero, List.getD_cons_succ, selV_true]
        have HBe := Lib.hid (Kg.below_ hKx)
        clear hKx
        go_wp2
        go_ret
        exact ⟨rfl, HBe.out⟩
end Go.Proofs.YtknaghdoffigjaaGreatDoor
