import Derived.Test.YtknaghdoffigjaaGreatDoorMSumR
import Derived.Test.YtknaghdoffigjaaGreatDoorZMAlg
import Derived.Test.YtknaghdoffigjaaGreatDoorZMRefOf
import Derived.Test.YtknaghdoffigjaaGreatDoorZMRefA
import Derived.Test.YtknaghdoffigjaaGreatDoorZMInvV
set_option linter.unusedSimpArgs false
set_option linter.unusedVariables false
set_option linter.unnecessarySimpa false
namespace Go.Proofs.YtknaghdoffigjaaGreatDoor
open Go.RowKit Go
attribute [local go_sem] Oper.semAt_some
theorem mag_ne (z : Int) (h : z ≠ 0) : (wmag z).toList.isEmpty = false := by
 rw [Bool.eq_false_iff]
 intro e
 rw [List.isEmpty_iff] at e
 exact wmag_ne z h (by rw [e, Lib.toList_data])
set_option maxRecDepth 100000 in
set_option maxHeartbeats 8000000 in
theorem rMul_ok (gA gB r m c NA capA NB capB NN : Nat) (xs ys : List Int) (w : World) (hA : Lw w gA (enc xs)) (hB : Lw w gB (enc ys)) (hlA : xs.length = r * m) (hNA : NA = r * m) (hcA : NA ≤ capA) (hmA : capA ≤ maxLen) (hlB : ys.length = m * c) (hNB : NB = m * c) (hcB : NB ≤ capB) (hmB : capB ≤ maxLen) (hr : r ≤ 200) (hm : m ≤ 200) (hc : c ≤ 200) (hNN : r * c = NN) (hsx : ∀ q, (wmag (xs.getD q 0)).size ≤ 100) (hsy : ∀ q, (wmag (ys.getD q 0)).size ≤ 100) :
  Calls Tryz.prog 44 #[mat r m (some ⟨gA, 0, none⟩) NA capA, mat m c (some ⟨gB, 0, none⟩) NB capB] w fun e w' => ∃ g, e = .returned (.tuple #[mat r c (some ⟨g, 0, none⟩) NN NN, .bool true]) ∧ w.heap.size ≤ g ∧ Lw w' g (enc (mulL xs ys r m c)) ∧ Below w.heap.size w w' := by
 have hNN2 : NN ≤ 40000 := by rw [← hNN]; exact Nat.le_trans (Nat.mul_le_mul hr hc) (by omega)
 have hNA2 : NA ≤ 40000 := by rw [hNA]; exact Nat.le_trans (Nat.mul_le_mul hr hm) (by omega)
 have hNB2 : NB ≤ 40000 := by rw [hNB]; exact Nat.le_trans (Nat.mul_le_mul hm hc) (by omega)
 have hri := fun W hW => rRight_any (r : Int) (m : Int) (some ⟨gA, 0, none⟩) NA capA (enc xs) W hW (by rw [enc_length, hlA, hNA]) (by omega)
 rw [mright_ints r m xs hlA hr hm] at hri
 have hrj := fun W hW => rRight_any (m : Int) (c : Int) (some ⟨gB, 0, none⟩) NB capB (enc ys) W hW (by rw [enc_length, hlB, hNB]) (by omega)
 rw [mright_ints m c ys hlB hm hc] at hrj
 have hze := fun W => rZero_fits r c NN W hr hc hNN
 have hst : List.replicate NN (false, (⟨#[]⟩ : ByteArray)) = enc (prS xs ys r m c 0 0 0) := by rw [prS_zero, hNN, enc_zeros]
 have hgA := heap_lt hA
 have hgB := heap_lt hB
 have hxs : ∀ i k, i < r → k < m → ∃ p q x, p = i * m ∧ q = p + k ∧ q < NA ∧ x = xs.getD (i * m + k) 0 ∧ IntKind.i64.wrap ((i : Int) * (m : Int)) = (p : Int) ∧ IntKind.i64.wrap ((p : Int) + (k : Int)) = (q : Int) ∧
   (∀ W l, Kg none w W l → W.cell? ⟨gA, q * 2, none⟩ = some (.bool (wneg x)) ∧ W.cell? ⟨gA, q * 2 + 1, none⟩ = some (.string (wmag x))) := fun i k hi hk => by
  have hin := in_table hi hk
  refine ⟨i * m, i * m + k, _, rfl, rfl, by omega, rfl, ?_, ?_, fun W l h => cells_at ((h.1.block gA hgA (by simp)).trans hA) _ (by omega)⟩
  ·rw [← Int.natCast_mul]; exact IntWalk.i64_in _ (by omega)
  ·rw [← Int.natCast_add]; exact IntWalk.i64_in _ (by omega)
 have hys : ∀ k j, k < m → j < c → ∃ p q y, p = k * c ∧ q = p + j ∧ q < NB ∧ y = ys.getD (k * c + j) 0 ∧ IntKind.i64.wrap ((k : Int) * (c : Int)) = (p : Int) ∧ IntKind.i64.wrap ((p : Int) + (j : Int)) = (q : Int) ∧
   (∀ W l, Kg none w W l → W.cell? ⟨gB, q * 2, none⟩ = some (.bool (wneg y)) ∧ W.cell? ⟨gB, q * 2 + 1, none⟩ = some (.string (wmag y))) := fun k j hk hj => by
  have hin := in_table hk hj
  refine ⟨k * c, k * c + j, _, rfl, rfl, by omega, rfl, ?_, ?_, fun W l h => cells_at ((h.1.block gB hgB (by simp)).trans hB) _ (by omega)⟩
  ·rw [← Int.natCast_mul]; exact IntWalk.i64_in _ (by omega)
  ·rw [← Int.natCast_add]; exact IntWalk.i64_in _ (by omega)
 have hstep : ∀ i k j x y, i < r → k < m → j < c → x = xs.getD (i * m + k) 0 → y = ys.getD (k * c + j) 0 → ∃ p q s0 xy s1, p = i * c ∧ q = p + j ∧ q < NN ∧ IntKind.i64.wrap ((i : Int) * (c : Int)) = (p : Int) ∧ IntKind.i64.wrap ((p : Int) + (j : Int)) = (q : Int) ∧
   (prS xs ys r m c i k j).getD q 0 = s0 ∧
   (∀ W, Calls Tryz.prog 75 #[.agg #[.bool (wneg x), .string (wmag x)], .agg #[.bool (wneg y), .string (wmag y)]] W fun e w' => e = .returned (.agg #[.bool (wneg xy), .string (wmag xy)]) ∧ Below W.heap.size W w') ∧
   (∀ W, Calls Tryz.prog 90 #[.agg #[.bool (wneg s0), .string (wmag s0)], .agg #[.bool (wneg xy), .string (wmag xy)]] W fun e w' => e = .returned (.agg #[.bool (wneg s1), .string (wmag s1)]) ∧ Below W.heap.size W w') ∧
   (enc (prS xs ys r m c i k j)).set q (wneg s1, wmag s1) = enc (prS xs ys r m c i k (j + 1)) := fun i k j x y hi hk hj hx hy => by
  have hin := in_table hi hj
  have h1 := hsx (i * m + k)
  have h2 := hsy (k * c + j)
  rw [← hx] at h1
  rw [← hy] at h2
  have hsz1 : (wmag (x * y)).size ≤ 200 := wmag_size _ _ (by rw [hx, hy]; exact mul_abs _ _ (hsx _) (hsy _))
  have hd1 : dotI xs ys m c i j (k + 1) = dotI xs ys m c i j k + x * y := by rw [hx, hy]; rfl
  have hsz0 : (wmag (dotI xs ys m c i j k)).size ≤ 201 := wmag_size _ _ (dot_abs xs ys m c i j k (by omega) hsx hsy)
  refine ⟨i * c, i * c + j, dotI xs ys m c i j k, x * y, dotI xs ys m c i j k + x * y, rfl, rfl, by omega, ?_, ?_, prS_at xs ys r m c i k j hi hj, fun W => ?_, fun W => ?_, ?_⟩
  ·rw [← Int.natCast_mul]; exact IntWalk.i64_in _ (by omega)
  ·rw [← Int.natCast_add]; exact IntWalk.i64_in _ (by omega)
  ·exact RMul_any _ _ _ _ W (by omega) (by omega) _ (by rw [wint_nm, wint_nm])
  ·exact RAdd_any _ _ _ _ W (by omega) (by omega) _ (by rw [wint_nm, wint_nm])
  ·rw [encSet, ← hd1, prS_set xs ys r m c i k j hi hj]
 have hlen : ∀ i k j, (enc (prS xs ys r m c i k j)).length = NN := fun i k j => by rw [enc_length, prS_length, hNN]
 unfold mat at *
 have HRI := Lib.hid hri
 have HRJ := Lib.hid hrj
 have HZE := Lib.hid hze
 have HST := Lib.hid hst
 have HXS := Lib.hid hxs
 have HYS := Lib.hid hys
 have HSTEP := Lib.hid hstep
 have HLEN := Lib.hid hlen
 have HAS := Lib.hid (show ∀ W l, Kg none w W l → Lw W gA (enc xs) from fun W l h => (h.1.block gA hgA (by simp)).trans hA)
 have HBS := Lib.hid (show ∀ W l, Kg none w W l → Lw W gB (enc ys) from fun W l h => (h.1.block gB hgB (by simp)).trans hB)
 have HK2 := Lib.hid (((((Kg.none_ none w 0).more (mrow (r : Int) (m : Int) (some ⟨gA, 0, none⟩) NA capA)).more (mrow (m : Int) (c : Int) (some ⟨gB, 0, none⟩) NB capB)).more (mrow 0 0 none 0 0)).cast (l' := [some (w.heap.size, mrow (r : Int) (m : Int) (some ⟨gA, 0, none⟩) NA capA), some (w.heap.size + 1, mrow (m : Int) (c : Int) (some ⟨gB, 0, none⟩) NB capB), some (w.heap.size + 1 + 1, mrow 0 0 none 0 0)]) (by simp))
 have x0 := HK2.out.cell 0 0 rfl rfl
 have x1 := HK2.out.cell 0 1 rfl rfl
 have x2 := HK2.out.cell 0 2 rfl rfl
 clear hri hrj hze hst hxs hys hstep hlen hA hB hlA hNA hlB hNB hNN hsx hsy
 go_enter Tryz.func44, Tryz.ntmps44
 go_wp2_with fail
 change Calls _ _ _ (((w.alloc (mrow (r : Int) (m : Int) (some ⟨gA, 0, none⟩) NA capA)).alloc (mrow (m : Int) (c : Int) (some ⟨gB, 0, none⟩) NB capB)).alloc (mrow 0 0 none 0 0)) _
 generalize ((w.alloc (mrow (r : Int) (m : Int) (some ⟨gA, 0, none⟩) NA capA)).alloc (mrow (m : Int) (c : Int) (some ⟨gB, 0, none⟩) NB capB)).alloc (mrow 0 0 none 0 0) = W2 at *
 with_reducible refine (HRI.out _ (HAS.out _ _ HK2.out).rdw).mono ?_
 rintro e w1 ⟨rfl, hb1⟩
 have HK3 := Lib.hid (HK2.out.step hb1)
 clear x0 x1 x2 hb1 HK2
 have x0 := HK3.out.cell 1 0 rfl rfl
 have x1 := HK3.out.cell 1 1 rfl rfl
 have x2 := HK3.out.cell 1 2 rfl rfl
 go_wp2_with fail
 with_reducible refine (HRJ.out _ (HBS.out _ _ HK3.out).rdw).mono ?_
 rintro e w2 ⟨rfl, hb2⟩
 have HKf := Lib.hid (HK3.out.step hb2)
 clear x0 x1 x2 hb2 HK3
 have x0 := HKf.out.cell 0 0 rfl rfl
 have x1 := HKf.out.cell 0 1 rfl rfl
 have x2 := HKf.out.cell 1 0 rfl rfl
 have x3 := HKf.out.cell 1 1 rfl rfl
 go_wp2_with fail
 with_reducible refine (HZE.out _).mono ?_
 rintro e V1 ⟨g, rfl, hg, hL, hb⟩
 rw [HST.out] at hL
 have HK4 := Lib.hid (show Kg none w (V1.alloc (mrow (r : Int) (c : Int) (some ⟨g, 0, none⟩) NN NN)) [some (w.heap.size, mrow (r : Int) (m : Int) (some ⟨gA, 0, none⟩) NA capA), some (w.heap.size + 1, mrow (m : Int) (c : Int) (some ⟨gB, 0, none⟩) NB capB), some (w.heap.size + 1 + 1, mrow 0 0 none 0 0), some (V1.heap.size, mrow (r : Int) (c : Int) (some ⟨g, 0, none⟩) NN NN), some (g, lwO (enc (prS xs ys r m c 0 0 0)))] from ((HKf.out.room.came 3 rfl hb hg (o := lwO (enc (prS xs ys r m c 0 0 0))) hL).more (mrow (r : Int) (c : Int) (some ⟨g, 0, none⟩) NN NN)).sel [0, 1, 2, 4, 3] (by decide))
 clear hb HKf hg hL x0 x1 x2 x3
 go_wp2_with fail
 change Code.wp _ _ _ _ (V1.alloc (mrow (r : Int) (c : Int) (some ⟨g, 0, none⟩) NN NN))
 generalize V1.alloc (mrow (r : Int) (c : Int) (some ⟨g, 0, none⟩) NN NN) = W4 at *
 generalize V1.heap.size = bT at *
 go_loopw [9] (fun ii wr => ∃ i : Nat, ii = .int .i64 (i : Int) ∧ i ≤ r ∧ Kg none w wr [some (w.heap.size, mrow (r : Int) (m : Int) (some ⟨gA, 0, none⟩) NA capA), some (w.heap.size + 1, mrow (m : Int) (c : Int) (some ⟨gB, 0, none⟩) NB capB), some (w.heap.size + 1 + 1, mrow 0 0 none 0 0), some (bT, mrow (r : Int) (c : Int) (some ⟨g, 0, none⟩) NN NN), some (g, lwO (enc (prS xs ys r m c i 0 0)))]) (fun ii _ => r - (intOf ii).toNat)
 case atStart => exact ⟨0, rfl, Nat.zero_le _, HK4.out⟩
 case round =>
  clear HK4
  obtain ⟨i, rfl, hi, hKi⟩ := hrel
  have HKi := Lib.hid hKi
  have x0 := hKi.cell 0 0 rfl rfl
  clear hKi
  by_cases hli : i < r
  ·go_wp2_with fail
   clear x0
   go_loopw [10] (fun kk wr => ∃ k : Nat, kk = .int .i64 (k : Int) ∧ k ≤ m ∧ Kg none w wr [some (w.heap.size, mrow (r : Int) (m : Int) (some ⟨gA, 0, none⟩) NA capA), some (w.heap.size + 1, mrow (m : Int) (c : Int) (some ⟨gB, 0, none⟩) NB capB), some (w.heap.size + 1 + 1, mrow 0 0 none 0 0), some (bT, mrow (r : Int) (c : Int) (some ⟨g, 0, none⟩) NN NN), some (g, lwO (enc (prS xs ys r m c i k 0)))]) (fun kk _ => m - (intOf kk).toNat)
   case atStart => exact ⟨0, rfl, Nat.zero_le _, HKi.out⟩
   case round =>
    clear HKi
    obtain ⟨k, rfl, hk, hKk⟩ := hrel
    have HKk := Lib.hid hKk
    have x1 := hKk.cell 0 1 rfl rfl
    have x2 := hKk.cell 0 2 rfl rfl
    clear hKk
    by_cases hlk : k < m
    ·obtain ⟨p, q, x, hp, hq, hqN, hx, w1, w2, hcx⟩ := HXS.out i k hli hlk
     obtain ⟨y0, y1⟩ := hcx _ _ HKk.out
     have HX := Lib.hid hx
     clear hp hq hx hcx
     have HKa := Lib.hid (show Kg none w (wr.alloc (wbox (wneg x) (wmag x))) [some (w.heap.size, mrow (r : Int) (m : Int) (some ⟨gA, 0, none⟩) NA capA), some (w.heap.size + 1, mrow (m : Int) (c : Int) (some ⟨gB, 0, none⟩) NB capB), some (w.heap.size + 1 + 1, mrow 0 0 none 0 0), some (bT, mrow (r : Int) (c : Int) (some ⟨g, 0, none⟩) NN NN), some (g, lwO (enc (prS xs ys r m c i k 0))), some (wr.heap.size, wbox (wneg x) (wmag x))] from HKk.out.more (wbox (wneg x) (wmag x)))
     clear HKk
     go_wp2_with fail
     clear x1 x2 y0 y1 w1 w2
     change Code.wp _ _ _ _ (wr.alloc (wbox (wneg x) (wmag x)))
     generalize wr.alloc (wbox (wneg x) (wmag x)) = W8 at *
     generalize wr.heap.size = b8 at *
     by_cases hx0 : x = 0
     ·subst hx0
      have HSK := Lib.hid (prS_skipRow xs ys r m c i k HX.out.symm)
      go_loopw [12] (fun jj wr => jj = .int .i64 0 ∧ Kg none w wr [some (w.heap.size, mrow (r : Int) (m : Int) (some ⟨gA, 0, none⟩) NA capA), some (w.heap.size + 1, mrow (m : Int) (c : Int) (some ⟨gB, 0, none⟩) NB capB), some (w.heap.size + 1 + 1, mrow 0 0 none 0 0), some (bT, mrow (r : Int) (c : Int) (some ⟨g, 0, none⟩) NN NN), some (g, lwO (enc (prS xs ys r m c i k 0))), some (b8, wbox (wneg 0) (wmag 0))]) (fun _ _ => 0)
      case atStart => exact ⟨rfl, HKa.out⟩
      case round =>
       clear HKa
       obtain ⟨rfl, hKb⟩ := hrel
       have HKb := Lib.hid hKb
       have x1 := hKb.cell 1 1 rfl rfl
       have d0 := hKb.cell 5 0 rfl rfl
       have d1 := hKb.cell 5 1 rfl rfl
       unfold wbox at d0 d1
       rw [show wmag 0 = ⟨#[]⟩ from rfl] at d1
       clear hKb
       by_cases hc0 : 0 < c
       ·go_wp2
        go_roundw
        case rel => exact ⟨k + 1, by simp, by omega, by rw [← HSK.out]; exact HKb.out.take 5⟩
        case measure => simp [intOf]; omega
       ·go_wp2
        go_roundw
        case rel => exact ⟨k + 1, by simp, by omega, by rw [← HSK.out]; exact HKb.out.take 5⟩
        case measure => simp [intOf]; omega
     ·have HNX := Lib.hid (wmag_ne x hx0)
      have HNX2 := Lib.hid (mag_ne x hx0)
      go_loopw [12] (fun jj wr => ∃ j : Nat, jj = .int .i64 (j : Int) ∧ j ≤ c ∧ Kg none w wr [some (w.heap.size, mrow (r : Int) (m : Int) (some ⟨gA, 0, none⟩) NA capA), some (w.heap.size + 1, mrow (m : Int) (c : Int) (some ⟨gB, 0, none⟩) NB capB), some (w.heap.size + 1 + 1, mrow 0 0 none 0 0), some (bT, mrow (r : Int) (c : Int) (some ⟨g, 0, none⟩) NN NN), some (g, lwO (enc (prS xs ys r m c i k j))), some (b8, wbox (wneg x) (wmag x))]) (fun jj _ => c - (intOf jj).toNat)
      case atStart => exact ⟨0, rfl, Nat.zero_le _, HKa.out⟩
      case round =>
       clear HKa
       obtain ⟨j, rfl, hj, hKj⟩ := hrel
       have HKj := Lib.hid hKj
       have x1 := hKj.cell 1 1 rfl rfl
       have x2 := hKj.cell 1 2 rfl rfl
       have d0 := hKj.cell 5 0 rfl rfl
       have d1 := hKj.cell 5 1 rfl rfl
       unfold wbox at d0 d1
       have hne := HNX.out
       have hne2 := HNX2.out
       clear hKj
       by_cases hlj : j < c
       ·obtain ⟨p, q, y, hp, hq, hqN, hy, w1, w2, hcy⟩ := HYS.out k j hlk hlj
        obtain ⟨y0, y1⟩ := hcy _ _ HKj.out
        have HY := Lib.hid hy
        clear hp hq hy hcy
        have HKa := Lib.hid (show Kg none w (wr.alloc (wbox (wneg y) (wmag y))) [some (w.heap.size, mrow (r : Int) (m : Int) (some ⟨gA, 0, none⟩) NA capA), some (w.heap.size + 1, mrow (m : Int) (c : Int) (some ⟨gB, 0, none⟩) NB capB), some (w.heap.size + 1 + 1, mrow 0 0 none 0 0), some (bT, mrow (r : Int) (c : Int) (some ⟨g, 0, none⟩) NN NN), some (g, lwO (enc (prS xs ys r m c i k j))), some (b8, wbox (wneg x) (wmag x)), some (wr.heap.size, wbox (wneg y) (wmag y))] from HKj.out.more (wbox (wneg y) (wmag y)))
        clear HKj
        have e0 := HKa.out.cell 6 0 rfl rfl
        have e1 := HKa.out.cell 6 1 rfl rfl
        have e2 := HKa.out.cell 1 1 rfl rfl
        unfold wbox at e0 e1 e2
        by_cases hy0 : y = 0
        ·subst hy0
         have HSK := Lib.hid (prS_skip xs ys r m c i k j HY.out.symm)
         rw [show wmag 0 = ⟨#[]⟩ from rfl] at e1 y1
         rw [show wmag 0 = ⟨#[]⟩ from rfl] at HKa e0 e2
         go_wp2
         go_roundw
         case rel => exact ⟨j + 1, by simp, by omega, by rw [← HSK.out]; exact HKa.out.take 6⟩
         case measure => simp [intOf]; omega
        ·have hne3 := wmag_ne y hy0
         have hne4 := mag_ne y hy0
         obtain ⟨p3, q3, s0, xy, s1, hp3, hq3, hqN3, w3, w4, hs0, hmu, had, hset⟩ := HSTEP.out i k j x y hli hlk hlj HX.out HY.out
         have HS0 := Lib.hid hs0
         have HMU := Lib.hid hmu
         have HAD := Lib.hid had
         have HSET := Lib.hid hset
         clear hp3 hq3 hs0 hmu had hset
         go_wp2_with fail
         clear x1 x2 d0 d1 y0 y1 e0 e1 e2 hne hne2 hne3 hne4 w1 w2 w3 w4
         change Code.wp _ _ _ _ (wr.alloc (wbox (wneg y) (wmag y)))
         generalize wr.alloc (wbox (wneg y) (wmag y)) = W9 at *
         generalize wr.heap.size = b9 at *
         refine wp_region_acts (X := Unit) (fun _ => [(0, 90, .pointer (some ⟨bT, 2, none⟩)), (1, 91, .slice (some ⟨g, 0, none⟩) NN NN), (2, 92, .int .i64 (q3 : Int)), (3, 93, .pointer (some ⟨bT, 2, none⟩)), (4, 94, .slice (some ⟨g, 0, none⟩) NN NN), (5, 95, .int .i64 (q3 : Int)), (6, 96, .pointer (some ⟨g, q3 * 2, none⟩)), (7, 97, .agg #[.bool (wneg s0), .string (wmag s0)]), (8, 98, .agg #[.bool (wneg x), .string (wmag x)]), (9, 99, .agg #[.bool (wneg y), .string (wmag y)]), (10, 100, .agg #[.bool (wneg xy), .string (wmag xy)]), (11, 101, .agg #[.bool (wneg s1), .string (wmag s1)]), (12, 102, .pointer (some ⟨g, q3 * 2, none⟩))])
          (fun _ L W => Kg none w W [some (w.heap.size, mrow (r : Int) (m : Int) (some ⟨gA, 0, none⟩) NA capA), some (w.heap.size + 1, mrow (m : Int) (c : Int) (some ⟨gB, 0, none⟩) NB capB), some (w.heap.size + 1 + 1, mrow 0 0 none 0 0), some (bT, mrow (r : Int) (c : Int) (some ⟨g, 0, none⟩) NN NN), some (g, if L 13 = true then lwO (enc (prS xs ys r m c i k (j + 1))) else lwO (enc (prS xs ys r m c i k j))), some (b8, wbox (wneg x) (wmag x)), some (b9, wbox (wneg y) (wmag y))]) (by kernel_rfl) (by kernel_rfl) () ?st (by kernel_rfl) ?_ ?_
         case st => simpa using HKa.out.drew
         ·simp only [selA, selT_cons, selT_nil, List.set_cons_zero, List.set_cons_succ, List.getD_cons_zero, List.getD_cons_succ]
          repeat' (first | exact ActSteps.nil | refine ActSteps.cons ?_ ?_)
          all_goals
           intro L x' wx hJ hl hd hs K hK
           (try simp [Region.binds] at hd)
           have t0 := hJ.cell 3 2 rfl rfl
           have t1 := hJ.cell 5 0 rfl rfl
           have t2 := hJ.cell 5 1 rfl rfl
           have t3 := hJ.cell 6 0 rfl rfl
           have t4 := hJ.cell 6 1 rfl rfl
           unfold wbox at t1 t2 t3 t4
           try simp only [hd, hl, selV_true, selV_false]
          ·go_simp
           refine hK.out x' _ _ ?_ ?_
           ·simp [hl, hd, selV_true, selV_false]
           ·exact hJ
          ·go_simp
           refine hK.out x' _ _ ?_ ?_
           ·simp [hl, hd, selV_true, selV_false]
           ·exact hJ
          ·go_simp
           refine hK.out x' _ _ ?_ ?_
           ·simp [hl, hd, selV_true, selV_false]
           ·exact hJ
          ·go_simp
           refine hK.out x' _ _ ?_ ?_
           ·simp [hl, hd, selV_true, selV_false]
           ·exact hJ
          ·go_simp
           refine hK.out x' _ _ ?_ ?_
           ·simp [hl, hd, selV_true, selV_false]
           ·exact hJ
          ·go_simp
           refine hK.out x' _ _ ?_ ?_
           ·simp [hl, hd, selV_true, selV_false]
           ·exact hJ
          ·go_simp
           refine hK.out x' _ _ ?_ ?_
           ·simp [hl, hd, selV_true, selV_false]
           ·exact hJ
          ·have hn13 := hs 13 _ rfl (by simp [Region.binds])
           have hB := hJ
           simp only [hn13, Bool.false_eq_true, if_false] at hB
           have hLg : Lw wx g (enc (prS xs ys r m c i k j)) := hB.at_ 4 rfl
           obtain ⟨u0, u1⟩ := cells_at hLg q3 (by have := HLEN.out i k j; rw [enc_length] at this; omega)
           rw [HS0.out] at u0 u1
           clear hLg hB
           go_simp
           refine hK.out x' _ _ ?_ ?_
           ·simp [hl, hd, selV_true, selV_false]
           ·exact hJ
          ·go_simp
           refine hK.out x' _ _ ?_ ?_
           ·simp [hl, hd, selV_true, selV_false]
           ·exact hJ
          ·go_simp
           refine hK.out x' _ _ ?_ ?_
           ·simp [hl, hd, selV_true, selV_false]
           ·exact hJ
          ·go_simp
           with_reducible refine (HMU.out _).mono ?_
           rintro e v ⟨rfl, hb⟩
           refine hK.out x' _ _ ?_ ?_
           ·simp [hl, hd, selV_true, selV_false]
           ·exact hJ.step hb
          ·go_simp
           with_reducible refine (HAD.out _).mono ?_
           rintro e v ⟨rfl, hb⟩
           refine hK.out x' _ _ ?_ ?_
           ·simp [hl, hd, selV_true, selV_false]
           ·exact hJ.step hb
          ·go_simp
           refine hK.out x' _ _ ?_ ?_
           ·simp [hl, hd, selV_true, selV_false]
           ·exact hJ
          ·have hB := hJ
           simp only [hl, Bool.false_eq_true, if_false] at hB
           have hLg : Lw wx g (enc (prS xs ys r m c i k j)) := hB.at_ 4 rfl
           have hql : q3 < (enc (prS xs ys r m c i k j)).length := by rw [HLEN.out]; exact hqN3
           have d0 := hLg.cell0 q3 hql
           have d1 := hLg.cell1 q3 hql
           have f0 := hB.frozen 4 (q3 * 2) rfl
           have f1 := hB.frozen 4 (q3 * 2 + 1) rfl
           generalize ((enc (prS xs ys r m c i k j))[q3]'hql).1 = u0' at d0
           generalize ((enc (prS xs ys r m c i k j))[q3]'hql).2 = u1' at d1
           have hP := hLg.put q3 (wneg s1) (wmag s1)
           rw [HSET.out] at hP
           have HP := Lib.hid hP
           have HB := Lib.hid hB
           clear hP hLg hB
           go_simp
           refine hK.out x' _ _ ?_ ?_
           ·simp [hl, hd, selV_true, selV_false]
           ·have hGr := grownBy_setRow (g := g) (p := ⟨g, q3 * 2 + 1, none⟩) (grownBy_setRow (g := g) (p := ⟨g, q3 * 2, none⟩) (World.grownBy.refl wx _) rfl (.bool (wneg s1))) rfl (.string (wmag s1))
            exact (HB.out.change 4 rfl hGr (o' := lwO (enc (prS xs ys r m c i k (j + 1)))) HP.out).cast (by simp)
         ·rintro _ Wx hKx
          simp only [selA, selT_cons, selT_nil, List.set_cons_zero, List.set_cons_succ, List.getD_cons_zero, List.getD_cons_succ, selV_true]
          simp only [if_true] at hKx
          have HKX := Lib.hid hKx
          clear hKx
          go_wp2
          go_roundw
          case rel => exact ⟨j + 1, by simp, by omega, HKX.out.take 6⟩
          case measure => simp [intOf]; omega
       ·obtain rfl : c = j := by omega
        have HRW := Lib.hid (prS_row xs ys r m c i k)
        go_wp2
        go_roundw
        case rel => exact ⟨k + 1, by simp, by omega, by rw [← HRW.out]; exact HKj.out.take 5⟩
        case measure => simp [intOf]; omega
    ·obtain rfl : m = k := by omega
     have HDN := Lib.hid (prS_done xs ys r m c i)
     go_wp2
     go_roundw
     case rel => exact ⟨i + 1, by simp, by omega, by rw [← HDN.out]; exact HKk.out⟩
     case measure => simp [intOf]; omega
  ·obtain rfl : r = i := by omega
   have HFU := Lib.hid (prS_full xs ys r m c)
   have f0 := HKi.out.frozen 2 0 rfl
   have g0 := HKi.out.cell 2 0 rfl rfl
   have d0 := HKi.out.cell 3 0 rfl rfl
   have f1 := HKi.out.frozen 2 1 rfl
   have g1 := HKi.out.cell 2 1 rfl rfl
   have d1 := HKi.out.cell 3 1 rfl rfl
   have f2 := HKi.out.frozen 2 2 rfl
   have g2 := HKi.out.cell 2 2 rfl rfl
   have d2 := HKi.out.cell 3 2 rfl rfl
   go_wp2_with fail
   have hP := ((HKi.out.put 2 0 rfl (.int .i64 (r : Int))).put 2 1 rfl (.int .i64 (c : Int))).put 2 2 rfl (.slice (some ⟨g, 0, none⟩) NN NN)
   exact bodyPost_ret (results_mat_tmp (b := w.heap.size + 1 + 1) rfl rfl (hP.at_ 2 rfl)) rfl ⟨g, rfl, hP.ge 4 rfl, by rw [← HFU.out]; exact hP.at_ 4 rfl, Kg.below_ hP⟩
end Go.Proofs.YtknaghdoffigjaaGreatDoor
namespace Go.Proofs.YtknaghdoffigjaaGreatDoor
open Go.RowKit Go
theorem same_caps (r c : Int) (A B : Option Addr) (n ca cb : Nat) (xs : List (Bool × ByteArray)) (w : World) (hx : RdW w A xs) (hy : RdW w B xs) (hn : xs.length = n) (hnb : n ≤ 1000000) :
  Calls Tryz.prog 17 #[.agg #[.int .i64 r, .int .i64 c, .slice A n ca], .agg #[.int .i64 r, .int .i64 c, .slice B n cb]] w fun e w' => e = .returned (.bool true) ∧ Below w.heap.size w w' := by
 have h := same_any r c r c A B n n ca cb xs xs w hx hy hn hn hnb hnb
 rw [decide_eq_true rfl, decide_eq_true rfl, decide_eq_true rfl] at h
 exact h
def RdL (w : World) (l : List (Option Addr × List (Bool × ByteArray))) : Prop := ∀ p ∈ l, RdW w p.1 p.2
theorem RdL.below {w w' : World} {l : List (Option Addr × List (Bool × ByteArray))} (h : RdL w l) (hb : Below w.heap.size w w') : RdL w' l := fun p hp => (h p hp).below hb
theorem RdL.alloc {w : World} {l : List (Option Addr × List (Bool × ByteArray))} (h : RdL w l) (o : Obj) : RdL (w.alloc o) l := h.below ((Below.refl _ _).alloc (Nat.le_refl _) o)
theorem RdL.more {w : World} {l : List (Option Addr × List (Bool × ByteArray))} (h : RdL w l) {A : Option Addr} {zs : List (Bool × ByteArray)} (ha : RdW w A zs) : RdL w (l ++ [(A, zs)]) := fun p hp => by
 rcases List.mem_append.1 hp with hp | hp
 ·exact h p hp
 ·rcases List.mem_singleton.1 hp with rfl
  exact ha
theorem RdW.matput {w : World} {A : Option Addr} {zs : List (Bool × ByteArray)} (h : RdW w A zs) {b : Nat} {r c : Int} {A' : Option Addr} {n cap : Nat} {ty : TypeId} {fr : Nat × Nat} (hb : w.heap[b]? = some (.cells #[.int .i64 r, .int .i64 c, .slice A' n cap] ty fr)) (i : Nat) (v : Value) : RdW (w.setCell ⟨b, i, none⟩ v) A zs := fun k hk => by
 obtain ⟨a, e, ha, h1, h2⟩ := h k hk
 have hne : a.block ≠ b := by
  intro hab
  have hab2 : (a.add (k * 2)).block = b := by rw [block_add]; exact hab
  unfold World.cell? at h1
  rw [hab2, hb] at h1
  simp only at h1
  split at h1
  ·cases h1
  ·generalize (a.add (k * 2)).off = o at h1
   match o, h1 with
   | 0, h1 => simp at h1
   | 1, h1 => simp at h1
   | 2, h1 => simp at h1
   | o + 3, h1 => simp at h1
 have hk2 : (w.setCell ⟨b, i, none⟩ v).heap[a.block]? = w.heap[a.block]? := Below.heap_setCell w _ v _ (by simpa using hne)
 refine ⟨a, e, by simpa [World.setCell] using ha, ?_, ?_⟩
 ·rw [World.cell?_of_block (w := w) (by rw [block_add]; exact hk2)]; exact h1
 ·rw [World.cell?_of_block (w := w) (by simp only []; rw [block_add]; exact hk2)]; exact h2
theorem RdL.matput {w : World} {l : List (Option Addr × List (Bool × ByteArray))} (h : RdL w l) {b : Nat} {r c : Int} {A' : Option Addr} {n cap : Nat} {ty : TypeId} {fr : Nat × Nat} (hb : w.heap[b]? = some (.cells #[.int .i64 r, .int .i64 c, .slice A' n cap] ty fr)) (i : Nat) (v : Value) : RdL (w.setCell ⟨b, i, none⟩ v) l := fun p hp => (h p hp).matput hb i v
theorem RdL.nil (w : World) : RdL w [] := fun p hp => absurd hp (by simp)
def entM (a s : Bool) (b : Nat) (o : Obj) : Option (Nat × Obj) := if a = true then some (b, if s = true then o else mrow 0 0 none 0 0) else none
theorem entM_no (s : Bool) (b : Nat) (o : Obj) : entM false s b o = none := rfl
theorem entM_new (b : Nat) (o : Obj) : entM true false b o = some (b, mrow 0 0 none 0 0) := rfl
theorem entM_full (b : Nat) (o : Obj) : entM true true b o = some (b, o) := rfl
def entV (a : Bool) (b : Nat) : Option (Nat × Obj) := if a = true then some (b, mrow 0 0 none 0 0) else none
theorem entM_false (a : Bool) (b : Nat) (o : Obj) : entM a false b o = entV a b := by cases a <;> rfl
theorem lt_of_false {x : Bool} {y : Bool} (h : x = true → y = true) (hy : y = false) : x = false := by
 cases x with
 | false => rfl
 | true => rw [h rfl] at hy; cases hy
end Go.Proofs.YtknaghdoffigjaaGreatDoor
