import Derived.Test.YtknaghdoffigjaaGreatDoorMRefP
import Derived.Test.YtknaghdoffigjaaGreatDoorMMulR
import Derived.Test.YtknaghdoffigjaaGreatDoorMMulX
set_option linter.unusedSimpArgs false
set_option linter.unusedVariables false
set_option linter.unnecessarySimpa false
namespace Go.Proofs.YtknaghdoffigjaaGreatDoor
open Go.RowKit Go
attribute [local go_sem] Oper.semAt_some
theorem take_next (Ls : List Int) (k : Nat) (h : k < Ls.length) : Ls.take (k + 1) = Ls.take k ++ [Ls.getD k 0] := by
 rw [List.take_add_one, List.getD_eq_getElem?_getD, List.getElem?_eq_getElem h]
 rfl
theorem two_new (w : World) (x y : Value) (t : TypeId) : ∀ j u, [x, y][j]? = some u → (w.alloc (.cells #[x, y] t)).cell? ((⟨w.heap.size, 0, none⟩ : Addr).add j) = some u := by
 intro j u hj
 match j, hj with
 | 0, hj => simp at hj; subst hj; simp [Addr.add]
 | 1, hj => simp at hj; subst hj; simp [Addr.add]
 | j + 2, hj => simp at hj
set_option maxRecDepth 100000 in
set_option maxHeartbeats 4000000 in
theorem Numbers_any (A : Option Addr) (n cap : Nat) (Ls : List Int) (w : World) (hR : RdI w A Ls) (hn : Ls.length = n) (hn2 : n ≤ 200) (hb : ∀ j, -9223372036854775808 ≤ Ls.getD j 0 ∧ Ls.getD j 0 ≤ 9223372036854775807) :
  Calls Tryz.prog 45 #[.slice A n cap] w fun e w' => ∃ v, e = .returned v ∧ OwW w' w.heap.size v Ls ∧ Below w.heap.size w w' := by
 obtain ⟨i0, hi, hz0, hz1, hz2⟩ := info_parts info_wideT
 have HI := Lib.hid hi
 have HZ := Lib.hid hz0
 have HR := Lib.hid hR
 have HN := Lib.hid hn
 have HRF := Lib.hid (fun (k : Nat) W => RFrom_any (Ls.getD k 0) W (hb k).1 (hb k).2)
 clear hi hz0 hR hn hb
 go_enter Tryz.func45, Tryz.ntmps45
 go_wp2_with fail
 go_loopw [3, 4] (fun sl ii wr => ∃ (v : Value) (k : Nat), v = sl ∧ ii = .int .i64 (k : Int) ∧ k ≤ n ∧ OwW wr w.heap.size v (Ls.take k) ∧ Below w.heap.size w wr) (fun _ ii _ => n - (intOf ii).toNat)
 case atStart => exact ⟨_, 0, rfl, rfl, Nat.zero_le _, OwW.nil _ _, Below.refl _ _⟩
 case round =>
  obtain ⟨v, k, rfl, rfl, hk, hO, hB⟩ := hrel
  by_cases hlt : k < n
  ·obtain ⟨b, rfl, hbb, r2⟩ := (HR.out.below hB) k (by rw [HN.out]; exact hlt)
   have hrf := fun W => HRF.out k W
   have hnx := take_next Ls k (by rw [HN.out]; exact hlt)
   have htl : (Ls.take k).length = k := by rw [List.length_take, HN.out]; omega
   generalize Ls.getD k 0 = z at *
   have HRFk := Lib.hid hrf
   have HNX := Lib.hid hnx
   have HO := Lib.hid hO
   have HB := Lib.hid hB
   have HTL := Lib.hid htl
   clear hrf hnx hO hB htl
   go_wp2_with fail
   with_reducible refine (HRFk.out _).mono ?_
   rintro e V1 ⟨rfl, hb1⟩
   clear r2
   have HO1 := Lib.hid (OwW.block HO.out fun i _ hi => hb1.block i hi)
   have HB1 := Lib.hid (HB.out.trans (hb1.mono HB.out.size))
   clear hb1
   go_wp2_with (at_builtin; refine wpList_append_own _ rfl (.tmp 11) (.tmp 17) 26 rfl w.heap.size 32 i0 (.agg #[.bool false, .string ⟨#[]⟩]) 2 24 Tryz.underlying26 HI.out HZ.out hz1 hz2 rfl (by decide) _ (Ls.take k).length (flat (enc (Ls.take k))) rfl (World.ownsRow.alloc HO1.out _) ⟨V1.heap.size, 0, none⟩ 1 1 [.bool (wneg z), .string (wmag z)] rfl rfl (two_new _ _ _ _) (fun x hx => by simp at hx; rcases hx with rfl | rfl <;> rfl) (by rw [HTL.out]; unfold maxLen; omega) (by rw [HTL.out]; omega) (by have := HB1.out.size; simp; omega) ?_; intro v2 w2 hown2 hgrow2 _)
   have hO2 : OwW w2 w.heap.size v2 (Ls.take (k + 1)) := by
    unfold OwW
    rw [HNX.out, List.length_append, enc_append, flat_append]
    exact hown2
   have HO2 := Lib.hid hO2
   go_roundw
   case rel => exact ⟨v2, k + 1, rfl, by simp, by omega, HO2.out, (HB1.out.alloc HB1.out.size _).grown hgrow2 (by have := HB1.out.size; simp; omega) (fun q hq => by have := OwW.own HO1.out q hq; omega)⟩
   case measure => simp [intOf]; omega
  ·obtain rfl : n = k := by omega
   rw [List.take_of_length_le (by rw [HN.out]; omega)] at hO
   have HO := Lib.hid hO
   have HB := Lib.hid hB
   clear hO hB
   go_wp2
   go_ret
   exact ⟨_, rfl, HO.out, HB.out⟩
end Go.Proofs.YtknaghdoffigjaaGreatDoor
namespace Go.Proofs.YtknaghdoffigjaaGreatDoor
open Go.RowKit Go
attribute [local go_sem] Oper.semAt_some
set_option maxRecDepth 100000 in
set_option maxHeartbeats 8000000 in
theorem rMul_okX (B : Option Addr) (gA r m c NA capA NB capB NN : Nat) (xs ys : List Int) (w : World) (hA : Lw w gA (enc xs)) (hB : RdW w B (enc ys)) (hlA : xs.length = r * m) (hNA : NA = r * m) (hcA : NA ≤ capA) (hmA : capA ≤ maxLen) (hlB : ys.length = m * c) (hNB : NB = m * c) (hcB : NB ≤ capB) (hmB : capB ≤ maxLen) (hr : r ≤ 200) (hm : m ≤ 200) (hc : c ≤ 200) (hNN : r * c = NN) (hsx : ∀ q, (wmag (xs.getD q 0)).size ≤ 100) (hsy : ∀ q, (wmag (ys.getD q 0)).size ≤ 100) :
  Calls Tryz.prog 44 #[mat r m (some ⟨gA, 0, none⟩) NA capA, mat m c B NB capB] w fun e w' => ∃ g, e = .returned (.tuple #[mat r c (some ⟨g, 0, none⟩) NN NN, .bool true]) ∧ w.heap.size ≤ g ∧ Lw w' g (enc (mulL xs ys r m c)) ∧ Below w.heap.size w w' := by
 have hNN2 : NN ≤ 40000 := by rw [← hNN]; exact Nat.le_trans (Nat.mul_le_mul hr hc) (by omega)
 have hNA2 : NA ≤ 40000 := by rw [hNA]; exact Nat.le_trans (Nat.mul_le_mul hr hm) (by omega)
 have hNB2 : NB ≤ 40000 := by rw [hNB]; exact Nat.le_trans (Nat.mul_le_mul hm hc) (by omega)
 have hri := fun W hW => rRight_any (r : Int) (m : Int) (some ⟨gA, 0, none⟩) NA capA (enc xs) W hW (by rw [enc_length, hlA, hNA]) (by omega)
 rw [mright_ints r m xs hlA hr hm] at hri
 have hrj := fun W hW => rRight_any (m : Int) (c : Int) B NB capB (enc ys) W hW (by rw [enc_length, hlB, hNB]) (by omega)
 rw [mright_ints m c ys hlB hm hc] at hrj
 have hze := fun W => rZero_fits r c NN W hr hc hNN
 have hst : List.replicate NN (false, (⟨#[]⟩ : ByteArray)) = enc (prS xs ys r m c 0 0 0) := by rw [prS_zero, hNN, enc_zeros]
 have hgA := heap_lt hA
 have hxs : ∀ i k, i < r → k < m → ∃ p q x, p = i * m ∧ q = p + k ∧ q < NA ∧ x = xs.getD (i * m + k) 0 ∧ IntKind.i64.wrap ((i : Int) * (m : Int)) = (p : Int) ∧ IntKind.i64.wrap ((p : Int) + (k : Int)) = (q : Int) ∧
   (∀ W l, Kg none w W l → W.cell? ⟨gA, q * 2, none⟩ = some (.bool (wneg x)) ∧ W.cell? ⟨gA, q * 2 + 1, none⟩ = some (.string (wmag x))) := fun i k hi hk => by
  have hin := in_table hi hk
  refine ⟨i * m, i * m + k, _, rfl, rfl, by omega, rfl, ?_, ?_, fun W l h => cells_at ((h.1.block gA hgA (by simp)).trans hA) _ (by omega)⟩
  ·rw [← Int.natCast_mul]; exact IntWalk.i64_in _ (by omega)
  ·rw [← Int.natCast_add]; exact IntWalk.i64_in _ (by omega)
 have hys : ∀ k j, k < m → j < c → ∃ p q y, p = k * c ∧ q = p + j ∧ q < NB ∧ y = ys.getD (k * c + j) 0 ∧ IntKind.i64.wrap ((k : Int) * (c : Int)) = (p : Int) ∧ IntKind.i64.wrap ((p : Int) + (j : Int)) = (q : Int) ∧
   (∀ W l, Kg none w W l → ∃ bb, B = some bb ∧ bb.block < W.heap.size ∧ W.cell? (bb.add (q * 2)) = some (.bool (wneg y)) ∧ W.cell? ⟨(bb.add (q * 2)).block, (bb.add (q * 2)).off + 1, none⟩ = some (.string (wmag y))) := fun k j hk hj => by
  have hin := in_table hk hj
  refine ⟨k * c, k * c + j, _, rfl, rfl, by omega, rfl, ?_, ?_, fun W l h => cell_pair (hB.below (Kg.below_ h)) _ (by omega)⟩
  ·rw [← Int.natCast_mul]; exact IntWalk.i64_in _ (by omega)
  ·rw [← Int.natCast_add]; exact IntWalk.i64_in _ (by omega)
 have hstep : ∀ i k j x y, i < r → k < m → j < c → x = xs.getD (i * m + k) 0 → y = ys.getD (k * c + j) 0 → ∃ p q s0 xy s1, p = i * c ∧ q = p + j ∧ q < NN ∧ IntKind.i64.wrap ((i : Int) * (c : Int)) = (p : Int) ∧ IntKind.i64.wrap ((p : Int) + (j : Int)) = (q : Int) ∧
   (prS xs ys r m c i k j).getD q 0 = s0 ∧
   (∀ W, Calls Tryz.prog 75 #[.agg #[.bool (wneg x), .string (wmag x)], .agg #[.bool (wneg y), .string (wmag y)]] W fun e w' => e = .returned (.agg #[.bool (wneg xy), .string (wmag xy)]) ∧ Below W.heap.size W w') ∧
   (∀ W, Calls Tryz.prog 90 #[.agg #[.bool (wneg s0), .string (wmag s0)], .agg #[.bool (wneg xy), .string (wmag xy)]] W fun e w' => e = .returned (.agg #[.bool (wneg s1), .string (wmag s1)]) ∧ Below W.heap.size W w') ∧
   (enc (prS xs ys r m c i k j)).set q (wneg s1, wmag s1) = enc (prS xs ys r m c i k (j + 1)) := fun i k j x y hi hk hj hx hy => by
  have hin := in_table hi hj
  have h1 := hsx (i * m + k)
  have h2 := hsy (k * c + j)
  rw [← hx] at h1
  rw [← hy] at h2
  have hsz1 : (wmag (x * y)).size ≤ 200 := wmag_size _ _ (by rw [hx, hy]; exact mul_abs _ _ (hsx _) (hsy _))
  have hd1 : dotI xs ys m c i j (k + 1) = dotI xs ys m c i j k + x * y := by rw [hx, hy]; rfl
  have hsz0 : (wmag (dotI xs ys m c i j k)).size ≤ 201 := wmag_size _ _ (dot_abs xs ys m c i j k (by omega) hsx hsy)
  refine ⟨i * c, i * c + j, dotI xs ys m c i j k, x * y, dotI xs ys m c i j k + x * y, rfl, rfl, by omega, ?_, ?_, prS_at xs ys r m c i k j hi hj, fun W => ?_, fun W => ?_, ?_⟩
  ·rw [← Int.natCast_mul]; exact IntWalk.i64_in _ (by omega)
  ·rw [← Int.natCast_add]; exact IntWalk.i64_in _ (by omega)
  ·exact RMul_any _ _ _ _ W (by omega) (by omega) _ (by rw [wint_nm, wint_nm])
  ·exact RAdd_any _ _ _ _ W (by omega) (by omega) _ (by rw [wint_nm, wint_nm])
  ·rw [encSet, ← hd1, prS_set xs ys r m c i k j hi hj]
 have hlen : ∀ i k j, (enc (prS xs ys r m c i k j)).length = NN := fun i k j => by rw [enc_length, prS_length, hNN]
 unfold mat at *
 have HRI := Lib.hid hri
 have HRJ := Lib.hid hrj
 have HZE := Lib.hid hze
 have HST := Lib.hid hst
 have HXS := Lib.hid hxs
 have HYS := Lib.hid hys
 have HSTEP := Lib.hid hstep
 have HLEN := Lib.hid hlen
 have HAS := Lib.hid (show ∀ W l, Kg none w W l → Lw W gA (enc xs) from fun W l h => (h.1.block gA hgA (by simp)).trans hA)
 have HBS := Lib.hid (show ∀ W l, Kg none w W l → RdW W B (enc ys) from fun W l h => hB.below (Kg.below_ h))
 have HK2 := Lib.hid (((((Kg.none_ none w 0).more (mrow (r : Int) (m : Int) (some ⟨gA, 0, none⟩) NA capA)).more (mrow (m : Int) (c : Int) B NB capB)).more (mrow 0 0 none 0 0)).cast (l' := [some (w.heap.size, mrow (r : Int) (m : Int) (some ⟨gA, 0, none⟩) NA capA), some (w.heap.size + 1, mrow (m : Int) (c : Int) B NB capB), some (w.heap.size + 1 + 1, mrow 0 0 none 0 0)]) (by simp))
 have x0 := HK2.out.cell 0 0 rfl rfl
 have x1 := HK2.out.cell 0 1 rfl rfl
 have x2 := HK2.out.cell 0 2 rfl rfl
 clear hri hrj hze hst hxs hys hstep hlen hA hB hlA hNA hlB hNB hNN hsx hsy
 go_enter Tryz.func44, Tryz.ntmps44
 go_wp2_with fail
 change Calls _ _ _ (((w.alloc (mrow (r : Int) (m : Int) (some ⟨gA, 0, none⟩) NA capA)).alloc (mrow (m : Int) (c : Int) B NB capB)).alloc (mrow 0 0 none 0 0)) _
 generalize ((w.alloc (mrow (r : Int) (m : Int) (some ⟨gA, 0, none⟩) NA capA)).alloc (mrow (m : Int) (c : Int) B NB capB)).alloc (mrow 0 0 none 0 0) = W2 at *
 with_reducible refine (HRI.out _ (HAS.out _ _ HK2.out).rdw).mono ?_
 rintro e w1 ⟨rfl, hb1⟩
 have HK3 := Lib.hid (HK2.out.step hb1)
 clear x0 x1 x2 hb1 HK2
 have x0 := HK3.out.cell 1 0 rfl rfl
 have x1 := HK3.out.cell 1 1 rfl rfl
 have x2 := HK3.out.cell 1 2 rfl rfl
 go_wp2_with fail
 with_reducible refine (HRJ.out _ (HBS.out _ _ HK3.out)).mono ?_
 rintro e w2 ⟨rfl, hb2⟩
 have HKf := Lib.hid (HK3.out.step hb2)
 clear x0 x1 x2 hb2 HK3
 have x0 := HKf.out.cell 0 0 rfl rfl
 have x1 := HKf.out.cell 0 1 rfl rfl
 have x2 := HKf.out.cell 1 0 rfl rfl
 have x3 := HKf.out.cell 1 1 rfl rfl
 go_wp2_with fail
 with_reducible refine (HZE.out _).mono ?_
 rintro e V1 ⟨g, rfl, hg, hL, hb⟩
 rw [HST.out] at hL
 have HK4 := Lib.hid (show Kg none w (V1.alloc (mrow (r : Int) (c : Int) (some ⟨g, 0, none⟩) NN NN)) [some (w.heap.size, mrow (r : Int) (m : Int) (some ⟨gA, 0, none⟩) NA capA), some (w.heap.size + 1, mrow (m : Int) (c : Int) B NB capB), some (w.heap.size + 1 + 1, mrow 0 0 none 0 0), some (V1.heap.size, mrow (r : Int) (c : Int) (some ⟨g, 0, none⟩) NN NN), some (g, lwO (enc (prS xs ys r m c 0 0 0)))] from ((HKf.out.room.came 3 rfl hb hg (o := lwO (enc (prS xs ys r m c 0 0 0))) hL).more (mrow (r : Int) (c : Int) (some ⟨g, 0, none⟩) NN NN)).sel [0, 1, 2, 4, 3] (by decide))
 clear hb HKf hg hL x0 x1 x2 x3
 go_wp2_with fail
 change Code.wp _ _ _ _ (V1.alloc (mrow (r : Int) (c : Int) (some ⟨g, 0, none⟩) NN NN))
 generalize V1.alloc (mrow (r : Int) (c : Int) (some ⟨g, 0, none⟩) NN NN) = W4 at *
 generalize V1.heap.size = bT at *
 go_loopw [9] (fun ii wr => ∃ i : Nat, ii = .int .i64 (i : Int) ∧ i ≤ r ∧ Kg none w wr [some (w.heap.size, mrow (r : Int) (m : Int) (some ⟨gA, 0, none⟩) NA capA), some (w.heap.size + 1, mrow (m : Int) (c : Int) B NB capB), some (w.heap.size + 1 + 1, mrow 0 0 none 0 0), some (bT, mrow (r : Int) (c : Int) (some ⟨g, 0, none⟩) NN NN), some (g, lwO (enc (prS xs ys r m c i 0 0)))]) (fun ii _ => r - (intOf ii).toNat)
 case atStart => exact ⟨0, rfl, Nat.zero_le _, HK4.out⟩
 case round =>
  clear HK4
  obtain ⟨i, rfl, hi, hKi⟩ := hrel
  have HKi := Lib.hid hKi
  have x0 := hKi.cell 0 0 rfl rfl
  clear hKi
  by_cases hli : i < r
  ·go_wp2_with fail
   clear x0
   go_loopw [10] (fun kk wr => ∃ k : Nat, kk = .int .i64 (k : Int) ∧ k ≤ m ∧ Kg none w wr [some (w.heap.size, mrow (r : Int) (m : Int) (some ⟨gA, 0, none⟩) NA capA), some (w.heap.size + 1, mrow (m : Int) (c : Int) B NB capB), some (w.heap.size + 1 + 1, mrow 0 0 none 0 0), some (bT, mrow (r : Int) (c : Int) (some ⟨g, 0, none⟩) NN NN), some (g, lwO (enc (prS xs ys r m c i k 0)))]) (fun kk _ => m - (intOf kk).toNat)
   case atStart => exact ⟨0, rfl, Nat.zero_le _, HKi.out⟩
   case round =>
    clear HKi
    obtain ⟨k, rfl, hk, hKk⟩ := hrel
    have HKk := Lib.hid hKk
    have x1 := hKk.cell 0 1 rfl rfl
    have x2 := hKk.cell 0 2 rfl rfl
    clear hKk
    by_cases hlk : k < m
    ·obtain ⟨p, q, x, hp, hq, hqN, hx, w1, w2, hcx⟩ := HXS.out i k hli hlk
     obtain ⟨y0, y1⟩ := hcx _ _ HKk.out
     have HX := Lib.hid hx
     clear hp hq hx hcx
     have HKa := Lib.hid (show Kg none w (wr.alloc (wbox (wneg x) (wmag x))) [some (w.heap.size, mrow (r : Int) (m : Int) (some ⟨gA, 0, none⟩) NA capA), some (w.heap.size + 1, mrow (m : Int) (c : Int) B NB capB), some (w.heap.size + 1 + 1, mrow 0 0 none 0 0), some (bT, mrow (r : Int) (c : Int) (some ⟨g, 0, none⟩) NN NN), some (g, lwO (enc (prS xs ys r m c i k 0))), some (wr.heap.size, wbox (wneg x) (wmag x))] from HKk.out.more (wbox (wneg x) (wmag x)))
     clear HKk
     go_wp2_with fail
     clear x1 x2 y0 y1 w1 w2
     change Code.wp _ _ _ _ (wr.alloc (wbox (wneg x) (wmag x)))
     generalize wr.alloc (wbox (wneg x) (wmag x)) = W8 at *
     generalize wr.heap.size = b8 at *
     by_cases hx0 : x = 0
     ·subst hx0
      have HSK := Lib.hid (prS_skipRow xs ys r m c i k HX.out.symm)
      go_loopw [12] (fun jj wr => jj = .int .i64 0 ∧ Kg none w wr [some (w.heap.size, mrow (r : Int) (m : Int) (some ⟨gA, 0, none⟩) NA capA), some (w.heap.size + 1, mrow (m : Int) (c : Int) B NB capB), some (w.heap.size + 1 + 1, mrow 0 0 none 0 0), some (bT, mrow (r : Int) (c : Int) (some ⟨g, 0, none⟩) NN NN), some (g, lwO (enc (prS xs ys r m c i k 0))), some (b8, wbox (wneg 0) (wmag 0))]) (fun _ _ => 0)
      case atStart => exact ⟨rfl, HKa.out⟩
      case round =>
       clear HKa
       obtain ⟨rfl, hKb⟩ := hrel
       have HKb := Lib.hid hKb
       have x1 := hKb.cell 1 1 rfl rfl
       have d0 := hKb.cell 5 0 rfl rfl
       have d1 := hKb.cell 5 1 rfl rfl
       unfold wbox at d0 d1
       rw [show wmag 0 = ⟨#[]⟩ from rfl] at d1
       clear hKb
       by_cases hc0 : 0 < c
       ·go_wp2
        go_roundw
        case rel => exact ⟨k + 1, by simp, by omega, by rw [← HSK.out]; exact HKb.out.take 5⟩
        case measure => simp [intOf]; omega
       ·go_wp2
        go_roundw
        case rel => exact ⟨k + 1, by simp, by omega, by rw [← HSK.out]; exact HKb.out.take 5⟩
        case measure => simp [intOf]; omega
     ·have HNX := Lib.hid (wmag_ne x hx0)
      have HNX2 := Lib.hid (mag_ne x hx0)
      go_loopw [12] (fun jj wr => ∃ j : Nat, jj = .int .i64 (j : Int) ∧ j ≤ c ∧ Kg none w wr [some (w.heap.size, mrow (r : Int) (m : Int) (some ⟨gA, 0, none⟩) NA capA), some (w.heap.size + 1, mrow (m : Int) (c : Int) B NB capB), some (w.heap.size + 1 + 1, mrow 0 0 none 0 0), some (bT, mrow (r : Int) (c : Int) (some ⟨g, 0, none⟩) NN NN), some (g, lwO (enc (prS xs ys r m c i k j))), some (b8, wbox (wneg x) (wmag x))]) (fun jj _ => c - (intOf jj).toNat)
      case atStart => exact ⟨0, rfl, Nat.zero_le _, HKa.out⟩
      case round =>
       clear HKa
       obtain ⟨j, rfl, hj, hKj⟩ := hrel
       have HKj := Lib.hid hKj
       have x1 := hKj.cell 1 1 rfl rfl
       have x2 := hKj.cell 1 2 rfl rfl
       have d0 := hKj.cell 5 0 rfl rfl
       have d1 := hKj.cell 5 1 rfl rfl
       unfold wbox at d0 d1
       have hne := HNX.out
       have hne2 := HNX2.out
       clear hKj
       by_cases hlj : j < c
       ·obtain ⟨p, q, y, hp, hq, hqN, hy, w1, w2, hcy⟩ := HYS.out k j hlk hlj
        obtain ⟨bb, rfl, hbb, y0, y1⟩ := hcy _ _ HKj.out
        clear hbb
        have HY := Lib.hid hy
        clear hp hq hy hcy
        have HKa := Lib.hid (show Kg none w (wr.alloc (wbox (wneg y) (wmag y))) [some (w.heap.size, mrow (r : Int) (m : Int) (some ⟨gA, 0, none⟩) NA capA), some (w.heap.size + 1, mrow (m : Int) (c : Int) (some bb) NB capB), some (w.heap.size + 1 + 1, mrow 0 0 none 0 0), some (bT, mrow (r : Int) (c : Int) (some ⟨g, 0, none⟩) NN NN), some (g, lwO (enc (prS xs ys r m c i k j))), some (b8, wbox (wneg x) (wmag x)), some (wr.heap.size, wbox (wneg y) (wmag y))] from HKj.out.more (wbox (wneg y) (wmag y)))
        clear HKj
        have e0 := HKa.out.cell 6 0 rfl rfl
        have e1 := HKa.out.cell 6 1 rfl rfl
        have e2 := HKa.out.cell 1 1 rfl rfl
        unfold wbox at e0 e1 e2
        by_cases hy0 : y = 0
        ·subst hy0
         have HSK := Lib.hid (prS_skip xs ys r m c i k j HY.out.symm)
         rw [show wmag 0 = ⟨#[]⟩ from rfl] at e1 y1
         rw [show wmag 0 = ⟨#[]⟩ from rfl] at HKa e0 e2
         go_wp2
         go_roundw
         case rel => exact ⟨j + 1, by simp, by omega, by rw [← HSK.out]; exact HKa.out.take 6⟩
         case measure => simp [intOf]; omega
        ·have hne3 := wmag_ne y hy0
         have hne4 := mag_ne y hy0
         obtain ⟨p3, q3, s0, xy, s1, hp3, hq3, hqN3, w3, w4, hs0, hmu, had, hset⟩ := HSTEP.out i k j x y hli hlk hlj HX.out HY.out
         have HS0 := Lib.hid hs0
         have HMU := Lib.hid hmu
         have HAD := Lib.hid had
         have HSET := Lib.hid hset
         clear hp3 hq3 hs0 hmu had hset
         go_wp2_with fail
         clear x1 x2 d0 d1 y0 y1 e0 e1 e2 hne hne2 hne3 hne4 w1 w2 w3 w4
         change Code.wp _ _ _ _ (wr.alloc (wbox (wneg y) (wmag y)))
         generalize wr.alloc (wbox (wneg y) (wmag y)) = W9 at *
         generalize wr.heap.size = b9 at *
         refine wp_region_acts (X := Unit) (fun _ => [(0, 90, .pointer (some ⟨bT, 2, none⟩)), (1, 91, .slice (some ⟨g, 0, none⟩) NN NN), (2, 92, .int .i64 (q3 : Int)), (3, 93, .pointer (some ⟨bT, 2, none⟩)), (4, 94, .slice (some ⟨g, 0, none⟩) NN NN), (5, 95, .int .i64 (q3 : Int)), (6, 96, .pointer (some ⟨g, q3 * 2, none⟩)), (7, 97, .agg #[.bool (wneg s0), .string (wmag s0)]), (8, 98, .agg #[.bool (wneg x), .string (wmag x)]), (9, 99, .agg #[.bool (wneg y), .string (wmag y)]), (10, 100, .agg #[.bool (wneg xy), .string (wmag xy)]), (11, 101, .agg #[.bool (wneg s1), .string (wmag s1)]), (12, 102, .pointer (some ⟨g, q3 * 2, none⟩))])
          (fun _ L W => Kg none w W [some (w.heap.size, mrow (r : Int) (m : Int) (some ⟨gA, 0, none⟩) NA capA), some (w.heap.size + 1, mrow (m : Int) (c : Int) (some bb) NB capB), some (w.heap.size + 1 + 1, mrow 0 0 none 0 0), some (bT, mrow (r : Int) (c : Int) (some ⟨g, 0, none⟩) NN NN), some (g, if L 13 = true then lwO (enc (prS xs ys r m c i k (j + 1))) else lwO (enc (prS xs ys r m c i k j))), some (b8, wbox (wneg x) (wmag x)), some (b9, wbox (wneg y) (wmag y))]) (by kernel_rfl) (by kernel_rfl) () ?st (by kernel_rfl) ?_ ?_
         case st => simpa using HKa.out.drew
         ·simp only [selA, selT_cons, selT_nil, List.set_cons_zero, List.set_cons_succ, List.getD_cons_zero, List.getD_cons_succ]
          repeat' (first | exact ActSteps.nil | refine ActSteps.cons ?_ ?_)
          all_goals
           intro L x' wx hJ hl hd hs K hK
           (try simp [Region.binds] at hd)
           have t0 := hJ.cell 3 2 rfl rfl
           have t1 := hJ.cell 5 0 rfl rfl
           have t2 := hJ.cell 5 1 rfl rfl
           have t3 := hJ.cell 6 0 rfl rfl
           have t4 := hJ.cell 6 1 rfl rfl
           unfold wbox at t1 t2 t3 t4
           try simp only [hd, hl, selV_true, selV_false]
          ·go_simp
           refine hK.out x' _ _ ?_ ?_
           ·simp [hl, hd, selV_true, selV_false]
           ·exact hJ
          ·go_simp
           refine hK.out x' _ _ ?_ ?_
           ·simp [hl, hd, selV_true, selV_false]
           ·exact hJ
          ·go_simp
           refine hK.out x' _ _ ?_ ?_
           ·simp [hl, hd, selV_true, selV_false]
           ·exact hJ
          ·go_simp
           refine hK.out x' _ _ ?_ ?_
           ·simp [hl, hd, selV_true, selV_false]
           ·exact hJ
          ·go_simp
           refine hK.out x' _ _ ?_ ?_
           ·simp [hl, hd, selV_true, selV_false]
           ·exact hJ
          ·go_simp
           refine hK.out x' _ _ ?_ ?_
           ·simp [hl, hd, selV_true, selV_false]
           ·exact hJ
          ·go_simp
           refine hK.out x' _ _ ?_ ?_
           ·simp [hl, hd, selV_true, selV_false]
           ·exact hJ
          ·have hn13 := hs 13 _ rfl (by simp [Region.binds])
           have hB := hJ
           simp only [hn13, Bool.false_eq_true, if_false] at hB
           have hLg : Lw wx g (enc (prS xs ys r m c i k j)) := hB.at_ 4 rfl
           obtain ⟨u0, u1⟩ := cells_at hLg q3 (by have := HLEN.out i k j; rw [enc_length] at this; omega)
           rw [HS0.out] at u0 u1
           clear hLg hB
           go_simp
           refine hK.out x' _ _ ?_ ?_
           ·simp [hl, hd, selV_true, selV_false]
           ·exact hJ
          ·go_simp
           refine hK.out x' _ _ ?_ ?_
           ·simp [hl, hd, selV_true, selV_false]
           ·exact hJ
          ·go_simp
           refine hK.out x' _ _ ?_ ?_
           ·simp [hl, hd, selV_true, selV_false]
           ·exact hJ
          ·go_simp
           with_reducible refine (HMU.out _).mono ?_
           rintro e v ⟨rfl, hb⟩
           refine hK.out x' _ _ ?_ ?_
           ·simp [hl, hd, selV_true, selV_false]
           ·exact hJ.step hb
          ·go_simp
           with_reducible refine (HAD.out _).mono ?_
           rintro e v ⟨rfl, hb⟩
           refine hK.out x' _ _ ?_ ?_
           ·simp [hl, hd, selV_true, selV_false]
           ·exact hJ.step hb
          ·go_simp
           refine hK.out x' _ _ ?_ ?_
           ·simp [hl, hd, selV_true, selV_false]
           ·exact hJ
          ·have hB := hJ
           simp only [hl, Bool.false_eq_true, if_false] at hB
           have hLg : Lw wx g (enc (prS xs ys r m c i k j)) := hB.at_ 4 rfl
           have hql : q3 < (enc (prS xs ys r m c i k j)).length := by rw [HLEN.out]; exact hqN3
           have d0 := hLg.cell0 q3 hql
           have d1 := hLg.cell1 q3 hql
           have f0 := hB.frozen 4 (q3 * 2) rfl
           have f1 := hB.frozen 4 (q3 * 2 + 1) rfl
           generalize ((enc (prS xs ys r m c i k j))[q3]'hql).1 = u0' at d0
           generalize ((enc (prS xs ys r m c i k j))[q3]'hql).2 = u1' at d1
           have hP := hLg.put q3 (wneg s1) (wmag s1)
           rw [HSET.out] at hP
           have HP := Lib.hid hP
           have HB := Lib.hid hB
           clear hP hLg hB
           go_simp
           refine hK.out x' _ _ ?_ ?_
           ·simp [hl, hd, selV_true, selV_false]
           ·have hGr := grownBy_setRow (g := g) (p := ⟨g, q3 * 2 + 1, none⟩) (grownBy_setRow (g := g) (p := ⟨g, q3 * 2, none⟩) (World.grownBy.refl wx _) rfl (.bool (wneg s1))) rfl (.string (wmag s1))
            exact (HB.out.change 4 rfl hGr (o' := lwO (enc (prS xs ys r m c i k (j + 1)))) HP.out).cast (by simp)
         ·rintro _ Wx hKx
          simp only [selA, selT_cons, selT_nil, List.set_cons_zero, List.set_cons_succ, List.getD_cons_zero, List.getD_cons_succ, selV_true]
          simp only [if_true] at hKx
          have HKX := Lib.hid hKx
          clear hKx
          go_wp2
          go_roundw
          case rel => exact ⟨j + 1, by simp, by omega, HKX.out.take 6⟩
          case measure => simp [intOf]; omega
       ·obtain rfl : c = j := by omega
        have HRW := Lib.hid (prS_row xs ys r m c i k)
        go_wp2
        go_roundw
        case rel => exact ⟨k + 1, by simp, by omega, by rw [← HRW.out]; exact HKj.out.take 5⟩
        case measure => simp [intOf]; omega
    ·obtain rfl : m = k := by omega
     have HDN := Lib.hid (prS_done xs ys r m c i)
     go_wp2
     go_roundw
     case rel => exact ⟨i + 1, by simp, by omega, by rw [← HDN.out]; exact HKk.out⟩
     case measure => simp [intOf]; omega
  ·obtain rfl : r = i := by omega
   have HFU := Lib.hid (prS_full xs ys r m c)
   have f0 := HKi.out.frozen 2 0 rfl
   have g0 := HKi.out.cell 2 0 rfl rfl
   have d0 := HKi.out.cell 3 0 rfl rfl
   have f1 := HKi.out.frozen 2 1 rfl
   have g1 := HKi.out.cell 2 1 rfl rfl
   have d1 := HKi.out.cell 3 1 rfl rfl
   have f2 := HKi.out.frozen 2 2 rfl
   have g2 := HKi.out.cell 2 2 rfl rfl
   have d2 := HKi.out.cell 3 2 rfl rfl
   go_wp2_with fail
   have hP := ((HKi.out.put 2 0 rfl (.int .i64 (r : Int))).put 2 1 rfl (.int .i64 (c : Int))).put 2 2 rfl (.slice (some ⟨g, 0, none⟩) NN NN)
   exact bodyPost_ret (results_mat_tmp (b := w.heap.size + 1 + 1) rfl rfl (hP.at_ 2 rfl)) rfl ⟨g, rfl, hP.ge 4 rfl, by rw [← HFU.out]; exact hP.at_ 4 rfl, Kg.below_ hP⟩
set_option maxRecDepth 100000 in
set_option maxHeartbeats 4000000 in
theorem Mul_noX (B : Option Addr) (gA r1 c1 r2 c2 NA capA NB capB : Nat) (xs ys : List Int) (w : World) (hA : Lw w gA (enc xs)) (hB : RdW w B (enc ys)) (hlA : xs.length = r1 * c1) (hNA : NA = r1 * c1) (hcA : NA ≤ capA) (hmA : capA ≤ maxLen) (hlB : ys.length = r2 * c2) (hNB : NB = r2 * c2) (hcB : NB ≤ capB) (hmB : capB ≤ maxLen) (hr1 : r1 ≤ 200) (hc1 : c1 ≤ 200) (hr2 : r2 ≤ 200) (hc2 : c2 ≤ 200) (hno : ¬ c1 = r2) :
  Calls Tryz.prog 43 #[mat r1 c1 (some ⟨gA, 0, none⟩) NA capA, mat r2 c2 B NB capB] w fun e w' => e = .returned (.tuple #[mat 0 0 none 0 0, .bool false]) ∧ Below w.heap.size w w' := by
 have hri := fun W hW => Right_any (r1 : Int) (c1 : Int) (some ⟨gA, 0, none⟩) NA capA (enc xs) W hW (by rw [enc_length, hlA, hNA]) (by omega)
 rw [mright_ints r1 c1 xs hlA hr1 hc1] at hri
 have hrj := fun W hW => Right_any (r2 : Int) (c2 : Int) B NB capB (enc ys) W hW (by rw [enc_length, hlB, hNB]) (by omega)
 rw [mright_ints r2 c2 ys hlB hr2 hc2] at hrj
 have n0 : ((c1 : Int) == (r2 : Int)) = false := by rw [beq_eq_false_iff_ne]; omega
 have m0 : ((c1 : Int) != (r2 : Int)) = true := by rw [bne_iff_ne]; omega
 have k0 : ¬ c1 = r2 := by omega
 unfold mat at *
 have HRI := Lib.hid hri
 have HRJ := Lib.hid hrj
 have hgA := heap_lt hA
 have HAS := Lib.hid (show ∀ W l, Kg none w W l → Lw W gA (enc xs) from fun W l h => (h.1.block gA hgA (by simp)).trans hA)
 have HBS := Lib.hid (show ∀ W l, Kg none w W l → RdW W B (enc ys) from fun W l h => hB.below (Kg.below_ h))
 have HK2 := Lib.hid (((((Kg.none_ none w 0).more (mrow (r1 : Int) (c1 : Int) (some ⟨gA, 0, none⟩) NA capA)).more (mrow (r2 : Int) (c2 : Int) B NB capB)).more (mrow 0 0 none 0 0)).cast (l' := [some (w.heap.size, mrow (r1 : Int) (c1 : Int) (some ⟨gA, 0, none⟩) NA capA), some (w.heap.size + 1, mrow (r2 : Int) (c2 : Int) B NB capB), some (w.heap.size + 1 + 1, mrow 0 0 none 0 0)]) (by simp))
 have x0 := HK2.out.cell 0 0 rfl rfl
 have x1 := HK2.out.cell 0 1 rfl rfl
 have x2 := HK2.out.cell 0 2 rfl rfl
 clear hri hrj hA hB hlA hNA hlB hNB
 go_enter Tryz.func43, Tryz.ntmps43
 go_wp2_with fail
 change Calls _ _ _ (((w.alloc (mrow (r1 : Int) (c1 : Int) (some ⟨gA, 0, none⟩) NA capA)).alloc (mrow (r2 : Int) (c2 : Int) B NB capB)).alloc (mrow 0 0 none 0 0)) _
 generalize ((w.alloc (mrow (r1 : Int) (c1 : Int) (some ⟨gA, 0, none⟩) NA capA)).alloc (mrow (r2 : Int) (c2 : Int) B NB capB)).alloc (mrow 0 0 none 0 0) = W2 at *
 with_reducible refine (HRI.out _ (HAS.out _ _ HK2.out).rdw).mono ?_
 rintro e w1 ⟨rfl, hb1⟩
 have HK3 := Lib.hid (HK2.out.step hb1)
 clear x0 x1 x2 hb1 HK2
 have x0 := HK3.out.cell 1 0 rfl rfl
 have x1 := HK3.out.cell 1 1 rfl rfl
 have x2 := HK3.out.cell 1 2 rfl rfl
 go_wp2_with fail
 with_reducible refine (HRJ.out _ (HBS.out _ _ HK3.out)).mono ?_
 rintro e w2 ⟨rfl, hb2⟩
 have HKf := Lib.hid (HK3.out.step hb2)
 clear x0 x1 x2 hb2 HK3
 have x1 := HKf.out.cell 0 1 rfl rfl
 have x2 := HKf.out.cell 1 0 rfl rfl
 have f0 := HKf.out.frozen 2 0 rfl
 have g0 := HKf.out.cell 2 0 rfl rfl
 have f1 := HKf.out.frozen 2 1 rfl
 have g1 := HKf.out.cell 2 1 rfl rfl
 have f2 := HKf.out.frozen 2 2 rfl
 have g2 := HKf.out.cell 2 2 rfl rfl
 go_wp2_with fail
 have hP := ((HKf.out.put 2 0 rfl (.int .i64 0)).put 2 1 rfl (.int .i64 0)).put 2 2 rfl (.slice none 0 0)
 exact bodyPost_ret (results_mat_tmp (b := w.heap.size + 1 + 1) rfl rfl (hP.at_ 2 rfl)) rfl ⟨rfl, Kg.below_ hP⟩
set_option maxRecDepth 100000 in
set_option maxHeartbeats 4000000 in
theorem rMul_noX (B : Option Addr) (gA r1 c1 r2 c2 NA capA NB capB : Nat) (xs ys : List Int) (w : World) (hA : Lw w gA (enc xs)) (hB : RdW w B (enc ys)) (hlA : xs.length = r1 * c1) (hNA : NA = r1 * c1) (hcA : NA ≤ capA) (hmA : capA ≤ maxLen) (hlB : ys.length = r2 * c2) (hNB : NB = r2 * c2) (hcB : NB ≤ capB) (hmB : capB ≤ maxLen) (hr1 : r1 ≤ 200) (hc1 : c1 ≤ 200) (hr2 : r2 ≤ 200) (hc2 : c2 ≤ 200) (hno : ¬ c1 = r2) :
  Calls Tryz.prog 44 #[mat r1 c1 (some ⟨gA, 0, none⟩) NA capA, mat r2 c2 B NB capB] w fun e w' => e = .returned (.tuple #[mat 0 0 none 0 0, .bool false]) ∧ Below w.heap.size w w' := by
 have hri := fun W hW => rRight_any (r1 : Int) (c1 : Int) (some ⟨gA, 0, none⟩) NA capA (enc xs) W hW (by rw [enc_length, hlA, hNA]) (by omega)
 rw [mright_ints r1 c1 xs hlA hr1 hc1] at hri
 have hrj := fun W hW => rRight_any (r2 : Int) (c2 : Int) B NB capB (enc ys) W hW (by rw [enc_length, hlB, hNB]) (by omega)
 rw [mright_ints r2 c2 ys hlB hr2 hc2] at hrj
 have n0 : ((c1 : Int) == (r2 : Int)) = false := by rw [beq_eq_false_iff_ne]; omega
 have m0 : ((c1 : Int) != (r2 : Int)) = true := by rw [bne_iff_ne]; omega
 have k0 : ¬ c1 = r2 := by omega
 unfold mat at *
 have HRI := Lib.hid hri
 have HRJ := Lib.hid hrj
 have hgA := heap_lt hA
 have HAS := Lib.hid (show ∀ W l, Kg none w W l → Lw W gA (enc xs) from fun W l h => (h.1.block gA hgA (by simp)).trans hA)
 have HBS := Lib.hid (show ∀ W l, Kg none w W l → RdW W B (enc ys) from fun W l h => hB.below (Kg.below_ h))
 have HK2 := Lib.hid (((((Kg.none_ none w 0).more (mrow (r1 : Int) (c1 : Int) (some ⟨gA, 0, none⟩) NA capA)).more (mrow (r2 : Int) (c2 : Int) B NB capB)).more (mrow 0 0 none 0 0)).cast (l' := [some (w.heap.size, mrow (r1 : Int) (c1 : Int) (some ⟨gA, 0, none⟩) NA capA), some (w.heap.size + 1, mrow (r2 : Int) (c2 : Int) B NB capB), some (w.heap.size + 1 + 1, mrow 0 0 none 0 0)]) (by simp))
 have x0 := HK2.out.cell 0 0 rfl rfl
 have x1 := HK2.out.cell 0 1 rfl rfl
 have x2 := HK2.out.cell 0 2 rfl rfl
 clear hri hrj hA hB hlA hNA hlB hNB
 go_enter Tryz.func44, Tryz.ntmps44
 go_wp2_with fail
 change Calls _ _ _ (((w.alloc (mrow (r1 : Int) (c1 : Int) (some ⟨gA, 0, none⟩) NA capA)).alloc (mrow (r2 : Int) (c2 : Int) B NB capB)).alloc (mrow 0 0 none 0 0)) _
 generalize ((w.alloc (mrow (r1 : Int) (c1 : Int) (some ⟨gA, 0, none⟩) NA capA)).alloc (mrow (r2 : Int) (c2 : Int) B NB capB)).alloc (mrow 0 0 none 0 0) = W2 at *
 with_reducible refine (HRI.out _ (HAS.out _ _ HK2.out).rdw).mono ?_
 rintro e w1 ⟨rfl, hb1⟩
 have HK3 := Lib.hid (HK2.out.step hb1)
 clear x0 x1 x2 hb1 HK2
 have x0 := HK3.out.cell 1 0 rfl rfl
 have x1 := HK3.out.cell 1 1 rfl rfl
 have x2 := HK3.out.cell 1 2 rfl rfl
 go_wp2_with fail
 with_reducible refine (HRJ.out _ (HBS.out _ _ HK3.out)).mono ?_
 rintro e w2 ⟨rfl, hb2⟩
 have HKf := Lib.hid (HK3.out.step hb2)
 clear x0 x1 x2 hb2 HK3
 have x1 := HKf.out.cell 0 1 rfl rfl
 have x2 := HKf.out.cell 1 0 rfl rfl
 have f0 := HKf.out.frozen 2 0 rfl
 have g0 := HKf.out.cell 2 0 rfl rfl
 have f1 := HKf.out.frozen 2 1 rfl
 have g1 := HKf.out.cell 2 1 rfl rfl
 have f2 := HKf.out.frozen 2 2 rfl
 have g2 := HKf.out.cell 2 2 rfl rfl
 go_wp2_with fail
 have hP := ((HKf.out.put 2 0 rfl (.int .i64 0)).put 2 1 rfl (.int .i64 0)).put 2 2 rfl (.slice none 0 0)
 exact bodyPost_ret (results_mat_tmp (b := w.heap.size + 1 + 1) rfl rfl (hP.at_ 2 rfl)) rfl ⟨rfl, Kg.below_ hP⟩
set_option maxRecDepth 100000 in
set_option maxHeartbeats 4000000 in
theorem Mul_bad (B : Option Addr) (gA r1 c1 n NA capA cap : Nat) (xs : List Int) (zs : List (Bool × ByteArray)) (w : World) (hA : Lw w gA (enc xs)) (hB : RdW w B zs) (hlA : xs.length = r1 * c1) (hNA : NA = r1 * c1) (hcA : NA ≤ capA) (hmA : capA ≤ maxLen) (hlB : zs.length = n) (hcB : n ≤ maxLen) (hr1 : r1 ≤ 200) (hc1 : c1 ≤ 200) (hbad : zs.any (fun p => ncan p.1 p.2) = true) :
  Calls Tryz.prog 43 #[mat r1 c1 (some ⟨gA, 0, none⟩) NA capA, mat (n : Int) 1 B n cap] w fun e w' => e = .returned (.tuple #[mat 0 0 none 0 0, .bool false]) ∧ Below w.heap.size w w' := by
 have hri := fun W hW => Right_any (r1 : Int) (c1 : Int) (some ⟨gA, 0, none⟩) NA capA (enc xs) W hW (by rw [enc_length, hlA, hNA]) (by omega)
 rw [mright_ints r1 c1 xs hlA hr1 hc1] at hri
 have hrj := fun W hW => Right_any (n : Int) 1 B n cap zs W hW hlB hcB
 rw [show mright (n : Int) 1 zs = false from by unfold mright; rw [hbad]; simp] at hrj
 unfold mat at *
 have HRI := Lib.hid hri
 have HRJ := Lib.hid hrj
 have hgA := heap_lt hA
 have HAS := Lib.hid (show ∀ W l, Kg none w W l → Lw W gA (enc xs) from fun W l h => (h.1.block gA hgA (by simp)).trans hA)
 have HBS := Lib.hid (show ∀ W l, Kg none w W l → RdW W B zs from fun W l h => hB.below (Kg.below_ h))
 have HK2 := Lib.hid (((((Kg.none_ none w 0).more (mrow (r1 : Int) (c1 : Int) (some ⟨gA, 0, none⟩) NA capA)).more (mrow (n : Int) 1 B n cap)).more (mrow 0 0 none 0 0)).cast (l' := [some (w.heap.size, mrow (r1 : Int) (c1 : Int) (some ⟨gA, 0, none⟩) NA capA), some (w.heap.size + 1, mrow (n : Int) 1 B n cap), some (w.heap.size + 1 + 1, mrow 0 0 none 0 0)]) (by simp))
 have x0 := HK2.out.cell 0 0 rfl rfl
 have x1 := HK2.out.cell 0 1 rfl rfl
 have x2 := HK2.out.cell 0 2 rfl rfl
 clear hri hrj hA hB hlA hNA hlB hbad
 go_enter Tryz.func43, Tryz.ntmps43
 go_wp2_with fail
 change Calls _ _ _ (((w.alloc (mrow (r1 : Int) (c1 : Int) (some ⟨gA, 0, none⟩) NA capA)).alloc (mrow (n : Int) 1 B n cap)).alloc (mrow 0 0 none 0 0)) _
 generalize ((w.alloc (mrow (r1 : Int) (c1 : Int) (some ⟨gA, 0, none⟩) NA capA)).alloc (mrow (n : Int) 1 B n cap)).alloc (mrow 0 0 none 0 0) = W2 at *
 with_reducible refine (HRI.out _ (HAS.out _ _ HK2.out).rdw).mono ?_
 rintro e w1 ⟨rfl, hb1⟩
 have HK3 := Lib.hid (HK2.out.step hb1)
 clear x0 x1 x2 hb1 HK2
 have x0 := HK3.out.cell 1 0 rfl rfl
 have x1 := HK3.out.cell 1 1 rfl rfl
 have x2 := HK3.out.cell 1 2 rfl rfl
 go_wp2_with fail
 with_reducible refine (HRJ.out _ (HBS.out _ _ HK3.out)).mono ?_
 rintro e w2 ⟨rfl, hb2⟩
 have HKf := Lib.hid (HK3.out.step hb2)
 clear x0 x1 x2 hb2 HK3
 have f0 := HKf.out.frozen 2 0 rfl
 have g0 := HKf.out.cell 2 0 rfl rfl
 have f1 := HKf.out.frozen 2 1 rfl
 have g1 := HKf.out.cell 2 1 rfl rfl
 have f2 := HKf.out.frozen 2 2 rfl
 have g2 := HKf.out.cell 2 2 rfl rfl
 go_wp2_with fail
 have hP := ((HKf.out.put 2 0 rfl (.int .i64 0)).put 2 1 rfl (.int .i64 0)).put 2 2 rfl (.slice none 0 0)
 exact bodyPost_ret (results_mat_tmp (b := w.heap.size + 1 + 1) rfl rfl (hP.at_ 2 rfl)) rfl ⟨rfl, Kg.below_ hP⟩
def OB (w : World) (B : Option Addr) (zs : List (Bool × ByteArray)) : Prop := (B = none ∧ zs = []) ∨ ∃ g ext, B = some ⟨g, 0, none⟩ ∧ LwG ext w g zs
theorem OB.rdw {w : World} {B : Option Addr} {zs : List (Bool × ByteArray)} (h : OB w B zs) : RdW w B zs := by
 rcases h with ⟨rfl, rfl⟩ | ⟨g, ext, rfl, h⟩
 ·exact RdW.nil _ _
 ·exact h.rdw
theorem OB.below {w w' : World} {B : Option Addr} {zs : List (Bool × ByteArray)} (h : OB w B zs) (hb : Below w.heap.size w w') : OB w' B zs := by
 rcases h with h | ⟨g, ext, rfl, h⟩
 ·exact .inl h
 ·exact .inr ⟨g, ext, rfl, (hb.block g (heap_lt h)).trans h⟩
theorem OwW.ob {w : World} {B : Nat} {v : Value} {zs : List Int} (h : OwW w B v zs) : ∃ A c, v = .slice A zs.length c ∧ zs.length ≤ c ∧ c ≤ maxLen ∧ OB w A (enc zs) := by
 rcases h.2 with ⟨rfl, h0⟩ | ⟨g, cap, cur, rfl, hb, hh, hnc, hcm, hcs, hct⟩
 ·obtain rfl : zs = [] := List.length_eq_zero_iff.1 h0
  exact ⟨none, 0, rfl, by simp, by simp, .inl ⟨rfl, rfl⟩⟩
 ·refine ⟨_, _, rfl, hnc, hcm, .inr ⟨g, cur.toList.drop (zs.length * 2), rfl, ?_⟩⟩
  unfold LwG
  rw [show flat (enc zs) = cur.toList.take (zs.length * 2) from hct.symm, List.take_append_drop]
  exact hh
theorem MulB_both (r k n NA : Nat) (xs ys : List Int) (hlA : xs.length = r * k) (hNA : NA = r * k) (hmA : NA ≤ maxLen) (hlB : ys.length = n) (hr : r ≤ 200) (hk : k ≤ 200) (hn : n ≤ 200) (hsx : ∀ q, (wmag (xs.getD q 0)).size ≤ 8) (hsy : ∀ q, (wmag (ys.getD q 0)).size ≤ 8) :
  ∃ (ok : Bool) (rr cc : Int) (N : Nat) (es : List (Bool × ByteArray)), es.length = N ∧ N ≤ 40000 ∧ ok = decide (n = k) ∧
   (∀ gA B cap W, n ≤ cap → cap ≤ maxLen → Lw W gA (enc xs) → OB W B (enc ys) → RetP Tryz.prog 43 #[.agg #[.int .i64 (r : Int), .int .i64 (k : Int), .slice (some ⟨gA, 0, none⟩) NA NA], .agg #[.int .i64 (n : Int), .int .i64 1, .slice B n cap]] ok rr cc N es W) ∧
   (∀ gA B cap W, n ≤ cap → cap ≤ maxLen → Lw W gA (enc xs) → OB W B (enc ys) → RetP Tryz.prog 44 #[.agg #[.int .i64 (r : Int), .int .i64 (k : Int), .slice (some ⟨gA, 0, none⟩) NA NA], .agg #[.int .i64 (n : Int), .int .i64 1, .slice B n cap]] ok rr cc N es W) := by
 by_cases h : k = n
 ·subst h
  refine ⟨true, r, 1, r * 1, enc (mulL xs ys r k 1), by rw [enc_length, mulL_length], Nat.le_trans (Nat.mul_le_mul hr (Nat.le_refl 1)) (by omega), by simp, fun gA B cap W hcap hcm hA hB => ?_, fun gA B cap W hcap hcm hA hB => ?_⟩
  ·rcases hB with ⟨rfl, hz⟩ | ⟨g, ext, rfl, hB⟩
   ·obtain rfl : ys = [] := by simpa [enc] using hz
    obtain rfl : k = 0 := by simpa using hlB.symm
    obtain rfl : xs = [] := by simpa using hlA
    refine (Mul_intsX none gA r 0 1 NA 0 NA cap (r * 1) [] [] W hA (RdW.nil _ _) (by simp) (by simp) (by simpa using hNA) rfl hr (by omega) (by omega) rfl (mright_ints r 0 [] (by simp) hr (by omega)) (mright_ints 0 1 [] (by simp) (by omega) (by omega)) (fun j => ⟨by simp, by simp⟩) (fun j => ⟨by simp, by simp⟩) (by simp only [maxB, List.length_nil]; decide)).mono ?_
    rintro e w' ⟨g, rfl, hg, hL, hb⟩
    exact ⟨_, _, rfl, hL.rdw, hb⟩
   ·refine (Mul_okX ext gA g r k 1 NA k NA cap (r * 1) xs ys W hA hB hlA (by rw [hlB, Nat.mul_one]) hNA (by rw [Nat.mul_one]) hr hk (by omega) rfl (Nat.le_refl _) hcap hmA hcm (fun q => Nat.le_trans (hsx q) (by omega)) (fun q => Nat.le_trans (hsy q) (by omega))).mono ?_
    rintro e w' ⟨g, rfl, hg, hL, hb⟩
    exact ⟨_, _, rfl, hL.rdw, hb⟩
  ·refine (rMul_okX B gA r k 1 NA NA k cap (r * 1) xs ys W hA hB.rdw hlA hNA (Nat.le_refl _) hmA (by rw [hlB, Nat.mul_one]) (by rw [Nat.mul_one]) hcap hcm hr hk (by omega) rfl (fun q => Nat.le_trans (hsx q) (by omega)) (fun q => Nat.le_trans (hsy q) (by omega))).mono ?_
   rintro e w' ⟨g, rfl, hg, hL, hb⟩
   exact ⟨_, _, rfl, hL.rdw, hb⟩
 ·refine ⟨false, 0, 0, 0, [], rfl, by omega, (decide_eq_false (fun e => h e.symm)).symm, fun gA B cap W hcap hcm hA hB => ?_, fun gA B cap W hcap hcm hA hB => ?_⟩
  ·refine (Mul_noX B gA r k n 1 NA NA n cap xs ys W hA hB.rdw hlA hNA (Nat.le_refl _) hmA (by rw [hlB, Nat.mul_one]) (by rw [Nat.mul_one]) hcap hcm hr hk hn (by omega) h).mono ?_
   rintro e w' ⟨rfl, hb⟩
   exact ⟨none, 0, rfl, RdW.nil _ _, hb⟩
  ·refine (rMul_noX B gA r k n 1 NA NA n cap xs ys W hA hB.rdw hlA hNA (Nat.le_refl _) hmA (by rw [hlB, Nat.mul_one]) (by rw [Nat.mul_one]) hcap hcm hr hk hn (by omega) h).mono ?_
   rintro e w' ⟨rfl, hb⟩
   exact ⟨none, 0, rfl, RdW.nil _ _, hb⟩
set_option maxRecDepth 100000 in
set_option maxHeartbeats 4000000 in
theorem Apply_any (B : Option Addr) (gA r k n NA cap : Nat) (ok : Bool) (rr cc : Int) (N : Nat) (es : List (Bool × ByteArray)) (w : World)
  (hM : ∀ W, Below w.heap.size w W → RetP Tryz.prog 43 #[.agg #[.int .i64 (r : Int), .int .i64 (k : Int), .slice (some ⟨gA, 0, none⟩) NA NA], .agg #[.int .i64 (n : Int), .int .i64 1, .slice B n cap]] ok rr cc N es W) :
  Calls Tryz.prog 46 #[.agg #[.int .i64 (r : Int), .int .i64 (k : Int), .slice (some ⟨gA, 0, none⟩) NA NA], .slice B n cap] w fun e w' => ∃ A c, e = .returned (.tuple #[.slice A N c, .bool ok]) ∧ RdW w' A es ∧ Below w.heap.size w w' := by
 unfold RetP at hM
 have HM := Lib.hid hM
 have HK1 := Lib.hid (((Kg.none_ none w 0).more (mrow (r : Int) (k : Int) (some ⟨gA, 0, none⟩) NA NA)).cast (l' := [some (w.heap.size, mrow (r : Int) (k : Int) (some ⟨gA, 0, none⟩) NA NA)]) (by simp))
 clear hM
 go_enter Tryz.func46, Tryz.ntmps46
 have x0 := HK1.out.cell 0 0 rfl rfl
 have x1 := HK1.out.cell 0 1 rfl rfl
 have x2 := HK1.out.cell 0 2 rfl rfl
 go_wp2_with fail
 change Calls _ _ _ (w.alloc (mrow (r : Int) (k : Int) (some ⟨gA, 0, none⟩) NA NA)) _
 generalize w.alloc (mrow (r : Int) (k : Int) (some ⟨gA, 0, none⟩) NA NA) = W1 at *
 skip
 skip
 skip
 skip
 with_reducible refine (HM.out _ (Kg.below_ HK1.out)).mono ?_
 rintro e V1 ⟨Ar, ca, rfl, hrd, hb⟩
 have HK2 := Lib.hid (show Kg none w (V1.alloc (mrow rr cc Ar N ca)) [some (w.heap.size, mrow (r : Int) (k : Int) (some ⟨gA, 0, none⟩) NA NA), some (V1.heap.size, mrow rr cc Ar N ca)] from (HK1.out.step hb).more (mrow rr cc Ar N ca))
 have HR := Lib.hid (RdW.below hrd ((Below.refl _ _).alloc (Nat.le_refl _) (mrow rr cc Ar N ca)))
 clear hrd hb x0 x1 x2
 have y0 := HK2.out.cell 1 2 rfl rfl
 unfold mrow at y0
 go_wp2
 go_ret2
 exact ⟨_, _, rfl, HR.out, Kg.below_ HK2.out⟩
set_option maxRecDepth 100000 in
set_option maxHeartbeats 4000000 in
theorem rApply_any (B : Option Addr) (gA r k n NA cap : Nat) (zs : List (Bool × ByteArray)) (ok : Bool) (rr cc : Int) (N : Nat) (es : List (Bool × ByteArray)) (w : World) (hcan : zs.any (fun p => ncan p.1 p.2) = false) (hB : RdW w B zs) (hlB : zs.length = n) (hn2 : n ≤ 200)
  (hM : ∀ W, Below w.heap.size w W → RetP Tryz.prog 44 #[.agg #[.int .i64 (r : Int), .int .i64 (k : Int), .slice (some ⟨gA, 0, none⟩) NA NA], .agg #[.int .i64 (n : Int), .int .i64 1, .slice B n cap]] ok rr cc N es W) :
  Calls Tryz.prog 47 #[.agg #[.int .i64 (r : Int), .int .i64 (k : Int), .slice (some ⟨gA, 0, none⟩) NA NA], .slice B n cap] w fun e w' => ∃ A c, e = .returned (.tuple #[.slice A N c, .bool ok]) ∧ RdW w' A es ∧ Below w.heap.size w w' := by
 unfold RetP at hM
 have HM := Lib.hid hM
 have hca := fun W hW => rCanonical_any B n cap zs W hW hlB (by unfold maxLen; omega)
 rw [hcan] at hca
 have HCA := Lib.hid hca
 have d200 : decide ((n : Int) > 200) = false := by rw [decide_eq_false_iff_not]; omega
 have q200 : ¬ 200 < n := by omega
 have HBS := Lib.hid (show ∀ W l, Kg none w W l → RdW W B zs from fun W l h => hB.below (Kg.below_ h))
 clear hca hcan hB hlB
 have HK1 := Lib.hid (((Kg.none_ none w 0).more (mrow (r : Int) (k : Int) (some ⟨gA, 0, none⟩) NA NA)).cast (l' := [some (w.heap.size, mrow (r : Int) (k : Int) (some ⟨gA, 0, none⟩) NA NA)]) (by simp))
 clear hM
 go_enter Tryz.func47, Tryz.ntmps47
 skip
 skip
 skip
 go_wp2_with fail
 change Calls _ _ _ (w.alloc (mrow (r : Int) (k : Int) (some ⟨gA, 0, none⟩) NA NA)) _
 generalize w.alloc (mrow (r : Int) (k : Int) (some ⟨gA, 0, none⟩) NA NA) = W1 at *
 with_reducible refine (HCA.out _ (HBS.out _ _ HK1.out)).mono ?_
 rintro e w1 ⟨rfl, rfl⟩
 have x0 := HK1.out.cell 0 0 rfl rfl
 have x1 := HK1.out.cell 0 1 rfl rfl
 have x2 := HK1.out.cell 0 2 rfl rfl
 go_wp2_with fail
 with_reducible refine (HM.out _ (Kg.below_ HK1.out)).mono ?_
 rintro e V1 ⟨Ar, ca, rfl, hrd, hb⟩
 have HK2 := Lib.hid (show Kg none w (V1.alloc (mrow rr cc Ar N ca)) [some (w.heap.size, mrow (r : Int) (k : Int) (some ⟨gA, 0, none⟩) NA NA), some (V1.heap.size, mrow rr cc Ar N ca)] from (HK1.out.step hb).more (mrow rr cc Ar N ca))
 have HR := Lib.hid (RdW.below hrd ((Below.refl _ _).alloc (Nat.le_refl _) (mrow rr cc Ar N ca)))
 clear hrd hb x0 x1 x2
 have y0 := HK2.out.cell 1 2 rfl rfl
 unfold mrow at y0
 go_wp2
 go_ret2
 exact ⟨_, _, rfl, HR.out, Kg.below_ HK2.out⟩
set_option maxRecDepth 100000 in
set_option maxHeartbeats 4000000 in
theorem rApply_bad (B : Option Addr) (gA r k n NA cap : Nat) (zs : List (Bool × ByteArray)) (w : World) (hcan : zs.any (fun p => ncan p.1 p.2) = true) (hB : RdW w B zs) (hlB : zs.length = n) (hn2 : n ≤ 200) :
  Calls Tryz.prog 47 #[.agg #[.int .i64 (r : Int), .int .i64 (k : Int), .slice (some ⟨gA, 0, none⟩) NA NA], .slice B n cap] w fun e w' => e = .returned (.tuple #[.slice none 0 0, .bool false]) ∧ Below w.heap.size w w' := by
 have hca := fun W hW => rCanonical_any B n cap zs W hW hlB (by unfold maxLen; omega)
 rw [hcan] at hca
 have HCA := Lib.hid hca
 have HBS := Lib.hid (show ∀ W l, Kg none w W l → RdW W B zs from fun W l h => hB.below (Kg.below_ h))
 have HK1 := Lib.hid (((Kg.none_ none w 0).more (mrow (r : Int) (k : Int) (some ⟨gA, 0, none⟩) NA NA)).cast (l' := [some (w.heap.size, mrow (r : Int) (k : Int) (some ⟨gA, 0, none⟩) NA NA)]) (by simp))
 clear hca hcan hB hlB
 go_enter Tryz.func47, Tryz.ntmps47
 go_wp2_with fail
 change Calls _ _ _ (w.alloc (mrow (r : Int) (k : Int) (some ⟨gA, 0, none⟩) NA NA)) _
 generalize w.alloc (mrow (r : Int) (k : Int) (some ⟨gA, 0, none⟩) NA NA) = W1 at *
 with_reducible refine (HCA.out _ (HBS.out _ _ HK1.out)).mono ?_
 rintro e w1 ⟨rfl, rfl⟩
 go_wp2
 go_ret2
 exact ⟨rfl, Kg.below_ HK1.out⟩
end Go.Proofs.YtknaghdoffigjaaGreatDoor
