import Derived.Test.YtknaghdoffigjaaGreatDoorZMAlg
import Derived.Test.YtknaghdoffigjaaGreatDoorZMBoth
set_option linter.unusedSimpArgs false
set_option linter.unusedVariables false
set_option linter.unnecessarySimpa false
namespace Go.Proofs.YtknaghdoffigjaaGreatDoor
open Go.RowKit Go
attribute [local go_sem] Oper.semAt_some
def LwG (ext : List Value) (w : World) (g : Nat) (zs : List (Bool × ByteArray)) : Prop := w.heap[g]? = some (.cells (flat zs ++ ext).toArray 32 (0, 0))
theorem LwG.cell {ext : List Value} {w : World} {g : Nat} {zs : List (Bool × ByteArray)} (h : LwG ext w g zs) (k : Nat) (hk : k < zs.length * 2) (v : Value) (hv : (flat zs)[k]? = some v) : w.cell? ⟨g, k, none⟩ = some v := by
 refine cell_of_row w g k _ _ (0, 0) h |>.trans ?_
 rw [List.getElem?_toArray, List.getElem?_append_left (by rw [flat_length]; exact hk), hv]
theorem LwG.cell0 {ext : List Value} {w : World} {g : Nat} {zs : List (Bool × ByteArray)} (h : LwG ext w g zs) (k : Nat) (hk : k < zs.length) : w.cell? ⟨g, k * 2, none⟩ = some (.bool zs[k].1) :=
 h.cell _ (by omega) _ (flat_get zs k hk).1
theorem LwG.cell1 {ext : List Value} {w : World} {g : Nat} {zs : List (Bool × ByteArray)} (h : LwG ext w g zs) (k : Nat) (hk : k < zs.length) : w.cell? ⟨g, k * 2 + 1, none⟩ = some (.string zs[k].2) :=
 h.cell _ (by omega) _ (flat_get zs k hk).2
theorem LwG.rdw {ext : List Value} {w : World} {g : Nat} {zs : List (Bool × ByteArray)} (h : LwG ext w g zs) : RdW w (some ⟨g, 0, none⟩) zs := fun k hk => by
 refine ⟨_, rfl, heap_lt h, ?_, ?_⟩
 ·rw [add_from0]; exact h.cell0 k hk
 ·rw [add_from0]; exact h.cell1 k hk
set_option maxRecDepth 100000 in
set_option maxHeartbeats 4000000 in
theorem ints_rd (A : Option Addr) (n cap : Nat) (zs : List Int) (w : World) (hA : RdW w A (enc zs)) (hn : zs.length = n) (hn2 : n ≤ 40000) (hz : ∀ j, (wmag (zs.getD j 0)).size ≤ 1000) :
  Calls Tryz.prog 129 #[.slice A n cap] w fun e w' => Below w.heap.size w w' ∧
   ((∀ j, j < n → fitI (zs.getD j 0)) → ∃ g, e = .returned (.tuple #[.slice (some ⟨g, 0, none⟩) n n, .int .i64 (maxB zs n : Nat)]) ∧ w.heap.size ≤ g ∧ LsI w' g zs) ∧
   ((∃ j, j < n ∧ ¬ fitI (zs.getD j 0)) → e = .returned (.tuple #[.slice none 0 0, .int .i64 64])) := by
 have hmk := make_ints n (by omega)
 have hint := fun (k : Nat) W => Int_any (wneg (zs.getD k 0)) (wmag (zs.getD k 0)) W (hz k) (zs.getD k 0) (wint_wv' _)
 have hlen := fun (m : Nat) (hm : m ≤ 9223372036854775808) W => Tryz.bits_Len (m : Int) W (by omega) (by omega)
 have HA := Lib.hid hA
 have HN := Lib.hid hn
 have HINT := Lib.hid hint
 have HLEN := Lib.hid hlen
 clear hA hn hint hlen hz
 obtain ⟨g, hg⟩ : ∃ g, g = w.heap.size := ⟨_, rfl⟩
 have hb0 : Below w.heap.size w (w.alloc (.cells (Ii (List.replicate n 0)) 3)) := (Below.refl _ _).alloc (Nat.le_refl _) _
 have hL0 : LsI (w.alloc (.cells (Ii (List.replicate n 0)) 3)) g (cvI zs 0) := by
  rw [cvI_zero, HN.out, hg]
  exact LsI.new w _
 go_enter Tryz.func129, Tryz.ntmps129
 go_wp2_with fail
 rw [← hg]
 have HG := Lib.hid hg
 clear hg hmk
 go_loopw [2, 3, 13] (fun a m i wr => ∃ k : Nat, a = .slice (some ⟨g, 0, none⟩) n n ∧ i = .int .i64 k ∧ k ≤ n ∧ m = .int .i64 (maxB zs k : Nat) ∧ (∀ j, j < k → fitI (zs.getD j 0)) ∧ LsI wr g (cvI zs k) ∧ Below w.heap.size w wr) (fun _ _ i _ => n - (intOf i).toNat)
 case atStart => exact ⟨0, rfl, rfl, Nat.zero_le _, rfl, fun j hj => by omega, hL0, hb0⟩
 case round =>
  clear hL0 hb0
  obtain ⟨k, rfl, rfl, hk, rfl, hft, hL, hBe⟩ := hrel
  by_cases hlt : k < n
  ·have hAk : RdW wr A (enc zs) := HA.out.below hBe
   obtain ⟨bA, rfl, hbA, c0, c1⟩ := cell_pair hAk k (by rw [HN.out]; exact hlt)
   clear hbA
   have hi := fun W => HINT.out k W
   have hmx : maxB zs (k + 1) = max (maxB zs k) (nbit (zs.getD k 0)) := rfl
   have hnx := cvI_next zs k
   have hlk := cvI_length zs k
   rw [HN.out] at hlk
   have hb1 : Below wr.heap.size wr (wr.alloc (wbox (wneg (zs.getD k 0)) (wmag (zs.getD k 0)))) := (Below.refl _ _).alloc (Nat.le_refl _) _
   have hgl := heap_lt hL
   have hbit : nbit (zs.getD k 0) = Lib.bitLen (zs.getD k 0).natAbs := rfl
   have hwm := wrap_max (zs.getD k 0)
   obtain ⟨z, hz⟩ : ∃ z, z = zs.getD k 0 := ⟨_, rfl⟩
   rw [← hz] at c0 c1 hi hmx hnx hb1 hbit hwm
   have HZ := Lib.hid hz
   clear hz
   have HI := Lib.hid hi
   have HMX := Lib.hid hmx
   have HNX := Lib.hid hnx
   have HLK := Lib.hid hlk
   have HBIT := Lib.hid hbit
   have HWM := Lib.hid hwm
   have HL1 := Lib.hid (hL.step hb1)
   have HB1 := Lib.hid (hBe.trans (hb1.mono hBe.size))
   have HFT := Lib.hid hft
   clear hi hmx hnx hlk hbit hwm hb1 hAk hL hBe hft
   generalize wneg z = zx at *
   generalize wmag z = zm at *
   go_wp2_with fail
   clear c0 c1
   change Calls _ _ _ (wr.alloc (wbox zx zm)) _
   have hgs : g < (wr.alloc (wbox zx zm)).heap.size := by simp; omega
   generalize wr.alloc (wbox zx zm) = W1 at *
   generalize wr.heap.size = b5 at *
   with_reducible refine (HI.out _).mono ?_
   rintro e w2 ⟨rfl, hb2⟩
   have HL2 := Lib.hid (HL1.out.step hb2)
   have HB2 := Lib.hid (HB1.out.trans (hb2.mono HB1.out.size))
   clear hb2 HL1 HB1
   by_cases hf : fitI z
   ·have hfv : fitv z = z := if_pos hf
    have hfb : fitb z = true := by unfold fitb; rw [decide_eq_true_iff]; exact hf
    rw [hfv, hfb]
    clear hfv hfb
    have d0 := HL2.out.cell (k := k) (by rw [HLK.out]; exact hlt)
    have f0 := HL2.out.frozen k
    generalize (cvI zs k).getD k 0 = u0 at d0
    have hwz := HWM.out hf
    have hab : (z.natAbs : Nat) ≤ 9223372036854775808 := by obtain ⟨h1, h2⟩ := hf; omega
    have hln := fun W => HLEN.out z.natAbs hab W
    simp only [Int.toNat_natCast] at hln
    rw [← HBIT.out] at hln
    generalize nbit z = nb at *
    obtain ⟨na, hna⟩ : ∃ na, na = z.natAbs := ⟨_, rfl⟩
    rw [← hna] at hwz hln
    clear hna hab
    have HLN := Lib.hid hln
    clear hln
    go_wp2_with fail
    with_reducible refine (HLN.out _).mono ?_
    rintro e w3 ⟨rfl, rfl⟩
    have hP := HL2.out.set k z
    have hzz := HZ.out
    rw [show (cvI zs k).set k z = cvI zs (k + 1) from HNX.out] at hP
    have HP := Lib.hid hP
    clear d0 f0 hP hzz hwz
    go_wp2
    go_roundw
    case rel =>
     refine ⟨k + 1, rfl, rfl, by omega, congrArg (Value.int .i64) (by rw [HMX.out]; omega), fun j hj => ?_, HP.out, HB2.out.setCell (by have := HG.out; simp only []; omega) _⟩
     rcases Nat.lt_or_ge j k with h | h
     ·exact HFT.out j h
     ·rw [show j = k by omega, ← HZ.out]; exact hf
    case measure => simp [intOf]; omega
   ·have hfb : fitb z = false := by unfold fitb; rw [decide_eq_false_iff_not]; exact hf
    rw [hfb]
    clear hfb
    go_wp2
    go_ret2
    refine ⟨HB2.out, fun h => absurd (h k hlt) (by rw [← HZ.out]; exact hf), fun _ => rfl⟩
  ·obtain rfl : k = n := by omega
   have HL := Lib.hid hL
   have HB := Lib.hid hBe
   have HF := Lib.hid hft
   clear hL hBe hft hk
   go_wp2
   go_ret2
   refine ⟨HB.out, fun _ => ⟨g, rfl, by have := HG.out; omega, ?_⟩, ?_⟩
   ·have := HL.out
    rwa [← HN.out, cvI_full] at this
   ·rintro ⟨j, hj, h⟩
    exact absurd (HF.out j hj) h
theorem ints_lenX (A : Option Addr) (n cap : Nat) (zs : List Int) (w : World) (hA : RdW w A (enc zs)) (hn : zs.length = n) (hn2 : n ≤ 40000) (hz : ∀ j, (wmag (zs.getD j 0)).size ≤ 1000) :
  Calls Tryz.prog 129 #[.slice A n cap] w fun e w' => ∃ Ai N, e = .returned (.tuple #[.slice Ai N N, .int .i64 (lenI zs n : Nat)]) ∧ Below w.heap.size w w' := by
 refine (ints_rd A n cap zs w hA hn hn2 hz).mono ?_
 rintro e w' ⟨hb, h1, h2⟩
 by_cases h : ∀ j, j < n → fitI (zs.getD j 0)
 ·obtain ⟨g, rfl, _, _⟩ := h1 h
  exact ⟨some ⟨g, 0, none⟩, n, by unfold lenI; rw [if_pos h], hb⟩
 ·have h3 : ∃ j, j < n ∧ ¬ fitI (zs.getD j 0) := by
   apply Classical.byContradiction
   intro hc
   exact h fun j hj => Classical.byContradiction fun hf => hc ⟨j, hj, hf⟩
  refine ⟨none, 0, ?_, hb⟩
  rw [h2 h3]
  unfold lenI
  rw [if_neg h]
  rfl
set_option maxRecDepth 100000 in
set_option maxHeartbeats 4000000 in
theorem multiplySmall_okX (B : Option Addr) (ga r m c na nb capa capb NN : Nat) (xs ys : List Int) (w : World) (hA : Lw w ga (enc xs)) (hB : RdW w B (enc ys)) (hxl : xs.length = r * m) (hyl : ys.length = m * c) (hna : na = r * m) (hnb : nb = m * c) (hr : r ≤ 200) (hm : m ≤ 200) (hc : c ≤ 200) (hNN : r * c = NN)
  (hfx : ∀ j, fitI (xs.getD j 0)) (hfy : ∀ j, fitI (ys.getD j 0)) (hbit : maxB xs xs.length + maxB ys ys.length + Lib.bitLen m < 64) :
  Calls Tryz.prog 93 #[mat r m (some ⟨ga, 0, none⟩) na capa, mat m c B nb capb] w fun e w' => ∃ g, e = .returned (.tuple #[mat r c (some ⟨g, 0, none⟩) NN NN, .bool true]) ∧ w.heap.size ≤ g ∧ Lw w' g (enc (mulL xs ys r m c)) ∧ Below w.heap.size w w' := by
 have hfm := fitM_of xs ys r m c hxl hyl hm hfx hfy hbit
 have hNN2 : NN ≤ 40000 := by rw [← hNN]; exact Nat.le_trans (Nat.mul_le_mul hr hc) (by omega)
 have h1 : r * m ≤ 40000 := Nat.le_trans (Nat.mul_le_mul hr hm) (by omega)
 have h2 : m * c ≤ 40000 := Nat.le_trans (Nat.mul_le_mul hm hc) (by omega)
 have hsz : ∀ z : Int, fitI z → (wmag z).size ≤ 1000 := fun z hz => Nat.le_trans (wmag_size z 8 (by obtain ⟨a, b⟩ := hz; rw [show (256 : Nat) ^ 8 = 18446744073709551616 from rfl]; omega)) (by omega)
 have hi1 := fun W hW => ints_any ga na capa xs W hW (by omega) (by omega) (fun j => hsz _ (hfx j))
 have hi2 := fun W hW => ints_rd B nb capb ys W hW (by omega) (by omega) (fun j => hsz _ (hfy j))
 have hbl := fun W => Tryz.bits_Len (m : Int) W (by omega) (by omega)
 simp only [Int.toNat_natCast] at hbl
 have hmi := fun g1 g2 W h1' h2' => multiply_int g1 g2 r m c na nb na nb NN xs ys W h1' h2' hxl hyl hr hm hc (by omega) (by omega) (by unfold maxLen; omega) (by unfold maxLen; omega) hNN hfm
 have hcv := fun A cp W hW => convert_from A NN cp (mulL xs ys r m c) W hW (by rw [mulL_length, hNN]) hNN2 (fun k _ => mulL_fit xs ys r m c hfm k)
 rw [show ((List.range NN).map fun j => (wneg ((mulL xs ys r m c).getD j 0), wmag ((mulL xs ys r m c).getD j 0))) = enc (mulL xs ys r m c) from by rw [← enc_of, mulL_length, hNN]] at hcv
 rw [hxl, ← hna, hyl, ← hnb] at hbit
 obtain ⟨lx, hlx⟩ : ∃ lx, lx = maxB xs na := ⟨_, rfl⟩
 obtain ⟨ly, hly⟩ : ∃ ly, ly = maxB ys nb := ⟨_, rfl⟩
 rw [← hlx] at hi1 hbit
 rw [← hly] at hi2 hbit
 obtain ⟨lm, hlm⟩ : ∃ lm, lm = Lib.bitLen m := ⟨_, rfl⟩
 rw [← hlm] at hbl hbit
 unfold mat at *
 have HI1 := Lib.hid hi1
 have HI2 := Lib.hid hi2
 have HBL := Lib.hid hbl
 have HMI := Lib.hid hmi
 have HCV := Lib.hid hcv
 have HA := Lib.hid hA
 have HB := Lib.hid hB
 have HFX := Lib.hid hfx
 have HFY := Lib.hid hfy
 have hga := heap_lt hA
 clear hi1 hi2 hbl hmi hcv hA hB hxl hyl hna hnb hNN hlx hly hlm hsz hfm hfx hfy
 obtain ⟨w1, w2, w4⟩ := bits_sum lx ly lm hbit
 have w3 : IntKind.u64.wrap (m : Int) = m := IntWalk.u64_in _ (by omega)
 clear hbit
 have hK1 := ((Kg.none_ none w 3).new 0 (mrow r m (some ⟨ga, 0, none⟩) na capa) rfl).new 1 (mrow m c B nb capb) rfl
 have HK2 := Lib.hid ((hK1.new 2 (mrow 0 0 none 0 0) rfl).cast (l' := [some (w.heap.size, mrow r m (some ⟨ga, 0, none⟩) na capa), some (w.heap.size + 1, mrow m c B nb capb), some (w.heap.size + 1 + 1, mrow 0 0 none 0 0)]) (by simp))
 have hAs : ∀ W l, Kg none w W l → Lw W ga (enc xs) ∧ RdW W B (enc ys) := fun W l h => ⟨(h.1.block ga hga (by simp)).trans HA.out, HB.out.below (Kg.below_ h)⟩
 have HAS := Lib.hid hAs
 have c0 := HK2.out.cell 0 2 rfl rfl
 clear hK1 hAs
 go_enter Tryz.func93, Tryz.ntmps93
 go_wp2_with fail
 change Calls _ _ _ (((w.alloc (mrow r m (some ⟨ga, 0, none⟩) na capa)).alloc (mrow m c B nb capb)).alloc (mrow 0 0 none 0 0)) _
 generalize ((w.alloc (mrow r m (some ⟨ga, 0, none⟩) na capa)).alloc (mrow m c B nb capb)).alloc (mrow 0 0 none 0 0) = W2 at *
 with_reducible refine (HI1.out _ (HAS.out _ _ HK2.out).1).mono ?_
 rintro e w3 ⟨hb3, hyes, _⟩
 obtain ⟨g1, rfl, hg1, hL1⟩ := hyes (fun j _ => HFX.out j)
 have HK3 := Lib.hid (HK2.out.room.came 3 rfl hb3 hg1 (o := lsI xs) hL1)
 clear c0 hb3 hyes hg1 hL1 HK2
 have c0 := HK3.out.cell 1 2 rfl rfl
 go_wp2_with fail
 with_reducible refine (HI2.out _ (HAS.out _ _ HK3.out).2).mono ?_
 rintro e w4' ⟨hb4, hyes, _⟩
 obtain ⟨g2, rfl, hg2, hL2⟩ := hyes (fun j _ => HFY.out j)
 have HK4 := Lib.hid (HK3.out.room.came 4 rfl hb4 hg2 (o := lsI ys) hL2)
 clear c0 hb4 hyes hg2 hL2 HK3
 have c0 := HK4.out.cell 0 0 rfl rfl
 have c1 := HK4.out.cell 0 1 rfl rfl
 have c2 := HK4.out.cell 1 0 rfl rfl
 have c3 := HK4.out.cell 1 1 rfl rfl
 go_wp2_with fail
 with_reducible refine (HBL.out _).mono ?_
 rintro e w5 ⟨rfl, rfl⟩
 go_wp2_with fail
 have hx1 : LsI w5 g1 xs := HK4.out.at_ 3 rfl
 have hx2 : LsI w5 g2 ys := HK4.out.at_ 4 rfl
 with_reducible refine (HMI.out g1 g2 w5 hx1 hx2).mono ?_
 rintro e w6 ⟨gp, rfl, hgp, hLp, hb6⟩
 have HK6 := Lib.hid ((HK4.out.room.came 5 rfl hb6 hgp (o := lsI (mulL xs ys r m c)) hLp).more (.cells #[.int .i64 (r : Int), .int .i64 (c : Int), .slice (some ⟨gp, 0, none⟩) NN NN] 147 (0, 0)))
 clear c0 c1 c2 c3 hb6 hgp hLp HK4
 go_wp2_with fail
 change Code.wp _ _ _ _ (w6.alloc (.cells #[.int .i64 (r : Int), .int .i64 (c : Int), .slice (some ⟨gp, 0, none⟩) NN NN] 147 (0, 0)))
 generalize w6.alloc (.cells #[.int .i64 (r : Int), .int .i64 (c : Int), .slice (some ⟨gp, 0, none⟩) NN NN] 147 (0, 0)) = W7 at *
 generalize w6.heap.size = b12 at *
 have HK7 := Lib.hid (show Kg none w W7 [some (w.heap.size, mrow r m (some ⟨ga, 0, none⟩) na capa), some (w.heap.size + 1, mrow m c B nb capb), some (w.heap.size + 1 + 1, mrow 0 0 none 0 0), some (g1, lsI xs), some (g2, lsI ys), some (gp, lsI (mulL xs ys r m c)), some (b12, .cells #[.int .i64 (r : Int), .int .i64 (c : Int), .slice (some ⟨gp, 0, none⟩) NN NN] 147 (0, 0)), none] from HK6.out.room)
 clear HK6
 refine wp_region_facts (X := Nat) (fun x => [(0, 50, .pointer (some ⟨w.heap.size, 0, none⟩)), (1, 51, .int .i64 (r : Int)), (2, 52, .pointer (some ⟨w.heap.size + 1, 1, none⟩)), (3, 53, .int .i64 (c : Int)), (4, 54, .pointer (some ⟨b12, 2, none⟩)), (5, 55, .slice (some ⟨gp, 0, none⟩) NN NN), (6, 56, .slice (some ⟨x, 0, none⟩) NN NN), (7, 57, .agg #[.int .i64 (r : Int), .int .i64 (c : Int), .slice (some ⟨x, 0, none⟩) NN NN]), (9, 5, .bool true)])
  (fun x L W => Kg none w W [some (w.heap.size, mrow r m (some ⟨ga, 0, none⟩) na capa), some (w.heap.size + 1, mrow m c B nb capb), some (w.heap.size + 1 + 1, if L 8 = true then mrow r c (some ⟨x, 0, none⟩) NN NN else mrow 0 0 none 0 0), some (g1, lsI xs), some (g2, lsI ys), some (gp, lsI (mulL xs ys r m c)), some (b12, .cells #[.int .i64 (r : Int), .int .i64 (c : Int), .slice (some ⟨gp, 0, none⟩) NN NN] 147 (0, 0)), entO (L 6) x (lwO (enc (mulL xs ys r m c)))]) (by kernel_rfl) (by kernel_rfl) 0 ?st (by kernel_rfl) ?_ ?_
 case st => simpa [entO_no] using HK7.out.drew
 ·repeat' (first | exact FactSteps.nil | refine FactSteps.cons ?_ ?_)
  all_goals
   intro L x wx hJ hl hd hs K hK
   (try simp [Region.binds] at hd)
   have e0 := hJ.cell 0 0 rfl rfl
   have e1 := hJ.cell 1 1 rfl rfl
   have e2 := hJ.cell 6 2 rfl rfl
   simp only [selA, selT_cons, selT_nil, List.set_cons_zero, List.set_cons_succ, List.getD_cons_zero, List.getD_cons_succ, hd, hl, selV_true, selV_false]
  ·go_simp
   refine hK.out x _ _ ?_ ?_
   ·simp [selA, selT_cons, selT_nil, hl, hd, selV_true, selV_false]
   ·simpa [hl] using hJ
  ·go_simp
   refine hK.out x _ _ ?_ ?_
   ·simp [selA, selT_cons, selT_nil, hl, hd, selV_true, selV_false]
   ·simpa [hl] using hJ
  ·go_simp
   refine hK.out x _ _ ?_ ?_
   ·simp [selA, selT_cons, selT_nil, hl, hd, selV_true, selV_false]
   ·simpa [hl] using hJ
  ·go_simp
   refine hK.out x _ _ ?_ ?_
   ·simp [selA, selT_cons, selT_nil, hl, hd, selV_true, selV_false]
   ·simpa [hl] using hJ
  ·go_simp
   refine hK.out x _ _ ?_ ?_
   ·simp [selA, selT_cons, selT_nil, hl, hd, selV_true, selV_false]
   ·simpa [hl] using hJ
  ·go_simp
   refine hK.out x _ _ ?_ ?_
   ·simp [selA, selT_cons, selT_nil, hl, hd, selV_true, selV_false]
   ·simpa [hl] using hJ
  ·have hn := hs 8 _ rfl (by simp [Region.binds])
   have hB := hJ
   simp only [hn, hl, Bool.false_eq_true, if_false, entO_no] at hB
   have hx5 : LsI wx gp (mulL xs ys r m c) := hB.at_ 5 rfl
   go_simp
   go_at_call 60
   with_reducible refine (HCV.out (some ⟨gp, 0, none⟩) NN wx hx5.rd).mono ?_
   rintro e v ⟨gq, rfl, hgq, hLq, hb⟩
   refine hK.out gq _ _ ?_ ?_
   ·simp [selA, selT_cons, selT_nil, hl, hd, hn, hs 7 _ rfl (by simp [Region.binds]), selV_true, selV_false]
   ·exact (hB.came 7 rfl hb hgq (o := lwO (enc (mulL xs ys r m c))) hLq).cast (by simp [hn, entO_yes])
  ·go_simp
   refine hK.out x _ _ ?_ ?_
   ·simp [selA, selT_cons, selT_nil, hl, hd, selV_true, selV_false]
   ·simpa [hl] using hJ
  ·have hB := hJ
   simp only [hl, hd, Bool.false_eq_true, if_false, entO_yes] at hB
   have f0 := hB.frozen 2 0 rfl
   have f1 := hB.frozen 2 1 rfl
   have f2 := hB.frozen 2 2 rfl
   have d0 := hB.cell 2 0 rfl rfl
   have d1 := hB.cell 2 1 rfl rfl
   have d2 := hB.cell 2 2 rfl rfl
   go_simp
   refine hK.out x _ _ ?_ ?_
   ·simp [selA, selT_cons, selT_nil, hl, hd, selV_true, selV_false]
   ·exact (((hB.put 2 0 rfl _).put 2 1 rfl _).put 2 2 rfl _).cast (by simp [hd, entO_yes, mrow])
  ·go_simp
   refine hK.out x _ _ ?_ ?_
   ·simp [selA, selT_cons, selT_nil, hl, hd, selV_true, selV_false]
   ·simpa [hl] using hJ
 ·rintro gq Wx hKx
  simp only [selA, selT_cons, selT_nil, List.set_cons_zero, List.set_cons_succ, List.getD_cons_zero, List.getD_cons_succ, selV_true]
  simp only [if_true, entO_yes] at hKx
  go_wp2
  refine bodyPost_ret (results_mat_tmp (b := w.heap.size + 1 + 1) rfl rfl (hKx.at_ 2 rfl)) rfl ?_
  exact ⟨gq, rfl, hKx.ge 7 rfl, hKx.at_ 7 rfl, ⟨hKx.1.os, hKx.1.tape, hKx.1.output, hKx.1.size, fun i hi => hKx.1.block i hi (by simp)⟩⟩
set_option maxRecDepth 100000 in
set_option maxHeartbeats 4000000 in
theorem Mul_intsX (B : Option Addr) (ga r m c na nb capa capb NN : Nat) (xs ys : List Int) (w : World) (hA : Lw w ga (enc xs)) (hB : RdW w B (enc ys)) (hxl : xs.length = r * m) (hyl : ys.length = m * c) (hna : na = r * m) (hnb : nb = m * c) (hr : r ≤ 200) (hm : m ≤ 200) (hc : c ≤ 200) (hNN : r * c = NN)
  (hra : mright r m (enc xs) = true) (hrb : mright m c (enc ys) = true) (hfx : ∀ j, fitI (xs.getD j 0)) (hfy : ∀ j, fitI (ys.getD j 0)) (hbit : maxB xs xs.length + maxB ys ys.length + Lib.bitLen m < 64) :
  Calls Tryz.prog 43 #[mat r m (some ⟨ga, 0, none⟩) na capa, mat m c B nb capb] w fun e w' => ∃ g, e = .returned (.tuple #[mat r c (some ⟨g, 0, none⟩) NN NN, .bool true]) ∧ w.heap.size ≤ g ∧ Lw w' g (enc (mulL xs ys r m c)) ∧ Below w.heap.size w w' := by
 have h1 : r * m ≤ 40000 := Nat.le_trans (Nat.mul_le_mul hr hm) (by omega)
 have h2 : m * c ≤ 40000 := Nat.le_trans (Nat.mul_le_mul hm hc) (by omega)
 have hr1 := fun W hW => Right_any (r : Int) (m : Int) (some ⟨ga, 0, none⟩) na capa (enc xs) W hW (by rw [enc_length, hxl, hna]) (by unfold maxLen; omega)
 have hr2 := fun W hW => Right_any (m : Int) (c : Int) B nb capb (enc ys) W hW (by rw [enc_length, hyl, hnb]) (by unfold maxLen; omega)
 rw [hra] at hr1
 rw [hrb] at hr2
 have hms := fun W hWa hWb => multiplySmall_okX B ga r m c na nb capa capb NN xs ys W hWa hWb hxl hyl hna hnb hr hm hc hNN hfx hfy hbit
 unfold mat at *
 have HR1 := Lib.hid hr1
 have HR2 := Lib.hid hr2
 have HMS := Lib.hid hms
 have HA := Lib.hid hA
 have HB := Lib.hid hB
 have hga := heap_lt hA
 clear hr1 hr2 hms hA hB hxl hyl hna hnb hNN hra hrb hfx hfy hbit h1 h2
 have hK1 := ((Kg.none_ none w 3).new 0 (mrow r m (some ⟨ga, 0, none⟩) na capa) rfl).new 1 (mrow m c B nb capb) rfl
 have HK2 := Lib.hid ((hK1.new 2 (mrow 0 0 none 0 0) rfl).cast (l' := [some (w.heap.size, mrow r m (some ⟨ga, 0, none⟩) na capa), some (w.heap.size + 1, mrow m c B nb capb), some (w.heap.size + 1 + 1, mrow 0 0 none 0 0)]) (by simp))
 have hAs : ∀ W l, Kg none w W l → Lw W ga (enc xs) ∧ RdW W B (enc ys) := fun W l h => ⟨(h.1.block ga hga (by simp)).trans HA.out, HB.out.below (Kg.below_ h)⟩
 have HAS := Lib.hid hAs
 have c0 := HK2.out.cell 0 0 rfl rfl
 have c1 := HK2.out.cell 0 1 rfl rfl
 have c2 := HK2.out.cell 0 2 rfl rfl
 clear hK1 hAs
 have hmm : ((m : Int) != (m : Int)) = false := by simp
 go_enter Tryz.func43, Tryz.ntmps43
 go_wp2_with fail
 change Calls _ _ _ (((w.alloc (mrow r m (some ⟨ga, 0, none⟩) na capa)).alloc (mrow m c B nb capb)).alloc (mrow 0 0 none 0 0)) _
 generalize ((w.alloc (mrow r m (some ⟨ga, 0, none⟩) na capa)).alloc (mrow m c B nb capb)).alloc (mrow 0 0 none 0 0) = W2 at *
 with_reducible refine (HR1.out _ (HAS.out _ _ HK2.out).1.rdw).mono ?_
 rintro e w3 ⟨rfl, hb3⟩
 have HK3 := Lib.hid (HK2.out.step hb3)
 clear c0 c1 c2 hb3 HK2
 have c0 := HK3.out.cell 1 0 rfl rfl
 have c1 := HK3.out.cell 1 1 rfl rfl
 have c2 := HK3.out.cell 1 2 rfl rfl
 go_wp2_with fail
 with_reducible refine (HR2.out _ (HAS.out _ _ HK3.out).2).mono ?_
 rintro e w4 ⟨rfl, hb4⟩
 have HK4 := Lib.hid (HK3.out.step hb4)
 clear c0 c1 c2 hb4 HK3
 have c0 := HK4.out.cell 1 0 rfl rfl
 have c1 := HK4.out.cell 1 1 rfl rfl
 have c2 := HK4.out.cell 1 2 rfl rfl
 have c3 := HK4.out.cell 0 0 rfl rfl
 have c4 := HK4.out.cell 0 1 rfl rfl
 have c5 := HK4.out.cell 0 2 rfl rfl
 go_wp2_with fail
 with_reducible refine (HMS.out _ (HAS.out _ _ HK4.out).1 (HAS.out _ _ HK4.out).2).mono ?_
 rintro e w5 ⟨g, rfl, hg, hLg, hb5⟩
 have HK5 := Lib.hid ((HK4.out.room.came 3 rfl hb5 hg (o := lwO (enc (mulL xs ys r m c))) hLg).more (mrow r c (some ⟨g, 0, none⟩) NN NN))
 clear c0 c1 c2 c3 c4 c5 hb5 hg hLg HK4
 have c0 := HK5.out.cell 4 0 rfl rfl
 have c1 := HK5.out.cell 4 1 rfl rfl
 have c2 := HK5.out.cell 4 2 rfl rfl
 have d0 := HK5.out.cell 2 0 rfl rfl
 have d1 := HK5.out.cell 2 1 rfl rfl
 have d2 := HK5.out.cell 2 2 rfl rfl
 have f0 := HK5.out.frozen 2 0 rfl
 have f1 := HK5.out.frozen 2 1 rfl
 have f2 := HK5.out.frozen 2 2 rfl
 unfold mrow at c0 c1 c2 d0 d1 d2 f0 f1 f2
 go_wp2_with fail
 have hK6 := ((HK5.out.put 2 0 rfl (.int .i64 (r : Int))).put 2 1 rfl (.int .i64 (c : Int))).put 2 2 rfl (.slice (some ⟨g, 0, none⟩) NN NN)
 refine bodyPost_ret (results_mat_tmp (b := w.heap.size + 1 + 1) rfl rfl (hK6.at_ 2 rfl)) rfl ?_
 exact ⟨g, rfl, hK6.ge 3 rfl, hK6.at_ 3 rfl, ⟨hK6.1.os, hK6.1.tape, hK6.1.output, hK6.1.size, fun i hi => hK6.1.block i hi (by simp)⟩⟩
set_option maxRecDepth 100000 in
set_option maxHeartbeats 4000000 in
theorem multiplySmall_noX (B : Option Addr) (ga r m c na nb capa capb NN : Nat) (xs ys : List Int) (w : World) (hA : Lw w ga (enc xs)) (hB : RdW w B (enc ys)) (hxl : xs.length = r * m) (hyl : ys.length = m * c) (hna : na = r * m) (hnb : nb = m * c) (hr : r ≤ 200) (hm : m ≤ 200) (hc : c ≤ 200) (hNN : r * c = NN) (hsx : ∀ q, (wmag (xs.getD q 0)).size ≤ 100) (hsy : ∀ q, (wmag (ys.getD q 0)).size ≤ 100) (hbit : 64 ≤ lenI xs na + lenI ys nb + Lib.bitLen m) :
  Calls Tryz.prog 93 #[mat r m (some ⟨ga, 0, none⟩) na capa, mat m c B nb capb] w fun e w' => e = .returned (.tuple #[mat 0 0 none 0 0, .bool false]) ∧ Below w.heap.size w w' := by
 have h1 : r * m ≤ 40000 := Nat.le_trans (Nat.mul_le_mul hr hm) (by omega)
 have h2 : m * c ≤ 40000 := Nat.le_trans (Nat.mul_le_mul hm hc) (by omega)
 have hi1 := fun W hW => ints_len ga na capa xs W hW (by omega) (by omega) (fun j => Nat.le_trans (hsx j) (by omega))
 have hi2 := fun W hW => ints_lenX B nb capb ys W hW (by omega) (by omega) (fun j => Nat.le_trans (hsy j) (by omega))
 have hbl := fun W => Tryz.bits_Len (m : Int) W (by omega) (by omega)
 simp only [Int.toNat_natCast] at hbl
 have hx64 := lenI_le xs na
 have hy64 := lenI_le ys nb
 have hm64 : Lib.bitLen m ≤ 64 := bitLen_le 64 m
 obtain ⟨lx, hlx⟩ : ∃ lx, lx = lenI xs na := ⟨_, rfl⟩
 obtain ⟨ly, hly⟩ : ∃ ly, ly = lenI ys nb := ⟨_, rfl⟩
 rw [← hlx] at hi1 hbit hx64
 rw [← hly] at hi2 hbit hy64
 obtain ⟨lm, hlm⟩ : ∃ lm, lm = Lib.bitLen m := ⟨_, rfl⟩
 rw [← hlm] at hbl hbit hm64
 unfold mat at *
 have HI1 := Lib.hid hi1
 have HI2 := Lib.hid hi2
 have HBL := Lib.hid hbl
 have HA := Lib.hid hA
 have HB := Lib.hid hB
 have hga := heap_lt hA
 clear hi1 hi2 hbl hA hB hxl hyl hna hnb hNN hlx hly hlm hsx hsy h1 h2
 obtain ⟨w1, w2, w4⟩ := bits_over lx ly lm hx64 hy64 hm64 hbit
 have w3 : IntKind.u64.wrap (m : Int) = m := IntWalk.u64_in _ (by omega)
 have W1 := Lib.hid w1
 have W2' := Lib.hid (show wrap64 (wrap64 ((lx : Int) + (ly : Int)) + (lm : Int)) = (lx : Int) + (ly : Int) + (lm : Int) from by rw [w1, w2])
 clear w1 w2 hx64 hy64 hm64
 have hK1 := ((Kg.none_ none w 3).new 0 (mrow r m (some ⟨ga, 0, none⟩) na capa) rfl).new 1 (mrow m c B nb capb) rfl
 have HK2 := Lib.hid ((hK1.new 2 (mrow 0 0 none 0 0) rfl).cast (l' := [some (w.heap.size, mrow r m (some ⟨ga, 0, none⟩) na capa), some (w.heap.size + 1, mrow m c B nb capb), some (w.heap.size + 1 + 1, mrow 0 0 none 0 0)]) (by simp))
 have hAs : ∀ W l, Kg none w W l → Lw W ga (enc xs) ∧ RdW W B (enc ys) := fun W l h => ⟨(h.1.block ga hga (by simp)).trans HA.out, HB.out.below (Kg.below_ h)⟩
 have HAS := Lib.hid hAs
 have c0 := HK2.out.cell 0 2 rfl rfl
 clear hK1 hAs
 go_enter Tryz.func93, Tryz.ntmps93
 go_wp2_with fail
 change Calls _ _ _ (((w.alloc (mrow r m (some ⟨ga, 0, none⟩) na capa)).alloc (mrow m c B nb capb)).alloc (mrow 0 0 none 0 0)) _
 generalize ((w.alloc (mrow r m (some ⟨ga, 0, none⟩) na capa)).alloc (mrow m c B nb capb)).alloc (mrow 0 0 none 0 0) = W2 at *
 with_reducible refine (HI1.out _ (HAS.out _ _ HK2.out).1).mono ?_
 rintro e w3' ⟨Ax, nx, rfl, hb3⟩
 have HK3 := Lib.hid (HK2.out.step hb3)
 clear c0 hb3 HK2
 have c0 := HK3.out.cell 1 2 rfl rfl
 go_wp2_with fail
 with_reducible refine (HI2.out _ (HAS.out _ _ HK3.out).2).mono ?_
 rintro e w4' ⟨Ay, ny, rfl, hb4⟩
 have HK4 := Lib.hid (HK3.out.step hb4)
 clear c0 hb4 HK3
 have c1 := HK4.out.cell 0 1 rfl rfl
 go_wp2_with fail
 with_reducible refine (HBL.out _).mono ?_
 rintro e w5 ⟨rfl, rfl⟩
 clear c1
 have w2 := W2'.out
 have f0 := HK4.out.frozen 2 0 rfl
 have f1 := HK4.out.frozen 2 1 rfl
 have f2 := HK4.out.frozen 2 2 rfl
 have g0 := HK4.out.cell 2 0 rfl rfl
 have g1 := HK4.out.cell 2 1 rfl rfl
 have g2 := HK4.out.cell 2 2 rfl rfl
 go_wp2_with fail
 have hP := ((HK4.out.put 2 0 rfl (.int .i64 0)).put 2 1 rfl (.int .i64 0)).put 2 2 rfl (.slice none 0 0)
 exact bodyPost_ret (results_mat_tmp (b := w.heap.size + 1 + 1) rfl rfl (hP.at_ 2 rfl)) rfl ⟨rfl, ⟨hP.1.os, hP.1.tape, hP.1.output, hP.1.size, fun i hi => hP.1.block i hi (by simp)⟩⟩
set_option maxRecDepth 100000 in
set_option maxHeartbeats 8000000 in
theorem multiply_wideX (ext : List Value) (ga gb r m c na nb capa capb NN : Nat) (xs ys : List Int) (w : World) (hA : Lw w ga (enc xs)) (hB : LwG ext w gb (enc ys)) (hxl : xs.length = r * m) (hyl : ys.length = m * c) (hr : r ≤ 200) (hm : m ≤ 200) (hc : c ≤ 200) (hna : r * m ≤ capa) (hnb : m * c ≤ capb) (hcapa : capa ≤ maxLen) (hcapb : capb ≤ maxLen) (hNN : r * c = NN) (hsx : ∀ q, (wmag (xs.getD q 0)).size ≤ 100) (hsy : ∀ q, (wmag (ys.getD q 0)).size ≤ 100) :
  Calls Tryz.prog 94 #[mat r m (some ⟨ga, 0, none⟩) na capa, mat m c (some ⟨gb, 0, none⟩) nb capb, .func (.func 51) #[] #[], .func (.func 52) #[] #[]] w fun e w' => ∃ g, e = .returned (mat r c (some ⟨g, 0, none⟩) NN NN) ∧ w.heap.size ≤ g ∧ Lw w' g (enc (mulL xs ys r m c)) ∧ Below w.heap.size w w' := by
 have hNN2 : NN ≤ 40000 := by rw [← hNN]; exact Nat.le_trans (Nat.mul_le_mul hr hc) (by omega)
 have hnt := fun W => newTable_any r c NN W (by omega) (by omega) hNN hNN2
 have hrp := fun g (i : Nat) (hi : i < r) W => row_any r c i (some ⟨g, 0, none⟩) NN NN W hi (by omega) (by omega) (Nat.le_of_eq hNN) (by unfold maxLen; omega)
 have hrb := fun (k : Nat) (hk : k < m) W => row_any m c k (some ⟨gb, 0, none⟩) nb capb W hk (by omega) (by omega) hnb hcapb
 simp only [row_of0] at hrp hrb
 have hvis := each_visits r m (some ⟨ga, 0, none⟩) na capa (by omega) (by omega) hna hcapa
 have hxy := fun i k j => mul_abs (xs.getD (i * m + k) 0) (ys.getD (k * c + j) 0) (hsx _) (hsy _)
 have hdt := fun i j k (hk : k ≤ 200) => dot_abs xs ys m c i j k hk hsx hsy
 obtain ⟨e0, he0⟩ : ∃ e0 : ByteArray, e0 = ⟨#[]⟩ := ⟨_, rfl⟩
 have hze : wneg 0 = false ∧ wmag 0 = e0 := by rw [he0]; exact ⟨rfl, rfl⟩
 have hnz : ∀ z : Int, z ≠ 0 → ¬ (wmag z).toList = e0.toList := fun z hz => by rw [he0]; exact wmag_ne z hz
 unfold mat at *
 have HNT := Lib.hid hnt
 have HRP := Lib.hid hrp
 have HRB := Lib.hid hrb
 have HVIS := Lib.hid hvis
 have HA := Lib.hid hA
 have HB := Lib.hid hB
 have HXL := Lib.hid hxl
 have HYL := Lib.hid hyl
 have HNN := Lib.hid hNN
 have HSX := Lib.hid hsx
 have HSY := Lib.hid hsy
 have HXY := Lib.hid hxy
 have HDT := Lib.hid hdt
 have HE0 := Lib.hid he0
 have HZE := Lib.hid hze
 have HNZ := Lib.hid hnz
 have hga := heap_lt hA
 have hgb := heap_lt hB
 clear hnt hrp hrb hvis hA hB hxl hyl hNN hsx hsy hxy hdt he0 hze hnz
 have hK1 := (((((Kg.none_ none w 6).new 0 (.cells #[.int .i64 (r : Int), .int .i64 (m : Int), .slice (some ⟨ga, 0, none⟩) na capa] 68 (0, 0)) rfl).new 1 (.cells #[.int .i64 (m : Int), .int .i64 (c : Int), .slice (some ⟨gb, 0, none⟩) nb capb] 68 (0, 0)) rfl).new 2 (.cells #[.func (.func 51) #[] #[]] 60 (0, 0)) rfl).new 3 (.cells #[.func (.func 52) #[] #[]] 60 (0, 0)) rfl).new 4 (.cells #[.int .i64 0, .int .i64 0, .slice none 0 0] 68 (0, 0)) rfl
 have HK2 := Lib.hid (show Kg none w ((((((w.alloc (.cells #[.int .i64 (r : Int), .int .i64 (m : Int), .slice (some ⟨ga, 0, none⟩) na capa] 68 (0, 0))).alloc (.cells #[.int .i64 (m : Int), .int .i64 (c : Int), .slice (some ⟨gb, 0, none⟩) nb capb] 68 (0, 0))).alloc (.cells #[.func (.func 51) #[] #[]] 60 (0, 0))).alloc (.cells #[.func (.func 52) #[] #[]] 60 (0, 0))).alloc (.cells #[.int .i64 0, .int .i64 0, .slice none 0 0] 68 (0, 0))).alloc (wbox false ⟨#[]⟩)) [some (w.heap.size, .cells #[.int .i64 (r : Int), .int .i64 (m : Int), .slice (some ⟨ga, 0, none⟩) na capa] 68 (0, 0)), some (w.heap.size + 1, .cells #[.int .i64 (m : Int), .int .i64 (c : Int), .slice (some ⟨gb, 0, none⟩) nb capb] 68 (0, 0)), some (w.heap.size + 1 + 1, .cells #[.func (.func 51) #[] #[]] 60 (0, 0)), some (w.heap.size + 1 + 1 + 1, .cells #[.func (.func 52) #[] #[]] 60 (0, 0)), some (w.heap.size + 1 + 1 + 1 + 1, .cells #[.int .i64 0, .int .i64 0, .slice none 0 0] 68 (0, 0)), some (w.heap.size + 1 + 1 + 1 + 1 + 1, wbox false e0)] from by
  rw [HE0.out]
  exact (hK1.new 5 (wbox false ⟨#[]⟩) rfl).cast (by simp))
 have hAs : ∀ W l, Kg none w W l → Lw W ga (enc xs) ∧ LwG ext W gb (enc ys) := fun W l h => ⟨(h.1.block ga hga (by simp)).trans HA.out, (h.1.block gb hgb (by simp)).trans HB.out⟩
 have HAS := Lib.hid hAs
 have c0 := HK2.out.cell 0 0 rfl rfl
 have c1 := HK2.out.cell 1 1 rfl rfl
 clear hK1 hAs
 refine (callsIn_wide (n := 0)).1 ?_
 refine callsIn_of_wp_marks Tryz.func94 rfl trivial ?_ rfl
 simp only [Tryz.ntmps94, List.size_toArray, List.length_cons, List.length_nil, Nat.reduceAdd, Nat.reduceSub, Array.replicate_succ, Array.replicate_zero, List.push_toArray, List.append_toArray, List.nil_append, List.cons_append]
 gi_wp2_with fail
 change _ ∧ _ ∧ CallsIn _ _ _ _ _ ((((((w.alloc (.cells #[.int .i64 (r : Int), .int .i64 (m : Int), .slice (some ⟨ga, 0, none⟩) na capa] 68 (0, 0))).alloc (.cells #[.int .i64 (m : Int), .int .i64 (c : Int), .slice (some ⟨gb, 0, none⟩) nb capb] 68 (0, 0))).alloc (.cells #[.func (.func 51) #[] #[]] 60 (0, 0))).alloc (.cells #[.func (.func 52) #[] #[]] 60 (0, 0))).alloc (.cells #[.int .i64 0, .int .i64 0, .slice none 0 0] 68 (0, 0))).alloc (wbox false ⟨#[]⟩)) _
 generalize (((((w.alloc (.cells #[.int .i64 (r : Int), .int .i64 (m : Int), .slice (some ⟨ga, 0, none⟩) na capa] 68 (0, 0))).alloc (.cells #[.int .i64 (m : Int), .int .i64 (c : Int), .slice (some ⟨gb, 0, none⟩) nb capb] 68 (0, 0))).alloc (.cells #[.func (.func 51) #[] #[]] 60 (0, 0))).alloc (.cells #[.func (.func 52) #[] #[]] 60 (0, 0))).alloc (.cells #[.int .i64 0, .int .i64 0, .slice none 0 0] 68 (0, 0))).alloc (wbox false ⟨#[]⟩) = W2 at *
 refine ⟨trivial, rfl, ?_⟩
 with_reducible refine (callsIn_wide.2 (HNT.out _)).mono ?_
 rintro e w3 ⟨g, rfl, hg, hLg, hb3⟩
 have HK3 := Lib.hid ((HK2.out.room.came 6 rfl hb3 hg (o := lwO (enc (prS xs ys r m c 0 0 0))) (by rw [prS_zero, HNN.out, enc_zeros]; exact hLg)).more (.cells #[.int .i64 (r : Int), .int .i64 (c : Int), .slice (some ⟨g, 0, none⟩) NN NN] 68 (0, 0)))
 have hW2 := HK2.out.1.size
 clear hLg hb3 c0 c1
 have c0 := HK3.out.cell 0 0 rfl rfl
 have c1 := HK3.out.cell 0 1 rfl rfl
 have c2 := HK3.out.cell 0 2 rfl rfl
 gi_wp2_with fail
 clear c0 c1 c2
 change Code.wpIn _ _ _ _ _ _ (w3.alloc (.cells #[.int .i64 (r : Int), .int .i64 (c : Int), .slice (some ⟨g, 0, none⟩) NN NN] 68 (0, 0)))
 generalize w3.alloc (.cells #[.int .i64 (r : Int), .int .i64 (c : Int), .slice (some ⟨g, 0, none⟩) NN NN] 68 (0, 0)) = W4 at *
 generalize w3.heap.size = b10 at *
 have hK4 : Kg none w W4 [some (w.heap.size, .cells #[.int .i64 (r : Int), .int .i64 (m : Int), .slice (some ⟨ga, 0, none⟩) na capa] 68 (0, 0)), some (w.heap.size + 1, .cells #[.int .i64 (m : Int), .int .i64 (c : Int), .slice (some ⟨gb, 0, none⟩) nb capb] 68 (0, 0)), some (w.heap.size + 1 + 1, .cells #[.func (.func 51) #[] #[]] 60 (0, 0)), some (w.heap.size + 1 + 1 + 1, .cells #[.func (.func 52) #[] #[]] 60 (0, 0)), some (w.heap.size + 1 + 1 + 1 + 1, .cells #[.int .i64 0, .int .i64 0, .slice none 0 0] 68 (0, 0)), some (w.heap.size + 1 + 1 + 1 + 1 + 1, wbox false e0), some (g, lwO (enc (prS xs ys r m c 0 0 0))), some (b10, .cells #[.int .i64 (r : Int), .int .i64 (c : Int), .slice (some ⟨g, 0, none⟩) NN NN] 68 (0, 0))] := HK3.out
 have HK4 := Lib.hid hK4
 clear HK3 hK4
 refine range_boxed (a := ?A) (ps := #[25, 26]) (gf := 59) (first := #[.agg #[.int .i64 (r : Int), .int .i64 (m : Int), .slice (some ⟨ga, 0, none⟩) na capa]]) ?hg1 (enters_of Tryz.func59 (by kernel_rfl) rfl)
  HVIS.out ?hps1
  (fun i V => Kg none w V [some (w.heap.size, .cells #[.int .i64 (r : Int), .int .i64 (m : Int), .slice (some ⟨ga, 0, none⟩) na capa] 68 (0, 0)), some (w.heap.size + 1, .cells #[.int .i64 (m : Int), .int .i64 (c : Int), .slice (some ⟨gb, 0, none⟩) nb capb] 68 (0, 0)), some (w.heap.size + 1 + 1, .cells #[.func (.func 51) #[] #[]] 60 (0, 0)), some (w.heap.size + 1 + 1 + 1, .cells #[.func (.func 52) #[] #[]] 60 (0, 0)), some (w.heap.size + 1 + 1 + 1 + 1, .cells #[.int .i64 0, .int .i64 0, .slice none 0 0] 68 (0, 0)), some (w.heap.size + 1 + 1 + 1 + 1 + 1, wbox false e0), some (g, lwO (enc (prS xs ys r m c i 0 0))), some (b10, .cells #[.int .i64 (r : Int), .int .i64 (c : Int), .slice (some ⟨g, 0, none⟩) NN NN] 68 (0, 0))])
  (fun _ _ => False) ?own ?ownx HK4.out
  (fun i a' V => a' = { tmps := ((((?A).tmps.setIfInBounds 25 (.int .i64 (i : Int))).setIfInBounds 26 (.slice (some ⟨ga, i * m * 2, none⟩) m m)).setIfInBounds 11 (.int .i64 (i : Int))).setIfInBounds 12 (.slice (some ⟨ga, i * m * 2, none⟩) m m), defers := [] })
  (fun _ _ _ _ h _ => h) ?assign ?body ?done (fun _ _ _ _ h => h.elim)
 case hg1 => rfl
 case hps1 => exact fun k => rfl
 case own => exact fun i V V' h hl => h.later' hl HK4.out.1.size rfl
 case ownx => exact fun _ _ _ h _ => h.elim
 case assign =>
  intro l i V K' hi hz hI hK'
  unfold rowArgs
  rw [row_of0]
  clear hI
  gi_wp2
  exact hK' _ _ rfl (Below.refl _ _)
 case body =>
  rintro l i a' V hi hz hl0 hl1 hKV rfl
  simp only [List.setIfInBounds_toArray, List.set_cons_succ, List.set_cons_zero]
  have hrp := fun W => HRP.out g i hi W
  have c0 := hKV.cell 7 0 rfl rfl
  have c1 := hKV.cell 7 1 rfl rfl
  have c2 := hKV.cell 7 2 rfl rfl
  have HKV := Lib.hid hKV
  have HRPi := Lib.hid hrp
  clear hKV hrp
  gi_wp2_with fail
  refine ⟨trivial, rfl, ?_⟩
  with_reducible refine (CallsIn.inRound l (callsIn_wide.2 (HRPi.out _))).mono ?_
  rintro e V1 ⟨rfl, hb1⟩
  have HK1 := Lib.hid (HKV.out.step hb1)
  have Hk1 := Lib.hid ((Kept.refl W4.heap.size V).below hb1)
  have hgl := HK4.out.lt 6 rfl
  clear c0 c1 c2 hb1 HKV hl1 hz
  gi_wp2_with fail
  gi_loopw [14, 15, 32] (fun _ _ ii wr => ∃ k : Nat, ii = .int .i64 k ∧ k ≤ m ∧ Kg none w wr [some (w.heap.size, .cells #[.int .i64 (r : Int), .int .i64 (m : Int), .slice (some ⟨ga, 0, none⟩) na capa] 68 (0, 0)), some (w.heap.size + 1, .cells #[.int .i64 (m : Int), .int .i64 (c : Int), .slice (some ⟨gb, 0, none⟩) nb capb] 68 (0, 0)), some (w.heap.size + 1 + 1, .cells #[.func (.func 51) #[] #[]] 60 (0, 0)), some (w.heap.size + 1 + 1 + 1, .cells #[.func (.func 52) #[] #[]] 60 (0, 0)), some (w.heap.size + 1 + 1 + 1 + 1, .cells #[.int .i64 0, .int .i64 0, .slice none 0 0] 68 (0, 0)), some (w.heap.size + 1 + 1 + 1 + 1 + 1, wbox false e0), some (g, lwO (enc (prS xs ys r m c i k 0))), some (b10, .cells #[.int .i64 (r : Int), .int .i64 (c : Int), .slice (some ⟨g, 0, none⟩) NN NN] 68 (0, 0))] ∧ Kept W4.heap.size V wr) (fun _ _ ii _ => m - (intOf ii).toNat)
  case atStart => exact ⟨0, rfl, Nat.zero_le _, HK1.out, Hk1.out⟩
  case round =>
   obtain ⟨k, rfl, hk, hKk, hkk⟩ := hrel
   have HKk := Lib.hid hKk
   have Hkk := Lib.hid hkk
   clear hKk hkk HK1 Hk1
   by_cases hlt : k < m
   ·obtain ⟨hLa, hLb⟩ := HAS.out _ _ HKk.out
    have hin : i * m + k < (enc xs).length := by rw [enc_length, HXL.out]; exact in_table hi hlt
    have c0 := hLa.cell0 (i * m + k) hin
    have c1 := hLa.cell1 (i * m + k) hin
    rw [enc_get] at c0 c1
    rw [Nat.add_mul] at c0 c1
    dsimp only at c0 c1
    obtain ⟨x, hx⟩ : ∃ x, x = xs.getD (i * m + k) 0 := ⟨_, rfl⟩
    rw [← hx] at c0 c1
    have HX := Lib.hid hx
    have HKa := Lib.hid (show Kg none w (wr.alloc (wbox (wneg x) (wmag x))) [some (w.heap.size, .cells #[.int .i64 (r : Int), .int .i64 (m : Int), .slice (some ⟨ga, 0, none⟩) na capa] 68 (0, 0)), some (w.heap.size + 1, .cells #[.int .i64 (m : Int), .int .i64 (c : Int), .slice (some ⟨gb, 0, none⟩) nb capb] 68 (0, 0)), some (w.heap.size + 1 + 1, .cells #[.func (.func 51) #[] #[]] 60 (0, 0)), some (w.heap.size + 1 + 1 + 1, .cells #[.func (.func 52) #[] #[]] 60 (0, 0)), some (w.heap.size + 1 + 1 + 1 + 1, .cells #[.int .i64 0, .int .i64 0, .slice none 0 0] 68 (0, 0)), some (w.heap.size + 1 + 1 + 1 + 1 + 1, wbox false e0), some (g, lwO (enc (prS xs ys r m c i k 0))), some (b10, .cells #[.int .i64 (r : Int), .int .i64 (c : Int), .slice (some ⟨g, 0, none⟩) NN NN] 68 (0, 0)), some (wr.heap.size, wbox (wneg x) (wmag x))] from HKk.out.more (wbox (wneg x) (wmag x)))
    have Hka := Lib.hid (Hkk.out.below ((Below.refl _ _).alloc (Nat.le_refl _) (wbox (wneg x) (wmag x))))
    clear hx hLa hLb hin
    have d0 := HKa.out.cell 8 0 rfl rfl
    have d1 := HKa.out.cell 8 1 rfl rfl
    have z0 := HKa.out.cell 5 0 rfl rfl
    have z1 := HKa.out.cell 5 1 rfl rfl
    unfold wbox at d0 d1 z0 z1
    by_cases hx0 : x = 0
    ·subst hx0
     have hsk := prS_skipRow xs ys r m c i k HX.out.symm
     have HSK := Lib.hid hsk
     clear hsk
     obtain ⟨hw0, hw1⟩ := HZE.out
     simp only [hw0, hw1] at c0 c1 d0 d1 z0 z1 HKa Hka
     gi_wp2_with fail
     exact ⟨⟨k + 1, by simp, by omega, by rw [← HSK.out]; exact HKa.out.take 8, Hka.out⟩, by simp [intOf]; omega⟩
    ·have hne := HNZ.out x hx0
     have hrb := fun W => HRB.out k hlt W
     have HRBk := Lib.hid hrb
     clear hrb
     have c3 := HKa.out.cell 1 0 rfl rfl
     have c4 := HKa.out.cell 1 1 rfl rfl
     have c5 := HKa.out.cell 1 2 rfl rfl
     unfold wbox at c3 c4 c5
     gi_wp2_with fail
     clear c0 c1 c3 c4 c5 d0 d1 z0 z1 hne HKk Hkk
     change _ ∧ _ ∧ CallsIn _ _ _ _ _ (wr.alloc (wbox (wneg x) (wmag x))) _
     generalize wr.alloc (wbox (wneg x) (wmag x)) = W8 at *
     generalize wr.heap.size = b8 at *
     refine ⟨trivial, rfl, ?_⟩
     with_reducible refine (CallsIn.inRound l (callsIn_wide.2 (HRBk.out _))).mono ?_
     rintro e V2 ⟨rfl, hb2⟩
     have HK2' := Lib.hid (HKa.out.step hb2)
     have Hk2 := Lib.hid (Hka.out.below hb2)
     clear hb2 HKa Hka
     gi_wp2_with fail
     gi_loopw [16, 17, 44] (fun _ _ ii wr => ∃ j : Nat, ii = .int .i64 j ∧ j ≤ c ∧ Kg none w wr [some (w.heap.size, .cells #[.int .i64 (r : Int), .int .i64 (m : Int), .slice (some ⟨ga, 0, none⟩) na capa] 68 (0, 0)), some (w.heap.size + 1, .cells #[.int .i64 (m : Int), .int .i64 (c : Int), .slice (some ⟨gb, 0, none⟩) nb capb] 68 (0, 0)), some (w.heap.size + 1 + 1, .cells #[.func (.func 51) #[] #[]] 60 (0, 0)), some (w.heap.size + 1 + 1 + 1, .cells #[.func (.func 52) #[] #[]] 60 (0, 0)), some (w.heap.size + 1 + 1 + 1 + 1, .cells #[.int .i64 0, .int .i64 0, .slice none 0 0] 68 (0, 0)), some (w.heap.size + 1 + 1 + 1 + 1 + 1, wbox false e0), some (g, lwO (enc (prS xs ys r m c i k j))), some (b10, .cells #[.int .i64 (r : Int), .int .i64 (c : Int), .slice (some ⟨g, 0, none⟩) NN NN] 68 (0, 0)), some (b8, wbox (wneg x) (wmag x))] ∧ Kept W4.heap.size V wr) (fun _ _ ii _ => c - (intOf ii).toNat)
     case atStart => exact ⟨0, rfl, Nat.zero_le _, HK2'.out, Hk2.out⟩
     case round =>
      obtain ⟨j, rfl, hj, hKj, hkj⟩ := hrel
      have HKj := Lib.hid hKj
      have Hkj := Lib.hid hkj
      clear hKj hkj HK2' Hk2
      by_cases hltj : j < c
      ·obtain ⟨hLa, hLb⟩ := HAS.out _ _ HKj.out
       have hin : k * c + j < (enc ys).length := by rw [enc_length, HYL.out]; exact in_table hlt hltj
       have c0 := hLb.cell0 (k * c + j) hin
       have c1 := hLb.cell1 (k * c + j) hin
       rw [enc_get] at c0 c1
       rw [Nat.add_mul] at c0 c1
       dsimp only at c0 c1
       obtain ⟨y, hy⟩ : ∃ y, y = ys.getD (k * c + j) 0 := ⟨_, rfl⟩
       rw [← hy] at c0 c1
       have HY := Lib.hid hy
       have HKa := Lib.hid (show Kg none w (wr.alloc (wbox (wneg y) (wmag y))) [some (w.heap.size, .cells #[.int .i64 (r : Int), .int .i64 (m : Int), .slice (some ⟨ga, 0, none⟩) na capa] 68 (0, 0)), some (w.heap.size + 1, .cells #[.int .i64 (m : Int), .int .i64 (c : Int), .slice (some ⟨gb, 0, none⟩) nb capb] 68 (0, 0)), some (w.heap.size + 1 + 1, .cells #[.func (.func 51) #[] #[]] 60 (0, 0)), some (w.heap.size + 1 + 1 + 1, .cells #[.func (.func 52) #[] #[]] 60 (0, 0)), some (w.heap.size + 1 + 1 + 1 + 1, .cells #[.int .i64 0, .int .i64 0, .slice none 0 0] 68 (0, 0)), some (w.heap.size + 1 + 1 + 1 + 1 + 1, wbox false e0), some (g, lwO (enc (prS xs ys r m c i k j))), some (b10, .cells #[.int .i64 (r : Int), .int .i64 (c : Int), .slice (some ⟨g, 0, none⟩) NN NN] 68 (0, 0)), some (b8, wbox (wneg x) (wmag x)), some (wr.heap.size, wbox (wneg y) (wmag y))] from HKj.out.more (wbox (wneg y) (wmag y)))
       have Hka := Lib.hid (Hkj.out.below ((Below.refl _ _).alloc (Nat.le_refl _) (wbox (wneg y) (wmag y))))
       clear hy hLa hLb hin
       have d0 := HKa.out.cell 9 0 rfl rfl
       have d1 := HKa.out.cell 9 1 rfl rfl
       have z0 := HKa.out.cell 5 0 rfl rfl
       have z1 := HKa.out.cell 5 1 rfl rfl
       unfold wbox at d0 d1 z0 z1
       by_cases hy0 : y = 0
       ·subst hy0
        have hsk := prS_skip xs ys r m c i k j HY.out.symm
        have HSK := Lib.hid hsk
        clear hsk
        obtain ⟨hw0, hw1⟩ := HZE.out
        simp only [hw0, hw1] at c0 c1 d0 d1 z0 z1 HKa Hka
        gi_wp2_with fail
        exact ⟨⟨j + 1, by simp, by omega, by rw [← HSK.out]; exact HKa.out.take 9, Hka.out⟩, by simp [intOf]; omega⟩
       ·have hne := HNZ.out y hy0
        have hmu := fun W => Mul_any (wneg x) (wneg y) (wmag x) (wmag y) W (Nat.le_trans (by rw [HX.out]; exact HSX.out _) (show 100 ≤ _ by omega)) (Nat.le_trans (by rw [HY.out]; exact HSY.out _) (show 100 ≤ _ by omega))
        have hsz1 : (wmag (x * y)).size ≤ 200 := wmag_size _ _ (by rw [HX.out, HY.out]; exact HXY.out i k j)
        have hd1 : dotI xs ys m c i j (k + 1) = dotI xs ys m c i j k + x * y := by rw [HX.out, HY.out]; rfl
        have hsz0 : (wmag (dotI xs ys m c i j k)).size ≤ 201 := wmag_size _ _ (HDT.out i j k (by omega))
        have had := fun W => Add_any (wneg (dotI xs ys m c i j k)) (wneg (x * y)) (wmag (dotI xs ys m c i j k)) (wmag (x * y)) W (by omega) (by omega)
        rw [wint_wv', wint_wv', wv_def] at hmu had
        have hat := prS_at xs ys r m c i k j hi hltj
        have hset := prS_set xs ys r m c i k j hi hltj
        rw [hd1] at hset
        generalize dotI xs ys m c i j k = s0 at *
        obtain ⟨xy, hxy⟩ : ∃ xy, xy = x * y := ⟨_, rfl⟩
        rw [← hxy] at hmu had hset
        obtain ⟨s1, hs1⟩ : ∃ s1, s1 = s0 + xy := ⟨_, rfl⟩
        rw [← hs1] at had hset
        have hlen := prS_length xs ys r m c i k j
        have hij := in_table hi hltj
        have HMU := Lib.hid hmu
        have HAD := Lib.hid had
        have HAT := Lib.hid hat
        have HSET := Lib.hid hset
        have HLEN := Lib.hid hlen
        have HIJ := Lib.hid hij
        clear hmu had hat hset hlen hij hxy hs1 hd1 hsz0 hsz1
        gi_wp2_with fail
        clear c0 c1 d0 d1 z0 z1 hne
        change Code.wpIn _ _ _ _ _ _ (wr.alloc (wbox (wneg y) (wmag y)))
        generalize wr.alloc (wbox (wneg y) (wmag y)) = W9 at *
        generalize wr.heap.size = b9 at *
        refine wpIn_region_facts (X := Unit) (fun _ => [(0, 52, .slice (some ⟨g, i * c * 2, none⟩) c c), (1, 53, .int .i64 (j : Int)), (2, 54, .func (.func 52) #[] #[]), (3, 55, .slice (some ⟨g, i * c * 2, none⟩) c c), (4, 56, .int .i64 (j : Int)), (5, 57, .pointer (some ⟨g, i * c * 2 + j * 2, none⟩)), (6, 58, .agg #[.bool (wneg s0), .string (wmag s0)]), (7, 59, .func (.func 51) #[] #[]), (8, 60, .agg #[.bool (wneg x), .string (wmag x)]), (9, 61, .agg #[.bool (wneg y), .string (wmag y)]), (10, 62, .agg #[.bool (wneg xy), .string (wmag xy)]), (11, 63, .agg #[.bool (wneg s1), .string (wmag s1)]), (12, 64, .pointer (some ⟨g, i * c * 2 + j * 2, none⟩))])
         (fun _ L W => Kg none w W [some (w.heap.size, .cells #[.int .i64 (r : Int), .int .i64 (m : Int), .slice (some ⟨ga, 0, none⟩) na capa] 68 (0, 0)), some (w.heap.size + 1, .cells #[.int .i64 (m : Int), .int .i64 (c : Int), .slice (some ⟨gb, 0, none⟩) nb capb] 68 (0, 0)), some (w.heap.size + 1 + 1, .cells #[.func (.func 51) #[] #[]] 60 (0, 0)), some (w.heap.size + 1 + 1 + 1, .cells #[.func (.func 52) #[] #[]] 60 (0, 0)), some (w.heap.size + 1 + 1 + 1 + 1, .cells #[.int .i64 0, .int .i64 0, .slice none 0 0] 68 (0, 0)), some (w.heap.size + 1 + 1 + 1 + 1 + 1, wbox false e0), some (g, lwO (enc (if L 13 = true then prS xs ys r m c i k (j + 1) else prS xs ys r m c i k j))), some (b10, .cells #[.int .i64 (r : Int), .int .i64 (c : Int), .slice (some ⟨g, 0, none⟩) NN NN] 68 (0, 0)), some (b8, wbox (wneg x) (wmag x)), some (b9, wbox (wneg y) (wmag y))] ∧ Kept W4.heap.size V W) (by kernel_rfl) (by kernel_rfl) () ?st (by kernel_rfl) ?_ ?_
        case st => exact ⟨by simpa using HKa.out.drew, Hka.out.drew⟩
        ·repeat' (first | exact FactStepsIn.nil | refine FactStepsIn.cons ?_ ?_)
         all_goals
          intro L xx wx hJ hl hd hs K hK
          (try simp [Region.binds] at hd)
          have e0' := hJ.1.cell 3 0 rfl rfl
          have e1 := hJ.1.cell 2 0 rfl rfl
          have e2 := hJ.1.cell 8 0 rfl rfl
          have e3 := hJ.1.cell 8 1 rfl rfl
          have e4 := hJ.1.cell 9 0 rfl rfl
          have e5 := hJ.1.cell 9 1 rfl rfl
          simp only [selA, selT_cons, selT_nil, List.set_cons_zero, List.set_cons_succ, List.getD_cons_zero, List.getD_cons_succ, hd, hl, selV_true, selV_false]
         ·go_simp
          refine hK.out () _ _ ?_ ?_
          ·simp [selA, selT_cons, selT_nil, hl, hd, selV_true, selV_false]
          ·exact ⟨by simpa [hl] using hJ.1, hJ.2⟩
         ·go_simp
          refine hK.out () _ _ ?_ ?_
          ·simp [selA, selT_cons, selT_nil, hl, hd, selV_true, selV_false]
          ·exact ⟨by simpa [hl] using hJ.1, hJ.2⟩
         ·go_simp
          refine hK.out () _ _ ?_ ?_
          ·simp [selA, selT_cons, selT_nil, hl, hd, selV_true, selV_false]
          ·exact ⟨by simpa [hl] using hJ.1, hJ.2⟩
         ·go_simp
          refine hK.out () _ _ ?_ ?_
          ·simp [selA, selT_cons, selT_nil, hl, hd, selV_true, selV_false]
          ·exact ⟨by simpa [hl] using hJ.1, hJ.2⟩
         ·go_simp
          refine hK.out () _ _ ?_ ?_
          ·simp [selA, selT_cons, selT_nil, hl, hd, selV_true, selV_false]
          ·exact ⟨by simpa [hl] using hJ.1, hJ.2⟩
         ·go_simp
          refine hK.out () _ _ ?_ ?_
          ·simp [selA, selT_cons, selT_nil, hl, hd, selV_true, selV_false]
          ·exact ⟨by simpa [hl] using hJ.1, hJ.2⟩
         ·have hn := hs 13 _ rfl (by simp [Region.binds])
          have hB := hJ.1
          simp only [hn, Bool.false_eq_true, if_false] at hB
          have hLg : Lw wx g (enc (prS xs ys r m c i k j)) := hB.at_ 6 rfl
          have hin : i * c + j < (enc (prS xs ys r m c i k j)).length := by rw [enc_length, HLEN.out]; exact HIJ.out
          have g0 := hLg.cell0 (i * c + j) hin
          have g1 := hLg.cell1 (i * c + j) hin
          rw [enc_get] at g0 g1
          dsimp only at g0 g1
          rw [HAT.out, Nat.add_mul] at g0 g1
          clear hLg hB
          go_simp
          refine hK.out () _ _ ?_ ?_
          ·simp [selA, selT_cons, selT_nil, hl, hd, hn, selV_true, selV_false]
          ·exact ⟨by simpa [hl] using hJ.1, hJ.2⟩
         ·go_simp
          refine hK.out () _ _ ?_ ?_
          ·simp [selA, selT_cons, selT_nil, hl, hd, selV_true, selV_false]
          ·exact ⟨by simpa [hl] using hJ.1, hJ.2⟩
         ·go_simp
          refine hK.out () _ _ ?_ ?_
          ·simp [selA, selT_cons, selT_nil, hl, hd, selV_true, selV_false]
          ·exact ⟨by simpa [hl] using hJ.1, hJ.2⟩
         ·go_simp
          refine hK.out () _ _ ?_ ?_
          ·simp [selA, selT_cons, selT_nil, hl, hd, selV_true, selV_false]
          ·exact ⟨by simpa [hl] using hJ.1, hJ.2⟩
         ·go_simp
          refine ⟨trivial, rfl, ?_⟩
          with_reducible refine (CallsIn.inRound l (callsIn_wide.2 (HMU.out _))).mono ?_
          rintro e v ⟨rfl, hb⟩
          refine hK.out () _ _ ?_ ?_
          ·simp [selA, selT_cons, selT_nil, hl, hd, selV_true, selV_false]
          ·exact ⟨by simpa [hl] using hJ.1.step hb, hJ.2.below hb⟩
         ·go_simp
          refine ⟨trivial, rfl, ?_⟩
          with_reducible refine (CallsIn.inRound l (callsIn_wide.2 (HAD.out _))).mono ?_
          rintro e v ⟨rfl, hb⟩
          refine hK.out () _ _ ?_ ?_
          ·simp [selA, selT_cons, selT_nil, hl, hd, selV_true, selV_false]
          ·exact ⟨by simpa [hl] using hJ.1.step hb, hJ.2.below hb⟩
         ·go_simp
          refine hK.out () _ _ ?_ ?_
          ·simp [selA, selT_cons, selT_nil, hl, hd, selV_true, selV_false]
          ·exact ⟨by simpa [hl] using hJ.1, hJ.2⟩
         ·have hB := hJ.1
          simp only [hl, Bool.false_eq_true, if_false] at hB
          have hLg : Lw wx g (enc (prS xs ys r m c i k j)) := hB.at_ 6 rfl
          have hql : i * c + j < (enc (prS xs ys r m c i k j)).length := by rw [enc_length, HLEN.out]; exact HIJ.out
          have d0 := hLg.cell0 (i * c + j) hql
          have d1 := hLg.cell1 (i * c + j) hql
          have f0 := hB.frozen 6 ((i * c + j) * 2) rfl
          have f1 := hB.frozen 6 ((i * c + j) * 2 + 1) rfl
          generalize ((enc (prS xs ys r m c i k j))[i * c + j]'hql).1 = u0 at d0
          generalize ((enc (prS xs ys r m c i k j))[i * c + j]'hql).2 = u1 at d1
          have hP := hLg.put (i * c + j) (wneg s1) (wmag s1)
          have hst : (enc (prS xs ys r m c i k j)).set (i * c + j) (wneg s1, wmag s1) = enc (prS xs ys r m c i k (j + 1)) := by rw [← HSET.out]; unfold enc; rw [List.map_set]
          rw [hst] at hP
          have hGr := grownBy_setRow (g := g) (p := ⟨g, (i * c + j) * 2 + 1, none⟩) (grownBy_setRow (g := g) (p := ⟨g, (i * c + j) * 2, none⟩) (World.grownBy.refl wx _) rfl (.bool (wneg s1))) rfl (.string (wmag s1))
          rw [Nat.add_mul] at d0 d1 f0 f1 hP hGr
          have HP := Lib.hid hP
          have HGr := Lib.hid hGr
          have HB' := Lib.hid hB
          clear hP hLg hB hGr hst
          go_simp
          refine hK.out () _ _ ?_ ?_
          ·simp [selA, selT_cons, selT_nil, hl, hd, selV_true, selV_false]
          ·exact ⟨(HB'.out.change 6 rfl HGr.out (o' := lwO (enc (prS xs ys r m c i k (j + 1)))) HP.out).cast (by simp), hJ.2.grown HGr.out hgl⟩
        ·rintro _ Wx ⟨hKx, hkx⟩
         simp only [selA, selT_cons, selT_nil, List.set_cons_zero, List.set_cons_succ, List.getD_cons_zero, List.getD_cons_succ, selV_true]
         simp only [if_true] at hKx
         have hK9 : Kg none w Wx [some (w.heap.size, .cells #[.int .i64 (r : Int), .int .i64 (m : Int), .slice (some ⟨ga, 0, none⟩) na capa] 68 (0, 0)), some (w.heap.size + 1, .cells #[.int .i64 (m : Int), .int .i64 (c : Int), .slice (some ⟨gb, 0, none⟩) nb capb] 68 (0, 0)), some (w.heap.size + 1 + 1, .cells #[.func (.func 51) #[] #[]] 60 (0, 0)), some (w.heap.size + 1 + 1 + 1, .cells #[.func (.func 52) #[] #[]] 60 (0, 0)), some (w.heap.size + 1 + 1 + 1 + 1, .cells #[.int .i64 0, .int .i64 0, .slice none 0 0] 68 (0, 0)), some (w.heap.size + 1 + 1 + 1 + 1 + 1, wbox false e0), some (g, lwO (enc (prS xs ys r m c i k (j + 1)))), some (b10, .cells #[.int .i64 (r : Int), .int .i64 (c : Int), .slice (some ⟨g, 0, none⟩) NN NN] 68 (0, 0)), some (b8, wbox (wneg x) (wmag x))] := hKx.take 9
         gi_wp2_with fail
         exact ⟨⟨j + 1, by simp, by omega, hK9, hkx⟩, by simp [intOf]; omega⟩
      ·obtain rfl : j = c := by omega
       have hrw2 := prS_row xs ys r m j i k
       have HRW := Lib.hid hrw2
       clear hrw2 hj
       gi_wp2_with fail
       exact ⟨⟨k + 1, by simp, by omega, by rw [← HRW.out]; exact HKj.out.take 8, Hkj.out⟩, by simp [intOf]; omega⟩
   ·obtain rfl : k = m := by omega
    have hdn := prS_done xs ys r k c i
    have HDN := Lib.hid hdn
    clear hdn hk
    gi_wp2_with fail
    have h9 := HKk.out
    rw [HDN.out] at h9
    exact ⟨Hkk.out, h9⟩
 case done =>
  rintro D V hD h2 hd
  rw [prS_full] at h2
  have c0 := h2.cell 7 0 rfl rfl
  have c1 := h2.cell 7 1 rfl rfl
  have c2 := h2.cell 7 2 rfl rfl
  have d0 := h2.cell 4 0 rfl rfl
  have d1 := h2.cell 4 1 rfl rfl
  have d2 := h2.cell 4 2 rfl rfl
  have f0 := h2.frozen 4 0 rfl
  have f1 := h2.frozen 4 1 rfl
  have f2 := h2.frozen 4 2 rfl
  have HK := Lib.hid h2
  clear h2
  gi_wp2_with fail
  have hl1 := HK4.out.lt 4 rfl
  have hK2 := ((HK.out.put 4 0 rfl (.int .i64 (r : Int))).put 4 1 rfl (.int .i64 (c : Int))).put 4 2 rfl (.slice (some ⟨g, 0, none⟩) NN NN)
  have hd2 : (((V.setCell ⟨w.heap.size + 1 + 1 + 1 + 1, 0, none⟩ (.int .i64 (r : Int))).setCell ⟨w.heap.size + 1 + 1 + 1 + 1, 1, none⟩ (.int .i64 (c : Int))).setCell ⟨w.heap.size + 1 + 1 + 1 + 1, 2, none⟩ (.slice (some ⟨g, 0, none⟩) NN NN)).heap[D]? = some (.deferred (some [])) :=
   (Below.heap_setCell _ _ _ _ (by simp only []; omega)).trans ((Below.heap_setCell _ _ _ _ (by simp only []; omega)).trans ((Below.heap_setCell _ _ _ _ (by simp only []; omega)).trans hd))
  have hlp := later_put (B := W4.heap.size) (.deferred none) hD hd2 rfl
  have hK5 := hK2.later' hlp HK4.out.1.size rfl
  refine ⟨by simp, .inl ⟨_, _, rfl, run_takeDeferred hd2, ?_⟩⟩
  exact ⟨_, results_tableW (b := w.heap.size + 1 + 1 + 1 + 1) rfl rfl (hK5.at_ 4 rfl), g, rfl, HK4.out.ge 6 rfl, hK5.at_ 6 rfl, ⟨hK5.1.os, hK5.1.tape, hK5.1.output, hK5.1.size, fun i hi => hK5.1.block i hi (by simp)⟩⟩
set_option maxRecDepth 100000 in
set_option maxHeartbeats 4000000 in
theorem Mul_widesX (ext : List Value) (ga gb r m c na nb capa capb NN : Nat) (xs ys : List Int) (w : World) (hA : Lw w ga (enc xs)) (hB : LwG ext w gb (enc ys)) (hxl : xs.length = r * m) (hyl : ys.length = m * c) (hna : na = r * m) (hnb : nb = m * c) (hr : r ≤ 200) (hm : m ≤ 200) (hc : c ≤ 200) (hNN : r * c = NN) (hca : na ≤ capa) (hcb : nb ≤ capb) (hma : capa ≤ maxLen) (hmb : capb ≤ maxLen) (hra : mright r m (enc xs) = true) (hrb : mright m c (enc ys) = true) (hsx : ∀ q, (wmag (xs.getD q 0)).size ≤ 100) (hsy : ∀ q, (wmag (ys.getD q 0)).size ≤ 100) (hbit : 64 ≤ lenI xs na + lenI ys nb + Lib.bitLen m) :
  Calls Tryz.prog 43 #[mat r m (some ⟨ga, 0, none⟩) na capa, mat m c (some ⟨gb, 0, none⟩) nb capb] w fun e w' => ∃ g, e = .returned (.tuple #[mat r c (some ⟨g, 0, none⟩) NN NN, .bool true]) ∧ w.heap.size ≤ g ∧ Lw w' g (enc (mulL xs ys r m c)) ∧ Below w.heap.size w w' := by
 have h1 : r * m ≤ 40000 := Nat.le_trans (Nat.mul_le_mul hr hm) (by omega)
 have h2 : m * c ≤ 40000 := Nat.le_trans (Nat.mul_le_mul hm hc) (by omega)
 have hr1 := fun W hW => Right_any (r : Int) (m : Int) (some ⟨ga, 0, none⟩) na capa (enc xs) W hW (by rw [enc_length, hxl, hna]) (by unfold maxLen; omega)
 have hr2 := fun W hW => Right_any (m : Int) (c : Int) (some ⟨gb, 0, none⟩) nb capb (enc ys) W hW (by rw [enc_length, hyl, hnb]) (by unfold maxLen; omega)
 rw [hra] at hr1
 rw [hrb] at hr2
 have hms := fun W hWa (hWb : LwG ext W gb (enc ys)) => multiplySmall_noX (some ⟨gb, 0, none⟩) ga r m c na nb capa capb NN xs ys W hWa hWb.rdw hxl hyl hna hnb hr hm hc hNN hsx hsy hbit
 have hmw := fun W hWa hWb => multiply_wideX ext ga gb r m c na nb capa capb NN xs ys W hWa hWb hxl hyl hr hm hc (by omega) (by omega) hma hmb hNN hsx hsy
 have hto := fun W => tableOf_any (r : Int) (m : Int) (some ⟨ga, 0, none⟩) na capa W
 have htp := fun W => tableOf_any (m : Int) (c : Int) (some ⟨gb, 0, none⟩) nb capb W
 have hmo := fun g W => matrixOf_any (r : Int) (c : Int) (some ⟨g, 0, none⟩) NN NN W
 unfold mat at *
 have HR1 := Lib.hid hr1
 have HR2 := Lib.hid hr2
 have HMS := Lib.hid hms
 have HMW := Lib.hid hmw
 have HTO := Lib.hid hto
 have HTP := Lib.hid htp
 have HMO := Lib.hid hmo
 have HA := Lib.hid hA
 have HB := Lib.hid hB
 have hga := heap_lt hA
 have hgb := heap_lt hB
 obtain ⟨zz, hzz⟩ : ∃ zz, zz = mulL xs ys r m c := ⟨_, rfl⟩
 rw [← hzz] at HMW ⊢
 clear hr1 hr2 hms hmw hto htp hmo hA hB hxl hyl hna hnb hNN hra hrb hsx hsy hbit h1 h2 hzz hca hcb hma hmb
 have hK1 := ((Kg.none_ none w 3).new 0 (mrow r m (some ⟨ga, 0, none⟩) na capa) rfl).new 1 (mrow m c (some ⟨gb, 0, none⟩) nb capb) rfl
 have HK2 := Lib.hid ((hK1.new 2 (mrow 0 0 none 0 0) rfl).cast (l' := [some (w.heap.size, mrow r m (some ⟨ga, 0, none⟩) na capa), some (w.heap.size + 1, mrow m c (some ⟨gb, 0, none⟩) nb capb), some (w.heap.size + 1 + 1, mrow 0 0 none 0 0)]) (by simp))
 have hAs : ∀ W l, Kg none w W l → Lw W ga (enc xs) ∧ LwG ext W gb (enc ys) := fun W l h => ⟨(h.1.block ga hga (by simp)).trans HA.out, (h.1.block gb hgb (by simp)).trans HB.out⟩
 have HAS := Lib.hid hAs
 have c0 := HK2.out.cell 0 0 rfl rfl
 have c1 := HK2.out.cell 0 1 rfl rfl
 have c2 := HK2.out.cell 0 2 rfl rfl
 clear hK1 hAs
 have hmm : ((m : Int) != (m : Int)) = false := by simp
 go_enter Tryz.func43, Tryz.ntmps43
 go_wp2_with fail
 change Calls _ _ _ (((w.alloc (mrow r m (some ⟨ga, 0, none⟩) na capa)).alloc (mrow m c (some ⟨gb, 0, none⟩) nb capb)).alloc (mrow 0 0 none 0 0)) _
 generalize ((w.alloc (mrow r m (some ⟨ga, 0, none⟩) na capa)).alloc (mrow m c (some ⟨gb, 0, none⟩) nb capb)).alloc (mrow 0 0 none 0 0) = W2 at *
 with_reducible refine (HR1.out _ (HAS.out _ _ HK2.out).1.rdw).mono ?_
 rintro e w3 ⟨rfl, hb3⟩
 have HK3 := Lib.hid (HK2.out.step hb3)
 clear c0 c1 c2 hb3 HK2
 have c0 := HK3.out.cell 1 0 rfl rfl
 have c1 := HK3.out.cell 1 1 rfl rfl
 have c2 := HK3.out.cell 1 2 rfl rfl
 go_wp2_with fail
 with_reducible refine (HR2.out _ (HAS.out _ _ HK3.out).2.rdw).mono ?_
 rintro e w4 ⟨rfl, hb4⟩
 have HK4 := Lib.hid (HK3.out.step hb4)
 clear c0 c1 c2 hb4 HK3
 have c0 := HK4.out.cell 1 0 rfl rfl
 have c1 := HK4.out.cell 1 1 rfl rfl
 have c2 := HK4.out.cell 1 2 rfl rfl
 have c3 := HK4.out.cell 0 0 rfl rfl
 have c4 := HK4.out.cell 0 1 rfl rfl
 have c5 := HK4.out.cell 0 2 rfl rfl
 go_wp2_with fail
 with_reducible refine (HMS.out _ (HAS.out _ _ HK4.out).1 (HAS.out _ _ HK4.out).2).mono ?_
 rintro e w5 ⟨rfl, hb5⟩
 have HK5 := Lib.hid (show Kg none w (w5.alloc (mrow 0 0 none 0 0)) [some (w.heap.size, mrow r m (some ⟨ga, 0, none⟩) na capa), some (w.heap.size + 1, mrow m c (some ⟨gb, 0, none⟩) nb capb), some (w.heap.size + 1 + 1, mrow 0 0 none 0 0), some (w5.heap.size, mrow 0 0 none 0 0)] from (HK4.out.step hb5).more (mrow 0 0 none 0 0))
 clear c0 c1 c2 c3 c4 c5 hb5 HK4
 go_wp2_with fail
 change Code.wp _ _ _ _ (w5.alloc (mrow 0 0 none 0 0))
 generalize w5.alloc (mrow 0 0 none 0 0) = W6 at *
 generalize w5.heap.size = b6 at *
 refine wp_region_acts (X := Nat) (fun x => [(0, 32, .agg #[.int .i64 (r : Int), .int .i64 (m : Int), .slice (some ⟨ga, 0, none⟩) na capa]), (1, 33, .agg #[.int .i64 (r : Int), .int .i64 (m : Int), .slice (some ⟨ga, 0, none⟩) na capa]), (2, 34, .agg #[.int .i64 (m : Int), .int .i64 (c : Int), .slice (some ⟨gb, 0, none⟩) nb capb]), (3, 35, .agg #[.int .i64 (m : Int), .int .i64 (c : Int), .slice (some ⟨gb, 0, none⟩) nb capb]), (4, 36, .agg #[.int .i64 (r : Int), .int .i64 (c : Int), .slice (some ⟨x, 0, none⟩) NN NN]), (5, 37, .agg #[.int .i64 (r : Int), .int .i64 (c : Int), .slice (some ⟨x, 0, none⟩) NN NN]), (7, 5, .bool true)])
  (fun x L W => Kg none w W [some (w.heap.size, mrow r m (some ⟨ga, 0, none⟩) na capa), some (w.heap.size + 1, mrow m c (some ⟨gb, 0, none⟩) nb capb), some (w.heap.size + 1 + 1, if L 6 = true then mrow r c (some ⟨x, 0, none⟩) NN NN else mrow 0 0 none 0 0), some (b6, mrow 0 0 none 0 0), entO (L 4) x (lwO (enc zz))]) (by kernel_rfl) (by kernel_rfl) 0 ?st (by kernel_rfl) ?_ ?_
 case st => simpa [entO_no] using HK5.out.drew.room
 ·simp only [selA, selT_cons, selT_nil, List.set_cons_zero, List.set_cons_succ, List.getD_cons_zero, List.getD_cons_succ]
  repeat' (first | exact ActSteps.nil | refine ActSteps.cons ?_ ?_)
  all_goals
   intro L x wx hJ hl hd hs K hK
   (try simp [Region.binds] at hd)
   have e0 := hJ.cell 0 0 rfl rfl
   have e1 := hJ.cell 0 1 rfl rfl
   have e2 := hJ.cell 0 2 rfl rfl
   have e3 := hJ.cell 1 0 rfl rfl
   have e4 := hJ.cell 1 1 rfl rfl
   have e5 := hJ.cell 1 2 rfl rfl
   try simp only [hd, hl, selV_true, selV_false]
  ·go_simp
   refine hK.out x _ _ ?_ ?_
   ·simp [hl, hd, selV_true, selV_false]
   ·exact hJ
  ·go_simp
   with_reducible refine (HTO.out _).mono ?_
   rintro e v ⟨rfl, hb⟩
   refine hK.out x _ _ ?_ ?_
   ·simp [hl, hd, selV_true, selV_false]
   ·exact hJ.step hb
  ·go_simp
   refine hK.out x _ _ ?_ ?_
   ·simp [hl, hd, selV_true, selV_false]
   ·exact hJ
  ·go_simp
   with_reducible refine (HTP.out _).mono ?_
   rintro e v ⟨rfl, hb⟩
   refine hK.out x _ _ ?_ ?_
   ·simp [hl, hd, selV_true, selV_false]
   ·exact hJ.step hb
  ·have hn5 := hs 5 _ rfl (by simp [Region.binds])
   have hn6 := hs 6 _ rfl (by simp [Region.binds])
   have hB := hJ
   simp only [hn6, hl, Bool.false_eq_true, if_false, entO_no] at hB
   obtain ⟨hxa, hxb⟩ := HAS.out _ _ hB
   go_simp
   with_reducible refine (HMW.out _ hxa hxb).mono ?_
   rintro e v ⟨h, rfl, hh, hLh, hb⟩
   refine hK.out h _ _ ?_ ?_
   ·simp [hl, hd, hn5, hn6, selV_true, selV_false]
   ·exact (hB.came 4 rfl hb hh (o := lwO (enc zz)) hLh).cast (by simp [hn6, entO_yes])
  ·go_simp
   with_reducible refine (HMO.out x _).mono ?_
   rintro e v ⟨rfl, hb⟩
   refine hK.out x _ _ ?_ ?_
   ·simp [hl, hd, selV_true, selV_false]
   ·exact hJ.step hb
  ·have hB := hJ
   simp only [hl, Bool.false_eq_true, if_false] at hB
   have f0 := hB.frozen 2 0 rfl
   have f1 := hB.frozen 2 1 rfl
   have f2 := hB.frozen 2 2 rfl
   have g0 := hB.cell 2 0 rfl rfl
   have g1 := hB.cell 2 1 rfl rfl
   have g2 := hB.cell 2 2 rfl rfl
   have HB' := Lib.hid hB
   clear hB
   go_simp
   refine hK.out x _ _ ?_ ?_
   ·simp [hl, hd, selV_true, selV_false]
   ·refine Kg.cast (((HB'.out.put 2 0 rfl (.int .i64 (r : Int))).put 2 1 rfl (.int .i64 (c : Int))).put 2 2 rfl (.slice (some ⟨x, 0, none⟩) NN NN)) ?_
    simp [mrow, hd]
  ·go_simp
   refine hK.out x _ _ ?_ ?_
   ·simp [hl, hd, selV_true, selV_false]
   ·exact hJ
 ·rintro x3 Wx hKx
  simp only [selA, selT_cons, selT_nil, List.set_cons_zero, List.set_cons_succ, List.getD_cons_zero, List.getD_cons_succ, selV_true]
  simp only [if_true, entO_yes] at hKx
  have HKX := Lib.hid hKx
  clear hKx
  go_wp2_with fail
  exact bodyPost_ret (results_mat_tmp (b := w.heap.size + 1 + 1) rfl rfl (HKX.out.at_ 2 rfl)) rfl ⟨x3, rfl, HKX.out.ge 4 rfl, HKX.out.at_ 4 rfl, ⟨HKX.out.1.os, HKX.out.1.tape, HKX.out.1.output, HKX.out.1.size, fun i hi => HKX.out.1.block i hi (by simp)⟩⟩
theorem Mul_okX (ext : List Value) (ga gb r m c na nb capa capb NN : Nat) (xs ys : List Int) (w : World) (hA : Lw w ga (enc xs)) (hB : LwG ext w gb (enc ys)) (hxl : xs.length = r * m) (hyl : ys.length = m * c) (hna : na = r * m) (hnb : nb = m * c) (hr : r ≤ 200) (hm : m ≤ 200) (hc : c ≤ 200) (hNN : r * c = NN) (hca : na ≤ capa) (hcb : nb ≤ capb) (hma : capa ≤ maxLen) (hmb : capb ≤ maxLen) (hsx : ∀ q, (wmag (xs.getD q 0)).size ≤ 100) (hsy : ∀ q, (wmag (ys.getD q 0)).size ≤ 100) :
  Calls Tryz.prog 43 #[mat r m (some ⟨ga, 0, none⟩) na capa, mat m c (some ⟨gb, 0, none⟩) nb capb] w fun e w' => ∃ g, e = .returned (.tuple #[mat r c (some ⟨g, 0, none⟩) NN NN, .bool true]) ∧ w.heap.size ≤ g ∧ Lw w' g (enc (mulL xs ys r m c)) ∧ Below w.heap.size w w' := by
 have hra := mright_ints r m xs hxl hr hm
 have hrb := mright_ints m c ys hyl hm hc
 by_cases hbit : 64 ≤ lenI xs na + lenI ys nb + Lib.bitLen m
 ·exact Mul_widesX ext ga gb r m c na nb capa capb NN xs ys w hA hB hxl hyl hna hnb hr hm hc hNN hca hcb hma hmb hra hrb hsx hsy hbit
 ·have all : ∀ (zs : List Int) (n : Nat), zs.length = n → lenI zs n < 64 → (∀ j, fitI (zs.getD j 0)) ∧ lenI zs n = maxB zs n := fun zs n hn hl => by
   unfold lenI at hl ⊢
   split at hl
   ·next h =>
    rw [if_pos h]
    refine ⟨fun j => ?_, rfl⟩
    rcases Nat.lt_or_ge j n with hj | hj
    ·exact h j hj
    ·rw [List.getD_eq_getElem?_getD, List.getElem?_eq_none (by omega)]
     exact ⟨by simp, by simp⟩
   ·omega
  obtain ⟨hfx, ex⟩ := all xs na (by rw [hxl, hna]) (by omega)
  obtain ⟨hfy, ey⟩ := all ys nb (by rw [hyl, hnb]) (by omega)
  exact Mul_intsX (some ⟨gb, 0, none⟩) ga r m c na nb capa capb NN xs ys w hA hB.rdw hxl hyl hna hnb hr hm hc hNN hra hrb hfx hfy (by rw [hxl, ← hna, hyl, ← hnb, ← ex, ← ey]; omega)
end Go.Proofs.YtknaghdoffigjaaGreatDoor
