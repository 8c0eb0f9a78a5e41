import Derived.Test.YtknaghdoffigjaaGreatDoorZMEqual
import Derived.Test.YtknaghdoffigjaaGreatDoorZMMul
set_option linter.unusedSimpArgs false
set_option linter.unusedVariables false
set_option linter.unnecessarySimpa false
namespace Go.Proofs.YtknaghdoffigjaaGreatDoor
open Go.RowKit Go
theorem rfits_any (r c : Int) (w : World) :
  Calls Tryz.prog 62 #[.int .i64 r, .int .i64 c] w fun e w' => e = .returned (.bool (msize r && msize c)) ∧ w' = w := by
 have hm : (msize r && msize c) = (decide (r ≥ 0) && decide (c ≥ 0) && decide (r ≤ 200) && decide (c ≤ 200)) := by
  unfold msize
  by_cases h1 : r ≥ 0 <;> by_cases h2 : c ≥ 0 <;> by_cases h3 : r ≤ 200 <;> by_cases h4 : c ≤ 200 <;> simp [h1, h2, h3, h4]
 rw [hm]
 clear hm
 cases h1 : decide (r ≥ 0) with
 | false =>
  go_enter Tryz.func62, Tryz.ntmps62
  go_wp2
  go_ret
  exact ⟨rfl, rfl⟩
 | true =>
  cases h2 : decide (c ≥ 0) with
  | false =>
   go_enter Tryz.func62, Tryz.ntmps62
   go_wp2
   go_ret
   exact ⟨rfl, rfl⟩
  | true =>
   cases h3 : decide (r ≤ 200) with
   | false =>
    go_enter Tryz.func62, Tryz.ntmps62
    go_wp2
    go_ret
    exact ⟨rfl, rfl⟩
   | true =>
    cases h4 : decide (c ≤ 200) with
    | false =>
     go_enter Tryz.func62, Tryz.ntmps62
     go_wp2
     go_ret
     exact ⟨rfl, rfl⟩
    | true =>
     go_enter Tryz.func62, Tryz.ntmps62
     go_wp2
     go_ret
     exact ⟨rfl, rfl⟩
theorem alloc_mat (w : World) (r c : Int) (A : Option Addr) (n cap : Nat) : Below w.heap.size w (w.alloc (.cells #[.int .i64 r, .int .i64 c, .slice A n cap] 28)) := (Below.refl _ _).alloc (Nat.le_refl _) _
set_option maxHeartbeats 2000000 in
theorem rZero_fits (r c n : Nat) (w : World) (hr : r ≤ 200) (hc : c ≤ 200) (hn : r * c = n) :
  Calls Tryz.prog 21 #[.int .i64 (r : Int), .int .i64 (c : Int)] w fun e w' =>
   ∃ g, e = .returned (mat r c (some ⟨g, 0, none⟩) n n) ∧ w.heap.size ≤ g ∧ Lw w' g (List.replicate n (false, ⟨#[]⟩)) ∧ Below w.heap.size w w' := by
 have hnn : r * c ≤ 200 * 200 := Nat.mul_le_mul hr hc
 have hf := fun W => rfits_any (r : Int) (c : Int) W
 rw [show (msize (r : Int) && msize (c : Int)) = true by simp [msize]; omega] at hf
 have HF := Lib.hid hf
 have e1 : (r : Int) * (c : Int) = (n : Int) := by rw [← hn, Int.natCast_mul]
 have w1 : wrap64 (n : Int) = n := IntWalk.wrap64_in _ (by omega)
 have hmk := make_wides n (by omega)
 have hM := (Mb.new w (r : Int) (c : Int) (some ⟨w.heap.size + 1, 0, none⟩) n n).alloc (.cells (flat (List.replicate n (false, ⟨#[]⟩))).toArray 32)
 have hL : Lw ((w.alloc (.cells #[.int .i64 (r : Int), .int .i64 (c : Int), .slice (some ⟨w.heap.size + 1, 0, none⟩) n n] 28)).alloc (.cells (flat (List.replicate n (false, ⟨#[]⟩))).toArray 32)) (w.alloc (.cells #[.int .i64 (r : Int), .int .i64 (c : Int), .slice (some ⟨w.heap.size + 1, 0, none⟩) n n] 28)).heap.size (List.replicate n (false, ⟨#[]⟩)) := heap_alloc_new _ _
 have hB := below2 w (.cells #[.int .i64 (r : Int), .int .i64 (c : Int), .slice (some ⟨w.heap.size + 1, 0, none⟩) n n] 28) (.cells (flat (List.replicate n (false, ⟨#[]⟩))).toArray 32)
 clear hf hn hnn
 go_enter Tryz.func21, Tryz.ntmps21
 go_wp2_with fail
 with_reducible refine (HF.out _).mono ?_
 rintro e w1 ⟨rfl, rfl⟩
 go_wp2
 exact post_mat (b := w.heap.size) rfl rfl hM rfl ⟨w.heap.size + 1, rfl, by omega, by simpa using hL, hB⟩
end Go.Proofs.YtknaghdoffigjaaGreatDoor
namespace Go.Proofs.YtknaghdoffigjaaGreatDoor
open Go.RowKit Go
set_option maxRecDepth 100000 in
set_option maxHeartbeats 4000000 in
theorem rLists_any (A B : Option Addr) (n m ca cb : Nat) (xs ys : List (Bool × ByteArray)) (w : World) (hx : RdW w A xs) (hy : RdW w B ys) (hn : xs.length = n) (hm : ys.length = m) (hnb : n ≤ 1000000) (hmb : m ≤ 1000000) :
  Calls Tryz.prog 48 #[.slice A n ca, .slice B m cb] w fun e w' => e = .returned (.bool (decide (xs = ys))) ∧ Below w.heap.size w w' := by
 have HX := Lib.hid hx
 have HY := Lib.hid hy
 have HN := Lib.hid hn
 have HM := Lib.hid hm
 clear hx hy hn hm
 by_cases hlen : n = m
 ·subst hlen
  have hne : ((n : Int) != (n : Int)) = false := by simp
  have hne2 : ((n : Int) == (n : Int)) = true := by simp
  go_enter Tryz.func48, Tryz.ntmps48
  go_wp2_with fail
  go_loopw [5] (fun i wr => ∃ k : Nat, i = .int .i64 k ∧ k ≤ n ∧ xs.take k = ys.take k ∧ Below w.heap.size w wr) (fun i _ => n - (intOf i).toNat)
  case atStart => exact ⟨0, rfl, Nat.zero_le _, rfl, Below.refl _ _⟩
  case round =>
   obtain ⟨k, rfl, hk, ht, hb⟩ := hrel
   by_cases hlt : k < n
   ·obtain ⟨a, rfl, ha, a0, a1⟩ := (HX.out.below hb) k (by rw [HN.out]; exact hlt)
    obtain ⟨b, rfl, hbb, b0, b1⟩ := (HY.out.below hb) k (by rw [HM.out]; exact hlt)
    obtain ⟨p, hp⟩ : ∃ p, p = xs[k]'(by rw [HN.out]; exact hlt) := ⟨_, rfl⟩
    obtain ⟨q, hq⟩ : ∃ q, q = ys[k]'(by rw [HM.out]; exact hlt) := ⟨_, rfl⟩
    rw [← hp] at a0 a1
    rw [← hq] at b0 b1
    have HP := Lib.hid hp
    have HQ := Lib.hid hq
    have HT := Lib.hid ht
    have HB := Lib.hid hb
    clear hp hq ht hb ha hbb
    rcases p with ⟨px, ps⟩
    rcases q with ⟨qx, qs⟩
    simp only at a0 a1 b0 b1
    by_cases heq : (px, ps) = (qx, qs)
    ·have hnext : xs.take (k + 1) = ys.take (k + 1) := by
      rw [List.take_add_one, List.take_add_one, HT.out, List.getElem?_eq_getElem (by rw [HN.out]; exact hlt), List.getElem?_eq_getElem (by rw [HM.out]; exact hlt), ← HP.out, ← HQ.out, heq]
     have HX2 := Lib.hid hnext
     obtain ⟨rfl, rfl⟩ := Prod.mk.inj heq
     clear hnext heq
     go_wp2_with fail
     go_region_held3 (fun w' => w'.cell? (a.add (k * 2)) = some (.bool px) ∧ w'.cell? ⟨(a.add (k * 2)).block, (a.add (k * 2)).off + 1, none⟩ = some (.string ps) ∧ w'.cell? (b.add (k * 2)) = some (.bool px) ∧ w'.cell? ⟨(b.add (k * 2)).block, (b.add (k * 2)).off + 1, none⟩ = some (.string ps)) (go_keep) (first | fail)
     go_wp2
     go_roundw
     case rel => exact ⟨k + 1, rfl, by omega, HX2.out, HB.out.drew⟩
     case measure => simp [intOf]; omega
    ·have hdiff : xs ≠ ys := fun e => heq (by subst e; rw [HP.out, HQ.out])
     have HD := Lib.hid hdiff
     clear hdiff
     by_cases hpx : px = qx
     ·subst hpx
      have hs : ¬ ps.toList = qs.toList := fun e => heq (by
       have := wsame px px ps qs
       rw [e] at this
       simp at this
       rw [this])
      clear heq
      go_wp2_with fail
      go_region_held3 (fun w' => w'.cell? (a.add (k * 2)) = some (.bool px) ∧ w'.cell? ⟨(a.add (k * 2)).block, (a.add (k * 2)).off + 1, none⟩ = some (.string ps) ∧ w'.cell? (b.add (k * 2)) = some (.bool px) ∧ w'.cell? ⟨(b.add (k * 2)).block, (b.add (k * 2)).off + 1, none⟩ = some (.string qs)) (go_keep) (first | fail)
      go_wp2
      go_ret
      exact ⟨by rw [decide_eq_false HD.out]; rfl, HB.out.drew⟩
     ·clear heq
      cases px
      ·cases qx
       ·exact absurd rfl hpx
       ·clear hpx
        go_wp2_with fail
        go_region_held3 (fun w' => w'.cell? (a.add (k * 2)) = some (.bool false) ∧ w'.cell? ⟨(a.add (k * 2)).block, (a.add (k * 2)).off + 1, none⟩ = some (.string ps) ∧ w'.cell? (b.add (k * 2)) = some (.bool true) ∧ w'.cell? ⟨(b.add (k * 2)).block, (b.add (k * 2)).off + 1, none⟩ = some (.string qs)) (go_keep) (first | fail)
        go_wp2
        go_ret
        exact ⟨by rw [decide_eq_false HD.out]; rfl, HB.out.drew⟩
      ·cases qx
       ·clear hpx
        go_wp2_with fail
        go_region_held3 (fun w' => w'.cell? (a.add (k * 2)) = some (.bool true) ∧ w'.cell? ⟨(a.add (k * 2)).block, (a.add (k * 2)).off + 1, none⟩ = some (.string ps) ∧ w'.cell? (b.add (k * 2)) = some (.bool false) ∧ w'.cell? ⟨(b.add (k * 2)).block, (b.add (k * 2)).off + 1, none⟩ = some (.string qs)) (go_keep) (first | fail)
        go_wp2
        go_ret
        exact ⟨by rw [decide_eq_false HD.out]; rfl, HB.out.drew⟩
       ·exact absurd rfl hpx
   ·obtain rfl : k = n := by omega
    have hall : xs = ys := by
     rw [List.take_of_length_le (by rw [HN.out]; exact Nat.le_refl _), List.take_of_length_le (by rw [HM.out]; exact Nat.le_refl _)] at ht
     exact ht
    have HA := Lib.hid hall
    have HB := Lib.hid hb
    clear hall ht hb hk
    go_wp2
    go_ret
    exact ⟨by rw [decide_eq_true HA.out]; rfl, HB.out⟩
 ·have hne : ((n : Int) != (m : Int)) = true := by simp; omega
  have hne2 : ((n : Int) == (m : Int)) = false := by rw [beq_eq_false_iff_ne]; omega
  have hdiff : xs ≠ ys := fun e => hlen (by rw [← HN.out, ← HM.out, e])
  have HD := Lib.hid hdiff
  clear hdiff
  go_enter Tryz.func48, Tryz.ntmps48
  go_wp2
  go_ret
  exact ⟨by rw [decide_eq_false HD.out]; rfl, Below.refl _ _⟩
end Go.Proofs.YtknaghdoffigjaaGreatDoor
namespace Go.Proofs.YtknaghdoffigjaaGreatDoor
open Go.RowKit Go
set_option maxRecDepth 100000 in
set_option maxHeartbeats 4000000 in
theorem rCanonical_any (A : Option Addr) (n c : Nat) (zs : List (Bool × ByteArray)) (w : World) (hr : RdW w A zs) (hn : zs.length = n) (hm : n ≤ maxLen) :
  Calls Tryz.prog 87 #[.slice A n c] w fun e w' => e = .returned (.bool (!zs.any fun p => ncan p.1 p.2)) ∧ w' = w := by
 unfold maxLen at hm
 have HR := Lib.hid hr
 have HN := Lib.hid hn
 clear hr hn
 obtain ⟨res, hres⟩ : ∃ res, res = !zs.any fun p => ncan p.1 p.2 := ⟨_, rfl⟩
 rw [← hres]
 have HRES := Lib.hid hres
 clear hres
 go_enter Tryz.func87, Tryz.ntmps87
 go_wp2_with fail
 go_loop [3] (fun i => ∃ k : Nat, i = .int .i64 k ∧ k ≤ n ∧ (zs.take k).any (fun p => ncan p.1 p.2) = false) (fun i => n - (intOf i).toNat)
 case atStart => exact ⟨0, rfl, Nat.zero_le _, rfl⟩
 case round =>
  obtain ⟨k, rfl, hk, hf⟩ := hrel
  by_cases hlt : k < n
  ·obtain ⟨a, rfl, ha, c0, c1⟩ := HR.out k (by rw [HN.out]; exact hlt)
   obtain ⟨x, hx⟩ : ∃ x, x = zs[k]'(by rw [HN.out]; exact hlt) := ⟨_, rfl⟩
   rw [← hx] at c0 c1
   have hbad : ncan x.1 x.2 = true → res = false := fun h => by
    have hany : zs.any (fun p => ncan p.1 p.2) = true := by
     rw [List.any_eq_true]
     exact ⟨x, by rw [hx]; exact List.getElem_mem _, h⟩
    rw [HRES.out, hany]
    rfl
   have hgood : ncan x.1 x.2 = false → (zs.take (k + 1)).any (fun p => ncan p.1 p.2) = false := fun h => by
    rw [List.take_add_one, List.any_append, hf, List.getElem?_eq_getElem (by rw [HN.out]; exact hlt), ← hx]
    simp [h]
   have HBAD := Lib.hid hbad
   have HGOOD := Lib.hid hgood
   clear hx hf hbad hgood ha
   rcases x with ⟨x, ⟨⟨l⟩⟩⟩
   simp only at c0 c1
   cases l with
   | nil =>
    have hE : (⟨⟨[]⟩⟩ : ByteArray).toList.isEmpty = true := by rw [Lib.toList_data]; rfl
    have HB := Lib.hid (show x = true → res = false from fun h => HBAD.out h)
    have HG := Lib.hid (show x = false → _ from fun h => HGOOD.out h)
    clear HBAD HGOOD
    generalize (⟨⟨[]⟩⟩ : ByteArray) = s at *
    cases x with
    | true =>
     have hb := HB.out rfl
     subst hb
     go_wp2
     go_ret
     exact ⟨rfl, rfl⟩
    | false =>
     go_wp2
     go_round
     case rel => exact ⟨k + 1, rfl, by omega, HG.out rfl⟩
     case measure => simp [intOf]; omega
   | cons b l =>
    have hE : (⟨⟨b :: l⟩⟩ : ByteArray).toList.isEmpty = false := by rw [Lib.toList_data]; rfl
    have hS : 0 < (⟨⟨b :: l⟩⟩ : ByteArray).size := Nat.succ_pos _
    have hb : (((⟨⟨b :: l⟩⟩ : ByteArray)[0].toNat : Int) == 0) = (b == 0) := by
     show (((b.toNat : Nat) : Int) == 0) = (b == 0)
     by_cases h : b = 0
     ·subst h; rfl
     ·have h2 : (b == 0) = false := by simpa using h
      rw [h2, beq_eq_false_iff_ne]
      intro e
      exact h (UInt8.toNat_inj.1 (by rw [show (0 : UInt8).toNat = 0 from rfl]; omega))
    have HB := Lib.hid (show (b == 0) = true → res = false from fun h => HBAD.out h)
    have HG := Lib.hid (show (b == 0) = false → _ from fun h => HGOOD.out h)
    clear HBAD HGOOD
    cases hb0 : (b == 0) with
    | true =>
     rw [hb0] at hb
     have hb' := HB.out hb0
     subst hb'
     go_wp2
     go_ret
     exact ⟨rfl, rfl⟩
    | false =>
     rw [hb0] at hb
     have HG2 := Lib.hid (HG.out hb0)
     go_wp2
     go_round
     case rel => exact ⟨k + 1, rfl, by omega, HG2.out⟩
     case measure => simp [intOf]; omega
  ·have hkn : k = n := by omega
   subst hkn
   have hall : zs.any (fun p => ncan p.1 p.2) = false := by
    rw [← HN.out, List.take_of_length_le (Nat.le_refl _)] at hf
    exact hf
   have hr2 : res = true := by rw [HRES.out, hall]; rfl
   subst hr2
   clear hf hall hk
   go_wp2
   go_ret
   exact ⟨rfl, rfl⟩
end Go.Proofs.YtknaghdoffigjaaGreatDoor
