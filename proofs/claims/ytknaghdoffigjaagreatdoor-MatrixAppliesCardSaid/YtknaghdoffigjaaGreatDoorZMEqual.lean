import Derived.Test.YtknaghdoffigjaaGreatDoorZMMul
import Derived.Test.YtknaghdoffigjaaGreatDoorZMCopy
set_option linter.unusedSimpArgs false
set_option linter.unusedVariables false
set_option linter.unnecessarySimpa false
namespace Go.Proofs.YtknaghdoffigjaaGreatDoor
open Go.RowKit Go
theorem wsame (x y : Bool) (s t : ByteArray) : (x == y && s.toList == t.toList) = decide ((x, s) = (y, t)) := by
 rw [Lib.toList_data, Lib.toList_data, Bool.eq_iff_iff]
 simp only [Bool.and_eq_true, beq_iff_eq, decide_eq_true_eq, Prod.mk.injEq]
 constructor
 ·rintro ⟨h1, h2⟩
  refine ⟨h1, ?_⟩
  rcases s with ⟨⟨l⟩⟩
  rcases t with ⟨⟨m⟩⟩
  simp only at h2
  subst h2
  rfl
 ·rintro ⟨rfl, rfl⟩
  exact ⟨rfl, rfl⟩
set_option maxRecDepth 100000 in
set_option maxHeartbeats 4000000 in
theorem slicesEqual_any (A B : Option Addr) (n m ca cb : Nat) (xs ys : List (Bool × ByteArray)) (w : World) (hx : RdW w A xs) (hy : RdW w B ys) (hn : xs.length = n) (hm : ys.length = m) (hnb : n ≤ 1000000) (hmb : m ≤ 1000000) :
  Calls Tryz.prog 92 #[.slice A n ca, .slice B m cb] w fun e w' => e = .returned (.bool (decide (xs = ys))) ∧ Below w.heap.size w w' := by
 have HX := Lib.hid hx
 have HY := Lib.hid hy
 have HN := Lib.hid hn
 have HM := Lib.hid hm
 clear hx hy hn hm
 by_cases hlen : n = m
 ·subst hlen
  have hne : ((n : Int) != (n : Int)) = false := by simp
  have hne2 : ((n : Int) == (n : Int)) = true := by simp
  go_enter Tryz.func92, Tryz.ntmps92
  go_wp2_with fail
  go_loopw [5, 13] (fun _ i wr => ∃ k : Nat, i = .int .i64 k ∧ k ≤ n ∧ xs.take k = ys.take k ∧ Below w.heap.size w wr) (fun _ i _ => n - (intOf i).toNat)
  case atStart => exact ⟨0, rfl, Nat.zero_le _, rfl, Below.refl _ _⟩
  case round =>
   obtain ⟨k, rfl, hk, ht, hb⟩ := hrel
   by_cases hlt : k < n
   ·obtain ⟨a, rfl, ha, a0, a1⟩ := (HX.out.below hb) k (by rw [HN.out]; exact hlt)
    obtain ⟨b, rfl, hbb, b0, b1⟩ := (HY.out.below hb) k (by rw [HM.out]; exact hlt)
    obtain ⟨p, hp⟩ : ∃ p, p = xs[k]'(by rw [HN.out]; exact hlt) := ⟨_, rfl⟩
    obtain ⟨q, hq⟩ : ∃ q, q = ys[k]'(by rw [HM.out]; exact hlt) := ⟨_, rfl⟩
    rw [← hp] at a0 a1
    rw [← hq] at b0 b1
    have HP := Lib.hid hp
    have HQ := Lib.hid hq
    have HT := Lib.hid ht
    have HB := Lib.hid hb
    clear hp hq ht hb ha hbb
    rcases p with ⟨px, ps⟩
    rcases q with ⟨qx, qs⟩
    simp only at a0 a1 b0 b1
    by_cases heq : (px, ps) = (qx, qs)
    ·have hnext : xs.take (k + 1) = ys.take (k + 1) := by
      rw [List.take_add_one, List.take_add_one, HT.out, List.getElem?_eq_getElem (by rw [HN.out]; exact hlt), List.getElem?_eq_getElem (by rw [HM.out]; exact hlt), ← HP.out, ← HQ.out, heq]
     have HX2 := Lib.hid hnext
     obtain ⟨rfl, rfl⟩ := Prod.mk.inj heq
     clear hnext heq
     go_wp2_with fail
     go_region_held3 (fun w' => w'.cell? (a.add (k * 2)) = some (.bool px) ∧ w'.cell? ⟨(a.add (k * 2)).block, (a.add (k * 2)).off + 1, none⟩ = some (.string ps) ∧ w'.cell? (b.add (k * 2)) = some (.bool px) ∧ w'.cell? ⟨(b.add (k * 2)).block, (b.add (k * 2)).off + 1, none⟩ = some (.string ps)) (go_keep) (first | fail)
     go_wp2
     go_roundw
     case rel => exact ⟨k + 1, rfl, by omega, HX2.out, HB.out.drew⟩
     case measure => simp [intOf]; omega
    ·have hdiff : xs ≠ ys := fun e => heq (by subst e; rw [HP.out, HQ.out])
     have HD := Lib.hid hdiff
     clear hdiff
     by_cases hpx : px = qx
     ·subst hpx
      have hs : ¬ ps.toList = qs.toList := fun e => heq (by
       have := wsame px px ps qs
       rw [e] at this
       simp at this
       rw [this])
      clear heq
      go_wp2_with fail
      go_region_held3 (fun w' => w'.cell? (a.add (k * 2)) = some (.bool px) ∧ w'.cell? ⟨(a.add (k * 2)).block, (a.add (k * 2)).off + 1, none⟩ = some (.string ps) ∧ w'.cell? (b.add (k * 2)) = some (.bool px) ∧ w'.cell? ⟨(b.add (k * 2)).block, (b.add (k * 2)).off + 1, none⟩ = some (.string qs)) (go_keep) (first | fail)
      go_wp2
      go_ret
      exact ⟨by rw [decide_eq_false HD.out]; rfl, HB.out.drew⟩
     ·clear heq
      cases px
      ·cases qx
       ·exact absurd rfl hpx
       ·clear hpx
        go_wp2_with fail
        go_region_held3 (fun w' => w'.cell? (a.add (k * 2)) = some (.bool false) ∧ w'.cell? ⟨(a.add (k * 2)).block, (a.add (k * 2)).off + 1, none⟩ = some (.string ps) ∧ w'.cell? (b.add (k * 2)) = some (.bool true) ∧ w'.cell? ⟨(b.add (k * 2)).block, (b.add (k * 2)).off + 1, none⟩ = some (.string qs)) (go_keep) (first | fail)
        go_wp2
        go_ret
        exact ⟨by rw [decide_eq_false HD.out]; rfl, HB.out.drew⟩
      ·cases qx
       ·clear hpx
        go_wp2_with fail
        go_region_held3 (fun w' => w'.cell? (a.add (k * 2)) = some (.bool true) ∧ w'.cell? ⟨(a.add (k * 2)).block, (a.add (k * 2)).off + 1, none⟩ = some (.string ps) ∧ w'.cell? (b.add (k * 2)) = some (.bool false) ∧ w'.cell? ⟨(b.add (k * 2)).block, (b.add (k * 2)).off + 1, none⟩ = some (.string qs)) (go_keep) (first | fail)
        go_wp2
        go_ret
        exact ⟨by rw [decide_eq_false HD.out]; rfl, HB.out.drew⟩
       ·exact absurd rfl hpx
   ·obtain rfl : k = n := by omega
    have hall : xs = ys := by
     rw [List.take_of_length_le (by rw [HN.out]; exact Nat.le_refl _), List.take_of_length_le (by rw [HM.out]; exact Nat.le_refl _)] at ht
     exact ht
    have HA := Lib.hid hall
    have HB := Lib.hid hb
    clear hall ht hb hk
    go_wp2
    go_ret
    exact ⟨by rw [decide_eq_true HA.out]; rfl, HB.out⟩
 ·have hne : ((n : Int) != (m : Int)) = true := by simp; omega
  have hne2 : ((n : Int) == (m : Int)) = false := by rw [beq_eq_false_iff_ne]; omega
  have hdiff : xs ≠ ys := fun e => hlen (by rw [← HN.out, ← HM.out, e])
  have HD := Lib.hid hdiff
  clear hdiff
  go_enter Tryz.func92, Tryz.ntmps92
  go_wp2
  go_ret
  exact ⟨by rw [decide_eq_false HD.out]; rfl, Below.refl _ _⟩
set_option maxRecDepth 100000 in
set_option maxHeartbeats 8000000 in
theorem Equal_any (r c r' c' : Int) (A B : Option Addr) (n m cap cap' : Nat) (xs ys : List (Bool × ByteArray)) (w : World) (hx : RdW w A xs) (hy : RdW w B ys) (hn : xs.length = n) (hm : ys.length = m) (hnb : n ≤ 1000000) (hmb : m ≤ 1000000) :
  Calls Tryz.prog 38 #[mat r c A n cap, mat r' c' B m cap'] w fun e w' =>
   e = .returned (.bool (mright r c xs && mright r' c' ys && (r == r' && c == c') && decide (xs = ys))) ∧ Below w.heap.size w w' := by
 have hr1 := fun (W : World) (h1 : RdW W A xs) (h2 : RdW W B ys) => Right_any r c A n cap xs W h1 hn (by unfold maxLen; omega)
 have hr2 := fun (W : World) (h1 : RdW W A xs) (h2 : RdW W B ys) => Right_any r' c' B m cap' ys W h2 hm (by unfold maxLen; omega)
 have hsh := fun W => sameShape_any r c r' c' A B n cap m cap' W
 have heq := fun (W : World) (h1 : RdW W A xs) (h2 : RdW W B ys) => slicesEqual_any A B n m cap cap' xs ys W h1 h2 hn hm hnb hmb
 unfold mat at *
 have hBe : Below w.heap.size w ((w.alloc (.cells #[.int .i64 r, .int .i64 c, .slice A n cap] 28)).alloc (.cells #[.int .i64 r', .int .i64 c', .slice B m cap'] 28)) := below2 _ _ _
 have hX := hx.below hBe
 have hY := hy.below hBe
 have hB1 : Mb ((w.alloc (.cells #[.int .i64 r, .int .i64 c, .slice A n cap] 28)).alloc (.cells #[.int .i64 r', .int .i64 c', .slice B m cap'] 28)) w.heap.size r c A n cap := (Mb.new _ _ _ _ _ _).alloc _
 have hB2 : Mb ((w.alloc (.cells #[.int .i64 r, .int .i64 c, .slice A n cap] 28)).alloc (.cells #[.int .i64 r', .int .i64 c', .slice B m cap'] 28)) (w.heap.size + 1) r' c' B m cap' := Mb.new1 _ _ _ _ _ _ _
 generalize mright r c xs = b1 at *
 generalize mright r' c' ys = b2 at *
 generalize (r == r' && c == c') = b3 at *
 generalize decide (xs = ys) = b4 at *
 have HR1 := Lib.hid hr1
 have HR2 := Lib.hid hr2
 have HSH := Lib.hid hsh
 have HEQ := Lib.hid heq
 clear hr1 hr2 hsh heq hx hy hn hm
 cases b1
 ·go_enter Tryz.func38, Tryz.ntmps38
  have y0 := hB1.cell0
  have y1 := hB1.cell1
  have y2 := hB1.cell2
  have y3 := hB2.cell0
  have y4 := hB2.cell1
  have y5 := hB2.cell2
  generalize hW : ((w.alloc (.cells #[.int .i64 r, .int .i64 c, .slice A n cap] 28)).alloc (.cells #[.int .i64 r', .int .i64 c', .slice B m cap'] 28)) = W at *
  go_wp2_with fail
  with_reducible refine (HR1.out _ hX hY).mono ?_
  rintro e w1 ⟨rfl, hb1⟩
  have hX1 := hX.below hb1
  have hY1 := hY.below hb1
  replace hB1 := hB1.below hb1 hB1.lt
  replace hB2 := hB2.below hb1 hB2.lt
  replace hBe := hBe.trans (hb1.mono hBe.size)
  clear y0 y1 y2 y3 y4 y5
  have y0 := hB1.cell0
  have y1 := hB1.cell1
  have y2 := hB1.cell2
  have y3 := hB2.cell0
  have y4 := hB2.cell1
  have y5 := hB2.cell2
  go_wp2
  go_ret
  exact ⟨rfl, hBe⟩
 ·cases b2
  ·go_enter Tryz.func38, Tryz.ntmps38
   have y0 := hB1.cell0
   have y1 := hB1.cell1
   have y2 := hB1.cell2
   have y3 := hB2.cell0
   have y4 := hB2.cell1
   have y5 := hB2.cell2
   generalize hW : ((w.alloc (.cells #[.int .i64 r, .int .i64 c, .slice A n cap] 28)).alloc (.cells #[.int .i64 r', .int .i64 c', .slice B m cap'] 28)) = W at *
   go_wp2_with fail
   with_reducible refine (HR1.out _ hX hY).mono ?_
   rintro e w1 ⟨rfl, hb1⟩
   have hX1 := hX.below hb1
   have hY1 := hY.below hb1
   replace hB1 := hB1.below hb1 hB1.lt
   replace hB2 := hB2.below hb1 hB2.lt
   replace hBe := hBe.trans (hb1.mono hBe.size)
   clear y0 y1 y2 y3 y4 y5
   have y0 := hB1.cell0
   have y1 := hB1.cell1
   have y2 := hB1.cell2
   have y3 := hB2.cell0
   have y4 := hB2.cell1
   have y5 := hB2.cell2
   go_wp2_with fail
   with_reducible refine (HR2.out _ hX1 hY1).mono ?_
   rintro e w2 ⟨rfl, hb2⟩
   have hX2 := hX1.below hb2
   have hY2 := hY1.below hb2
   replace hB1 := hB1.below hb2 hB1.lt
   replace hB2 := hB2.below hb2 hB2.lt
   replace hBe := hBe.trans (hb2.mono hBe.size)
   clear y0 y1 y2 y3 y4 y5
   have y0 := hB1.cell0
   have y1 := hB1.cell1
   have y2 := hB1.cell2
   have y3 := hB2.cell0
   have y4 := hB2.cell1
   have y5 := hB2.cell2
   go_wp2
   go_ret
   exact ⟨rfl, hBe⟩
  ·cases b3
   ·go_enter Tryz.func38, Tryz.ntmps38
    have y0 := hB1.cell0
    have y1 := hB1.cell1
    have y2 := hB1.cell2
    have y3 := hB2.cell0
    have y4 := hB2.cell1
    have y5 := hB2.cell2
    generalize hW : ((w.alloc (.cells #[.int .i64 r, .int .i64 c, .slice A n cap] 28)).alloc (.cells #[.int .i64 r', .int .i64 c', .slice B m cap'] 28)) = W at *
    go_wp2_with fail
    with_reducible refine (HR1.out _ hX hY).mono ?_
    rintro e w1 ⟨rfl, hb1⟩
    have hX1 := hX.below hb1
    have hY1 := hY.below hb1
    replace hB1 := hB1.below hb1 hB1.lt
    replace hB2 := hB2.below hb1 hB2.lt
    replace hBe := hBe.trans (hb1.mono hBe.size)
    clear y0 y1 y2 y3 y4 y5
    have y0 := hB1.cell0
    have y1 := hB1.cell1
    have y2 := hB1.cell2
    have y3 := hB2.cell0
    have y4 := hB2.cell1
    have y5 := hB2.cell2
    go_wp2_with fail
    with_reducible refine (HR2.out _ hX1 hY1).mono ?_
    rintro e w2 ⟨rfl, hb2⟩
    have hX2 := hX1.below hb2
    have hY2 := hY1.below hb2
    replace hB1 := hB1.below hb2 hB1.lt
    replace hB2 := hB2.below hb2 hB2.lt
    replace hBe := hBe.trans (hb2.mono hBe.size)
    clear y0 y1 y2 y3 y4 y5
    have y0 := hB1.cell0
    have y1 := hB1.cell1
    have y2 := hB1.cell2
    have y3 := hB2.cell0
    have y4 := hB2.cell1
    have y5 := hB2.cell2
    go_wp2_with fail
    with_reducible refine (HSH.out _).mono ?_
    rintro e w3 ⟨rfl, hb3⟩
    have hX3 := hX2.below hb3
    have hY3 := hY2.below hb3
    replace hB1 := hB1.below hb3 hB1.lt
    replace hB2 := hB2.below hb3 hB2.lt
    replace hBe := hBe.trans (hb3.mono hBe.size)
    clear y0 y1 y2 y3 y4 y5
    have y0 := hB1.cell0
    have y1 := hB1.cell1
    have y2 := hB1.cell2
    have y3 := hB2.cell0
    have y4 := hB2.cell1
    have y5 := hB2.cell2
    go_wp2
    go_ret
    exact ⟨rfl, hBe⟩
   ·go_enter Tryz.func38, Tryz.ntmps38
    have y0 := hB1.cell0
    have y1 := hB1.cell1
    have y2 := hB1.cell2
    have y3 := hB2.cell0
    have y4 := hB2.cell1
    have y5 := hB2.cell2
    generalize hW : ((w.alloc (.cells #[.int .i64 r, .int .i64 c, .slice A n cap] 28)).alloc (.cells #[.int .i64 r', .int .i64 c', .slice B m cap'] 28)) = W at *
    go_wp2_with fail
    with_reducible refine (HR1.out _ hX hY).mono ?_
    rintro e w1 ⟨rfl, hb1⟩
    have hX1 := hX.below hb1
    have hY1 := hY.below hb1
    replace hB1 := hB1.below hb1 hB1.lt
    replace hB2 := hB2.below hb1 hB2.lt
    replace hBe := hBe.trans (hb1.mono hBe.size)
    clear y0 y1 y2 y3 y4 y5
    have y0 := hB1.cell0
    have y1 := hB1.cell1
    have y2 := hB1.cell2
    have y3 := hB2.cell0
    have y4 := hB2.cell1
    have y5 := hB2.cell2
    go_wp2_with fail
    with_reducible refine (HR2.out _ hX1 hY1).mono ?_
    rintro e w2 ⟨rfl, hb2⟩
    have hX2 := hX1.below hb2
    have hY2 := hY1.below hb2
    replace hB1 := hB1.below hb2 hB1.lt
    replace hB2 := hB2.below hb2 hB2.lt
    replace hBe := hBe.trans (hb2.mono hBe.size)
    clear y0 y1 y2 y3 y4 y5
    have y0 := hB1.cell0
    have y1 := hB1.cell1
    have y2 := hB1.cell2
    have y3 := hB2.cell0
    have y4 := hB2.cell1
    have y5 := hB2.cell2
    go_wp2_with fail
    with_reducible refine (HSH.out _).mono ?_
    rintro e w3 ⟨rfl, hb3⟩
    have hX3 := hX2.below hb3
    have hY3 := hY2.below hb3
    replace hB1 := hB1.below hb3 hB1.lt
    replace hB2 := hB2.below hb3 hB2.lt
    replace hBe := hBe.trans (hb3.mono hBe.size)
    clear y0 y1 y2 y3 y4 y5
    have y0 := hB1.cell0
    have y1 := hB1.cell1
    have y2 := hB1.cell2
    have y3 := hB2.cell0
    have y4 := hB2.cell1
    have y5 := hB2.cell2
    go_wp2_with fail
    with_reducible refine (HEQ.out _ hX3 hY3).mono ?_
    rintro e w4 ⟨rfl, hb4⟩
    have hX4 := hX3.below hb4
    have hY4 := hY3.below hb4
    replace hB1 := hB1.below hb4 hB1.lt
    replace hB2 := hB2.below hb4 hB2.lt
    replace hBe := hBe.trans (hb4.mono hBe.size)
    clear y0 y1 y2 y3 y4 y5
    have y0 := hB1.cell0
    have y1 := hB1.cell1
    have y2 := hB1.cell2
    have y3 := hB2.cell0
    have y4 := hB2.cell1
    have y5 := hB2.cell2
    go_wp2
    go_ret
    exact ⟨by cases b4 <;> rfl, hBe⟩
end Go.Proofs.YtknaghdoffigjaaGreatDoor
namespace Go.Proofs.YtknaghdoffigjaaGreatDoor
open Go.RowKit Go
def isInvB (n : Nat) (zs : List Int) : Bool := mright n n (enc zs) && mright n n (oneL n n) && ((n : Int) == (n : Int) && (n : Int) == (n : Int)) && decide (enc zs = oneL n n)
set_option maxRecDepth 100000 in
set_option maxHeartbeats 4000000 in
theorem isInverse_ints (ga gb n NN capa capb : Nat) (xs ys : List Int) (w : World) (hA : Lw w ga (enc xs)) (hB : Lw w gb (enc ys)) (hxl : xs.length = n * n) (hyl : ys.length = n * n) (hn : n ≤ 200) (hNN : n * n = NN)
  (hra : mright n n (enc xs) = true) (hrb : mright n n (enc ys) = true) (hfx : ∀ j, fitI (xs.getD j 0)) (hfy : ∀ j, fitI (ys.getD j 0)) (hbit : maxB xs xs.length + maxB ys ys.length + Lib.bitLen n < 64) :
  Calls Tryz.prog 80 #[mat n n (some ⟨ga, 0, none⟩) NN capa, mat n n (some ⟨gb, 0, none⟩) NN capb] w fun e w' => e = .returned (.bool (isInvB n (mulL xs ys n n n))) ∧ Below w.heap.size w w' := by
 have hNN2 : NN ≤ 40000 := by rw [← hNN]; exact Nat.le_trans (Nat.mul_le_mul hn hn) (by omega)
 have hmu := fun W hWa hWb => Mul_ints ga gb n n n NN NN capa capb NN xs ys W hWa hWb hxl hyl hNN.symm hNN.symm hn hn hn hNN hra hrb hfx hfy hbit
 have hon := fun W => One_fits n W hn
 rw [hNN] at hon
 have hPl : (enc (mulL xs ys n n n)).length = NN := by rw [enc_length, mulL_length, hNN]
 have hOl : (oneL n n).length = NN := by rw [← hNN]; simp [oneL]
 have heq := fun gp go W hP hO => Equal_any (n : Int) (n : Int) (n : Int) (n : Int) (some ⟨gp, 0, none⟩) (some ⟨go, 0, none⟩) NN NN NN NN (enc (mulL xs ys n n n)) (oneL n n) W hP hO hPl hOl (by omega) (by omega)
 rw [show (mright n n (enc (mulL xs ys n n n)) && mright n n (oneL n n) && ((n : Int) == (n : Int) && (n : Int) == (n : Int)) && decide (enc (mulL xs ys n n n) = oneL n n)) = isInvB n (mulL xs ys n n n) from rfl] at heq
 generalize isInvB n (mulL xs ys n n n) = res at *
 generalize mulL xs ys n n n = ps at *
 unfold mat at *
 have HMU := Lib.hid hmu
 have HON := Lib.hid hon
 have HEQ := Lib.hid heq
 have HA := Lib.hid hA
 have HB := Lib.hid hB
 have hga := heap_lt hA
 have hgb := heap_lt hB
 clear hmu hon heq hA hB hxl hyl hNN hra hrb hfx hfy hbit hPl hOl
 have hK1 := (Kg.none_ none w 2).new 0 (mrow n n (some ⟨ga, 0, none⟩) NN capa) rfl
 have HK2 := Lib.hid ((hK1.new 1 (mrow n n (some ⟨gb, 0, none⟩) NN capb) rfl).cast (l' := [some (w.heap.size, mrow n n (some ⟨ga, 0, none⟩) NN capa), some (w.heap.size + 1, mrow n n (some ⟨gb, 0, none⟩) NN capb)]) (by simp))
 have hAs : ∀ W l, Kg none w W l → Lw W ga (enc xs) ∧ Lw W gb (enc ys) := fun W l h => ⟨(h.1.block ga hga (by simp)).trans HA.out, (h.1.block gb hgb (by simp)).trans HB.out⟩
 have HAS := Lib.hid hAs
 have c0 := HK2.out.cell 0 0 rfl rfl
 have c1 := HK2.out.cell 0 1 rfl rfl
 have c2 := HK2.out.cell 0 2 rfl rfl
 have c3 := HK2.out.cell 1 0 rfl rfl
 have c4 := HK2.out.cell 1 1 rfl rfl
 have c5 := HK2.out.cell 1 2 rfl rfl
 clear hK1 hAs
 go_enter Tryz.func80, Tryz.ntmps80
 go_wp2_with fail
 change Calls _ _ _ ((w.alloc (mrow n n (some ⟨ga, 0, none⟩) NN capa)).alloc (mrow n n (some ⟨gb, 0, none⟩) NN capb)) _
 generalize (w.alloc (mrow n n (some ⟨ga, 0, none⟩) NN capa)).alloc (mrow n n (some ⟨gb, 0, none⟩) NN capb) = W2 at *
 with_reducible refine (HMU.out _ (HAS.out _ _ HK2.out).1 (HAS.out _ _ HK2.out).2).mono ?_
 rintro e w3 ⟨gp, rfl, hgp, hLp, hb3⟩
 have HK3 := Lib.hid ((HK2.out.room.came 2 rfl hb3 hgp (o := lwO (enc ps)) hLp).more (mrow n n (some ⟨gp, 0, none⟩) NN NN))
 clear c0 c1 c2 c3 c4 c5 hb3 hgp hLp HK2
 go_wp2_with fail
 change Code.wp _ _ _ _ (w3.alloc (mrow n n (some ⟨gp, 0, none⟩) NN NN))
 generalize w3.alloc (mrow n n (some ⟨gp, 0, none⟩) NN NN) = W4 at *
 generalize w3.heap.size = b5 at *
 have HK4 := Lib.hid (show Kg none w W4 [some (w.heap.size, mrow n n (some ⟨ga, 0, none⟩) NN capa), some (w.heap.size + 1, mrow n n (some ⟨gb, 0, none⟩) NN capb), some (gp, lwO (enc ps)), some (b5, mrow n n (some ⟨gp, 0, none⟩) NN NN), none] from HK3.out.room)
 clear HK3
 refine wp_region_facts (X := Nat) (fun x => [(0, 13, .bool true), (1, 14, .bool true), (2, 15, .agg #[.int .i64 (n : Int), .int .i64 (n : Int), .slice (some ⟨gp, 0, none⟩) NN NN]), (3, 16, .pointer (some ⟨w.heap.size, 0, none⟩)), (4, 17, .int .i64 (n : Int)), (5, 18, .agg #[.int .i64 (n : Int), .int .i64 (n : Int), .slice (some ⟨x, 0, none⟩) NN NN]), (6, 19, .bool res), (7, 20, .bool res), (8, 4, .bool res)])
  (fun x L W => Kg none w W [some (w.heap.size, mrow n n (some ⟨ga, 0, none⟩) NN capa), some (w.heap.size + 1, mrow n n (some ⟨gb, 0, none⟩) NN capb), some (gp, lwO (enc ps)), some (b5, mrow n n (some ⟨gp, 0, none⟩) NN NN), entO (L 5) x (lwO (oneL n n))]) (by kernel_rfl) (by kernel_rfl) 0 ?st (by kernel_rfl) ?_ ?_
 case st => simpa [entO_no] using HK4.out.drew
 ·repeat' (first | exact FactSteps.nil | refine FactSteps.cons ?_ ?_)
  all_goals
   intro L x wx hJ hl hd hs K hK
   (try simp [Region.binds] at hd)
   have e0 := hJ.cell 0 0 rfl rfl
   have e1 := hJ.cell 3 0 rfl rfl
   have e2 := hJ.cell 3 1 rfl rfl
   have e3 := hJ.cell 3 2 rfl rfl
   simp only [selA, selT_cons, selT_nil, List.set_cons_zero, List.set_cons_succ, List.getD_cons_zero, List.getD_cons_succ, hd, hl, selV_true, selV_false]
  ·go_simp
   refine hK.out x _ _ ?_ ?_
   ·simp [selA, selT_cons, selT_nil, hl, hd, selV_true, selV_false]
   ·simpa [hl] using hJ
  ·go_simp
   refine hK.out x _ _ ?_ ?_
   ·simp [selA, selT_cons, selT_nil, hl, hd, selV_true, selV_false]
   ·simpa [hl] using hJ
  ·rw [if_pos (by kernel_rfl)]
   go_simp
   refine hK.out x _ _ ?_ ?_
   ·simp [selA, selT_cons, selT_nil, hl, hd, selV_true, selV_false]
   ·simpa [hl] using hJ
  ·rw [if_pos (by kernel_rfl)]
   go_simp
   refine hK.out x _ _ ?_ ?_
   ·simp [selA, selT_cons, selT_nil, hl, hd, selV_true, selV_false]
   ·simpa [hl] using hJ
  ·rw [if_pos (by kernel_rfl)]
   go_simp
   refine hK.out x _ _ ?_ ?_
   ·simp [selA, selT_cons, selT_nil, hl, hd, selV_true, selV_false]
   ·simpa [hl] using hJ
  ·have hB := hJ
   simp only [hl, entO_no] at hB
   rw [if_pos (by kernel_rfl)]
   go_simp
   go_at_call 22
   with_reducible refine (HON.out _).mono ?_
   rintro e v ⟨go, rfl, hgo, hLo, hb⟩
   refine hK.out go _ _ ?_ ?_
   ·simp [selA, selT_cons, selT_nil, hl, hd, hs 6 _ rfl (by simp [Region.binds]), selV_true, selV_false]
   ·exact (hB.came 4 rfl hb hgo (o := lwO (oneL n n)) hLo).cast (by simp [entO_yes])
  ·have hB := hJ
   simp only [hd, entO_yes] at hB
   have hx1 : Lw wx gp (enc ps) := hB.at_ 2 rfl
   have hx2 : Lw wx x (oneL n n) := hB.at_ 4 rfl
   rw [if_pos (by kernel_rfl)]
   go_simp
   go_at_call 38
   with_reducible refine (HEQ.out gp x wx hx1.rdw hx2.rdw).mono ?_
   rintro e v ⟨rfl, hb⟩
   refine hK.out x _ _ ?_ ?_
   ·simp [selA, selT_cons, selT_nil, hl, hd, selV_true, selV_false]
   ·simpa using hJ.step hb
  ·go_simp
   refine hK.out x _ _ ?_ ?_
   ·simp [selA, selT_cons, selT_nil, hl, hd, selV_true, selV_false]
   ·simpa [hl] using hJ
  ·go_simp
   refine hK.out x _ _ ?_ ?_
   ·simp [selA, selT_cons, selT_nil, hl, hd, selV_true, selV_false]
   ·simpa [hl] using hJ
 ·rintro gq Wx hKx
  simp only [selA, selT_cons, selT_nil, List.set_cons_zero, List.set_cons_succ, List.getD_cons_zero, List.getD_cons_succ, selV_true]
  go_wp2
  go_ret
  exact ⟨rfl, ⟨hKx.1.os, hKx.1.tape, hKx.1.output, hKx.1.size, fun i hi => hKx.1.block i hi (by simp)⟩⟩
end Go.Proofs.YtknaghdoffigjaaGreatDoor
namespace Go.Proofs.YtknaghdoffigjaaGreatDoor
open Go.RowKit Go
theorem PL.first {pl : List Nat} (hpl : PL pl) : pl.getD 0 0 = 2147483647 := by
 obtain ⟨f, _, rfl⟩ := hpl
 rw [List.getD_cons_zero]
theorem det_sane (pl : List Nat) (hpl : PL pl) : detV pl 2 [1, 2, 3, 4] 1 = -2 := by
 have h : detV pl 2 [1, 2, 3, 4] 1 = refV (pl.getD 0 0) (refI (pl.getD 0 0) 1) 1 0 (detR 2 2 (pl.getD 0 0) (resid (pl.getD 0 0) [1, 2, 3, 4])) := rfl
 rw [h, hpl.first]
 decide +kernel
theorem lim_sane (pl : List Nat) (hpl : PL pl) : limV pl (4 * bnd [1, 2, 3, 4] 2 2) 1 = 0 := by
 have h : limV pl (4 * bnd [1, 2, 3, 4] 2 2) 1 = (4 * bnd [1, 2, 3, 4] 2 2) / (((pl.getD 0 0 : Nat) : Int) * ((pl.getD 0 0 : Nat) : Int)) := rfl
 rw [h, hpl.first]
 decide +kernel
set_option maxRecDepth 100000 in
theorem Det_sane (gA cap : Nat) (w : World) (hA : Lw w gA (enc [1, 2, 3, 4])) (hcap : 4 ≤ cap) (hcapm : cap ≤ maxLen) (hTz : Tz w) :
  Calls Tryz.prog 26 #[mat 2 2 (some ⟨gA, 0, none⟩) 4 cap] w fun e w' => e = .returned (.tuple #[.agg #[.bool (wneg (-2)), .string (wmag (-2))], .bool true]) ∧ Below w.heap.size w w' := by
 obtain ⟨pl, hpl⟩ := PL_ex
 have hlen : 1 ≤ pl.length := by
  obtain ⟨f, _, rfl⟩ := hpl
  simp
 have h := Det_any gA 4 2 cap 1 1 pl [1, 2, 3, 4] w hpl hA rfl (by omega) rfl hcap hcapm (by omega) (fun j => by
  match j with
  | 0 => decide
  | 1 => decide
  | 2 => decide
  | 3 => decide
  | j + 4 => simp) (by decide +kernel) (by omega) (by omega) hlen (fun j h1 h2 => by omega) (lim_sane pl hpl) hTz
 rw [det_sane pl hpl] at h
 exact h
end Go.Proofs.YtknaghdoffigjaaGreatDoor
namespace Go.Proofs.YtknaghdoffigjaaGreatDoor
open Go.RowKit Go
end Go.Proofs.YtknaghdoffigjaaGreatDoor
namespace Go.Proofs.YtknaghdoffigjaaGreatDoor
open Go.RowKit Go
def liO (xs : List Int) : Obj := .cells ((xs.map fun z => Value.int .i64 z).toArray) 3 (0, 0)
def rwO (ps : List (Nat × Nat)) : Obj := .cells ((ps.map fun p => Value.slice (some ⟨p.1, 0, none⟩) p.2 p.2).toArray) 25 (0, 0)
theorem rdI_of {W : World} {b : Nat} {xs : List Int} (h : W.heap[b]? = some (liO xs)) : RdI W (some ⟨b, 0, none⟩) xs := fun k hk => by
 refine ⟨⟨b, 0, none⟩, rfl, heap_lt h, ?_⟩
 have hg : ((xs.map fun z => Value.int .i64 z).toArray)[k]? = some (.int .i64 (xs.getD k 0)) := by
  rw [List.getElem?_toArray, List.getElem?_map, List.getElem?_eq_getElem hk, List.getD_eq_getElem?_getD, List.getElem?_eq_getElem hk]
  rfl
 rw [add_from0]
 simp [World.cell?, h, liO, hg]
theorem rw_cell {W : World} {b : Nat} {ps : List (Nat × Nat)} (h : W.heap[b]? = some (rwO ps)) (k : Nat) (hk : k < ps.length) : W.cell? ((⟨b, 0, none⟩ : Addr).add k) = some (.slice (some ⟨ps[k].1, 0, none⟩) ps[k].2 ps[k].2) := by
 have hg : ((ps.map fun p => Value.slice (some ⟨p.1, 0, none⟩) p.2 p.2).toArray)[k]? = some (.slice (some ⟨ps[k].1, 0, none⟩) ps[k].2 ps[k].2) := by
  rw [List.getElem?_toArray, List.getElem?_map, List.getElem?_eq_getElem hk]
  rfl
 rw [add_from0]
 simp [World.cell?, h, rwO, hg]
theorem rdRows2 {W : World} {b b1 b2 n1 n2 : Nat} {r1 r2 : List Int} (h : W.heap[b]? = some (rwO [(b1, n1), (b2, n2)])) (h1 : W.heap[b1]? = some (liO r1)) (h2 : W.heap[b2]? = some (liO r2)) (e1 : r1.length = n1) (e2 : r2.length = n2) :
  RdRows W (some ⟨b, 0, none⟩) [r1, r2] := fun k hk => by
 subst e1
 subst e2
 have hk2 : k = 0 ∨ k = 1 := by simp at hk; omega
 rcases hk2 with rfl | rfl
 ·exact ⟨_, some ⟨b1, 0, none⟩, r1.length, rfl, heap_lt h, rw_cell h 0 (by simp), rdI_of h1⟩
 ·exact ⟨_, some ⟨b2, 0, none⟩, r2.length, rfl, heap_lt h, rw_cell h 1 (by simp), rdI_of h2⟩
theorem rdRows1 {W : World} {b b1 n1 : Nat} {r1 : List Int} (h : W.heap[b]? = some (rwO [(b1, n1)])) (h1 : W.heap[b1]? = some (liO r1)) (e1 : r1.length = n1) : RdRows W (some ⟨b, 0, none⟩) [r1] := fun k hk => by
 subst e1
 obtain rfl : k = 0 := by simp at hk; omega
 exact ⟨_, some ⟨b1, 0, none⟩, r1.length, rfl, heap_lt h, rw_cell h 0 (by simp), rdI_of h1⟩
theorem small_rows (rows : List (List Int)) (h : (rows.all fun r => r.all fun x => decide (-100 ≤ x) && decide (x ≤ 100)) = true) (k j : Nat) : -9223372036854775808 ≤ (rows.getD k []).getD j 0 ∧ (rows.getD k []).getD j 0 ≤ 9223372036854775807 := by
 rw [List.all_eq_true] at h
 rw [List.getD_eq_getElem?_getD (l := rows)]
 cases hr : rows[k]? with
 | none => simp
 | some r =>
  have h2 := h r (List.mem_of_getElem? hr)
  rw [List.all_eq_true] at h2
  rw [Option.getD_some, List.getD_eq_getElem?_getD]
  cases hx : r[j]? with
  | none => simp
  | some x =>
   have h3 := h2 x (List.mem_of_getElem? hx)
   simp at h3
   rw [Option.getD_some]
   omega
theorem Of_two (b b1 b2 n1 n2 c NN : Nat) (r1 r2 zs : List Int) (W : World) (h : W.heap[b]? = some (rwO [(b1, n1), (b2, n2)])) (h1 : W.heap[b1]? = some (liO r1)) (h2 : W.heap[b2]? = some (liO r2)) (e1 : r1.length = n1) (e2 : r2.length = n2)
  (hc : maxL [r1, r2] 2 = c) (hc2 : c ≤ 200) (hNN : 2 * c = NN) (hz : ofL [r1, r2] 2 c = zs) (hs : ([r1, r2].all fun r => r.all fun x => decide (-100 ≤ x) && decide (x ≤ 100)) = true) (ci : Int) (hci : (c : Int) = ci) :
  Calls Tryz.prog 15 #[.slice (some ⟨b, 0, none⟩) 2 2] W fun e w' => ∃ g, e = .returned (.agg #[.int .i64 2, .int .i64 ci, .slice (some ⟨g, 0, none⟩) NN NN]) ∧ W.heap.size ≤ g ∧ Lw w' g (enc zs) ∧ Below W.heap.size W w' := by
 subst hz
 subst hci
 exact Of_fits (some ⟨b, 0, none⟩) 2 2 c NN [r1, r2] W (rdRows2 h h1 h2 e1 e2) rfl (by omega) hc hc2 hNN (small_rows _ hs)
theorem Of_one (b b1 n1 c NN : Nat) (r1 zs : List Int) (W : World) (h : W.heap[b]? = some (rwO [(b1, n1)])) (h1 : W.heap[b1]? = some (liO r1)) (e1 : r1.length = n1)
  (hc : maxL [r1] 1 = c) (hc2 : c ≤ 200) (hNN : 1 * c = NN) (hz : ofL [r1] 1 c = zs) (hs : ([r1].all fun r => r.all fun x => decide (-100 ≤ x) && decide (x ≤ 100)) = true) (ci : Int) (hci : (c : Int) = ci) :
  Calls Tryz.prog 15 #[.slice (some ⟨b, 0, none⟩) 1 1] W fun e w' => ∃ g, e = .returned (.agg #[.int .i64 1, .int .i64 ci, .slice (some ⟨g, 0, none⟩) NN NN]) ∧ W.heap.size ≤ g ∧ Lw w' g (enc zs) ∧ Below W.heap.size W w' := by
 subst hz
 subst hci
 exact Of_fits (some ⟨b, 0, none⟩) 1 1 c NN [r1] W (rdRows1 h h1 e1) rfl (by omega) hc hc2 hNN (small_rows _ hs)
def upd (x : Nat → Nat) (i v : Nat) : Nat → Nat := fun j => if j = i then v else x j
end Go.Proofs.YtknaghdoffigjaaGreatDoor
