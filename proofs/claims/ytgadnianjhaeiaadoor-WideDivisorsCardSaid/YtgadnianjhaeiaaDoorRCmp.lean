/-
  The contract of the reference's compare.
-/
import Derived.Test.YtgadnianjhaeiaaDoorRMath
import Derived.Deep.QuietTactic
import Derived.BigQuiet
namespace Go.Proofs.YtgadnianjhaeiaaDoor
open Go.RowKit

set_option maxRecDepth 100000 in
set_option maxHeartbeats 2000000 in
theorem refcompare_any (A B : Option Addr) (n m ca cb : Nat) (xs ys : List Nat) (w : World) (hx : RdJ w A xs) (hy : RdJ w B ys) (qx : Qds xs) (qy : Qds ys) (px : ptrim xs = xs) (py : ptrim ys = ys) (hn : xs.length = n) (hm : ys.length = m) (nx : n ≤ 1000) (ny : m ≤ 1000) :
    Calls Tryd.prog 51 #[.slice A n ca, .slice B m cb] w fun e w' => e = .returned (.int .i64 (sgn2 (qval xs) (qval ys))) ∧ Below w.heap.size w w' := by
  have Hx := Lib.hid hx
  have Hy := Lib.hid hy
  have Hn := Lib.hid hn
  have Hm := Lib.hid hm
  have Hpx := Lib.hid px
  have Hpy := Lib.hid py
  clear hx hy hn hm px py
  by_cases hlt : n < m
  · have h1 := qval_shorter qx Hpy.out (by rw [Hn.out, Hm.out]; exact hlt)
    have hs : sgn2 (qval xs) (qval ys) = -1 := by unfold sgn2; rw [if_pos h1]
    rw [hs]
    clear h1 hs
    go_enter Tryd.func51, Tryd.ntmps51
    go_wp2
    go_ret
    exact ⟨rfl, Below.refl _ _⟩
  by_cases hgt : m < n
  · have h1 := qval_shorter qy Hpx.out (by rw [Hn.out, Hm.out]; exact hgt)
    have hs : sgn2 (qval xs) (qval ys) = 1 := by unfold sgn2; rw [if_neg (by omega), if_neg (by omega)]
    rw [hs]
    clear h1 hs
    go_enter Tryd.func51, Tryd.ntmps51
    go_wp2
    go_ret
    exact ⟨rfl, Below.refl _ _⟩
  obtain rfl : n = m := by omega
  clear hlt hgt
  go_enter Tryd.func51, Tryd.ntmps51
  go_wp2_with fail
  go_loopw [5] (fun i wr => ∃ k : Nat, i = .int .i64 ((k : Int) - 1) ∧ k ≤ n ∧ xs.drop k = ys.drop k ∧ Below w.heap.size w wr)
    (fun i _ => (intOf i + 1).toNat)
  case atStart => exact ⟨n, by go_num, Nat.le_refl _, by rw [List.drop_of_length_le (by rw [Hn.out]; omega), List.drop_of_length_le (by rw [Hm.out]; omega)], Below.refl _ _⟩
  case round =>
    obtain ⟨k, rfl, hk, hd, hal⟩ := hrel
    have Hd := Lib.hid hd
    have Hal := Lib.hid hal
    clear hd hal
    cases k with
    | zero =>
      have h0 : xs = ys := by simpa using Hd.out
      have hs : sgn2 (qval xs) (qval ys) = 0 := by rw [h0]; unfold sgn2; rw [if_neg (by omega), if_pos rfl]
      have Hs := Lib.hid hs
      clear hs h0
      go_wp2
      go_ret
      exact ⟨by rw [Hs.out]; rfl, by first | exact Hal.out | exact below_many Hal.out _ | exact below_many (below_many Hal.out _) _⟩
    | succ k =>
      obtain ⟨a, rfl, hab, hca0⟩ := Hx.out k (by rw [Hn.out]; omega)
      obtain ⟨b, rfl, hbb, hcb0⟩ := Hy.out k (by rw [Hm.out]; omega)
      have hca : wr.cell? (a.add k) = _ := (Hal.out.cell (p := a.add k) (by rw [block_add]; exact hab)).trans hca0
      have hcb : wr.cell? (b.add k) = _ := (Hal.out.cell (p := b.add k) (by rw [block_add]; exact hbb)).trans hcb0
      have hij : ((k + 1 : Nat) : Int) - 1 = k := by omega
      rw [hij]
      have hless := Lib.hid (digit_less qx k (by rw [Hn.out]; omega) (by rw [Hm.out]; omega) Hd.out)
      have hmore := Lib.hid (digit_less qy k (by rw [Hm.out]; omega) (by rw [Hn.out]; omega) Hd.out.symm)
      have hsame := Lib.hid (drop_same k (by rw [Hn.out]; omega) (by rw [Hm.out]; omega) Hd.out)
      clear hca0 hcb0 hij
      generalize xs.getD k 0 = x at *
      generalize ys.getD k 0 = y at *
      by_cases hxy : x = y
      · subst hxy
        go_wp2
        go_quiet (fail)
        go_wp2
        go_roundw
        case rel => exact ⟨k, by go_num, by omega, hsame.out trivial, below_many Hal.out _⟩
        case measure => simp [intOf]
      · have hne : ((x : Int) == (y : Int)) = false := by rw [beq_eq_false_iff_ne]; omega
        by_cases hl : x < y
        · have hs : sgn2 (qval xs) (qval ys) = -1 := by unfold sgn2; rw [if_pos (hless.out hl)]
          have Hs := Lib.hid hs
          clear hs
          go_wp2
          go_quiet (fail)
          go_wp2
          go_quiet (fail)
          go_wp2
          go_ret
          exact ⟨by rw [Hs.out]; rfl, by first | exact Hal.out | exact below_many Hal.out _ | exact below_many (below_many Hal.out _) _⟩
        · have h1 := hmore.out (by omega)
          have hs : sgn2 (qval xs) (qval ys) = 1 := by unfold sgn2; rw [if_neg (by omega), if_neg (by omega)]
          have Hs := Lib.hid hs
          clear hs h1
          go_wp2
          go_quiet (fail)
          go_wp2
          go_quiet (fail)
          go_wp2
          go_ret
          exact ⟨by rw [Hs.out]; rfl, by first | exact Hal.out | exact below_many Hal.out _ | exact below_many (below_many Hal.out _) _⟩
end Go.Proofs.YtgadnianjhaeiaaDoor
