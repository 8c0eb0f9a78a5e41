/-
  The contract of the reference's minus: the digits of a difference.
-/
import Derived.Test.YtgadnianjhaeiaaDoorRMath
namespace Go.Proofs.YtgadnianjhaeiaaDoor
open Go.RowKit

set_option maxRecDepth 100000 in
set_option maxHeartbeats 4000000 in
theorem refminus_any (A B : Option Addr) (n m ca cb : Nat) (xs ys : List Nat) (w : World) (hx : RdJ w A xs) (hy : RdJ w B ys) (qx : Qds xs) (qy : Qds ys) (hn : xs.length = n) (hm : ys.length = m) (nx : n ≤ 1000) (ny : m ≤ n) (hle : qval ys ≤ qval xs) :
    Calls Tryd.prog 52 #[.slice A n ca, .slice B m cb] w fun e w' => RetJ w w' e (qds (qval xs - qval ys)) := by
  obtain ⟨i0, hi, hz0, hz1, hz2⟩ := info_parts info_int
  have Hx := Lib.hid hx
  have Hy := Lib.hid hy
  have Hn := Lib.hid hn
  have Hm := Lib.hid hm
  have Hle := Lib.hid hle
  clear hx hy hn hm hle
  go_enter Tryd.func52, Tryd.ntmps52
  go_wp2_with fail
  go_loopw [5, 6, 7, 8] (fun v c i d wr => ∃ (D : List Nat) (k q : Nat), i = .int .i64 k ∧ c = .int .i64 q ∧ q ≤ 1 ∧ k ≤ n ∧ D.length = k ∧ Qds D ∧ qval D + qval (ys.take k) = qval (xs.take k) + C16 ^ k * q ∧ OwJ wr w.heap.size v D ∧ Below w.heap.size w wr)
    (fun _ _ i _ _ => n - (intOf i).toNat)
  case atStart => exact ⟨[], 0, 0, rfl, rfl, by omega, by omega, rfl, Qds.nil, by simp [qval], OwJ.nil _ _, Below.refl _ _⟩
  case round =>
    obtain ⟨D, k, q, rfl, rfl, hq1, hk, hD, hQ, hval, hown, hbel⟩ := hrel
    have Hval := Lib.hid hval
    have Hown := Lib.hid hown
    have Hbel := Lib.hid hbel
    clear hval hown hbel
    have hbw : w.heap.size ≤ wr.heap.size := Hbel.out.size
    have hxk : xs.getD k 0 < 65536 := qx.getD k
    have hyk : ys.getD k 0 < 65536 := qy.getD k
    by_cases hkn : k < n
    · obtain ⟨a, rfl, hab, hca0⟩ := Hx.out k (by rw [Hn.out]; exact hkn)
      have hca := (Hbel.out.cell (p := a.add k) (by rw [block_add]; exact hab)).trans hca0
      clear hca0
      by_cases hkm : k < m
      · skip
        have hstH := Lib.hid (fun b' d => borrow_step D xs ys q b' d k hD Hval.out)
        obtain ⟨b, rfl, hbb, hcb0⟩ := Hy.out k (by rw [Hm.out]; exact hkm)
        have hcb := (Hbel.out.cell (p := b.add k) (by rw [block_add]; exact hbb)).trans hcb0
        clear hcb0
        generalize xs.getD k 0 = x at *
        generalize ys.getD k 0 = y at *
        by_cases hneg : (x : Int) - (q : Int) - (y : Int) < 0
        · skip
          obtain ⟨r, hr⟩ : ∃ r : Nat, r + q + y = x + 65536 := ⟨x + 65536 - q - y, by omega⟩
          have e1 : (x : Int) - (q : Int) - (y : Int) + 65536 = (r : Int) := by omega
          have hnew := Lib.hid (hstH.out 1 r (by omega))
          have hrl : r < C16 := by rw [C16_eq]; omega
          have hsg : (x : Int) - (q : Int) - (y : Int) < 0 := by omega
          clear hr hstH
          go_wp2_with (at_builtin; refine wpList_append_own _ rfl (.tmp 35) (.tmp 37) 61 rfl w.heap.size 3 i0 (.int .i64 0) 1 8 Tryd.underlying61 hi hz0 hz1 hz2 rfl (by decide) _ D.length (D.map fun x : Nat => Value.int .i64 (x : Int)) rfl (World.ownsRow.alloc Hown.out _) ⟨wr.heap.size, 0, none⟩ 1 1 [.int .i64 ((r : Nat) : Int)] rfl rfl (cell_one_new _ _ _) (fun x hx => by simp at hx; subst hx; rfl) (by unfold maxLen; omega) (by omega) (by simp; omega) ?_; intro v2 w2 hown2 hgrow2 _)
          go_roundw
          case rel => exact ⟨D ++ [r], k + 1, 1, by go_num, rfl, by omega, by omega, by simp [hD], hQ.snoc hrl, hnew.out, OwJ.push hown2, (Hbel.out.alloc Hbel.out.size _).grown hgrow2 (by simp; omega) (fun k hk => by have := Hown.out.own k hk; omega)⟩
          case measure => simp [intOf]; omega
        · skip
          obtain ⟨r, hr⟩ : ∃ r : Nat, r + q + y = x + 0 := ⟨x + 0 - q - y, by omega⟩
          have e1 : (x : Int) - (q : Int) - (y : Int) = (r : Int) := by omega
          have hnew := Lib.hid (hstH.out 0 r (by omega))
          have hrl : r < C16 := by rw [C16_eq]; omega
          have hsg : (x : Int) - (q : Int) - (y : Int) ≥ 0 := by omega
          clear hr hstH
          go_wp2_with (at_builtin; refine wpList_append_own _ rfl (.tmp 35) (.tmp 37) 61 rfl w.heap.size 3 i0 (.int .i64 0) 1 8 Tryd.underlying61 hi hz0 hz1 hz2 rfl (by decide) _ D.length (D.map fun x : Nat => Value.int .i64 (x : Int)) rfl (World.ownsRow.alloc Hown.out _) ⟨wr.heap.size, 0, none⟩ 1 1 [.int .i64 ((r : Nat) : Int)] rfl rfl (cell_one_new _ _ _) (fun x hx => by simp at hx; subst hx; rfl) (by unfold maxLen; omega) (by omega) (by simp; omega) ?_; intro v2 w2 hown2 hgrow2 _)
          go_roundw
          case rel => exact ⟨D ++ [r], k + 1, 0, by go_num, rfl, by omega, by omega, by simp [hD], hQ.snoc hrl, hnew.out, OwJ.push hown2, (Hbel.out.alloc Hbel.out.size _).grown hgrow2 (by simp; omega) (fun k hk => by have := Hown.out.own k hk; omega)⟩
          case measure => simp [intOf]; omega
      · skip
        have hstH := Lib.hid (fun b' d => borrow_step D xs ys q b' d k hD Hval.out)
        have hy0 := getD_big ys k (by rw [Hm.out]; omega)
        rw [hy0] at hstH
        generalize xs.getD k 0 = x at *
        by_cases hneg : (x : Int) - (q : Int) < 0
        · skip
          obtain ⟨r, hr⟩ : ∃ r : Nat, r + q = x + 65536 := ⟨x + 65536 - q, by omega⟩
          have e1 : (x : Int) - (q : Int) + 65536 = (r : Int) := by omega
          have hnew := Lib.hid (hstH.out 1 r (by omega))
          have hrl : r < C16 := by rw [C16_eq]; omega
          have hsg : (x : Int) - (q : Int) < 0 := by omega
          clear hr hstH
          go_wp2_with (at_builtin; refine wpList_append_own _ rfl (.tmp 35) (.tmp 37) 61 rfl w.heap.size 3 i0 (.int .i64 0) 1 8 Tryd.underlying61 hi hz0 hz1 hz2 rfl (by decide) _ D.length (D.map fun x : Nat => Value.int .i64 (x : Int)) rfl (World.ownsRow.alloc Hown.out _) ⟨wr.heap.size, 0, none⟩ 1 1 [.int .i64 ((r : Nat) : Int)] rfl rfl (cell_one_new _ _ _) (fun x hx => by simp at hx; subst hx; rfl) (by unfold maxLen; omega) (by omega) (by simp; omega) ?_; intro v2 w2 hown2 hgrow2 _)
          go_roundw
          case rel => exact ⟨D ++ [r], k + 1, 1, by go_num, rfl, by omega, by omega, by simp [hD], hQ.snoc hrl, hnew.out, OwJ.push hown2, (Hbel.out.alloc Hbel.out.size _).grown hgrow2 (by simp; omega) (fun k hk => by have := Hown.out.own k hk; omega)⟩
          case measure => simp [intOf]; omega
        · skip
          obtain ⟨r, hr⟩ : ∃ r : Nat, r + q = x + 0 := ⟨x + 0 - q, by omega⟩
          have e1 : (x : Int) - (q : Int) = (r : Int) := by omega
          have hnew := Lib.hid (hstH.out 0 r (by omega))
          have hrl : r < C16 := by rw [C16_eq]; omega
          have hsg : (x : Int) - (q : Int) ≥ 0 := by omega
          clear hr hstH
          go_wp2_with (at_builtin; refine wpList_append_own _ rfl (.tmp 35) (.tmp 37) 61 rfl w.heap.size 3 i0 (.int .i64 0) 1 8 Tryd.underlying61 hi hz0 hz1 hz2 rfl (by decide) _ D.length (D.map fun x : Nat => Value.int .i64 (x : Int)) rfl (World.ownsRow.alloc Hown.out _) ⟨wr.heap.size, 0, none⟩ 1 1 [.int .i64 ((r : Nat) : Int)] rfl rfl (cell_one_new _ _ _) (fun x hx => by simp at hx; subst hx; rfl) (by unfold maxLen; omega) (by omega) (by simp; omega) ?_; intro v2 w2 hown2 hgrow2 _)
          go_roundw
          case rel => exact ⟨D ++ [r], k + 1, 0, by go_num, rfl, by omega, by omega, by simp [hD], hQ.snoc hrl, hnew.out, OwJ.push hown2, (Hbel.out.alloc Hbel.out.size _).grown hgrow2 (by simp; omega) (fun k hk => by have := Hown.out.own k hk; omega)⟩
          case measure => simp [intOf]; omega
    · obtain rfl : k = n := by omega
      have hN := borrow_end D xs ys q k hQ hD Hn.out (by rw [Hm.out]; exact ny) Hval.out Hle.out
      have HN := Lib.hid hN
      obtain ⟨A', c', rfl, hc', hm', hrd, hAn⟩ := Hown.out.rd
      clear hN
      go_wp2_with fail
      with_reducible refine (reftrim_any A' k c' D wr hD hrd (by rw [← hD]; exact hc') hm').mono ?_
      rintro e w' ⟨rfl, rfl⟩
      go_wp2
      go_ret
      exact RetJ.trimmed hrd hQ HN.out hc' hm' Hbel.out hAn
end Go.Proofs.YtgadnianjhaeiaaDoor
