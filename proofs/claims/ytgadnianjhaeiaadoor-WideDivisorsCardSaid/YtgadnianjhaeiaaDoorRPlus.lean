/-
  The contract of the reference's plus: the digits of a sum.
-/
import Derived.Test.YtgadnianjhaeiaaDoorRMath
namespace Go.Proofs.YtgadnianjhaeiaaDoor
open Go.RowKit

/-- What the call returns reads as some digits with this value (zeros may stand at the end); what was there is as it was. -/
def RetQ (w w' : World) (e : Ending) (N m : Nat) : Prop := ∃ D A c, e = .returned (.slice A D.length c) ∧ D.length ≤ c ∧ c ≤ maxLen ∧ D.length ≤ m ∧ Qds D ∧ qval D = N ∧ RdJ w' A D ∧ Below w.heap.size w w'

set_option maxRecDepth 100000 in
set_option maxHeartbeats 4000000 in
theorem refplus_any (A B : Option Addr) (n m ca cb : Nat) (xs ys : List Nat) (w : World) (hx : RdJ w A xs) (hy : RdJ w B ys) (qx : Qds xs) (qy : Qds ys) (hn : xs.length = n) (hm : ys.length = m) (nx : n ≤ 1000) (ny : m ≤ 1000) :
    Calls Tryd.prog 50 #[.slice A n ca, .slice B m cb] w fun e w' => RetQ w w' e (qval xs + qval ys) (max n m + 1) := by
  obtain ⟨i0, hi, hz0, hz1, hz2⟩ := info_parts info_int
  have Hx := Lib.hid hx
  have Hy := Lib.hid hy
  have Hn := Lib.hid hn
  have Hm := Lib.hid hm
  clear hx hy hn hm
  go_enter Tryd.func50, Tryd.ntmps50
  go_wp2_with fail
  go_loopw [5, 6, 7, 8] (fun v c i d wr => ∃ (D : List Nat) (k q : Nat), i = .int .i64 k ∧ c = .int .i64 q ∧ q ≤ 1 ∧ k ≤ max n m + 1 ∧ (q = 0 ∨ k ≤ max n m) ∧ D.length = k ∧ Qds D ∧ qval D + C16 ^ k * q = qval (xs.take k) + qval (ys.take k) ∧ OwJ wr w.heap.size v D ∧ Below w.heap.size w wr)
    (fun _ _ i _ _ => (max n m + 1) - (intOf i).toNat)
  case atStart => exact ⟨[], 0, 0, rfl, rfl, by omega, by omega, .inl rfl, rfl, Qds.nil, by simp [qval], OwJ.nil _ _, Below.refl _ _⟩
  case round =>
    obtain ⟨D, k, q, rfl, rfl, hq1, hk, hqk, hD, hQ, hval, hown, hbel⟩ := hrel
    have Hval := Lib.hid hval
    have Hown := Lib.hid hown
    have Hbel := Lib.hid hbel
    clear hval hown hbel
    have hbw : w.heap.size ≤ wr.heap.size := Hbel.out.size
    have hxk : xs.getD k 0 < 65536 := qx.getD k
    have hyk : ys.getD k 0 < 65536 := qy.getD k
    by_cases hkn : k < n
    · by_cases hkm : k < m
      · skip
        obtain ⟨a, rfl, hab, hca0⟩ := Hx.out k (by rw [Hn.out]; exact hkn)
        have hca := (Hbel.out.cell (p := a.add k) (by rw [block_add]; exact hab)).trans hca0
        clear hca0
        obtain ⟨b, rfl, hbb, hcb0⟩ := Hy.out k (by rw [Hm.out]; exact hkm)
        have hcb := (Hbel.out.cell (p := b.add k) (by rw [block_add]; exact hbb)).trans hcb0
        clear hcb0
        have hst := fun d r q' => carry_step D xs ys q d r q' k hD Hval.out
        have hstH := Lib.hid hst
        clear hst
        generalize xs.getD k 0 = x at *
        generalize ys.getD k 0 = y at *
        obtain ⟨r, hr⟩ : ∃ r : Nat, r = (q + x + y) % 65536 := ⟨_, rfl⟩
        obtain ⟨q2, hq2⟩ : ∃ q2 : Nat, q2 = (q + x + y) / 65536 := ⟨_, rfl⟩
        have e1 : ((q : Int) + (x : Int) + (y : Int)) % 65536 = (r : Int) := by omega
        have e2 : ((q : Int) + (x : Int) + (y : Int)) / 65536 = (q2 : Int) := by omega
        have hnew := Lib.hid (hstH.out (q + x + y) r q2 (by omega) hr.symm hq2.symm)
        have hrl : r < C16 := by rw [C16_eq]; omega
        have hq2l : q2 ≤ 1 ∧ (q2 = 0 ∨ k + 1 ≤ max n m) := by omega
        clear hr hq2 hstH
        go_wp2_with (at_builtin; refine wpList_append_own _ rfl (.tmp 46) (.tmp 49) 61 rfl w.heap.size 3 i0 (.int .i64 0) 1 8 Tryd.underlying61 hi hz0 hz1 hz2 rfl (by decide) _ D.length (D.map fun x : Nat => Value.int .i64 (x : Int)) rfl (World.ownsRow.alloc Hown.out _) ⟨wr.heap.size, 0, none⟩ 1 1 [.int .i64 ((r : Nat) : Int)] rfl rfl (cell_one_new _ _ _) (fun x hx => by simp at hx; subst hx; rfl) (by unfold maxLen; omega) (by omega) (by simp; omega) ?_; intro v2 w2 hown2 hgrow2 _)
        go_roundw
        case rel => exact ⟨D ++ [r], k + 1, q2, by go_num, by first | rfl | rw [e2], hq2l.1, by omega, hq2l.2, by simp [hD], hQ.snoc hrl, hnew.out, OwJ.push hown2, (Hbel.out.alloc Hbel.out.size _).grown hgrow2 (by simp; omega) (fun k hk => by have := Hown.out.own k hk; omega)⟩
        case measure => simp [intOf]; omega
      · skip
        obtain ⟨a, rfl, hab, hca0⟩ := Hx.out k (by rw [Hn.out]; exact hkn)
        have hca := (Hbel.out.cell (p := a.add k) (by rw [block_add]; exact hab)).trans hca0
        clear hca0
        have hy0 := getD_big ys k (by rw [Hm.out]; omega)
        have hst := fun d r q' => carry_step D xs ys q d r q' k hD Hval.out
        have hstH := Lib.hid hst
        clear hst
        rw [hy0] at hstH
        generalize xs.getD k 0 = x at *
        obtain ⟨r, hr⟩ : ∃ r : Nat, r = (q + x) % 65536 := ⟨_, rfl⟩
        obtain ⟨q2, hq2⟩ : ∃ q2 : Nat, q2 = (q + x) / 65536 := ⟨_, rfl⟩
        have e1 : ((q : Int) + (x : Int)) % 65536 = (r : Int) := by omega
        have e2 : ((q : Int) + (x : Int)) / 65536 = (q2 : Int) := by omega
        have hnew := Lib.hid (hstH.out (q + x) r q2 (by omega) hr.symm hq2.symm)
        have hrl : r < C16 := by rw [C16_eq]; omega
        have hq2l : q2 ≤ 1 ∧ (q2 = 0 ∨ k + 1 ≤ max n m) := by omega
        clear hr hq2 hstH
        go_wp2_with (at_builtin; refine wpList_append_own _ rfl (.tmp 46) (.tmp 49) 61 rfl w.heap.size 3 i0 (.int .i64 0) 1 8 Tryd.underlying61 hi hz0 hz1 hz2 rfl (by decide) _ D.length (D.map fun x : Nat => Value.int .i64 (x : Int)) rfl (World.ownsRow.alloc Hown.out _) ⟨wr.heap.size, 0, none⟩ 1 1 [.int .i64 ((r : Nat) : Int)] rfl rfl (cell_one_new _ _ _) (fun x hx => by simp at hx; subst hx; rfl) (by unfold maxLen; omega) (by omega) (by simp; omega) ?_; intro v2 w2 hown2 hgrow2 _)
        go_roundw
        case rel => exact ⟨D ++ [r], k + 1, q2, by go_num, by first | rfl | rw [e2], hq2l.1, by omega, hq2l.2, by simp [hD], hQ.snoc hrl, hnew.out, OwJ.push hown2, (Hbel.out.alloc Hbel.out.size _).grown hgrow2 (by simp; omega) (fun k hk => by have := Hown.out.own k hk; omega)⟩
        case measure => simp [intOf]; omega
    · by_cases hkm : k < m
      · skip
        have hx0 := getD_big xs k (by rw [Hn.out]; omega)
        obtain ⟨b, rfl, hbb, hcb0⟩ := Hy.out k (by rw [Hm.out]; exact hkm)
        have hcb := (Hbel.out.cell (p := b.add k) (by rw [block_add]; exact hbb)).trans hcb0
        clear hcb0
        have hst := fun d r q' => carry_step D xs ys q d r q' k hD Hval.out
        have hstH := Lib.hid hst
        clear hst
        rw [hx0] at hstH
        generalize ys.getD k 0 = y at *
        obtain ⟨r, hr⟩ : ∃ r : Nat, r = (q + y) % 65536 := ⟨_, rfl⟩
        obtain ⟨q2, hq2⟩ : ∃ q2 : Nat, q2 = (q + y) / 65536 := ⟨_, rfl⟩
        have e1 : ((q : Int) + (y : Int)) % 65536 = (r : Int) := by omega
        have e2 : ((q : Int) + (y : Int)) / 65536 = (q2 : Int) := by omega
        have hnew := Lib.hid (hstH.out (q + y) r q2 (by omega) hr.symm hq2.symm)
        have hrl : r < C16 := by rw [C16_eq]; omega
        have hq2l : q2 ≤ 1 ∧ (q2 = 0 ∨ k + 1 ≤ max n m) := by omega
        clear hr hq2 hstH
        go_wp2_with (at_builtin; refine wpList_append_own _ rfl (.tmp 46) (.tmp 49) 61 rfl w.heap.size 3 i0 (.int .i64 0) 1 8 Tryd.underlying61 hi hz0 hz1 hz2 rfl (by decide) _ D.length (D.map fun x : Nat => Value.int .i64 (x : Int)) rfl (World.ownsRow.alloc Hown.out _) ⟨wr.heap.size, 0, none⟩ 1 1 [.int .i64 ((r : Nat) : Int)] rfl rfl (cell_one_new _ _ _) (fun x hx => by simp at hx; subst hx; rfl) (by unfold maxLen; omega) (by omega) (by simp; omega) ?_; intro v2 w2 hown2 hgrow2 _)
        go_roundw
        case rel => exact ⟨D ++ [r], k + 1, q2, by go_num, by first | rfl | rw [e2], hq2l.1, by omega, hq2l.2, by simp [hD], hQ.snoc hrl, hnew.out, OwJ.push hown2, (Hbel.out.alloc Hbel.out.size _).grown hgrow2 (by simp; omega) (fun k hk => by have := Hown.out.own k hk; omega)⟩
        case measure => simp [intOf]; omega
      · by_cases hq0 : q = 0
        · subst hq0
          have hN : qval D = qval xs + qval ys := by
            have := Hval.out
            rw [List.take_of_length_le (by rw [Hn.out]; omega), List.take_of_length_le (by rw [Hm.out]; omega)] at this
            simpa using this
          have HN := Lib.hid hN
          obtain ⟨A', c', rfl, hc', hm', hrd, _⟩ := Hown.out.rd
          clear hN
          go_wp2
          go_ret
          exact ⟨D, A', c', by rw [hD]; rfl, hc', hm', by omega, hQ, HN.out, hrd, Hbel.out⟩
        · skip
          have hx0 := getD_big xs k (by rw [Hn.out]; omega)
          have hy0 := getD_big ys k (by rw [Hm.out]; omega)
          have hst := fun d r q' => carry_step D xs ys q d r q' k hD Hval.out
          have hstH := Lib.hid hst
          clear hst
          rw [hx0] at hstH
          rw [hy0] at hstH
          obtain ⟨r, hr⟩ : ∃ r : Nat, r = (q) % 65536 := ⟨_, rfl⟩
          obtain ⟨q2, hq2⟩ : ∃ q2 : Nat, q2 = (q) / 65536 := ⟨_, rfl⟩
          have e1 : ((q : Int)) % 65536 = (r : Int) := by omega
          have e2 : ((q : Int)) / 65536 = (q2 : Int) := by omega
          have hnew := Lib.hid (hstH.out (q) r q2 (by omega) hr.symm hq2.symm)
          have hrl : r < C16 := by rw [C16_eq]; omega
          have hq2l : q2 ≤ 1 ∧ (q2 = 0 ∨ k + 1 ≤ max n m) := by omega
          clear hr hq2 hstH
          go_wp2_with (at_builtin; refine wpList_append_own _ rfl (.tmp 46) (.tmp 49) 61 rfl w.heap.size 3 i0 (.int .i64 0) 1 8 Tryd.underlying61 hi hz0 hz1 hz2 rfl (by decide) _ D.length (D.map fun x : Nat => Value.int .i64 (x : Int)) rfl (World.ownsRow.alloc Hown.out _) ⟨wr.heap.size, 0, none⟩ 1 1 [.int .i64 ((r : Nat) : Int)] rfl rfl (cell_one_new _ _ _) (fun x hx => by simp at hx; subst hx; rfl) (by unfold maxLen; omega) (by omega) (by simp; omega) ?_; intro v2 w2 hown2 hgrow2 _)
          go_roundw
          case rel => exact ⟨D ++ [r], k + 1, q2, by go_num, by first | rfl | rw [e2], hq2l.1, by omega, hq2l.2, by simp [hD], hQ.snoc hrl, hnew.out, OwJ.push hown2, (Hbel.out.alloc Hbel.out.size _).grown hgrow2 (by simp; omega) (fun k hk => by have := Hown.out.own k hk; omega)⟩
          case measure => simp [intOf]; omega
end Go.Proofs.YtgadnianjhaeiaaDoor
