import Derived.Test.YtknaghdoffigjaaGreatDoorZMAlg
import Derived.Deep.QuietTactic
import Derived.BigQuiet
import Derived.Test.YtknaghdoffigjaaGreatDoorZRDig
set_option linter.unusedSimpArgs false
set_option linter.unusedVariables false
set_option linter.unnecessarySimpa false
namespace Go.Proofs.YtknaghdoffigjaaGreatDoor
open Go.RowKit
def RetQ (w w' : World) (e : Ending) (N m : Nat) : Prop := ∃ D A c, e = .returned (.slice A D.length c) ∧ D.length ≤ c ∧ c ≤ maxLen ∧ D.length ≤ m ∧ Qds D ∧ qval D = N ∧ RdJ w' A D ∧ Below w.heap.size w w'
set_option maxRecDepth 100000 in
set_option maxHeartbeats 4000000 in
theorem refplus_any (A B : Option Addr) (n m ca cb : Nat) (xs ys : List Nat) (w : World) (hx : RdJ w A xs) (hy : RdJ w B ys) (qx : Qds xs) (qy : Qds ys) (hn : xs.length = n) (hm : ys.length = m) (nx : n ≤ 1000) (ny : m ≤ 1000) :
  Calls Tryz.prog 122 #[.slice A n ca, .slice B m cb] w fun e w' => RetQ w w' e (qval xs + qval ys) (max n m + 1) := by
 obtain ⟨i0, hi, hz0, hz1, hz2⟩ := info_parts info_int
 have Hx := Lib.hid hx
 have Hy := Lib.hid hy
 have Hn := Lib.hid hn
 have Hm := Lib.hid hm
 clear hx hy hn hm
 go_enter Tryz.func122, Tryz.ntmps122
 go_wp2_with fail
 go_loopw [5, 6, 7, 8] (fun v c i d wr => ∃ (D : List Nat) (k q : Nat), i = .int .i64 k ∧ c = .int .i64 q ∧ q ≤ 1 ∧ k ≤ max n m + 1 ∧ (q = 0 ∨ k ≤ max n m) ∧ D.length = k ∧ Qds D ∧ qval D + C16 ^ k * q = qval (xs.take k) + qval (ys.take k) ∧ OwJ wr w.heap.size v D ∧ Below w.heap.size w wr)
  (fun _ _ i _ _ => (max n m + 1) - (intOf i).toNat)
 case atStart => exact ⟨[], 0, 0, rfl, rfl, by omega, by omega, .inl rfl, rfl, Qds.nil, by simp [qval], OwJ.nil _ _, Below.refl _ _⟩
 case round =>
  obtain ⟨D, k, q, rfl, rfl, hq1, hk, hqk, hD, hQ, hval, hown, hbel⟩ := hrel
  have Hval := Lib.hid hval
  have Hown := Lib.hid hown
  have Hbel := Lib.hid hbel
  clear hval hown hbel
  have hbw : w.heap.size ≤ wr.heap.size := Hbel.out.size
  have hxk : xs.getD k 0 < 65536 := qx.getD k
  have hyk : ys.getD k 0 < 65536 := qy.getD k
  by_cases hkn : k < n
  ·by_cases hkm : k < m
   ·skip
    obtain ⟨a, rfl, hab, hca0⟩ := Hx.out k (by rw [Hn.out]; exact hkn)
    have hca := (Hbel.out.cell (p := a.add k) (by rw [block_add]; exact hab)).trans hca0
    clear hca0
    obtain ⟨b, rfl, hbb, hcb0⟩ := Hy.out k (by rw [Hm.out]; exact hkm)
    have hcb := (Hbel.out.cell (p := b.add k) (by rw [block_add]; exact hbb)).trans hcb0
    clear hcb0
    have hst := fun d r q' => carry_step D xs ys q d r q' k hD Hval.out
    have hstH := Lib.hid hst
    clear hst
    generalize xs.getD k 0 = x at *
    generalize ys.getD k 0 = y at *
    obtain ⟨r, hr⟩ : ∃ r : Nat, r = (q + x + y) % 65536 := ⟨_, rfl⟩
    obtain ⟨q2, hq2⟩ : ∃ q2 : Nat, q2 = (q + x + y) / 65536 := ⟨_, rfl⟩
    have e1 : ((q : Int) + (x : Int) + (y : Int)) % 65536 = (r : Int) := by omega
    have e2 : ((q : Int) + (x : Int) + (y : Int)) / 65536 = (q2 : Int) := by omega
    have hnew := Lib.hid (hstH.out (q + x + y) r q2 (by omega) hr.symm hq2.symm)
    have hrl : r < C16 := by rw [C16_eq]; omega
    have hq2l : q2 ≤ 1 ∧ (q2 = 0 ∨ k + 1 ≤ max n m) := by omega
    clear hr hq2 hstH
    go_wp2_with (at_builtin; refine wpList_append_own _ rfl (.tmp 46) (.tmp 49) 25 rfl w.heap.size 3 i0 (.int .i64 0) 1 8 Tryz.underlying25 hi hz0 hz1 hz2 rfl (by decide) _ D.length (D.map fun x : Nat => Value.int .i64 (x : Int)) rfl (World.ownsRow.alloc Hown.out _) ⟨wr.heap.size, 0, none⟩ 1 1 [.int .i64 ((r : Nat) : Int)] rfl rfl (cell_one_new _ _ _) (fun x hx => by simp at hx; subst hx; rfl) (by unfold maxLen; omega) (by omega) (by simp; omega) ?_; intro v2 w2 hown2 hgrow2 _)
    go_roundw
    case rel => exact ⟨D ++ [r], k + 1, q2, by go_num, by first | rfl | rw [e2], hq2l.1, by omega, hq2l.2, by simp [hD], hQ.snoc hrl, hnew.out, OwJ.push hown2, (Hbel.out.alloc Hbel.out.size _).grown hgrow2 (by simp; omega) (fun k hk => by have := Hown.out.own k hk; omega)⟩
    case measure => simp [intOf]; omega
   ·skip
    obtain ⟨a, rfl, hab, hca0⟩ := Hx.out k (by rw [Hn.out]; exact hkn)
    have hca := (Hbel.out.cell (p := a.add k) (by rw [block_add]; exact hab)).trans hca0
    clear hca0
    have hy0 := getD_big ys k (by rw [Hm.out]; omega)
    have hst := fun d r q' => carry_step D xs ys q d r q' k hD Hval.out
    have hstH := Lib.hid hst
    clear hst
    rw [hy0] at hstH
    generalize xs.getD k 0 = x at *
    obtain ⟨r, hr⟩ : ∃ r : Nat, r = (q + x) % 65536 := ⟨_, rfl⟩
    obtain ⟨q2, hq2⟩ : ∃ q2 : Nat, q2 = (q + x) / 65536 := ⟨_, rfl⟩
    have e1 : ((q : Int) + (x : Int)) % 65536 = (r : Int) := by omega
    have e2 : ((q : Int) + (x : Int)) / 65536 = (q2 : Int) := by omega
    have hnew := Lib.hid (hstH.out (q + x) r q2 (by omega) hr.symm hq2.symm)
    have hrl : r < C16 := by rw [C16_eq]; omega
    have hq2l : q2 ≤ 1 ∧ (q2 = 0 ∨ k + 1 ≤ max n m) := by omega
    clear hr hq2 hstH
    go_wp2_with (at_builtin; refine wpList_append_own _ rfl (.tmp 46) (.tmp 49) 25 rfl w.heap.size 3 i0 (.int .i64 0) 1 8 Tryz.underlying25 hi hz0 hz1 hz2 rfl (by decide) _ D.length (D.map fun x : Nat => Value.int .i64 (x : Int)) rfl (World.ownsRow.alloc Hown.out _) ⟨wr.heap.size, 0, none⟩ 1 1 [.int .i64 ((r : Nat) : Int)] rfl rfl (cell_one_new _ _ _) (fun x hx => by simp at hx; subst hx; rfl) (by unfold maxLen; omega) (by omega) (by simp; omega) ?_; intro v2 w2 hown2 hgrow2 _)
    go_roundw
    case rel => exact ⟨D ++ [r], k + 1, q2, by go_num, by first | rfl | rw [e2], hq2l.1, by omega, hq2l.2, by simp [hD], hQ.snoc hrl, hnew.out, OwJ.push hown2, (Hbel.out.alloc Hbel.out.size _).grown hgrow2 (by simp; omega) (fun k hk => by have := Hown.out.own k hk; omega)⟩
    case measure => simp [intOf]; omega
  ·by_cases hkm : k < m
   ·skip
    have hx0 := getD_big xs k (by rw [Hn.out]; omega)
    obtain ⟨b, rfl, hbb, hcb0⟩ := Hy.out k (by rw [Hm.out]; exact hkm)
    have hcb := (Hbel.out.cell (p := b.add k) (by rw [block_add]; exact hbb)).trans hcb0
    clear hcb0
    have hst := fun d r q' => carry_step D xs ys q d r q' k hD Hval.out
    have hstH := Lib.hid hst
    clear hst
    rw [hx0] at hstH
    generalize ys.getD k 0 = y at *
    obtain ⟨r, hr⟩ : ∃ r : Nat, r = (q + y) % 65536 := ⟨_, rfl⟩
    obtain ⟨q2, hq2⟩ : ∃ q2 : Nat, q2 = (q + y) / 65536 := ⟨_, rfl⟩
    have e1 : ((q : Int) + (y : Int)) % 65536 = (r : Int) := by omega
    have e2 : ((q : Int) + (y : Int)) / 65536 = (q2 : Int) := by omega
    have hnew := Lib.hid (hstH.out (q + y) r q2 (by omega) hr.symm hq2.symm)
    have hrl : r < C16 := by rw [C16_eq]; omega
    have hq2l : q2 ≤ 1 ∧ (q2 = 0 ∨ k + 1 ≤ max n m) := by omega
    clear hr hq2 hstH
    go_wp2_with (at_builtin; refine wpList_append_own _ rfl (.tmp 46) (.tmp 49) 25 rfl w.heap.size 3 i0 (.int .i64 0) 1 8 Tryz.underlying25 hi hz0 hz1 hz2 rfl (by decide) _ D.length (D.map fun x : Nat => Value.int .i64 (x : Int)) rfl (World.ownsRow.alloc Hown.out _) ⟨wr.heap.size, 0, none⟩ 1 1 [.int .i64 ((r : Nat) : Int)] rfl rfl (cell_one_new _ _ _) (fun x hx => by simp at hx; subst hx; rfl) (by unfold maxLen; omega) (by omega) (by simp; omega) ?_; intro v2 w2 hown2 hgrow2 _)
    go_roundw
    case rel => exact ⟨D ++ [r], k + 1, q2, by go_num, by first | rfl | rw [e2], hq2l.1, by omega, hq2l.2, by simp [hD], hQ.snoc hrl, hnew.out, OwJ.push hown2, (Hbel.out.alloc Hbel.out.size _).grown hgrow2 (by simp; omega) (fun k hk => by have := Hown.out.own k hk; omega)⟩
    case measure => simp [intOf]; omega
   ·by_cases hq0 : q = 0
    ·subst hq0
     have hN : qval D = qval xs + qval ys := by
      have := Hval.out
      rw [List.take_of_length_le (by rw [Hn.out]; omega), List.take_of_length_le (by rw [Hm.out]; omega)] at this
      simpa using this
     have HN := Lib.hid hN
     obtain ⟨A', c', rfl, hc', hm', hrd, _⟩ := Hown.out.rd
     clear hN
     go_wp2
     go_ret
     exact ⟨D, A', c', by rw [hD]; rfl, hc', hm', by omega, hQ, HN.out, hrd, Hbel.out⟩
    ·skip
     have hx0 := getD_big xs k (by rw [Hn.out]; omega)
     have hy0 := getD_big ys k (by rw [Hm.out]; omega)
     have hst := fun d r q' => carry_step D xs ys q d r q' k hD Hval.out
     have hstH := Lib.hid hst
     clear hst
     rw [hx0] at hstH
     rw [hy0] at hstH
     obtain ⟨r, hr⟩ : ∃ r : Nat, r = (q) % 65536 := ⟨_, rfl⟩
     obtain ⟨q2, hq2⟩ : ∃ q2 : Nat, q2 = (q) / 65536 := ⟨_, rfl⟩
     have e1 : ((q : Int)) % 65536 = (r : Int) := by omega
     have e2 : ((q : Int)) / 65536 = (q2 : Int) := by omega
     have hnew := Lib.hid (hstH.out (q) r q2 (by omega) hr.symm hq2.symm)
     have hrl : r < C16 := by rw [C16_eq]; omega
     have hq2l : q2 ≤ 1 ∧ (q2 = 0 ∨ k + 1 ≤ max n m) := by omega
     clear hr hq2 hstH
     go_wp2_with (at_builtin; refine wpList_append_own _ rfl (.tmp 46) (.tmp 49) 25 rfl w.heap.size 3 i0 (.int .i64 0) 1 8 Tryz.underlying25 hi hz0 hz1 hz2 rfl (by decide) _ D.length (D.map fun x : Nat => Value.int .i64 (x : Int)) rfl (World.ownsRow.alloc Hown.out _) ⟨wr.heap.size, 0, none⟩ 1 1 [.int .i64 ((r : Nat) : Int)] rfl rfl (cell_one_new _ _ _) (fun x hx => by simp at hx; subst hx; rfl) (by unfold maxLen; omega) (by omega) (by simp; omega) ?_; intro v2 w2 hown2 hgrow2 _)
     go_roundw
     case rel => exact ⟨D ++ [r], k + 1, q2, by go_num, by first | rfl | rw [e2], hq2l.1, by omega, hq2l.2, by simp [hD], hQ.snoc hrl, hnew.out, OwJ.push hown2, (Hbel.out.alloc Hbel.out.size _).grown hgrow2 (by simp; omega) (fun k hk => by have := Hown.out.own k hk; omega)⟩
     case measure => simp [intOf]; omega
end Go.Proofs.YtknaghdoffigjaaGreatDoor
namespace Go.Proofs.YtknaghdoffigjaaGreatDoor
open Go.RowKit
set_option maxRecDepth 100000 in
set_option maxHeartbeats 4000000 in
theorem refminus_any (A B : Option Addr) (n m ca cb : Nat) (xs ys : List Nat) (w : World) (hx : RdJ w A xs) (hy : RdJ w B ys) (qx : Qds xs) (qy : Qds ys) (hn : xs.length = n) (hm : ys.length = m) (nx : n ≤ 1000) (ny : m ≤ n) (hle : qval ys ≤ qval xs) :
  Calls Tryz.prog 123 #[.slice A n ca, .slice B m cb] w fun e w' => RetJ w w' e (qds (qval xs - qval ys)) := by
 obtain ⟨i0, hi, hz0, hz1, hz2⟩ := info_parts info_int
 have Hx := Lib.hid hx
 have Hy := Lib.hid hy
 have Hn := Lib.hid hn
 have Hm := Lib.hid hm
 have Hle := Lib.hid hle
 clear hx hy hn hm hle
 go_enter Tryz.func123, Tryz.ntmps123
 go_wp2_with fail
 go_loopw [5, 6, 7, 8] (fun v c i d wr => ∃ (D : List Nat) (k q : Nat), i = .int .i64 k ∧ c = .int .i64 q ∧ q ≤ 1 ∧ k ≤ n ∧ D.length = k ∧ Qds D ∧ qval D + qval (ys.take k) = qval (xs.take k) + C16 ^ k * q ∧ OwJ wr w.heap.size v D ∧ Below w.heap.size w wr)
  (fun _ _ i _ _ => n - (intOf i).toNat)
 case atStart => exact ⟨[], 0, 0, rfl, rfl, by omega, by omega, rfl, Qds.nil, by simp [qval], OwJ.nil _ _, Below.refl _ _⟩
 case round =>
  obtain ⟨D, k, q, rfl, rfl, hq1, hk, hD, hQ, hval, hown, hbel⟩ := hrel
  have Hval := Lib.hid hval
  have Hown := Lib.hid hown
  have Hbel := Lib.hid hbel
  clear hval hown hbel
  have hbw : w.heap.size ≤ wr.heap.size := Hbel.out.size
  have hxk : xs.getD k 0 < 65536 := qx.getD k
  have hyk : ys.getD k 0 < 65536 := qy.getD k
  by_cases hkn : k < n
  ·obtain ⟨a, rfl, hab, hca0⟩ := Hx.out k (by rw [Hn.out]; exact hkn)
   have hca := (Hbel.out.cell (p := a.add k) (by rw [block_add]; exact hab)).trans hca0
   clear hca0
   by_cases hkm : k < m
   ·skip
    have hstH := Lib.hid (fun b' d => borrow_step D xs ys q b' d k hD Hval.out)
    obtain ⟨b, rfl, hbb, hcb0⟩ := Hy.out k (by rw [Hm.out]; exact hkm)
    have hcb := (Hbel.out.cell (p := b.add k) (by rw [block_add]; exact hbb)).trans hcb0
    clear hcb0
    generalize xs.getD k 0 = x at *
    generalize ys.getD k 0 = y at *
    by_cases hneg : (x : Int) - (q : Int) - (y : Int) < 0
    ·skip
     obtain ⟨r, hr⟩ : ∃ r : Nat, r + q + y = x + 65536 := ⟨x + 65536 - q - y, by omega⟩
     have e1 : (x : Int) - (q : Int) - (y : Int) + 65536 = (r : Int) := by omega
     have hnew := Lib.hid (hstH.out 1 r (by omega))
     have hrl : r < C16 := by rw [C16_eq]; omega
     have hsg : (x : Int) - (q : Int) - (y : Int) < 0 := by omega
     clear hr hstH
     go_wp2_with (at_builtin; refine wpList_append_own _ rfl (.tmp 35) (.tmp 37) 25 rfl w.heap.size 3 i0 (.int .i64 0) 1 8 Tryz.underlying25 hi hz0 hz1 hz2 rfl (by decide) _ D.length (D.map fun x : Nat => Value.int .i64 (x : Int)) rfl (World.ownsRow.alloc Hown.out _) ⟨wr.heap.size, 0, none⟩ 1 1 [.int .i64 ((r : Nat) : Int)] rfl rfl (cell_one_new _ _ _) (fun x hx => by simp at hx; subst hx; rfl) (by unfold maxLen; omega) (by omega) (by simp; omega) ?_; intro v2 w2 hown2 hgrow2 _)
     go_roundw
     case rel => exact ⟨D ++ [r], k + 1, 1, by go_num, rfl, by omega, by omega, by simp [hD], hQ.snoc hrl, hnew.out, OwJ.push hown2, (Hbel.out.alloc Hbel.out.size _).grown hgrow2 (by simp; omega) (fun k hk => by have := Hown.out.own k hk; omega)⟩
     case measure => simp [intOf]; omega
    ·skip
     obtain ⟨r, hr⟩ : ∃ r : Nat, r + q + y = x + 0 := ⟨x + 0 - q - y, by omega⟩
     have e1 : (x : Int) - (q : Int) - (y : Int) = (r : Int) := by omega
     have hnew := Lib.hid (hstH.out 0 r (by omega))
     have hrl : r < C16 := by rw [C16_eq]; omega
     have hsg : (x : Int) - (q : Int) - (y : Int) ≥ 0 := by omega
     clear hr hstH
     go_wp2_with (at_builtin; refine wpList_append_own _ rfl (.tmp 35) (.tmp 37) 25 rfl w.heap.size 3 i0 (.int .i64 0) 1 8 Tryz.underlying25 hi hz0 hz1 hz2 rfl (by decide) _ D.length (D.map fun x : Nat => Value.int .i64 (x : Int)) rfl (World.ownsRow.alloc Hown.out _) ⟨wr.heap.size, 0, none⟩ 1 1 [.int .i64 ((r : Nat) : Int)] rfl rfl (cell_one_new _ _ _) (fun x hx => by simp at hx; subst hx; rfl) (by unfold maxLen; omega) (by omega) (by simp; omega) ?_; intro v2 w2 hown2 hgrow2 _)
     go_roundw
     case rel => exact ⟨D ++ [r], k + 1, 0, by go_num, rfl, by omega, by omega, by simp [hD], hQ.snoc hrl, hnew.out, OwJ.push hown2, (Hbel.out.alloc Hbel.out.size _).grown hgrow2 (by simp; omega) (fun k hk => by have := Hown.out.own k hk; omega)⟩
     case measure => simp [intOf]; omega
   ·skip
    have hstH := Lib.hid (fun b' d => borrow_step D xs ys q b' d k hD Hval.out)
    have hy0 := getD_big ys k (by rw [Hm.out]; omega)
    rw [hy0] at hstH
    generalize xs.getD k 0 = x at *
    by_cases hneg : (x : Int) - (q : Int) < 0
    ·skip
     obtain ⟨r, hr⟩ : ∃ r : Nat, r + q = x + 65536 := ⟨x + 65536 - q, by omega⟩
     have e1 : (x : Int) - (q : Int) + 65536 = (r : Int) := by omega
     have hnew := Lib.hid (hstH.out 1 r (by omega))
     have hrl : r < C16 := by rw [C16_eq]; omega
     have hsg : (x : Int) - (q : Int) < 0 := by omega
     clear hr hstH
     go_wp2_with (at_builtin; refine wpList_append_own _ rfl (.tmp 35) (.tmp 37) 25 rfl w.heap.size 3 i0 (.int .i64 0) 1 8 Tryz.underlying25 hi hz0 hz1 hz2 rfl (by decide) _ D.length (D.map fun x : Nat => Value.int .i64 (x : Int)) rfl (World.ownsRow.alloc Hown.out _) ⟨wr.heap.size, 0, none⟩ 1 1 [.int .i64 ((r : Nat) : Int)] rfl rfl (cell_one_new _ _ _) (fun x hx => by simp at hx; subst hx; rfl) (by unfold maxLen; omega) (by omega) (by simp; omega) ?_; intro v2 w2 hown2 hgrow2 _)
     go_roundw
     case rel => exact ⟨D ++ [r], k + 1, 1, by go_num, rfl, by omega, by omega, by simp [hD], hQ.snoc hrl, hnew.out, OwJ.push hown2, (Hbel.out.alloc Hbel.out.size _).grown hgrow2 (by simp; omega) (fun k hk => by have := Hown.out.own k hk; omega)⟩
     case measure => simp [intOf]; omega
    ·skip
     obtain ⟨r, hr⟩ : ∃ r : Nat, r + q = x + 0 := ⟨x + 0 - q, by omega⟩
     have e1 : (x : Int) - (q : Int) = (r : Int) := by omega
     have hnew := Lib.hid (hstH.out 0 r (by omega))
     have hrl : r < C16 := by rw [C16_eq]; omega
     have hsg : (x : Int) - (q : Int) ≥ 0 := by omega
     clear hr hstH
     go_wp2_with (at_builtin; refine wpList_append_own _ rfl (.tmp 35) (.tmp 37) 25 rfl w.heap.size 3 i0 (.int .i64 0) 1 8 Tryz.underlying25 hi hz0 hz1 hz2 rfl (by decide) _ D.length (D.map fun x : Nat => Value.int .i64 (x : Int)) rfl (World.ownsRow.alloc Hown.out _) ⟨wr.heap.size, 0, none⟩ 1 1 [.int .i64 ((r : Nat) : Int)] rfl rfl (cell_one_new _ _ _) (fun x hx => by simp at hx; subst hx; rfl) (by unfold maxLen; omega) (by omega) (by simp; omega) ?_; intro v2 w2 hown2 hgrow2 _)
     go_roundw
     case rel => exact ⟨D ++ [r], k + 1, 0, by go_num, rfl, by omega, by omega, by simp [hD], hQ.snoc hrl, hnew.out, OwJ.push hown2, (Hbel.out.alloc Hbel.out.size _).grown hgrow2 (by simp; omega) (fun k hk => by have := Hown.out.own k hk; omega)⟩
     case measure => simp [intOf]; omega
  ·obtain rfl : k = n := by omega
   have hN := borrow_end D xs ys q k hQ hD Hn.out (by rw [Hm.out]; exact ny) Hval.out Hle.out
   have HN := Lib.hid hN
   obtain ⟨A', c', rfl, hc', hm', hrd, hAn⟩ := Hown.out.rd
   clear hN
   go_wp2_with fail
   with_reducible refine (reftrim_any A' k c' D wr hD hrd (by rw [← hD]; exact hc') hm').mono ?_
   rintro e w' ⟨rfl, rfl⟩
   go_wp2
   go_ret
   exact RetJ.trimmed hrd hQ HN.out hc' hm' Hbel.out hAn
end Go.Proofs.YtknaghdoffigjaaGreatDoor
namespace Go.Proofs.YtknaghdoffigjaaGreatDoor
open Go.RowKit
set_option maxRecDepth 100000 in
set_option maxHeartbeats 2000000 in
theorem refcompare_any (A B : Option Addr) (n m ca cb : Nat) (xs ys : List Nat) (w : World) (hx : RdJ w A xs) (hy : RdJ w B ys) (qx : Qds xs) (qy : Qds ys) (px : ptrim xs = xs) (py : ptrim ys = ys) (hn : xs.length = n) (hm : ys.length = m) (nx : n ≤ 1000) (ny : m ≤ 1000) :
  Calls Tryz.prog 128 #[.slice A n ca, .slice B m cb] w fun e w' => e = .returned (.int .i64 (sgn2 (qval xs) (qval ys))) ∧ Below w.heap.size w w' := by
 have Hx := Lib.hid hx
 have Hy := Lib.hid hy
 have Hn := Lib.hid hn
 have Hm := Lib.hid hm
 have Hpx := Lib.hid px
 have Hpy := Lib.hid py
 clear hx hy hn hm px py
 by_cases hlt : n < m
 ·have h1 := qval_shorter qx Hpy.out (by rw [Hn.out, Hm.out]; exact hlt)
  have hs : sgn2 (qval xs) (qval ys) = -1 := by unfold sgn2; rw [if_pos h1]
  rw [hs]
  clear h1 hs
  go_enter Tryz.func128, Tryz.ntmps128
  go_wp2
  go_ret
  exact ⟨rfl, Below.refl _ _⟩
 by_cases hgt : m < n
 ·have h1 := qval_shorter qy Hpx.out (by rw [Hn.out, Hm.out]; exact hgt)
  have hs : sgn2 (qval xs) (qval ys) = 1 := by unfold sgn2; rw [if_neg (by omega), if_neg (by omega)]
  rw [hs]
  clear h1 hs
  go_enter Tryz.func128, Tryz.ntmps128
  go_wp2
  go_ret
  exact ⟨rfl, Below.refl _ _⟩
 obtain rfl : n = m := by omega
 clear hlt hgt
 go_enter Tryz.func128, Tryz.ntmps128
 go_wp2_with fail
 go_loopw [5] (fun i wr => ∃ k : Nat, i = .int .i64 ((k : Int) - 1) ∧ k ≤ n ∧ xs.drop k = ys.drop k ∧ Below w.heap.size w wr)
  (fun i _ => (intOf i + 1).toNat)
 case atStart => exact ⟨n, by go_num, Nat.le_refl _, by rw [List.drop_of_length_le (by rw [Hn.out]; omega), List.drop_of_length_le (by rw [Hm.out]; omega)], Below.refl _ _⟩
 case round =>
  obtain ⟨k, rfl, hk, hd, hal⟩ := hrel
  have Hd := Lib.hid hd
  have Hal := Lib.hid hal
  clear hd hal
  cases k with
  | zero =>
   have h0 : xs = ys := by simpa using Hd.out
   have hs : sgn2 (qval xs) (qval ys) = 0 := by rw [h0]; unfold sgn2; rw [if_neg (by omega), if_pos rfl]
   have Hs := Lib.hid hs
   clear hs h0
   go_wp2
   go_ret
   exact ⟨by rw [Hs.out]; rfl, by first | exact Hal.out | exact below_many Hal.out _ | exact below_many (below_many Hal.out _) _⟩
  | succ k =>
   obtain ⟨a, rfl, hab, hca0⟩ := Hx.out k (by rw [Hn.out]; omega)
   obtain ⟨b, rfl, hbb, hcb0⟩ := Hy.out k (by rw [Hm.out]; omega)
   have hca : wr.cell? (a.add k) = _ := (Hal.out.cell (p := a.add k) (by rw [block_add]; exact hab)).trans hca0
   have hcb : wr.cell? (b.add k) = _ := (Hal.out.cell (p := b.add k) (by rw [block_add]; exact hbb)).trans hcb0
   have hij : ((k + 1 : Nat) : Int) - 1 = k := by omega
   rw [hij]
   have hless := Lib.hid (digit_less qx k (by rw [Hn.out]; omega) (by rw [Hm.out]; omega) Hd.out)
   have hmore := Lib.hid (digit_less qy k (by rw [Hm.out]; omega) (by rw [Hn.out]; omega) Hd.out.symm)
   have hsame := Lib.hid (drop_same k (by rw [Hn.out]; omega) (by rw [Hm.out]; omega) Hd.out)
   clear hca0 hcb0 hij
   generalize xs.getD k 0 = x at *
   generalize ys.getD k 0 = y at *
   by_cases hxy : x = y
   ·subst hxy
    go_wp2
    go_quiet (fail)
    go_wp2
    go_roundw
    case rel => exact ⟨k, by go_num, by omega, hsame.out trivial, below_many Hal.out _⟩
    case measure => simp [intOf]
   ·have hne : ((x : Int) == (y : Int)) = false := by rw [beq_eq_false_iff_ne]; omega
    by_cases hl : x < y
    ·have hs : sgn2 (qval xs) (qval ys) = -1 := by unfold sgn2; rw [if_pos (hless.out hl)]
     have Hs := Lib.hid hs
     clear hs
     go_wp2
     go_quiet (fail)
     go_wp2
     go_quiet (fail)
     go_wp2
     go_ret
     exact ⟨by rw [Hs.out]; rfl, by first | exact Hal.out | exact below_many Hal.out _ | exact below_many (below_many Hal.out _) _⟩
    ·have h1 := hmore.out (by omega)
     have hs : sgn2 (qval xs) (qval ys) = 1 := by unfold sgn2; rw [if_neg (by omega), if_neg (by omega)]
     have Hs := Lib.hid hs
     clear hs h1
     go_wp2
     go_quiet (fail)
     go_wp2
     go_quiet (fail)
     go_wp2
     go_ret
     exact ⟨by rw [Hs.out]; rfl, by first | exact Hal.out | exact below_many Hal.out _ | exact below_many (below_many Hal.out _) _⟩
end Go.Proofs.YtknaghdoffigjaaGreatDoor
namespace Go.Proofs.YtknaghdoffigjaaGreatDoor
open Go.RowKit
theorem make_intsR (n : Nat) (hn : n ≤ 17592186044416) (w : World) :
  (Instr.makeSlice 25 (.int .i64 (n : Int)) (.int .i64 (n : Int))).run Tryz.prog w = .ok (.slice (some ⟨w.heap.size, 0, none⟩) n n) (w.alloc (.cells (J (List.replicate n 0)) 3)) := by
 obtain ⟨i0, hi, hz0, hz1, hz2⟩ := info_parts info_int
 have hr := run_make (P := Tryz.prog) w 25 3 i0 (.int .i64 0) Tryz.underlying25 hi hz0 .i64 .i64 n n (by omega) (by omega) (by rw [hz2]; omega) (by omega)
 rw [hz1] at hr
 simp only [Int.toNat_natCast, Nat.mul_one] at hr
 rw [← madeJ]
 exact hr
set_option maxRecDepth 100000 in
set_option maxHeartbeats 4000000 in
theorem reftimes_any (A B : Option Addr) (n m ca cb : Nat) (xs ys : List Nat) (w : World) (hx : RdJ w A xs) (hy : RdJ w B ys) (qx : Qds xs) (qy : Qds ys) (hn : xs.length = n) (hm : ys.length = m) (nx : n ≤ 1000) (ny : m ≤ 1000) :
  Calls Tryz.prog 118 #[.slice A n ca, .slice B m cb] w fun e w' => RetJ w w' e (qds (qval xs * qval ys)) := by
 have hmk := make_intsR (n + m) (by omega)
 rw [show ((n + m : Nat) : Int) = (n : Int) + (m : Int) from by omega] at hmk
 have Hx := Lib.hid hx
 have Hy := Lib.hid hy
 have Hn := Lib.hid hn
 have Hm := Lib.hid hm
 clear hx hy hn hm
 go_enter Tryz.func118, Tryz.ntmps118
 go_wp2_with fail
 obtain ⟨g, hg⟩ : ∃ g, g = w.heap.size := ⟨_, rfl⟩
 have hL0 : Jst (w.alloc (.cells (J (List.replicate (n + m) 0)) 3)) g (List.replicate (n + m) 0) := by rw [hg]; exact Jst.new _ _
 have hB0 : Below g w (w.alloc (.cells (J (List.replicate (n + m) 0)) 3)) := (Below.refl _ _).alloc (by omega) _
 rw [← hg]
 have Hg := Lib.hid hg
 clear hg hmk
 go_loopw [6, 7, 8, 9] (fun i _ _ _ wr => ∃ (L : List Nat) (j : Nat), i = .int .i64 j ∧ j ≤ n ∧ L.length = n + m ∧ Qds L ∧ qval L = qval (xs.take j) * qval ys ∧ (∀ t, j + m ≤ t → L.getD t 0 = 0) ∧ Jst wr g L ∧ Below g w wr)
  (fun i _ _ _ _ => n - (intOf i).toNat)
 case atStart => exact ⟨_, 0, rfl, Nat.zero_le _, by simp, Qds.zeros _, by rw [qval_zeros]; simp [qval], fun t _ => getD_zeros _ _, hL0, hB0⟩
 case round =>
  obtain ⟨L0, j, rfl, hj, hl0, hQ0, hv0, hz0, hJ0, hbel0⟩ := hrel
  have Hv0 := Lib.hid hv0
  have Hz0 := Lib.hid hz0
  have HJ0 := Lib.hid hJ0
  have Hbel0 := Lib.hid hbel0
  clear hv0 hz0 hJ0 hbel0 hL0 hB0
  by_cases hjn : j < n
  ·obtain ⟨a, rfl, hab, hca0⟩ := Hx.out j (by rw [Hn.out]; exact hjn)
   have hxj := Lib.hid (show xs.getD j 0 = xs.getD j 0 from rfl)
   have hxk : xs.getD j 0 < 65536 := qx.getD j
   have Hca0 := Lib.hid hca0
   clear hca0
   go_wp2_with fail
   obtain ⟨wo, rfl⟩ : ∃ wo : World, wo = wr := ⟨_, rfl⟩
   go_loopw [7, 8, 9] (fun c k _ wr => ∃ (L : List Nat) (t q : Nat), k = .int .i64 t ∧ c = .int .i64 q ∧ t ≤ m ∧ q < 65536 ∧ L.length = n + m ∧ Qds L ∧ qval L + C16 ^ (j + t) * q = qval (xs.take j) * qval ys + C16 ^ j * (xs.getD j 0 * qval (ys.take t)) ∧ (∀ t, j + m ≤ t → L.getD t 0 = 0) ∧ Jst wr g L ∧ Below g w wr)
    (fun _ k _ _ => m - (intOf k).toNat)
   case atStart => exact ⟨L0, 0, 0, rfl, rfl, Nat.zero_le _, by omega, hl0, hQ0, by rw [Hv0.out]; simp [qval], Hz0.out, HJ0.out, Hbel0.out⟩
   case round =>
    obtain ⟨L, t, q, rfl, rfl, ht, hq, hl, hQ, hv, hz, hJ, hbel⟩ := hrel
    have Hv := Lib.hid hv
    have Hz := Lib.hid hz
    have HJ := Lib.hid hJ
    have Hbel := Lib.hid hbel
    clear hv hz hJ hbel
    by_cases htm : t < m
    ·obtain ⟨b, rfl, hbb, hcb0⟩ := Hy.out t (by rw [Hm.out]; exact htm)
     have hca := (Hbel.out.cell (p := a.add j) (by rw [block_add, Hg.out]; exact hab)).trans Hca0.out
     have hcb := (Hbel.out.cell (p := b.add t) (by rw [block_add, Hg.out]; exact hbb)).trans hcb0
     have hyk : ys.getD t 0 < 65536 := qy.getD t
     have hzk : L.getD (j + t) 0 < 65536 := hQ.getD (j + t)
     have hcell := HJ.out.cell (k := j + t) (by omega)
     have hfr := HJ.out.frozen (j + t)
     have hstep := Lib.hid (fun d r q' => mul_step L ys _ (xs.getD j 0) (ys.getD t 0) q d r q' j t (by omega) Hv.out rfl)
     clear hcb0
     generalize ys.getD t 0 = y at *
     generalize hzz : L.getD (j + t) 0 = z at *
     have Hzz := Lib.hid hzz
     clear hzz
     obtain ⟨x, hx⟩ : ∃ x, x = xs.getD j 0 := ⟨_, rfl⟩
     rw [← hx] at hca hxk hstep
     have Hxx := Lib.hid hx
     clear hx
     obtain ⟨p, hp⟩ : ∃ p : Nat, p = x * y := ⟨_, rfl⟩
     have hp1 : p ≤ 65535 * 65535 := by rw [hp]; exact Nat.mul_le_mul (by omega) (by omega)
     have hpi : (x : Int) * (y : Int) = (p : Int) := by rw [hp]; simp
     rw [← hp] at hstep
     clear hp
     obtain ⟨r, hr⟩ : ∃ r : Nat, r = (z + p + q) % 65536 := ⟨_, rfl⟩
     obtain ⟨q2, hq2⟩ : ∃ q2 : Nat, q2 = (z + p + q) / 65536 := ⟨_, rfl⟩
     have e1 : ((z : Int) + (p : Int) + (q : Int)) % 65536 = (r : Int) := by omega
     have e2 : ((z : Int) + (p : Int) + (q : Int)) / 65536 = (q2 : Int) := by omega
     have hnew := Lib.hid (hstep.out (z + p + q) r q2 rfl hr.symm hq2.symm)
     have hrl : r < C16 := by rw [C16_eq]; omega
     have hq2l : q2 < 65536 := by omega
     have hJ2 := Lib.hid (HJ.out.set (j + t) r)
     have hB2 := Lib.hid ((fun nq => (below_many Hbel.out nq).setCell (p := ⟨g, j + t, none⟩) (Nat.le_refl g) (.int .i64 (r : Int))))
     have hz2 := Lib.hid (show ∀ u, j + m ≤ u → (L.set (j + t) r).getD u 0 = 0 from fun u hu => by rw [getD_set_ne _ _ _ _ (by omega)]; exact Hz.out u hu)
     clear hr hq2 hstep
     go_wp2_with fail
     go_quiet (fail)
     go_wp2
     go_roundw
     case rel => exact ⟨L.set (j + t) r, t + 1, q2, by go_num, by rw [e2], by omega, hq2l, by simp [hl], hQ.set _ _ hrl, by rw [← Hxx.out]; exact hnew.out, hz2.out, hJ2.out, hB2.out _⟩
     case measure => simp [intOf]; omega
    ·obtain rfl : t = m := by omega
     have hcell := HJ.out.cell (k := j + t) (by omega)
     have hfr := HJ.out.frozen (j + t)
     have hrow := Lib.hid (mul_row L xs ys t q _ j Hm.out (by omega) (Hz.out _ (Nat.le_refl _)) rfl Hv.out)
     have hJ2 := Lib.hid (HJ.out.set (j + t) q)
     have hB2 := Lib.hid (Hbel.out.setCell (p := ⟨g, j + t, none⟩) (Nat.le_refl g) (.int .i64 (q : Int)))
     have hz2 := Lib.hid (show ∀ u, (j + 1) + t ≤ u → (L.set (j + t) q).getD u 0 = 0 from fun u hu => by rw [getD_set_ne _ _ _ _ (by omega)]; exact Hz.out u (by omega))
     generalize L.getD (j + t) 0 = z at *
     go_wp2
     go_roundw
     case rel => exact ⟨L.set (j + t) q, j + 1, by go_num, by omega, by simp [hl], hQ.set _ _ (by rw [C16_eq]; exact hq), hrow.out, hz2.out, hJ2.out, hB2.out⟩
     case measure => simp [intOf]; omega
  ·obtain rfl : j = n := by omega
   have hN : qval L0 = qval xs * qval ys := by rw [Hv0.out, List.take_of_length_le (by rw [Hn.out]; omega)]
   have HN := Lib.hid hN
   have hrd := HJ0.out.rd
   clear hN
   go_wp2_with fail
   with_reducible refine (reftrim_any _ _ _ L0 wr hl0 hrd (Nat.le_refl _) (by unfold maxLen; omega)).mono ?_
   rintro e w' ⟨rfl, rfl⟩
   go_wp2
   go_ret
   have hr := RetJ.trimmed (w := w) (c := j + m) hrd hQ0 HN.out (by omega) (by unfold maxLen; omega) (Hg.out ▸ Hbel0.out) (fun h => by cases h)
   exact hr
end Go.Proofs.YtknaghdoffigjaaGreatDoor
namespace Go.Proofs.YtknaghdoffigjaaGreatDoor
open Go.RowKit
def Rq (w : World) (A : Option Addr) (n c N : Nat) : Prop := RdJ w A (qds N) ∧ (qds N).length = n ∧ n ≤ c ∧ c ≤ maxLen ∧ (A = none → c = 0)
section
variable {w w' : World} {A : Option Addr} {n c N : Nat}
theorem Rq.z (h : Rq w A n c N) : Rz w A n c N := ⟨_, h.1, h.2.1, h.2.2.1, h.2.2.2.1, qds_qds _, qval_qds _⟩
theorem Rq.below (h : Rq w A n c N) (hb : Below w.heap.size w w') : Rq w' A n c N := ⟨h.1.below hb, h.2⟩
theorem Rq.drew (h : Rq w A n c N) : Rq w.drew A n c N := h
theorem qds_trim (N : Nat) : ptrim (qds N) = qds N := by rw [ptrim_qds (qds_qds N), qval_qds]
theorem qds_length {N k : Nat} (h : N < C16 ^ k) : (qds N).length ≤ k := by
 refine Nat.le_of_not_lt fun hl => ?_
 have h1 := qval_low (qds_trim N) (by intro e; rw [e] at hl; simp at hl)
 rw [qval_qds] at h1
 have h2 : C16 ^ k ≤ C16 ^ ((qds N).length - 1) := Nat.pow_le_pow_right C16_pos (by omega)
 omega
theorem Rq.len {k : Nat} (h : Rq w A n c N) (hN : N < C16 ^ k) : n ≤ k := by rw [← h.2.1]; exact qds_length hN
theorem RetJ.q {e : Ending} (h : RetJ w w' e (qds N)) : ∃ A n c, e = .returned (.slice A n c) ∧ Rq w' A n c N ∧ Below w.heap.size w w' := by
 obtain ⟨A, c, he, hc, hm, hr, hb, hA⟩ := h
 exact ⟨A, _, c, he, ⟨hr, rfl, hc, hm, hA⟩, hb⟩
theorem RetQ.z {e : Ending} {m : Nat} (h : RetQ w w' e N m) : ∃ A n c, e = .returned (.slice A n c) ∧ n ≤ m ∧ Rz w' A n c N ∧ Below w.heap.size w w' := by
 obtain ⟨D, A, c, he, hc, hm, hl, hq, hv, hr, hb⟩ := h
 exact ⟨A, _, c, he, hl, ⟨D, hr, rfl, hc, hm, hq, hv⟩, hb⟩
end
theorem bval_c16 (s : ByteArray) (k : Nat) (h : s.size ≤ k) : bval s.data.toList < C16 ^ k :=
 Nat.lt_of_lt_of_le (bval_pow s k h) (Nat.pow_le_pow_left (by rw [C16_eq]; omega) k)
theorem rdigits (x : Bool) (s : ByteArray) (w : World) (hs : s.size ≤ 1000) :
  Calls Tryz.prog 119 #[.agg #[.bool x, .string s]] w fun e w' => ∃ A n c, e = .returned (.slice A n c) ∧ n ≤ s.size ∧ Rq w' A n c (bval s.data.toList) ∧ Below w.heap.size w w' :=
 (refdigits_any x s w hs).mono fun _ _ h => by
  obtain ⟨A, n, c, he, hr, hb⟩ := h.q
  exact ⟨A, n, c, he, hr.len (bval_c16 s s.size (Nat.le_refl _)), hr, hb⟩
theorem rplus (A B : Option Addr) (n m ca cb N M : Nat) (w : World) (h1 : Rz w A n ca N) (h2 : Rz w B m cb M) (nx : n ≤ 1000) (ny : m ≤ 1000) :
  Calls Tryz.prog 122 #[.slice A n ca, .slice B m cb] w fun e w' => ∃ C k c, e = .returned (.slice C k c) ∧ k ≤ max n m + 1 ∧ Rz w' C k c (N + M) ∧ Below w.heap.size w w' := by
 obtain ⟨xs, a1, a2, _, _, a5, a6⟩ := h1
 obtain ⟨ys, b1, b2, _, _, b5, b6⟩ := h2
 refine (refplus_any A B n m ca cb xs ys w a1 b1 a5 b5 a2 b2 nx ny).mono fun _ _ h => ?_
 rw [a6, b6] at h
 exact h.z
theorem rminus (A B : Option Addr) (n m ca cb N M : Nat) (w : World) (h1 : Rq w A n ca N) (h2 : Rq w B m cb M) (nx : n ≤ 1000) (hle : M ≤ N) :
  Calls Tryz.prog 123 #[.slice A n ca, .slice B m cb] w fun e w' => ∃ C k c, e = .returned (.slice C k c) ∧ k ≤ n ∧ Rq w' C k c (N - M) ∧ Below w.heap.size w w' := by
 have hN := qval_lt (qds_qds N)
 rw [qval_qds, h1.2.1] at hN
 refine (refminus_any A B n m ca cb (qds N) (qds M) w h1.1 h2.1 (qds_qds _) (qds_qds _) h1.2.1 h2.2.1 nx (h2.len (Nat.lt_of_le_of_lt hle hN)) (by rw [qval_qds, qval_qds]; exact hle)).mono fun _ _ h => ?_
 rw [qval_qds, qval_qds] at h
 obtain ⟨C, k, c, he, hr, hb⟩ := h.q
 exact ⟨C, k, c, he, hr.len (by omega), hr, hb⟩
theorem rtimes (A B : Option Addr) (n m ca cb N M : Nat) (w : World) (h1 : Rz w A n ca N) (h2 : Rz w B m cb M) (nx : n ≤ 1000) (ny : m ≤ 1000) :
  Calls Tryz.prog 118 #[.slice A n ca, .slice B m cb] w fun e w' => ∃ C k c, e = .returned (.slice C k c) ∧ k ≤ n + m ∧ Rq w' C k c (N * M) ∧ Below w.heap.size w w' := by
 obtain ⟨xs, a1, a2, _, _, a5, a6⟩ := h1
 obtain ⟨ys, b1, b2, _, _, b5, b6⟩ := h2
 refine (reftimes_any A B n m ca cb xs ys w a1 b1 a5 b5 a2 b2 nx ny).mono fun _ _ h => ?_
 rw [a6, b6] at h
 obtain ⟨C, k, c, he, hr, hb⟩ := h.q
 refine ⟨C, k, c, he, hr.len ?_, hr, hb⟩
 have hN := qval_lt a5
 have hM := qval_lt b5
 rw [a6, a2] at hN
 rw [b6, b2] at hM
 rw [Nat.pow_add]
 exact Nat.mul_lt_mul'' hN hM
theorem rcompare (A B : Option Addr) (n m ca cb N M : Nat) (w : World) (h1 : Rq w A n ca N) (h2 : Rq w B m cb M) (nx : n ≤ 1000) (ny : m ≤ 1000) :
  Calls Tryz.prog 128 #[.slice A n ca, .slice B m cb] w fun e w' => e = .returned (.int .i64 (sgn2 N M)) ∧ Below w.heap.size w w' := by
 have h := refcompare_any A B n m ca cb (qds N) (qds M) w h1.1 h2.1 (qds_qds _) (qds_qds _) (qds_trim _) (qds_trim _) h1.2.1 h2.2.1 nx ny
 rw [qval_qds, qval_qds] at h
 exact h
theorem sgn2_ge {N M : Nat} (h : M ≤ N) : 0 ≤ sgn2 N M := by unfold sgn2; split; omega; split <;> omega
theorem sgn2_lt {N M : Nat} (h : N < M) : sgn2 N M = -1 := by unfold sgn2; rw [if_pos h]
theorem sgn2_bound (N M : Nat) : -1 ≤ sgn2 N M ∧ sgn2 N M ≤ 1 := by unfold sgn2; split; omega; split <;> omega
end Go.Proofs.YtknaghdoffigjaaGreatDoor
namespace Go.Proofs.YtknaghdoffigjaaGreatDoor
open Go.RowKit
theorem sgi_same (x : Bool) (N M : Nat) : sgi x (N + M) = sgi x N + sgi x M := by
 unfold sgi; cases x <;> simp <;> omega
theorem sgi_ge (x y : Bool) (N M : Nat) (hxy : x ≠ y) (h : M ≤ N) : sgi x (N - M) = sgi x N + sgi y M := by
 unfold sgi; cases x <;> cases y <;> simp_all <;> omega
theorem sgi_lt (x y : Bool) (N M : Nat) (hxy : x ≠ y) (h : N < M) : sgi y (M - N) = sgi x N + sgi y M := by
 unfold sgi; cases x <;> cases y <;> simp_all <;> omega
set_option maxRecDepth 100000 in
set_option maxHeartbeats 2000000 in
theorem RAdd_same (x : Bool) (s t : ByteArray) (w : World) (hs : s.size ≤ 400) (ht : t.size ≤ 400) (r : Int) (hr : wint x s + wint x t = r) :
  Calls Tryz.prog 90 #[.agg #[.bool x, .string s], .agg #[.bool x, .string t]] w fun e w' => e = .returned (.agg #[.bool (wneg r), .string (wmag r)]) ∧ Below w.heap.size w w' := by
 have hps := fun W => rdigits x s W (by omega)
 have hpt := fun W => rdigits x t W (by omega)
 rw [wint_sgi, wint_sgi, ← sgi_same] at hr
 generalize bval s.data.toList = N at *
 generalize bval t.data.toList = M at *
 have hwd := fun A n c W h hn => rwide x A n c (N + M) W h hn r hr
 generalize wneg r = sg at *
 generalize wmag r = S at *
 have HS := Lib.hid hps
 have HT := Lib.hid hpt
 have HG := Lib.hid hwd
 clear hps hpt hwd hr
 have HV := Lib.hid (Vars.start3 w x x false s t ⟨#[]⟩)
 have hxx : (x == x) = true := by simp
 go_enter Tryz.func90, Tryz.ntmps90
 go_wp2_with fail
 with_reducible refine (HS.out _).mono ?_
 rintro e w1 ⟨A1, n1, c1, rfl, hn1, hr1, hb1⟩
 have hV1 := HV.out.step hb1
 have hc0 := (hV1.at_ 1 rfl).cell0
 have hc1 := (hV1.at_ 1 rfl).cell1
 go_wp2_with fail
 with_reducible refine (HT.out _).mono ?_
 rintro e w2 ⟨A2, n2, c2, rfl, hn2, hr2, hb2⟩
 have hV2 := hV1.step hb2
 have hr1' := hr1.below hb2
 have hd0 := (hV2.at_ 0 rfl).cell0
 have hd1 := (hV2.at_ 1 rfl).cell0
 rw [Nat.add_zero] at hd0
 clear hc0 hc1 hr1 hV1 hb1 hb2
 go_wp2_with fail
 go_region_held3 (fun w' => w'.cell? ⟨w.heap.size, 0, none⟩ = some (.bool x)) (first | ((refine (cell_two _ _ _ _ _ _ ?_).trans ?_); omega; assumption) | go_keep)
  (first
   | (go_at_call 122; (with_reducible refine (rplus _ _ _ _ _ _ N M _ hr1'.drew.z hr2.drew.z (by omega) (by omega)).mono ?_); rotate_right; rintro e w3 ⟨A3, n3, c3, rfl, hn3, hr3, hb3⟩; have hV3 := hV2.drew.step hb3; have hd0' := (hV3.at_ 0 rfl).cell0; rw [Nat.add_zero] at hd0')
   | (go_at_call 103; (with_reducible refine (HG.out _ _ _ _ hr3 (by omega)).mono ?_); rintro e w4 ⟨rfl, hb4⟩; have hV4 := hV3.step hb4; have hd0'' := (hV4.at_ 0 rfl).cell0; rw [Nat.add_zero] at hd0''; have hz0 := (hV4.at_ 2 rfl).cell0; have hz1 := (hV4.at_ 2 rfl).cell1; have hzf0 := (hV4.at_ 2 rfl).frozen 0; have hzf1 := (hV4.at_ 2 rfl).frozen 1))
 go_wp2
 exact post_wide (b := w.heap.size + 2) rfl rfl (hV4.done 2 rfl).1 rfl ⟨rfl, (hV4.done 2 rfl).2⟩
-- GENERATED BELOW (gen/radd.py)
set_option maxRecDepth 100000 in
set_option maxHeartbeats 2000000 in
theorem RAdd_ge (x y : Bool) (s t : ByteArray) (w : World) (hxy : x ≠ y) (hs : s.size ≤ 400) (ht : t.size ≤ 400) (hle : bval t.data.toList ≤ bval s.data.toList) (r : Int) (hr : wint x s + wint y t = r) :
  Calls Tryz.prog 90 #[.agg #[.bool x, .string s], .agg #[.bool y, .string t]] w fun e w' => e = .returned (.agg #[.bool (wneg r), .string (wmag r)]) ∧ Below w.heap.size w w' := by
 have hps := fun W => rdigits x s W (by omega)
 have hpt := fun W => rdigits y t W (by omega)
 rw [wint_sgi, wint_sgi] at hr
 generalize bval s.data.toList = N at *
 generalize bval t.data.toList = M at *
 rw [← sgi_ge x y N M hxy hle] at hr
 have hwd := fun A n c W h hn => rwide x A n c (N - M) W h hn r hr
 generalize wneg r = sg at *
 generalize wmag r = S at *
 have HS := Lib.hid hps
 have HT := Lib.hid hpt
 have HG := Lib.hid hwd
 have hcmp := sgn2_ge hle
 have hcb := sgn2_bound N M
 have Hle := Lib.hid hle
 clear hps hpt hwd hr hle
 have HV := Lib.hid (Vars.start3 w x y false s t ⟨#[]⟩)
 have hxx : (x == y) = false := by simpa using hxy
 go_enter Tryz.func90, Tryz.ntmps90
 go_wp2_with fail
 with_reducible refine (HS.out _).mono ?_
 rintro e w1 ⟨A1, n1, c1, rfl, hn1, hr1, hb1⟩
 have hV1 := HV.out.step hb1
 have hc0 := (hV1.at_ 1 rfl).cell0
 have hc1 := (hV1.at_ 1 rfl).cell1
 go_wp2_with fail
 with_reducible refine (HT.out _).mono ?_
 rintro e w2 ⟨A2, n2, c2, rfl, hn2, hr2, hb2⟩
 have hV2 := hV1.step hb2
 have hr1' := hr1.below hb2
 have hd0 := (hV2.at_ 0 rfl).cell0
 have hd1 := (hV2.at_ 1 rfl).cell0
 rw [Nat.add_zero] at hd0
 clear hc0 hc1 hr1 hV1 hb1 hb2
 have hcp := Lib.hid (rcompare _ _ _ _ _ _ N M w2 hr1' hr2 (by omega) (by omega))
 generalize sgn2 N M = cm at *
 go_wp2_with fail
 with_reducible refine hcp.out.mono ?_
 rintro e w3 ⟨rfl, hb3⟩
 have hV3 := hV2.step hb3
 have hr1'' := hr1'.below hb3
 have hr2' := hr2.below hb3
 have he0 := (hV3.at_ 0 rfl).cell0
 have he1 := (hV3.at_ 1 rfl).cell0
 rw [Nat.add_zero] at he0
 clear hd0 hd1 hr1' hr2 hV2 hb3 hcp
 go_wp2_with fail
 go_region_held3 (fun w' => w'.cell? ⟨w.heap.size, 0, none⟩ = some (.bool x)) (first | ((refine (cell_two _ _ _ _ _ _ ?_).trans ?_); omega; assumption) | go_keep)
  (first
   | (go_at_call 123; (with_reducible refine (rminus _ _ _ _ _ _ N M _ hr1''.drew hr2'.drew (by omega) Hle.out).mono ?_); rotate_right; rintro e w4 ⟨A3, n3, c3, rfl, hn3, hr3, hb4⟩; have hV4 := hV3.drew.step hb4; have hd0' := (hV4.at_ 0 rfl).cell0; rw [Nat.add_zero] at hd0')
   | (go_at_call 103; (with_reducible refine (HG.out _ _ _ _ hr3.z (by omega)).mono ?_); rintro e w5 ⟨rfl, hb5⟩; have hV5 := hV4.step hb5; have hd0'' := (hV5.at_ 0 rfl).cell0; rw [Nat.add_zero] at hd0''; have hz0 := (hV5.at_ 2 rfl).cell0; have hz1 := (hV5.at_ 2 rfl).cell1; have hzf0 := (hV5.at_ 2 rfl).frozen 0; have hzf1 := (hV5.at_ 2 rfl).frozen 1))
 go_wp2
 exact post_wide (b := w.heap.size + 2) rfl rfl (hV5.done 2 rfl).1 rfl ⟨rfl, (hV5.done 2 rfl).2⟩
set_option maxRecDepth 100000 in
set_option maxHeartbeats 2000000 in
theorem RAdd_lt (x y : Bool) (s t : ByteArray) (w : World) (hxy : x ≠ y) (hs : s.size ≤ 400) (ht : t.size ≤ 400) (hle : bval s.data.toList < bval t.data.toList) (r : Int) (hr : wint x s + wint y t = r) :
  Calls Tryz.prog 90 #[.agg #[.bool x, .string s], .agg #[.bool y, .string t]] w fun e w' => e = .returned (.agg #[.bool (wneg r), .string (wmag r)]) ∧ Below w.heap.size w w' := by
 have hps := fun W => rdigits x s W (by omega)
 have hpt := fun W => rdigits y t W (by omega)
 rw [wint_sgi, wint_sgi] at hr
 generalize bval s.data.toList = N at *
 generalize bval t.data.toList = M at *
 rw [← sgi_lt x y N M hxy hle] at hr
 have hwd := fun A n c W h hn => rwide y A n c (M - N) W h hn r hr
 generalize wneg r = sg at *
 generalize wmag r = S at *
 have HS := Lib.hid hps
 have HT := Lib.hid hpt
 have HG := Lib.hid hwd
 have hcmp := sgn2_lt hle
 have hcb := sgn2_bound N M
 have Hle := Lib.hid hle
 clear hps hpt hwd hr hle
 have HV := Lib.hid (Vars.start3 w x y false s t ⟨#[]⟩)
 have hxx : (x == y) = false := by simpa using hxy
 go_enter Tryz.func90, Tryz.ntmps90
 go_wp2_with fail
 with_reducible refine (HS.out _).mono ?_
 rintro e w1 ⟨A1, n1, c1, rfl, hn1, hr1, hb1⟩
 have hV1 := HV.out.step hb1
 have hc0 := (hV1.at_ 1 rfl).cell0
 have hc1 := (hV1.at_ 1 rfl).cell1
 go_wp2_with fail
 with_reducible refine (HT.out _).mono ?_
 rintro e w2 ⟨A2, n2, c2, rfl, hn2, hr2, hb2⟩
 have hV2 := hV1.step hb2
 have hr1' := hr1.below hb2
 have hd0 := (hV2.at_ 0 rfl).cell0
 have hd1 := (hV2.at_ 1 rfl).cell0
 rw [Nat.add_zero] at hd0
 clear hc0 hc1 hr1 hV1 hb1 hb2
 have hcp := Lib.hid (rcompare _ _ _ _ _ _ N M w2 hr1' hr2 (by omega) (by omega))
 generalize sgn2 N M = cm at *
 go_wp2_with fail
 with_reducible refine hcp.out.mono ?_
 rintro e w3 ⟨rfl, hb3⟩
 have hV3 := hV2.step hb3
 have hr1'' := hr1'.below hb3
 have hr2' := hr2.below hb3
 have he0 := (hV3.at_ 0 rfl).cell0
 have he1 := (hV3.at_ 1 rfl).cell0
 rw [Nat.add_zero] at he0
 clear hd0 hd1 hr1' hr2 hV2 hb3 hcp
 go_wp2_with fail
 go_region_held3 (fun w' => w'.cell? ⟨w.heap.size + 1, 0, none⟩ = some (.bool y)) (first | ((refine (cell_two _ _ _ _ _ _ ?_).trans ?_); omega; assumption) | go_keep)
  (first
   | (go_at_call 123; (with_reducible refine (rminus _ _ _ _ _ _ M N _ hr2'.drew hr1''.drew (by omega) (Nat.le_of_lt Hle.out)).mono ?_); rotate_right; rintro e w4 ⟨A3, n3, c3, rfl, hn3, hr3, hb4⟩; have hV4 := hV3.drew.step hb4; have hd0' := (hV4.at_ 1 rfl).cell0)
   | (go_at_call 103; (with_reducible refine (HG.out _ _ _ _ hr3.z (by omega)).mono ?_); rintro e w5 ⟨rfl, hb5⟩; have hV5 := hV4.step hb5; have hd0'' := (hV5.at_ 1 rfl).cell0; have hz0 := (hV5.at_ 2 rfl).cell0; have hz1 := (hV5.at_ 2 rfl).cell1; have hzf0 := (hV5.at_ 2 rfl).frozen 0; have hzf1 := (hV5.at_ 2 rfl).frozen 1))
 go_wp2
 exact post_wide (b := w.heap.size + 2) rfl rfl (hV5.done 2 rfl).1 rfl ⟨rfl, (hV5.done 2 rfl).2⟩
theorem RAdd_any (x y : Bool) (s t : ByteArray) (w : World) (hs : s.size ≤ 400) (ht : t.size ≤ 400) (r : Int) (hr : wint x s + wint y t = r) :
  Calls Tryz.prog 90 #[.agg #[.bool x, .string s], .agg #[.bool y, .string t]] w fun e w' => e = .returned (.agg #[.bool (wneg r), .string (wmag r)]) ∧ Below w.heap.size w w' := by
 by_cases hxy : x = y
 ·subst hxy; exact RAdd_same x s t w hs ht r hr
 ·by_cases hle : bval t.data.toList ≤ bval s.data.toList
  ·exact RAdd_ge x y s t w hxy hs ht hle r hr
  ·exact RAdd_lt x y s t w hxy hs ht (by omega) r hr
theorem sgi_mul (x y : Bool) (N M : Nat) : sgi (x != y) (N * M) = sgi x N * sgi y M := by
 unfold sgi; cases x <;> cases y <;> simp [Int.mul_neg, Int.neg_mul]
set_option maxRecDepth 100000 in
set_option maxHeartbeats 4000000 in
theorem RMul_any (x y : Bool) (s t : ByteArray) (w : World) (hs : s.size ≤ 400) (ht : t.size ≤ 400) (r : Int) (hr : wint x s * wint y t = r) :
  Calls Tryz.prog 75 #[.agg #[.bool x, .string s], .agg #[.bool y, .string t]] w fun e w' => e = .returned (.agg #[.bool (wneg r), .string (wmag r)]) ∧ Below w.heap.size w w' := by
 have hps := fun W => rdigits x s W (by omega)
 have hpt := fun W => rdigits y t W (by omega)
 rw [wint_sgi, wint_sgi, ← sgi_mul] at hr
 generalize bval s.data.toList = N at *
 generalize bval t.data.toList = M at *
 have hwd := fun A n c W h hn => rwide (x != y) A n c (N * M) W h hn r hr
 simp only [bne] at hwd
 generalize wneg r = sg at *
 generalize wmag r = S at *
 have HS := Lib.hid hps
 have HT := Lib.hid hpt
 have HG := Lib.hid hwd
 clear hps hpt hwd hr
 have hV0 := Vars.start3 w x y false s t ⟨#[]⟩
 have hd0 := (hV0.at_ 0 rfl).cell0
 have hd1 := (hV0.at_ 0 rfl).cell1
 have hc0 := (hV0.at_ 1 rfl).cell0
 have hc1 := (hV0.at_ 1 rfl).cell1
 rw [Nat.add_zero] at hd0 hd1
 generalize hW0 : ((w.alloc (wbox x s)).alloc (wbox y t)).alloc (wbox false ⟨#[]⟩) = W0 at *
 have HV := Lib.hid hV0
 have HW0 := Lib.hid hW0
 clear hV0 hW0
 go_enter Tryz.func75, Tryz.ntmps75
 go_wp2_with fail
 rw [HW0.out]
 go_region_held3 (fun w' => w'.cell? ⟨w.heap.size, 0, none⟩ = some (.bool x) ∧ w'.cell? ⟨w.heap.size, 1, none⟩ = some (.string s) ∧ w'.cell? ⟨w.heap.size + 1, 0, none⟩ = some (.bool y) ∧ w'.cell? ⟨w.heap.size + 1, 1, none⟩ = some (.string t)) (first | (refine ⟨?_, ?_, ?_, ?_⟩ <;> ((refine (cell_two _ _ _ _ _ _ ?_).trans ?_); omega; assumption)) | go_keep)
  (first
   | (go_at_call 119; (with_reducible refine (HS.out _).mono ?_); rintro e w1 ⟨A1, n1, c1, rfl, hn1, hr1, hb1⟩; have hV1 := HV.out.drew.step hb1; have hd0' := (hV1.at_ 0 rfl).cell0; have hd1' := (hV1.at_ 0 rfl).cell1; have hc0' := (hV1.at_ 1 rfl).cell0; have hc1' := (hV1.at_ 1 rfl).cell1; rw [Nat.add_zero] at hd0' hd1')
   | (go_at_call 119; (with_reducible refine (HT.out _).mono ?_); rintro e w2 ⟨A2, n2, c2, rfl, hn2, hr2, hb2⟩; have hV2 := hV1.step hb2; have hr1' := hr1.below hb2; have hd0'' := (hV2.at_ 0 rfl).cell0; have hd1'' := (hV2.at_ 0 rfl).cell1; have hc0'' := (hV2.at_ 1 rfl).cell0; have hc1'' := (hV2.at_ 1 rfl).cell1; rw [Nat.add_zero] at hd0'' hd1'')
   | (go_at_call 118; (with_reducible refine (rtimes _ _ _ _ _ _ N M _ hr1'.z hr2.z (by omega) (by omega)).mono ?_); rotate_right; rintro e w4 ⟨A3, n3, c3, rfl, hn3, hr3, hb4⟩; have hV4 := hV2.step hb4; have hd0x := (hV4.at_ 0 rfl).cell0; have hd1x := (hV4.at_ 0 rfl).cell1; have hc0x := (hV4.at_ 1 rfl).cell0; have hc1x := (hV4.at_ 1 rfl).cell1; rw [Nat.add_zero] at hd0x hd1x)
   | (go_at_call 103; (with_reducible refine (HG.out _ _ _ _ hr3.z (by omega)).mono ?_); rintro e w5 ⟨rfl, hb5⟩; have hV5 := hV4.step hb5; have hd0y := (hV5.at_ 0 rfl).cell0; have hd1y := (hV5.at_ 0 rfl).cell1; have hc0y := (hV5.at_ 1 rfl).cell0; have hc1y := (hV5.at_ 1 rfl).cell1; rw [Nat.add_zero] at hd0y hd1y; have hz0 := (hV5.at_ 2 rfl).cell0; have hz1 := (hV5.at_ 2 rfl).cell1; have hzf0 := (hV5.at_ 2 rfl).frozen 0; have hzf1 := (hV5.at_ 2 rfl).frozen 1))
 go_wp2
 exact post_wide (b := w.heap.size + 2) rfl rfl (hV5.done 2 rfl).1 rfl ⟨rfl, (hV5.done 2 rfl).2⟩
end Go.Proofs.YtknaghdoffigjaaGreatDoor
