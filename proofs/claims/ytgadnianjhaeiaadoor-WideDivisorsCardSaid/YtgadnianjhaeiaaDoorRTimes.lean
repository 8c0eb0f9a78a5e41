/-
  The contract of the reference's times: the digits of a product.
-/
import Derived.Test.YtgadnianjhaeiaaDoorRMath
import Derived.Deep.QuietTactic
import Derived.BigQuiet
namespace Go.Proofs.YtgadnianjhaeiaaDoor
open Go.RowKit

/-- make([]int, n) -/
theorem make_ints (n : Nat) (hn : n ≤ 17592186044416) (w : World) :
    (Instr.makeSlice 61 (.int .i64 (n : Int)) (.int .i64 (n : Int))).run Tryd.prog w = .ok (.slice (some ⟨w.heap.size, 0, none⟩) n n) (w.alloc (.cells (J (List.replicate n 0)) 3)) := by
  obtain ⟨i0, hi, hz0, hz1, hz2⟩ := info_parts info_int
  have hr := run_make (P := Tryd.prog) w 61 3 i0 (.int .i64 0) Tryd.underlying61 hi hz0 .i64 .i64 n n (by omega) (by omega) (by rw [hz2]; omega) (by omega)
  rw [hz1] at hr
  simp only [Int.toNat_natCast, Nat.mul_one] at hr
  rw [← madeJ]
  exact hr

set_option maxRecDepth 100000 in
set_option maxHeartbeats 4000000 in
theorem reftimes_any (A B : Option Addr) (n m ca cb : Nat) (xs ys : List Nat) (w : World) (hx : RdJ w A xs) (hy : RdJ w B ys) (qx : Qds xs) (qy : Qds ys) (hn : xs.length = n) (hm : ys.length = m) (nx : n ≤ 1000) (ny : m ≤ 1000) :
    Calls Tryd.prog 55 #[.slice A n ca, .slice B m cb] w fun e w' => RetJ w w' e (qds (qval xs * qval ys)) := by
  have hmk := make_ints (n + m) (by omega)
  rw [show ((n + m : Nat) : Int) = (n : Int) + (m : Int) from by omega] at hmk
  have Hx := Lib.hid hx
  have Hy := Lib.hid hy
  have Hn := Lib.hid hn
  have Hm := Lib.hid hm
  clear hx hy hn hm
  go_enter Tryd.func55, Tryd.ntmps55
  go_wp2_with fail
  obtain ⟨g, hg⟩ : ∃ g, g = w.heap.size := ⟨_, rfl⟩
  have hL0 : Jst (w.alloc (.cells (J (List.replicate (n + m) 0)) 3)) g (List.replicate (n + m) 0) := by rw [hg]; exact Jst.new _ _
  have hB0 : Below g w (w.alloc (.cells (J (List.replicate (n + m) 0)) 3)) := (Below.refl _ _).alloc (by omega) _
  rw [← hg]
  have Hg := Lib.hid hg
  clear hg hmk
  go_loopw [6, 7, 8, 9] (fun i _ _ _ wr => ∃ (L : List Nat) (j : Nat), i = .int .i64 j ∧ j ≤ n ∧ L.length = n + m ∧ Qds L ∧ qval L = qval (xs.take j) * qval ys ∧ (∀ t, j + m ≤ t → L.getD t 0 = 0) ∧ Jst wr g L ∧ Below g w wr)
    (fun i _ _ _ _ => n - (intOf i).toNat)
  case atStart => exact ⟨_, 0, rfl, Nat.zero_le _, by simp, Qds.zeros _, by rw [qval_zeros]; simp [qval], fun t _ => getD_zeros _ _, hL0, hB0⟩
  case round =>
    obtain ⟨L0, j, rfl, hj, hl0, hQ0, hv0, hz0, hJ0, hbel0⟩ := hrel
    have Hv0 := Lib.hid hv0
    have Hz0 := Lib.hid hz0
    have HJ0 := Lib.hid hJ0
    have Hbel0 := Lib.hid hbel0
    clear hv0 hz0 hJ0 hbel0 hL0 hB0
    by_cases hjn : j < n
    · obtain ⟨a, rfl, hab, hca0⟩ := Hx.out j (by rw [Hn.out]; exact hjn)
      have hxj := Lib.hid (show xs.getD j 0 = xs.getD j 0 from rfl)
      have hxk : xs.getD j 0 < 65536 := qx.getD j
      have Hca0 := Lib.hid hca0
      clear hca0
      go_wp2_with fail
      obtain ⟨wo, rfl⟩ : ∃ wo : World, wo = wr := ⟨_, rfl⟩
      go_loopw [7, 8, 9] (fun c k _ wr => ∃ (L : List Nat) (t q : Nat), k = .int .i64 t ∧ c = .int .i64 q ∧ t ≤ m ∧ q < 65536 ∧ L.length = n + m ∧ Qds L ∧ qval L + C16 ^ (j + t) * q = qval (xs.take j) * qval ys + C16 ^ j * (xs.getD j 0 * qval (ys.take t)) ∧ (∀ t, j + m ≤ t → L.getD t 0 = 0) ∧ Jst wr g L ∧ Below g w wr)
        (fun _ k _ _ => m - (intOf k).toNat)
      case atStart => exact ⟨L0, 0, 0, rfl, rfl, Nat.zero_le _, by omega, hl0, hQ0, by rw [Hv0.out]; simp [qval], Hz0.out, HJ0.out, Hbel0.out⟩
      case round =>
        obtain ⟨L, t, q, rfl, rfl, ht, hq, hl, hQ, hv, hz, hJ, hbel⟩ := hrel
        have Hv := Lib.hid hv
        have Hz := Lib.hid hz
        have HJ := Lib.hid hJ
        have Hbel := Lib.hid hbel
        clear hv hz hJ hbel
        by_cases htm : t < m
        · obtain ⟨b, rfl, hbb, hcb0⟩ := Hy.out t (by rw [Hm.out]; exact htm)
          have hca := (Hbel.out.cell (p := a.add j) (by rw [block_add, Hg.out]; exact hab)).trans Hca0.out
          have hcb := (Hbel.out.cell (p := b.add t) (by rw [block_add, Hg.out]; exact hbb)).trans hcb0
          have hyk : ys.getD t 0 < 65536 := qy.getD t
          have hzk : L.getD (j + t) 0 < 65536 := hQ.getD (j + t)
          have hcell := HJ.out.cell (k := j + t) (by omega)
          have hfr := HJ.out.frozen (j + t)
          have hstep := Lib.hid (fun d r q' => mul_step L ys _ (xs.getD j 0) (ys.getD t 0) q d r q' j t (by omega) Hv.out rfl)
          clear hcb0
          generalize ys.getD t 0 = y at *
          generalize hzz : L.getD (j + t) 0 = z at *
          have Hzz := Lib.hid hzz
          clear hzz
          obtain ⟨x, hx⟩ : ∃ x, x = xs.getD j 0 := ⟨_, rfl⟩
          rw [← hx] at hca hxk hstep
          have Hxx := Lib.hid hx
          clear hx
          obtain ⟨p, hp⟩ : ∃ p : Nat, p = x * y := ⟨_, rfl⟩
          have hp1 : p ≤ 65535 * 65535 := by rw [hp]; exact Nat.mul_le_mul (by omega) (by omega)
          have hpi : (x : Int) * (y : Int) = (p : Int) := by rw [hp]; simp
          rw [← hp] at hstep
          clear hp
          obtain ⟨r, hr⟩ : ∃ r : Nat, r = (z + p + q) % 65536 := ⟨_, rfl⟩
          obtain ⟨q2, hq2⟩ : ∃ q2 : Nat, q2 = (z + p + q) / 65536 := ⟨_, rfl⟩
          have e1 : ((z : Int) + (p : Int) + (q : Int)) % 65536 = (r : Int) := by omega
          have e2 : ((z : Int) + (p : Int) + (q : Int)) / 65536 = (q2 : Int) := by omega
          have hnew := Lib.hid (hstep.out (z + p + q) r q2 rfl hr.symm hq2.symm)
          have hrl : r < C16 := by rw [C16_eq]; omega
          have hq2l : q2 < 65536 := by omega
          have hJ2 := Lib.hid (HJ.out.set (j + t) r)
          have hB2 := Lib.hid ((fun nq => (below_many Hbel.out nq).setCell (p := ⟨g, j + t, none⟩) (Nat.le_refl g) (.int .i64 (r : Int))))
          have hz2 := Lib.hid (show ∀ u, j + m ≤ u → (L.set (j + t) r).getD u 0 = 0 from fun u hu => by rw [getD_set_ne _ _ _ _ (by omega)]; exact Hz.out u hu)
          clear hr hq2 hstep
          go_wp2_with fail
          go_quiet (fail)
          go_wp2
          go_roundw
          case rel => exact ⟨L.set (j + t) r, t + 1, q2, by go_num, by rw [e2], by omega, hq2l, by simp [hl], hQ.set _ _ hrl, by rw [← Hxx.out]; exact hnew.out, hz2.out, hJ2.out, hB2.out _⟩
          case measure => simp [intOf]; omega
        · obtain rfl : t = m := by omega
          have hcell := HJ.out.cell (k := j + t) (by omega)
          have hfr := HJ.out.frozen (j + t)
          have hrow := Lib.hid (mul_row L xs ys t q _ j Hm.out (by omega) (Hz.out _ (Nat.le_refl _)) rfl Hv.out)
          have hJ2 := Lib.hid (HJ.out.set (j + t) q)
          have hB2 := Lib.hid (Hbel.out.setCell (p := ⟨g, j + t, none⟩) (Nat.le_refl g) (.int .i64 (q : Int)))
          have hz2 := Lib.hid (show ∀ u, (j + 1) + t ≤ u → (L.set (j + t) q).getD u 0 = 0 from fun u hu => by rw [getD_set_ne _ _ _ _ (by omega)]; exact Hz.out u (by omega))
          generalize L.getD (j + t) 0 = z at *
          go_wp2
          go_roundw
          case rel => exact ⟨L.set (j + t) q, j + 1, by go_num, by omega, by simp [hl], hQ.set _ _ (by rw [C16_eq]; exact hq), hrow.out, hz2.out, hJ2.out, hB2.out⟩
          case measure => simp [intOf]; omega
    · obtain rfl : j = n := by omega
      have hN : qval L0 = qval xs * qval ys := by rw [Hv0.out, List.take_of_length_le (by rw [Hn.out]; omega)]
      have HN := Lib.hid hN
      have hrd := HJ0.out.rd
      clear hN
      go_wp2_with fail
      with_reducible refine (reftrim_any _ _ _ L0 wr hl0 hrd (Nat.le_refl _) (by unfold maxLen; omega)).mono ?_
      rintro e w' ⟨rfl, rfl⟩
      go_wp2
      go_ret
      have hr := RetJ.trimmed (w := w) (c := j + m) hrd hQ0 HN.out (by omega) (by unfold maxLen; omega) (Hg.out ▸ Hbel0.out) (fun h => by cases h)
      exact hr
end Go.Proofs.YtgadnianjhaeiaaDoor
