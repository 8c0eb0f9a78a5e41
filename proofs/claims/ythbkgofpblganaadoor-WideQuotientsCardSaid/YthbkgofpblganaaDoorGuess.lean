/-
  The contract of wide.guess: the first two digits of the divisor go into the first three ones of the window.
-/
import Derived.Test.YthbkgofpblganaaDoorSubM
import Derived.Deep.RegionHeld3
namespace Go.Proofs.YthbkgofpblganaaDoor
open Go.RowKit

def gs3 (w2 w1 w0 d1 d0 : Nat) : Nat := if d1 ≤ w2 then 18446744073709551615 else ((w2 * B64 + w1) * B64 + w0) / (d1 * B64 + d0)

set_option maxRecDepth 100000 in
set_option maxHeartbeats 4000000 in
theorem guess_any (gW oW gD oD : Nat) (cW cD : Nat) (w2 w1 w0 d1 d0 : Nat) (w : World) (hW : gW < w.heap.size) (hD : gD < w.heap.size)
    (k0 : w.cell? ⟨gW, oW, none⟩ = some (.int .u64 (w0 : Int))) (k1 : w.cell? ⟨gW, oW + 1, none⟩ = some (.int .u64 (w1 : Int))) (k2 : w.cell? ⟨gW, oW + 2, none⟩ = some (.int .u64 (w2 : Int)))
    (j0 : w.cell? ⟨gD, oD, none⟩ = some (.int .u64 (d0 : Int))) (j1 : w.cell? ⟨gD, oD + 1, none⟩ = some (.int .u64 (d1 : Int)))
    (l0 : w0 < B64) (l1 : w1 < B64) (l2 : w2 < B64) (m0 : d0 < B64) (m1 : d1 < B64) (hd : 9223372036854775808 ≤ d1) :
    Calls Tryd.prog 99 #[.slice (some ⟨gW, oW, none⟩) 3 cW, .slice (some ⟨gD, oD, none⟩) 2 cD] w fun e w' => e = .returned (.int .u64 ((gs3 w2 w1 w0 d1 d0 : Nat) : Int)) ∧ Below w.heap.size w w' := by
  by_cases hge : d1 ≤ w2
  · have hg : gs3 w2 w1 w0 d1 d0 = 18446744073709551615 := by unfold gs3; rw [if_pos hge]
    rw [hg]
    clear hg
    have hgi : decide ((w2 : Int) ≥ (d1 : Int)) = true := by rw [decide_eq_true]; omega
    go_enter Tryd.func99, Tryd.ntmps99
    go_wp2_with fail
    go_quiet (fail)
    go_wp2
    go_ret
    exact ⟨rfl, below_many (Below.refl _ _) _⟩
  · have hg : gs3 w2 w1 w0 d1 d0 = ((w2 * B64 + w1) * B64 + w0) / (d1 * B64 + d0) := by unfold gs3; rw [if_neg hge]
    rw [hg]
    clear hg
    have hgi : decide ((w2 : Int) ≥ (d1 : Int)) = false := by rw [decide_eq_false]; omega
    obtain ⟨Q, hQ⟩ : ∃ Q, ((w2 * B64 + w1) * B64 + w0) / (d1 * B64 + d0) = Q := ⟨_, rfl⟩
    rw [hQ]
    have hdv := fun W => Div64_any w2 w1 d1 l1 m1 (by omega) W
    obtain ⟨q, hq⟩ : ∃ q, q = (w2 * B64 + w1) / d1 := ⟨_, rfl⟩
    obtain ⟨r, hr⟩ : ∃ r, r = (w2 * B64 + w1) % d1 := ⟨_, rfl⟩
    have hqr : w2 * B64 + w1 = q * d1 + r := by rw [hq, hr, Nat.mul_comm _ d1]; exact (Nat.div_add_mod _ d1).symm
    have hrl : r < d1 := by rw [hr]; exact Nat.mod_lt _ (by omega)
    have hqB : q < B64 := by
      rw [hq, Nat.div_lt_iff_lt_mul (by omega)]
      have h1 : (w2 + 1) * B64 ≤ d1 * B64 := Nat.mul_le_mul_right _ (by omega)
      rw [Nat.add_mul, Nat.one_mul] at h1
      rw [Nat.mul_comm B64]
      omega
    have hQq : Q ≤ q := guess_first (show 0 < d1 by omega) rfl l0 (by rw [B64_eq]; omega) hQ hq B64_pos
    rw [← hq, ← hr] at hdv
    have HDV := Lib.hid hdv
    have HQ := Lib.hid hQ
    have HQR := Lib.hid hqr
    have HqB := Lib.hid hqB
    have Hl0 := Lib.hid l0
    have Hm0 := Lib.hid m0
    clear hdv hQ hqr hq hr hqB
    rw [B64_eq] at l0 l1 l2 m0 m1
    go_enter Tryd.func99, Tryd.ntmps99
    go_wp2_with fail
    go_quiet (fail)
    go_wp2_with fail
    have hBq : Below w.heap.size w (w.drewN nq) := below_many (Below.refl _ _) _
    have k0' : (w.drewN nq).cell? ⟨gW, oW, none⟩ = _ := k0
    have k1' : (w.drewN nq).cell? ⟨gW, oW + 1, none⟩ = _ := k1
    have k2' : (w.drewN nq).cell? ⟨gW, oW + 2, none⟩ = _ := k2
    have j0' : (w.drewN nq).cell? ⟨gD, oD, none⟩ = _ := j0
    have j1' : (w.drewN nq).cell? ⟨gD, oD + 1, none⟩ = _ := j1
    generalize w.drewN nq = W1 at *
    go_region_held3 (fun w' => w'.cell? ⟨gW, oW, none⟩ = some (.int .u64 (w0 : Int)) ∧ w'.cell? ⟨gW, oW + 1, none⟩ = some (.int .u64 (w1 : Int)) ∧ w'.cell? ⟨gW, oW + 2, none⟩ = some (.int .u64 (w2 : Int)) ∧ w'.cell? ⟨gD, oD, none⟩ = some (.int .u64 (d0 : Int)) ∧ w'.cell? ⟨gD, oD + 1, none⟩ = some (.int .u64 (d1 : Int))) (go_keep)
      (first
        | (go_at_call 83; (with_reducible refine (HDV.out _).mono ?_); rintro e w3 ⟨rfl, hb3⟩; have hB3 : Below w.heap.size w w3 := (by first | exact hBq.trans (hb3.mono hBq.size) | exact hBq.drew.trans (hb3.mono hBq.size)); have k0'' := (hB3.cell (p := ⟨gW, oW, none⟩) hW).trans k0; have k1'' := (hB3.cell (p := ⟨gW, oW + 1, none⟩) hW).trans k1; have k2'' := (hB3.cell (p := ⟨gW, oW + 2, none⟩) hW).trans k2; have j0'' := (hB3.cell (p := ⟨gD, oD, none⟩) hD).trans j0; have j1'' := (hB3.cell (p := ⟨gD, oD + 1, none⟩) hD).trans j1; clear hb3))
    clear k0' k1' k2' j0' j1' k0'' k1'' k2'' j0'' j1''
    have HB3 := Lib.hid hB3
    clear hB3
    go_wp2_with fail
    go_loopw [5, 6, 7, 8, 9] (fun q r _ _ _ wr => ∃ q' r' : Nat, q = .int .u64 q' ∧ r = .int .u64 r' ∧ w2 * B64 + w1 = q' * d1 + r' ∧ r' < 18446744073709551616 ∧ Q ≤ q' ∧ q' < 18446744073709551616 ∧ Below w.heap.size w wr)
      (fun q _ _ _ _ _ => (intOf q).toNat)
    case atStart => exact ⟨q, r, rfl, rfl, HQR.out, by omega, hQq, by have := HqB.out; rw [B64_eq] at this; exact this, HB3.out⟩
    case round =>
      obtain ⟨q', r', rfl, rfl, hU, hr', hQ', hq', hbel⟩ := hrel
      have HU := Lib.hid hU
      have Hbel := Lib.hid hbel
      clear hU hbel HB3
      obtain ⟨p, hp⟩ : ∃ p, q' * d0 = p := ⟨_, rfl⟩
      have hm := bits_Mul64' q' d0 (by rw [B64_eq]; exact hq') Hm0.out wr
      rw [hp] at hm
      have HM := Lib.hid hm
      obtain ⟨h, hh⟩ : ∃ h, p / B64 = h := ⟨_, rfl⟩
      obtain ⟨l, hl⟩ : ∃ l, p % B64 = l := ⟨_, rfl⟩
      rw [hh, hl] at HM
      have hpl : p = h * B64 + l := by rw [← hh, ← hl, Nat.mul_comm]; exact (Nat.div_add_mod p B64).symm
      have hll : l < B64 := by rw [← hl]; exact Nat.mod_lt _ B64_pos
      have k0' := (Hbel.out.cell (p := ⟨gW, oW, none⟩) hW).trans k0
      have j0' := (Hbel.out.cell (p := ⟨gD, oD, none⟩) hD).trans j0
      have j1' := (Hbel.out.cell (p := ⟨gD, oD + 1, none⟩) hD).trans j1
      by_cases hC : p ≤ B64 * r' + w0
      · have hQe : q' = Q := by
          have h1 := guess_end (N := (w2 * B64 + w1) * B64 + w0) (y := d1 * B64 + d0) (b := B64) (q := q') (yn1 := d1) (yn0 := d0) (rhat := r') (un32 := w2 * B64 + w1) (un1 := w0) rfl rfl HU.out (by rw [hp]; exact hC) (by rw [B64_eq]; omega)
          rw [HQ.out] at h1
          omega
        have hcase : h < r' ∨ (h = r' ∧ l ≤ w0) := by
          rw [hpl] at hC
          rw [B64_eq] at hC hll
          omega
        clear hpl hp hC hm hh hl
        rw [B64_eq] at hll
        have hb1 : h < r' → decide ((h : Int) < (r' : Int)) = true := fun e => by rw [decide_eq_true]; omega
        rcases hcase with hc | ⟨rfl, hc⟩
        · subst hQe
          go_wp2_with fail
          with_reducible refine HM.out.mono ?_
          rintro e w' ⟨rfl, rfl⟩
          go_wp2
          go_ret
          exact ⟨rfl, Hbel.out⟩
        · subst hQe
          go_wp2_with fail
          with_reducible refine HM.out.mono ?_
          rintro e w' ⟨rfl, rfl⟩
          go_wp2
          go_ret
          exact ⟨rfl, Hbel.out⟩
      · have hdec : Q + 1 ≤ q' := by
          have h1 := guess_more (N := (w2 * B64 + w1) * B64 + w0) (y := d1 * B64 + d0) (b := B64) (q := q') (yn1 := d1) (yn0 := d0) (rhat := r') (un32 := w2 * B64 + w1) (un1 := w0) B64_pos rfl rfl HU.out (by rw [hp]; omega) (by rw [B64_eq]; omega)
          rw [HQ.out] at h1
          exact h1
        have hcase : r' < h ∨ (h = r' ∧ w0 < l) := by
          rw [hpl] at hC
          rw [B64_eq] at hC hll
          omega
        have hadd := fun W => bits_Add64_0 r' d1 W
        obtain ⟨r2, hr2⟩ : ∃ r2, (r' + d1) % B64 = r2 := ⟨_, rfl⟩
        obtain ⟨cy, hcy⟩ : ∃ cy, (r' + d1) / B64 = cy := ⟨_, rfl⟩
        rw [hr2, hcy] at hadd
        rw [B64_eq] at hr2 hcy
        have hp1 : 0 < q' := by omega
        have hU2 := HU.out
        have hmul : (q' - 1) * d1 + d1 = q' * d1 := by rw [Nat.sub_mul, Nat.one_mul]; have := Nat.le_mul_of_pos_left d1 hp1; omega
        clear hpl hp hC hm hh hl
        rw [B64_eq] at hll
        by_cases hcz : cy = 0
        · have hnew := Lib.hid (show w2 * B64 + w1 = (q' - 1) * d1 + r2 by omega)
          have hcb : ((cy : Int) != 0) = false := by simp [hcz]
          have hr2b : r2 < 18446744073709551616 := by omega
          clear hU2 hmul hr2 hcy
          rcases hcase with hc | ⟨rfl, hc⟩
          all_goals
            go_wp2_with fail
            with_reducible refine HM.out.mono ?_
            rintro e w' ⟨rfl, rfl⟩
            go_wp2
            go_roundw
            case rel => exact ⟨q' - 1, r2, by go_num, rfl, hnew.out, hr2b, by omega, by omega, Hbel.out⟩
            case measure => simp [intOf]; omega
        · have hQe : Q = q' - 1 := by
            have h1 := guess_end (N := (w2 * B64 + w1) * B64 + w0) (y := d1 * B64 + d0) (b := B64) (q := q' - 1) (yn1 := d1) (yn0 := d0) (rhat := r' + d1) (un32 := w2 * B64 + w1) (un1 := w0) rfl rfl (by omega) (by
              have h2 : (q' - 1) * d0 ≤ 18446744073709551615 * 18446744073709551615 := Nat.mul_le_mul (by omega) (by omega)
              have h3 : 1 ≤ (r' + d1) / 18446744073709551616 := by omega
              rw [B64_eq]
              omega) (by rw [B64_eq]; omega)
            rw [HQ.out] at h1
            omega
          have hcb : ((cy : Int) != 0) = true := by simp [hcz]
          have e1 : (q' : Int) - 1 = (Q : Int) := by omega
          clear hU2 hmul hr2 hcy hQe
          rcases hcase with hc | ⟨rfl, hc⟩
          all_goals
            go_wp2_with fail
            with_reducible refine HM.out.mono ?_
            rintro e w' ⟨rfl, rfl⟩
            go_wp2
            go_ret
            exact ⟨rfl, Hbel.out⟩
end Go.Proofs.YthbkgofpblganaaDoor
