import Derived.Test.YtknaghdoffigjaaGreatDoorDivP
import Derived.Deep.RegionHeld3
import Derived.RegionTactic
import Derived.BigRegion
set_option linter.unusedSimpArgs false
set_option linter.unusedVariables false
set_option linter.unnecessarySimpa false
namespace Go.Proofs.YtknaghdoffigjaaGreatDoor
open Go.RowKit
def smN (off : Nat) (ys : List Nat) (f : Nat) (ts : List Nat) : Nat → List Nat × Nat
 | 0 => (ts, 0)
 | k + 1 => ((smN off ys f ts k).1.set (off + k) (((smN off ys f ts k).1.getD (off + k) 0 + B64 - (ys.getD k 0 * f + (smN off ys f ts k).2) % B64) % B64),
   (ys.getD k 0 * f + (smN off ys f ts k).2) / B64 + if (smN off ys f ts k).1.getD (off + k) 0 < (ys.getD k 0 * f + (smN off ys f ts k).2) % B64 then 1 else 0)
theorem smN_length (off : Nat) (ys : List Nat) (f : Nat) (ts : List Nat) (k : Nat) : (smN off ys f ts k).1.length = ts.length := by
 induction k with
 | zero => rfl
 | succ k ih => simp [smN, ih]
theorem sm_facts (t y f c : Nat) (ht : t < B64) (hy : y < B64) (hf : f < B64) (hc : c < B64) :
  (y * f + c) / B64 + (if t < (y * f + c) % B64 then 1 else 0) < B64 ∧ (t + B64 - (y * f + c) % B64) % B64 + (y * f + c) = t + B64 * ((y * f + c) / B64 + if t < (y * f + c) % B64 then 1 else 0) := by
 have h := mulle y f hy hf
 generalize y * f = p at *
 rw [B64_eq] at *
 split <;> omega
theorem smN_ok (off : Nat) (ys : List Nat) (f : Nat) (ts : List Nat) (hy : Limbs ys) (hf : f < B64) (ht : Limbs ts) (k : Nat) : Limbs (smN off ys f ts k).1 ∧ (smN off ys f ts k).2 < B64 := by
 induction k with
 | zero => exact ⟨ht, B64_pos⟩
 | succ k ih =>
  refine ⟨ih.1.set _ _ (Nat.mod_lt _ B64_pos), ?_⟩
  exact (sm_facts _ _ _ _ (ih.1.getD (off + k)) (hy.getD k) hf ih.2).1
theorem smN_val (off : Nat) (ys : List Nat) (f : Nat) (ts : List Nat) (hy : Limbs ys) (hf : f < B64) (ht : Limbs ts) (k : Nat) (h : off + k ≤ ts.length) :
  pval (smN off ys f ts k).1 + B64 ^ off * (f * pval (ys.take k)) = pval ts + B64 ^ (off + k) * (smN off ys f ts k).2 := by
 induction k with
 | zero => simp [smN, pval]
 | succ k ih =>
  have ih := ih (by omega)
  have hok := smN_ok off ys f ts hy hf ht k
  have hs := pval_set (smN off ys f ts k).1 (off + k) (((smN off ys f ts k).1.getD (off + k) 0 + B64 - (ys.getD k 0 * f + (smN off ys f ts k).2) % B64) % B64) (by rw [smN_length]; omega)
  have hd := (sm_facts _ (ys.getD k 0) f _ (hok.1.getD (off + k)) (hy.getD k) hf hok.2).2
  have h2 := congrArg (fun n => B64 ^ (off + k) * n) hd
  rw [pval_take_succ]
  simp only [smN]
  generalize (smN off ys f ts k).1.getD (off + k) 0 = t at *
  generalize (smN off ys f ts k).2 = c at *
  generalize ys.getD k 0 = y at *
  generalize (t + B64 - (y * f + c) % B64) % B64 = z at *
  generalize (y * f + c) / B64 + (if t < (y * f + c) % B64 then 1 else 0) = c2 at *
  simp only [Nat.mul_add] at h2
  rw [show off + (k + 1) = (off + k) + 1 from by omega, Nat.pow_succ, Nat.mul_assoc]
  have e : B64 ^ off * (f * (pval (List.take k ys) + B64 ^ k * y)) = B64 ^ off * (f * pval (List.take k ys)) + B64 ^ (off + k) * (y * f) := by
   rw [Nat.mul_add, Nat.mul_add, Nat.pow_add, Nat.mul_left_comm f (B64 ^ k) y, Nat.mul_assoc, Nat.mul_comm f y]
  rw [e]
  omega
theorem smN_getD (off : Nat) (ys : List Nat) (f : Nat) (ts : List Nat) (k j : Nat) (h : j < off ∨ off + k ≤ j) : (smN off ys f ts k).1.getD j 0 = ts.getD j 0 := by
 induction k with
 | zero => rfl
 | succ k ih =>
  have ih := ih (by omega)
  simp only [smN]
  rw [List.getD_eq_getElem?_getD, List.getElem?_set_ne (by omega), ← List.getD_eq_getElem?_getD, ih]
theorem sm_step (y f c : Nat) (hy : y < B64) (hf : f < B64) (hc : c < B64) :
  (y * f % B64 + c) % B64 = (y * f + c) % B64 ∧ y * f / B64 + (y * f % B64 + c) / B64 = (y * f + c) / B64 ∧ (y * f + c) / B64 ≤ 18446744073709551615 := by
 have h := mulle y f hy hf
 generalize y * f = p at *
 rw [B64_eq] at *
 refine ⟨by omega, by omega, by omega⟩
theorem bits_Sub64_0 (x y : Nat) (w : World) :
  (callFunc 140 #[.int .u64 (x : Int), .int .u64 (y : Int), .int .u64 0]).run Tryz.prog w =
   .ok (.value (.tuple #[.int .u64 (((x + B64 - y) % B64 : Nat) : Int), .int .u64 ((if x < y then 1 else 0 : Nat) : Int)])) w := by
 have := bits_Sub64 x y 0 (Nat.zero_le _) w
 simpa using this
set_option maxHeartbeats 1000000 in
theorem subtractMultiple_any (T B : Option Addr) (n ct cb g off f : Nat) (ts ys : List Nat) (w0 w : World) (hn : ys.length = n) (hT : 0 < n → T = some ⟨g, off, none⟩) (hL : Lst w g ts) (ht : off + n ≤ ts.length)
  (hy : RdA w0 B ys) (hw : Below w0.heap.size w0 w) (hg : w0.heap.size ≤ g) (ly : Limbs ys) (lt : Limbs ts) (hf : f < B64) (nn : n ≤ 1099511627776) :
  Calls Tryz.prog 165 #[.slice T n ct, .slice B n cb, .int .u64 (f : Int)] w fun e w' =>
   e = .returned (.int .u64 ((smN off ys f ts n).2 : Nat)) ∧ Lst w' g (smN off ys f ts n).1 ∧ w.grownBy w' (some g) := by
 have Hn := Lib.hid hn
 clear hn
 go_enter Tryz.func165, Tryz.ntmps165
 go_wp2
 go_loopw [7, 14] (fun c i wr => ∃ k : Nat, k ≤ n ∧ i = .int .i64 k ∧ c = .int .u64 ((smN off ys f ts k).2 : Nat) ∧ Lst wr g (smN off ys f ts k).1 ∧ w.grownBy wr (some g))
  (fun _ i _ => n - (intOf i).toNat)
 case atStart => exact ⟨0, Nat.zero_le _, rfl, rfl, hL, ⟨rfl, rfl, rfl, Nat.le_refl _, fun _ _ _ => rfl⟩⟩
 case round =>
  obtain ⟨k, hk, rfl, rfl, hLk, hG⟩ := hrel
  have hok := smN_ok off ys f ts ly hf lt k
  have hlen := smN_length off ys f ts k
  by_cases hlt : k < n
  ·have hwr : Below w0.heap.size w0 wr := hw.grown hG (Nat.le_trans hw.size (Nat.le_refl _)) (by intro j hj; cases hj; exact hg)
   obtain ⟨b, rfl, hbb, hbc⟩ := (hy.below hwr) k (by rw [Hn.out]; exact hlt)
   obtain rfl := hT (by omega)
   have hcell := hLk.cell (k := off + k) (by omega)
   have hfr := hLk.frozen (off + k)
   have hL2 := hLk.set (off + k) (((smN off ys f ts k).1.getD (off + k) 0 + B64 - (ys.getD k 0 * f + (smN off ys f ts k).2) % B64) % B64)
   have hst := sm_step (ys.getD k 0) f (smN off ys f ts k).2 (ly.getD k) hf hok.2
   have hsf := (sm_facts _ (ys.getD k 0) f _ (hok.1.getD (off + k)) (ly.getD k) hf hok.2).1
   have hL3 : Lst (wr.setCell ⟨g, off + k, none⟩ (.int .u64 ((((smN off ys f ts k).1.getD (off + k) 0 + B64 - (ys.getD k 0 * f + (smN off ys f ts k).2) % B64) % B64 : Nat) : Int))) g (smN off ys f ts (k + 1)).1 := hL2
   have hc3 : (smN off ys f ts (k + 1)).2 = (ys.getD k 0 * f + (smN off ys f ts k).2) / B64 + if (smN off ys f ts k).1.getD (off + k) 0 < (ys.getD k 0 * f + (smN off ys f ts k).2) % B64 then 1 else 0 := rfl
   have hm := bits_Mul64' (ys.getD k 0) f (ly.getD k) hf wr
   clear hL2 hLk hlen
   generalize hq' : (smN off ys f ts (k + 1)).2 = q' at *
   have Hq' := Lib.hid hq'
   clear hq'
   generalize (smN off ys f ts k).1.getD (off + k) 0 = t at *
   generalize (smN off ys f ts k).2 = c at *
   generalize ys.getD k 0 = y at *
   have HM := Lib.hid hm
   clear hm
   obtain ⟨hs1, hs2, hs3⟩ := hst
   rw [← hs1, ← hs2] at hc3 hsf
   rw [← hs1] at hL3
   have ha1 := bits_Add64_0 (y * f % B64) c
   have hb1 := bits_Sub64_0 t ((y * f % B64 + c) % B64)
   clear hs1
   rw [← hs2] at hs3
   clear hs2
   generalize y * f % B64 = l at *
   generalize y * f / B64 = h at *
   generalize (l + c) / B64 = c1 at *
   generalize (l + c) % B64 = l2 at *
   generalize (if t < l2 then 1 else 0 : Nat) = c2 at *
   generalize (t + B64 - l2) % B64 = z at *
   rw [B64_eq] at hsf
   subst hc3
   have hG' : w.grownBy (wr.setCell ⟨g, off + k, none⟩ (.int .u64 ((z : Nat) : Int))) (some g) := grownBy_setRow hG rfl _
   go_wp2_with fail
   with_reducible refine HM.out.mono ?_
   rintro e w' ⟨rfl, rfl⟩
   go_wp2
   go_roundw
   case rel => exact ⟨k + 1, by omega, by go_num, by rw [Hq'.out]; go_num, hL3, hG'⟩
   case measure => simp [intOf]; omega
  ·obtain rfl : k = n := by omega
   go_wp2
   go_ret
   exact ⟨rfl, hLk, hG⟩
def gs3 (w2 w1 w0 d1 d0 : Nat) : Nat := if d1 ≤ w2 then 18446744073709551615 else ((w2 * B64 + w1) * B64 + w0) / (d1 * B64 + d0)
set_option maxRecDepth 100000 in
set_option maxHeartbeats 4000000 in
theorem guess_any (gW oW gD oD : Nat) (cW cD : Nat) (w2 w1 w0 d1 d0 : Nat) (w : World) (hW : gW < w.heap.size) (hD : gD < w.heap.size)
  (k0 : w.cell? ⟨gW, oW, none⟩ = some (.int .u64 (w0 : Int))) (k1 : w.cell? ⟨gW, oW + 1, none⟩ = some (.int .u64 (w1 : Int))) (k2 : w.cell? ⟨gW, oW + 2, none⟩ = some (.int .u64 (w2 : Int)))
  (j0 : w.cell? ⟨gD, oD, none⟩ = some (.int .u64 (d0 : Int))) (j1 : w.cell? ⟨gD, oD + 1, none⟩ = some (.int .u64 (d1 : Int)))
  (l0 : w0 < B64) (l1 : w1 < B64) (l2 : w2 < B64) (m0 : d0 < B64) (m1 : d1 < B64) (hd : 9223372036854775808 ≤ d1) :
  Calls Tryz.prog 164 #[.slice (some ⟨gW, oW, none⟩) 3 cW, .slice (some ⟨gD, oD, none⟩) 2 cD] w fun e w' => e = .returned (.int .u64 ((gs3 w2 w1 w0 d1 d0 : Nat) : Int)) ∧ Below w.heap.size w w' := by
 by_cases hge : d1 ≤ w2
 ·have hg : gs3 w2 w1 w0 d1 d0 = 18446744073709551615 := by unfold gs3; rw [if_pos hge]
  rw [hg]
  clear hg
  have hgi : decide ((w2 : Int) ≥ (d1 : Int)) = true := by rw [decide_eq_true]; omega
  go_enter Tryz.func164, Tryz.ntmps164
  go_wp2_with fail
  go_quiet (fail)
  go_wp2
  go_ret
  exact ⟨rfl, below_many (Below.refl _ _) _⟩
 ·have hg : gs3 w2 w1 w0 d1 d0 = ((w2 * B64 + w1) * B64 + w0) / (d1 * B64 + d0) := by unfold gs3; rw [if_neg hge]
  rw [hg]
  clear hg
  have hgi : decide ((w2 : Int) ≥ (d1 : Int)) = false := by rw [decide_eq_false]; omega
  obtain ⟨Q, hQ⟩ : ∃ Q, ((w2 * B64 + w1) * B64 + w0) / (d1 * B64 + d0) = Q := ⟨_, rfl⟩
  rw [hQ]
  have hdv := fun W => Div64_any w2 w1 d1 l1 m1 (by omega) W
  obtain ⟨q, hq⟩ : ∃ q, q = (w2 * B64 + w1) / d1 := ⟨_, rfl⟩
  obtain ⟨r, hr⟩ : ∃ r, r = (w2 * B64 + w1) % d1 := ⟨_, rfl⟩
  have hqr : w2 * B64 + w1 = q * d1 + r := by rw [hq, hr, Nat.mul_comm _ d1]; exact (Nat.div_add_mod _ d1).symm
  have hrl : r < d1 := by rw [hr]; exact Nat.mod_lt _ (by omega)
  have hqB : q < B64 := by
   rw [hq, Nat.div_lt_iff_lt_mul (by omega)]
   have h1 : (w2 + 1) * B64 ≤ d1 * B64 := Nat.mul_le_mul_right _ (by omega)
   rw [Nat.add_mul, Nat.one_mul] at h1
   rw [Nat.mul_comm B64]
   omega
  have hQq : Q ≤ q := guess_first (show 0 < d1 by omega) rfl l0 (by rw [B64_eq]; omega) hQ hq B64_pos
  rw [← hq, ← hr] at hdv
  have HDV := Lib.hid hdv
  have HQ := Lib.hid hQ
  have HQR := Lib.hid hqr
  have HqB := Lib.hid hqB
  have Hl0 := Lib.hid l0
  have Hm0 := Lib.hid m0
  clear hdv hQ hqr hq hr hqB
  rw [B64_eq] at l0 l1 l2 m0 m1
  go_enter Tryz.func164, Tryz.ntmps164
  go_wp2_with fail
  go_quiet (fail)
  go_wp2_with fail
  have hBq : Below w.heap.size w (w.drewN nq) := below_many (Below.refl _ _) _
  have k0' : (w.drewN nq).cell? ⟨gW, oW, none⟩ = _ := k0
  have k1' : (w.drewN nq).cell? ⟨gW, oW + 1, none⟩ = _ := k1
  have k2' : (w.drewN nq).cell? ⟨gW, oW + 2, none⟩ = _ := k2
  have j0' : (w.drewN nq).cell? ⟨gD, oD, none⟩ = _ := j0
  have j1' : (w.drewN nq).cell? ⟨gD, oD + 1, none⟩ = _ := j1
  generalize w.drewN nq = W1 at *
  go_region_held3 (fun w' => w'.cell? ⟨gW, oW, none⟩ = some (.int .u64 (w0 : Int)) ∧ w'.cell? ⟨gW, oW + 1, none⟩ = some (.int .u64 (w1 : Int)) ∧ w'.cell? ⟨gW, oW + 2, none⟩ = some (.int .u64 (w2 : Int)) ∧ w'.cell? ⟨gD, oD, none⟩ = some (.int .u64 (d0 : Int)) ∧ w'.cell? ⟨gD, oD + 1, none⟩ = some (.int .u64 (d1 : Int))) (go_keep)
   (first
    | (go_at_call 158; (with_reducible refine (HDV.out _).mono ?_); rintro e w3 ⟨rfl, hb3⟩; have hB3 : Below w.heap.size w w3 := (by first | exact hBq.trans (hb3.mono hBq.size) | exact hBq.drew.trans (hb3.mono hBq.size)); have k0'' := (hB3.cell (p := ⟨gW, oW, none⟩) hW).trans k0; have k1'' := (hB3.cell (p := ⟨gW, oW + 1, none⟩) hW).trans k1; have k2'' := (hB3.cell (p := ⟨gW, oW + 2, none⟩) hW).trans k2; have j0'' := (hB3.cell (p := ⟨gD, oD, none⟩) hD).trans j0; have j1'' := (hB3.cell (p := ⟨gD, oD + 1, none⟩) hD).trans j1; clear hb3))
  clear k0' k1' k2' j0' j1' k0'' k1'' k2'' j0'' j1''
  have HB3 := Lib.hid hB3
  clear hB3
  go_wp2_with fail
  go_loopw [5, 6, 7, 8, 9] (fun q r _ _ _ wr => ∃ q' r' : Nat, q = .int .u64 q' ∧ r = .int .u64 r' ∧ w2 * B64 + w1 = q' * d1 + r' ∧ r' < 18446744073709551616 ∧ Q ≤ q' ∧ q' < 18446744073709551616 ∧ Below w.heap.size w wr)
   (fun q _ _ _ _ _ => (intOf q).toNat)
  case atStart => exact ⟨q, r, rfl, rfl, HQR.out, by omega, hQq, by have := HqB.out; rw [B64_eq] at this; exact this, HB3.out⟩
  case round =>
   obtain ⟨q', r', rfl, rfl, hU, hr', hQ', hq', hbel⟩ := hrel
   have HU := Lib.hid hU
   have Hbel := Lib.hid hbel
   clear hU hbel HB3
   obtain ⟨p, hp⟩ : ∃ p, q' * d0 = p := ⟨_, rfl⟩
   have hm := bits_Mul64' q' d0 (by rw [B64_eq]; exact hq') Hm0.out wr
   rw [hp] at hm
   have HM := Lib.hid hm
   obtain ⟨h, hh⟩ : ∃ h, p / B64 = h := ⟨_, rfl⟩
   obtain ⟨l, hl⟩ : ∃ l, p % B64 = l := ⟨_, rfl⟩
   rw [hh, hl] at HM
   have hpl : p = h * B64 + l := by rw [← hh, ← hl, Nat.mul_comm]; exact (Nat.div_add_mod p B64).symm
   have hll : l < B64 := by rw [← hl]; exact Nat.mod_lt _ B64_pos
   have k0' := (Hbel.out.cell (p := ⟨gW, oW, none⟩) hW).trans k0
   have j0' := (Hbel.out.cell (p := ⟨gD, oD, none⟩) hD).trans j0
   have j1' := (Hbel.out.cell (p := ⟨gD, oD + 1, none⟩) hD).trans j1
   by_cases hC : p ≤ B64 * r' + w0
   ·have hQe : q' = Q := by
     have h1 := guess_end (N := (w2 * B64 + w1) * B64 + w0) (y := d1 * B64 + d0) (b := B64) (q := q') (yn1 := d1) (yn0 := d0) (rhat := r') (un32 := w2 * B64 + w1) (un1 := w0) rfl rfl HU.out (by rw [hp]; exact hC) (by rw [B64_eq]; omega)
     rw [HQ.out] at h1
     omega
    have hcase : h < r' ∨ (h = r' ∧ l ≤ w0) := by
     rw [hpl] at hC
     rw [B64_eq] at hC hll
     omega
    clear hpl hp hC hm hh hl
    rw [B64_eq] at hll
    have hb1 : h < r' → decide ((h : Int) < (r' : Int)) = true := fun e => by rw [decide_eq_true]; omega
    rcases hcase with hc | ⟨rfl, hc⟩
    ·subst hQe
     go_wp2_with fail
     with_reducible refine HM.out.mono ?_
     rintro e w' ⟨rfl, rfl⟩
     go_wp2
     go_ret
     exact ⟨rfl, Hbel.out⟩
    ·subst hQe
     go_wp2_with fail
     with_reducible refine HM.out.mono ?_
     rintro e w' ⟨rfl, rfl⟩
     go_wp2
     go_ret
     exact ⟨rfl, Hbel.out⟩
   ·have hdec : Q + 1 ≤ q' := by
     have h1 := guess_more (N := (w2 * B64 + w1) * B64 + w0) (y := d1 * B64 + d0) (b := B64) (q := q') (yn1 := d1) (yn0 := d0) (rhat := r') (un32 := w2 * B64 + w1) (un1 := w0) B64_pos rfl rfl HU.out (by rw [hp]; omega) (by rw [B64_eq]; omega)
     rw [HQ.out] at h1
     exact h1
    have hcase : r' < h ∨ (h = r' ∧ w0 < l) := by
     rw [hpl] at hC
     rw [B64_eq] at hC hll
     omega
    have hadd := fun W => bits_Add64_0 r' d1 W
    obtain ⟨r2, hr2⟩ : ∃ r2, (r' + d1) % B64 = r2 := ⟨_, rfl⟩
    obtain ⟨cy, hcy⟩ : ∃ cy, (r' + d1) / B64 = cy := ⟨_, rfl⟩
    rw [hr2, hcy] at hadd
    rw [B64_eq] at hr2 hcy
    have hp1 : 0 < q' := by omega
    have hU2 := HU.out
    have hmul : (q' - 1) * d1 + d1 = q' * d1 := by rw [Nat.sub_mul, Nat.one_mul]; have := Nat.le_mul_of_pos_left d1 hp1; omega
    clear hpl hp hC hm hh hl
    rw [B64_eq] at hll
    by_cases hcz : cy = 0
    ·have hnew := Lib.hid (show w2 * B64 + w1 = (q' - 1) * d1 + r2 by omega)
     have hcb : ((cy : Int) != 0) = false := by simp [hcz]
     have hr2b : r2 < 18446744073709551616 := by omega
     clear hU2 hmul hr2 hcy
     rcases hcase with hc | ⟨rfl, hc⟩
     all_goals
      go_wp2_with fail
      with_reducible refine HM.out.mono ?_
      rintro e w' ⟨rfl, rfl⟩
      go_wp2
      go_roundw
      case rel => exact ⟨q' - 1, r2, by go_num, rfl, hnew.out, hr2b, by omega, by omega, Hbel.out⟩
      case measure => simp [intOf]; omega
    ·have hQe : Q = q' - 1 := by
      have h1 := guess_end (N := (w2 * B64 + w1) * B64 + w0) (y := d1 * B64 + d0) (b := B64) (q := q' - 1) (yn1 := d1) (yn0 := d0) (rhat := r' + d1) (un32 := w2 * B64 + w1) (un1 := w0) rfl rfl (by omega) (by
       have h2 : (q' - 1) * d0 ≤ 18446744073709551615 * 18446744073709551615 := Nat.mul_le_mul (by omega) (by omega)
       have h3 : 1 ≤ (r' + d1) / 18446744073709551616 := by omega
       rw [B64_eq]
       omega) (by rw [B64_eq]; omega)
      rw [HQ.out] at h1
      omega
     have hcb : ((cy : Int) != 0) = true := by simp [hcz]
     have e1 : (q' : Int) - 1 = (Q : Int) := by omega
     clear hU2 hmul hr2 hcy hQe
     rcases hcase with hc | ⟨rfl, hc⟩
     all_goals
      go_wp2_with fail
      with_reducible refine HM.out.mono ?_
      rintro e w' ⟨rfl, rfl⟩
      go_wp2
      go_ret
      exact ⟨rfl, Hbel.out⟩
theorem shl_split (x s cy : Nat) (hs : s < 64) (hx : x < B64) (hc : cy < 2 ^ s) :
  cy + x * 2 ^ s % B64 < B64 ∧ cy + x * 2 ^ s % B64 + B64 * (x / 2 ^ (64 - s)) = cy + x * 2 ^ s ∧ x / 2 ^ (64 - s) < 2 ^ s := by
 have e1 : (2 : Nat) ^ (64 - s) * 2 ^ s = B64 := by rw [← Nat.pow_add, show 64 - s + s = 64 from by omega]; rfl
 have hp : 0 < 2 ^ s := Nat.pow_pos (by omega)
 have e2 : x / 2 ^ (64 - s) = x * 2 ^ s / B64 := by rw [← e1, Nat.mul_div_mul_right _ _ hp]
 have e3 := Nat.div_add_mod (x * 2 ^ s) B64
 have h1 : x * 2 ^ s % B64 = x % 2 ^ (64 - s) * 2 ^ s := by rw [← e1, Nat.mul_mod_mul_right]
 have h2 : x % 2 ^ (64 - s) + 1 ≤ 2 ^ (64 - s) := Nat.mod_lt _ (Nat.pow_pos (by omega))
 have h3 : (x % 2 ^ (64 - s) + 1) * 2 ^ s ≤ B64 := by rw [← e1]; exact Nat.mul_le_mul_right _ h2
 rw [Nat.add_mul, Nat.one_mul, ← h1] at h3
 refine ⟨by omega, by rw [e2]; omega, ?_⟩
 rw [Nat.div_lt_iff_lt_mul (Nat.pow_pos (by omega)), Nat.mul_comm, e1]
 exact hx
theorem or_shl (cy x s z : Nat) (hs : s < 64) (hc : cy < 2 ^ s) (hz : cy + x * 2 ^ s % B64 = z) : bits .or .u64 (cy : Int) (IntKind.u64.wrap ((x : Int) * 2 ^ s)) = (z : Int) := by
 have e0 : B64 = 18446744073709551616 := rfl
 rw [shl_mod x s _ rfl]
 have hp : (2 : Nat) ^ s ≤ 2 ^ 63 := Nat.pow_le_pow_right (by omega) (by omega)
 have e1 : (2 : Nat) ^ (64 - s) * 2 ^ s = 18446744073709551616 := by rw [← Nat.pow_add, show 64 - s + s = 64 from by omega]
 have h1 : x * 2 ^ s % 18446744073709551616 = x % 2 ^ (64 - s) * 2 ^ s := by rw [← e1, Nat.mul_mod_mul_right]
 rw [bits_or_u64_nat _ _ (by omega) (Nat.mod_lt _ (by omega)), h1, Nat.or_comm, Nat.mul_comm, ← Nat.two_pow_add_eq_or_of_lt hc, ← hz, e0, h1, Nat.mul_comm, Nat.add_comm]
theorem set_head (D : List Nat) (a b : Nat) (R : List Nat) : (D ++ a :: R).set D.length b = D ++ b :: R := by
 rw [List.set_append_right _ _ (Nat.le_refl _), Nat.sub_self, List.set_cons_zero]
set_option maxRecDepth 100000 in
set_option maxHeartbeats 4000000 in
theorem shiftLeft_any (A : Option Addr) (n c s : Nat) (xs : List Nat) (w : World) (hn : xs.length = n) (hx : RdA w A xs) (lx : Limbs xs) (hs : s < 64) (nn : n ≤ 1099511627776) :
  Calls Tryz.prog 159 #[.slice A n c, .int .i64 (s : Int)] w fun e w' => ∃ g ds, e = .returned (.slice (some ⟨g, 0, none⟩) (n + 1) (n + 1)) ∧ ds.length = n + 1 ∧ Limbs ds ∧ pval ds = pval xs * 2 ^ s ∧ w.heap.size ≤ g ∧ Lst w' g ds ∧ Below w.heap.size w w' := by
 have hmk := make_parts (n + 1) (by omega)
 rw [show ((n + 1 : Nat) : Int) = (n : Int) + 1 from by omega] at hmk
 have Hn := Lib.hid hn
 have Hx := Lib.hid hx
 clear hn hx
 go_enter Tryz.func159, Tryz.ntmps159
 go_wp2_with fail
 obtain ⟨g, hg⟩ : ∃ g, g = w.heap.size := ⟨_, rfl⟩
 have hL0 : Lst (w.alloc (.cells (U (List.replicate (n + 1) 0)) 80)) g (List.replicate (n + 1) 0) := by rw [hg]; exact Lst.new _ _
 have hB0 : Below g w (w.alloc (.cells (U (List.replicate (n + 1) 0)) 80)) := (Below.refl _ _).alloc (by omega) _
 rw [← hg]
 have Hg := Lib.hid hg
 clear hg hmk
 go_loopw [13] (fun i wr => ∃ (k cy : Nat) (D : List Nat), i = .int .i64 k ∧ k ≤ n ∧ D.length = k ∧ Limbs D ∧ cy < 2 ^ s ∧ pval D + B64 ^ k * cy = pval (xs.take k) * 2 ^ s ∧ Lst wr g (D ++ cy :: List.replicate (n - k) 0) ∧ Below g w wr)
  (fun i _ => n - (intOf i).toNat)
 case atStart => exact ⟨0, 0, [], rfl, Nat.zero_le _, rfl, Limbs.nil, Nat.pow_pos (by omega), by simp [pval], by rw [Nat.sub_zero, List.nil_append, ← List.replicate_succ]; exact hL0, hB0⟩
 case round =>
  obtain ⟨k, cy, D, rfl, hk, hD, hDl, hcy, hv, hL, hB⟩ := hrel
  have Hv := Lib.hid hv
  have HL := Lib.hid hL
  have HB := Lib.hid hB
  clear hv hL hB hL0 hB0
  by_cases hlt : k < n
  ·obtain ⟨a, rfl, hab, hca0⟩ := Hx.out k (by rw [Hn.out]; exact hlt)
   have hca := (HB.out.cell (p := a.add k) (by rw [block_add, Hg.out]; exact hab)).trans hca0
   have hxk : xs.getD k 0 < B64 := lx.getD k
   have hpt := pval_take_succ xs k
   have hcell := HL.out.cell (k := k) (by simp [hD])
   have hg1 : (D ++ cy :: List.replicate (n - k) 0).getD k 0 = cy := by rw [← hD, List.getD_eq_getElem?_getD, List.getElem?_append_right (Nat.le_refl _), Nat.sub_self]; rfl
   rw [hg1] at hcell
   have hfr := HL.out.frozen k
   generalize xs.getD k 0 = x at *
   obtain ⟨z, hz⟩ : ∃ z, cy + x * 2 ^ s % B64 = z := ⟨_, rfl⟩
   obtain ⟨c2, hc2⟩ : ∃ c2, x / 2 ^ (64 - s) = c2 := ⟨_, rfl⟩
   have hsp := shl_split x s cy hs hxk hcy
   rw [hz, hc2] at hsp
   have f1 := or_shl cy x s z hs hcy hz
   have f2 := shr_div x (64 - s) c2 hc2
   have hca2 := ((HB.out.setCell (p := ⟨g, k, none⟩) (Nat.le_refl g) (.int .u64 (z : Int))).cell (p := a.add k) (by rw [block_add, Hg.out]; exact hab)).trans hca0
   clear hca0 hg1 hz hc2
   have hL2 := HL.out.set k z
   rw [show (D ++ cy :: List.replicate (n - k) 0).set k z = D ++ z :: List.replicate (n - k) 0 from by rw [← hD]; exact set_head D cy z _, show n - k = (n - (k + 1)) + 1 from by omega, List.replicate_succ] at hL2
   have hcell2 := hL2.cell (k := k + 1) (by simp [hD])
   have hg2 : (D ++ z :: 0 :: List.replicate (n - (k + 1)) 0).getD (k + 1) 0 = 0 := by rw [← hD, List.getD_eq_getElem?_getD, List.getElem?_append_right (by omega), Nat.add_sub_cancel_left]; rfl
   rw [hg2] at hcell2
   have hfr2 := hL2.frozen (k + 1)
   have hL3 := hL2.set (k + 1) c2
   rw [show (D ++ z :: 0 :: List.replicate (n - (k + 1)) 0).set (k + 1) c2 = (D ++ [z]) ++ c2 :: List.replicate (n - (k + 1)) 0 from by
    rw [show D ++ z :: 0 :: List.replicate (n - (k + 1)) 0 = (D ++ [z]) ++ 0 :: List.replicate (n - (k + 1)) 0 from by simp, show k + 1 = (D ++ [z]).length from by simp [hD]]
    exact set_head (D ++ [z]) 0 c2 _] at hL3
   have HL3 := Lib.hid hL3
   have hB3 : Below g w ((wr.setCell ⟨g, k, none⟩ (.int .u64 (z : Int))).setCell ⟨g, k + 1, none⟩ (.int .u64 (c2 : Int))) := (HB.out.setCell (p := ⟨g, k, none⟩) (Nat.le_refl g) _).setCell (p := ⟨g, k + 1, none⟩) (Nat.le_refl g) _
   have HB3 := Lib.hid hB3
   have hnew := Lib.hid (show pval (D ++ [z]) + B64 ^ (k + 1) * c2 = pval (xs.take (k + 1)) * 2 ^ s by
    rw [pval_snoc, hD, hpt, Nat.add_mul, ← Hv.out, Nat.pow_succ, Nat.mul_assoc]
    have h1 := congrArg (fun y => B64 ^ k * y) hsp.2.1
    simp only [Nat.mul_add] at h1
    rw [Nat.mul_assoc]
    omega)
   have hz1 := hsp.1
   have hc3 := hsp.2.2
   clear hL2 hL3 hg2 hB3 hsp hpt
   go_wp2_with fail
   go_region
   go_wp2
   go_roundw
   case rel => exact ⟨k + 1, c2, D ++ [z], by go_num, by omega, by simp [hD], hDl.snoc hz1, hc3, hnew.out, HL3.out, HB3.out.drew⟩
   case measure => simp [intOf]; omega
  ·obtain rfl : k = n := by omega
   have hvl : pval (D ++ [cy]) = pval xs * 2 ^ s := by
    rw [pval_snoc, hD, Hv.out, List.take_of_length_le (by rw [Hn.out]; exact Nat.le_refl _)]
   have HVL := Lib.hid hvl
   have hcB : cy < B64 := Nat.lt_of_lt_of_le hcy (by rw [B64_eq]; exact Nat.pow_le_pow_right (n := 2) (by omega) (show s ≤ 64 by omega))
   rw [Nat.sub_self, List.replicate_zero] at HL
   clear hvl
   go_wp2
   go_ret
   exact ⟨g, D ++ [cy], rfl, by simp [hD], hDl.snoc hcB, HVL.out, by rw [Hg.out]; exact Nat.le_refl _, HL.out, by rw [← Hg.out]; exact HB.out⟩
theorem shr_split (x y P s : Nat) (hs : s < 64) (hx : x < B64) (hy : P % 2 ^ s = y % 2 ^ s) :
  x / 2 ^ s + 2 ^ (64 - s) * (y % 2 ^ s) < B64 ∧ (x + B64 * P) / 2 ^ s = x / 2 ^ s + 2 ^ (64 - s) * (y % 2 ^ s) + B64 * (P / 2 ^ s) := by
 have e1 : (2 : Nat) ^ (64 - s) * 2 ^ s = B64 := by rw [← Nat.pow_add, show 64 - s + s = 64 from by omega]; rfl
 have hp : 0 < 2 ^ s := Nat.pow_pos (by omega)
 have h1 : x / 2 ^ s < 2 ^ (64 - s) := by rw [Nat.div_lt_iff_lt_mul hp, e1]; exact hx
 have h2 : y % 2 ^ s + 1 ≤ 2 ^ s := Nat.mod_lt _ hp
 have h3 : 2 ^ (64 - s) * (y % 2 ^ s + 1) ≤ B64 := by rw [← e1]; exact Nat.mul_le_mul_left _ h2
 rw [Nat.mul_add, Nat.mul_one] at h3
 refine ⟨by omega, ?_⟩
 have h4 := Nat.div_add_mod P (2 ^ s)
 rw [hy] at h4
 have h5 : B64 * P = 2 ^ s * (2 ^ (64 - s) * P) := by rw [← e1, Nat.mul_comm (2 ^ (64 - s)), Nat.mul_assoc]
 rw [h5, Nat.add_mul_div_left _ _ hp]
 have h6 : 2 ^ (64 - s) * P = B64 * (P / 2 ^ s) + 2 ^ (64 - s) * (y % 2 ^ s) := by
  conv => lhs; rw [← h4, Nat.mul_add, ← Nat.mul_assoc, e1]
 omega
theorem or_shr (x y s z : Nat) (hs : s < 64) (hx : x < B64) (hz : x / 2 ^ s + 2 ^ (64 - s) * (y % 2 ^ s) = z) : bits .or .u64 ((x : Int) / 2 ^ s) (IntKind.u64.wrap ((y : Int) * 2 ^ (64 - s))) = (z : Int) := by
 have e1 : (2 : Nat) ^ s * 2 ^ (64 - s) = 18446744073709551616 := by rw [← Nat.pow_add, show s + (64 - s) = 64 from by omega]
 have hp : 0 < 2 ^ s := Nat.pow_pos (by omega)
 have h1 : x / 2 ^ s < 2 ^ (64 - s) := by rw [Nat.div_lt_iff_lt_mul hp, Nat.mul_comm, e1]; exact hx
 have h2 : y * 2 ^ (64 - s) % 18446744073709551616 = y % 2 ^ s * 2 ^ (64 - s) := by rw [← e1, Nat.mul_mod_mul_right]
 have h3 : x / 2 ^ s < 18446744073709551616 := Nat.lt_of_le_of_lt (Nat.div_le_self _ _) hx
 rw [shl_mod y (64 - s) _ rfl, shr_div x s _ rfl, bits_or_u64_nat _ _ h3 (Nat.mod_lt _ (by omega)), h2, Nat.or_comm, Nat.mul_comm, ← Nat.two_pow_add_eq_or_of_lt h1, ← hz, Nat.add_comm]
theorem mod_digit (P x H s : Nat) (hs : s < 64) (h : P = x + B64 * H) : P % 2 ^ s = x % 2 ^ s := by
 have e1 : (2 : Nat) ^ s * 2 ^ (64 - s) = B64 := by rw [← Nat.pow_add, show s + (64 - s) = 64 from by omega]; rfl
 rw [h, ← e1, Nat.mul_assoc, Nat.add_mul_mod_self_left]
set_option maxRecDepth 100000 in
set_option maxHeartbeats 4000000 in
theorem shiftRight_any (A : Option Addr) (n c s : Nat) (xs : List Nat) (w : World) (hn : xs.length = n) (hx : RdA w A xs) (lx : Limbs xs) (hs : s < 64) (nn : n ≤ 1099511627776) :
  Calls Tryz.prog 161 #[.slice A n c, .int .i64 (s : Int)] w fun e w' => ∃ g ds, e = .returned (.slice (some ⟨g, 0, none⟩) n n) ∧ ds.length = n ∧ Limbs ds ∧ pval ds = pval xs / 2 ^ s ∧ w.heap.size ≤ g ∧ Lst w' g ds ∧ Below w.heap.size w w' := by
 have hmk := make_parts n (by omega)
 have Hn := Lib.hid hn
 have Hx := Lib.hid hx
 clear hn hx
 go_enter Tryz.func161, Tryz.ntmps161
 go_wp2_with fail
 obtain ⟨g, hg⟩ : ∃ g, g = w.heap.size := ⟨_, rfl⟩
 have hL0 : Lst (w.alloc (.cells (U (List.replicate n 0)) 80)) g (List.replicate n 0) := by rw [hg]; exact Lst.new _ _
 have hB0 : Below g w (w.alloc (.cells (U (List.replicate n 0)) 80)) := (Below.refl _ _).alloc (by omega) _
 rw [← hg]
 have Hg := Lib.hid hg
 clear hg hmk
 go_loopw [12] (fun i wr => ∃ (k : Nat) (D : List Nat), i = .int .i64 k ∧ k ≤ n ∧ D.length = k ∧ Limbs D ∧ pval D + B64 ^ k * (pval (xs.drop k) / 2 ^ s) = pval xs / 2 ^ s ∧ Lst wr g (D ++ List.replicate (n - k) 0) ∧ Below g w wr)
  (fun i _ => n - (intOf i).toNat)
 case atStart => exact ⟨0, [], rfl, Nat.zero_le _, rfl, Limbs.nil, by simp [pval], by rw [Nat.sub_zero, List.nil_append]; exact hL0, hB0⟩
 case round =>
  obtain ⟨k, D, rfl, hk, hD, hDl, hv, hL, hB⟩ := hrel
  have Hv := Lib.hid hv
  have HL := Lib.hid hL
  have HB := Lib.hid hB
  clear hv hL hB hL0 hB0
  by_cases hlt : k < n
  ·have hBw : Below w.heap.size w wr := by rw [← Hg.out]; exact HB.out
   obtain ⟨a, rfl, hab, hca0⟩ := Hx.out k (by rw [Hn.out]; exact hlt)
   have hca := (HB.out.cell (p := a.add k) (by rw [block_add, Hg.out]; exact hab)).trans hca0
   have hat := Lib.hid (fun W (h : Below w.heap.size w W) => at_any (some a) n c xs (k + 1) W Hn.out (Hx.out.below h) (by unfold maxLen; omega))
   have hxk : xs.getD k 0 < B64 := lx.getD k
   have hyk : xs.getD (k + 1) 0 < B64 := lx.getD (k + 1)
   have hpd := pval_drop xs k (by rw [Hn.out]; exact hlt)
   have hmd : pval (xs.drop (k + 1)) % 2 ^ s = xs.getD (k + 1) 0 % 2 ^ s := by
    by_cases h1 : k + 1 < xs.length
    ·exact mod_digit _ _ _ s hs (pval_drop xs (k + 1) h1)
    ·rw [List.drop_of_length_le (by omega), List.getD_eq_getElem?_getD, List.getElem?_eq_none (by omega)]; rfl
   have hcell := HL.out.cell (k := k) (by simp [hD]; omega)
   have hfr := HL.out.frozen k
   generalize hP : pval (xs.drop (k + 1)) = P at *
   have HP := Lib.hid hP
   clear hP
   generalize xs.getD k 0 = x at *
   generalize xs.getD (k + 1) 0 = y at *
   have hsp := shr_split x y P s hs hxk hmd
   obtain ⟨z, hz⟩ : ∃ z, x / 2 ^ s + 2 ^ (64 - s) * (y % 2 ^ s) = z := ⟨_, rfl⟩
   rw [hz] at hsp
   have f1 := or_shr x y s z hs hxk hz
   have hL2 := HL.out.set k z
   have hse : (D ++ List.replicate (n - k) 0).set k z = (D ++ [z]) ++ List.replicate (n - (k + 1)) 0 := by
    have h1 := set_head D 0 z (List.replicate (n - (k + 1)) 0)
    rw [hD] at h1
    rw [show n - k = (n - (k + 1)) + 1 from by omega, List.replicate_succ, h1]
    simp
   rw [hse] at hL2
   clear hse
   have HL2 := Lib.hid hL2
   have hB3 := HB.out.setCell (p := ⟨g, k, none⟩) (Nat.le_refl g) (.int .u64 (z : Int))
   have HB3 := Lib.hid hB3
   have hnew := Lib.hid (show pval (D ++ [z]) + B64 ^ (k + 1) * (P / 2 ^ s) = pval xs / 2 ^ s by
    rw [pval_snoc, hD, ← Hv.out, hpd, hsp.2, Nat.pow_succ, Nat.mul_add, Nat.mul_assoc]
    omega)
   have hz1 := hsp.1
   have hk1 : (k : Int) + 1 = ((k + 1 : Nat) : Int) := by omega
   rw [← hk1] at hat
   generalize (D ++ List.replicate (n - k) 0).getD k 0 = z0 at *
   clear hL2 hB3 hsp hpd hmd hca0 hz hk1
   have hw1 : IntKind.i64.wrap ((k : Int) + 1) = (k : Int) + 1 := IntWalk.i64_in _ (by omega)
   have hw2 : IntKind.i64.wrap (64 - (s : Int)) = ((64 - s : Nat) : Int) := by rw [IntWalk.i64_in _ (by omega)]; omega
   go_wp2_with fail
   go_region_with (go_at_call 138; (with_reducible refine (hat.out _ (by first | exact hBw.drew | exact hBw)).mono ?_); rintro e w' ⟨rfl, rfl⟩)
   all_goals
    go_wp2
    go_roundw
    case rel => exact ⟨k + 1, D ++ [z], by go_num, by omega, by simp [hD], hDl.snoc hz1, by rw [HP.out]; exact hnew.out, HL2.out, HB3.out.drew⟩
    case measure => simp [intOf]; omega
  ·obtain rfl : k = n := by omega
   rw [Nat.sub_self, List.replicate_zero, List.append_nil] at HL
   have hv2 : pval D = pval xs / 2 ^ s := by
    have := Hv.out
    rw [List.drop_of_length_le (by rw [Hn.out]; exact Nat.le_refl _), show pval [] = 0 from rfl, Nat.zero_div, Nat.mul_zero, Nat.add_zero] at this
    exact this
   have HV2 := Lib.hid hv2
   clear hv2
   go_wp2
   go_ret
   exact ⟨g, D, rfl, hD, hDl, HV2.out, by rw [Hg.out]; exact Nat.le_refl _, HL.out, by rw [← Hg.out]; exact HB.out⟩
end Go.Proofs.YtknaghdoffigjaaGreatDoor
