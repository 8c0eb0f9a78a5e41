import Derived.Test.YtknaghdoffigjaaGreatDoorReduceW
import Derived.Test.YtknaghdoffigjaaGreatDoorZParts
import Derived.Laws.AppendOwnNone
set_option linter.unusedSimpArgs false
set_option linter.unusedVariables false
set_option linter.unnecessarySimpa false
namespace Go.Proofs.YtknaghdoffigjaaGreatDoor
open Go.RowKit
/- Plain mathematics of the division of two shifted numbers. -/
theorem shift_bounds (ys : List Nat) (m t s : Nat) (hm : ys.length = m + 1) (ly : Limbs ys) (ht : ys.getD m 0 = t) (h1 : 9223372036854775808 ≤ t * 2 ^ s) (h2 : (t + 1) * 2 ^ s ≤ B64) :
  pval ys * 2 ^ s < B64 ^ (m + 1) ∧ B64 ^ m * 9223372036854775808 ≤ pval ys * 2 ^ s := by
 have hp := pval_take_succ ys m
 rw [List.take_of_length_le (by omega), ht] at hp
 have hl := pval_lt (ly.take m)
 rw [List.length_take, Nat.min_eq_left (by omega)] at hl
 have hs : 0 < 2 ^ s := Nat.pow_pos (by omega)
 have e1 : pval ys < B64 ^ m * (t + 1) := by rw [Nat.mul_add, Nat.mul_one]; omega
 constructor
 ·have h3 := Nat.mul_lt_mul_of_pos_right e1 hs
  rw [Nat.mul_assoc] at h3
  have h4 := Nat.mul_le_mul_left (B64 ^ m) h2
  rw [Nat.pow_succ]
  omega
 ·have h3 := Nat.mul_le_mul_left (B64 ^ m) h1
  have h4 : B64 ^ m * t * 2 ^ s ≤ pval ys * 2 ^ s := Nat.mul_le_mul_right _ (by omega)
  rw [Nat.mul_assoc] at h4
  omega
theorem top_of (l : List Nat) (m : Nat) (hl : l.length = m + 1) (ll : Limbs l) (hv : B64 ^ m * 9223372036854775808 ≤ pval l) : 9223372036854775808 ≤ l.getD m 0 := by
 have hp := pval_take_succ l m
 rw [List.take_of_length_le (by omega)] at hp
 have hlo := pval_lt (ll.take m)
 rw [List.length_take, Nat.min_eq_left (by omega)] at hlo
 have h1 : B64 ^ m * 9223372036854775808 < B64 ^ m * (l.getD m 0 + 1) := by rw [Nat.mul_add, Nat.mul_one]; omega
 have := Nat.lt_of_mul_lt_mul_left h1
 omega
theorem take_low (l : List Nat) (m : Nat) (hl : l.length = m + 1) (hv : pval l < B64 ^ m) : pval (l.take m) = pval l := by
 have hp := pval_take_succ l m
 rw [List.take_of_length_le (by omega)] at hp
 have h0 : l.getD m 0 = 0 := by
  refine Nat.eq_zero_of_not_pos fun h => ?_
  have := Nat.mul_le_mul_left (B64 ^ m) (show 1 ≤ l.getD m 0 from h)
  omega
 rw [h0, Nat.mul_zero, Nat.add_zero] at hp
 exact hp.symm
theorem win_top (ts : List Nat) (p m D : Nat) (h : p + m < ts.length) (hv : pval ts < D * B64 ^ (p + 1)) (hD : D < B64 ^ m) (lt : Limbs ts) :
  ∃ lo, lo < B64 ^ p ∧ pval ts = lo + B64 ^ p * pval ((ts.drop p).take (m + 1)) ∧ pval ((ts.drop p).take (m + 1)) < D * B64 := by
 have h1 := pval_append (ts.take p) (ts.drop p)
 rw [List.take_append_drop, List.length_take, Nat.min_eq_left (by omega)] at h1
 have h2 := pval_append ((ts.drop p).take (m + 1)) ((ts.drop p).drop (m + 1))
 rw [List.take_append_drop, List.length_take, List.length_drop, Nat.min_eq_left (by omega)] at h2
 have hlo := pval_lt (lt.take p)
 rw [List.length_take, Nat.min_eq_left (by omega)] at hlo
 have hp : 0 < B64 ^ p := Nat.pow_pos B64_pos
 have hU : pval ((ts.drop p).drop (m + 1)) = 0 := by
  refine Nat.eq_zero_of_not_pos fun h => ?_
  have e1 := Nat.mul_le_mul_left (B64 ^ (m + 1)) (show 1 ≤ pval ((ts.drop p).drop (m + 1)) from h)
  have e2 : B64 ^ p * B64 ^ (m + 1) ≤ B64 ^ p * pval (ts.drop p) := Nat.mul_le_mul_left _ (by omega)
  have e3 : D * B64 ^ (p + 1) ≤ B64 ^ m * B64 ^ (p + 1) := Nat.mul_le_mul_right _ (by omega)
  rw [← Nat.pow_add] at e2 e3
  rw [show m + (p + 1) = p + (m + 1) from by omega] at e3
  omega
 rw [hU, Nat.mul_zero, Nat.add_zero] at h2
 rw [h2] at h1
 refine ⟨pval (ts.take p), hlo, h1, ?_⟩
 have h3 : B64 ^ p * pval ((ts.drop p).take (m + 1)) < B64 ^ p * (D * B64) := by
  rw [show B64 ^ p * (D * B64) = D * B64 ^ (p + 1) from by rw [Nat.pow_succ, Nat.mul_left_comm]]
  omega
 exact Nat.lt_of_mul_lt_mul_left h3
theorem long_step {T T2 W lo D q A P Q : Nat} (h1 : T = lo + P * W) (hlo : lo < P) (hq : W / D = q) (hD : 0 < D) (h2 : T2 + P * (q * D) = T) (hA : T + P * B64 * (Q * D) = A) :
  T2 < D * P ∧ T2 + P * ((q + B64 * Q) * D) = A := by
 have hd := Nat.div_add_mod W D
 have hm := Nat.mod_lt W hD
 rw [hq] at hd
 constructor
 ·have e1 : P * W = P * (q * D) + P * (W % D) := by rw [← Nat.mul_add, Nat.mul_comm q D, hd]
  have e2 := Nat.mul_le_mul_left P (show W % D + 1 ≤ D from hm)
  rw [Nat.mul_add, Nat.mul_one, Nat.mul_comm P D] at e2
  omega
 ·rw [← hA, ← h2, Nat.add_mul, Nat.mul_add, Nat.mul_assoc P, Nat.mul_assoc B64]
  omega
theorem long_start {N D m nq n s : Nat} (hN : N < B64 ^ n) (hs : s < 64) (hn : n = m + nq) (hD : B64 ^ m * 9223372036854775808 ≤ D) : N * 2 ^ s < D * B64 ^ nq := by
 have h0 : 2 ^ s ≤ 9223372036854775808 := Nat.pow_le_pow_right (n := 2) (by omega) (show s ≤ 63 by omega)
 have h1 : N * 2 ^ s < B64 ^ n * 2 ^ s := Nat.mul_lt_mul_of_pos_right hN (Nat.pow_pos (by omega))
 have h2 := Nat.mul_le_mul_left (B64 ^ n) h0
 have h3 := Nat.mul_le_mul_right (B64 ^ nq) hD
 rw [Nat.mul_right_comm, ← Nat.pow_add, ← hn] at h3
 omega
def RetDv (w w' : World) (e : Ending) (q r : List Nat) : Prop :=
 ∃ (Q R : Option Addr) (cq cr : Nat), e = .returned (.tuple #[.slice Q q.length cq, .slice R r.length cr]) ∧ q.length ≤ cq ∧ r.length ≤ cr ∧ cq ≤ maxLen ∧ cr ≤ maxLen ∧ RdA w' Q q ∧ RdA w' R r ∧ Below w.heap.size w w'
theorem ptrim_rd {w : World} {A : Option Addr} {l : List Nat} (h : RdA w A l) (hl : Limbs l) : RdA w A (limbs (pval l)) := by
 rw [← ptrim_limbs hl, ptrim_eq_take]
 exact h.take _
set_option maxRecDepth 100000 in
set_option maxHeartbeats 8000000 in
theorem divideLong_any (A B : Option Addr) (n m ca cb : Nat) (xs ys : List Nat) (w : World) (hn : xs.length = n) (hm : ys.length = m) (h2 : 2 ≤ m) (hmn : m ≤ n) (hx : RdA w A xs) (hy : RdA w B ys)
  (lx : Limbs xs) (ly : Limbs ys) (htop : 0 < ys.getD (m - 1) 0) (nn : n ≤ 1099511627000) (hcb : m ≤ cb) (hcm : cb ≤ maxLen) :
  Calls Tryz.prog 147 #[.slice A n ca, .slice B m cb] w fun e w' => RetDv w w' e (limbs (pval xs / pval ys)) (limbs (pval xs % pval ys)) := by
 obtain ⟨j, hj⟩ : ∃ j, j = m - 1 := ⟨_, rfl⟩
 obtain ⟨nq, hq⟩ : ∃ nq, nq = n - m + 1 := ⟨_, rfl⟩
 have hm1 : (m : Int) - 1 = (j : Int) := by omega
 obtain ⟨a, rfl, hab, hca⟩ := hy j (by omega)
 rw [← hj] at htop
 have htB : ys.getD j 0 < B64 := ly.getD j
 obtain ⟨t, ht⟩ : ∃ t, ys.getD j 0 = t := ⟨_, rfl⟩
 rw [ht] at htop htB hca
 have hlz := Tryz.bits_LeadingZeros64 (t : Int)
 rw [Int.toNat_natCast] at hlz
 have HLZ := Lib.hid hlz
 obtain ⟨L, hL⟩ : ∃ L, L = Lib.bitLen t := ⟨_, rfl⟩
 rw [← hL] at HLZ
 obtain ⟨b1, b2, hL64⟩ := bitLen_bounds 64 t (by rw [B64_eq] at htB; omega)
 change t < 2 ^ Lib.bitLen t at b1
 change 0 < t → 2 ^ (Lib.bitLen t - 1) ≤ t at b2
 change Lib.bitLen t ≤ 64 at hL64
 rw [← hL] at b1 b2 hL64
 have b3 := b2 htop
 have hL1 : 0 < L := by
  refine Nat.pos_of_ne_zero fun h => ?_
  rw [h] at b1
  omega
 obtain ⟨s, hs⟩ : ∃ s, s = 64 - L := ⟨_, rfl⟩
 have hs64 : s < 64 := by omega
 have hsI : (64 : Int) - (L : Int) = (s : Int) := by omega
 have p1 : 2 ^ L * 2 ^ s = B64 := by rw [← Nat.pow_add, show L + s = 64 from by omega]; rfl
 have p2 : 2 ^ (L - 1) * 2 ^ s = 9223372036854775808 := by rw [← Nat.pow_add, show L - 1 + s = 63 from by omega]
 have hpos : 0 < 2 ^ s := Nat.pow_pos (by omega)
 have hsb := shift_bounds ys j t s (by omega) ly ht (by rw [← p2]; exact Nat.mul_le_mul_right _ b3) (by rw [← p1]; exact Nat.mul_le_mul_right _ b1)
 have hM0 : 0 < pval ys := by
  refine Nat.pos_of_ne_zero fun h => ?_
  rw [h, Nat.zero_mul] at hsb
  have : 0 < B64 ^ j * 9223372036854775808 := Nat.mul_pos (Nat.pow_pos B64_pos) (by omega)
  omega
 have hxl := pval_lt lx
 rw [hn] at hxl
 have hst := long_start hxl hs64 (show n = j + nq by omega) hsb.2
 have hsb1 := hsb.1
 have hsb2 := hsb.2
 rw [show j + 1 = m from by omega] at hsb1
 have hmk := make_parts nq (by omega)
 have hqi : (nq : Int) = (n : Int) - (m : Int) + 1 := by omega
 rw [hqi] at hmk
 have hw1 : IntKind.i64.wrap ((n : Int) - (m : Int)) = (n : Int) - (m : Int) := IntWalk.i64_in _ (by omega)
 have hw2 : IntKind.i64.wrap ((n : Int) - (m : Int) + 1) = (n : Int) - (m : Int) + 1 := IntWalk.i64_in _ (by omega)
 have sl1 := fun gd => slice_hi (some ⟨gd, 0, none⟩) (m + 1) (m + 1) m (by omega)
 have HS1 := Lib.hid (fun (W : World) (hb : Below w.heap.size w W) => shiftLeft_any (some a) m cb s ys W hm (hy.below hb) ly hs64 (by omega))
 have HS2 := Lib.hid (fun (W : World) (hb : Below w.heap.size w W) => shiftLeft_any A n ca s xs W hn (hx.below hb) lx hs64 (by omega))
 have HY := Lib.hid (And.intro hm (And.intro hj (And.intro hq ht)))
 have HST := Lib.hid hst
 have HSB := Lib.hid (And.intro hsb1 hsb2)
 have HPOS := Lib.hid hpos
 have HM0 := Lib.hid hM0
 have hj1 : 1 ≤ j := by omega
 have hnq1 : 1 ≤ nq := by omega
 have hnm : n + 1 = m + nq := by omega
 have HNM := Lib.hid hnm
 have hjm : j + 1 = m := by omega
 have HJM := Lib.hid hjm
 unfold maxLen at hcm
 clear hn hm hj hq hx hy hst hsb hsb1 hsb2 p1 p2 hpos hM0 hxl b1 b2 b3 hlz hL ht hs hjm hnm
 go_enter Tryz.func147, Tryz.ntmps147
 go_wp2_with fail
 with_reducible refine (HLZ.out w (by omega) (by rw [B64_eq] at htB; omega)).mono ?_
 rintro e w1 ⟨rfl, hw⟩
 rw [hw]
 clear hw
 go_wp2_with fail
 with_reducible refine (HS1.out w (Below.refl _ _)).mono ?_
 rintro e w1 ⟨gd, ds0, rfl, hd1, hd2, hd3, hd4, hd5, hd6⟩
 have hsl1 := sl1 gd
 clear sl1
 have hB1 := Lib.hid hd6
 have HD := Lib.hid (And.intro hd1 (And.intro hd2 (And.intro hd3 (And.intro hd4 hd5))))
 clear hd1 hd2 hd3 hd4 hd5 hd6
 go_wp2_with fail
 with_reducible refine (HS2.out w1 hB1.out).mono ?_
 rintro e w2 ⟨g, ts0, rfl, ht1, ht2, ht3, ht4, ht5, ht6⟩
 have hB2 := Lib.hid ht6
 have HT := Lib.hid (And.intro ht1 (And.intro ht2 (And.intro ht3 (And.intro ht4 ht5))))
 clear ht1 ht2 ht3 ht4 ht5 ht6
 go_wp2_with fail
 obtain ⟨gq, hgq⟩ : ∃ g, g = w2.heap.size := ⟨_, rfl⟩
 have hL0 : Lst (w2.alloc (.cells (U (List.replicate nq 0)) 80)) gq (List.replicate nq 0) := by rw [hgq]; exact Lst.new _ _
 rw [← hgq]
 have hG1 : g < gq := by rw [hgq]; exact HT.out.2.2.2.2.lt
 have hG2 : w1.heap.size ≤ g := HT.out.2.2.2.1
 have HL1 : Lst (w2.alloc (.cells (U (List.replicate nq 0)) 80)) g ts0 := HT.out.2.2.2.2.alloc _
 have HB3 : Below w1.heap.size w1 (w2.alloc (.cells (U (List.replicate nq 0)) 80)) := hB2.out.alloc (by omega) _
 obtain ⟨D, hDe⟩ : ∃ D, D = pval ys * 2 ^ s := ⟨_, rfl⟩
 obtain ⟨AA, hAe⟩ : ∃ A, A = pval xs * 2 ^ s := ⟨_, rfl⟩
 obtain ⟨y2, hy2⟩ : ∃ y2, y2 = ds0.take m := ⟨_, rfl⟩
 have hy3 : y2.length = m := by rw [hy2, List.length_take, HD.out.1]; omega
 have hy4 : Limbs y2 := by rw [hy2]; exact HD.out.2.1.take _
 have hy5 : pval y2 = D := by
  rw [hy2, hDe, ← HD.out.2.2.1]
  exact take_low ds0 m HD.out.1 (by rw [HD.out.2.2.1]; exact HSB.out.1)
 have hy6 : RdA w1 (some ⟨gd, 0, none⟩) y2 := by rw [hy2]; exact HD.out.2.2.2.2.rd.take _
 have hy7 : 9223372036854775808 ≤ y2.getD (m - 1) 0 := by
  rw [show m - 1 = j from by have := HJM.out; omega]
  exact top_of y2 j (by rw [hy3]; exact HJM.out.symm) hy4 (by rw [hy5, hDe]; exact HSB.out.2)
 have HY2 := Lib.hid (And.intro hy3 (And.intro hy4 (And.intro hy5 (And.intro hy6 hy7))))
 have HST2 : Hid (AA < D * B64 ^ nq) := Lib.hid (by rw [hAe, hDe]; exact HST.out)
 have HDA := Lib.hid (And.intro hDe hAe)
 have HDB : Hid (D < B64 ^ m) := Lib.hid (by rw [hDe]; exact HSB.out.1)
 have HD0 : Hid (0 < D) := Lib.hid (by rw [hDe]; exact Nat.mul_pos HM0.out HPOS.out)
 have HA0 : Hid (ts0.length = n + 1 ∧ Limbs ts0 ∧ pval ts0 = AA) := Lib.hid ⟨HT.out.1, HT.out.2.1, by rw [hAe]; exact HT.out.2.2.1⟩
 have HG := Lib.hid (And.intro hG1 hG2)
 have Hgq := Lib.hid hgq
 clear hy2 hy3 hy4 hy5 hy6 hy7 hDe hAe hgq hmk hG1 hG2
 go_loopw [35] (fun i wr => ∃ (k p : Nat) (ts ds : List Nat), i = .int .i64 k ∧ k + p = nq ∧ ts.length = n + 1 ∧ Limbs ts ∧ ds.length = k ∧ Limbs ds ∧ pval ts + B64 ^ p * (pval ds * D) = AA ∧ pval ts < D * B64 ^ p ∧ Lst wr g ts ∧ Lst wr gq (List.replicate p 0 ++ ds) ∧ Below w1.heap.size w1 wr)
  (fun i _ => nq - (intOf i).toNat)
 case atStart =>
  exact ⟨0, nq, ts0, [], rfl, Nat.zero_add _, HA0.out.1, HA0.out.2.1, rfl, Limbs.nil, by rw [show pval [] = 0 from rfl, Nat.zero_mul, Nat.mul_zero]; exact HA0.out.2.2, by rw [HA0.out.2.2]; exact HST2.out, HL1, by rw [List.append_nil]; exact hL0, HB3⟩
 case round =>
  obtain ⟨k, p, ts, ds, rfl, hkp, htl, htL, hdl, hdL, hv, hvl, hLt, hLq, hB⟩ := hrel
  clear hL0 HL1 HB3
  have HV := Lib.hid (And.intro hv hvl)
  have HB := Lib.hid hB
  clear hv hvl hB
  by_cases hlt : k < nq
  ·obtain ⟨r, rfl⟩ : ∃ r, p = r + 1 := ⟨p - 1, by omega⟩
   have hri : (n : Int) - (m : Int) - (k : Int) = (r : Int) := by omega
   have hw5 : IntKind.i64.wrap ((r : Int) + (m : Int)) = (r : Int) + (m : Int) := IntWalk.i64_in _ (by omega)
   have hw6 : IntKind.i64.wrap ((r : Int) + (m : Int) + 1) = (r : Int) + (m : Int) + 1 := IntWalk.i64_in _ (by omega)
   have hrm : r + m < ts.length := by omega
   have hsl := slice_parts (some ⟨g, 0, none⟩) (n + 1) (n + 1) r (r + m + 1) (by omega) (by omega)
   rw [if_neg (by omega), show r + m + 1 - r = m + 1 from by omega, show (((r + m + 1 : Nat)) : Int) = (r : Int) + m + 1 from by omega, Option.map_some, addr_add, Nat.zero_add] at hsl
   obtain ⟨lo, hlo1, hlo2, hlo3⟩ := win_top ts r m D hrm HV.out.2 HDB.out htL
   have hrd := fun W (hW : Below w1.heap.size w1 W) (hLW : Lst W g ts) => reduce_any g gd r m (n + 1 - r) (m + 1) ts y2 w1 W HY2.out.1 h2 hLW hrm HY2.out.2.2.2.1 hW HG.out.2 HY2.out.2.1 htL HY2.out.2.2.2.2 (by rw [HY2.out.2.2.1]; exact hlo3) (by omega) (by omega) (by omega) (by omega) (by omega)
   rw [HY2.out.2.2.1] at hrd
   obtain ⟨q, hq⟩ : ∃ q, pval ((ts.drop r).take (m + 1)) / D = q := ⟨_, rfl⟩
   have hqB : q < B64 := by rw [← hq, Nat.div_lt_iff_lt_mul HD0.out, Nat.mul_comm]; exact hlo3
   rw [hq] at hrd
   have hstep := Lib.hid (fun T2 (h : T2 + B64 ^ r * (q * D) = pval ts) => long_step (A := AA) (Q := pval ds) hlo2 hlo1 hq HD0.out h (by have := HV.out.1; rw [Nat.pow_succ] at this; exact this))
   have HRD := Lib.hid hrd
   have hqc := hLq.cell (k := r) (by simp; omega)
   have hset := Lib.hid (show (List.replicate (r + 1) 0 ++ ds).set r q = List.replicate r 0 ++ (q :: ds) by
    rw [List.replicate_succ', List.append_assoc]
    have := set_head (List.replicate r 0) 0 q ds
    rw [List.length_replicate] at this
    exact this)
   have Hkp := Lib.hid hkp
   clear hrd hq hlo1 hlo2 hlo3 hkp
   go_wp2_with fail
   with_reducible refine (HRD.out wr HB.out hLt).mono ?_
   rintro e w3 ⟨rfl, ⟨t2, ht2a, ht2b, ht2c, ht2d⟩, hG3⟩
   have hgqn : some gq ≠ some g := by
    intro h
    injection h with h
    have := HG.out.1
    omega
   have hLq3 := hLq.grown hG3 hgqn
   have hqc3 := hLq3.cell (k := r) (by simp; omega)
   have hfr3 := hLq3.frozen r
   have hLq4 := hLq3.set r q
   rw [hset.out] at hLq4
   have hB3 : Below w1.heap.size w1 w3 := HB.out.grown hG3 HB.out.size (by intro j hj; injection hj with hj; have := HG.out.2; omega)
   have hB4 := hB3.setCell (p := ⟨gq, r, none⟩) (show w1.heap.size ≤ gq by have := HG.out; omega) (.int .u64 (q : Int))
   have hLt4 : Lst (w3.setCell ⟨gq, r, none⟩ (.int .u64 (q : Int))) g t2 := ht2d.block (Below.heap_setCell w3 _ _ g (by intro h; exact hgqn (by rw [h])))
   have hst := hstep.out _ ht2c
   have HX := Lib.hid (And.intro hLq4 (And.intro hB4 (And.intro hLt4 hst)))
   clear hLq hLq3 hLq4 hB3 hB4 hLt4 hst ht2c ht2d hG3 hqc hLt hstep
   go_wp2
   go_roundw
   case rel => exact ⟨k + 1, r, t2, q :: ds, by go_num, by have := Hkp.out; omega, by omega, ht2b, by simp [hdl], hdL.cons hqB, HX.out.2.2.2.2, HX.out.2.2.2.1, HX.out.2.2.1, HX.out.1, HX.out.2.1⟩
   case measure => simp [intOf]; omega
  ·obtain rfl : k = nq := by omega
   obtain rfl : p = 0 := by omega
   rw [List.replicate_zero, List.nil_append] at hLq
   rw [Nat.pow_zero, Nat.one_mul, Nat.mul_one] at HV
   have HHL := Lib.hid (And.intro hLt hLq)
   clear hLt hLq
   have hfin := Lib.hid (unscale (y := pval ys) HPOS.out (show pval xs * 2 ^ s = pval ds * (pval ys * 2 ^ s) + pval ts by rw [← HDA.out.1, ← HDA.out.2, ← HV.out.1, Nat.add_comm]) (by rw [← HDA.out.1]; exact HV.out.2))
   have Htl := Lib.hid htl
   have Hdl := Lib.hid hdl
   have HSR := Lib.hid (fun W (hW : Lst W g ts) => shiftRight_any (some ⟨g, 0, none⟩) (n + 1) (n + 1) s ts W Htl.out hW.rd htL hs64 (by omega))
   have HTQ := Lib.hid (fun W (hW : Lst W gq ds) => trim_any (some ⟨gq, 0, none⟩) k k ds W Hdl.out hW.rd (Nat.le_refl _) (by unfold maxLen; omega))
   have hBw := Lib.hid (hB1.out.trans (HB.out.mono hB1.out.size))
   clear htl hdl
   go_wp2_with fail
   with_reducible refine (HTQ.out wr HHL.out.2).mono ?_
   rintro e w3 ⟨rfl, hw3⟩
   rw [← hw3]
   clear hw3
   go_wp2_with fail
   with_reducible refine (HSR.out wr HHL.out.1).mono ?_
   rintro e w4 ⟨g4, d4, rfl, h41, h42, h43, h44, h45, h46⟩
   have HH4 := Lib.hid (And.intro h41 (And.intro h42 (And.intro h43 (And.intro h44 (And.intro h45 h46)))))
   have HT4 := Lib.hid (trim_any (some ⟨g4, 0, none⟩) (n + 1) (n + 1) d4 w4 h41 h45.rd (Nat.le_refl _) (by unfold maxLen; omega))
   clear h41 h42 h43 h44 h45 h46
   go_wp2_with fail
   with_reducible refine HT4.out.mono ?_
   rintro e w5 ⟨rfl, hw5⟩
   rw [← hw5]
   clear hw5
   go_wp2
   go_ret2
   have e1 : ptrim ds = limbs (pval xs / pval ys) := by rw [ptrim_limbs hdL, hfin.out.1]
   have e2 : ptrim d4 = limbs (pval xs % pval ys) := by rw [ptrim_limbs HH4.out.2.1, HH4.out.2.2.1, hfin.out.2]
   have r1 := ptrim_rd HHL.out.2.rd hdL
   have r2 := ptrim_rd HH4.out.2.2.2.2.1.rd HH4.out.2.1
   rw [← ptrim_limbs hdL] at r1
   rw [← ptrim_limbs HH4.out.2.1] at r2
   have l1 := ptrim_length_le ds
   have l2 := ptrim_length_le d4
   rw [Hdl.out] at l1
   rw [HH4.out.1] at l2
   rw [← e1, ← e2]
   exact ⟨_, _, _, _, rfl, l1, l2, by unfold maxLen; omega, by unfold maxLen; omega, r1.below HH4.out.2.2.2.2.2, r2, hBw.out.trans (HH4.out.2.2.2.2.2.mono hBw.out.size)⟩
def Lsv (w : World) (g : Nat) (xs : List Nat) : Prop :=
 ∃ cur : Array Value, w.heap[g]? = some (.cells cur 80 (0, 0)) ∧ ∀ k, k < xs.length → cur[k]? = some (.int .u64 ((xs.getD k 0 : Nat) : Int))
section
variable {w w' : World} {g : Nat} {xs : List Nat}
theorem Lsv.lt (h : Lsv w g xs) : g < w.heap.size := by
 obtain ⟨cur, h, _⟩ := h
 rcases Nat.lt_or_ge g w.heap.size with hlt | hge
 ·exact hlt
 ·rw [Array.getElem?_eq_none hge] at h; cases h
theorem Lsv.cell (h : Lsv w g xs) {k : Nat} (hk : k < xs.length) : w.cell? ⟨g, k, none⟩ = some (.int .u64 ((xs.getD k 0 : Nat) : Int)) := by
 obtain ⟨cur, h, hc⟩ := h
 exact (cell_of_row w g k cur _ (0, 0) h).trans (hc k hk)
theorem Lsv.frozen (h : Lsv w g xs) (k : Nat) : w.frozen? ⟨g, k, none⟩ = false := by
 obtain ⟨cur, h, _⟩ := h
 simp [World.frozen?, h]
theorem Lsv.set (h : Lsv w g xs) (k x : Nat) : Lsv (w.setCell ⟨g, k, none⟩ (.int .u64 (x : Int))) g (xs.set k x) := by
 obtain ⟨cur, h, hc⟩ := h
 refine ⟨cur.setIfInBounds k (.int .u64 (x : Int)), by simp [World.setCell, Array.getElem?_modify, h], fun j hj => ?_⟩
 rw [List.length_set] at hj
 have h1 := hc j hj
 have hsz : j < cur.size := (Array.getElem?_eq_some_iff.1 h1).1
 rw [Array.getElem?_setIfInBounds]
 by_cases e : k = j
 ·subst e
  rw [if_pos rfl, if_pos hsz, List.getD_eq_getElem?_getD, List.getElem?_set_self hj]
  rfl
 ·rw [if_neg e, h1, List.getD_eq_getElem?_getD, List.getD_eq_getElem?_getD, List.getElem?_set_ne e]
theorem Lsv.block (h : Lsv w g xs) (hb : w'.heap[g]? = w.heap[g]?) : Lsv w' g xs := by
 obtain ⟨cur, h, hc⟩ := h
 exact ⟨cur, hb.trans h, hc⟩
theorem Lsv.rd (h : Lsv w g xs) : RdA w (some ⟨g, 0, none⟩) xs := fun k hk => ⟨_, rfl, h.lt, by
 rw [addr_add, Nat.zero_add]
 exact h.cell hk⟩
end
theorem set_place0 (xs ds : List Nat) (j q : Nat) (h : j < xs.length) : (xs.take (j + 1) ++ ds).set j q = xs.take j ++ (q :: ds) := by
 have := set_place xs ds [] j q h
 rwa [List.append_nil, List.append_nil] at this
set_option maxRecDepth 100000 in
set_option maxHeartbeats 2000000 in
theorem divideByPart_own (A : Option Addr) (n c g d : Nat) (xs : List Nat) (w : World) (hn : xs.length = n) (hA : 0 < n → A = some ⟨g, 0, none⟩) (hL : 0 < n → Lsv w g xs) (lx : Limbs xs) (hd : 0 < d) (hdB : d < B64) (nn : n ≤ 1099511627776) :
  Calls Tryz.prog 146 #[.slice A n c, .int .u64 (d : Int)] w fun e w' => e = .returned (.int .u64 ((pval xs % d : Nat) : Int)) ∧
   (∃ ds, ds.length = n ∧ Limbs ds ∧ pval ds = pval xs / d ∧ (0 < n → Lsv w' g ds)) ∧ w.grownBy w' (some g) := by
 have Hn := Lib.hid hn
 have HL := Lib.hid hL
 clear hn hL
 go_enter Tryz.func146, Tryz.ntmps146
 go_wp2_with fail
 go_loopw [4, 9] (fun r i wr => ∃ (k : Nat) (ds : List Nat), k ≤ n ∧ i = .int .i64 k ∧ r = .int .u64 ((pval (xs.drop (n - k)) % d : Nat) : Int) ∧ ds.length = k ∧ Limbs ds ∧ pval ds = pval (xs.drop (n - k)) / d ∧ (0 < n → Lsv wr g (xs.take (n - k) ++ ds)) ∧ w.grownBy wr (some g))
  (fun _ i _ => n - (intOf i).toNat)
 case atStart =>
  refine ⟨0, [], Nat.zero_le _, rfl, ?_, rfl, Limbs.nil, ?_, fun h => ?_, World.grownBy.refl _ _⟩
  ·rw [List.drop_of_length_le (by rw [Hn.out]; omega)]; simp [pval]
  ·rw [List.drop_of_length_le (by rw [Hn.out]; omega)]; simp [pval]
  ·rw [Nat.sub_zero, List.take_of_length_le (by rw [Hn.out]; exact Nat.le_refl _), List.append_nil]; exact HL.out h
 case round =>
  obtain ⟨k, ds, hk, rfl, rfl, hdl, hdL, hdv, hLw, hG⟩ := hrel
  have HG := Lib.hid hG
  have Hdv := Lib.hid hdv
  clear hdv hG
  by_cases hlt : k < n
  ·obtain ⟨j, hj⟩ : ∃ j, j = n - (k + 1) := ⟨_, rfl⟩
   have hjn : n - k = j + 1 := by omega
   have hjl : j < xs.length := by rw [Hn.out]; omega
   have hj1 : (n : Int) - 1 - (k : Int) = (j : Int) := by omega
   rw [hjn] at Hdv ⊢
   have Hj := Lib.hid hj
   rw [hjn] at hLw
   have hL2 := hLw (by omega)
   obtain rfl := hA (by omega)
   have hcell := hL2.cell (k := j) (by simp; omega)
   have hgd : (xs.take (j + 1) ++ ds).getD j 0 = xs.getD j 0 := by
    rw [List.getD_eq_getElem?_getD, List.getElem?_append_left (by rw [List.length_take]; omega), List.getElem?_take_of_lt (by omega), ← List.getD_eq_getElem?_getD]
   rw [hgd] at hcell
   have hfr := hL2.frozen j
   have hpd := pval_drop xs j hjl
   have hxl : xs.getD j 0 < B64 := lx.getD j
   generalize hH : pval (xs.drop (j + 1)) = H at *
   generalize xs.getD j 0 = x at *
   have hrd : H % d < d := Nat.mod_lt _ hd
   obtain ⟨q, hq⟩ : ∃ q, (H % d * B64 + x) / d = q := ⟨_, rfl⟩
   obtain ⟨r2, hr2⟩ : ∃ r, (H % d * B64 + x) % d = r := ⟨_, rfl⟩
   have hdd := div_digit H x d q r2 hd hq hr2
   have hqB : q < B64 := by
    rw [← hq, Nat.div_lt_iff_lt_mul hd]
    have h1 : (H % d + 1) * B64 ≤ d * B64 := Nat.mul_le_mul_right _ hrd
    rw [Nat.add_mul, Nat.one_mul] at h1
    rw [Nat.mul_comm B64]
    omega
   have h64 := Div64_any (H % d) x d hxl hdB hrd wr
   rw [hq, hr2] at h64
   have H64 := Lib.hid h64
   have HDD := Lib.hid hdd
   have HPD := Lib.hid hpd
   have HLw := Lib.hid hL2
   have hnew := Lib.hid (set_place0 xs ds j q hjl)
   clear h64 hdd hpd hq hr2 hL2 hLw hH hgd hj hjn
   generalize H % d = r at *
   go_wp2_with fail
   with_reducible refine H64.out.mono ?_
   rintro e w' ⟨rfl, hb⟩
   have hL3 : Lsv w' g (xs.take (j + 1) ++ ds) := HLw.out.block (hb.block g HLw.out.lt)
   have hcell2 := hL3.cell (k := j) (by simp; omega)
   have hfr2 := hL3.frozen j
   have hL4 := hL3.set j q
   rw [hnew.out] at hL4
   have hG2 : w.grownBy w' (some g) := grown_below HG.out hb
   have hG3 : w.grownBy (w'.setCell ⟨g, j, none⟩ (.int .u64 (q : Int))) (some g) := grownBy_setRow hG2 rfl _
   have HL4 := Lib.hid hL4
   have HG3 := Lib.hid hG3
   clear hb hL3 hL4 hG2 hG3
   go_wp2
   go_roundw
   case rel => exact ⟨k + 1, q :: ds, by omega, by go_num, by rw [← Hj.out, HPD.out, HDD.out.2], by simp [hdl], hdL.cons hqB, by rw [← Hj.out, pval, Hdv.out, HPD.out, HDD.out.1], fun _ => by rw [← Hj.out]; exact HL4.out, HG3.out⟩
   case measure => simp [intOf]; omega
  ·obtain rfl : k = n := by omega
   rw [Nat.sub_self, List.drop_zero] at Hdv
   rw [Nat.sub_self] at hLw
   have hLw2 := Lib.hid hLw
   clear hLw
   go_wp2
   go_ret
   refine ⟨by rw [Nat.sub_self, List.drop_zero]; rfl, ⟨ds, hdl, hdL, Hdv.out, fun h => ?_⟩, HG.out⟩
   have := hLw2.out h
   rw [List.take_zero, List.nil_append] at this
   exact this
theorem wpList_append_plain {P : Program} {w w' : World} {ops : Array Oper} {rest : List Oper} {o : Oper} {a : Act} {Q : Exit → Act → World → Prop} (hgd : o.guard = none) (s x : Operand) (t : TypeId)
  (ho : o.op = .call { callee := .builtin .append, args := #[s, x], argTypes := #[t, t] }) (sv xv v : Value) (hs : a.eval s = sv) (hx : a.eval x = xv)
  (hrun : (Builtin.append_ #[t, t] o.type #[sv, xv]).run P w = .ok v w') (h : wpList P ops Q rest (a.put o.dst v) w') : wpList P ops Q (o :: rest) a w := by
 refine wpList_plain hgd fun K hK => ?_
 unfold Oper.wp
 simp [execOp, ho, resolve, invoke, builtin, hs, hx, hrun, Result.andThen]
 exact hK _ _ h
set_option maxRecDepth 100000 in
theorem append_nil_parts (n c : Nat) (A : Option Addr) (xs : List Nat) (w : World) (hx : RdA w A xs) (hn : xs.length = n) (h0 : 0 < n) (hsz : n ≤ 1099511627776) :
  ∃ g cap w', (Builtin.append_ #[109, 109] 109 #[.slice none 0 0, .slice A n c]).run Tryz.prog w = .ok (.slice (some ⟨g, 0, none⟩) n cap) w' ∧ n ≤ cap ∧ cap ≤ maxLen ∧ w.heap.size ≤ g ∧ Lsv w' g xs ∧ Below w.heap.size w w' := by
 obtain ⟨i0, hi, hz0, hz1, hz2⟩ := info_parts info_u64
 have hown : w.ownsRow w.heap.size 80 1 (.slice none 0 0) 0 [] := ⟨by simp, .inl ⟨rfl, rfl⟩⟩
 obtain ⟨a, rfl, _, _⟩ := hx 0 (by omega)
 obtain ⟨v', w', hr, hown', hgr, hnil⟩ := run_append_own (P := Tryz.prog) w w.heap.size 109 109 80 i0 (.int .u64 0) 1 8 Tryz.underlying109 hi hz0 hz1 hz2 rfl (by decide) _ _ _ hown a n c (xs.map fun x : Nat => Value.int .u64 (x : Int)) (by simp [hn])
   (fun j u hj => by
    have hjl : j < xs.length := by
     have := (List.getElem?_eq_some_iff.1 hj).1
     simpa using this
    obtain ⟨a', e, _, hc⟩ := hx j hjl
    injection e with e
    subst e
    rw [hc]
    rw [List.getElem?_map, List.getElem?_eq_getElem hjl] at hj
    rw [List.getD_eq_getElem?_getD, List.getElem?_eq_getElem hjl]
    exact hj) (fun u hu => by obtain ⟨x, _, rfl⟩ := List.mem_map.1 hu; rfl) (by unfold maxLen; omega) (by omega) (Nat.le_refl _)
 rcases hown'.2 with ⟨hv, _⟩ | ⟨g', cap, cur, rfl, hbg, hh, hnc, hcm, hcs, hct⟩
 ·have := (hnil.1 hv).2
  omega
 ·rw [Nat.zero_add] at hr hnc
  refine ⟨g', cap, w', hr, hnc, hcm, hbg, ⟨cur, hh, fun k hk => ?_⟩, (Below.refl _ w).grown hgr (Nat.le_refl _) (by intro k hk; simp [Value.ownBlock] at hk)⟩
  rw [Nat.zero_add, List.nil_append] at hct
  have h2 := congrArg (fun l : List Value => l[k]?) hct
  change (cur.toList.take (n * 1))[k]? = (xs.map fun x : Nat => Value.int .u64 (x : Int))[k]? at h2
  rw [List.getElem?_take_of_lt (by omega), Array.getElem?_toList] at h2
  rw [h2, List.getElem?_map, List.getElem?_eq_getElem hk, List.getD_eq_getElem?_getD, List.getElem?_eq_getElem hk]
  rfl
theorem limbs_top (M m : Nat) (hm : (limbs M).length = m) (h : 0 < m) : 0 < (limbs M).getD (m - 1) 0 := by
 refine Nat.pos_of_ne_zero fun h0 => ?_
 have hp := pval_take_succ (limbs M) (m - 1)
 rw [List.take_of_length_le (by omega), h0, Nat.mul_zero, Nat.add_zero, pval_limbs] at hp
 have hl := pval_lt ((limbs_limbs M).take (m - 1))
 rw [← hp, List.length_take, Nat.min_eq_left (by omega)] at hl
 have := limbs_length_le hl
 omega
set_option maxRecDepth 100000 in
set_option maxHeartbeats 4000000 in
theorem divide_any (A B : Option Addr) (n m ca cb : Nat) (N M : Nat) (w : World) (hn : (limbs N).length = n) (hm : (limbs M).length = m) (hM : 0 < M) (hx : RdA w A (limbs N)) (hy : RdA w B (limbs M))
  (nn : n ≤ 1099511627000) (hca : n ≤ ca) (hcma : ca ≤ maxLen) (hcb : m ≤ cb) (hcm : cb ≤ maxLen) :
  Calls Tryz.prog 116 #[.slice A n ca, .slice B m cb] w fun e w' => RetDv w w' e (limbs (N / M)) (limbs (N % M)) := by
 have hm0 : 0 < m := by
  refine Nat.pos_of_ne_zero fun h => ?_
  have := limbs_eq_nil.1 (List.length_eq_zero_iff.1 (hm.trans h))
  omega
 have htop := limbs_top M m hm hm0
 have hlM := limbs_limbs M
 have hlN := limbs_limbs N
 by_cases hlt : n < m
 ·have hNM : N < M := by
   refine Nat.lt_of_not_le fun h => ?_
   have := limbs_length_mono h
   omega
  rw [Nat.div_eq_of_lt hNM, Nat.mod_eq_of_lt hNM]
  have HR : RetDv w w (.returned (.tuple #[.slice none 0 0, .slice A n ca])) (limbs 0) (limbs N) := ⟨none, A, 0, ca, by rw [hn]; rfl, Nat.le_refl _, by rw [hn]; exact hca, by unfold maxLen; omega, hcma, RdA.nil _ _, hx, Below.refl _ _⟩
  have HR2 := Lib.hid HR
  clear HR hn hm hx hy htop
  go_enter Tryz.func116, Tryz.ntmps116
  go_wp2
  go_ret2
  exact HR2.out
 ·by_cases hm1 : m = 1
  ·have hmI : ((m : Int) == 1) = true := by rw [beq_iff_eq]; omega
   have hM1 : (limbs M).getD 0 0 = M := by
    have := pval_limbs M
    have hp := pval_take_succ (limbs M) 0
    rw [List.take_of_length_le (by omega), this, Nat.pow_zero, Nat.one_mul, show pval (List.take 0 (limbs M)) = 0 from rfl, Nat.zero_add] at hp
    exact hp.symm
   have hMB : M < B64 := by rw [← hM1]; exact hlM.getD 0
   obtain ⟨b, rfl, hbb, hbc⟩ := hy 0 (by omega)
   rw [hM1] at hbc
   obtain ⟨g, cap, w1, hrun, hc1, hc2, hg, hL, hB1⟩ := append_nil_parts n ca A (limbs N) w hx hn (by omega) (by omega)
   have hbc1 := (hB1.cell (p := b.add 0) (by rw [block_add]; exact hbb)).trans hbc
   rw [show b.add 0 = b from by simp [Addr.add]] at hbc1
   have HRUN := Lib.hid hrun
   have hdv := Lib.hid (divideByPart_own (some ⟨g, 0, none⟩) n cap g M (limbs N) w1 hn (fun _ => rfl) (fun _ => hL) hlN hM hMB (by omega))
   have HX := Lib.hid (And.intro hn (And.intro hL (And.intro hB1 hg)))
   rw [pval_limbs] at hdv
   obtain ⟨r, hr⟩ : ∃ r, N % M = r := ⟨_, rfl⟩
   rw [hr] at hdv ⊢
   have hrB : r < B64 := by rw [← hr]; exact Nat.lt_trans (Nat.mod_lt _ hM) hMB
   have hnL : n ≤ cap := hc1
   clear hr hrun hn hm hx hy htop hL hB1
   go_enter Tryz.func116, Tryz.ntmps116
   go_wp2_with (at_builtin; refine wpList_append_plain rfl (.const (.slice none 0 0)) (.tmp 16) 109 rfl _ _ _ rfl rfl HRUN.out ?_)
   go_wp2_with fail
   with_reducible refine hdv.out.mono ?_
   rintro e w2 ⟨rfl, ⟨ds, hds1, hds2, hds3, hds4⟩, hG⟩
   have hL2 := hds4 (by omega)
   have HT := Lib.hid (trim_any (some ⟨g, 0, none⟩) n cap ds w2 hds1 hL2.rd hc1 hc2)
   have hB2 := Lib.hid (HX.out.2.2.1.grown hG HX.out.2.2.1.size (by intro j hj; injection hj with hj; have := HX.out.2.2.2; omega))
   have HD := Lib.hid (And.intro hds1 (And.intro hds2 (And.intro hds3 hL2)))
   clear hds1 hds2 hds3 hds4 hG hL2 hbc hbc1
   go_wp2_with fail
   with_reducible refine HT.out.mono ?_
   rintro e w3 ⟨rfl, hw3⟩
   rw [← hw3]
   clear hw3
   have hLr : Lst (w2.alloc (.cells #[.int .u64 (r : Int)] 80)) w2.heap.size [r] := Lst.new w2 [r]
   have hLim : Limbs [r] := by
    intro y hy
    rw [List.mem_singleton] at hy
    rw [hy]
    exact hrB
   have HT2 := Lib.hid (trim_any (some ⟨w2.heap.size, 0, none⟩) 1 1 [r] _ rfl hLr.rd (Nat.le_refl _) (by unfold maxLen; omega))
   have hBr : Below w2.heap.size w2 (w2.alloc (.cells #[.int .u64 (r : Int)] 80)) := (Below.refl _ _).alloc (Nat.le_refl _) _
   have HLr := Lib.hid (And.intro hLr hBr)
   clear hLr hBr
   go_wp2_with fail
   with_reducible refine HT2.out.mono ?_
   rintro e w3 ⟨rfl, hw3⟩
   rw [← hw3]
   clear hw3
   go_wp2
   go_ret2
   have e1 : ptrim ds = limbs (N / M) := by rw [ptrim_limbs HD.out.2.1, HD.out.2.2.1]
   have e2 : ptrim [r] = limbs r := by rw [ptrim_limbs hLim]; simp [pval]
   have r1 := ptrim_rd HD.out.2.2.2.rd HD.out.2.1
   have r2 := ptrim_rd HLr.out.1.rd hLim
   rw [← ptrim_limbs HD.out.2.1] at r1
   rw [← ptrim_limbs hLim] at r2
   have l1 := ptrim_length_le ds
   have l2 := ptrim_length_le [r]
   rw [HD.out.1] at l1
   rw [← e1, ← e2]
   exact ⟨_, _, _, _, rfl, Nat.le_trans l1 hnL, l2, hc2, by unfold maxLen; omega, r1.below HLr.out.2, r2, hB2.out.trans (HLr.out.2.mono hB2.out.size)⟩
  ·have hmI : ((m : Int) == 1) = false := by rw [beq_eq_false_iff_ne]; omega
   have hl := divideLong_any A B n m ca cb (limbs N) (limbs M) w hn hm (by omega) (by omega) hx hy hlN hlM htop nn hcb hcm
   rw [pval_limbs, pval_limbs] at hl
   have HL := Lib.hid hl
   clear hl hn hm hx hy htop
   go_enter Tryz.func116, Tryz.ntmps116
   go_wp2_with fail
   with_reducible refine HL.out.mono ?_
   rintro e w1 ⟨Q, R, cq, cr, rfl, h⟩
   go_wp2
   go_ret2
   exact ⟨Q, R, cq, cr, rfl, h⟩
end Go.Proofs.YtknaghdoffigjaaGreatDoor
