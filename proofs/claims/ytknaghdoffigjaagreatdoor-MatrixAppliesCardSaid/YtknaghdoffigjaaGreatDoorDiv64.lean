import Derived.Test.YtknaghdoffigjaaGreatDoorZParts
import Derived.Deep.QuietTactic
import Derived.BigQuiet
set_option linter.unusedSimpArgs false
set_option linter.unusedVariables false
set_option linter.unnecessarySimpa false
namespace Go.Proofs.YtknaghdoffigjaaGreatDoor
open Go.RowKit
/- Plain mathematics: one digit of a quotient of two digits, base B32. -/
theorem guess_more {N y b q yn1 yn0 rhat un32 un1 : Nat} (hb : 0 < b) (hy : y = yn1 * b + yn0) (hN : N = un32 * b + un1) (hr : un32 = q * yn1 + rhat) (h : b * rhat + un1 < q * yn0) (hy0 : 0 < y) : N / y + 1 ≤ q := by
 refine (Nat.div_lt_iff_lt_mul hy0).2 ?_
 rw [hN, hy, hr, Nat.add_mul, Nat.mul_add, Nat.mul_assoc, Nat.mul_comm rhat b]
 omega
theorem guess_end {N y b q yn1 yn0 rhat un32 un1 : Nat} (hy : y = yn1 * b + yn0) (hN : N = un32 * b + un1) (hr : un32 = q * yn1 + rhat) (h : q * yn0 ≤ b * rhat + un1) (hy0 : 0 < y) : q ≤ N / y := by
 rw [Nat.le_div_iff_mul_le hy0, hN, hy, hr, Nat.add_mul, Nat.mul_add, Nat.mul_assoc, Nat.mul_comm rhat b]
 omega
theorem guess_first {y b q yn1 yn0 un32 un1 Q : Nat} (hb : 0 < yn1) (hy : y = yn1 * b + yn0) (hu : un1 < b) (hyp : 0 < y) (hQ : (un32 * b + un1) / y = Q) (hq : q = un32 / yn1) (hN : 0 < b) : Q ≤ q := by
 rw [hq, Nat.le_div_iff_mul_le hb]
 have h1 : Q * y ≤ un32 * b + un1 := by rw [← hQ]; exact Nat.div_mul_le_self _ _
 have h2 : Q * (yn1 * b) ≤ Q * y := Nat.mul_le_mul_left _ (by omega)
 have h3 : Q * yn1 * b < (un32 + 1) * b := by rw [Nat.mul_assoc, Nat.add_mul]; omega
 have := Nat.lt_of_mul_lt_mul_right h3
 omega
theorem unscale {D q y p R2 : Nat} (hp : 0 < p) (h : D * p = q * (y * p) + R2) (hlt : R2 < y * p) : D / y = q ∧ D % y = R2 / p := by
 have h1 : D * p / (y * p) = q := by
  rw [h, Nat.mul_comm q, Nat.mul_add_div (by omega), Nat.div_eq_of_lt hlt, Nat.add_zero]
 have h2 : D * p % (y * p) = R2 := by
  rw [h, Nat.mul_comm q, Nat.mul_add_mod, Nat.mod_eq_of_lt hlt]
 rw [Nat.mul_div_mul_right _ _ hp] at h1
 rw [Nat.mul_mod_mul_right] at h2
 exact ⟨h1, by rw [← h2, Nat.mul_div_cancel _ hp]⟩
set_option maxRecDepth 100000 in
set_option maxHeartbeats 2000000 in
theorem Div64_zero (lo y : Nat) (hl : lo < B64) (hy : y < B64) (hy0 : 0 < y) (w : World) :
  Calls Tryz.prog 158 #[.int .u64 0, .int .u64 (lo : Int), .int .u64 (y : Int)] w fun e w' => e = .returned (.tuple #[.int .u64 ((lo / y : Nat) : Int), .int .u64 ((lo % y : Nat) : Int)]) ∧ Below w.heap.size w w' := by
 rw [B64_eq] at hl hy
 have hyb : ((y : Int) == 0) = false := by rw [beq_eq_false_iff_ne]; omega
 obtain ⟨d, hd⟩ : ∃ d, lo / y = d := ⟨_, rfl⟩
 obtain ⟨m, hm⟩ : ∃ m, lo % y = m := ⟨_, rfl⟩
 have hdl : d ≤ lo := by rw [← hd]; exact Nat.div_le_self _ _
 have e1 : (lo : Int) / (y : Int) = (d : Int) := by rw [← hd]; rfl
 have e2 : (lo : Int) % (y : Int) = (m : Int) := by rw [← hm]; rfl
 rw [hd, hm]
 clear hd hm
 go_enter Tryz.func158, Tryz.ntmps158
 go_wp2
 go_quiet (fail)
 go_wp2
 go_ret2
 exact ⟨congrArg (fun z => Ending.returned (.tuple #[.int .u64 (d : Int), .int .u64 z])) e2, below_many (Below.refl _ _) _⟩
theorem shl_fit (a s m : Nat) (h : a * 2 ^ s < 18446744073709551616) (hm : a * 2 ^ s = m) : IntKind.u64.wrap ((a : Int) * 2 ^ s) = (m : Int) := by
 have e : (a : Int) * 2 ^ s = ((a * 2 ^ s : Nat) : Int) := by rw [Int.natCast_mul, Int.natCast_pow]; rfl
 rw [e, hm, IntKind.wrap_u64]; omega
theorem shl_mod (a s m : Nat) (hm : a * 2 ^ s % 18446744073709551616 = m) : IntKind.u64.wrap ((a : Int) * 2 ^ s) = (m : Int) := by
 have e : (a : Int) * 2 ^ s = ((a * 2 ^ s : Nat) : Int) := by rw [Int.natCast_mul, Int.natCast_pow]; rfl
 rw [e, IntKind.wrap_u64]; omega
theorem and_low (a m : Nat) (h : a < 18446744073709551616) (hm : a % 4294967296 = m) : bits .and .u64 (a : Int) 4294967295 = (m : Int) := by
 rw [show (4294967295 : Int) = ((2 ^ 32 - 1 : Nat) : Int) from rfl, bits_and_u64_nat _ _ h (by omega), Nat.and_two_pow_sub_one_eq_mod, ← hm]
theorem shr_div (a s m : Nat) (hm : a / 2 ^ s = m) : (a : Int) / 2 ^ s = (m : Int) := by
 rw [← hm, Int.natCast_ediv, Int.natCast_pow]; rfl
theorem or_join (h l s m : Nat) (hs : s ≤ 64) (hh : h * 2 ^ s < 18446744073709551616) (hl : l < 18446744073709551616) (hm : h * 2 ^ s + l / 2 ^ (64 - s) = m) :
  bits .or .u64 (IntKind.u64.wrap ((h : Int) * 2 ^ s)) ((l : Int) / 2 ^ (64 - s)) = (m : Int) := by
 have hq : l / 2 ^ (64 - s) < 2 ^ s := by
  rw [Nat.div_lt_iff_lt_mul (Nat.pow_pos (by omega)), ← Nat.pow_add, show s + (64 - s) = 64 from by omega]
  exact hl
 have hq2 : (2 : Nat) ^ s ≤ 2 ^ 64 := Nat.pow_le_pow_right (by omega) hs
 rw [shl_fit h s _ hh rfl, shr_div l (64 - s) _ rfl, bits_or_u64_nat _ _ hh (by omega), Nat.mul_comm, ← Nat.two_pow_add_eq_or_of_lt hq, Nat.mul_comm, hm]
set_option maxRecDepth 100000 in
set_option maxHeartbeats 4000000 in
theorem Div64_more (hi lo y : Nat) (hh : 0 < hi) (hl : lo < B64) (hy : y < B64) (hlt : hi < y) (w : World) :
  Calls Tryz.prog 158 #[.int .u64 (hi : Int), .int .u64 (lo : Int), .int .u64 (y : Int)] w fun e w' => e = .returned (.tuple #[.int .u64 (((hi * B64 + lo) / y : Nat) : Int), .int .u64 (((hi * B64 + lo) % y : Nat) : Int)]) ∧ Below w.heap.size w w' := by
 obtain ⟨QV, hQV⟩ : ∃ z, (hi * B64 + lo) / y = z := ⟨_, rfl⟩
 obtain ⟨RV, hRV⟩ : ∃ z, (hi * B64 + lo) % y = z := ⟨_, rfl⟩
 rw [hQV, hRV]
 have HL := Lib.hid hl
 rw [B64_eq] at hl hy
 have hyb : ((y : Int) == 0) = false := by rw [beq_eq_false_iff_ne]; omega
 have hhb : ((hi : Int) == 0) = false := by rw [beq_eq_false_iff_ne]; omega
 have hlz := Tryz.bits_LeadingZeros64 (y : Int)
 rw [Int.toNat_natCast] at hlz
 have HLZ := Lib.hid hlz
 obtain ⟨L, hL⟩ : ∃ L, L = Lib.bitLen y := ⟨_, rfl⟩
 rw [← hL] at HLZ
 obtain ⟨b1, b2, hL64⟩ := bitLen_bounds 64 y (by omega)
 change y < 2 ^ Lib.bitLen y at b1
 change 0 < y → 2 ^ (Lib.bitLen y - 1) ≤ y at b2
 change Lib.bitLen y ≤ 64 at hL64
 rw [← hL] at b1 b2 hL64
 have b3 := b2 (by omega)
 have hL1 : 0 < L := by
  refine Nat.pos_of_ne_zero fun h => ?_
  rw [h] at b1
  omega
 clear hlz hL b2
 obtain ⟨s, hs⟩ : ∃ s, s = 64 - L := ⟨_, rfl⟩
 have hss : s ≤ 64 := by omega
 have p1 : 2 ^ L * 2 ^ s = 18446744073709551616 := by rw [← Nat.pow_add, show L + s = 64 from by omega]
 have p2 : 2 ^ (L - 1) * 2 ^ s = 9223372036854775808 := by rw [← Nat.pow_add, show L - 1 + s = 63 from by omega]
 have hpos : 0 < 2 ^ s := Nat.pow_pos (by omega)
 obtain ⟨Y, hY⟩ : ∃ Y, y * 2 ^ s = Y := ⟨_, rfl⟩
 have hY1 : Y < 18446744073709551616 := by rw [← hY, ← p1]; exact Nat.mul_lt_mul_of_pos_right b1 hpos
 have hY2 : 9223372036854775808 ≤ Y := by rw [← hY, ← p2]; exact Nat.mul_le_mul_right _ b3
 have hhs : hi * 2 ^ s < Y := by rw [← hY]; exact Nat.mul_lt_mul_of_pos_right hlt hpos
 obtain ⟨U, hU⟩ : ∃ U, hi * 2 ^ s + lo / 2 ^ (64 - s) = U := ⟨_, rfl⟩
 obtain ⟨V, hV⟩ : ∃ V, lo * 2 ^ s % 18446744073709551616 = V := ⟨_, rfl⟩
 -- the whole, shifted
 have hW : (hi * 18446744073709551616 + lo) * 2 ^ s = U * 18446744073709551616 + V := by
  have e1 : (2 : Nat) ^ (64 - s) * 2 ^ s = 18446744073709551616 := by rw [← Nat.pow_add, show 64 - s + s = 64 from by omega]
  have e2 : lo / 2 ^ (64 - s) = lo * 2 ^ s / 18446744073709551616 := by rw [← e1, Nat.mul_div_mul_right _ _ hpos]
  have e3 := Nat.div_add_mod (lo * 2 ^ s) 18446744073709551616
  rw [← hU, ← hV, e2, Nat.add_mul, Nat.add_mul, Nat.mul_right_comm]
  omega
 have hUY : U < Y := by
  have e1 : (hi * 18446744073709551616 + lo) * 2 ^ s < y * 18446744073709551616 * 2 ^ s := Nat.mul_lt_mul_of_pos_right (by omega) hpos
  rw [hW, Nat.mul_right_comm, hY] at e1
  omega
 have f1 := shl_fit y s Y (by rw [hY]; exact hY1) hY
 have f4 := or_join hi lo s U hss (by omega) hl hU
 have f5 := shl_mod lo s V hV
 obtain ⟨yn1, hyn1⟩ : ∃ n, n = Y / 4294967296 := ⟨_, rfl⟩
 obtain ⟨yn0, hyn0⟩ : ∃ n, Y % 4294967296 = n := ⟨_, rfl⟩
 obtain ⟨un1, hun1⟩ : ∃ n, n = V / 4294967296 := ⟨_, rfl⟩
 obtain ⟨un0, hun0⟩ : ∃ n, V % 4294967296 = n := ⟨_, rfl⟩
 have f3 := and_low Y yn0 hY1 hyn0
 have f7 := and_low V un0 (by omega) hun0
 have f2 : (Y : Int) / 4294967296 = (yn1 : Int) := by omega
 have f6 : (V : Int) / 4294967296 = (un1 : Int) := by omega
 have hVl : V < 18446744073709551616 := by omega
 have hy1b : ((yn1 : Int) == 0) = false := by rw [beq_eq_false_iff_ne]; omega
 have hy1p : 2147483648 ≤ yn1 ∧ yn1 < 4294967296 := by omega
 obtain ⟨q, hq⟩ : ∃ q, q = U / yn1 := ⟨_, rfl⟩
 obtain ⟨rh, hrh⟩ : ∃ r, r = U % yn1 := ⟨_, rfl⟩
 have f8 : (U : Int) / (yn1 : Int) = (q : Int) := by rw [hq]; rfl
 have hqr : U = q * yn1 + rh := by rw [hq, hrh, Nat.mul_comm]; exact (Nat.div_add_mod U yn1).symm
 have hrl : rh < yn1 := by rw [hrh]; exact Nat.mod_lt _ (by omega)
 have hqB : q ≤ 4294967297 := by
  have : U / yn1 < 4294967298 := by
   rw [Nat.div_lt_iff_lt_mul (by omega)]
   omega
  omega
 obtain ⟨m0, hm0⟩ : ∃ m : Nat, m = q * yn1 := ⟨_, rfl⟩
 have f9 : (q : Int) * (yn1 : Int) = (m0 : Int) := by rw [hm0]; simp
 have f10 : (U : Int) - (m0 : Int) = (rh : Int) := by rw [hm0]; omega
 obtain ⟨Q, hQ⟩ : ∃ Q, (U * 4294967296 + un1) / Y = Q := ⟨_, rfl⟩
 have hQB : Q < 4294967296 := by
  rw [← hQ, Nat.div_lt_iff_lt_mul (by omega)]
  omega
 have hQq : Q ≤ q := guess_first (by omega) (show Y = yn1 * 4294967296 + yn0 by omega) (by omega) (by omega) hQ hq (by omega)
 have hYsplit : Y = yn1 * 4294967296 + yn0 := by omega
 obtain ⟨R, hR⟩ : ∃ R, (U * 4294967296 + un1) % Y = R := ⟨_, rfl⟩
 have hRY : R < Y := by rw [← hR]; exact Nat.mod_lt _ (by omega)
 obtain ⟨M1, hM1⟩ : ∃ M, Q * Y = M := ⟨_, rfl⟩
 have hdm : M1 + R = U * 4294967296 + un1 := by
  have := Nat.div_add_mod (U * 4294967296 + un1) Y
  rw [hQ, hR, Nat.mul_comm, hM1] at this
  exact this
 obtain ⟨t1, ht1⟩ : ∃ t : Nat, t = M1 % 18446744073709551616 := ⟨_, rfl⟩
 obtain ⟨t2, ht2⟩ : ∃ t : Nat, t = U * 4294967296 % 18446744073709551616 := ⟨_, rfl⟩
 obtain ⟨t3, ht3⟩ : ∃ t : Nat, t = (t2 + un1) % 18446744073709551616 := ⟨_, rfl⟩
 have f11 : IntKind.u64.wrap ((Q : Int) * (Y : Int)) = (t1 : Int) := by rw [← Int.natCast_mul, hM1, IntKind.wrap_u64]; omega
 have f13 : IntKind.u64.wrap ((U : Int) * 4294967296) = (t2 : Int) := by rw [IntKind.wrap_u64]; omega
 have f14 : IntKind.u64.wrap ((t2 : Int) + (un1 : Int)) = (t3 : Int) := by rw [IntKind.wrap_u64]; omega
 have f15 : IntKind.u64.wrap ((t3 : Int) - (t1 : Int)) = (R : Int) := by rw [IntKind.wrap_u64]; omega
 have ht1l : t1 < 18446744073709551616 := by omega
 have ht2l : t2 < 18446744073709551616 := by omega
 have ht3l : t3 < 18446744073709551616 := by omega
 have HYS := Lib.hid hYsplit
 obtain ⟨q2, hq2⟩ : ∃ q, q = R / yn1 := ⟨_, rfl⟩
 obtain ⟨rh2, hrh2⟩ : ∃ r, r = R % yn1 := ⟨_, rfl⟩
 have g8 : (R : Int) / (yn1 : Int) = (q2 : Int) := by rw [hq2]; rfl
 have hqr2 : R = q2 * yn1 + rh2 := by rw [hq2, hrh2, Nat.mul_comm]; exact (Nat.div_add_mod R yn1).symm
 have hrl2 : rh2 < yn1 := by rw [hrh2]; exact Nat.mod_lt _ (by omega)
 have hqB2 : q2 ≤ 4294967297 := by
  have : R / yn1 < 4294967298 := by
   rw [Nat.div_lt_iff_lt_mul (by omega)]
   omega
  omega
 obtain ⟨m2, hm2⟩ : ∃ m : Nat, m = q2 * yn1 := ⟨_, rfl⟩
 have g9 : (q2 : Int) * (yn1 : Int) = (m2 : Int) := by rw [hm2]; simp
 have g10 : (R : Int) - (m2 : Int) = (rh2 : Int) := by rw [hm2]; omega
 obtain ⟨Q2, hQ2⟩ : ∃ Q, (R * 4294967296 + un0) / Y = Q := ⟨_, rfl⟩
 have hun0l : un0 < 4294967296 := by rw [← hun0]; exact Nat.mod_lt _ (by omega)
 have hQB2 : Q2 < 4294967296 := by
  rw [← hQ2, Nat.div_lt_iff_lt_mul (by omega)]
  omega
 have hQq2 : Q2 ≤ q2 := guess_first (by omega) hYsplit hun0l (by omega) hQ2 hq2 (by omega)
 obtain ⟨R2, hR2⟩ : ∃ z, (R * 4294967296 + un0) % Y = z := ⟨_, rfl⟩
 have hRY2 : R2 < Y := by rw [← hR2]; exact Nat.mod_lt _ (by omega)
 obtain ⟨M2, hM2⟩ : ∃ M, Q2 * Y = M := ⟨_, rfl⟩
 have hdm2 : M2 + R2 = R * 4294967296 + un0 := by
  have := Nat.div_add_mod (R * 4294967296 + un0) Y
  rw [hQ2, hR2, Nat.mul_comm, hM2] at this
  exact this
 obtain ⟨t4, ht4⟩ : ∃ t : Nat, t = M2 % 18446744073709551616 := ⟨_, rfl⟩
 obtain ⟨t5, ht5⟩ : ∃ t : Nat, t = R * 4294967296 % 18446744073709551616 := ⟨_, rfl⟩
 obtain ⟨t6, ht6⟩ : ∃ t : Nat, t = (t5 + un0) % 18446744073709551616 := ⟨_, rfl⟩
 have g11 : IntKind.u64.wrap ((Q2 : Int) * (Y : Int)) = (t4 : Int) := by rw [← Int.natCast_mul, hM2, IntKind.wrap_u64]; omega
 have g13 : IntKind.u64.wrap ((R : Int) * 4294967296) = (t5 : Int) := by rw [IntKind.wrap_u64]; omega
 have g14 : IntKind.u64.wrap ((t5 : Int) + (un0 : Int)) = (t6 : Int) := by rw [IntKind.wrap_u64]; omega
 have g15 : IntKind.u64.wrap ((t6 : Int) - (t4 : Int)) = (R2 : Int) := by rw [IntKind.wrap_u64]; omega
 have ht4l : t4 < 18446744073709551616 := by omega
 have ht5l : t5 < 18446744073709551616 := by omega
 have ht6l : t6 < 18446744073709551616 := by omega
 obtain ⟨R3, hR3⟩ : ∃ z, R2 / 2 ^ s = z := ⟨_, rfl⟩
 have g16 := shr_div R2 s R3 hR3
 have hfin : QV = Q * 4294967296 + Q2 ∧ RV = R3 := by
  rw [← hR3, ← hQV, ← hRV, B64_eq]
  refine unscale hpos ?_ (by rw [hY]; exact hRY2)
  rw [hY, hW, Nat.add_mul]
  have e1 : Q * 4294967296 * Y = M1 * 4294967296 := by rw [Nat.mul_right_comm, hM1]
  rw [e1, hM2]
  omega
 have HFIN := Lib.hid hfin
 have HQ2 := Lib.hid hQ2
 have HM2 := Lib.hid hqr2
 have HR := Lib.hid hR
 clear hM1 hdm ht1 ht2 ht3 hq2 hrh2 hqr2 hm2 hQ2 hR2 hM2 hdm2 ht4 ht5 ht6 hR3 hfin
 have HQ := Lib.hid hQ
 have HM := Lib.hid hqr
 have HHW := Lib.hid hW
 rw [hs] at f1 f4 f5 g16
 have Hs := Lib.hid hs
 clear hW hY hU hV hs p1 p2 b1 b3 hq hrh hyn1 hun1 hhs hQ hqr hYsplit hm0 hR hQV hRV
 go_enter Tryz.func158, Tryz.ntmps158
 go_wp2_with fail
 with_reducible refine (HLZ.out w (by omega) (by omega)).mono ?_
 rintro e w' ⟨rfl, hw⟩
 rw [hw]
 clear hw
 go_wp2_with fail
 go_loop [15, 16] (fun q r => ∃ q' r' : Nat, q = .int .u64 q' ∧ r = .int .u64 r' ∧ U = q' * yn1 + r' ∧ r' < 4294967296 ∧ Q ≤ q' ∧ q' ≤ 4294967297)
  (fun q _ => (intOf q).toNat)
 case atStart => exact ⟨q, rh, rfl, rfl, HM.out, by omega, hQq, hqB⟩
 case round =>
  -- GEN
  obtain ⟨q', r', rfl, rfl, hU0, hr', hQ1, hq1⟩ := hrel
  have hU' := Lib.hid hU0
  clear hU0
  obtain ⟨p, hp⟩ : ∃ p : Nat, p = q' * yn0 := ⟨_, rfl⟩
  have hpi : (q' : Int) * (yn0 : Int) = (p : Int) := by rw [hp]; simp
  by_cases hA : 4294967296 ≤ q'
  ·have hg1 : decide ((q' : Int) ≥ 4294967296) = true := by rw [decide_eq_true]; omega
   have hdec : Q + 1 ≤ q' := by omega
   clear hp
   by_cases hBk : 4294967296 ≤ r' + yn1
   ·have hQe : Q = q' - 1 := by
     have h1 := guess_end (N := U * 4294967296 + un1) (y := Y) (b := 4294967296) (q := q' - 1) (yn1 := yn1) (yn0 := yn0) (rhat := r' + yn1) (un32 := U) (un1 := un1) HYS.out rfl (by rw [hU'.out, Nat.sub_mul]; have := Nat.le_mul_of_pos_left yn1 (show 0 < q' by omega); omega) (by
      have h2 : (q' - 1) * yn0 ≤ 4294967296 * 4294967295 := Nat.mul_le_mul (by omega) (by omega)
      omega) (by omega)
     rw [HQ.out] at h1
     omega
    have e1 : (q' : Int) - 1 = (Q : Int) := by omega
    have hg2 : decide ((r' : Int) + (yn1 : Int) ≥ 4294967296) = true := by rw [decide_eq_true]; omega
    clear hQe
    go_wp2_with fail
    clear hBk hg2 e1 hdec hpi
    clear hU' hQ1 hq1 hr'
    go_loop [18, 16] (fun q r => ∃ q' r' : Nat, q = .int .u64 q' ∧ r = .int .u64 r' ∧ R = q' * yn1 + r' ∧ r' < 4294967296 ∧ Q2 ≤ q' ∧ q' ≤ 4294967297)
     (fun q _ => (intOf q).toNat)
    case atStart => exact ⟨q2, rh2, rfl, rfl, HM2.out, by omega, hQq2, hqB2⟩
    case round =>
     obtain ⟨q', r', rfl, rfl, hU0, hr', hQ1, hq1⟩ := hrel
     have hU' := Lib.hid hU0
     clear hU0
     obtain ⟨p, hp⟩ : ∃ p : Nat, p = q' * yn0 := ⟨_, rfl⟩
     have hpi : (q' : Int) * (yn0 : Int) = (p : Int) := by rw [hp]; simp
     by_cases hA : 4294967296 ≤ q'
     ·have hg1 : decide ((q' : Int) ≥ 4294967296) = true := by rw [decide_eq_true]; omega
      have hdec : Q2 + 1 ≤ q' := by omega
      clear hp
      by_cases hBk : 4294967296 ≤ r' + yn1
      ·have hQe : Q2 = q' - 1 := by
        have h1 := guess_end (N := R * 4294967296 + un0) (y := Y) (b := 4294967296) (q := q' - 1) (yn1 := yn1) (yn0 := yn0) (rhat := r' + yn1) (un32 := R) (un1 := un0) HYS.out rfl (by rw [hU'.out, Nat.sub_mul]; have := Nat.le_mul_of_pos_left yn1 (show 0 < q' by omega); omega) (by
         have h2 : (q' - 1) * yn0 ≤ 4294967296 * 4294967295 := Nat.mul_le_mul (by omega) (by omega)
         omega) (by omega)
        rw [HQ2.out] at h1
        omega
       have e1 : (q' : Int) - 1 = (Q2 : Int) := by omega
       have hg2 : decide ((r' : Int) + (yn1 : Int) ≥ 4294967296) = true := by rw [decide_eq_true]; omega
       clear hQe
       go_wp2
       go_ret2
       exact ⟨by rw [HFIN.out.1, HFIN.out.2]; rfl, Below.refl _ _⟩
      ·have hg2 : decide ((r' : Int) + (yn1 : Int) ≥ 4294967296) = false := by rw [decide_eq_false]; omega
       go_wp2
       go_round
       case rel => exact ⟨q' - 1, r' + yn1, by go_num, by go_num, by rw [hU'.out, Nat.sub_mul]; have := Nat.le_mul_of_pos_left yn1 (show 0 < q' by omega); omega, by omega, by omega, by omega⟩
       case measure => simp [intOf]; omega
     ·have hpl : p ≤ 4294967295 * 4294967295 := by rw [hp]; exact Nat.mul_le_mul (by omega) (by omega)
      have hg1 : decide ((q' : Int) ≥ 4294967296) = false := by rw [decide_eq_false]; omega
      by_cases hC : 4294967296 * r' + un0 < p
      ·have hdec : Q2 + 1 ≤ q' := by
        have h1 := guess_more (N := R * 4294967296 + un0) (y := Y) (b := 4294967296) (q := q') (yn1 := yn1) (yn0 := yn0) (rhat := r') (un32 := R) (un1 := un0) (by omega) HYS.out rfl hU'.out (by rw [← hp]; exact hC) (by omega)
        rw [HQ2.out] at h1
        exact h1
       clear hp
       by_cases hBk : 4294967296 ≤ r' + yn1
       ·have hQe : Q2 = q' - 1 := by
         have h1 := guess_end (N := R * 4294967296 + un0) (y := Y) (b := 4294967296) (q := q' - 1) (yn1 := yn1) (yn0 := yn0) (rhat := r' + yn1) (un32 := R) (un1 := un0) HYS.out rfl (by rw [hU'.out, Nat.sub_mul]; have := Nat.le_mul_of_pos_left yn1 (show 0 < q' by omega); omega) (by
          have h2 : (q' - 1) * yn0 ≤ 4294967296 * 4294967295 := Nat.mul_le_mul (by omega) (by omega)
          omega) (by omega)
         rw [HQ2.out] at h1
         omega
        have e1 : (q' : Int) - 1 = (Q2 : Int) := by omega
        have hg2 : decide ((r' : Int) + (yn1 : Int) ≥ 4294967296) = true := by rw [decide_eq_true]; omega
        clear hQe
        go_wp2
        go_ret2
        exact ⟨by rw [HFIN.out.1, HFIN.out.2]; rfl, Below.refl _ _⟩
       ·have hg2 : decide ((r' : Int) + (yn1 : Int) ≥ 4294967296) = false := by rw [decide_eq_false]; omega
        go_wp2
        go_round
        case rel => exact ⟨q' - 1, r' + yn1, by go_num, by go_num, by rw [hU'.out, Nat.sub_mul]; have := Nat.le_mul_of_pos_left yn1 (show 0 < q' by omega); omega, by omega, by omega, by omega⟩
        case measure => simp [intOf]; omega
      ·have hQe : q' = Q2 := by
        have h1 := guess_end (N := R * 4294967296 + un0) (y := Y) (b := 4294967296) (q := q') (yn1 := yn1) (yn0 := yn0) (rhat := r') (un32 := R) (un1 := un0) HYS.out rfl hU'.out (by rw [← hp]; omega) (by omega)
        rw [HQ2.out] at h1
        omega
       clear hp
       subst hQe
       go_wp2
       go_ret2
       exact ⟨by rw [HFIN.out.1, HFIN.out.2]; rfl, Below.refl _ _⟩
   ·have hg2 : decide ((r' : Int) + (yn1 : Int) ≥ 4294967296) = false := by rw [decide_eq_false]; omega
    go_wp2
    go_round
    case rel => exact ⟨q' - 1, r' + yn1, by go_num, by go_num, by rw [hU'.out, Nat.sub_mul]; have := Nat.le_mul_of_pos_left yn1 (show 0 < q' by omega); omega, by omega, by omega, by omega⟩
    case measure => simp [intOf]; omega
  ·have hpl : p ≤ 4294967295 * 4294967295 := by rw [hp]; exact Nat.mul_le_mul (by omega) (by omega)
   have hg1 : decide ((q' : Int) ≥ 4294967296) = false := by rw [decide_eq_false]; omega
   by_cases hC : 4294967296 * r' + un1 < p
   ·have hdec : Q + 1 ≤ q' := by
     have h1 := guess_more (N := U * 4294967296 + un1) (y := Y) (b := 4294967296) (q := q') (yn1 := yn1) (yn0 := yn0) (rhat := r') (un32 := U) (un1 := un1) (by omega) HYS.out rfl hU'.out (by rw [← hp]; exact hC) (by omega)
     rw [HQ.out] at h1
     exact h1
    clear hp
    by_cases hBk : 4294967296 ≤ r' + yn1
    ·have hQe : Q = q' - 1 := by
      have h1 := guess_end (N := U * 4294967296 + un1) (y := Y) (b := 4294967296) (q := q' - 1) (yn1 := yn1) (yn0 := yn0) (rhat := r' + yn1) (un32 := U) (un1 := un1) HYS.out rfl (by rw [hU'.out, Nat.sub_mul]; have := Nat.le_mul_of_pos_left yn1 (show 0 < q' by omega); omega) (by
       have h2 : (q' - 1) * yn0 ≤ 4294967296 * 4294967295 := Nat.mul_le_mul (by omega) (by omega)
       omega) (by omega)
      rw [HQ.out] at h1
      omega
     have e1 : (q' : Int) - 1 = (Q : Int) := by omega
     have hg2 : decide ((r' : Int) + (yn1 : Int) ≥ 4294967296) = true := by rw [decide_eq_true]; omega
     clear hQe
     go_wp2_with fail
     clear hBk hg2 e1 hdec hpi
     clear hU' hQ1 hq1 hr'
     go_loop [18, 16] (fun q r => ∃ q' r' : Nat, q = .int .u64 q' ∧ r = .int .u64 r' ∧ R = q' * yn1 + r' ∧ r' < 4294967296 ∧ Q2 ≤ q' ∧ q' ≤ 4294967297)
      (fun q _ => (intOf q).toNat)
     case atStart => exact ⟨q2, rh2, rfl, rfl, HM2.out, by omega, hQq2, hqB2⟩
     case round =>
      obtain ⟨q', r', rfl, rfl, hU0, hr', hQ1, hq1⟩ := hrel
      have hU' := Lib.hid hU0
      clear hU0
      obtain ⟨p, hp⟩ : ∃ p : Nat, p = q' * yn0 := ⟨_, rfl⟩
      have hpi : (q' : Int) * (yn0 : Int) = (p : Int) := by rw [hp]; simp
      by_cases hA : 4294967296 ≤ q'
      ·have hg1 : decide ((q' : Int) ≥ 4294967296) = true := by rw [decide_eq_true]; omega
       have hdec : Q2 + 1 ≤ q' := by omega
       clear hp
       by_cases hBk : 4294967296 ≤ r' + yn1
       ·have hQe : Q2 = q' - 1 := by
         have h1 := guess_end (N := R * 4294967296 + un0) (y := Y) (b := 4294967296) (q := q' - 1) (yn1 := yn1) (yn0 := yn0) (rhat := r' + yn1) (un32 := R) (un1 := un0) HYS.out rfl (by rw [hU'.out, Nat.sub_mul]; have := Nat.le_mul_of_pos_left yn1 (show 0 < q' by omega); omega) (by
          have h2 : (q' - 1) * yn0 ≤ 4294967296 * 4294967295 := Nat.mul_le_mul (by omega) (by omega)
          omega) (by omega)
         rw [HQ2.out] at h1
         omega
        have e1 : (q' : Int) - 1 = (Q2 : Int) := by omega
        have hg2 : decide ((r' : Int) + (yn1 : Int) ≥ 4294967296) = true := by rw [decide_eq_true]; omega
        clear hQe
        go_wp2
        go_ret2
        exact ⟨by rw [HFIN.out.1, HFIN.out.2]; rfl, Below.refl _ _⟩
       ·have hg2 : decide ((r' : Int) + (yn1 : Int) ≥ 4294967296) = false := by rw [decide_eq_false]; omega
        go_wp2
        go_round
        case rel => exact ⟨q' - 1, r' + yn1, by go_num, by go_num, by rw [hU'.out, Nat.sub_mul]; have := Nat.le_mul_of_pos_left yn1 (show 0 < q' by omega); omega, by omega, by omega, by omega⟩
        case measure => simp [intOf]; omega
      ·have hpl : p ≤ 4294967295 * 4294967295 := by rw [hp]; exact Nat.mul_le_mul (by omega) (by omega)
       have hg1 : decide ((q' : Int) ≥ 4294967296) = false := by rw [decide_eq_false]; omega
       by_cases hC : 4294967296 * r' + un0 < p
       ·have hdec : Q2 + 1 ≤ q' := by
         have h1 := guess_more (N := R * 4294967296 + un0) (y := Y) (b := 4294967296) (q := q') (yn1 := yn1) (yn0 := yn0) (rhat := r') (un32 := R) (un1 := un0) (by omega) HYS.out rfl hU'.out (by rw [← hp]; exact hC) (by omega)
         rw [HQ2.out] at h1
         exact h1
        clear hp
        by_cases hBk : 4294967296 ≤ r' + yn1
        ·have hQe : Q2 = q' - 1 := by
          have h1 := guess_end (N := R * 4294967296 + un0) (y := Y) (b := 4294967296) (q := q' - 1) (yn1 := yn1) (yn0 := yn0) (rhat := r' + yn1) (un32 := R) (un1 := un0) HYS.out rfl (by rw [hU'.out, Nat.sub_mul]; have := Nat.le_mul_of_pos_left yn1 (show 0 < q' by omega); omega) (by
           have h2 : (q' - 1) * yn0 ≤ 4294967296 * 4294967295 := Nat.mul_le_mul (by omega) (by omega)
           omega) (by omega)
          rw [HQ2.out] at h1
          omega
         have e1 : (q' : Int) - 1 = (Q2 : Int) := by omega
         have hg2 : decide ((r' : Int) + (yn1 : Int) ≥ 4294967296) = true := by rw [decide_eq_true]; omega
         clear hQe
         go_wp2
         go_ret2
         exact ⟨by rw [HFIN.out.1, HFIN.out.2]; rfl, Below.refl _ _⟩
        ·have hg2 : decide ((r' : Int) + (yn1 : Int) ≥ 4294967296) = false := by rw [decide_eq_false]; omega
         go_wp2
         go_round
         case rel => exact ⟨q' - 1, r' + yn1, by go_num, by go_num, by rw [hU'.out, Nat.sub_mul]; have := Nat.le_mul_of_pos_left yn1 (show 0 < q' by omega); omega, by omega, by omega, by omega⟩
         case measure => simp [intOf]; omega
       ·have hQe : q' = Q2 := by
         have h1 := guess_end (N := R * 4294967296 + un0) (y := Y) (b := 4294967296) (q := q') (yn1 := yn1) (yn0 := yn0) (rhat := r') (un32 := R) (un1 := un0) HYS.out rfl hU'.out (by rw [← hp]; omega) (by omega)
         rw [HQ2.out] at h1
         omega
        clear hp
        subst hQe
        go_wp2
        go_ret2
        exact ⟨by rw [HFIN.out.1, HFIN.out.2]; rfl, Below.refl _ _⟩
    ·have hg2 : decide ((r' : Int) + (yn1 : Int) ≥ 4294967296) = false := by rw [decide_eq_false]; omega
     go_wp2
     go_round
     case rel => exact ⟨q' - 1, r' + yn1, by go_num, by go_num, by rw [hU'.out, Nat.sub_mul]; have := Nat.le_mul_of_pos_left yn1 (show 0 < q' by omega); omega, by omega, by omega, by omega⟩
     case measure => simp [intOf]; omega
   ·have hQe : q' = Q := by
     have h1 := guess_end (N := U * 4294967296 + un1) (y := Y) (b := 4294967296) (q := q') (yn1 := yn1) (yn0 := yn0) (rhat := r') (un32 := U) (un1 := un1) HYS.out rfl hU'.out (by rw [← hp]; omega) (by omega)
     rw [HQ.out] at h1
     omega
    clear hp
    have hQe2 := hQe.symm
    clear hQe
    subst hQe2
    have hC2 : decide (4294967296 * (r' : Int) + (un1 : Int) < (p : Int)) = false := by rw [decide_eq_false]; omega
    clear hA hC
    go_wp2_with fail
    clear hC2 hg1 hpl hpi hU' hQ1 hq1 hr'
    go_loop [18, 16] (fun q r => ∃ q' r' : Nat, q = .int .u64 q' ∧ r = .int .u64 r' ∧ R = q' * yn1 + r' ∧ r' < 4294967296 ∧ Q2 ≤ q' ∧ q' ≤ 4294967297)
     (fun q _ => (intOf q).toNat)
    case atStart => exact ⟨q2, rh2, rfl, rfl, HM2.out, by omega, hQq2, hqB2⟩
    case round =>
     obtain ⟨q', r', rfl, rfl, hU0, hr', hQ1, hq1⟩ := hrel
     have hU' := Lib.hid hU0
     clear hU0
     obtain ⟨p, hp⟩ : ∃ p : Nat, p = q' * yn0 := ⟨_, rfl⟩
     have hpi : (q' : Int) * (yn0 : Int) = (p : Int) := by rw [hp]; simp
     by_cases hA : 4294967296 ≤ q'
     ·have hg1 : decide ((q' : Int) ≥ 4294967296) = true := by rw [decide_eq_true]; omega
      have hdec : Q2 + 1 ≤ q' := by omega
      clear hp
      by_cases hBk : 4294967296 ≤ r' + yn1
      ·have hQe : Q2 = q' - 1 := by
        have h1 := guess_end (N := R * 4294967296 + un0) (y := Y) (b := 4294967296) (q := q' - 1) (yn1 := yn1) (yn0 := yn0) (rhat := r' + yn1) (un32 := R) (un1 := un0) HYS.out rfl (by rw [hU'.out, Nat.sub_mul]; have := Nat.le_mul_of_pos_left yn1 (show 0 < q' by omega); omega) (by
         have h2 : (q' - 1) * yn0 ≤ 4294967296 * 4294967295 := Nat.mul_le_mul (by omega) (by omega)
         omega) (by omega)
        rw [HQ2.out] at h1
        omega
       have e1 : (q' : Int) - 1 = (Q2 : Int) := by omega
       have hg2 : decide ((r' : Int) + (yn1 : Int) ≥ 4294967296) = true := by rw [decide_eq_true]; omega
       clear hQe
       go_wp2
       go_ret2
       exact ⟨by rw [HFIN.out.1, HFIN.out.2]; rfl, Below.refl _ _⟩
      ·have hg2 : decide ((r' : Int) + (yn1 : Int) ≥ 4294967296) = false := by rw [decide_eq_false]; omega
       go_wp2
       go_round
       case rel => exact ⟨q' - 1, r' + yn1, by go_num, by go_num, by rw [hU'.out, Nat.sub_mul]; have := Nat.le_mul_of_pos_left yn1 (show 0 < q' by omega); omega, by omega, by omega, by omega⟩
       case measure => simp [intOf]; omega
     ·have hpl : p ≤ 4294967295 * 4294967295 := by rw [hp]; exact Nat.mul_le_mul (by omega) (by omega)
      have hg1 : decide ((q' : Int) ≥ 4294967296) = false := by rw [decide_eq_false]; omega
      by_cases hC : 4294967296 * r' + un0 < p
      ·have hdec : Q2 + 1 ≤ q' := by
        have h1 := guess_more (N := R * 4294967296 + un0) (y := Y) (b := 4294967296) (q := q') (yn1 := yn1) (yn0 := yn0) (rhat := r') (un32 := R) (un1 := un0) (by omega) HYS.out rfl hU'.out (by rw [← hp]; exact hC) (by omega)
        rw [HQ2.out] at h1
        exact h1
       clear hp
       by_cases hBk : 4294967296 ≤ r' + yn1
       ·have hQe : Q2 = q' - 1 := by
         have h1 := guess_end (N := R * 4294967296 + un0) (y := Y) (b := 4294967296) (q := q' - 1) (yn1 := yn1) (yn0 := yn0) (rhat := r' + yn1) (un32 := R) (un1 := un0) HYS.out rfl (by rw [hU'.out, Nat.sub_mul]; have := Nat.le_mul_of_pos_left yn1 (show 0 < q' by omega); omega) (by
          have h2 : (q' - 1) * yn0 ≤ 4294967296 * 4294967295 := Nat.mul_le_mul (by omega) (by omega)
          omega) (by omega)
         rw [HQ2.out] at h1
         omega
        have e1 : (q' : Int) - 1 = (Q2 : Int) := by omega
        have hg2 : decide ((r' : Int) + (yn1 : Int) ≥ 4294967296) = true := by rw [decide_eq_true]; omega
        clear hQe
        go_wp2
        go_ret2
        exact ⟨by rw [HFIN.out.1, HFIN.out.2]; rfl, Below.refl _ _⟩
       ·have hg2 : decide ((r' : Int) + (yn1 : Int) ≥ 4294967296) = false := by rw [decide_eq_false]; omega
        go_wp2
        go_round
        case rel => exact ⟨q' - 1, r' + yn1, by go_num, by go_num, by rw [hU'.out, Nat.sub_mul]; have := Nat.le_mul_of_pos_left yn1 (show 0 < q' by omega); omega, by omega, by omega, by omega⟩
        case measure => simp [intOf]; omega
      ·have hQe : q' = Q2 := by
        have h1 := guess_end (N := R * 4294967296 + un0) (y := Y) (b := 4294967296) (q := q') (yn1 := yn1) (yn0 := yn0) (rhat := r') (un32 := R) (un1 := un0) HYS.out rfl hU'.out (by rw [← hp]; omega) (by omega)
        rw [HQ2.out] at h1
        omega
       clear hp
       subst hQe
       go_wp2
       go_ret2
       exact ⟨by rw [HFIN.out.1, HFIN.out.2]; rfl, Below.refl _ _⟩
theorem Div64_any (hi lo y : Nat) (hl : lo < B64) (hy : y < B64) (hlt : hi < y) (w : World) :
  Calls Tryz.prog 158 #[.int .u64 (hi : Int), .int .u64 (lo : Int), .int .u64 (y : Int)] w fun e w' => e = .returned (.tuple #[.int .u64 (((hi * B64 + lo) / y : Nat) : Int), .int .u64 (((hi * B64 + lo) % y : Nat) : Int)]) ∧ Below w.heap.size w w' := by
 by_cases hh : hi = 0
 ·subst hh
  have := Div64_zero lo y hl hy hlt w
  rw [Nat.zero_mul, Nat.zero_add]
  exact this
 ·exact Div64_more hi lo y (by omega) hl hy hlt w
end Go.Proofs.YtknaghdoffigjaaGreatDoor
