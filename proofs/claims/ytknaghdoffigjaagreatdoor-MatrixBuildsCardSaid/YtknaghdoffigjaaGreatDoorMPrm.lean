/-
  The contract of matrix.isPrime, and of what it calls: power, isWitness, bits.TrailingZeros64.
-/
import Derived.Test.YtknaghdoffigjaaGreatDoorZMNewE
set_option linter.unusedSimpArgs false
set_option linter.unusedVariables false
set_option linter.unnecessarySimpa false
namespace Go.Proofs.YtknaghdoffigjaaGreatDoor
open Go.RowKit Go

/-- The numbers of this seat for those of the shelf. -/
def ren29 : Go.Shelf.Ren := ⟨fun | 29 => 154 | n => n, fun | 3 => 3 | 4 => 4 | 5 => 5 | 22 => 80 | 25 => 145 | 54 => 176 | n => n, fun | 1 => 1 | n => n⟩
theorem lays29 : Lays7.n29 Tryz.prog ren29 := by
  constructor
  case f29 => exact Tryz.func154.trans (congrArg some (by kernel_rfl))
  all_goals first | kernel_rfl | (intro w; kernel_rfl)
theorem tz64_any (x : Nat) (w : World) (_hx0 : x ≠ 0) (hx : x < 18446744073709551616) (hT : Tz w) :
    Calls Tryz.prog 154 #[.int .u64 (x : Int)] w fun e w' => e = .returned (.int .i64 (Lib.ctz 64 x : Nat)) ∧ w' = w :=
  Any7.bits_TrailingZeros64 lays29 x hx w fun _ => hT

/-- The loop of power. -/
def powL (n : Nat) : Nat → Nat → Nat → Nat → Nat
  | 0, _, _, r => r
  | f + 1, b, e, r => if e = 0 then r else powL n f (b * b % n) (e / 2) (if e % 2 = 1 then r * b % n else r)
theorem powL_zero (n f b r : Nat) : powL n f b 0 r = r := by
  cases f <;> simp [powL]
theorem powL_lt (n : Nat) (hn : 0 < n) : ∀ f b e r, r < n → powL n f b e r < n
  | 0, _, _, _, h => h
  | f + 1, b, e, r, h => by
    rw [powL]
    split
    · exact h
    · exact powL_lt n hn f _ _ _ (by split; exact Nat.mod_lt _ hn; exact h)
set_option maxHeartbeats 2000000 in
theorem power_any (b e n : Nat) (w : World) (hn : 0 < n) (hn2 : n < 2147483648) (hb : b < 4294967296) (he : e < 18446744073709551616) :
    Calls Tryz.prog 155 #[.int .u64 (b : Int), .int .u64 (e : Int), .int .u64 (n : Int)] w fun e' w' => e' = .returned (.int .u64 (powL n 64 b e 1 : Nat)) ∧ w' = w := by
  obtain ⟨res, hres⟩ : ∃ res, res = powL n 64 b e 1 := ⟨_, rfl⟩
  rw [← hres]
  have HRES := Lib.hid hres
  clear hres
  have hz : ((n : Int) == 0) = false := by rw [beq_eq_false_iff_ne]; omega
  have hz2 : (n : Int) ≠ 0 := by omega
  go_enter Tryz.func155, Tryz.ntmps155
  go_wp2_with fail
  go_loop [0, 1, 7] (fun sb se sr => ∃ f b e r : Nat, sb = .int .u64 (b : Int) ∧ se = .int .u64 (e : Int) ∧ sr = .int .u64 (r : Int) ∧ powL n f b e r = res ∧ e < 2 ^ f ∧ e < 18446744073709551616 ∧ b < 4294967296 ∧ r < 4294967296) (fun _ se _ => (intOf se).toNat)
  case atStart => exact ⟨64, b, e, 1, rfl, rfl, rfl, HRES.out.symm, he, he, hb, by omega⟩
  case round =>
    obtain ⟨f, b, e, r, rfl, rfl, rfl, ht, hf, he2, hb, hr⟩ := hrel
    by_cases he0 : e = 0
    · subst he0
      rw [powL_zero] at ht
      subst ht
      have HF := Lib.hid hf
      clear hf hb hr
      go_wp2
      go_ret
      exact ⟨rfl, rfl⟩
    · obtain ⟨f, rfl⟩ : ∃ g, f = g + 1 := ⟨f - 1, by
        cases f with
        | zero => simp at hf; omega
        | succ f => rfl⟩
      rw [powL, if_neg he0] at ht
      have hf2 : e / 2 < 2 ^ f := by rw [Nat.pow_succ] at hf; omega
      have g1 : decide ((e : Int) > 0) = true := by rw [decide_eq_true_iff]; omega
      have hbb : b * b < 18446744073709551616 := Nat.lt_of_le_of_lt (Nat.mul_le_mul (show b ≤ 4294967295 by omega) (show b ≤ 4294967295 by omega)) (by omega)
      have hrb : r * b < 18446744073709551616 := Nat.lt_of_le_of_lt (Nat.mul_le_mul (show r ≤ 4294967295 by omega) (show b ≤ 4294967295 by omega)) (by omega)
      have w1 : IntKind.u64.wrap ((b : Int) * (b : Int)) = ((b * b : Nat) : Int) := by rw [← Int.natCast_mul]; exact IntWalk.u64_in _ (by omega)
      have w2 : IntKind.u64.wrap ((r : Int) * (b : Int)) = ((r * b : Nat) : Int) := by rw [← Int.natCast_mul]; exact IntWalk.u64_in _ (by omega)
      have w3 : IntKind.u64.wrap ((e : Int) / 2) = ((e / 2 : Nat) : Int) := by rw [show (e : Int) / 2 = ((e / 2 : Nat) : Int) from by omega]; exact IntWalk.u64_in _ (by omega)
      have m1 : b * b % n < n := Nat.mod_lt _ hn
      have m2 : r * b % n < n := Nat.mod_lt _ hn
      have HT := Lib.hid ht
      have HF2 := Lib.hid hf2
      clear ht hf hbb hrb
      by_cases ho : e % 2 = 1
      · rw [if_pos ho] at HT
        have o1 : ((e : Int) % 2 == 1) = true := by rw [beq_iff_eq]; omega
        go_wp2
        go_round
        case rel => exact ⟨f, b * b % n, e / 2, r * b % n, rfl, rfl, rfl, HT.out, HF2.out, by omega, by omega, by omega⟩
        case measure => simp [intOf]; omega
      · rw [if_neg ho] at HT
        have o1 : ((e : Int) % 2 == 1) = false := by rw [beq_eq_false_iff_ne]; omega
        go_wp2
        go_round
        case rel => exact ⟨f, b * b % n, e / 2, r, rfl, rfl, rfl, HT.out, HF2.out, by omega, by omega, by omega⟩
        case measure => simp [intOf]; omega

/-- The loop of isWitness, and what it reports. -/
def witL (n : Nat) : Nat → Nat → Bool
  | 0, _ => true
  | h + 1, x => if x = n - 1 then false else witL n h (x * x % n)
def wit (b n : Nat) : Bool := if powL n 64 b ((n - 1) / 2 ^ Lib.ctz 64 (n - 1)) 1 = 1 then false else witL n (Lib.ctz 64 (n - 1)) (powL n 64 b ((n - 1) / 2 ^ Lib.ctz 64 (n - 1)) 1)
set_option maxHeartbeats 2000000 in
theorem isWitness_any (b n : Nat) (w : World) (hn : 2 < n) (hn2 : n < 2147483648) (hb : b < 4294967296) (hT : Tz w) :
    Calls Tryz.prog 143 #[.int .u64 (b : Int), .int .u64 (n : Int)] w fun e' w' => e' = .returned (.bool (wit b n)) ∧ w' = w := by
  have hz : ((n : Int) == 0) = false := by rw [beq_eq_false_iff_ne]; omega
  have hz2 : (n : Int) ≠ 0 := by omega
  obtain ⟨m, hm⟩ : ∃ m, m = n - 1 := ⟨_, rfl⟩
  obtain ⟨h, hh⟩ : ∃ h, h = Lib.ctz 64 m := ⟨_, rfl⟩
  have hh2 : h < 64 := by rw [hh]; exact (Lib.lowest_bit 64 m (by omega) (by omega)).2
  have htz := tz64_any m w (by omega) (by omega) hT
  rw [← hh] at htz
  obtain ⟨d, hd⟩ : ∃ d, d = m / 2 ^ h := ⟨_, rfl⟩
  have hd2 : d < 2147483648 := by rw [hd]; exact Nat.lt_of_le_of_lt (Nat.div_le_self _ _) (by omega)
  have hpw := power_any b d n w (by omega) hn2 hb (by omega)
  obtain ⟨x, hx⟩ : ∃ x, x = powL n 64 b d 1 := ⟨_, rfl⟩
  have hx2 : x < n := by rw [hx]; exact powL_lt n (by omega) _ _ _ _ (by omega)
  rw [← hx] at hpw
  have e0 : wit b n = if x = 1 then false else witL n h x := by unfold wit; rw [← hm, ← hh, ← hd, ← hx]
  have w1 : IntKind.u64.wrap ((n : Int) - 1) = (m : Int) := by rw [show (n : Int) - 1 = (m : Int) by omega]; exact IntWalk.u64_in _ (by omega)
  have hdi : (m : Int) / 2 ^ h = (d : Int) := by rw [hd, Int.natCast_ediv, Int.natCast_pow]; rfl
  have HTZ := Lib.hid htz
  have HPW := Lib.hid hpw
  have HDI := Lib.hid hdi
  have HM := Lib.hid hm
  clear htz hpw hdi hm hx hd hh
  obtain ⟨res, hres⟩ : ∃ r, r = wit b n := ⟨_, rfl⟩
  rw [← hres]
  have HE := Lib.hid (hres.trans e0)
  clear e0 hres
  go_enter Tryz.func143, Tryz.ntmps143
  go_wp2_with fail
  with_reducible refine (HTZ.out).mono ?_
  rintro e w1 ⟨rfl, rfl⟩
  have hdi := HDI.out
  go_wp2_with fail
  with_reducible refine (HPW.out).mono ?_
  rintro e w1 ⟨rfl, rfl⟩
  clear hdi
  by_cases hx1 : x = 1
  · have c1 : ((x : Int) == 1) = true := by rw [beq_iff_eq]; omega
    have he := HE.out
    rw [if_pos hx1] at he
    subst he
    clear hx1
    go_wp2
    go_ret
    exact ⟨rfl, rfl⟩
  · have c1 : ((x : Int) == 1) = false := by rw [beq_eq_false_iff_ne]; omega
    have he := HE.out
    rw [if_neg hx1] at he
    have HRES := Lib.hid he
    clear hx1 he
    go_wp2_with fail
    go_loop [6, 20] (fun sx si => ∃ x k : Nat, sx = .int .u64 (x : Int) ∧ si = .int .i64 (k : Int) ∧ k ≤ h ∧ x < n ∧ witL n (h - k) x = res) (fun _ si => h - (intOf si).toNat)
    case atStart => exact ⟨x, 0, rfl, rfl, Nat.zero_le _, hx2, HRES.out.symm⟩
    case round =>
      obtain ⟨y, k, rfl, rfl, hk, hy, ht⟩ := hrel
      clear c1
      by_cases hlt : k < h
      · obtain ⟨g, hg⟩ : ∃ g, h - k = g + 1 := ⟨h - k - 1, by omega⟩
        have hg2 : h - (k + 1) = g := by omega
        rw [hg, witL, ← HM.out] at ht
        have hyy : y * y < 18446744073709551616 := Nat.lt_of_le_of_lt (Nat.mul_le_mul (show y ≤ 4294967295 by omega) (show y ≤ 4294967295 by omega)) (by omega)
        have w2 : IntKind.u64.wrap ((y : Int) * (y : Int)) = ((y * y : Nat) : Int) := by rw [← Int.natCast_mul]; exact IntWalk.u64_in _ (by omega)
        have m1 : y * y % n < n := Nat.mod_lt _ (by omega)
        by_cases hm : y = m
        · rw [if_pos hm] at ht
          subst ht
          have c2 : ((y : Int) == (m : Int)) = true := by rw [beq_iff_eq]; omega
          clear hm
          go_wp2
          go_ret
          exact ⟨rfl, rfl⟩
        · rw [if_neg hm] at ht
          have c2 : ((y : Int) == (m : Int)) = false := by rw [beq_eq_false_iff_ne]; omega
          have HT := Lib.hid ht
          have HG := Lib.hid hg2
          clear hm ht hg hg2 hyy
          go_wp2
          go_round
          case rel => exact ⟨y * y % n, k + 1, rfl, by simp, by omega, m1, by rw [HG.out]; exact HT.out⟩
          case measure => simp [intOf]; omega
      · obtain rfl : k = h := by omega
        rw [Nat.sub_self, witL] at ht
        subst ht
        go_wp2
        go_ret
        exact ⟨rfl, rfl⟩

/-- What isPrime reports: no base is a witness. -/
def sprpL (n : Nat) : List Nat → Bool
  | [] => true
  | b :: l => if b % n ≠ 0 ∧ wit b n = true then false else sprpL n l
def sprp (n : Nat) : Bool := sprpL n [2, 3, 5, 7]
theorem base_at0 (w : World) : (Instr.index 157 (.agg #[.int .u64 2, .int .u64 3, .int .u64 5, .int .u64 7]) (.int .i64 0)).run Tryz.prog w = .ok (.int .u64 2) w := by kernel_rfl
theorem base_at1 (w : World) : (Instr.index 157 (.agg #[.int .u64 2, .int .u64 3, .int .u64 5, .int .u64 7]) (.int .i64 1)).run Tryz.prog w = .ok (.int .u64 3) w := by kernel_rfl
theorem base_at2 (w : World) : (Instr.index 157 (.agg #[.int .u64 2, .int .u64 3, .int .u64 5, .int .u64 7]) (.int .i64 2)).run Tryz.prog w = .ok (.int .u64 5) w := by kernel_rfl
theorem base_at3 (w : World) : (Instr.index 157 (.agg #[.int .u64 2, .int .u64 3, .int .u64 5, .int .u64 7]) (.int .i64 3)).run Tryz.prog w = .ok (.int .u64 7) w := by kernel_rfl
set_option maxRecDepth 100000 in
set_option maxHeartbeats 4000000 in
theorem isPrime_any (n : Nat) (w : World) (hn : 2 < n) (hn2 : n < 2147483648) (hT : Tz w) :
    Calls Tryz.prog 104 #[.int .u64 (n : Int)] w fun e w' => e = .returned (.bool (sprp n)) ∧ w' = w := by
  obtain ⟨res, hres⟩ : ∃ res, res = sprp n := ⟨_, rfl⟩
  rw [← hres]
  have HRES := Lib.hid hres
  clear hres
  have hz : ((n : Int) == 0) = false := by rw [beq_eq_false_iff_ne]; omega
  have hz2 : (n : Int) ≠ 0 := by omega
  have hwit := fun (b : Nat) (hb : b < 4294967296) => isWitness_any b n w hn hn2 hb hT
  have hmo := fun (b : Nat) => Int.natCast_emod b n
  have HW := Lib.hid hwit
  have HMO := Lib.hid hmo
  clear hwit hmo hT
  have i0 := base_at0
  have i1 := base_at1
  have i2 := base_at2
  have i3 := base_at3
  go_enter Tryz.func104, Tryz.ntmps104
  go_wp2_with fail
  go_loop [6] (fun si => ∃ k : Nat, si = .int .i64 (k : Int) ∧ k ≤ 4 ∧ sprpL n ([2, 3, 5, 7].drop k) = res) (fun si => 4 - (intOf si).toNat)
  case atStart => exact ⟨0, rfl, by omega, HRES.out.symm⟩
  case round =>
    obtain ⟨k, rfl, hk, ht⟩ := hrel
    obtain rfl | rfl | rfl | rfl | rfl : k = 0 ∨ k = 1 ∨ k = 2 ∨ k = 3 ∨ k = 4 := by omega
    · have ht2 : (if 2 % n ≠ 0 ∧ wit 2 n = true then false else sprpL n ([2, 3, 5, 7].drop 1)) = res := ht
      have hcall : Calls Tryz.prog 143 #[.int .u64 2, .int .u64 (n : Int)] w fun e w' => e = .returned (.bool (wit 2 n)) ∧ w' = w := HW.out 2 (by omega)
      have hmo := HMO.out 2
      clear ht
      by_cases h1 : 2 % n = 0
      · rw [if_neg (fun h => h.1 h1)] at ht2
        have n1 : ((2 : Int) % (n : Int) != 0) = false := by
          rw [show ((2 : Int) % (n : Int)) = ((2 % n : Nat) : Int) from hmo.symm, h1]; rfl
        have HT := Lib.hid ht2
        clear h1 hmo ht2 hcall
        go_wp2
        go_round
        case rel => exact ⟨1, rfl, by omega, HT.out⟩
        case measure => simp [intOf]
      · have n1 : ((2 : Int) % (n : Int) != 0) = true := by
          rw [show ((2 : Int) % (n : Int)) = ((2 % n : Nat) : Int) from hmo.symm, bne_iff_ne]; omega
        cases hw : wit 2 n with
        | true =>
          rw [if_pos ⟨h1, hw⟩] at ht2
          rw [hw] at hcall
          subst ht2
          have HC := Lib.hid hcall
          clear h1 hmo hcall hw
          go_wp2_with fail
          with_reducible refine (HC.out).mono ?_
          rintro e w1 ⟨rfl, rfl⟩
          go_wp2
          go_ret
          exact ⟨rfl, rfl⟩
        | false =>
          rw [if_neg (fun h => by rw [hw] at h; exact Bool.noConfusion h.2)] at ht2
          rw [hw] at hcall
          have HT := Lib.hid ht2
          have HC := Lib.hid hcall
          clear h1 hmo hcall hw ht2
          go_wp2_with fail
          with_reducible refine (HC.out).mono ?_
          rintro e w1 ⟨rfl, rfl⟩
          go_wp2
          go_round
          case rel => exact ⟨1, rfl, by omega, HT.out⟩
          case measure => simp [intOf]
    · have ht2 : (if 3 % n ≠ 0 ∧ wit 3 n = true then false else sprpL n ([2, 3, 5, 7].drop 2)) = res := ht
      have hcall : Calls Tryz.prog 143 #[.int .u64 3, .int .u64 (n : Int)] w fun e w' => e = .returned (.bool (wit 3 n)) ∧ w' = w := HW.out 3 (by omega)
      have hmo := HMO.out 3
      clear ht
      by_cases h1 : 3 % n = 0
      · rw [if_neg (fun h => h.1 h1)] at ht2
        have n1 : ((3 : Int) % (n : Int) != 0) = false := by
          rw [show ((3 : Int) % (n : Int)) = ((3 % n : Nat) : Int) from hmo.symm, h1]; rfl
        have HT := Lib.hid ht2
        clear h1 hmo ht2 hcall
        go_wp2
        go_round
        case rel => exact ⟨2, rfl, by omega, HT.out⟩
        case measure => simp [intOf]
      · have n1 : ((3 : Int) % (n : Int) != 0) = true := by
          rw [show ((3 : Int) % (n : Int)) = ((3 % n : Nat) : Int) from hmo.symm, bne_iff_ne]; omega
        cases hw : wit 3 n with
        | true =>
          rw [if_pos ⟨h1, hw⟩] at ht2
          rw [hw] at hcall
          subst ht2
          have HC := Lib.hid hcall
          clear h1 hmo hcall hw
          go_wp2_with fail
          with_reducible refine (HC.out).mono ?_
          rintro e w1 ⟨rfl, rfl⟩
          go_wp2
          go_ret
          exact ⟨rfl, rfl⟩
        | false =>
          rw [if_neg (fun h => by rw [hw] at h; exact Bool.noConfusion h.2)] at ht2
          rw [hw] at hcall
          have HT := Lib.hid ht2
          have HC := Lib.hid hcall
          clear h1 hmo hcall hw ht2
          go_wp2_with fail
          with_reducible refine (HC.out).mono ?_
          rintro e w1 ⟨rfl, rfl⟩
          go_wp2
          go_round
          case rel => exact ⟨2, rfl, by omega, HT.out⟩
          case measure => simp [intOf]
    · have ht2 : (if 5 % n ≠ 0 ∧ wit 5 n = true then false else sprpL n ([2, 3, 5, 7].drop 3)) = res := ht
      have hcall : Calls Tryz.prog 143 #[.int .u64 5, .int .u64 (n : Int)] w fun e w' => e = .returned (.bool (wit 5 n)) ∧ w' = w := HW.out 5 (by omega)
      have hmo := HMO.out 5
      clear ht
      by_cases h1 : 5 % n = 0
      · rw [if_neg (fun h => h.1 h1)] at ht2
        have n1 : ((5 : Int) % (n : Int) != 0) = false := by
          rw [show ((5 : Int) % (n : Int)) = ((5 % n : Nat) : Int) from hmo.symm, h1]; rfl
        have HT := Lib.hid ht2
        clear h1 hmo ht2 hcall
        go_wp2
        go_round
        case rel => exact ⟨3, rfl, by omega, HT.out⟩
        case measure => simp [intOf]
      · have n1 : ((5 : Int) % (n : Int) != 0) = true := by
          rw [show ((5 : Int) % (n : Int)) = ((5 % n : Nat) : Int) from hmo.symm, bne_iff_ne]; omega
        cases hw : wit 5 n with
        | true =>
          rw [if_pos ⟨h1, hw⟩] at ht2
          rw [hw] at hcall
          subst ht2
          have HC := Lib.hid hcall
          clear h1 hmo hcall hw
          go_wp2_with fail
          with_reducible refine (HC.out).mono ?_
          rintro e w1 ⟨rfl, rfl⟩
          go_wp2
          go_ret
          exact ⟨rfl, rfl⟩
        | false =>
          rw [if_neg (fun h => by rw [hw] at h; exact Bool.noConfusion h.2)] at ht2
          rw [hw] at hcall
          have HT := Lib.hid ht2
          have HC := Lib.hid hcall
          clear h1 hmo hcall hw ht2
          go_wp2_with fail
          with_reducible refine (HC.out).mono ?_
          rintro e w1 ⟨rfl, rfl⟩
          go_wp2
          go_round
          case rel => exact ⟨3, rfl, by omega, HT.out⟩
          case measure => simp [intOf]
    · have ht2 : (if 7 % n ≠ 0 ∧ wit 7 n = true then false else sprpL n ([2, 3, 5, 7].drop 4)) = res := ht
      have hcall : Calls Tryz.prog 143 #[.int .u64 7, .int .u64 (n : Int)] w fun e w' => e = .returned (.bool (wit 7 n)) ∧ w' = w := HW.out 7 (by omega)
      have hmo := HMO.out 7
      clear ht
      by_cases h1 : 7 % n = 0
      · rw [if_neg (fun h => h.1 h1)] at ht2
        have n1 : ((7 : Int) % (n : Int) != 0) = false := by
          rw [show ((7 : Int) % (n : Int)) = ((7 % n : Nat) : Int) from hmo.symm, h1]; rfl
        have HT := Lib.hid ht2
        clear h1 hmo ht2 hcall
        go_wp2
        go_round
        case rel => exact ⟨4, rfl, by omega, HT.out⟩
        case measure => simp [intOf]
      · have n1 : ((7 : Int) % (n : Int) != 0) = true := by
          rw [show ((7 : Int) % (n : Int)) = ((7 % n : Nat) : Int) from hmo.symm, bne_iff_ne]; omega
        cases hw : wit 7 n with
        | true =>
          rw [if_pos ⟨h1, hw⟩] at ht2
          rw [hw] at hcall
          subst ht2
          have HC := Lib.hid hcall
          clear h1 hmo hcall hw
          go_wp2_with fail
          with_reducible refine (HC.out).mono ?_
          rintro e w1 ⟨rfl, rfl⟩
          go_wp2
          go_ret
          exact ⟨rfl, rfl⟩
        | false =>
          rw [if_neg (fun h => by rw [hw] at h; exact Bool.noConfusion h.2)] at ht2
          rw [hw] at hcall
          have HT := Lib.hid ht2
          have HC := Lib.hid hcall
          clear h1 hmo hcall hw ht2
          go_wp2_with fail
          with_reducible refine (HC.out).mono ?_
          rintro e w1 ⟨rfl, rfl⟩
          go_wp2
          go_round
          case rel => exact ⟨4, rfl, by omega, HT.out⟩
          case measure => simp [intOf]
    · have ht2 : res = true := ht.symm
      subst ht2
      clear ht
      go_wp2
      go_ret
      exact ⟨rfl, rfl⟩
/-- The second prime that primes visits, and the odd numbers between. -/
theorem sprp_629 : sprp 2147483629 = true := by decide +kernel
theorem sprp_between : sprp 2147483645 = false ∧ sprp 2147483643 = false ∧ sprp 2147483641 = false ∧ sprp 2147483639 = false ∧ sprp 2147483637 = false ∧ sprp 2147483635 = false ∧ sprp 2147483633 = false ∧ sprp 2147483631 = false := by decide +kernel
end Go.Proofs.YtknaghdoffigjaaGreatDoor
