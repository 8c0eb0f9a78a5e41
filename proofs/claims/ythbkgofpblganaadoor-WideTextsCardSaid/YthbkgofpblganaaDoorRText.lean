/-
  The contract of the reference's Text.
-/
import Derived.Test.YthbkgofpblganaaDoorROver
import Derived.Test.YthbkgofpblganaaDoorParses
namespace Go.Proofs.YthbkgofpblganaaDoor
open Go.RowKit

def decF : Nat → Nat → List UInt8
  | 0, _ => []
  | f + 1, n => if n = 0 then [] else decF f (n / 10) ++ [UInt8.ofNat (48 + n % 10)]
/-- The decimal digits of n, without zeros in front. -/
def dec (n : Nat) : List UInt8 := decF n n
theorem decF_any (f g n : Nat) (hf : n ≤ f) (hg : n ≤ g) : decF f n = decF g n := by
  induction f generalizing g n with
  | zero => obtain rfl : n = 0 := by omega
            cases g <;> simp [decF]
  | succ f ih =>
    cases g with
    | zero => obtain rfl : n = 0 := by omega
              simp [decF]
    | succ g =>
      simp only [decF]
      by_cases h : n = 0
      · simp [h]
      · rw [if_neg h, if_neg h, ih g _ (by omega) (by omega)]
theorem dec_zero : dec 0 = [] := rfl
theorem dec_step (n : Nat) (h : n ≠ 0) : dec n = dec (n / 10) ++ [UInt8.ofNat (48 + n % 10)] := by
  unfold dec
  cases n with
  | zero => exact absurd rfl h
  | succ n =>
    rw [show decF (n + 1) (n + 1) = decF n ((n + 1) / 10) ++ [UInt8.ofNat (48 + (n + 1) % 10)] from by simp [decF], decF_any n _ _ (by omega) (Nat.le_refl _)]
theorem dec_length {n k : Nat} (h : n < 10 ^ k) : (dec n).length ≤ k := by
  induction k generalizing n with
  | zero => obtain rfl : n = 0 := by simp at h; omega
            simp [dec_zero]
  | succ k ih =>
    by_cases h0 : n = 0
    · subst h0; simp [dec_zero]
    · rw [dec_step n h0, List.length_append, List.length_singleton]
      have := ih (n := n / 10) (by rw [Nat.pow_succ] at h; omega)
      omega
theorem bval_dec (s : ByteArray) (k : Nat) (h : s.size ≤ k) : (dec (bval s.data.toList)).length ≤ 3 * k := by
  refine dec_length (Nat.lt_of_lt_of_le (bval_pow s k h) ?_)
  rw [Nat.pow_mul]
  exact Nat.pow_le_pow_left (by omega) k
/-- The text of a number of this size, with this sign. -/
def txt (neg : Bool) (N : Nat) : List UInt8 := if N = 0 then [48] else if neg then 45 :: dec N else dec N

theorem bstr_append (a b : List UInt8) : bstr a ++ bstr b = bstr (a ++ b) := by
  apply ByteArray.ext
  simp [bstr, ByteArray.append]
theorem strOfNums_one (b : UInt8) : strOfNums [(b.toNat : Int)] = bstr [b] := by
  rw [← bstr_toList (strOfNums _), strOfNums_data]
  simp
theorem Rq.one (w : World) (d : Nat) (hd : d < 65536) (h0 : d ≠ 0) : Rq (w.alloc (.cells #[.int .i64 (d : Int)] 3)) (some ⟨w.heap.size, 0, none⟩) 1 1 d := by
  have e : qds d = [d] := by rw [qds_step d h0, Nat.mod_eq_of_lt (by rw [C16_eq]; exact hd), Nat.div_eq_of_lt (by rw [C16_eq]; exact hd), qds_zero]
  refine ⟨by rw [e]; exact Jst.new1 w d, by rw [e]; rfl, Nat.le_refl _, by unfold maxLen; omega, fun h => by cases h⟩
theorem Rq.ten (w : World) : Rq (w.alloc (.cells #[.int .i64 10] 3)) (some ⟨w.heap.size, 0, none⟩) 1 1 10 := Rq.one w 10 (by omega) (by omega)
theorem qds_small (d : Nat) (hd : d < 65536) (h0 : d ≠ 0) : qds d = [d] := by
  rw [qds_step d h0, Nat.mod_eq_of_lt (by rw [C16_eq]; exact hd), Nat.div_eq_of_lt (by rw [C16_eq]; exact hd), qds_zero]

def lenOf : Value → Nat
  | .string b => b.size
  | _ => 0
theorem conv_byte (w : World) (b : UInt8) : (convert 22 9 (.slice (some ⟨w.heap.size, 0, none⟩) 1 1)).run Tryd.prog (w.alloc (.cells #[.int .u8 (b.toNat : Int)] 5)) = .ok (.string (bstr [b])) (w.alloc (.cells #[.int .u8 (b.toNat : Int)] 5)) := by
  rw [conv_one, strOfNums_one]
theorem digit_byte (d : Nat) (h : d < 10) : (UInt8.ofNat (48 + d)).toNat = 48 + d := UInt8.toNat_ofNat_of_lt' (by rw [show UInt8.size = 256 from rfl]; omega)
theorem add_zero_addr (a : Addr) : a.add 0 = a := by unfold Addr.add; simp

set_option maxRecDepth 100000 in
set_option maxHeartbeats 4000000 in
theorem RText_any (x : Bool) (s : ByteArray) (w : World) (hs : s.size ≤ 300) :
    Calls Tryd.prog 37 #[.agg #[.bool x, .string s]] w fun e w' => e = .returned (.string (bstr (txt x (bval s.data.toList)))) ∧ Below w.heap.size w w' := by
  have hps := fun W => rdigits x s W (by omega)
  have hdl := bval_dec s s.size (Nat.le_refl _)
  generalize bval s.data.toList = N at *
  have HS := Lib.hid hps
  have HV := Lib.hid (Vars.start1 w x s)
  clear hps
  by_cases h0 : N = 0
  · have HT := Lib.hid (show txt x N = [48] by unfold txt; rw [if_pos h0])
    have H0 := Lib.hid h0
    clear h0
    go_enter Tryd.func37, Tryd.ntmps37
    go_wp2_with fail
    with_reducible refine (HS.out _).mono ?_
    rintro e w1 ⟨A1, n1, c1, rfl, hn1, hr1, hb1⟩
    obtain rfl : n1 = 0 := hr1.zero.2 H0.out
    go_wp2
    go_ret
    exact ⟨by rw [HT.out]; rfl, (HV.out.step hb1).1⟩
  · have HT := Lib.hid (show txt x N = if x then 45 :: dec N else dec N by unfold txt; rw [if_neg h0])
    have H0 := Lib.hid h0
    clear h0
    go_enter Tryd.func37, Tryd.ntmps37
    go_wp2_with fail
    with_reducible refine (HS.out _).mono ?_
    rintro e w1 ⟨A1, n1, c1, rfl, hn1, hr1, hb1⟩
    have hn0 : n1 ≠ 0 := fun e => H0.out (hr1.zero.1 e)
    have hnb : ((n1 : Int) == 0) = false := by rw [beq_eq_false_iff_ne]; omega
    have hV1 := Lib.hid (HV.out.step hb1)
    have hr1h := Lib.hid hr1
    clear hr1 hb1
    go_wp2_with fail
    go_loopw [3, 4, 5, 6, 7] (fun xs t _ _ _ wr => ∃ (A : Option Addr) (n c X : Nat) (S : List UInt8), xs = .slice A n c ∧ n ≤ 300 ∧ Rq wr A n c X ∧ t = .string (bstr S) ∧ dec N = dec X ++ S ∧ Vars w wr [(x, s)])
      (fun _ t _ _ _ _ => 2000 - lenOf t)
    case atStart => exact ⟨A1, n1, c1, N, [], rfl, by omega, hr1h.out, rfl, by simp, hV1.out⟩
    case round =>
      obtain ⟨A, n, c, X, S, rfl, hn, hr, rfl, hd, hv⟩ := hrel
      have Hr := Lib.hid hr
      have Hd := Lib.hid hd
      have Hv := Lib.hid hv
      have hSl : S.length ≤ 900 := by
        have := congrArg List.length hd
        rw [List.length_append] at this
        omega
      have hSs := bstr_size S
      clear hr hd hv
      by_cases hX : X = 0
      · have hn0 : n = 0 := Hr.out.zero.2 hX
        subst hn0
        have hdS : dec N = S := by have := Hd.out; rw [hX, dec_zero, List.nil_append] at this; exact this
        have HDS := Lib.hid hdS
        have c0 := (Hv.out.at_ 0 rfl).cell0
        rw [Nat.add_zero] at c0
        have hov : ¬ 9223372036854775807 < (⟨#[45]⟩ : ByteArray).size + (bstr S).size := by rw [s45]; omega
        have hap := bstr_append [45] S
        have HAP := Lib.hid hap
        clear hap hdS hX
        cases x
        · go_wp2
          go_ret
          exact ⟨by rw [HT.out, HDS.out]; rfl, Hv.out.1⟩
        · go_wp2
          go_ret
          refine ⟨?_, Hv.out.1⟩
          rw [HT.out, HDS.out]
          exact congrArg (fun z => Ending.returned (.string z)) HAP.out
      · have hn0 : n ≠ 0 := fun e => hX (Hr.out.zero.1 e)
        have hnp : 0 < n := by omega
        have hds := Lib.hid (dec_step X hX)
        have hov := Lib.hid (rover A _ n 1 c 1 X 10 _ (Hr.out.below ((Below.refl _ _).alloc (Nat.le_refl _) (.cells #[.int .i64 10] 3))) (Rq.ten wr) (by omega) (by omega) (by omega))
        go_wp2_with fail
        with_reducible refine hov.out.mono ?_
        rintro e w5 ⟨C, k, c2, C2, k2, c3, rfl, hk, hk2, hr5, hr6, hb5⟩
        have hV5 := Lib.hid ((Hv.out.step ((Below.refl _ _).alloc (Nat.le_refl _) _)).step hb5)
        have Hr5 := Lib.hid hr5
        have hm10 : X % 10 < 10 := Nat.mod_lt _ (by omega)
        obtain ⟨b, hb⟩ : ∃ b : UInt8, b = UInt8.ofNat (48 + X % 10) := ⟨_, rfl⟩
        have hbv : b.toNat = 48 + X % 10 := by rw [hb]; exact digit_byte _ hm10
        have hcv := conv_byte w5 b
        have hap := bstr_append [b] S
        have hnew := Lib.hid (show dec N = dec (X / 10) ++ ([b] ++ S) by rw [Hd.out, hds.out, hb, List.append_assoc])
        have ho2 : ¬ 9223372036854775807 < (bstr [b]).size + (bstr S).size := by rw [bstr_size]; simp; omega
        have HSZ := Lib.hid (show (bstr ([b] ++ S)).size = S.length + 1 by rw [bstr_size]; simp)
        have HAP := Lib.hid hap
        have hV6 := Lib.hid (hV5.out.step ((Below.refl _ _).alloc (Nat.le_refl _) (.cells #[.int .u8 (b.toNat : Int)] 5)))
        have hR6 := Lib.hid (Hr5.out.below ((Below.refl _ _).alloc (Nat.le_refl _) (.cells #[.int .u8 (b.toNat : Int)] 5)))
        clear hap
        by_cases hz : X % 10 = 0
        · obtain rfl : k2 = 0 := hr6.zero.2 hz
          have hb48 : b = 48 := by rw [hb, hz]; rfl
          clear hb
          subst hb48
          rw [show (((48 : UInt8).toNat : Nat) : Int) = 48 from rfl] at hcv hV6 hR6
          clear hb5 hov hr5 hr6
          go_wp2
          go_roundw
          case rel => exact ⟨C, k, c2, X / 10, [48] ++ S, rfl, by omega, hR6.out, by rw [← HAP.out], hnew.out, hV6.out⟩
          case measure =>
            have h1 := HSZ.out
            rw [← HAP.out] at h1
            simp only [lenOf]
            omega
        · have hk1 : k2 = 1 := by
            have := hr6.2.1
            rw [qds_small _ (by omega) hz] at this
            exact this.symm
          subst hk1
          obtain ⟨a2, rfl, ha2, hca⟩ := hr6.1 0 (by rw [qds_small _ (by omega) hz]; simp)
          rw [add_zero_addr, qds_small _ (by omega) hz] at hca
          have hca2 : w5.cell? a2 = some (.int .i64 ((X % 10 : Nat) : Int)) := hca
          generalize X % 10 = d at *
          have e2 : (b.toNat : Int) = 48 + (d : Int) := by omega
          rw [e2] at hcv hV6 hR6
          clear hbv hb e2
          clear hca hb5 hov hr5 hr6
          go_wp2
          go_roundw
          case rel => exact ⟨C, k, c2, X / 10, [b] ++ S, rfl, by omega, hR6.out, by rw [← HAP.out], hnew.out, hV6.out⟩
          case measure =>
            have h1 := HSZ.out
            rw [← HAP.out] at h1
            simp only [lenOf]
            omega
end Go.Proofs.YthbkgofpblganaaDoor
