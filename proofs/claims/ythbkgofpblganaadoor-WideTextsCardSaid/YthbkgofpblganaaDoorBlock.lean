/-
  Decimal digits of fixed length, and the contract of wide.writeBlock.
-/
import Derived.Test.YthbkgofpblganaaDoorDivP
import Derived.Test.YthbkgofpblganaaDoorRText
namespace Go.Proofs.YthbkgofpblganaaDoor
open Go.RowKit

/-- The low i decimal digits of N, the most significant one first. -/
def lowD (N : Nat) : Nat → List UInt8
  | 0 => []
  | i + 1 => UInt8.ofNat (48 + N / 10 ^ i % 10) :: lowD N i
theorem lowD_length (N i : Nat) : (lowD N i).length = i := by
  induction i with
  | zero => rfl
  | succ i ih => simp [lowD, ih]
theorem lowD_mod (N i k : Nat) (h : i ≤ k) : lowD (N % 10 ^ k) i = lowD N i := by
  induction i with
  | zero => rfl
  | succ i ih =>
    rw [lowD, lowD, ih (by omega)]
    congr 2
    have e : k = i + (k - i) := by omega
    have e2 : k - i = (k - i - 1) + 1 := by omega
    rw [e, Nat.pow_add, Nat.mod_mul_right_div_self, e2, Nat.pow_succ]
    rw [Nat.mod_mul_left_mod]
theorem lowD_append (N m k : Nat) : lowD N (k + m) = lowD (N / 10 ^ m) k ++ lowD N m := by
  induction k with
  | zero => simp [lowD]
  | succ k ih =>
    rw [show k + 1 + m = (k + m) + 1 from by omega, lowD, ih, lowD, List.cons_append, Nat.div_div_eq_div_mul, ← Nat.pow_add, Nat.add_comm m k]
theorem lowD_snoc (N i : Nat) : lowD N (i + 1) = lowD (N / 10) i ++ [UInt8.ofNat (48 + N % 10)] := by
  have := lowD_append N 1 i
  rw [this]
  simp [lowD]
/-- The digits of fixed length are those without zeros in front, and zeros in front. -/
theorem lowD_dec (m N : Nat) (h : N < 10 ^ m) : lowD N m = List.replicate (m - (dec N).length) 48 ++ dec N := by
  induction m generalizing N with
  | zero =>
    obtain rfl : N = 0 := by simp at h; omega
    simp [lowD, dec_zero]
  | succ m ih =>
    have h2 : N / 10 < 10 ^ m := by rw [Nat.pow_succ] at h; omega
    rw [lowD_snoc, ih _ h2]
    by_cases h0 : N = 0
    · subst h0
      simp only [dec_zero, Nat.zero_div, List.length_nil, Nat.sub_zero, List.append_nil, Nat.zero_mod]
      rw [List.replicate_succ']; rfl
    · have hl := dec_length h2
      rw [dec_step N h0, List.length_append, List.length_singleton, show m + 1 - ((dec (N / 10)).length + 1) = m - (dec (N / 10)).length from by omega, List.append_assoc]
theorem dec_ne_nil {N : Nat} (h : N ≠ 0) : dec N ≠ [] := by rw [dec_step N h]; simp
/-- The first digit is not 0. -/
theorem dec_head (N : Nat) (h : N ≠ 0) : ∃ b l, dec N = b :: l ∧ b ≠ 48 := by
  induction N using Nat.strongRecOn with
  | ind N ih =>
    by_cases h2 : N / 10 = 0
    · rw [dec_step N h, h2, dec_zero]
      refine ⟨_, _, rfl, fun e => ?_⟩
      have e2 := congrArg UInt8.toNat e
      rw [digit_byte _ (Nat.mod_lt _ (by omega))] at e2
      have e3 : (48 : UInt8).toNat = 48 := rfl
      rw [e3] at e2
      omega
    · obtain ⟨b, l, e, hb⟩ := ih (N / 10) (by omega) h2
      rw [dec_step N h, e]
      exact ⟨b, _, rfl, hb⟩
theorem set_digitD (P Q R : List UInt8) (n k : Nat) (D : List UInt8) (b : UInt8) (hQ : Q.length = n) (hk : k < n) :
    (P ++ Q.take (n - k) ++ D ++ R).set (P.length + (n - 1 - k)) b = P ++ Q.take (n - (k + 1)) ++ (b :: D) ++ R := by
  have e : n - k = (n - (k + 1)) + 1 := by omega
  have e2 : P.length + (n - 1 - k) = (P ++ Q.take (n - (k + 1))).length := by rw [List.length_append, List.length_take, hQ, Nat.min_eq_left (by omega)]; omega
  rw [e, List.take_succ_eq_append_getElem (by omega), e2, ← List.append_assoc P, List.append_assoc, List.append_assoc, List.set_append_right _ _ (Nat.le_refl _), Nat.sub_self, List.singleton_append, List.set_cons_zero]
  simp

set_option maxRecDepth 100000 in
set_option maxHeartbeats 2000000 in
theorem writeBlock_any (g off n c v : Nat) (P Q R : List UInt8) (w : World) (hP : P.length = off) (hQ : Q.length = n) (hL : Bts w g (P ++ Q ++ R)) (hv : v < B64) (hn : n ≤ 1000) (ho : off ≤ 100000) :
    Calls Tryd.prog 65 #[.slice (some ⟨g, off, none⟩) n c, .int .u64 (v : Int)] w fun e w' => e = .returned (.tuple #[]) ∧ Bts w' g (P ++ lowD v n ++ R) ∧ w.grownBy w' (some g) := by
  rw [B64_eq] at hv
  have HP := Lib.hid hP
  have HQ := Lib.hid hQ
  have HL := Lib.hid hL
  clear hP hQ hL
  go_enter Tryd.func65, Tryd.ntmps65
  go_wp2_with fail
  go_loopw [1, 7] (fun d i wr => ∃ k : Nat, k ≤ n ∧ i = .int .i64 k ∧ d = .int .u64 ((v / 10 ^ k : Nat) : Int) ∧ Bts wr g (P ++ Q.take (n - k) ++ lowD v k ++ R) ∧ w.grownBy wr (some g))
    (fun _ i _ => n - (intOf i).toNat)
  case atStart => exact ⟨0, Nat.zero_le _, rfl, by simp, by rw [Nat.sub_zero, List.take_of_length_le (by rw [HQ.out]; exact Nat.le_refl _)]; simpa [lowD] using HL.out, World.grownBy.refl _ _⟩
  case round =>
    obtain ⟨k, hk, rfl, rfl, hB, hG⟩ := hrel
    have Hb := Lib.hid hB
    have HG := Lib.hid hG
    clear hB hG
    by_cases hlt : k < n
    · have hcell := Hb.out.cell (k := off + (n - 1 - k)) (by simp [HP.out, HQ.out, lowD_length]; omega)
      have hfr := Hb.out.frozen (off + (n - 1 - k))
      have hdl : v / 10 ^ k ≤ v := Nat.div_le_self _ _
      have hdd : v / 10 ^ (k + 1) = v / 10 ^ k / 10 := by rw [Nat.pow_succ, Nat.div_div_eq_div_mul]
      have HDD := Lib.hid hdd
      have hset := Hb.out.set (off + (n - 1 - k)) (UInt8.ofNat (48 + v / 10 ^ k % 10))
      rw [← HP.out, set_digitD P Q R n k _ _ HQ.out hlt, HP.out] at hset
      have hbv := digit_byte (v / 10 ^ k % 10) (Nat.mod_lt _ (by omega))
      rw [hbv, show ((48 + v / 10 ^ k % 10 : Nat) : Int) = 48 + ((v / 10 ^ k : Nat) : Int) % 10 from by omega, show UInt8.ofNat (48 + v / 10 ^ k % 10) :: lowD v k = lowD v (k + 1) from rfl] at hset
      have HS := Lib.hid hset
      have hG2 : ∀ u, w.grownBy (wr.setCell ⟨g, off + (n - 1 - k), none⟩ u) (some g) := fun u => grownBy_setRow HG.out rfl u
      have HG2 := Lib.hid hG2
      clear hG2
      clear hset hdd hbv
      generalize (P ++ Q.take (n - k) ++ lowD v k ++ R).getD (off + (n - 1 - k)) 0 = z0 at *
      generalize hd : v / 10 ^ k = d at *
      have Hd := Lib.hid hd
      clear hd
      go_wp2
      go_roundw
      case rel => exact ⟨k + 1, by omega, by go_num, by rw [HDD.out]; go_num, HS.out, HG2.out _⟩
      case measure => simp [intOf]; omega
    · obtain rfl : k = n := by omega
      rw [Nat.sub_self, List.take_zero, List.append_nil] at Hb
      go_wp2
      go_end0
      exact ⟨rfl, Hb.out, HG.out⟩
end Go.Proofs.YthbkgofpblganaaDoor
