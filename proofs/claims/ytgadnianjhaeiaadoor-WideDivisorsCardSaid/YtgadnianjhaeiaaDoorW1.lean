/-
  The contracts of wide.significant and wide.partOf, for every string.
-/
import Derived.Test.YtgadnianjhaeiaaDoorNum
import Derived.Test.YtgadnianjhaeiaaDoorShelf
import Derived.WalkKit
import Derived.WalkSpells
import Derived.WalkLawsBesides
import Derived.Lib.Hide
import Derived.Lib.Strings
import Derived.Lib.IndexBytes
import Derived.Laws.Bits64b
namespace Go.Proofs.YtgadnianjhaeiaaDoor
open Go.RowKit

theorem ret_str {a b : ByteArray} (h : a = b) : Ending.returned (.string a) = .returned (.string b) := by rw [h]
theorem ret_int {k : IntKind} {a b : Int} (h : a = b) : Ending.returned (.int k a) = .returned (.int k b) := by rw [h]

theorem bstr_toList (s : ByteArray) : bstr s.data.toList = s := by
  obtain ⟨⟨l⟩⟩ := s; rfl
theorem extract_bstr (s : ByteArray) (k : Nat) : s.extract k s.size = bstr (s.data.toList.drop k) := by
  rw [← Lib.extract_to_end, bstr_toList]
theorem sig_drop_zero (s : ByteArray) (k : Nat) (h : k < s.size) (h0 : s[k] = 0) : sig (s.data.toList.drop k) = sig (s.data.toList.drop (k + 1)) := by
  rw [List.drop_eq_getElem_cons (by simpa using h), sig_cons, if_pos (show s.data.toList[k] = 0 from h0)]
theorem sig_drop_stop (s : ByteArray) (k : Nat) (h : k < s.size) (h0 : s[k] ≠ 0) : sig (s.data.toList.drop k) = s.data.toList.drop k := by
  rw [List.drop_eq_getElem_cons (by simpa using h), sig_cons, if_neg (show ¬ s.data.toList[k] = 0 from h0)]

set_option maxHeartbeats 400000 in
theorem significant_any (s : ByteArray) (w : World) (hs : s.size ≤ maxLen) :
    Calls Tryd.prog 53 #[.string s] w fun e w' => e = .returned (.string (bstr (canon (bval s.data.toList)))) ∧ w = w' := by
  unfold maxLen at hs
  go_enter Tryd.func53, Tryd.ntmps53
  go_wp2
  go_loop [3] (fun z => ∃ k : Nat, k ≤ s.size ∧ z = .int .i64 k ∧ sig s.data.toList = sig (s.data.toList.drop k)) (fun z => s.size - (intOf z).toNat)
  case atStart => exact ⟨0, Nat.zero_le _, rfl, by simp⟩
  case round =>
    obtain ⟨k, hk, rfl, hsig⟩ := hrel
    have H := Lib.hid hsig
    clear hsig
    by_cases hlt : k < s.size
    · by_cases h0 : s[k] = 0
      · have h0b : ((s[k].toNat : Int) == 0) = true := by rw [h0]; rfl
        have H2 := Lib.hid (H.out.trans (sig_drop_zero s k hlt h0))
        clear h0
        go_wp2
        all_goals
          go_round
          case rel => exact ⟨k + 1, by omega, by go_num, H2.out⟩
          case measure => simp [intOf]; omega
      · have h0b : ((s[k].toNat : Int) == 0) = false := by
          rw [beq_eq_false_iff_ne]; intro e; exact h0 (UInt8.toNat_inj.1 (by rw [show (0 : UInt8).toNat = 0 from rfl]; omega))
        have H2 := Lib.hid (H.out.trans (sig_drop_stop s k hlt h0))
        clear h0
        go_wp2
        go_ret
        exact ⟨ret_str (by rw [← sig_canon, H2.out, extract_bstr]), rfl⟩
    · go_wp2
      go_ret
      exact ⟨ret_str (by rw [← sig_canon, H.out, extract_bstr, List.drop_eq_nil_of_le (by simp; omega)]; rfl), rfl⟩

theorem bval_take (s : ByteArray) (k : Nat) (h : k < s.size) : bval (s.data.toList.take (k + 1)) = bval (s.data.toList.take k) * 256 + s[k].toNat := by
  rw [List.take_succ_eq_append_getElem (by simpa using h), bval_snoc]; rfl
theorem pow256_le (k : Nat) (h : k ≤ 7) : 256 ^ k ≤ 72057594037927936 := by
  have : (256 : Nat) ^ k ≤ 256 ^ 7 := Nat.pow_le_pow_right (by omega) h
  simpa using this

theorem or_byte (q b : Nat) (hq : q < 72057594037927936) (hb : b < 256) : bits .or .u64 ((q : Int) * 256) (IntKind.u64.wrap (b : Int)) = ((q * 256 + b : Nat) : Int) := by
  have e1 : IntKind.u64.wrap (b : Int) = ((b : Nat) : Int) := by rw [IntKind.wrap_u64]; omega
  have e2 : (q : Int) * 256 = ((2 ^ 8 * q : Nat) : Int) := by omega
  rw [e1, e2, bits_or_u64_nat _ _ (by omega) (by omega), ← Nat.two_pow_add_eq_or_of_lt (by omega) q, Nat.mul_comm]

set_option maxHeartbeats 400000 in
theorem partOf_any (s : ByteArray) (w : World) (hs : s.size ≤ 8) :
    Calls Tryd.prog 61 #[.string s] w fun e w' => e = .returned (.int .u64 (bval s.data.toList : Nat)) ∧ w = w' := by
  go_enter Tryd.func61, Tryd.ntmps61
  go_wp2
  go_loop [3, 4, 7] (fun p _ i => ∃ k : Nat, k ≤ s.size ∧ i = .int .i64 k ∧ p = .int .u64 (bval (s.data.toList.take k) : Nat)) (fun _ _ i => s.size - (intOf i).toNat)
  case atStart => exact ⟨0, Nat.zero_le _, rfl, rfl⟩
  case round =>
    obtain ⟨k, hk, rfl, rfl⟩ := hrel
    by_cases hlt : k < s.size
    · have hb := bval_lt (s.data.toList.take k)
      have hb2 := pow256_le k (by omega)
      rw [List.length_take, Nat.min_eq_left (by simpa using hk)] at hb
      have hb3 : bval (s.data.toList.take k) < 72057594037927936 := by omega
      have HT := Lib.hid (bval_take s k hlt)
      clear hb hb2
      generalize hq : bval (s.data.toList.take k) = q at *
      have hq := Lib.hid hq
      go_wp2
      go_round
      case rel => exact ⟨k + 1, by omega, by go_num, by rw [HT.out, or_byte q _ hb3 (UInt8.toNat_lt _)]⟩
      case measure => simp [intOf]; omega
    · go_wp2
      go_ret
      exact ⟨ret_int (by rw [List.take_of_length_le (by simp; omega)]), rfl⟩
end Go.Proofs.YtgadnianjhaeiaaDoor
