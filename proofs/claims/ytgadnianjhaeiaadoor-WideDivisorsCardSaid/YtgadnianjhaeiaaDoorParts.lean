/-
  The contract of wide.partsOf.
-/
import Derived.Test.YtgadnianjhaeiaaDoorSigned
namespace Go.Proofs.YtgadnianjhaeiaaDoor
open Go.RowKit

/-- The first n digits of N. -/
def digs (N : Nat) : Nat → List Nat
  | 0 => []
  | i + 1 => digs N i ++ [N / B64 ^ i % B64]
theorem digs_length (N i : Nat) : (digs N i).length = i := by
  induction i with
  | zero => rfl
  | succ i ih => simp [digs, ih]
theorem digs_limbs (N i : Nat) : Limbs (digs N i) := by
  induction i with
  | zero => exact Limbs.nil
  | succ i ih => exact ih.snoc (Nat.mod_lt _ B64_pos)
theorem pval_digs (N i : Nat) : pval (digs N i) = N % B64 ^ i := by
  induction i with
  | zero => simp [digs, pval, Nat.mod_one]
  | succ i ih => rw [digs, pval_snoc, ih, digs_length, Nat.pow_succ, Nat.mod_mul]
theorem digs_eq_limbs (N n : Nat) (h1 : N < B64 ^ n) (h2 : 0 < n → B64 ^ (n - 1) ≤ N) : digs N n = limbs N := by
  have h := ptrim_limbs (digs_limbs N n)
  rw [pval_digs, Nat.mod_eq_of_lt h1] at h
  rw [← h]
  cases n with
  | zero => rfl
  | succ n =>
    have h3 := h2 (by omega)
    rw [Nat.add_sub_cancel] at h3
    rw [digs, ptrim_snoc, if_neg]
    have hpos : 0 < B64 ^ n := Nat.pow_pos B64_pos
    have h4 : 0 < N / B64 ^ n := Nat.div_pos h3 hpos
    have h5 : N / B64 ^ n < B64 := by rw [Nat.div_lt_iff_lt_mul hpos, Nat.mul_comm, ← Nat.pow_succ]; exact h1
    rw [Nat.mod_eq_of_lt h5]; omega
theorem canon_low (N : Nat) (h : 0 < (canon N).length) : 256 ^ ((canon N).length - 1) ≤ N := by
  refine Nat.le_of_not_lt fun hlt => ?_
  have := canon_length_le hlt
  omega
theorem bval_mid (l : List UInt8) (b e : Nat) (hb : b ≤ e) (he : e ≤ l.length) : bval ((l.drop b).take (e - b)) = bval l / 256 ^ (l.length - e) % 256 ^ (e - b) := by
  have h1 : l = l.take b ++ ((l.drop b).take (e - b) ++ l.drop e) := by
    have h2 : l.drop e = (l.drop b).drop (e - b) := by rw [List.drop_drop]; congr 1; omega
    rw [h2, List.take_append_drop, List.take_append_drop]
  have hm : ((l.drop b).take (e - b)).length = e - b := by rw [List.length_take, List.length_drop]; omega
  have hlt := bval_lt ((l.drop b).take (e - b))
  have hl3 := bval_lt (l.drop e)
  rw [hm] at hlt
  rw [List.length_drop] at hl3
  have hv : bval l = bval (l.take b) * 256 ^ (l.length - b) + (bval ((l.drop b).take (e - b)) * 256 ^ (l.length - e) + bval (l.drop e)) := by
    conv => lhs; rw [h1]
    rw [bval_append, bval_append, List.length_append, hm, List.length_drop, show e - b + (l.length - e) = l.length - b from by omega]
  generalize bval ((l.drop b).take (e - b)) = M at *
  have hp : 0 < 256 ^ (l.length - e) := Nat.pow_pos (by omega)
  have e2 : 256 ^ (l.length - b) = 256 ^ (l.length - e) * 256 ^ (e - b) := by rw [← Nat.pow_add]; congr 1; omega
  rw [hv, e2]
  have e3 : bval (l.take b) * (256 ^ (l.length - e) * 256 ^ (e - b)) + (M * 256 ^ (l.length - e) + bval (l.drop e)) = 256 ^ (l.length - e) * (256 ^ (e - b) * bval (l.take b) + M) + bval (l.drop e) := by
    rw [Nat.mul_add, Nat.mul_comm (bval (l.take b)), Nat.mul_assoc, Nat.mul_comm M, Nat.add_assoc]
  rw [e3, Nat.mul_add_div hp, Nat.div_eq_of_lt hl3, Nat.add_zero, Nat.mul_add_mod, Nat.mod_eq_of_lt hlt]
theorem part_value (N i : Nat) (h : 8 * i < (canon N).length) :
    bval (((canon N).drop ((canon N).length - 8 * i - 8)).take (((canon N).length - 8 * i) - ((canon N).length - 8 * i - 8))) = N / B64 ^ i % B64 := by
  have hm := bval_mid (canon N) ((canon N).length - 8 * i - 8) ((canon N).length - 8 * i) (by omega) (by omega)
  rw [bval_canon] at hm
  rw [hm, show (canon N).length - ((canon N).length - 8 * i) = 8 * i from by omega, B64_pow, ← Nat.pow_mul]
  have hN := bval_lt (canon N)
  rw [bval_canon] at hN
  by_cases h8 : 8 ≤ (canon N).length - 8 * i
  · rw [show (canon N).length - 8 * i - ((canon N).length - 8 * i - 8) = 8 from by omega]
  · rw [show (canon N).length - 8 * i - ((canon N).length - 8 * i - 8) = (canon N).length - 8 * i from by omega]
    have hlt : N / 256 ^ (8 * i) < 256 ^ ((canon N).length - 8 * i) := by
      rw [Nat.div_lt_iff_lt_mul (Nat.pow_pos (by omega)), ← Nat.pow_add, show (canon N).length - 8 * i + 8 * i = (canon N).length from by omega]
      exact hN
    have hle : 256 ^ ((canon N).length - 8 * i) ≤ 256 ^ 8 := Nat.pow_le_pow_right (by omega) (by omega)
    rw [Nat.mod_eq_of_lt hlt, Nat.mod_eq_of_lt (by omega)]

set_option maxRecDepth 100000 in
set_option maxHeartbeats 1000000 in
theorem partsOf_any (s : ByteArray) (w : World) (hs : s.size ≤ 8796093022208) :
    Calls Tryd.prog 45 #[.string s] w fun e w' => RetO w w' e (limbs (bval s.data.toList)) := by
  have hsig := significant_any s w (by unfold maxLen; omega)
  have hm : (canon (bval s.data.toList)).length ≤ 8796093022208 := by
    rw [← sig_canon]
    have := sig_length_le s.data.toList
    have e := Lib.size_eq s
    omega
  have hb1 := bval_lt (canon (bval s.data.toList))
  have hb2 := canon_low (bval s.data.toList)
  have hpv := part_value (bval s.data.toList)
  rw [bval_canon] at hb1
  generalize bval s.data.toList = N at *
  obtain ⟨m, hmm⟩ : ∃ m, m = (canon N).length := ⟨_, rfl⟩
  have hdg : digs N ((m + 7) / 8) = limbs N := by
    refine digs_eq_limbs N _ ?_ ?_
    · rw [B64_pow, ← Nat.pow_mul]
      refine Nat.lt_of_lt_of_le hb1 (Nat.pow_le_pow_right (by omega) (by omega))
    · intro h0
      rw [B64_pow, ← Nat.pow_mul]
      exact Nat.le_trans (Nat.pow_le_pow_right (by omega) (by omega)) (hb2 (by omega))
  rw [← hmm] at hpv hm
  obtain ⟨n, hn⟩ : ∃ n, n = (m + 7) / 8 := ⟨_, rfl⟩
  have hmk := make_parts n (by omega)
  rw [show ((n : Nat) : Int) = ((m : Int) + 8 - 1) / 8 from by omega] at hmk
  have hn1 : 8 * n ≤ m + 7 := by omega
  have hn2 : m ≤ 8 * n := by omega
  rw [← hn] at hdg
  have Hn := Lib.hid hn
  clear hn
  have hst : (bstr (canon N)).size = m := by rw [bstr_size, hmm]
  have Hsig := Lib.hid hsig
  have HPV := Lib.hid hpv
  have Hdg := Lib.hid hdg
  clear hsig hpv hdg hmm hb1 hb2
  generalize hS : bstr (canon N) = S at *
  have HS := Lib.hid hS
  clear hS
  have Hst := Lib.hid hst
  obtain ⟨S'⟩ : True := trivial
  go_enter Tryd.func45, Tryd.ntmps45
  go_wp2_with fail
  with_reducible refine Hsig.out.mono ?_
  rintro e w' ⟨rfl, rfl⟩
  go_wp2
  obtain ⟨g, hg⟩ : ∃ g, g = w.heap.size := ⟨_, rfl⟩
  have hL0 : Lst (w.alloc (.cells (U (List.replicate n 0)) 71)) g (List.replicate n 0) := by rw [hg]; exact Lst.new _ _
  have hB0 : Below g w (w.alloc (.cells (U (List.replicate n 0)) 71)) := (Below.refl _ _).alloc (by omega) _
  rw [← hg]
  have Hg := Lib.hid hg
  clear hg hmk
  go_loopw [16] (fun i wr => ∃ k : Nat, k ≤ n ∧ i = .int .i64 k ∧ Lst wr g (digs N k ++ List.replicate (n - k) 0) ∧ Below g w wr)
    (fun i _ => n - (intOf i).toNat)
  case atStart => exact ⟨0, Nat.zero_le _, rfl, hL0, hB0⟩
  case round =>
    obtain ⟨k, hk, rfl, hL, hB⟩ := hrel
    by_cases hlt : k < n
    · have h8 : 8 * k < m := by omega
      have hcell := hL.cell (k := k) (by simp [digs_length]; omega)
      have hfr := hL.frozen k
      have hlow : (max ((m : Int) - 8 * k - 8) 0).toNat = m - 8 * k - 8 := by omega
      have hbs : bval (S.extract (max ((m : Int) - 8 * k - 8) 0).toNat (m - 8 * k)).data.toList = N / B64 ^ k % B64 := by
        rw [hlow, Lib.extract_data, ← HS.out, bstr_data]
        exact HPV.out k h8
      have hpo := partOf_any (S.extract (max ((m : Int) - 8 * k - 8) 0).toNat (m - 8 * k)) wr (by
        rw [Lib.size_eq, Lib.extract_data, hlow, List.length_take]; omega)
      rw [hbs] at hpo
      have HPO := Lib.hid hpo
      have hL2 := hL.set k (N / B64 ^ k % B64)
      have hset := set_mid (digs N k) (n - (k + 1)) (N / B64 ^ k % B64)
      rw [digs_length, show n - (k + 1) + 1 = n - k from by omega] at hset
      rw [hset] at hL2
      have HL2 : Hid (Lst (wr.setCell ⟨g, k, none⟩ (.int .u64 ((N / B64 ^ k % B64 : Nat) : Int))) g (digs N (k + 1) ++ List.replicate (n - (k + 1)) 0)) := Lib.hid hL2
      have hB' := hB.setCell (p := ⟨g, k, none⟩) (Nat.le_refl g) (.int .u64 ((N / B64 ^ k % B64 : Nat) : Int))
      clear hlow hbs hpo hset hL2 hL
      generalize N / B64 ^ k % B64 = z at *
      go_wp2_with fail
      with_reducible refine HPO.out.mono ?_
      rintro e w' ⟨rfl, rfl⟩
      go_wp2
      go_roundw
      case rel => exact ⟨k + 1, by omega, by go_num, HL2.out, hB'⟩
      case measure => simp [intOf]; omega
    · obtain rfl : k = n := by omega
      rw [Nat.sub_self, List.replicate_zero, List.append_nil, Hdg.out] at hL
      have hlen := digs_length N k
      rw [Hdg.out] at hlen
      have Hlen := Lib.hid hlen
      clear hlen

      go_wp2
      go_ret
      exact ⟨g, [], by rw [List.append_nil, Hlen.out]; rfl, by rw [List.append_nil, Hlen.out]; unfold maxLen; omega, by have := Hg.out; omega, by rw [List.append_nil]; exact hL, Hg.out ▸ hB⟩
end Go.Proofs.YtgadnianjhaeiaaDoor
