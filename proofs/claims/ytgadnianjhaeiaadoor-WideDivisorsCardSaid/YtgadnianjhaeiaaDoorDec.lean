/-
  The contracts of wide.isDecimal, wide.readBlock and wide.timesPlus.
-/
import Derived.Test.YtgadnianjhaeiaaDoorGcdS
namespace Go.Proofs.YtgadnianjhaeiaaDoor
open Go.RowKit

def digit (c : UInt8) : Bool := decide (48 ≤ c.toNat ∧ c.toNat ≤ 57)
/-- The string consists of one or more decimal digits. -/
def isDec (l : List UInt8) : Bool := l.all digit && !l.isEmpty
/-- The number that these digits denote. -/
def dval (l : List UInt8) : Nat := l.foldl (fun n c => n * 10 + (c.toNat - 48)) 0
theorem dval_snoc (l : List UInt8) (c : UInt8) : dval (l ++ [c]) = dval l * 10 + (c.toNat - 48) := by simp [dval, List.foldl_append]
theorem dval_append (a b : List UInt8) : dval (a ++ b) = dval a * 10 ^ b.length + dval b := by
  refine snoc_ind (p := fun b => dval (a ++ b) = dval a * 10 ^ b.length + dval b) ?_ ?_ b
  · simp [dval]
  · intro l x ih
    rw [← List.append_assoc, dval_snoc, ih, dval_snoc, List.length_append, List.length_singleton, Nat.pow_succ, Nat.add_mul, Nat.mul_assoc, Nat.add_assoc]
theorem dval_lt (l : List UInt8) (h : l.all digit = true) : dval l < 10 ^ l.length := by
  revert h
  refine snoc_ind (p := fun l => l.all digit = true → dval l < 10 ^ l.length) ?_ ?_ l
  · simp [dval]
  · intro l x ih h
    rw [List.all_append, Bool.and_eq_true] at h
    have := ih h.1
    have hx : 48 ≤ x.toNat ∧ x.toNat ≤ 57 := by simpa [digit] using h.2
    rw [dval_snoc, List.length_append, List.length_singleton, Nat.pow_succ]
    omega

theorem all_take (s : ByteArray) (k : Nat) (h : k < s.size) (ha : (s.data.toList.take k).all digit = true) (hd : 48 ≤ s[k].toNat ∧ s[k].toNat ≤ 57) : (s.data.toList.take (k + 1)).all digit = true := by
  rw [List.take_succ_eq_append_getElem (by simpa using h), List.all_append, ha]
  have : digit (s.data.toList[k]'(by simpa using h)) = true := by simp only [digit]; exact decide_eq_true hd
  simpa using this
theorem not_all (s : ByteArray) (k : Nat) (h : k < s.size) (hd : ¬ (48 ≤ s[k].toNat ∧ s[k].toNat ≤ 57)) : isDec s.data.toList = false := by
  have hm : s.data.toList[k]'(by simpa using h) ∈ s.data.toList := List.getElem_mem _
  have hf : digit (s.data.toList[k]'(by simpa using h)) = false := by simp only [digit]; exact decide_eq_false hd
  unfold isDec
  have : s.data.toList.all digit = false := by
    rw [Bool.eq_false_iff]
    intro ha
    have := List.all_eq_true.1 ha _ hm
    rw [hf] at this
    cases this
  rw [this, Bool.false_and]

theorem ret_bool {a b : Bool} (h : a = b) : Ending.returned (.bool a) = .returned (.bool b) := by rw [h]

set_option maxHeartbeats 1000000 in
theorem isDecimal_any (s : ByteArray) (w : World) (hs : s.size ≤ maxLen) :
    Calls Tryd.prog 67 #[.string s] w fun e w' => e = .returned (.bool (isDec s.data.toList)) ∧ w = w' := by
  unfold maxLen at hs
  by_cases hne : s.size = 0
  · have he : s.data.toList = [] := List.length_eq_zero_iff.1 (by rw [← Lib.size_eq]; exact hne)
    have hse : s = ⟨#[]⟩ := by rw [← bstr_toList s, he]; rfl
    subst hse
    go_enter Tryd.func67, Tryd.ntmps67
    go_wp2
    go_loop [3, 6] (fun _ i => i = .int .i64 0) (fun _ i => 0)
    case atStart => rfl
    case round =>
      obtain rfl := hrel
      go_wp2
      go_ret
      exact ⟨rfl, rfl⟩
  · have hne2 : s.toList.isEmpty = false := by
      rw [Lib.toList_data]
      cases hc : s.data.toList with
      | nil => rw [Lib.size_eq, hc] at hne; exact absurd rfl hne
      | cons a l => rfl
    have hne3 : s.data.toList.isEmpty = false := by rw [← Lib.toList_data]; exact hne2
    have HNE := Lib.hid hne3
    clear hne3
    go_enter Tryd.func67, Tryd.ntmps67
    go_wp2
    go_loop [3, 6] (fun _ i => ∃ k : Nat, k ≤ s.size ∧ i = .int .i64 k ∧ (s.data.toList.take k).all digit = true) (fun _ i => s.size - (intOf i).toNat)
    case atStart => exact ⟨0, Nat.zero_le _, rfl, rfl⟩
    case round =>
      obtain ⟨k, hk, rfl, ha⟩ := hrel
      have HA := Lib.hid ha
      clear ha
      by_cases hlt : k < s.size
      · by_cases hd : 48 ≤ s[k].toNat ∧ s[k].toNat ≤ 57
        · have HA2 := Lib.hid (all_take s k hlt HA.out hd)
          obtain ⟨d1, d2⟩ := hd
          have d3 : (48 : Int) ≤ (s[k].toNat : Int) := by omega
          have d4 : (s[k].toNat : Int) ≤ 57 := by omega
          go_wp2
          go_round
          case rel => exact ⟨k + 1, by omega, by go_num, HA2.out⟩
          case measure => simp [intOf]; omega
        · have HF := Lib.hid (not_all s k hlt hd)
          by_cases d1 : s[k].toNat < 48
          · have d3 : (s[k].toNat : Int) < 48 := by omega
            clear hd
            go_wp2
            go_ret
            exact ⟨by rw [HF.out]; rfl, rfl⟩
          · have d3 : (48 : Int) ≤ (s[k].toNat : Int) := by omega
            have d4 : (57 : Int) < (s[k].toNat : Int) := by omega
            clear hd
            go_wp2
            go_ret
            exact ⟨by rw [HF.out]; rfl, rfl⟩
      · go_wp2
        go_ret
        have : isDec s.data.toList = true := by
          have h := HA.out
          rw [List.take_of_length_le (by rw [← Lib.size_eq]; omega)] at h
          unfold isDec
          rw [h, HNE.out]; rfl
        exact ⟨by rw [this]; rfl, rfl⟩

theorem dval_take (s : ByteArray) (k : Nat) (h : k < s.size) : dval (s.data.toList.take (k + 1)) = dval (s.data.toList.take k) * 10 + (s[k].toNat - 48) := by
  rw [List.take_succ_eq_append_getElem (by simpa using h), dval_snoc]; rfl
theorem digit_at (s : ByteArray) (k : Nat) (h : k < s.size) (ha : s.data.toList.all digit = true) : 48 ≤ s[k].toNat ∧ s[k].toNat ≤ 57 := by
  have := List.all_eq_true.1 ha (s.data.toList[k]'(by simpa using h)) (List.getElem_mem _)
  exact of_decide_eq_true this
theorem all_take_of (l : List UInt8) (k : Nat) (h : l.all digit = true) : (l.take k).all digit = true := by
  rw [List.all_eq_true] at h ⊢
  exact fun x hx => h x (List.mem_of_mem_take hx)
theorem all_drop_of (l : List UInt8) (k : Nat) (h : l.all digit = true) : (l.drop k).all digit = true := by
  rw [List.all_eq_true] at h ⊢
  exact fun x hx => h x (List.mem_of_mem_drop hx)
theorem pow18 (k : Nat) (h : k ≤ 18) : 10 ^ k ≤ 1000000000000000000 := by
  have : (10 : Nat) ^ k ≤ 10 ^ 18 := Nat.pow_le_pow_right (by omega) h
  rwa [show (10 : Nat) ^ 18 = 1000000000000000000 from by rfl] at this

set_option maxHeartbeats 1000000 in
theorem readBlock_any (s : ByteArray) (w : World) (hs : s.size ≤ 19) (ha : s.data.toList.all digit = true) :
    Calls Tryd.prog 70 #[.string s] w fun e w' => e = .returned (.int .u64 (dval s.data.toList : Nat)) ∧ w = w' := by
  have HA := Lib.hid ha
  clear ha
  go_enter Tryd.func70, Tryd.ntmps70
  go_wp2
  go_loop [3, 7] (fun p i => ∃ k : Nat, k ≤ s.size ∧ i = .int .i64 k ∧ p = .int .u64 (dval (s.data.toList.take k) : Nat)) (fun _ i => s.size - (intOf i).toNat)
  case atStart => exact ⟨0, Nat.zero_le _, rfl, rfl⟩
  case round =>
    obtain ⟨k, hk, rfl, rfl⟩ := hrel
    by_cases hlt : k < s.size
    · have hb := dval_lt (s.data.toList.take k) (all_take_of _ k HA.out)
      rw [List.length_take, Nat.min_eq_left (by simpa using hk)] at hb
      have hb2 := pow18 k (by omega)
      have hb3 : dval (s.data.toList.take k) < 1000000000000000000 := by omega
      have hd := digit_at s k hlt HA.out
      obtain ⟨d1, d2⟩ := hd
      have HT := Lib.hid (dval_take s k hlt)
      clear hb hb2
      generalize dval (s.data.toList.take k) = q at *
      go_wp2
      go_round
      case rel => exact ⟨k + 1, by omega, by go_num, by rw [HT.out]; go_num⟩
      case measure => simp [intOf]; omega
    · go_wp2
      go_ret
      exact ⟨ret_int (by rw [List.take_of_length_le (by simp; omega)]), rfl⟩

/-- Multiplying by f and adding a part: the digits and the carry of the first k places. -/
def tpN (ts : List Nat) (f part : Nat) : Nat → List Nat × Nat
  | 0 => ([], part)
  | k + 1 => ((tpN ts f part k).1 ++ [(ts.getD k 0 * f + (tpN ts f part k).2) % B64], (ts.getD k 0 * f + (tpN ts f part k).2) / B64)
theorem tpN_length (ts : List Nat) (f part k : Nat) : (tpN ts f part k).1.length = k := by
  induction k with
  | zero => rfl
  | succ k ih => simp [tpN, ih]
theorem tpN_ok (ts : List Nat) (f part k : Nat) (ht : Limbs ts) (hf : f < B64) (hp : part < B64) : Limbs (tpN ts f part k).1 ∧ (tpN ts f part k).2 < B64 := by
  induction k with
  | zero => exact ⟨Limbs.nil, hp⟩
  | succ k ih =>
    refine ⟨ih.1.snoc (Nat.mod_lt _ B64_pos), ?_⟩
    have h1 := mulle _ _ (ht.getD k) hf
    have h3 := ih.2
    simp only [tpN]
    rw [Nat.div_lt_iff_lt_mul B64_pos]
    rw [B64_eq] at *
    omega
theorem tpN_val (ts : List Nat) (f part k : Nat) : pval (tpN ts f part k).1 + B64 ^ k * (tpN ts f part k).2 = pval (ts.take k) * f + part := by
  induction k with
  | zero => simp [tpN, pval]
  | succ k ih =>
    have hd := Nat.mod_add_div (ts.getD k 0 * f + (tpN ts f part k).2) B64
    have h2 := congrArg (fun n => B64 ^ k * n) hd
    rw [pval_take_succ, tpN, pval_snoc, tpN_length]
    simp only
    simp only [Nat.mul_add] at h2
    rw [Nat.pow_succ, Nat.mul_assoc, Nat.add_mul, Nat.mul_assoc (B64 ^ k)]
    omega
theorem tp_step (y f c : Nat) (hy : y < B64) (hf : f < B64) (hc : c < B64) :
    (y * f % B64 + c) % B64 = (y * f + c) % B64 ∧ y * f / B64 + (y * f % B64 + c) / B64 = (y * f + c) / B64 ∧ (y * f + c) / B64 ≤ 18446744073709551615 := by
  have h := mulle y f hy hf
  generalize y * f = p at *
  rw [B64_eq] at *
  refine ⟨by omega, by omega, by omega⟩

set_option maxHeartbeats 1000000 in
theorem timesPlus_any (T : Option Addr) (n ct g f part : Nat) (ts : List Nat) (w : World) (hT : 0 < n → T = some ⟨g, 0, none⟩) (hL : Lst w g ts) (ht : n ≤ ts.length) (lt : Limbs ts) (hf : f < B64) (hp : part < B64) (nn : n ≤ 1099511627776) :
    Calls Tryd.prog 69 #[.slice T n ct, .int .u64 (f : Int), .int .u64 (part : Int)] w fun e w' =>
      e = .returned (.int .u64 ((tpN ts f part n).2 : Nat)) ∧ Lst w' g ((tpN ts f part n).1 ++ ts.drop n) ∧ w.grownBy w' (some g) := by
  go_enter Tryd.func69, Tryd.ntmps69
  go_wp2
  go_loopw [2, 13] (fun c i wr => ∃ k : Nat, k ≤ n ∧ i = .int .i64 k ∧ c = .int .u64 ((tpN ts f part k).2 : Nat) ∧ Lst wr g ((tpN ts f part k).1 ++ ts.drop k) ∧ w.grownBy wr (some g))
    (fun _ i _ => n - (intOf i).toNat)
  case atStart => exact ⟨0, Nat.zero_le _, rfl, rfl, hL, ⟨rfl, rfl, rfl, Nat.le_refl _, fun _ _ _ => rfl⟩⟩
  case round =>
    obtain ⟨k, hk, rfl, rfl, hLk, hG⟩ := hrel
    have hok := tpN_ok ts f part k lt hf hp
    have hlen := tpN_length ts f part k
    by_cases hlt : k < n
    · obtain rfl := hT (by omega)
      have hcell := hLk.cell (k := k) (by simp [hlen]; omega)
      have hfr := hLk.frozen k
      have hgd : ((tpN ts f part k).1 ++ ts.drop k).getD k 0 = ts.getD k 0 := by
        rw [List.getD_eq_getElem?_getD, List.getElem?_append_right (by omega), hlen, Nat.sub_self, List.getElem?_drop, Nat.add_zero, ← List.getD_eq_getElem?_getD]
      rw [hgd] at hcell
      have hL2 := hLk.set k ((ts.getD k 0 * f + (tpN ts f part k).2) % B64)
      have hset : ((tpN ts f part k).1 ++ ts.drop k).set k ((ts.getD k 0 * f + (tpN ts f part k).2) % B64) = (tpN ts f part (k + 1)).1 ++ ts.drop (k + 1) := by
        rw [List.set_append_right _ _ (by omega), hlen, Nat.sub_self, List.drop_eq_getElem_cons (by omega), List.set_cons_zero, tpN, List.append_assoc]; rfl
      rw [hset] at hL2
      have HL2 := Lib.hid hL2
      have hst := tp_step (ts.getD k 0) f (tpN ts f part k).2 (lt.getD k) hf hok.2
      have hc3 : (tpN ts f part (k + 1)).2 = (ts.getD k 0 * f + (tpN ts f part k).2) / B64 := rfl
      have hm := bits_Mul64' (ts.getD k 0) f (lt.getD k) hf wr
      clear hL2 hset hgd hLk hlen
      generalize hq' : (tpN ts f part (k + 1)).2 = q' at *
      have Hq' := Lib.hid hq'
      clear hq'
      generalize (tpN ts f part k).2 = c at *
      generalize ts.getD k 0 = y at *
      rw [← hc3] at hst
      have HM := Lib.hid hm
      clear hm hc3
      generalize y * f % B64 = l at *
      generalize y * f / B64 = h at *
      have ha1 := bits_Add64_0 l c
      rw [hst.1] at ha1
      obtain ⟨hs1, hs2, hs3⟩ := hst
      clear hs1
      generalize (l + c) / B64 = c1 at *
      generalize (y * f + c) % B64 = z at *
      subst hs2
      have hG' : w.grownBy (wr.setCell ⟨g, k, none⟩ (.int .u64 ((z : Nat) : Int))) (some g) := grownBy_setRow hG rfl _
      go_wp2_with fail
      with_reducible refine HM.out.mono ?_
      rintro e w' ⟨rfl, rfl⟩
      go_wp2
      go_roundw
      case rel => exact ⟨k + 1, by omega, by go_num, by rw [Hq'.out]; go_num, HL2.out, hG'⟩
      case measure => simp [intOf]; omega
    · obtain rfl : k = n := by omega
      go_wp2
      go_ret
      exact ⟨rfl, hLk, hG⟩
end Go.Proofs.YtgadnianjhaeiaaDoor
