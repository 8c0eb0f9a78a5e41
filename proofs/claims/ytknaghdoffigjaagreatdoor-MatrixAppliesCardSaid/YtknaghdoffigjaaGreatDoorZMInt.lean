import Derived.Test.YtknaghdoffigjaaGreatDoorInvG
import Derived.Test.YtknaghdoffigjaaGreatDoorZParts
import Derived.BigQuiet
import Derived.Deep.RegionHeld3
import Derived.Deep.DeepCutAuto
set_option linter.unusedSimpArgs false
set_option linter.unusedVariables false
set_option linter.unnecessarySimpa false
namespace Go.Proofs.YtknaghdoffigjaaGreatDoor
open Go.RowKit
theorem pow8 : (256 : Nat) ^ 8 = 18446744073709551616 := by rfl
theorem canon_len8 (N : Nat) : 8 < (canon N).length ↔ 18446744073709551616 ≤ N := by
 rw [← pow8]
 constructor
 ·intro h
  exact Nat.le_of_not_lt fun hl => by have := canon_length_le hl; omega
 ·intro h
  refine Nat.lt_of_not_le fun hl => ?_
  have h1 := bval_lt (canon N)
  rw [bval_canon] at h1
  have h2 : (256 : Nat) ^ (canon N).length ≤ 256 ^ 8 := Nat.pow_le_pow_right (by omega) hl
  omega
def fitv (z : Int) : Int := if -9223372036854775808 ≤ z ∧ z ≤ 9223372036854775807 then z else 0
def fitb (z : Int) : Bool := decide (-9223372036854775808 ≤ z ∧ z ≤ 9223372036854775807)
set_option maxHeartbeats 2000000 in
theorem Int_any (x : Bool) (s : ByteArray) (w : World) (hs : s.size ≤ 1000) (z : Int) (hz : wint x s = z) :
  Calls Tryz.prog 105 #[.agg #[.bool x, .string s]] w fun e w' => e = .returned (.tuple #[.int .i64 (fitv z), .bool (fitb z)]) ∧ Below w.heap.size w w' := by
 have hp := fun W => significant_any s W (by unfold maxLen; omega)
 have hq := fun W => partOf_any (bstr (canon (bval s.data.toList))) W
 have hN : z = if x then -(bval s.data.toList : Int) else bval s.data.toList := hz.symm
 generalize bval s.data.toList = N at *
 have h8 := canon_len8 N
 rw [bstr_size] at hq
 have hbv : bval (bstr (canon N)).data.toList = N := by rw [bstr_data, bval_canon]
 rw [hbv] at hq
 have hbs := bstr_size (canon N)
 generalize bstr (canon N) = S at *
 generalize (canon N).length = L at *
 have HP := Lib.hid hp
 have HQ := Lib.hid hq
 have HZ := Lib.hid hN
 have HV := Lib.hid (Vars.start1 w x s)
 clear hp hq hN hbv
 by_cases hL : 8 < L
 ·have hN2 := h8.1 hL
  clear h8
  go_enter Tryz.func105, Tryz.ntmps105
  go_wp2_with fail
  with_reducible refine (HP.out _).mono ?_
  rintro e w' ⟨rfl, rfl⟩
  go_wp2
  go_ret2
  have hf1 : fitv z = 0 := by unfold fitv; rw [if_neg (by rw [HZ.out]; split <;> omega)]
  have hf2 : fitb z = false := by unfold fitb; rw [decide_eq_false]; rw [HZ.out]; split <;> omega
  exact ⟨by rw [hf1, hf2]; rfl, HV.out.1⟩
 ·have hN2 : N < 18446744073709551616 := by omega
  cases x
  ·by_cases hm : N ≤ 9223372036854775807
   ·have hz2 : z = (N : Int) := by rw [HZ.out]; rfl
    have hf1 : fitv z = (N : Int) := by unfold fitv; rw [if_pos (by omega), hz2]
    have hf2 : fitb z = true := by unfold fitb; rw [decide_eq_true]; omega
    have H1 := Lib.hid hf1
    have H2 := Lib.hid hf2
    clear hf1 hf2 hz2 h8
    go_enter Tryz.func105, Tryz.ntmps105
    go_wp2_with fail
    with_reducible refine (HP.out _).mono ?_
    rintro e w' ⟨rfl, rfl⟩
    go_wp2_with fail
    with_reducible refine (HQ.out _ (by omega)).mono ?_
    rintro e w' ⟨rfl, rfl⟩
    go_wp2
    go_ret2
    exact ⟨by rw [H1.out, H2.out]; rfl, HV.out.1⟩
   ·have hf1 : fitv z = 0 := by unfold fitv; rw [if_neg (by rw [HZ.out]; simp; omega)]
    have hf2 : fitb z = false := by unfold fitb; rw [decide_eq_false]; rw [HZ.out]; simp; omega
    have H1 := Lib.hid hf1
    have H2 := Lib.hid hf2
    clear hf1 hf2 h8
    go_enter Tryz.func105, Tryz.ntmps105
    go_wp2_with fail
    with_reducible refine (HP.out _).mono ?_
    rintro e w' ⟨rfl, rfl⟩
    go_wp2_with fail
    with_reducible refine (HQ.out _ (by omega)).mono ?_
    rintro e w' ⟨rfl, rfl⟩
    go_wp2
    go_ret2
    exact ⟨by rw [H1.out, H2.out]; rfl, HV.out.1⟩
  ·by_cases hm : N ≤ 9223372036854775808
   ·have hz2 : z = -(N : Int) := by rw [HZ.out]; rfl
    have hf1 : fitv z = -(N : Int) := by unfold fitv; rw [if_pos (by omega), hz2]
    have hf2 : fitb z = true := by unfold fitb; rw [decide_eq_true]; omega
    have e1 : wrap64 (IntKind.u64.wrap (-(N : Int))) = -(N : Int) := by unfold wrap64; rw [IntKind.wrap_u64]; omega
    have H1 := Lib.hid hf1
    have H2 := Lib.hid hf2
    have E1 := Lib.hid e1
    clear hf1 hf2 hz2 h8 e1
    go_enter Tryz.func105, Tryz.ntmps105
    go_wp2_with fail
    with_reducible refine (HP.out _).mono ?_
    rintro e w' ⟨rfl, rfl⟩
    go_wp2_with fail
    with_reducible refine (HQ.out _ (by omega)).mono ?_
    rintro e w' ⟨rfl, rfl⟩
    go_wp2
    go_ret2
    exact ⟨by rw [H1.out, H2.out]; exact congrArg (fun v => Ending.returned (.tuple #[.int .i64 v, .bool true])) E1.out, HV.out.1⟩
   ·have hf1 : fitv z = 0 := by unfold fitv; rw [if_neg (by rw [HZ.out]; simp; omega)]
    have hf2 : fitb z = false := by unfold fitb; rw [decide_eq_false]; rw [HZ.out]; simp; omega
    have H1 := Lib.hid hf1
    have H2 := Lib.hid hf2
    clear hf1 hf2 h8
    go_enter Tryz.func105, Tryz.ntmps105
    go_wp2_with fail
    with_reducible refine (HP.out _).mono ?_
    rintro e w' ⟨rfl, rfl⟩
    go_wp2_with fail
    with_reducible refine (HQ.out _ (by omega)).mono ?_
    rintro e w' ⟨rfl, rfl⟩
    go_wp2
    go_ret2
    exact ⟨by rw [H1.out, H2.out]; rfl, HV.out.1⟩
end Go.Proofs.YtknaghdoffigjaaGreatDoor
namespace Go.Proofs.YtknaghdoffigjaaGreatDoor
open Go.RowKit
def msize (n : Int) : Bool := decide (0 ≤ n) && decide (n ≤ 200)
theorem isSize_any (n : Int) (w : World) :
  Calls Tryz.prog 57 #[.int .i64 n] w fun e w' => e = .returned (.bool (msize n)) ∧ w' = w := by
 unfold msize
 by_cases h : 0 ≤ n
 ·have e1 : decide (n ≥ 0) = true := by simpa using h
  have e2 : decide (0 ≤ n) = true := by simpa using h
  rw [e2]
  go_enter Tryz.func57, Tryz.ntmps57
  go_wp2
  go_ret
  exact ⟨rfl, rfl⟩
 ·have e1 : decide (n ≥ 0) = false := by simpa using h
  have e2 : decide (0 ≤ n) = false := by simpa using h
  rw [e2]
  go_enter Tryz.func57, Tryz.ntmps57
  go_wp2
  go_ret
  exact ⟨rfl, rfl⟩
def mat (r c : Int) (A : Option Addr) (n cap : Nat) : Value := .agg #[.int .i64 r, .int .i64 c, .slice A n cap]
def Mb (w : World) (b : Nat) (r c : Int) (A : Option Addr) (n cap : Nat) : Prop := w.heap[b]? = some (.cells #[.int .i64 r, .int .i64 c, .slice A n cap] 28 (0, 0))
section
variable {w w' : World} {b : Nat} {r c : Int} {A : Option Addr} {n cap : Nat}
theorem Mb.lt (h : Mb w b r c A n cap) : b < w.heap.size := by
 rcases Nat.lt_or_ge b w.heap.size with hlt | hge
 ·exact hlt
 ·unfold Mb at h; rw [Array.getElem?_eq_none hge] at h; cases h
theorem Mb.cell0 (h : Mb w b r c A n cap) : w.cell? ⟨b, 0, none⟩ = some (.int .i64 r) := cell_of_row w b 0 _ _ _ h
theorem Mb.cell1 (h : Mb w b r c A n cap) : w.cell? ⟨b, 1, none⟩ = some (.int .i64 c) := cell_of_row w b 1 _ _ _ h
theorem Mb.cell2 (h : Mb w b r c A n cap) : w.cell? ⟨b, 2, none⟩ = some (.slice A n cap) := cell_of_row w b 2 _ _ _ h
theorem Mb.below {B : Nat} (h : Mb w b r c A n cap) (hb : Below B w w') (hg : b < B) : Mb w' b r c A n cap := (hb.block b hg).trans h
theorem Mb.alloc (h : Mb w b r c A n cap) (o : Obj) : Mb (w.alloc o) b r c A n cap := (Below.heap_alloc w o b h.lt).trans h
theorem Mb.new (w : World) (r c : Int) (A : Option Addr) (n cap : Nat) : Mb (w.alloc (.cells #[.int .i64 r, .int .i64 c, .slice A n cap] 28)) w.heap.size r c A n cap := heap_alloc_new w _
theorem Mb.new1 (w : World) (o : Obj) (r c : Int) (A : Option Addr) (n cap : Nat) : Mb ((w.alloc o).alloc (.cells #[.int .i64 r, .int .i64 c, .slice A n cap] 28)) (w.heap.size + 1) r c A n cap := by
 have := Mb.new (w.alloc o) r c A n cap
 simpa using this
theorem Mb.load (h : Mb w b r c A n cap) : (loadVar 28 ⟨b, 0, none⟩).run Tryz.prog w = .ok (mat r c A n cap) w := by
 have h0 := h.cell0
 have h1 := h.cell1
 have h2 := h.cell2
 simp [loadVar, go_sem, h0, h1, h2, mat]
end
theorem post_mat {fn : Func} {R : Ending → World → Prop} {a : Act} {w : World} {p : Tmp} {b : Nat} {r c : Int} {A : Option Addr} {n cap : Nat} (h : fn.results = #[.cell p 28])
  (ht : a.tmps.getD p undef = .pointer (some ⟨b, 0, none⟩)) (hw : Mb w b r c A n cap) (hd : a.defers = []) (hR : R (.returned (mat r c A n cap)) w) : bodyPost Tryz.prog fn R .ret a w := by
 refine bodyPost_ret (v := mat r c A n cap) ?_ hd hR
 have := hw.load
 rw [Array.getD_eq_getD_getElem?] at ht
 simp only [results, h]
 simp [Sem.run_bind, Result.andThen, ht, asAddr, this]
def Tb (w : World) (b : Nat) (r c : Int) (A : Option Addr) (n cap : Nat) : Prop := w.heap[b]? = some (.cells #[.int .i64 r, .int .i64 c, .slice A n cap] 68 (0, 0))
section
variable {w w' : World} {b : Nat} {r c : Int} {A : Option Addr} {n cap : Nat}
theorem Tb.cell0 (h : Tb w b r c A n cap) : w.cell? ⟨b, 0, none⟩ = some (.int .i64 r) := cell_of_row w b 0 _ _ _ h
theorem Tb.cell1 (h : Tb w b r c A n cap) : w.cell? ⟨b, 1, none⟩ = some (.int .i64 c) := cell_of_row w b 1 _ _ _ h
theorem Tb.cell2 (h : Tb w b r c A n cap) : w.cell? ⟨b, 2, none⟩ = some (.slice A n cap) := cell_of_row w b 2 _ _ _ h
theorem Tb.new (w : World) (r c : Int) (A : Option Addr) (n cap : Nat) : Tb (w.alloc (.cells #[.int .i64 r, .int .i64 c, .slice A n cap] 68)) w.heap.size r c A n cap := heap_alloc_new w _
theorem Tb.new1 (w : World) (o : Obj) (r c : Int) (A : Option Addr) (n cap : Nat) : Tb ((w.alloc o).alloc (.cells #[.int .i64 r, .int .i64 c, .slice A n cap] 68)) (w.heap.size + 1) r c A n cap := by
 have := Tb.new (w.alloc o) r c A n cap
 simpa using this
theorem Tb.load (h : Tb w b r c A n cap) : (loadVar 68 ⟨b, 0, none⟩).run Tryz.prog w = .ok (mat r c A n cap) w := by
 have h0 := h.cell0
 have h1 := h.cell1
 have h2 := h.cell2
 simp [loadVar, go_sem, h0, h1, h2, mat]
end
theorem post_table {fn : Func} {R : Ending → World → Prop} {a : Act} {w : World} {p : Tmp} {b : Nat} {r c : Int} {A : Option Addr} {n cap : Nat} (h : fn.results = #[.cell p 68])
  (ht : a.tmps.getD p undef = .pointer (some ⟨b, 0, none⟩)) (hw : Tb w b r c A n cap) (hd : a.defers = []) (hR : R (.returned (mat r c A n cap)) w) : bodyPost Tryz.prog fn R .ret a w := by
 refine bodyPost_ret (v := mat r c A n cap) ?_ hd hR
 have := hw.load
 rw [Array.getD_eq_getD_getElem?] at ht
 simp only [results, h]
 simp [Sem.run_bind, Result.andThen, ht, asAddr, this]
theorem sameShape_any (r c r' c' : Int) (A A' : Option Addr) (n cap n' cap' : Nat) (w : World) :
  Calls Tryz.prog 91 #[mat r c A n cap, mat r' c' A' n' cap'] w fun e w' => e = .returned (.bool (r == r' && c == c')) ∧ Below w.heap.size w w' := by
 unfold mat
 by_cases h : (r == r') = true
 ·rw [h]
  go_enter Tryz.func91, Tryz.ntmps91
  go_wp2
  go_ret
  exact ⟨rfl, below2 _ _ _⟩
 ·have h2 : (r == r') = false := by simpa using h
  rw [h2]
  go_enter Tryz.func91, Tryz.ntmps91
  go_wp2
  go_ret
  exact ⟨rfl, below2 _ _ _⟩
theorem matrixOf_any (r c : Int) (A : Option Addr) (n cap : Nat) (w : World) :
  Calls Tryz.prog 61 #[mat r c A n cap] w fun e w' => e = .returned (mat r c A n cap) ∧ Below w.heap.size w w' := by
 unfold mat
 go_enter Tryz.func61, Tryz.ntmps61
 go_wp2
 exact post_mat (b := w.heap.size + 1) rfl rfl (Mb.new1 _ _ _ _ _ _ _) rfl ⟨rfl, below2 _ _ _⟩
theorem tableOf_any (r c : Int) (A : Option Addr) (n cap : Nat) (w : World) :
  Calls Tryz.prog 83 #[mat r c A n cap] w fun e w' => e = .returned (mat r c A n cap) ∧ Below w.heap.size w w' := by
 unfold mat
 go_enter Tryz.func83, Tryz.ntmps83
 go_wp2
 exact post_table (b := w.heap.size + 1) rfl rfl (Tb.new1 _ _ _ _ _ _ _) rfl ⟨rfl, below2 _ _ _⟩
theorem isRange_any (start count size : Int) (w : World) (h1 : -9223372036854775808 ≤ count) (h2 : -9223372036854775808 ≤ start ∧ start ≤ 9223372036854775807) (h3 : 0 ≤ size ∧ size ≤ 200) :
  Calls Tryz.prog 82 #[.int .i64 start, .int .i64 count, .int .i64 size] w fun e w' => e = .returned (.bool (decide (0 ≤ start) && decide (0 ≤ count) && decide (count ≤ size - start))) ∧ w' = w := by
 by_cases h : 0 ≤ start
 ·have e1 : decide (start ≥ 0) = true := by simpa using h
  have e2 : decide (0 ≤ start) = true := by simpa using h
  rw [e2]
  by_cases hc : 0 ≤ count
  ·have e3 : decide (count ≥ 0) = true := by simpa using hc
   have e4 : decide (0 ≤ count) = true := by simpa using hc
   rw [e4]
   go_enter Tryz.func82, Tryz.ntmps82
   go_wp2
   go_ret
   exact ⟨rfl, rfl⟩
  ·have e3 : decide (count ≥ 0) = false := by simpa using hc
   have e4 : decide (0 ≤ count) = false := by simpa using hc
   rw [e4]
   go_enter Tryz.func82, Tryz.ntmps82
   go_wp2
   go_ret
   exact ⟨rfl, rfl⟩
 ·have e1 : decide (start ≥ 0) = false := by simpa using h
  have e2 : decide (0 ≤ start) = false := by simpa using h
  rw [e2]
  go_enter Tryz.func82, Tryz.ntmps82
  go_wp2
  go_ret
  exact ⟨rfl, rfl⟩
def ncan (x : Bool) (s : ByteArray) : Bool := match s.data.toList with | [] => x | b :: _ => b == 0
theorem isNotCanonical_any (x : Bool) (s : ByteArray) (w : World) :
  Calls Tryz.prog 86 #[.agg #[.bool x, .string s]] w fun e w' => e = .returned (.bool (ncan x s)) ∧ Below w.heap.size w w' := by
 rcases s with ⟨⟨l⟩⟩
 cases l with
 | nil =>
  have hn : ncan x ⟨⟨[]⟩⟩ = x := rfl
  have hE : (⟨⟨[]⟩⟩ : ByteArray).toList.isEmpty = true := by rw [Lib.toList_data]; rfl
  rw [hn]
  generalize (⟨⟨[]⟩⟩ : ByteArray) = s at *
  go_enter Tryz.func86, Tryz.ntmps86
  go_wp2
  go_ret
  exact ⟨rfl, (Below.refl _ _).alloc (Nat.le_refl _) _⟩
 | cons b l =>
  have hn : ncan x ⟨⟨b :: l⟩⟩ = (b == 0) := rfl
  have hE : (⟨⟨b :: l⟩⟩ : ByteArray).toList.isEmpty = false := by rw [Lib.toList_data]; rfl
  have hS : 0 < (⟨⟨b :: l⟩⟩ : ByteArray).size := Nat.succ_pos _
  have hb : (((⟨⟨b :: l⟩⟩ : ByteArray)[0].toNat : Int) == 0) = (b == 0) := by
   show (((b.toNat : Nat) : Int) == 0) = (b == 0)
   by_cases h : b = 0
   ·subst h; rfl
   ·have h2 : (b == 0) = false := by simpa using h
    rw [h2, beq_eq_false_iff_ne]
    intro e
    exact h (UInt8.toNat_inj.1 (by rw [show (0 : UInt8).toNat = 0 from rfl]; omega))
  have HN := Lib.hid hn
  have HB := Lib.hid hb
  clear hn hb
  go_enter Tryz.func86, Tryz.ntmps86
  go_wp2
  go_ret
  exact ⟨by rw [HN.out, ← HB.out]; rfl, (Below.refl _ _).alloc (Nat.le_refl _) _⟩
end Go.Proofs.YtknaghdoffigjaaGreatDoor
namespace Go.Proofs.YtknaghdoffigjaaGreatDoor
open Go.RowKit
def mmod (p : Nat) : Value := .agg #[.int .u64 (p : Int), .int .u64 ((18446744073709551615 / p : Nat) : Int)]
theorem rest_quot (B n p q h : Nat) (hp : 0 < p) (hn : n < B) (h1 : q * p ≤ B) (h2 : B ≤ (q + 1) * p) (h3 : h * B ≤ n * q) (h4 : n * q < (h + 1) * B) : h * p ≤ n ∧ n < h * p + 2 * p := by
 have hB : 0 < B := by omega
 constructor
 ·refine Nat.le_of_mul_le_mul_right (c := B) ?_ hB
  have a1 := Nat.mul_le_mul_right p h3
  have a2 := Nat.mul_le_mul_left n h1
  grind
 ·refine Nat.lt_of_mul_lt_mul_right (a := B) ?_
  have b1 := Nat.mul_le_mul_left n h2
  have b2 := (Nat.mul_lt_mul_right hp).2 h4
  have b4 := (Nat.mul_lt_mul_right hp).2 hn
  grind
theorem div_up (a b : Nat) (hb : 0 < b) : a / b * b ≤ a ∧ a < (a / b + 1) * b := by
 have h1 := Nat.div_add_mod a b
 have h2 := Nat.mod_lt a hb
 rw [Nat.mul_comm] at h1
 rw [Nat.add_mul, Nat.one_mul]
 omega
set_option maxHeartbeats 2000000 in
theorem rest_any (p n : Nat) (w : World) (hp : 0 < p) (hp2 : p < 2147483648) (hn : n < 18446744073709551616) :
  Calls Tryz.prog 109 #[mmod p, .int .u64 (n : Int)] w fun e w' => e = .returned (.int .u64 ((n % p : Nat) : Int)) ∧ Below w.heap.size w w' := by
 unfold mmod
 obtain ⟨q, hq⟩ : ∃ q, q = 18446744073709551615 / p := ⟨_, rfl⟩
 rw [← hq]
 obtain ⟨h, hh⟩ : ∃ h, h = n * q / 18446744073709551616 := ⟨_, rfl⟩
 have hB : B64 = 18446744073709551616 := rfl
 have hq1 := div_up 18446744073709551615 p hp
 rw [← hq] at hq1
 have hh1 := div_up (n * q) 18446744073709551616 (by omega)
 rw [← hh] at hh1
 have hr := rest_quot 18446744073709551616 n p q h hp hn (by omega) (by omega) hh1.1 hh1.2
 have hqb : q < B64 := by rw [hq, hB]; exact Nat.lt_of_le_of_lt (Nat.div_le_self _ _) (by omega)
 have hm := fun W => bits_Mul64' n q (by rw [hB]; exact hn) hqb W
 rw [hB, ← hh] at hm
 generalize n * q % 18446744073709551616 = lo at *
 have HM := Lib.hid hm
 obtain ⟨r, hr0⟩ : ∃ r, r = n - h * p := ⟨_, rfl⟩
 have hnr : n = h * p + r := by omega
 have hmod : n % p = if r < p then r else r - p := by
  rw [hnr, Nat.mul_comm, Nat.mul_add_mod]
  split
  ·exact Nat.mod_eq_of_lt (by assumption)
  ·rw [Nat.mod_eq_sub_mod (by omega)]; exact Nat.mod_eq_of_lt (by omega)
 have hhp : ((h * p : Nat) : Int) = (h : Int) * (p : Int) := Int.natCast_mul h p
 have w1 : IntKind.u64.wrap ((h : Int) * (p : Int)) = (h : Int) * (p : Int) := by rw [← hhp]; exact IntWalk.u64_in _ (by omega)
 have w2 : IntKind.u64.wrap ((n : Int) - (h : Int) * (p : Int)) = ((r : Nat) : Int) := by rw [← hhp, show (n : Int) - ((h * p : Nat) : Int) = ((r : Nat) : Int) from by omega]; exact IntWalk.u64_in _ (by omega)
 have hrp : r < 2 * p := by omega
 have HMOD := Lib.hid hmod
 clear hm hq hh hq1 hh1 hr hr0 hnr hqb hmod hhp
 by_cases hlt : r < p
 ·have hd : decide ((r : Int) ≥ (p : Int)) = false := by rw [decide_eq_false_iff_not]; omega
  rw [show n % p = r from by rw [HMOD.out, if_pos hlt]]
  clear HMOD
  go_enter Tryz.func109, Tryz.ntmps109
  go_wp2_with fail
  with_reducible refine (HM.out _).mono ?_
  rintro e w1 ⟨rfl, rfl⟩
  go_wp2
  go_ret
  exact ⟨rfl, (Below.refl _ _).alloc (Nat.le_refl _) _⟩
 ·have hd : decide ((r : Int) ≥ (p : Int)) = true := by rw [decide_eq_true_iff]; omega
  have w3 : IntKind.u64.wrap ((r : Int) - (p : Int)) = ((r - p : Nat) : Int) := by rw [show (r : Int) - (p : Int) = ((r - p : Nat) : Int) from by omega]; exact IntWalk.u64_in _ (by omega)
  rw [show n % p = r - p from by rw [HMOD.out, if_neg hlt]]
  clear HMOD
  go_enter Tryz.func109, Tryz.ntmps109
  go_wp2_with fail
  with_reducible refine (HM.out _).mono ?_
  rintro e w1 ⟨rfl, rfl⟩
  go_wp2
  go_ret
  exact ⟨rfl, (Below.refl _ _).alloc (Nat.le_refl _) _⟩
def Ob (w : World) (b : Nat) (p q : Int) : Prop := w.heap[b]? = some (.cells #[.int .u64 p, .int .u64 q] 82 (0, 0))
theorem Ob.cell0 {w : World} {b : Nat} {p q : Int} (h : Ob w b p q) : w.cell? ⟨b, 0, none⟩ = some (.int .u64 p) := cell_of_row w b 0 _ _ _ h
theorem Ob.cell1 {w : World} {b : Nat} {p q : Int} (h : Ob w b p q) : w.cell? ⟨b, 1, none⟩ = some (.int .u64 q) := cell_of_row w b 1 _ _ _ h
theorem Ob.new (w : World) (p q : Int) : Ob (w.alloc (.cells #[.int .u64 p, .int .u64 q] 82)) w.heap.size p q := heap_alloc_new w _
theorem Ob.lt {w : World} {b : Nat} {p q : Int} (h : Ob w b p q) : b < w.heap.size := by
 rcases Nat.lt_or_ge b w.heap.size with hlt | hge
 ·exact hlt
 ·unfold Ob at h; rw [Array.getElem?_eq_none hge] at h; cases h
theorem Ob.step {w w' : World} {b : Nat} {p q : Int} (h : Ob w b p q) (hb : Below w.heap.size w w') : Ob w' b p q := (hb.block b h.lt).trans h
theorem Ob.drew {w : World} {b : Nat} {p q : Int} (h : Ob w b p q) : Ob w.drew b p q := h
theorem Ob.alloc {w : World} {b : Nat} {p q : Int} (h : Ob w b p q) (o : Obj) : Ob (w.alloc o) b p q := (Below.heap_alloc w o b h.lt).trans h
theorem Ob.load {w : World} {b : Nat} {p q : Int} (h : Ob w b p q) : (loadVar 82 ⟨b, 0, none⟩).run Tryz.prog w = .ok (.agg #[.int .u64 p, .int .u64 q]) w := by
 have h0 := h.cell0
 have h1 := h.cell1
 simp [loadVar, go_sem, h0, h1]
theorem post_modulus {fn : Func} {R : Ending → World → Prop} {a : Act} {w : World} {t : Tmp} {b : Nat} {p q : Int} (h : fn.results = #[.cell t 82])
  (ht : a.tmps.getD t undef = .pointer (some ⟨b, 0, none⟩)) (hw : Ob w b p q) (hd : a.defers = []) (hR : R (.returned (.agg #[.int .u64 p, .int .u64 q])) w) : bodyPost Tryz.prog fn R .ret a w := by
 refine bodyPost_ret (v := .agg #[.int .u64 p, .int .u64 q]) ?_ hd hR
 have := hw.load
 rw [Array.getD_eq_getD_getElem?] at ht
 simp only [results, h]
 simp [Sem.run_bind, Result.andThen, ht, asAddr, this]
theorem newModulus_any (p : Nat) (w : World) (hp : 0 < p) (hp2 : p < 2147483648) :
  Calls Tryz.prog 68 #[.int .u64 (p : Int)] w fun e w' => e = .returned (mmod p) ∧ Below w.heap.size w w' := by
 unfold mmod
 have hz : ((p : Int) == 0) = false := by rw [beq_eq_false_iff_ne]; omega
 have hz2 : (p : Int) ≠ 0 := by omega
 have hq : ((18446744073709551615 / p : Nat) : Int) = 18446744073709551615 / (p : Int) := Int.natCast_ediv 18446744073709551615 p
 rw [hq]
 clear hq
 go_enter Tryz.func68, Tryz.ntmps68
 go_wp2
 exact post_modulus (b := w.heap.size) rfl rfl (Ob.new _ _ _) rfl ⟨rfl, (Below.refl _ _).alloc (Nat.le_refl _) _⟩
set_option maxHeartbeats 2000000 in
theorem balance_any (p n : Nat) (w : World) (hp : 0 < p) (hp2 : p < 2147483648) (hn : n < p) (z : Int) (hz : z = if p / 2 < n then (n : Int) - p else n) :
  Calls Tryz.prog 110 #[mmod p, .int .u64 (n : Int)] w fun e w' => e = .returned (.agg #[.bool (wneg z), .string (wmag z)]) ∧ Below w.heap.size w w' := by
 unfold mmod
 generalize ((18446744073709551615 / p : Nat) : Int) = q at *
 have hf := fun W => From_any z W (by rw [hz]; split <;> omega) (by rw [hz]; split <;> omega)
 rw [wv_def] at hf
 have w1 : IntKind.i64.wrap (n : Int) = n := IntWalk.i64_in _ (by omega)
 have w2 : IntKind.i64.wrap (p : Int) = p := IntWalk.i64_in _ (by omega)
 by_cases hlt : p / 2 < n
 ·have hd2 : (p : Int) / 2 < (n : Int) := by omega
  have hd : decide ((p : Int) / 2 < (n : Int)) = true := by rw [decide_eq_true_iff]; exact hd2
  rw [if_pos hlt] at hz
  subst hz
  clear hlt
  have HF := Lib.hid hf
  clear hf
  have HV := Lib.hid (Wd.new1 w (.cells #[.int .u64 (p : Int), .int .u64 q] 82) false ⟨#[]⟩)
  go_enter Tryz.func110, Tryz.ntmps110
  go_wp2_with fail
  with_reducible refine (HF.out _).mono ?_
  rintro e w1 ⟨rfl, hb1⟩
  have hV1 := HV.out.below hb1 (by simp)
  have c0 := hV1.cell0
  have c1 := hV1.cell1
  have f0 := hV1.frozen 0
  have f1 := hV1.frozen 1
  have hB1 : Below w.heap.size w w1 := (below2 w _ _).trans (hb1.mono (by simp; omega))
  go_wp2
  have hF := (hV1.set0 (wneg ((n : Int) - p))).set1 (wmag ((n : Int) - p))
  exact post_wide (b := w.heap.size + 1) rfl rfl hF rfl ⟨rfl, (hB1.setCell (by simp only []; omega) _).setCell (by simp only []; omega) _⟩
 ·have hd2 : ¬ (p : Int) / 2 < (n : Int) := by omega
  have hd : decide ((p : Int) / 2 < (n : Int)) = false := by rw [decide_eq_false_iff_not]; exact hd2
  rw [if_neg hlt] at hz
  subst hz
  clear hlt
  have HF := Lib.hid hf
  clear hf
  have HV := Lib.hid (Wd.new1 w (.cells #[.int .u64 (p : Int), .int .u64 q] 82) false ⟨#[]⟩)
  go_enter Tryz.func110, Tryz.ntmps110
  go_wp2_with fail
  with_reducible refine (HF.out _).mono ?_
  rintro e w1 ⟨rfl, hb1⟩
  have hV1 := HV.out.below hb1 (by simp)
  have c0 := hV1.cell0
  have c1 := hV1.cell1
  have f0 := hV1.frozen 0
  have f1 := hV1.frozen 1
  have hB1 : Below w.heap.size w w1 := (below2 w _ _).trans (hb1.mono (by simp; omega))
  go_wp2
  have hF := (hV1.set0 (wneg (n : Int))).set1 (wmag (n : Int))
  exact post_wide (b := w.heap.size + 1) rfl rfl hF rfl ⟨rfl, (hB1.setCell (by simp only []; omega) _).setCell (by simp only []; omega) _⟩
end Go.Proofs.YtknaghdoffigjaaGreatDoor
namespace Go.Proofs.YtknaghdoffigjaaGreatDoor
open Go.RowKit
def Bxs (w0 w : World) (l : List (Nat × Bool × ByteArray)) : Prop :=
 Below w0.heap.size w0 w ∧ (∀ (i : Nat) (p : Nat × Bool × ByteArray), l[i]? = some p → w0.heap.size ≤ p.1 ∧ Wd w p.1 p.2.1 p.2.2) ∧ ∀ (i j : Nat) (p q : Nat × Bool × ByteArray), l[i]? = some p → l[j]? = some q → i ≠ j → p.1 ≠ q.1
section
variable {w0 w w' : World} {l : List (Nat × Bool × ByteArray)}
theorem Bxs.at_ (h : Bxs w0 w l) (i : Nat) {b : Nat} {x : Bool} {s : ByteArray} (hi : l[i]? = some (b, x, s)) : Wd w b x s := (h.2.1 i _ hi).2
theorem Bxs.ne (h : Bxs w0 w l) (i j : Nat) {b c : Nat} {x y : Bool} {s t : ByteArray} (hi : l[i]? = some (b, x, s)) (hj : l[j]? = some (c, y, t)) (hij : i ≠ j) : b ≠ c := h.2.2 i j _ _ hi hj hij
theorem Bxs.step (h : Bxs w0 w l) (hb : Below w.heap.size w w') : Bxs w0 w' l :=
 ⟨h.1.trans (hb.mono h.1.size), fun i p hi => ⟨(h.2.1 i p hi).1, (h.2.1 i p hi).2.below hb (h.2.1 i p hi).2.lt⟩, h.2.2⟩
theorem Bxs.drew (h : Bxs w0 w l) : Bxs w0 w.drew l := ⟨h.1.drew, h.2.1, h.2.2⟩
theorem Bxs.alloc (h : Bxs w0 w l) (o : Obj) : Bxs w0 (w.alloc o) l := h.step ((Below.refl _ _).alloc (Nat.le_refl _) o)
theorem Bxs.none_ (w : World) : Bxs w w [] := ⟨Below.refl _ _, fun i p h => by simp at h, fun i j p q h => by simp at h⟩
theorem Bxs.more (h : Bxs w0 w l) (x : Bool) (s : ByteArray) : Bxs w0 (w.alloc (wbox x s)) (l ++ [(w.heap.size, x, s)]) := by
 have hs := h.1.size
 have ht : ∀ (i : Nat) (p : Nat × Bool × ByteArray), (l ++ [(w.heap.size, x, s)])[i]? = some p → (i < l.length ∧ l[i]? = some p) ∨ (i = l.length ∧ p = (w.heap.size, x, s)) := fun i p hi => by
  by_cases hl : i < l.length
  ·rw [List.getElem?_append_left hl] at hi
   exact .inl ⟨hl, hi⟩
  ·rw [List.getElem?_append_right (by omega)] at hi
   by_cases h0 : i - l.length = 0
   ·rw [h0] at hi
    simp at hi
    exact .inr ⟨by omega, hi.symm⟩
   ·rw [List.getElem?_eq_none (by simp; omega)] at hi
    cases hi
 refine ⟨h.1.alloc hs _, fun i p hi => ?_, fun i j p q hi hj hij => ?_⟩
 ·rcases ht i p hi with ⟨_, e⟩ | ⟨_, rfl⟩
  ·exact ⟨(h.2.1 i p e).1, (h.2.1 i p e).2.alloc _⟩
  ·exact ⟨hs, Wd.new w x s⟩
 ·rcases ht i p hi with ⟨h1, e⟩ | ⟨h1, rfl⟩
  ·rcases ht j q hj with ⟨h2, e2⟩ | ⟨h2, rfl⟩
   ·exact h.2.2 i j p q e e2 hij
   ·have := (h.2.1 i p e).2.lt
    exact Nat.ne_of_lt this
  ·rcases ht j q hj with ⟨h2, e2⟩ | ⟨h2, rfl⟩
   ·have := (h.2.1 j q e2).2.lt
    exact Nat.ne_of_gt this
   ·omega
theorem Bxs.more2 (h : Bxs w0 w l) (x y : Bool) (s t : ByteArray) : Bxs w0 ((w.alloc (wbox x s)).alloc (wbox y t)) (l ++ [(w.heap.size, x, s), (w.heap.size + 1, y, t)]) := by
 have h2 := (h.more x s).more y t
 rw [List.append_assoc] at h2
 simpa using h2
theorem Bxs.put (h : Bxs w0 w l) (i : Nat) {b : Nat} {x : Bool} {s : ByteArray} (hi : l[i]? = some (b, x, s)) (y : Bool) (t : ByteArray) :
  Bxs w0 ((w.setCell ⟨b, 0, none⟩ (.bool y)).setCell ⟨b, 1, none⟩ (.string t)) (l.set i (b, y, t)) := by
 have hl : i < l.length := (List.getElem?_eq_some_iff.1 hi).1
 have hb := (h.2.1 i _ hi).1
 have ht : ∀ (j : Nat) (p : Nat × Bool × ByteArray), (l.set i (b, y, t))[j]? = some p → (j = i ∧ p = (b, y, t)) ∨ (j ≠ i ∧ l[j]? = some p) := fun j p hj => by
  by_cases hij : i = j
  ·subst hij
   rw [List.getElem?_set_self hl] at hj
   exact .inl ⟨rfl, (Option.some.inj hj).symm⟩
  ·rw [List.getElem?_set_ne hij] at hj
   exact .inr ⟨fun e => hij e.symm, hj⟩
 refine ⟨(h.1.setCell (by simp only []; exact hb) _).setCell (by simp only []; exact hb) _, fun j p hj => ?_, fun j k p q hj hk hjk => ?_⟩
 ·rcases ht j p hj with ⟨rfl, rfl⟩ | ⟨hne, e⟩
  ·exact ⟨hb, ((h.at_ j hi).set0 y).set1 t⟩
  ·have hn := h.2.2 j i p _ e hi hne
   exact ⟨(h.2.1 j p e).1, ((h.2.1 j p e).2.far (by simpa using hn) _).far (by simpa using hn) _⟩
 ·rcases ht j p hj with ⟨rfl, rfl⟩ | ⟨hne, e⟩
  ·rcases ht k q hk with ⟨rfl, rfl⟩ | ⟨hne2, e2⟩
   ·exact absurd rfl hjk
   ·exact h.2.2 j k (b, x, s) q hi e2 hjk
  ·rcases ht k q hk with ⟨rfl, rfl⟩ | ⟨hne2, e2⟩
   ·exact h.2.2 j k p (b, x, s) e hi hjk
   ·exact h.2.2 j k p q e e2 hjk
end
end Go.Proofs.YtknaghdoffigjaaGreatDoor
