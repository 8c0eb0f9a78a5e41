import Derived.Test.YtknaghdoffigjaaGreatDoorRows
import Derived.Shelf.Small.Bits
import Derived.Shelf.Small.Strs
import Derived.Shelf.Strconv.Itoa0
import Derived.Shelf.Bits.Mul64
import Derived.Test.YtknaghdoffigjaaGreatDoorProg
import Derived.WalkKit
import Derived.WalkSpells
import Derived.WalkLawsBesides
import Derived.Lib.Hide
import Derived.Lib.Strings
import Derived.Lib.IndexBytes
import Derived.Laws.Bits64b
import Derived.Below
import Derived.Laws.OwnMore
import Derived.Laws.Rows
import Derived.Laws.MakeOwn
import Derived.Deep.Draws
import Derived.Shelf.Spec.BitsCarry
import Derived.Deep.QuietTactic
import Derived.BigQuiet
import Derived.StillTailTactics
set_option linter.unusedSimpArgs false
set_option linter.unusedVariables false
set_option linter.unnecessarySimpa false
namespace Go.Proofs.YtknaghdoffigjaaGreatDoor
theorem snoc_ind {α : Type} {p : List α → Prop} (h0 : p []) (h1 : ∀ l x, p l → p (l ++ [x])) (l : List α) : p l := by
 have h : ∀ n (l : List α), l.length = n → p l := by
  intro n
  induction n with
  | zero => intro l hl; have : l = [] := List.length_eq_zero_iff.1 hl; subst this; exact h0
  | succ n ih =>
   intro l hl
   rcases List.eq_nil_or_concat l with rfl | ⟨l', b, rfl⟩
   ·exact h0
   ·rw [List.concat_eq_append]; exact h1 _ _ (ih _ (by simp at hl; omega))
 exact h _ l rfl
/- Bytes, the most significant one first. -/
def bval (l : List UInt8) : Nat := l.foldl (fun n b => n * 256 + b.toNat) 0
def sig (l : List UInt8) : List UInt8 := l.dropWhile (· == 0)
def canonF : Nat → Nat → List UInt8
 | 0, _ => []
 | f + 1, n => if n = 0 then [] else canonF f (n / 256) ++ [UInt8.ofNat (n % 256)]
def canon (n : Nat) : List UInt8 := canonF n n
theorem canonF_any (f g n : Nat) (hf : n ≤ f) (hg : n ≤ g) : canonF f n = canonF g n := by
 induction f generalizing g n with
 | zero =>
      obtain rfl : n = 0 := by omega
      cases g <;> simp [canonF]
 | succ f ih =>
  cases g with
  | zero =>
       obtain rfl : n = 0 := by omega
       simp [canonF]
  | succ g =>
   simp only [canonF]
   by_cases h : n = 0
   ·simp [h]
   ·rw [if_neg h, if_neg h, ih g _ (by omega) (by omega)]
theorem canon_zero : canon 0 = [] := rfl
theorem canon_step (n : Nat) (h : n ≠ 0) : canon n = canon (n / 256) ++ [UInt8.ofNat (n % 256)] := by
 unfold canon
 cases n with
 | zero => exact absurd rfl h
 | succ n =>
  rw [show canonF (n + 1) (n + 1) = canonF n ((n + 1) / 256) ++ [UInt8.ofNat ((n + 1) % 256)] from by simp [canonF], canonF_any n _ _ (by omega) (Nat.le_refl _)]
theorem bval_nil : bval [] = 0 := rfl
theorem bval_snoc (l : List UInt8) (b : UInt8) : bval (l ++ [b]) = bval l * 256 + b.toNat := by
 simp [bval, List.foldl_append]
theorem bval_append (a b : List UInt8) : bval (a ++ b) = bval a * 256 ^ b.length + bval b := by
 refine snoc_ind (p := fun b => bval (a ++ b) = bval a * 256 ^ b.length + bval b) ?_ ?_ b
 ·simp [bval]
 ·intro l x ih
  rw [← List.append_assoc, bval_snoc, ih, bval_snoc, List.length_append, List.length_singleton, Nat.pow_succ, Nat.add_mul, Nat.mul_assoc, Nat.add_assoc]
theorem bval_lt (l : List UInt8) : bval l < 256 ^ l.length := by
 refine snoc_ind (p := fun l => bval l < 256 ^ l.length) ?_ ?_ l
 ·simp [bval]
 ·intro l x ih
  have := x.toNat_lt
  rw [bval_snoc, List.length_append, List.length_singleton, Nat.pow_succ]
  omega
theorem bval_canon (n : Nat) : bval (canon n) = n := by
 induction n using Nat.strongRecOn with
 | ind n ih =>
  by_cases h : n = 0
  ·subst h; rfl
  ·rw [canon_step n h, bval_snoc, ih _ (by omega), UInt8.toNat_ofNat_of_lt' (by rw [show UInt8.size = 256 from rfl]; omega)]
   omega
theorem sig_cons (b : UInt8) (l : List UInt8) : sig (b :: l) = if b = 0 then sig l else b :: l := by
 unfold sig
 rw [List.dropWhile_cons]
 by_cases h : b = 0 <;> simp [h]
theorem sig_snoc (l : List UInt8) (b : UInt8) : sig (l ++ [b]) = if sig l = [] then (if b = 0 then [] else [b]) else sig l ++ [b] := by
 induction l with
 | nil => rw [List.nil_append, sig_cons]; simp [sig]
 | cons x l ih =>
  rw [List.cons_append, sig_cons, sig_cons]
  by_cases h : x = 0
  ·rw [if_pos h, if_pos h, ih]
  ·simp [h]
theorem sig_canon (l : List UInt8) : sig l = canon (bval l) := by
 refine snoc_ind (p := fun l => sig l = canon (bval l)) rfl ?_ l
 intro l b ih
 rw [sig_snoc, bval_snoc, ih]
 have hb := b.toNat_lt
 by_cases h0 : bval l = 0
 ·rw [h0, canon_zero, if_pos rfl]
  by_cases hb0 : b = 0
  ·subst hb0; rfl
  ·have : b.toNat ≠ 0 := fun e => hb0 (UInt8.toNat_inj.1 e)
   rw [if_neg hb0, canon_step _ (by omega), show (0 * 256 + b.toNat) / 256 = 0 from by omega, show (0 * 256 + b.toNat) % 256 = b.toNat from by omega, canon_zero]
   simp
 ·have hne : canon (bval l) ≠ [] := by rw [canon_step _ h0]; simp
  rw [if_neg hne, canon_step (bval l * 256 + b.toNat) (by omega), show (bval l * 256 + b.toNat) / 256 = bval l from by omega, show (bval l * 256 + b.toNat) % 256 = b.toNat from by omega]
  simp
theorem sig_of_canon (n : Nat) : sig (canon n) = canon n := by rw [sig_canon, bval_canon]
theorem canon_eq_nil {n : Nat} : canon n = [] ↔ n = 0 := by
 constructor
 ·intro h; have := bval_canon n; rw [h] at this; exact this.symm
 ·rintro rfl; rfl
theorem sig_length_le (l : List UInt8) : (sig l).length ≤ l.length := by
 unfold sig; exact (List.dropWhile_sublist _).length_le
theorem canon_length_le {n k : Nat} (h : n < 256 ^ k) : (canon n).length ≤ k := by
 induction k generalizing n with
 | zero =>
      obtain rfl : n = 0 := by simp at h; omega
      simp [canon_zero]
 | succ k ih =>
  by_cases h0 : n = 0
  ·subst h0; simp [canon_zero]
  ·rw [canon_step n h0, List.length_append, List.length_singleton]
   have := ih (n := n / 256) (by rw [Nat.pow_succ] at h; omega)
   omega
theorem canon_length_mono {m n : Nat} (h : m ≤ n) : (canon m).length ≤ (canon n).length := by
 refine canon_length_le (Nat.lt_of_le_of_lt h ?_)
 have := bval_lt (canon n)
 rwa [bval_canon] at this
/- Digits to the base 2^64, the least significant one first. -/
def B64 : Nat := 18446744073709551616
theorem B64_eq : B64 = 18446744073709551616 := rfl
def pval : List Nat → Nat
 | [] => 0
 | x :: l => x + B64 * pval l
def Limbs (l : List Nat) : Prop := ∀ x ∈ l, x < B64
def ptrim : List Nat → List Nat
 | [] => []
 | x :: l => match ptrim l with
  | [] => if x = 0 then [] else [x]
  | y :: r => x :: y :: r
def limbsF : Nat → Nat → List Nat
 | 0, _ => []
 | f + 1, n => if n = 0 then [] else n % B64 :: limbsF f (n / B64)
def limbs (n : Nat) : List Nat := limbsF n n
theorem B64_pos : 0 < B64 := by rw [B64_eq]; omega
theorem div_lt_B64 {n : Nat} (h : n ≠ 0) : n / B64 < n := Nat.div_lt_self (by omega) (by rw [B64_eq]; omega)
theorem limbsF_any (f g n : Nat) (hf : n ≤ f) (hg : n ≤ g) : limbsF f n = limbsF g n := by
 induction f generalizing g n with
 | zero =>
      obtain rfl : n = 0 := by omega
      cases g <;> simp [limbsF]
 | succ f ih =>
  cases g with
  | zero =>
       obtain rfl : n = 0 := by omega
       simp [limbsF]
  | succ g =>
   simp only [limbsF]
   by_cases h : n = 0
   ·simp [h]
   ·have := div_lt_B64 h
    rw [if_neg h, if_neg h, ih g _ (by omega) (by omega)]
theorem limbs_zero : limbs 0 = [] := rfl
theorem limbs_step (n : Nat) (h : n ≠ 0) : limbs n = n % B64 :: limbs (n / B64) := by
 unfold limbs
 have := div_lt_B64 h
 cases n with
 | zero => exact absurd rfl h
 | succ n =>
  rw [show limbsF (n + 1) (n + 1) = (n + 1) % B64 :: limbsF n ((n + 1) / B64) from by simp [limbsF], limbsF_any n _ _ (by omega) (Nat.le_refl _)]
theorem pval_limbs (n : Nat) : pval (limbs n) = n := by
 induction n using Nat.strongRecOn with
 | ind n ih =>
  by_cases h : n = 0
  ·subst h; rfl
  ·rw [limbs_step n h, pval, ih _ (div_lt_B64 h)]
   exact Nat.mod_add_div n B64
theorem limbs_limbs (n : Nat) : Limbs (limbs n) := by
 induction n using Nat.strongRecOn with
 | ind n ih =>
  by_cases h : n = 0
  ·subst h; intro x hx; simp [limbs_zero] at hx
  ·rw [limbs_step n h]
   intro x hx
   rcases List.mem_cons.1 hx with rfl | hx
   ·exact Nat.mod_lt _ B64_pos
   ·exact ih _ (div_lt_B64 h) x hx
theorem Limbs.tail {x : Nat} {l : List Nat} (h : Limbs (x :: l)) : Limbs l := fun y hy => h y (List.mem_cons_of_mem _ hy)
theorem Limbs.head {x : Nat} {l : List Nat} (h : Limbs (x :: l)) : x < B64 := h x List.mem_cons_self
theorem Limbs.nil : Limbs [] := by intro x hx; cases hx
theorem Limbs.cons {x : Nat} {l : List Nat} (h : x < B64) (hl : Limbs l) : Limbs (x :: l) := by
 intro y hy
 rcases List.mem_cons.1 hy with rfl | hy
 ·exact h
 ·exact hl y hy
theorem Limbs.getD {l : List Nat} (h : Limbs l) (k : Nat) : l.getD k 0 < B64 := by
 by_cases hk : k < l.length
 ·rw [List.getD_eq_getElem?_getD, List.getElem?_eq_getElem hk]; exact h _ (List.getElem_mem hk)
 ·rw [List.getD_eq_getElem?_getD, List.getElem?_eq_none (by omega)]; exact B64_pos
theorem ptrim_limbs {l : List Nat} (h : Limbs l) : ptrim l = limbs (pval l) := by
 induction l with
 | nil => rfl
 | cons x l ih =>
  have hx := h.head
  have ih := ih h.tail
  have hm : (x + B64 * pval l) % B64 = x := by rw [Nat.add_mul_mod_self_left, Nat.mod_eq_of_lt hx]
  have hd : (x + B64 * pval l) / B64 = pval l := by rw [Nat.add_mul_div_left _ _ B64_pos, Nat.div_eq_of_lt hx, Nat.zero_add]
  by_cases h0 : pval l = 0
  ·have : ptrim l = [] := by rw [ih, h0, limbs_zero]
   simp only [ptrim, this, pval]
   by_cases hx0 : x = 0
   ·simp [hx0, h0, limbs_zero]
   ·rw [if_neg hx0, h0, Nat.mul_zero, Nat.add_zero, limbs_step x hx0, Nat.mod_eq_of_lt hx, Nat.div_eq_of_lt hx, limbs_zero]
  ·have hne : x + B64 * pval l ≠ 0 := by
    have : 0 < B64 * pval l := Nat.mul_pos B64_pos (by omega)
    omega
   rw [pval, limbs_step _ hne, hm, hd, ptrim]
   have : limbs (pval l) ≠ [] := by rw [limbs_step _ h0]; simp
   rw [ih]
   cases hl : limbs (pval l) with
   | nil => exact absurd hl this
   | cons y r => rfl
theorem limbs_eq_nil {n : Nat} : limbs n = [] ↔ n = 0 := by
 constructor
 ·intro h; have := pval_limbs n; rw [h] at this; exact this.symm
 ·rintro rfl; rfl
theorem pval_append (a b : List Nat) : pval (a ++ b) = pval a + B64 ^ a.length * pval b := by
 induction a with
 | nil => simp [pval]
 | cons x a ih => rw [List.cons_append, pval, ih, pval, List.length_cons, Nat.pow_succ, Nat.mul_add, Nat.add_assoc, Nat.mul_comm (B64 ^ a.length) B64, Nat.mul_assoc]
theorem pval_snoc (a : List Nat) (x : Nat) : pval (a ++ [x]) = pval a + B64 ^ a.length * x := by rw [pval_append]; simp [pval]
theorem pval_lt {l : List Nat} (h : Limbs l) : pval l < B64 ^ l.length := by
 induction l with
 | nil => simp [pval]
 | cons x l ih =>
  have := ih h.tail
  have hx := h.head
  rw [pval, List.length_cons, Nat.pow_succ, Nat.mul_comm _ B64]
  have : B64 * (pval l + 1) ≤ B64 * B64 ^ l.length := Nat.mul_le_mul_left _ this
  rw [Nat.mul_add, Nat.mul_one] at this
  omega
/- Numbers as the program holds them. -/
def bstr (l : List UInt8) : ByteArray := ⟨l.toArray⟩
def wint (neg : Bool) (s : ByteArray) : Int := if neg then -(bval s.data.toList : Int) else bval s.data.toList
def wv (z : Int) : Value := .agg #[.bool (decide (z < 0)), .string (bstr (canon z.natAbs))]
theorem wint_wv (z : Int) : wint (decide (z < 0)) (bstr (canon z.natAbs)) = z := by
 unfold wint bstr
 simp only [bval_canon]
 by_cases h : z < 0 <;> simp [h] <;> omega
end Go.Proofs.YtknaghdoffigjaaGreatDoor
namespace Go.Proofs
open Go.Shelf
def Tryz.lays125_ren : Go.Shelf.Ren := ⟨fun | 125 => 130 | 128 => 149 | 129 => 141 | n => n, fun | 46 => 145 | 3 => 3 | 51 => 166 | 53 => 80 | 4 => 4 | 5 => 5 | 9 => 9 | n => n, fun | n => n⟩
theorem Tryz.lays125 : Go.Proofs.Lays.n125 Tryz.prog Tryz.lays125_ren := {
 mixed := by kernel_rfl
 f125 := Tryz.func130.trans (congrArg some (by kernel_rfl))
 f128 := Tryz.func149.trans (congrArg some (by kernel_rfl))
 f129 := Tryz.func141.trans (congrArg some (by kernel_rfl))
 t3 := Tryz.underlying3
 a3 := Tryz.isAgg3
 z3 := Tryz.sizeOf3
 v3 := Tryz.zeroValue3
 t4 := Tryz.underlying4
 a4 := Tryz.isAgg4
 z4 := Tryz.sizeOf4
 v4 := Tryz.zeroValue4
 t5 := Tryz.underlying5
 a5 := Tryz.isAgg5
 z5 := Tryz.sizeOf5
 v5 := Tryz.zeroValue5
 t9 := Tryz.underlying9
 a9 := Tryz.isAgg9
 z9 := Tryz.sizeOf9
 v9 := Tryz.zeroValue9
 t46 := Tryz.underlying145
 a46 := Tryz.isAgg145
 z46 := Tryz.sizeOf145
 v46 := Tryz.zeroValue145
 t51 := Tryz.underlying166
 a51 := Tryz.isAgg166
 z51 := Tryz.sizeOf166
 v51 := Tryz.zeroValue166
 t53 := Tryz.underlying80
 a53 := Tryz.isAgg80
 z53 := Tryz.sizeOf80
 v53 := Tryz.zeroValue80 }
theorem Tryz.bits_Len (x : Int) (w : World) (h0 : 0 ≤ x) (h1 : x ≤ 18446744073709551615) :
  Calls Tryz.prog 130 #[.int .u64 x] w fun e w' => e = .returned (.int .i64 (Lib.bitLen x.toNat)) ∧ w' = w := Any.bits_Len Tryz.lays125 x w h0 h1
def Tryz.lays134_ren : Go.Shelf.Ren := ⟨fun | 134 => 102 | 129 => 141 | n => n, fun | 53 => 80 | 3 => 3 | 4 => 4 | 46 => 145 | 5 => 5 | 9 => 9 | n => n, fun | n => n⟩
theorem Tryz.lays134 : Go.Proofs.Lays.n134 Tryz.prog Tryz.lays134_ren := {
 mixed := by kernel_rfl
 f129 := Tryz.func141.trans (congrArg some (by kernel_rfl))
 f134 := Tryz.func102.trans (congrArg some (by kernel_rfl))
 t3 := Tryz.underlying3
 a3 := Tryz.isAgg3
 z3 := Tryz.sizeOf3
 v3 := Tryz.zeroValue3
 t4 := Tryz.underlying4
 a4 := Tryz.isAgg4
 z4 := Tryz.sizeOf4
 v4 := Tryz.zeroValue4
 t5 := Tryz.underlying5
 a5 := Tryz.isAgg5
 z5 := Tryz.sizeOf5
 v5 := Tryz.zeroValue5
 t9 := Tryz.underlying9
 a9 := Tryz.isAgg9
 z9 := Tryz.sizeOf9
 v9 := Tryz.zeroValue9
 t46 := Tryz.underlying145
 a46 := Tryz.isAgg145
 z46 := Tryz.sizeOf145
 v46 := Tryz.zeroValue145
 t53 := Tryz.underlying80
 a53 := Tryz.isAgg80
 z53 := Tryz.sizeOf80
 v53 := Tryz.zeroValue80 }
theorem Tryz.bits_LeadingZeros64 (x : Int) (w : World) (h0 : 0 ≤ x) (h1 : x ≤ 18446744073709551615) :
  Calls Tryz.prog 102 #[.int .u64 x] w fun e w' => e = .returned (.int .i64 (64 - (Lib.bitLen x.toNat : Int))) ∧ w' = w := Any.bits_LeadingZeros64 Tryz.lays134 x w h0 h1
open Go.RowKit in
def Tryz.lays106_ren : Go.Shelf.Ren := ⟨fun | 106 => 139 | 213 => 153 | 265 => 162 | n => n, fun | 9 => 9 | 3 => 3 | n => n, fun | n => n⟩
theorem Tryz.lays106 : Go.Proofs.Lays.n106 Tryz.prog Tryz.lays106_ren := {
 mixed := by kernel_rfl
 f106 := Tryz.func139.trans (congrArg some (by kernel_rfl))
 f213 := Tryz.func153.trans (congrArg some (by kernel_rfl))
 f265 := Tryz.func162.trans (congrArg some (by kernel_rfl))
 t3 := Tryz.underlying3
 a3 := Tryz.isAgg3
 z3 := Tryz.sizeOf3
 v3 := Tryz.zeroValue3
 t9 := Tryz.underlying9
 a9 := Tryz.isAgg9
 z9 := Tryz.sizeOf9
 v9 := Tryz.zeroValue9 }
open Go.RowKit in
theorem Tryz.strings_Compare (a b : ByteArray) (w : World) :
  Calls Tryz.prog 139 #[.string a, .string b] w fun e w' => e = .returned (.int .i64 (Lib.compareBytes a.data.toList b.data.toList)) ∧ w' = w := Any.strings_Compare Tryz.lays106 a b w
def Tryz.lays264_ren : Go.Shelf.Ren := ⟨fun | 264 => 145 | n => n, fun | 53 => 80 | 46 => 145 | n => n, fun | n => n⟩
theorem Tryz.lays264 : Go.Proofs.Lays.n264 Tryz.prog Tryz.lays264_ren := {
 mixed := by kernel_rfl
 f264 := Tryz.func145.trans (congrArg some (by kernel_rfl))
 t46 := Tryz.underlying145
 a46 := Tryz.isAgg145
 z46 := Tryz.sizeOf145
 v46 := Tryz.zeroValue145
 t53 := Tryz.underlying80
 a53 := Tryz.isAgg80
 z53 := Tryz.sizeOf80
 v53 := Tryz.zeroValue80 }
open Go.RowKit Go.Lib in
theorem Tryz.bits_Mul64 (x y : Nat) (hx : x < 18446744073709551616) (hy : y < 18446744073709551616) (w : World) :
  Calls Tryz.prog 145 #[.int .u64 x, .int .u64 y] w fun e w' => e = .returned (.tuple #[.int .u64 ((x * y / 18446744073709551616 : Nat) : Int), .int .u64 ((x * y % 18446744073709551616 : Nat) : Int)]) ∧ w' = w := Any.bits_Mul64 Tryz.lays264 x y hx hy w
end Go.Proofs
namespace Go.Proofs.YtknaghdoffigjaaGreatDoor
open Go.RowKit
theorem ret_str {a b : ByteArray} (h : a = b) : Ending.returned (.string a) = .returned (.string b) := by rw [h]
theorem ret_int {k : IntKind} {a b : Int} (h : a = b) : Ending.returned (.int k a) = .returned (.int k b) := by rw [h]
theorem bstr_toList (s : ByteArray) : bstr s.data.toList = s := by
 obtain ⟨⟨l⟩⟩ := s; rfl
theorem extract_bstr (s : ByteArray) (k : Nat) : s.extract k s.size = bstr (s.data.toList.drop k) := by
 rw [← Lib.extract_to_end, bstr_toList]
theorem sig_drop_zero (s : ByteArray) (k : Nat) (h : k < s.size) (h0 : s[k] = 0) : sig (s.data.toList.drop k) = sig (s.data.toList.drop (k + 1)) := by
 rw [List.drop_eq_getElem_cons (by simpa using h), sig_cons, if_pos (show s.data.toList[k] = 0 from h0)]
theorem sig_drop_stop (s : ByteArray) (k : Nat) (h : k < s.size) (h0 : s[k] ≠ 0) : sig (s.data.toList.drop k) = s.data.toList.drop k := by
 rw [List.drop_eq_getElem_cons (by simpa using h), sig_cons, if_neg (show ¬ s.data.toList[k] = 0 from h0)]
set_option maxHeartbeats 400000 in
theorem significant_any (s : ByteArray) (w : World) (hs : s.size ≤ maxLen) :
  Calls Tryz.prog 117 #[.string s] w fun e w' => e = .returned (.string (bstr (canon (bval s.data.toList)))) ∧ w = w' := by
 unfold maxLen at hs
 go_enter Tryz.func117, Tryz.ntmps117
 go_wp2
 go_loop [3] (fun z => ∃ k : Nat, k ≤ s.size ∧ z = .int .i64 k ∧ sig s.data.toList = sig (s.data.toList.drop k)) (fun z => s.size - (intOf z).toNat)
 case atStart => exact ⟨0, Nat.zero_le _, rfl, by simp⟩
 case round =>
  obtain ⟨k, hk, rfl, hsig⟩ := hrel
  have H := Lib.hid hsig
  clear hsig
  by_cases hlt : k < s.size
  ·by_cases h0 : s[k] = 0
   ·have h0b : ((s[k].toNat : Int) == 0) = true := by rw [h0]; rfl
    have H2 := Lib.hid (H.out.trans (sig_drop_zero s k hlt h0))
    clear h0
    go_wp2
    all_goals
     go_round
     case rel => exact ⟨k + 1, by omega, by go_num, H2.out⟩
     case measure => simp [intOf]; omega
   ·have h0b : ((s[k].toNat : Int) == 0) = false := by
     rw [beq_eq_false_iff_ne]; intro e; exact h0 (UInt8.toNat_inj.1 (by rw [show (0 : UInt8).toNat = 0 from rfl]; omega))
    have H2 := Lib.hid (H.out.trans (sig_drop_stop s k hlt h0))
    clear h0
    go_wp2
    go_ret
    exact ⟨ret_str (by rw [← sig_canon, H2.out, extract_bstr]), rfl⟩
  ·go_wp2
   go_ret
   exact ⟨ret_str (by rw [← sig_canon, H.out, extract_bstr, List.drop_eq_nil_of_le (by simp; omega)]; rfl), rfl⟩
theorem bval_take (s : ByteArray) (k : Nat) (h : k < s.size) : bval (s.data.toList.take (k + 1)) = bval (s.data.toList.take k) * 256 + s[k].toNat := by
 rw [List.take_succ_eq_append_getElem (by simpa using h), bval_snoc]; rfl
theorem pow256_le (k : Nat) (h : k ≤ 7) : 256 ^ k ≤ 72057594037927936 := by
 have : (256 : Nat) ^ k ≤ 256 ^ 7 := Nat.pow_le_pow_right (by omega) h
 simpa using this
theorem or_byte (q b : Nat) (hq : q < 72057594037927936) (hb : b < 256) : bits .or .u64 ((q : Int) * 256) (IntKind.u64.wrap (b : Int)) = ((q * 256 + b : Nat) : Int) := by
 have e1 : IntKind.u64.wrap (b : Int) = ((b : Nat) : Int) := by rw [IntKind.wrap_u64]; omega
 have e2 : (q : Int) * 256 = ((2 ^ 8 * q : Nat) : Int) := by omega
 rw [e1, e2, bits_or_u64_nat _ _ (by omega) (by omega), ← Nat.two_pow_add_eq_or_of_lt (by omega) q, Nat.mul_comm]
set_option maxHeartbeats 400000 in
theorem partOf_any (s : ByteArray) (w : World) (hs : s.size ≤ 8) :
  Calls Tryz.prog 134 #[.string s] w fun e w' => e = .returned (.int .u64 (bval s.data.toList : Nat)) ∧ w = w' := by
 go_enter Tryz.func134, Tryz.ntmps134
 go_wp2
 go_loop [3, 4, 7] (fun p _ i => ∃ k : Nat, k ≤ s.size ∧ i = .int .i64 k ∧ p = .int .u64 (bval (s.data.toList.take k) : Nat)) (fun _ _ i => s.size - (intOf i).toNat)
 case atStart => exact ⟨0, Nat.zero_le _, rfl, rfl⟩
 case round =>
  obtain ⟨k, hk, rfl, rfl⟩ := hrel
  by_cases hlt : k < s.size
  ·have hb := bval_lt (s.data.toList.take k)
   have hb2 := pow256_le k (by omega)
   rw [List.length_take, Nat.min_eq_left (by simpa using hk)] at hb
   have hb3 : bval (s.data.toList.take k) < 72057594037927936 := by omega
   have HT := Lib.hid (bval_take s k hlt)
   clear hb hb2
   generalize hq : bval (s.data.toList.take k) = q at *
   have hq := Lib.hid hq
   go_wp2
   go_round
   case rel => exact ⟨k + 1, by omega, by go_num, by rw [HT.out, or_byte q _ hb3 (UInt8.toNat_lt _)]⟩
   case measure => simp [intOf]; omega
  ·go_wp2
   go_ret
   exact ⟨ret_int (by rw [List.take_of_length_le (by simp; omega)]), rfl⟩
end Go.Proofs.YtknaghdoffigjaaGreatDoor
namespace Go.Proofs.YtknaghdoffigjaaGreatDoor
open Go.RowKit
theorem ptrim_snoc (l : List Nat) (x : Nat) : ptrim (l ++ [x]) = if x = 0 then ptrim l else l ++ [x] := by
 induction l with
 | nil => rw [List.nil_append]; simp only [ptrim]
 | cons y l ih =>
  rw [List.cons_append]
  by_cases hx : x = 0
  ·rw [if_pos hx] at ih ⊢
   simp only [ptrim, ih]
  ·rw [if_neg hx] at ih ⊢
   cases l with
   | nil => rw [List.nil_append] at ih ⊢; simp only [ptrim] at ih ⊢; rw [if_neg hx]
   | cons z l => rw [List.cons_append] at ih ⊢; rw [ptrim, ih]
theorem ptrim_length_le (l : List Nat) : (ptrim l).length ≤ l.length := by
 refine snoc_ind (p := fun l => (ptrim l).length ≤ l.length) (Nat.le_refl _) ?_ l
 intro l x ih
 rw [ptrim_snoc]
 split
 ·simp; omega
 ·exact Nat.le_refl _
theorem ptrim_eq_take (l : List Nat) : ptrim l = l.take (ptrim l).length := by
 refine snoc_ind (p := fun l => ptrim l = l.take (ptrim l).length) rfl ?_ l
 intro l x ih
 rw [ptrim_snoc]
 split
 ·rw [List.take_append_of_le_length (ptrim_length_le l)]; exact ih
 ·rw [List.take_of_length_le (Nat.le_refl _)]
theorem ptrim_take_zero (xs : List Nat) (k : Nat) (hk : k < xs.length) (h : xs.getD k 0 = 0) : ptrim (xs.take (k + 1)) = ptrim (xs.take k) := by
 rw [List.take_succ_eq_append_getElem hk, ptrim_snoc, if_pos (by rw [List.getD_eq_getElem?_getD, List.getElem?_eq_getElem hk] at h; exact h)]
theorem ptrim_take_stop (xs : List Nat) (k : Nat) (hk : k < xs.length) (h : xs.getD k 0 ≠ 0) : ptrim (xs.take (k + 1)) = xs.take (k + 1) := by
 rw [List.take_succ_eq_append_getElem hk, ptrim_snoc, if_neg (by rw [List.getD_eq_getElem?_getD, List.getElem?_eq_getElem hk] at h; exact h)]
def U (xs : List Nat) : Array Value := (xs.map fun x : Nat => Value.int .u64 (x : Int)).toArray
def Lst (w : World) (g : Nat) (xs : List Nat) : Prop := w.heap[g]? = some (.cells (U xs) 80 (0, 0))
def RdA (w : World) (A : Option Addr) (xs : List Nat) : Prop :=
 ∀ k, k < xs.length → ∃ a, A = some a ∧ a.block < w.heap.size ∧ w.cell? (a.add k) = some (.int .u64 (xs.getD k 0 : Nat))
theorem U_get (xs : List Nat) (k : Nat) (h : k < xs.length) : (U xs)[k]? = some (.int .u64 (xs.getD k 0 : Nat)) := by
 simp [U, List.getD_eq_getElem?_getD, List.getElem?_eq_getElem h]
theorem U_set (xs : List Nat) (k x : Nat) : (U xs).setIfInBounds k (.int .u64 (x : Int)) = U (xs.set k x) := by
 simp [U, List.map_set]
theorem block_add (a : Addr) (n : Nat) : (a.add n).block = a.block := by unfold Addr.add; split <;> rfl
section
variable {w w' : World} {g : Nat} {xs : List Nat}
theorem Lst.lt (h : Lst w g xs) : g < w.heap.size := by
 rcases Nat.lt_or_ge g w.heap.size with hlt | hge
 ·exact hlt
 ·unfold Lst at h; rw [Array.getElem?_eq_none hge] at h; cases h
theorem Lst.cell (h : Lst w g xs) {k : Nat} (hk : k < xs.length) : w.cell? ⟨g, k, none⟩ = some (.int .u64 (xs.getD k 0 : Nat)) :=
 (cell_of_row w g k (U xs) _ (0, 0) h).trans (U_get xs k hk)
theorem Lst.frozen (h : Lst w g xs) (k : Nat) : w.frozen? ⟨g, k, none⟩ = false := by
 unfold Lst at h
 simp [World.frozen?, h]
theorem Lst.set (h : Lst w g xs) (k x : Nat) : Lst (w.setCell ⟨g, k, none⟩ (.int .u64 (x : Int))) g (xs.set k x) := by
 unfold Lst at h ⊢
 rw [← U_set]
 simp [World.setCell, Array.getElem?_modify, h]
theorem Lst.block (h : Lst w g xs) (hb : w'.heap[g]? = w.heap[g]?) : Lst w' g xs := hb.trans h
theorem Lst.below {B : Nat} (h : Lst w g xs) (hb : Below B w w') (hg : g < B) : Lst w' g xs := h.block (hb.block g hg)
theorem Lst.alloc (h : Lst w g xs) (o : Obj) : Lst (w.alloc o) g xs := h.block (Below.heap_alloc w o g h.lt)
theorem Lst.drew (h : Lst w g xs) : Lst w.drew g xs := h
theorem Lst.grown {row : Option Nat} (h : Lst w g xs) (hb : w.grownBy w' row) (hg : some g ≠ row) : Lst w' g xs := h.block (hb.block g h.lt hg)
theorem Lst.rd (h : Lst w g xs) : RdA w (some ⟨g, 0, none⟩) xs := fun k hk => ⟨_, rfl, h.lt, by
 have := h.cell hk
 have e : (⟨g, 0, none⟩ : Addr).add k = ⟨g, k, none⟩ := by
  unfold Addr.add
  by_cases h0 : k = 0 <;> simp [h0]
 rw [e]; exact this⟩
end
theorem madeU (n : Nat) : madeCells #[.int .u64 0] n = U (List.replicate n 0) := by
 apply Array.ext
 ·simp [size_madeCells, U]
 ·intro i h1 h2
  simp [madeCells, U, Nat.mod_one]
theorem Lst.new (w : World) (xs : List Nat) : Lst (w.alloc (.cells (U xs) 80)) w.heap.size xs := heap_alloc_new w _
section
variable {w w' : World} {A : Option Addr} {xs : List Nat}
theorem RdA.nil (w : World) (A : Option Addr) : RdA w A [] := fun k hk => absurd hk (by simp)
theorem RdA.keep (h : RdA w A xs) (hs : w.heap.size ≤ w'.heap.size) (hk : ∀ p : Addr, p.block < w.heap.size → w'.cell? p = w.cell? p) : RdA w' A xs := fun k hx => by
 obtain ⟨a, e, hb, hc⟩ := h k hx
 exact ⟨a, e, by omega, (hk _ (by rw [block_add]; exact hb)).trans hc⟩
theorem RdA.below (h : RdA w A xs) (hb : Below w.heap.size w w') : RdA w' A xs := h.keep hb.size fun _ hp => hb.cell hp
theorem RdA.take (h : RdA w A xs) (m : Nat) : RdA w A (xs.take m) := fun k hk => by
 rw [List.length_take] at hk
 obtain ⟨a, e, hb, hc⟩ := h k (by omega)
 refine ⟨a, e, hb, ?_⟩
 rw [hc, List.getD_eq_getElem?_getD, List.getD_eq_getElem?_getD, List.getElem?_take_of_lt (by omega)]
end
set_option maxHeartbeats 400000 in
theorem trim_any (A : Option Addr) (n c : Nat) (xs : List Nat) (w : World) (hn : xs.length = n) (h : RdA w A xs) (hc : n ≤ c) (hm : c ≤ maxLen) :
  Calls Tryz.prog 136 #[.slice A n c] w fun e w' => e = .returned (.slice A (ptrim xs).length c) ∧ w = w' := by
 subst hn
 unfold maxLen at hm
 go_enter Tryz.func136, Tryz.ntmps136
 go_wp2
 go_loop [0] (fun z => ∃ k : Nat, k ≤ xs.length ∧ z = .slice A k c ∧ ptrim xs = ptrim (xs.take k)) (fun z => match z with | .slice _ k _ => k | _ => 0)
 case atStart => exact ⟨xs.length, Nat.le_refl _, rfl, by simp⟩
 case round =>
  obtain ⟨k, hk, rfl, hp⟩ := hrel
  have H := Lib.hid hp
  clear hp
  cases k with
  | zero =>
   go_wp2
   go_ret
   exact ⟨by rw [H.out]; rfl, rfl⟩
  | succ k =>
   obtain ⟨a, rfl, hb, hcell⟩ := h k (by omega)
   by_cases h0 : xs.getD k 0 = 0
   ·have H2 := Lib.hid (H.out.trans (ptrim_take_zero xs k (by omega) h0))
    rw [h0] at hcell
    clear h0
    go_wp2
    go_round
    case rel => exact ⟨k, by omega, rfl, H2.out⟩
    case measure => simp
   ·have h0b : (((xs.getD k 0 : Nat) : Int) == 0) = false := by
     rw [beq_eq_false_iff_ne]; omega
    have H2 := Lib.hid (H.out.trans (ptrim_take_stop xs k (by omega) h0))
    clear h0
    generalize xs.getD k 0 = y at *
    go_wp2
    go_ret
    exact ⟨by rw [H2.out, List.length_take, Nat.min_eq_left hk]; rfl, rfl⟩
end Go.Proofs.YtknaghdoffigjaaGreatDoor
namespace Go.Proofs.YtknaghdoffigjaaGreatDoor
open Go.RowKit
theorem bits_Add64 (x y c : Nat) (hc : c ≤ 1) (w : World) :
  (callFunc 137 #[.int .u64 (x : Int), .int .u64 (y : Int), .int .u64 (c : Int)]).run Tryz.prog w =
   .ok (.value (.tuple #[.int .u64 (((x + y + c) % B64 : Nat) : Int), .int .u64 (((x + y + c) / B64 : Nat) : Int)])) w := by
 rw [run_callFunc_extern Tryz.func137 (by kernel_rfl) (by kernel_rfl) (by kernel_rfl) (e := add64Entry) (by kernel_rfl), run_add64 x y c (by omega) (by omega) (by omega) (by omega), B64_eq]
 simp only [Result.andThen]
 congr 5 <;> omega
theorem bits_Sub64 (x y b : Nat) (hb : b ≤ 1) (w : World) :
  (callFunc 140 #[.int .u64 (x : Int), .int .u64 (y : Int), .int .u64 (b : Int)]).run Tryz.prog w =
   .ok (.value (.tuple #[.int .u64 (((x + B64 - y - b) % B64 : Nat) : Int), .int .u64 ((if x < y + b then 1 else 0 : Nat) : Int)])) w := by
 rw [run_callFunc_extern Tryz.func140 (by kernel_rfl) (by kernel_rfl) (by kernel_rfl) (e := sub64Entry) (by kernel_rfl), run_sub64 x y b hb]
 rfl
set_option maxHeartbeats 400000 in
theorem at_any (A : Option Addr) (n c : Nat) (xs : List Nat) (i : Nat) (w : World) (hxn : xs.length = n) (h : RdA w A xs) (hn : n ≤ maxLen) :
  Calls Tryz.prog 138 #[.slice A n c, .int .i64 (i : Int)] w fun e w' => e = .returned (.int .u64 (xs.getD i 0 : Nat)) ∧ w = w' := by
 subst hxn
 unfold maxLen at hn
 by_cases hi : i < xs.length
 ·obtain ⟨a, rfl, hb, hcell⟩ := h i hi
  generalize xs.getD i 0 = y at *
  go_enter Tryz.func138, Tryz.ntmps138
  go_wp2
  go_ret
  exact ⟨rfl, rfl⟩
 ·have h0 : xs.getD i 0 = 0 := by rw [List.getD_eq_getElem?_getD, List.getElem?_eq_none (by omega)]; rfl
  rw [h0]
  clear h0
  go_enter Tryz.func138, Tryz.ntmps138
  go_wp2
  go_ret
  exact ⟨rfl, rfl⟩
def sumN (xs ys : List Nat) : Nat → List Nat × Nat
 | 0 => ([], 0)
 | i + 1 => ((sumN xs ys i).1 ++ [(xs.getD i 0 + ys.getD i 0 + (sumN xs ys i).2) % B64], (xs.getD i 0 + ys.getD i 0 + (sumN xs ys i).2) / B64)
theorem sumN_length (xs ys : List Nat) (i : Nat) : (sumN xs ys i).1.length = i := by
 induction i with
 | zero => rfl
 | succ i ih => simp [sumN, ih]
theorem sumN_carry (xs ys : List Nat) (hx : Limbs xs) (hy : Limbs ys) (i : Nat) : (sumN xs ys i).2 ≤ 1 := by
 induction i with
 | zero => exact Nat.zero_le _
 | succ i ih =>
  have h1 := hx.getD i
  have h2 := hy.getD i
  simp only [sumN]
  rw [B64_eq] at *
  omega
theorem Limbs.snoc {l : List Nat} {x : Nat} (h : Limbs l) (hx : x < B64) : Limbs (l ++ [x]) := by
 intro y hy
 rcases List.mem_append.1 hy with hy | hy
 ·exact h y hy
 ·rw [List.mem_singleton.1 hy]; exact hx
theorem sumN_limbs (xs ys : List Nat) (i : Nat) : Limbs (sumN xs ys i).1 := by
 induction i with
 | zero => exact Limbs.nil
 | succ i ih => exact ih.snoc (Nat.mod_lt _ B64_pos)
theorem pval_take_succ (xs : List Nat) (i : Nat) : pval (xs.take (i + 1)) = pval (xs.take i) + B64 ^ i * xs.getD i 0 := by
 by_cases hi : i < xs.length
 ·rw [List.take_succ_eq_append_getElem hi, pval_snoc, List.length_take, Nat.min_eq_left (by omega), List.getD_eq_getElem?_getD, List.getElem?_eq_getElem hi]
  rfl
 ·rw [List.take_of_length_le (by omega), List.take_of_length_le (by omega), List.getD_eq_getElem?_getD, List.getElem?_eq_none (by omega)]
  simp
theorem sumN_val (xs ys : List Nat) (i : Nat) : pval (sumN xs ys i).1 + B64 ^ i * (sumN xs ys i).2 = pval (xs.take i) + pval (ys.take i) := by
 induction i with
 | zero => simp [sumN, pval]
 | succ i ih =>
  rw [pval_take_succ, pval_take_succ, sumN, pval_snoc, sumN_length]
  simp only
  have hd := Nat.mod_add_div (xs.getD i 0 + ys.getD i 0 + (sumN xs ys i).2) B64
  have e : B64 ^ (i + 1) * ((xs.getD i 0 + ys.getD i 0 + (sumN xs ys i).2) / B64) = B64 ^ i * (B64 * ((xs.getD i 0 + ys.getD i 0 + (sumN xs ys i).2) / B64)) := by
   rw [Nat.pow_succ, Nat.mul_assoc]
  rw [e, Nat.add_assoc, ← Nat.mul_add, hd, Nat.mul_add, Nat.mul_add]
  omega
theorem set_mid (l : List Nat) (m x : Nat) : (l ++ List.replicate (m + 1) 0).set l.length x = (l ++ [x]) ++ List.replicate m 0 := by
 rw [List.set_append_right _ _ (Nat.le_refl _), Nat.sub_self, List.replicate_succ, List.set_cons_zero]; simp
def RetL (w w' : World) (e : Ending) (zs : List Nat) : Prop := ∃ A c, e = .returned (.slice A zs.length c) ∧ zs.length ≤ c ∧ c ≤ maxLen ∧ RdA w' A zs ∧ Below w.heap.size w w'
def RetO (w w' : World) (e : Ending) (zs : List Nat) : Prop :=
 ∃ g rest, e = .returned (.slice (some ⟨g, 0, none⟩) zs.length (zs ++ rest).length) ∧ (zs ++ rest).length ≤ maxLen ∧ w.heap.size ≤ g ∧ Lst w' g (zs ++ rest) ∧ Below w.heap.size w w'
theorem RetO.toL {w w' : World} {e : Ending} {zs : List Nat} (h : RetO w w' e zs) : RetL w w' e zs := by
 obtain ⟨g, rest, he, hm, hg, hl, hb⟩ := h
 refine ⟨_, _, he, by simp, hm, ?_, hb⟩
 have := hl.rd.take zs.length
 rwa [List.take_left' rfl] at this
theorem RetO.trimmed {w w' : World} {g : Nat} {zs : List Nat} (hg : g = w.heap.size) (h : Lst w' g zs) (hl : Limbs zs) (hb : Below g w w') (hm : zs.length ≤ maxLen) :
  RetO w w' (.returned (.slice (some ⟨g, 0, none⟩) (ptrim zs).length zs.length)) (limbs (pval zs)) := by
 have e : ptrim zs ++ zs.drop (ptrim zs).length = zs := by
  have := List.take_append_drop (ptrim zs).length zs
  rwa [← ptrim_eq_take] at this
 rw [← ptrim_limbs hl]
 exact ⟨g, zs.drop (ptrim zs).length, by rw [e], by rw [e]; exact hm, by omega, by rw [e]; exact h, hg ▸ hb⟩
theorem info_u64 : (Tryz.prog.info? 80).map (fun i => (i.zero, i.size, i.bytes)) = some (some (.int .u64 0), 1, 8) := by kernel_rfl
theorem make_parts (n : Nat) (hn : n ≤ 17592186044416) (w : World) :
  (Instr.makeSlice 109 (.int .i64 (n : Int)) (.int .i64 (n : Int))).run Tryz.prog w = .ok (.slice (some ⟨w.heap.size, 0, none⟩) n n) (w.alloc (.cells (U (List.replicate n 0)) 80)) := by
 obtain ⟨i0, hi, hz0, hz1, hz2⟩ := info_parts info_u64
 have hr := run_make (P := Tryz.prog) w 109 80 i0 (.int .u64 0) Tryz.underlying109 hi hz0 .i64 .i64 n n (by omega) (by omega) (by rw [hz2]; omega) (by omega)
 rw [hz1] at hr
 simp only [Int.toNat_natCast, Nat.mul_one] at hr
 rw [← madeU]
 exact hr
set_option maxHeartbeats 1000000 in
theorem sum_any (A B : Option Addr) (ca cb : Nat) (xs ys : List Nat) (w : World) (hx : RdA w A xs) (hy : RdA w B ys) (lx : Limbs xs) (ly : Limbs ys)
  (nx : xs.length ≤ 1099511627776) (ny : ys.length ≤ 1099511627776) :
  Calls Tryz.prog 99 #[.slice A xs.length ca, .slice B ys.length cb] w fun e w' => RetO w w' e (limbs (pval xs + pval ys)) := by
 obtain ⟨n, hn⟩ : ∃ n, n = max xs.length ys.length := ⟨_, rfl⟩
 have hn1 : n ≤ 1099511627776 := by omega
 have hmk := make_parts (n + 1) (by omega)
 have e1 : (((n + 1 : Nat)) : Int) = (n : Int) + 1 := by omega
 rw [e1] at hmk
 have hmax : max (xs.length : Int) (ys.length : Int) = (n : Int) := by omega
 have Hn := Lib.hid hn
 clear hn e1
 go_enter Tryz.func99, Tryz.ntmps99
 go_wp2
 obtain ⟨g, hg⟩ : ∃ g, g = w.heap.size := ⟨_, rfl⟩
 have hL0 : Lst (w.alloc (.cells (U (List.replicate (n + 1) 0)) 80)) g (List.replicate (n + 1) 0) := by rw [hg]; exact Lst.new _ _
 have hB0 : Below g w (w.alloc (.cells (U (List.replicate (n + 1) 0)) 80)) := (Below.refl _ _).alloc (by omega) _
 rw [← hg]
 have Hg := Lib.hid hg
 clear hg hmk hmax
 go_loopw [7, 18] (fun c i wr => ∃ k : Nat, k ≤ n ∧ i = .int .i64 k ∧ c = .int .u64 ((sumN xs ys k).2 : Nat) ∧ Lst wr g ((sumN xs ys k).1 ++ List.replicate (n - k + 1) 0) ∧ Below g w wr)
  (fun _ i _ => n - (intOf i).toNat)
 case atStart => exact ⟨0, Nat.zero_le _, rfl, rfl, hL0, hB0⟩
 case round =>
  obtain ⟨k, hk, rfl, rfl, hL, hB⟩ := hrel
  have hc := sumN_carry xs ys lx ly k
  have hlen := sumN_length xs ys k
  by_cases hlt : k < n
  ·have hA := hx.below (w' := wr) (by rw [← Hg.out]; exact hB)
   have hA2 := hy.below (w' := wr) (by rw [← Hg.out]; exact hB)
   have hcell := hL.cell (k := k) (by simp; omega)
   have hfr := hL.frozen k
   have hL2 := hL.set k ((xs.getD k 0 + ys.getD k 0 + (sumN xs ys k).2) % B64)
   have hset := set_mid (sumN xs ys k).1 (n - k) ((xs.getD k 0 + ys.getD k 0 + (sumN xs ys k).2) % B64)
   rw [hlen] at hset
   rw [hset] at hL2
   have hadd := fun W => bits_Add64 (xs.getD k 0) (ys.getD k 0) (sumN xs ys k).2 hc W
   have hL3 : Lst (wr.setCell ⟨g, k, none⟩ (.int .u64 (((xs.getD k 0 + ys.getD k 0 + (sumN xs ys k).2) % B64 : Nat) : Int))) g ((sumN xs ys (k + 1)).1 ++ List.replicate (n - (k + 1) + 1) 0) := by
    rw [show n - (k + 1) + 1 = n - k from by omega]; exact hL2
   have hc3 : (sumN xs ys (k + 1)).2 = (xs.getD k 0 + ys.getD k 0 + (sumN xs ys k).2) / B64 := rfl
   generalize hq' : (sumN xs ys (k + 1)).2 = q' at *
   have Hq' := Lib.hid hq'
   clear hq'
   have hB' := hB.setCell (p := ⟨g, k, none⟩) (Nat.le_refl g) (.int .u64 (((xs.getD k 0 + ys.getD k 0 + (sumN xs ys k).2) % B64 : Nat) : Int))
   have hx1 := Lib.hid (at_any A xs.length ca xs k wr rfl hA (by unfold maxLen; omega))
   have hy1 := Lib.hid (at_any B ys.length cb ys k wr rfl hA2 (by unfold maxLen; omega))
   rw [← hc3] at hadd
   have Hc3 := Lib.hid hc3
   clear hset hL hL2 hc3
   generalize (sumN xs ys k).2 = q at *
   generalize xs.getD k 0 = x at *
   generalize ys.getD k 0 = y at *
   generalize (x + y + q) % B64 = z at *
   clear hlen
   go_wp2_with fail
   with_reducible refine hx1.out.mono ?_
   rintro e w' ⟨rfl, rfl⟩
   go_wp2_with fail
   with_reducible refine hy1.out.mono ?_
   rintro e w' ⟨rfl, rfl⟩
   go_wp2
   go_roundw
   case rel => exact ⟨k + 1, by omega, by go_num, by rw [Hq'.out], hL3, hB'⟩
   case measure => simp [intOf]; omega
  ·obtain rfl : k = n := by omega
   have hval := sumN_val xs ys k
   have hlim := sumN_limbs xs ys k
   have hcell := hL.cell (k := k) (by simp; omega)
   have hfr := hL.frozen k
   generalize hq : (sumN xs ys k).2 = q at *
   have Hq := Lib.hid hq
   rw [Nat.sub_self] at hL
   have hL2 := hL.set k q
   have hB' := hB.setCell (p := ⟨g, k, none⟩) (Nat.le_refl g) (.int .u64 (q : Int))
   have hset := set_mid (sumN xs ys k).1 0 q
   rw [hlen] at hset
   rw [Nat.zero_add] at hset hL2
   rw [hset, List.replicate_zero, List.append_nil] at hL2
   have hlz : ((sumN xs ys k).1 ++ [q]).length = k + 1 := by simp [hlen]
   have hvz : pval ((sumN xs ys k).1 ++ [q]) = pval xs + pval ys := by
    rw [pval_snoc, hlen, hval, List.take_of_length_le (by have := Hn.out; omega), List.take_of_length_le (by have := Hn.out; omega)]
   have hlimz : Limbs ((sumN xs ys k).1 ++ [q]) := hlim.snoc (by rw [B64_eq]; omega)
   generalize (sumN xs ys k).1 ++ [q] = zs at *
   have Hlz := Lib.hid hlz
   have Hvz := Lib.hid hvz
   clear hlz hvz hset hval hlen hq hL
   go_wp2_with fail
   with_reducible refine (trim_any _ _ _ zs _ Hlz.out hL2.rd (Nat.le_refl _) (by unfold maxLen; omega)).mono ?_
   rintro e w' ⟨rfl, rfl⟩
   go_wp2
   go_ret
   have hr := RetO.trimmed Hg.out hL2 hlimz hB' (by rw [Hlz.out]; unfold maxLen; omega)
   rw [Hlz.out, Hvz.out] at hr
   exact hr
end Go.Proofs.YtknaghdoffigjaaGreatDoor
