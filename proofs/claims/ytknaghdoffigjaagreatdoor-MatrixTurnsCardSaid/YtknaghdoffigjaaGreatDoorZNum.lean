/-
  Plain mathematics: the value of big-endian bytes, of little-endian digits to the base 2^64, and their unique forms without zeros in front. No program stands in this text. DERIVED: THE SHELF's CONTRACTS AT THIS DUMP, IN PLAIN WORDS (tools/lay-plain.mjs out of 'YtknaghdoffigjaaGreatDoorShelf.lean', which tools/lay-shelf.mjs wrote): THE SAME DECLARATIONS UNDER THE SAME NAMES: 'import', 'namespace', 'open', 'def', 'theorem' AND NOTHING ELSE: no command of the shelf's: FOR A HAND-IN. Each laying: the table of numbers ('.._ren') and one theorem, a field a fact of the dump's own or the kernel's comparison; each contract: ONE APPLICATION.
-/
import Derived.Test.YtknaghdoffigjaaGreatDoorRows
import Derived.Shelf.Small.Bits
import Derived.Shelf.Small.Strs
import Derived.Shelf.Strconv.Itoa0
import Derived.Shelf.Bits.Mul64
import Derived.Test.YtknaghdoffigjaaGreatDoorProg
set_option linter.unusedSimpArgs false
set_option linter.unusedVariables false
set_option linter.unnecessarySimpa false
namespace Go.Proofs.YtknaghdoffigjaaGreatDoor

theorem snoc_ind {α : Type} {p : List α → Prop} (h0 : p []) (h1 : ∀ l x, p l → p (l ++ [x])) (l : List α) : p l := by
  have h : ∀ n (l : List α), l.length = n → p l := by
    intro n
    induction n with
    | zero => intro l hl; have : l = [] := List.length_eq_zero_iff.1 hl; subst this; exact h0
    | succ n ih =>
      intro l hl
      rcases List.eq_nil_or_concat l with rfl | ⟨l', b, rfl⟩
      · exact h0
      · rw [List.concat_eq_append]; exact h1 _ _ (ih _ (by simp at hl; omega))
  exact h _ l rfl

/- Bytes, the most significant one first. -/
def bval (l : List UInt8) : Nat := l.foldl (fun n b => n * 256 + b.toNat) 0
def sig (l : List UInt8) : List UInt8 := l.dropWhile (· == 0)
def canonF : Nat → Nat → List UInt8
  | 0, _ => []
  | f + 1, n => if n = 0 then [] else canonF f (n / 256) ++ [UInt8.ofNat (n % 256)]
/-- The bytes of n, without zeros in front. -/
def canon (n : Nat) : List UInt8 := canonF n n

theorem canonF_any (f g n : Nat) (hf : n ≤ f) (hg : n ≤ g) : canonF f n = canonF g n := by
  induction f generalizing g n with
  | zero => obtain rfl : n = 0 := by omega
            cases g <;> simp [canonF]
  | succ f ih =>
    cases g with
    | zero => obtain rfl : n = 0 := by omega
              simp [canonF]
    | succ g =>
      simp only [canonF]
      by_cases h : n = 0
      · simp [h]
      · rw [if_neg h, if_neg h, ih g _ (by omega) (by omega)]
theorem canon_zero : canon 0 = [] := rfl
theorem canon_step (n : Nat) (h : n ≠ 0) : canon n = canon (n / 256) ++ [UInt8.ofNat (n % 256)] := by
  unfold canon
  cases n with
  | zero => exact absurd rfl h
  | succ n =>
    rw [show canonF (n + 1) (n + 1) = canonF n ((n + 1) / 256) ++ [UInt8.ofNat ((n + 1) % 256)] from by simp [canonF], canonF_any n _ _ (by omega) (Nat.le_refl _)]

theorem bval_snoc (l : List UInt8) (b : UInt8) : bval (l ++ [b]) = bval l * 256 + b.toNat := by
  simp [bval, List.foldl_append]
theorem bval_append (a b : List UInt8) : bval (a ++ b) = bval a * 256 ^ b.length + bval b := by
  refine snoc_ind (p := fun b => bval (a ++ b) = bval a * 256 ^ b.length + bval b) ?_ ?_ b
  · simp [bval]
  · intro l x ih
    rw [← List.append_assoc, bval_snoc, ih, bval_snoc, List.length_append, List.length_singleton, Nat.pow_succ, Nat.add_mul, Nat.mul_assoc, Nat.add_assoc]
theorem bval_lt (l : List UInt8) : bval l < 256 ^ l.length := by
  refine snoc_ind (p := fun l => bval l < 256 ^ l.length) ?_ ?_ l
  · simp [bval]
  · intro l x ih
    have := x.toNat_lt
    rw [bval_snoc, List.length_append, List.length_singleton, Nat.pow_succ]
    omega
theorem bval_canon (n : Nat) : bval (canon n) = n := by
  induction n using Nat.strongRecOn with
  | ind n ih =>
    by_cases h : n = 0
    · subst h; rfl
    · rw [canon_step n h, bval_snoc, ih _ (by omega), UInt8.toNat_ofNat_of_lt' (by rw [show UInt8.size = 256 from rfl]; omega)]
      omega

theorem sig_cons (b : UInt8) (l : List UInt8) : sig (b :: l) = if b = 0 then sig l else b :: l := by
  unfold sig
  rw [List.dropWhile_cons]
  by_cases h : b = 0 <;> simp [h]
theorem sig_snoc (l : List UInt8) (b : UInt8) : sig (l ++ [b]) = if sig l = [] then (if b = 0 then [] else [b]) else sig l ++ [b] := by
  induction l with
  | nil => rw [List.nil_append, sig_cons]; simp [sig]
  | cons x l ih =>
    rw [List.cons_append, sig_cons, sig_cons]
    by_cases h : x = 0
    · rw [if_pos h, if_pos h, ih]
    · simp [h]
theorem sig_canon (l : List UInt8) : sig l = canon (bval l) := by
  refine snoc_ind (p := fun l => sig l = canon (bval l)) rfl ?_ l
  intro l b ih
  rw [sig_snoc, bval_snoc, ih]
  have hb := b.toNat_lt
  by_cases h0 : bval l = 0
  · rw [h0, canon_zero, if_pos rfl]
    by_cases hb0 : b = 0
    · subst hb0; rfl
    · have : b.toNat ≠ 0 := fun e => hb0 (UInt8.toNat_inj.1 e)
      rw [if_neg hb0, canon_step _ (by omega), show (0 * 256 + b.toNat) / 256 = 0 from by omega, show (0 * 256 + b.toNat) % 256 = b.toNat from by omega, canon_zero]
      simp
  · have hne : canon (bval l) ≠ [] := by rw [canon_step _ h0]; simp
    rw [if_neg hne, canon_step (bval l * 256 + b.toNat) (by omega), show (bval l * 256 + b.toNat) / 256 = bval l from by omega, show (bval l * 256 + b.toNat) % 256 = b.toNat from by omega]
    simp
theorem sig_of_canon (n : Nat) : sig (canon n) = canon n := by rw [sig_canon, bval_canon]
theorem canon_eq_nil {n : Nat} : canon n = [] ↔ n = 0 := by
  constructor
  · intro h; have := bval_canon n; rw [h] at this; exact this.symm
  · rintro rfl; rfl
theorem sig_length_le (l : List UInt8) : (sig l).length ≤ l.length := by
  unfold sig; exact (List.dropWhile_sublist _).length_le
theorem canon_length_le {n k : Nat} (h : n < 256 ^ k) : (canon n).length ≤ k := by
  induction k generalizing n with
  | zero => obtain rfl : n = 0 := by simp at h; omega
            simp [canon_zero]
  | succ k ih =>
    by_cases h0 : n = 0
    · subst h0; simp [canon_zero]
    · rw [canon_step n h0, List.length_append, List.length_singleton]
      have := ih (n := n / 256) (by rw [Nat.pow_succ] at h; omega)
      omega
theorem canon_length_mono {m n : Nat} (h : m ≤ n) : (canon m).length ≤ (canon n).length := by
  refine canon_length_le (Nat.lt_of_le_of_lt h ?_)
  have := bval_lt (canon n)
  rwa [bval_canon] at this

/- Digits to the base 2^64, the least significant one first. -/
def B64 : Nat := 18446744073709551616
theorem B64_eq : B64 = 18446744073709551616 := rfl
def pval : List Nat → Nat
  | [] => 0
  | x :: l => x + B64 * pval l
def Limbs (l : List Nat) : Prop := ∀ x ∈ l, x < B64
/-- Without the zeros at its end. -/
def ptrim : List Nat → List Nat
  | [] => []
  | x :: l => match ptrim l with
    | [] => if x = 0 then [] else [x]
    | y :: r => x :: y :: r
def limbsF : Nat → Nat → List Nat
  | 0, _ => []
  | f + 1, n => if n = 0 then [] else n % B64 :: limbsF f (n / B64)
/-- The digits of n, without zeros at the end. -/
def limbs (n : Nat) : List Nat := limbsF n n

theorem B64_pos : 0 < B64 := by rw [B64_eq]; omega
theorem div_lt_B64 {n : Nat} (h : n ≠ 0) : n / B64 < n := Nat.div_lt_self (by omega) (by rw [B64_eq]; omega)
theorem limbsF_any (f g n : Nat) (hf : n ≤ f) (hg : n ≤ g) : limbsF f n = limbsF g n := by
  induction f generalizing g n with
  | zero => obtain rfl : n = 0 := by omega
            cases g <;> simp [limbsF]
  | succ f ih =>
    cases g with
    | zero => obtain rfl : n = 0 := by omega
              simp [limbsF]
    | succ g =>
      simp only [limbsF]
      by_cases h : n = 0
      · simp [h]
      · have := div_lt_B64 h
        rw [if_neg h, if_neg h, ih g _ (by omega) (by omega)]
theorem limbs_zero : limbs 0 = [] := rfl
theorem limbs_step (n : Nat) (h : n ≠ 0) : limbs n = n % B64 :: limbs (n / B64) := by
  unfold limbs
  have := div_lt_B64 h
  cases n with
  | zero => exact absurd rfl h
  | succ n =>
    rw [show limbsF (n + 1) (n + 1) = (n + 1) % B64 :: limbsF n ((n + 1) / B64) from by simp [limbsF], limbsF_any n _ _ (by omega) (Nat.le_refl _)]
theorem pval_limbs (n : Nat) : pval (limbs n) = n := by
  induction n using Nat.strongRecOn with
  | ind n ih =>
    by_cases h : n = 0
    · subst h; rfl
    · rw [limbs_step n h, pval, ih _ (div_lt_B64 h)]
      exact Nat.mod_add_div n B64
theorem limbs_limbs (n : Nat) : Limbs (limbs n) := by
  induction n using Nat.strongRecOn with
  | ind n ih =>
    by_cases h : n = 0
    · subst h; intro x hx; simp [limbs_zero] at hx
    · rw [limbs_step n h]
      intro x hx
      rcases List.mem_cons.1 hx with rfl | hx
      · exact Nat.mod_lt _ B64_pos
      · exact ih _ (div_lt_B64 h) x hx
theorem Limbs.tail {x : Nat} {l : List Nat} (h : Limbs (x :: l)) : Limbs l := fun y hy => h y (List.mem_cons_of_mem _ hy)
theorem Limbs.head {x : Nat} {l : List Nat} (h : Limbs (x :: l)) : x < B64 := h x List.mem_cons_self
theorem Limbs.nil : Limbs [] := by intro x hx; cases hx
theorem Limbs.cons {x : Nat} {l : List Nat} (h : x < B64) (hl : Limbs l) : Limbs (x :: l) := by
  intro y hy
  rcases List.mem_cons.1 hy with rfl | hy
  · exact h
  · exact hl y hy
theorem Limbs.getD {l : List Nat} (h : Limbs l) (k : Nat) : l.getD k 0 < B64 := by
  by_cases hk : k < l.length
  · rw [List.getD_eq_getElem?_getD, List.getElem?_eq_getElem hk]; exact h _ (List.getElem_mem hk)
  · rw [List.getD_eq_getElem?_getD, List.getElem?_eq_none (by omega)]; exact B64_pos
theorem ptrim_limbs {l : List Nat} (h : Limbs l) : ptrim l = limbs (pval l) := by
  induction l with
  | nil => rfl
  | cons x l ih =>
    have hx := h.head
    have ih := ih h.tail
    have hm : (x + B64 * pval l) % B64 = x := by rw [Nat.add_mul_mod_self_left, Nat.mod_eq_of_lt hx]
    have hd : (x + B64 * pval l) / B64 = pval l := by rw [Nat.add_mul_div_left _ _ B64_pos, Nat.div_eq_of_lt hx, Nat.zero_add]
    by_cases h0 : pval l = 0
    · have : ptrim l = [] := by rw [ih, h0, limbs_zero]
      simp only [ptrim, this, pval]
      by_cases hx0 : x = 0
      · simp [hx0, h0, limbs_zero]
      · rw [if_neg hx0, h0, Nat.mul_zero, Nat.add_zero, limbs_step x hx0, Nat.mod_eq_of_lt hx, Nat.div_eq_of_lt hx, limbs_zero]
    · have hne : x + B64 * pval l ≠ 0 := by
        have : 0 < B64 * pval l := Nat.mul_pos B64_pos (by omega)
        omega
      rw [pval, limbs_step _ hne, hm, hd, ptrim]
      have : limbs (pval l) ≠ [] := by rw [limbs_step _ h0]; simp
      rw [ih]
      cases hl : limbs (pval l) with
      | nil => exact absurd hl this
      | cons y r => rfl
theorem limbs_eq_nil {n : Nat} : limbs n = [] ↔ n = 0 := by
  constructor
  · intro h; have := pval_limbs n; rw [h] at this; exact this.symm
  · rintro rfl; rfl
theorem pval_append (a b : List Nat) : pval (a ++ b) = pval a + B64 ^ a.length * pval b := by
  induction a with
  | nil => simp [pval]
  | cons x a ih => rw [List.cons_append, pval, ih, pval, List.length_cons, Nat.pow_succ, Nat.mul_add, Nat.add_assoc, Nat.mul_comm (B64 ^ a.length) B64, Nat.mul_assoc]
theorem pval_snoc (a : List Nat) (x : Nat) : pval (a ++ [x]) = pval a + B64 ^ a.length * x := by rw [pval_append]; simp [pval]
theorem pval_lt {l : List Nat} (h : Limbs l) : pval l < B64 ^ l.length := by
  induction l with
  | nil => simp [pval]
  | cons x l ih =>
    have := ih h.tail
    have hx := h.head
    rw [pval, List.length_cons, Nat.pow_succ, Nat.mul_comm _ B64]
    have : B64 * (pval l + 1) ≤ B64 * B64 ^ l.length := Nat.mul_le_mul_left _ this
    rw [Nat.mul_add, Nat.mul_one] at this
    omega

/- Numbers as the program holds them. -/
def bstr (l : List UInt8) : ByteArray := ⟨l.toArray⟩
/-- The value of a Wide with this sign and these bytes. -/
def wint (neg : Bool) (s : ByteArray) : Int := if neg then -(bval s.data.toList : Int) else bval s.data.toList
/-- The canonical Wide of z. -/
def wv (z : Int) : Value := .agg #[.bool (decide (z < 0)), .string (bstr (canon z.natAbs))]
theorem wint_wv (z : Int) : wint (decide (z < 0)) (bstr (canon z.natAbs)) = z := by
  unfold wint bstr
  simp only [bval_canon]
  by_cases h : z < 0 <;> simp [h] <;> omega
end Go.Proofs.YtknaghdoffigjaaGreatDoor
namespace Go.Proofs
open Go.Shelf
def Tryz.lays125_ren : Go.Shelf.Ren := ⟨fun | 125 => 130 | 128 => 149 | 129 => 141 | n => n, fun | 46 => 145 | 3 => 3 | 51 => 166 | 53 => 80 | 4 => 4 | 5 => 5 | 9 => 9 | n => n, fun | n => n⟩
theorem Tryz.lays125 : Go.Proofs.Lays.n125 Tryz.prog Tryz.lays125_ren := {
  mixed := by kernel_rfl
  f125 := Tryz.func130.trans (congrArg some (by kernel_rfl))
  f128 := Tryz.func149.trans (congrArg some (by kernel_rfl))
  f129 := Tryz.func141.trans (congrArg some (by kernel_rfl))
  t3 := Tryz.underlying3
  a3 := Tryz.isAgg3
  z3 := Tryz.sizeOf3
  v3 := Tryz.zeroValue3
  t4 := Tryz.underlying4
  a4 := Tryz.isAgg4
  z4 := Tryz.sizeOf4
  v4 := Tryz.zeroValue4
  t5 := Tryz.underlying5
  a5 := Tryz.isAgg5
  z5 := Tryz.sizeOf5
  v5 := Tryz.zeroValue5
  t9 := Tryz.underlying9
  a9 := Tryz.isAgg9
  z9 := Tryz.sizeOf9
  v9 := Tryz.zeroValue9
  t46 := Tryz.underlying145
  a46 := Tryz.isAgg145
  z46 := Tryz.sizeOf145
  v46 := Tryz.zeroValue145
  t51 := Tryz.underlying166
  a51 := Tryz.isAgg166
  z51 := Tryz.sizeOf166
  v51 := Tryz.zeroValue166
  t53 := Tryz.underlying80
  a53 := Tryz.isAgg80
  z53 := Tryz.sizeOf80
  v53 := Tryz.zeroValue80 }
/-- bits.Len: "Len returns the minimum number of bits required to represent x; the result is 0 for x == 0.": IT RETURNS 'Lib.bitLen x'; the world is as it was. (A uint has 64 bits in the model.) ITS CALLEE bits.Len64 IS MET BY ITS OWN CONTRACT OFF THE SHELF (lay that first). (LAID: no walk: one application.) -/
theorem Tryz.bits_Len (x : Int) (w : World) (h0 : 0 ≤ x) (h1 : x ≤ 18446744073709551615) :
    Calls Tryz.prog 130 #[.int .u64 x] w fun e w' => e = .returned (.int .i64 (Lib.bitLen x.toNat)) ∧ w' = w := Any.bits_Len Tryz.lays125 x w h0 h1
def Tryz.lays134_ren : Go.Shelf.Ren := ⟨fun | 134 => 102 | 129 => 141 | n => n, fun | 53 => 80 | 3 => 3 | 4 => 4 | 46 => 145 | 5 => 5 | 9 => 9 | n => n, fun | n => n⟩
theorem Tryz.lays134 : Go.Proofs.Lays.n134 Tryz.prog Tryz.lays134_ren := {
  mixed := by kernel_rfl
  f129 := Tryz.func141.trans (congrArg some (by kernel_rfl))
  f134 := Tryz.func102.trans (congrArg some (by kernel_rfl))
  t3 := Tryz.underlying3
  a3 := Tryz.isAgg3
  z3 := Tryz.sizeOf3
  v3 := Tryz.zeroValue3
  t4 := Tryz.underlying4
  a4 := Tryz.isAgg4
  z4 := Tryz.sizeOf4
  v4 := Tryz.zeroValue4
  t5 := Tryz.underlying5
  a5 := Tryz.isAgg5
  z5 := Tryz.sizeOf5
  v5 := Tryz.zeroValue5
  t9 := Tryz.underlying9
  a9 := Tryz.isAgg9
  z9 := Tryz.sizeOf9
  v9 := Tryz.zeroValue9
  t46 := Tryz.underlying145
  a46 := Tryz.isAgg145
  z46 := Tryz.sizeOf145
  v46 := Tryz.zeroValue145
  t53 := Tryz.underlying80
  a53 := Tryz.isAgg80
  z53 := Tryz.sizeOf80
  v53 := Tryz.zeroValue80 }
/-- bits.LeadingZeros64: "LeadingZeros64 returns the number of leading zero bits in x; the result is 64 for x == 0.": IT RETURNS '64 - Lib.bitLen x'; the world is as it was. ITS CALLEE bits.Len64 IS MET BY ITS OWN CONTRACT OFF THE SHELF (lay that first): entered in place it sends the kernel out of memory. (LAID: no walk: one application.) -/
theorem Tryz.bits_LeadingZeros64 (x : Int) (w : World) (h0 : 0 ≤ x) (h1 : x ≤ 18446744073709551615) :
    Calls Tryz.prog 102 #[.int .u64 x] w fun e w' => e = .returned (.int .i64 (64 - (Lib.bitLen x.toNat : Int))) ∧ w' = w := Any.bits_LeadingZeros64 Tryz.lays134 x w h0 h1
open Go.RowKit in
def Tryz.lays106_ren : Go.Shelf.Ren := ⟨fun | 106 => 139 | 213 => 153 | 265 => 162 | n => n, fun | 9 => 9 | 3 => 3 | n => n, fun | n => n⟩
theorem Tryz.lays106 : Go.Proofs.Lays.n106 Tryz.prog Tryz.lays106_ren := {
  mixed := by kernel_rfl
  f106 := Tryz.func139.trans (congrArg some (by kernel_rfl))
  f213 := Tryz.func153.trans (congrArg some (by kernel_rfl))
  f265 := Tryz.func162.trans (congrArg some (by kernel_rfl))
  t3 := Tryz.underlying3
  a3 := Tryz.isAgg3
  z3 := Tryz.sizeOf3
  v3 := Tryz.zeroValue3
  t9 := Tryz.underlying9
  a9 := Tryz.isAgg9
  z9 := Tryz.sizeOf9
  v9 := Tryz.zeroValue9 }
open Go.RowKit in
/-- strings.Compare: "Compare returns an integer comparing two strings lexicographically. The result will be 0 if a == b, -1 if a < b, and +1 if a > b.": IT RETURNS 'Lib.compareBytes a b'; the world is as it was. (LAID: no walk: one application.) -/
theorem Tryz.strings_Compare (a b : ByteArray) (w : World) :
    Calls Tryz.prog 139 #[.string a, .string b] w fun e w' => e = .returned (.int .i64 (Lib.compareBytes a.data.toList b.data.toList)) ∧ w' = w := Any.strings_Compare Tryz.lays106 a b w
def Tryz.lays264_ren : Go.Shelf.Ren := ⟨fun | 264 => 145 | n => n, fun | 53 => 80 | 46 => 145 | n => n, fun | n => n⟩
theorem Tryz.lays264 : Go.Proofs.Lays.n264 Tryz.prog Tryz.lays264_ren := {
  mixed := by kernel_rfl
  f264 := Tryz.func145.trans (congrArg some (by kernel_rfl))
  t46 := Tryz.underlying145
  a46 := Tryz.isAgg145
  z46 := Tryz.sizeOf145
  v46 := Tryz.zeroValue145
  t53 := Tryz.underlying80
  a53 := Tryz.isAgg80
  z53 := Tryz.sizeOf80
  v53 := Tryz.zeroValue80 }
open Go.RowKit Go.Lib in
theorem Tryz.bits_Mul64 (x y : Nat) (hx : x < 18446744073709551616) (hy : y < 18446744073709551616) (w : World) :
    Calls Tryz.prog 145 #[.int .u64 x, .int .u64 y] w fun e w' => e = .returned (.tuple #[.int .u64 ((x * y / 18446744073709551616 : Nat) : Int), .int .u64 ((x * y % 18446744073709551616 : Nat) : Int)]) ∧ w' = w := Any.bits_Mul64 Tryz.lays264 x y hx hy w
end Go.Proofs
