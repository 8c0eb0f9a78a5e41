/-
  The contracts of wide.significant and wide.partOf, for every string. Words for memory: a block that holds a list of uint64 numbers; a slice that reads as such a list. And the contracts of wide.trim and parts.at. The contracts of parts.at, wide.sum and wide.difference.
-/
import Derived.Test.YtknaghdoffigjaaGreatDoorZNum
import Derived.WalkKit
import Derived.WalkSpells
import Derived.WalkLawsBesides
import Derived.Lib.Hide
import Derived.Lib.Strings
import Derived.Lib.IndexBytes
import Derived.Laws.Bits64b
import Derived.Below
import Derived.Laws.OwnMore
import Derived.Laws.Rows
import Derived.Laws.MakeOwn
import Derived.Deep.Draws
import Derived.Shelf.Spec.BitsCarry
import Derived.Deep.QuietTactic
import Derived.BigQuiet
import Derived.StillTailTactics
set_option linter.unusedSimpArgs false
set_option linter.unusedVariables false
set_option linter.unnecessarySimpa false
namespace Go.Proofs.YtknaghdoffigjaaGreatDoor
open Go.RowKit

theorem ret_str {a b : ByteArray} (h : a = b) : Ending.returned (.string a) = .returned (.string b) := by rw [h]
theorem ret_int {k : IntKind} {a b : Int} (h : a = b) : Ending.returned (.int k a) = .returned (.int k b) := by rw [h]

theorem bstr_toList (s : ByteArray) : bstr s.data.toList = s := by
  obtain ⟨⟨l⟩⟩ := s; rfl
theorem extract_bstr (s : ByteArray) (k : Nat) : s.extract k s.size = bstr (s.data.toList.drop k) := by
  rw [← Lib.extract_to_end, bstr_toList]
theorem sig_drop_zero (s : ByteArray) (k : Nat) (h : k < s.size) (h0 : s[k] = 0) : sig (s.data.toList.drop k) = sig (s.data.toList.drop (k + 1)) := by
  rw [List.drop_eq_getElem_cons (by simpa using h), sig_cons, if_pos (show s.data.toList[k] = 0 from h0)]
theorem sig_drop_stop (s : ByteArray) (k : Nat) (h : k < s.size) (h0 : s[k] ≠ 0) : sig (s.data.toList.drop k) = s.data.toList.drop k := by
  rw [List.drop_eq_getElem_cons (by simpa using h), sig_cons, if_neg (show ¬ s.data.toList[k] = 0 from h0)]

set_option maxHeartbeats 400000 in
theorem significant_any (s : ByteArray) (w : World) (hs : s.size ≤ maxLen) :
    Calls Tryz.prog 117 #[.string s] w fun e w' => e = .returned (.string (bstr (canon (bval s.data.toList)))) ∧ w = w' := by
  unfold maxLen at hs
  go_enter Tryz.func117, Tryz.ntmps117
  go_wp2
  go_loop [3] (fun z => ∃ k : Nat, k ≤ s.size ∧ z = .int .i64 k ∧ sig s.data.toList = sig (s.data.toList.drop k)) (fun z => s.size - (intOf z).toNat)
  case atStart => exact ⟨0, Nat.zero_le _, rfl, by simp⟩
  case round =>
    obtain ⟨k, hk, rfl, hsig⟩ := hrel
    have H := Lib.hid hsig
    clear hsig
    by_cases hlt : k < s.size
    · by_cases h0 : s[k] = 0
      · have h0b : ((s[k].toNat : Int) == 0) = true := by rw [h0]; rfl
        have H2 := Lib.hid (H.out.trans (sig_drop_zero s k hlt h0))
        clear h0
        go_wp2
        all_goals
          go_round
          case rel => exact ⟨k + 1, by omega, by go_num, H2.out⟩
          case measure => simp [intOf]; omega
      · have h0b : ((s[k].toNat : Int) == 0) = false := by
          rw [beq_eq_false_iff_ne]; intro e; exact h0 (UInt8.toNat_inj.1 (by rw [show (0 : UInt8).toNat = 0 from rfl]; omega))
        have H2 := Lib.hid (H.out.trans (sig_drop_stop s k hlt h0))
        clear h0
        go_wp2
        go_ret
        exact ⟨ret_str (by rw [← sig_canon, H2.out, extract_bstr]), rfl⟩
    · go_wp2
      go_ret
      exact ⟨ret_str (by rw [← sig_canon, H.out, extract_bstr, List.drop_eq_nil_of_le (by simp; omega)]; rfl), rfl⟩

theorem bval_take (s : ByteArray) (k : Nat) (h : k < s.size) : bval (s.data.toList.take (k + 1)) = bval (s.data.toList.take k) * 256 + s[k].toNat := by
  rw [List.take_succ_eq_append_getElem (by simpa using h), bval_snoc]; rfl
theorem pow256_le (k : Nat) (h : k ≤ 7) : 256 ^ k ≤ 72057594037927936 := by
  have : (256 : Nat) ^ k ≤ 256 ^ 7 := Nat.pow_le_pow_right (by omega) h
  simpa using this

theorem or_byte (q b : Nat) (hq : q < 72057594037927936) (hb : b < 256) : bits .or .u64 ((q : Int) * 256) (IntKind.u64.wrap (b : Int)) = ((q * 256 + b : Nat) : Int) := by
  have e1 : IntKind.u64.wrap (b : Int) = ((b : Nat) : Int) := by rw [IntKind.wrap_u64]; omega
  have e2 : (q : Int) * 256 = ((2 ^ 8 * q : Nat) : Int) := by omega
  rw [e1, e2, bits_or_u64_nat _ _ (by omega) (by omega), ← Nat.two_pow_add_eq_or_of_lt (by omega) q, Nat.mul_comm]

set_option maxHeartbeats 400000 in
theorem partOf_any (s : ByteArray) (w : World) (hs : s.size ≤ 8) :
    Calls Tryz.prog 134 #[.string s] w fun e w' => e = .returned (.int .u64 (bval s.data.toList : Nat)) ∧ w = w' := by
  go_enter Tryz.func134, Tryz.ntmps134
  go_wp2
  go_loop [3, 4, 7] (fun p _ i => ∃ k : Nat, k ≤ s.size ∧ i = .int .i64 k ∧ p = .int .u64 (bval (s.data.toList.take k) : Nat)) (fun _ _ i => s.size - (intOf i).toNat)
  case atStart => exact ⟨0, Nat.zero_le _, rfl, rfl⟩
  case round =>
    obtain ⟨k, hk, rfl, rfl⟩ := hrel
    by_cases hlt : k < s.size
    · have hb := bval_lt (s.data.toList.take k)
      have hb2 := pow256_le k (by omega)
      rw [List.length_take, Nat.min_eq_left (by simpa using hk)] at hb
      have hb3 : bval (s.data.toList.take k) < 72057594037927936 := by omega
      have HT := Lib.hid (bval_take s k hlt)
      clear hb hb2
      generalize hq : bval (s.data.toList.take k) = q at *
      have hq := Lib.hid hq
      go_wp2
      go_round
      case rel => exact ⟨k + 1, by omega, by go_num, by rw [HT.out, or_byte q _ hb3 (UInt8.toNat_lt _)]⟩
      case measure => simp [intOf]; omega
    · go_wp2
      go_ret
      exact ⟨ret_int (by rw [List.take_of_length_le (by simp; omega)]), rfl⟩
end Go.Proofs.YtknaghdoffigjaaGreatDoor
namespace Go.Proofs.YtknaghdoffigjaaGreatDoor
open Go.RowKit

theorem ptrim_snoc (l : List Nat) (x : Nat) : ptrim (l ++ [x]) = if x = 0 then ptrim l else l ++ [x] := by
  induction l with
  | nil => rw [List.nil_append]; simp only [ptrim]
  | cons y l ih =>
    rw [List.cons_append]
    by_cases hx : x = 0
    · rw [if_pos hx] at ih ⊢
      simp only [ptrim, ih]
    · rw [if_neg hx] at ih ⊢
      cases l with
      | nil => rw [List.nil_append] at ih ⊢; simp only [ptrim] at ih ⊢; rw [if_neg hx]
      | cons z l => rw [List.cons_append] at ih ⊢; rw [ptrim, ih]
theorem ptrim_length_le (l : List Nat) : (ptrim l).length ≤ l.length := by
  refine snoc_ind (p := fun l => (ptrim l).length ≤ l.length) (Nat.le_refl _) ?_ l
  intro l x ih
  rw [ptrim_snoc]
  split
  · simp; omega
  · exact Nat.le_refl _
theorem ptrim_eq_take (l : List Nat) : ptrim l = l.take (ptrim l).length := by
  refine snoc_ind (p := fun l => ptrim l = l.take (ptrim l).length) rfl ?_ l
  intro l x ih
  rw [ptrim_snoc]
  split
  · rw [List.take_append_of_le_length (ptrim_length_le l)]; exact ih
  · rw [List.take_of_length_le (Nat.le_refl _)]
theorem ptrim_take_zero (xs : List Nat) (k : Nat) (hk : k < xs.length) (h : xs.getD k 0 = 0) : ptrim (xs.take (k + 1)) = ptrim (xs.take k) := by
  rw [List.take_succ_eq_append_getElem hk, ptrim_snoc, if_pos (by rw [List.getD_eq_getElem?_getD, List.getElem?_eq_getElem hk] at h; exact h)]
theorem ptrim_take_stop (xs : List Nat) (k : Nat) (hk : k < xs.length) (h : xs.getD k 0 ≠ 0) : ptrim (xs.take (k + 1)) = xs.take (k + 1) := by
  rw [List.take_succ_eq_append_getElem hk, ptrim_snoc, if_neg (by rw [List.getD_eq_getElem?_getD, List.getElem?_eq_getElem hk] at h; exact h)]

/-- The cells of a list of uint64 numbers. -/
def U (xs : List Nat) : Array Value := (xs.map fun x : Nat => Value.int .u64 (x : Int)).toArray
/-- Block g is just this list of uint64 numbers, and may be written. -/
def Lst (w : World) (g : Nat) (xs : List Nat) : Prop := w.heap[g]? = some (.cells (U xs) 80 (0, 0))
/-- A slice with this address, as long as the list, reads as the list. -/
def RdA (w : World) (A : Option Addr) (xs : List Nat) : Prop :=
  ∀ k, k < xs.length → ∃ a, A = some a ∧ a.block < w.heap.size ∧ w.cell? (a.add k) = some (.int .u64 (xs.getD k 0 : Nat))

theorem U_get (xs : List Nat) (k : Nat) (h : k < xs.length) : (U xs)[k]? = some (.int .u64 (xs.getD k 0 : Nat)) := by
  simp [U, List.getD_eq_getElem?_getD, List.getElem?_eq_getElem h]
theorem U_set (xs : List Nat) (k x : Nat) : (U xs).setIfInBounds k (.int .u64 (x : Int)) = U (xs.set k x) := by
  simp [U, List.map_set]
theorem block_add (a : Addr) (n : Nat) : (a.add n).block = a.block := by unfold Addr.add; split <;> rfl

section

variable {w w' : World} {g : Nat} {xs : List Nat}

theorem Lst.lt (h : Lst w g xs) : g < w.heap.size := by
  rcases Nat.lt_or_ge g w.heap.size with hlt | hge
  · exact hlt
  · unfold Lst at h; rw [Array.getElem?_eq_none hge] at h; cases h
theorem Lst.cell (h : Lst w g xs) {k : Nat} (hk : k < xs.length) : w.cell? ⟨g, k, none⟩ = some (.int .u64 (xs.getD k 0 : Nat)) :=
  (cell_of_row w g k (U xs) _ (0, 0) h).trans (U_get xs k hk)
theorem Lst.frozen (h : Lst w g xs) (k : Nat) : w.frozen? ⟨g, k, none⟩ = false := by
  unfold Lst at h
  simp [World.frozen?, h]
theorem Lst.set (h : Lst w g xs) (k x : Nat) : Lst (w.setCell ⟨g, k, none⟩ (.int .u64 (x : Int))) g (xs.set k x) := by
  unfold Lst at h ⊢
  rw [← U_set]
  simp [World.setCell, Array.getElem?_modify, h]
theorem Lst.block (h : Lst w g xs) (hb : w'.heap[g]? = w.heap[g]?) : Lst w' g xs := hb.trans h
theorem Lst.below {B : Nat} (h : Lst w g xs) (hb : Below B w w') (hg : g < B) : Lst w' g xs := h.block (hb.block g hg)
theorem Lst.alloc (h : Lst w g xs) (o : Obj) : Lst (w.alloc o) g xs := h.block (Below.heap_alloc w o g h.lt)
theorem Lst.drew (h : Lst w g xs) : Lst w.drew g xs := h
theorem Lst.drewN (h : Lst w g xs) (n : Nat) : Lst (w.drewN n) g xs := h
theorem Lst.grown {row : Option Nat} (h : Lst w g xs) (hb : w.grownBy w' row) (hg : some g ≠ row) : Lst w' g xs := h.block (hb.block g h.lt hg)
theorem Lst.rd (h : Lst w g xs) : RdA w (some ⟨g, 0, none⟩) xs := fun k hk => ⟨_, rfl, h.lt, by
  have := h.cell hk
  have e : (⟨g, 0, none⟩ : Addr).add k = ⟨g, k, none⟩ := by
    unfold Addr.add
    by_cases h0 : k = 0 <;> simp [h0]
  rw [e]; exact this⟩
end

theorem madeU (n : Nat) : madeCells #[.int .u64 0] n = U (List.replicate n 0) := by
  apply Array.ext
  · simp [size_madeCells, U]
  · intro i h1 h2
    simp [madeCells, U, Nat.mod_one]
theorem Lst.new (w : World) (xs : List Nat) : Lst (w.alloc (.cells (U xs) 80)) w.heap.size xs := heap_alloc_new w _

section

variable {w w' : World} {A : Option Addr} {xs : List Nat}

theorem RdA.nil (w : World) (A : Option Addr) : RdA w A [] := fun k hk => absurd hk (by simp)
theorem RdA.keep (h : RdA w A xs) (hs : w.heap.size ≤ w'.heap.size) (hk : ∀ p : Addr, p.block < w.heap.size → w'.cell? p = w.cell? p) : RdA w' A xs := fun k hx => by
  obtain ⟨a, e, hb, hc⟩ := h k hx
  exact ⟨a, e, by omega, (hk _ (by rw [block_add]; exact hb)).trans hc⟩
theorem RdA.below (h : RdA w A xs) (hb : Below w.heap.size w w') : RdA w' A xs := h.keep hb.size fun _ hp => hb.cell hp
theorem RdA.drew (h : RdA w A xs) : RdA w.drew A xs := h
theorem RdA.drewN (h : RdA w A xs) (n : Nat) : RdA (w.drewN n) A xs := h
theorem RdA.take (h : RdA w A xs) (m : Nat) : RdA w A (xs.take m) := fun k hk => by
  rw [List.length_take] at hk
  obtain ⟨a, e, hb, hc⟩ := h k (by omega)
  refine ⟨a, e, hb, ?_⟩
  rw [hc, List.getD_eq_getElem?_getD, List.getD_eq_getElem?_getD, List.getElem?_take_of_lt (by omega)]
end

set_option maxHeartbeats 400000 in
theorem trim_any (A : Option Addr) (n c : Nat) (xs : List Nat) (w : World) (hn : xs.length = n) (h : RdA w A xs) (hc : n ≤ c) (hm : c ≤ maxLen) :
    Calls Tryz.prog 136 #[.slice A n c] w fun e w' => e = .returned (.slice A (ptrim xs).length c) ∧ w = w' := by
  subst hn
  unfold maxLen at hm
  go_enter Tryz.func136, Tryz.ntmps136
  go_wp2
  go_loop [0] (fun z => ∃ k : Nat, k ≤ xs.length ∧ z = .slice A k c ∧ ptrim xs = ptrim (xs.take k)) (fun z => match z with | .slice _ k _ => k | _ => 0)
  case atStart => exact ⟨xs.length, Nat.le_refl _, rfl, by simp⟩
  case round =>
    obtain ⟨k, hk, rfl, hp⟩ := hrel
    have H := Lib.hid hp
    clear hp
    cases k with
    | zero =>
      go_wp2
      go_ret
      exact ⟨by rw [H.out]; rfl, rfl⟩
    | succ k =>
      obtain ⟨a, rfl, hb, hcell⟩ := h k (by omega)
      by_cases h0 : xs.getD k 0 = 0
      · have H2 := Lib.hid (H.out.trans (ptrim_take_zero xs k (by omega) h0))
        rw [h0] at hcell
        clear h0
        go_wp2
        go_round
        case rel => exact ⟨k, by omega, rfl, H2.out⟩
        case measure => simp
      · have h0b : (((xs.getD k 0 : Nat) : Int) == 0) = false := by
          rw [beq_eq_false_iff_ne]; omega
        have H2 := Lib.hid (H.out.trans (ptrim_take_stop xs k (by omega) h0))
        clear h0
        generalize xs.getD k 0 = y at *
        go_wp2
        go_ret
        exact ⟨by rw [H2.out, List.length_take, Nat.min_eq_left hk]; rfl, rfl⟩
end Go.Proofs.YtknaghdoffigjaaGreatDoor
namespace Go.Proofs.YtknaghdoffigjaaGreatDoor
open Go.RowKit

theorem bits_Add64 (x y c : Nat) (hc : c ≤ 1) (w : World) :
    (callFunc 137 #[.int .u64 (x : Int), .int .u64 (y : Int), .int .u64 (c : Int)]).run Tryz.prog w =
      .ok (.value (.tuple #[.int .u64 (((x + y + c) % B64 : Nat) : Int), .int .u64 (((x + y + c) / B64 : Nat) : Int)])) w := by
  rw [run_callFunc_extern Tryz.func137 (by kernel_rfl) (by kernel_rfl) (by kernel_rfl) (e := add64Entry) (by kernel_rfl), run_add64 x y c (by omega) (by omega) (by omega) (by omega), B64_eq]
  simp only [Result.andThen]
  congr 5 <;> omega
theorem bits_Sub64 (x y b : Nat) (hb : b ≤ 1) (w : World) :
    (callFunc 140 #[.int .u64 (x : Int), .int .u64 (y : Int), .int .u64 (b : Int)]).run Tryz.prog w =
      .ok (.value (.tuple #[.int .u64 (((x + B64 - y - b) % B64 : Nat) : Int), .int .u64 ((if x < y + b then 1 else 0 : Nat) : Int)])) w := by
  rw [run_callFunc_extern Tryz.func140 (by kernel_rfl) (by kernel_rfl) (by kernel_rfl) (e := sub64Entry) (by kernel_rfl), run_sub64 x y b hb]
  rfl

set_option maxHeartbeats 400000 in
theorem at_any (A : Option Addr) (n c : Nat) (xs : List Nat) (i : Nat) (w : World) (hxn : xs.length = n) (h : RdA w A xs) (hn : n ≤ maxLen) :
    Calls Tryz.prog 138 #[.slice A n c, .int .i64 (i : Int)] w fun e w' => e = .returned (.int .u64 (xs.getD i 0 : Nat)) ∧ w = w' := by
  subst hxn
  unfold maxLen at hn
  by_cases hi : i < xs.length
  · obtain ⟨a, rfl, hb, hcell⟩ := h i hi
    generalize xs.getD i 0 = y at *
    go_enter Tryz.func138, Tryz.ntmps138
    go_wp2
    go_ret
    exact ⟨rfl, rfl⟩
  · have h0 : xs.getD i 0 = 0 := by rw [List.getD_eq_getElem?_getD, List.getElem?_eq_none (by omega)]; rfl
    rw [h0]
    clear h0
    go_enter Tryz.func138, Tryz.ntmps138
    go_wp2
    go_ret
    exact ⟨rfl, rfl⟩

/-- The digits and the carry of the first n places of a sum. -/
def sumN (xs ys : List Nat) : Nat → List Nat × Nat
  | 0 => ([], 0)
  | i + 1 => ((sumN xs ys i).1 ++ [(xs.getD i 0 + ys.getD i 0 + (sumN xs ys i).2) % B64], (xs.getD i 0 + ys.getD i 0 + (sumN xs ys i).2) / B64)
theorem sumN_length (xs ys : List Nat) (i : Nat) : (sumN xs ys i).1.length = i := by
  induction i with
  | zero => rfl
  | succ i ih => simp [sumN, ih]
theorem sumN_carry (xs ys : List Nat) (hx : Limbs xs) (hy : Limbs ys) (i : Nat) : (sumN xs ys i).2 ≤ 1 := by
  induction i with
  | zero => exact Nat.zero_le _
  | succ i ih =>
    have h1 := hx.getD i
    have h2 := hy.getD i
    simp only [sumN]
    rw [B64_eq] at *
    omega
theorem Limbs.snoc {l : List Nat} {x : Nat} (h : Limbs l) (hx : x < B64) : Limbs (l ++ [x]) := by
  intro y hy
  rcases List.mem_append.1 hy with hy | hy
  · exact h y hy
  · rw [List.mem_singleton.1 hy]; exact hx
theorem sumN_limbs (xs ys : List Nat) (i : Nat) : Limbs (sumN xs ys i).1 := by
  induction i with
  | zero => exact Limbs.nil
  | succ i ih => exact ih.snoc (Nat.mod_lt _ B64_pos)
theorem pval_take_succ (xs : List Nat) (i : Nat) : pval (xs.take (i + 1)) = pval (xs.take i) + B64 ^ i * xs.getD i 0 := by
  by_cases hi : i < xs.length
  · rw [List.take_succ_eq_append_getElem hi, pval_snoc, List.length_take, Nat.min_eq_left (by omega), List.getD_eq_getElem?_getD, List.getElem?_eq_getElem hi]
    rfl
  · rw [List.take_of_length_le (by omega), List.take_of_length_le (by omega), List.getD_eq_getElem?_getD, List.getElem?_eq_none (by omega)]
    simp
theorem sumN_val (xs ys : List Nat) (i : Nat) : pval (sumN xs ys i).1 + B64 ^ i * (sumN xs ys i).2 = pval (xs.take i) + pval (ys.take i) := by
  induction i with
  | zero => simp [sumN, pval]
  | succ i ih =>
    rw [pval_take_succ, pval_take_succ, sumN, pval_snoc, sumN_length]
    simp only
    have hd := Nat.mod_add_div (xs.getD i 0 + ys.getD i 0 + (sumN xs ys i).2) B64
    have e : B64 ^ (i + 1) * ((xs.getD i 0 + ys.getD i 0 + (sumN xs ys i).2) / B64) = B64 ^ i * (B64 * ((xs.getD i 0 + ys.getD i 0 + (sumN xs ys i).2) / B64)) := by
      rw [Nat.pow_succ, Nat.mul_assoc]
    rw [e, Nat.add_assoc, ← Nat.mul_add, hd, Nat.mul_add, Nat.mul_add]
    omega

theorem set_mid (l : List Nat) (m x : Nat) : (l ++ List.replicate (m + 1) 0).set l.length x = (l ++ [x]) ++ List.replicate m 0 := by
  rw [List.set_append_right _ _ (Nat.le_refl _), Nat.sub_self, List.replicate_succ, List.set_cons_zero]; simp

/-- The call returns a slice that reads as zs; nothing that was there before has changed. -/
def RetL (w w' : World) (e : Ending) (zs : List Nat) : Prop := ∃ A c, e = .returned (.slice A zs.length c) ∧ zs.length ≤ c ∧ c ≤ maxLen ∧ RdA w' A zs ∧ Below w.heap.size w w'
/-- The same, and the slice is the head of a block that the call made. -/
def RetO (w w' : World) (e : Ending) (zs : List Nat) : Prop :=
  ∃ g rest, e = .returned (.slice (some ⟨g, 0, none⟩) zs.length (zs ++ rest).length) ∧ (zs ++ rest).length ≤ maxLen ∧ w.heap.size ≤ g ∧ Lst w' g (zs ++ rest) ∧ Below w.heap.size w w'
theorem RetO.toL {w w' : World} {e : Ending} {zs : List Nat} (h : RetO w w' e zs) : RetL w w' e zs := by
  obtain ⟨g, rest, he, hm, hg, hl, hb⟩ := h
  refine ⟨_, _, he, by simp, hm, ?_, hb⟩
  have := hl.rd.take zs.length
  rwa [List.take_left' rfl] at this

theorem RetO.trimmed {w w' : World} {g : Nat} {zs : List Nat} (hg : g = w.heap.size) (h : Lst w' g zs) (hl : Limbs zs) (hb : Below g w w') (hm : zs.length ≤ maxLen) :
    RetO w w' (.returned (.slice (some ⟨g, 0, none⟩) (ptrim zs).length zs.length)) (limbs (pval zs)) := by
  have e : ptrim zs ++ zs.drop (ptrim zs).length = zs := by
    have := List.take_append_drop (ptrim zs).length zs
    rwa [← ptrim_eq_take] at this
  rw [← ptrim_limbs hl]
  exact ⟨g, zs.drop (ptrim zs).length, by rw [e], by rw [e]; exact hm, by omega, by rw [e]; exact h, hg ▸ hb⟩

theorem info_u64 : (Tryz.prog.info? 80).map (fun i => (i.zero, i.size, i.bytes)) = some (some (.int .u64 0), 1, 8) := by kernel_rfl
/-- make(parts, n) -/
theorem make_parts (n : Nat) (hn : n ≤ 17592186044416) (w : World) :
    (Instr.makeSlice 109 (.int .i64 (n : Int)) (.int .i64 (n : Int))).run Tryz.prog w = .ok (.slice (some ⟨w.heap.size, 0, none⟩) n n) (w.alloc (.cells (U (List.replicate n 0)) 80)) := by
  obtain ⟨i0, hi, hz0, hz1, hz2⟩ := info_parts info_u64
  have hr := run_make (P := Tryz.prog) w 109 80 i0 (.int .u64 0) Tryz.underlying109 hi hz0 .i64 .i64 n n (by omega) (by omega) (by rw [hz2]; omega) (by omega)
  rw [hz1] at hr
  simp only [Int.toNat_natCast, Nat.mul_one] at hr
  rw [← madeU]
  exact hr

set_option maxHeartbeats 1000000 in
theorem sum_any (A B : Option Addr) (ca cb : Nat) (xs ys : List Nat) (w : World) (hx : RdA w A xs) (hy : RdA w B ys) (lx : Limbs xs) (ly : Limbs ys)
    (nx : xs.length ≤ 1099511627776) (ny : ys.length ≤ 1099511627776) :
    Calls Tryz.prog 99 #[.slice A xs.length ca, .slice B ys.length cb] w fun e w' => RetO w w' e (limbs (pval xs + pval ys)) := by
  obtain ⟨n, hn⟩ : ∃ n, n = max xs.length ys.length := ⟨_, rfl⟩
  have hn1 : n ≤ 1099511627776 := by omega
  have hmk := make_parts (n + 1) (by omega)
  have e1 : (((n + 1 : Nat)) : Int) = (n : Int) + 1 := by omega
  rw [e1] at hmk
  have hmax : max (xs.length : Int) (ys.length : Int) = (n : Int) := by omega
  have Hn := Lib.hid hn
  clear hn e1
  go_enter Tryz.func99, Tryz.ntmps99
  go_wp2
  obtain ⟨g, hg⟩ : ∃ g, g = w.heap.size := ⟨_, rfl⟩
  have hL0 : Lst (w.alloc (.cells (U (List.replicate (n + 1) 0)) 80)) g (List.replicate (n + 1) 0) := by rw [hg]; exact Lst.new _ _
  have hB0 : Below g w (w.alloc (.cells (U (List.replicate (n + 1) 0)) 80)) := (Below.refl _ _).alloc (by omega) _
  rw [← hg]
  have Hg := Lib.hid hg
  clear hg hmk hmax
  go_loopw [7, 18] (fun c i wr => ∃ k : Nat, k ≤ n ∧ i = .int .i64 k ∧ c = .int .u64 ((sumN xs ys k).2 : Nat) ∧ Lst wr g ((sumN xs ys k).1 ++ List.replicate (n - k + 1) 0) ∧ Below g w wr)
    (fun _ i _ => n - (intOf i).toNat)
  case atStart => exact ⟨0, Nat.zero_le _, rfl, rfl, hL0, hB0⟩
  case round =>
    obtain ⟨k, hk, rfl, rfl, hL, hB⟩ := hrel
    have hc := sumN_carry xs ys lx ly k
    have hlen := sumN_length xs ys k
    by_cases hlt : k < n
    · have hA := hx.below (w' := wr) (by rw [← Hg.out]; exact hB)
      have hA2 := hy.below (w' := wr) (by rw [← Hg.out]; exact hB)
      have hcell := hL.cell (k := k) (by simp; omega)
      have hfr := hL.frozen k
      have hL2 := hL.set k ((xs.getD k 0 + ys.getD k 0 + (sumN xs ys k).2) % B64)
      have hset := set_mid (sumN xs ys k).1 (n - k) ((xs.getD k 0 + ys.getD k 0 + (sumN xs ys k).2) % B64)
      rw [hlen] at hset
      rw [hset] at hL2
      have hadd := fun W => bits_Add64 (xs.getD k 0) (ys.getD k 0) (sumN xs ys k).2 hc W
      have hL3 : Lst (wr.setCell ⟨g, k, none⟩ (.int .u64 (((xs.getD k 0 + ys.getD k 0 + (sumN xs ys k).2) % B64 : Nat) : Int))) g ((sumN xs ys (k + 1)).1 ++ List.replicate (n - (k + 1) + 1) 0) := by
        rw [show n - (k + 1) + 1 = n - k from by omega]; exact hL2
      have hc3 : (sumN xs ys (k + 1)).2 = (xs.getD k 0 + ys.getD k 0 + (sumN xs ys k).2) / B64 := rfl
      generalize hq' : (sumN xs ys (k + 1)).2 = q' at *
      have Hq' := Lib.hid hq'
      clear hq'
      have hB' := hB.setCell (p := ⟨g, k, none⟩) (Nat.le_refl g) (.int .u64 (((xs.getD k 0 + ys.getD k 0 + (sumN xs ys k).2) % B64 : Nat) : Int))
      have hx1 := Lib.hid (at_any A xs.length ca xs k wr rfl hA (by unfold maxLen; omega))
      have hy1 := Lib.hid (at_any B ys.length cb ys k wr rfl hA2 (by unfold maxLen; omega))
      rw [← hc3] at hadd
      have Hc3 := Lib.hid hc3
      clear hset hL hL2 hc3
      generalize (sumN xs ys k).2 = q at *
      generalize xs.getD k 0 = x at *
      generalize ys.getD k 0 = y at *
      generalize (x + y + q) % B64 = z at *
      clear hlen
      go_wp2_with fail
      with_reducible refine hx1.out.mono ?_
      rintro e w' ⟨rfl, rfl⟩
      go_wp2_with fail
      with_reducible refine hy1.out.mono ?_
      rintro e w' ⟨rfl, rfl⟩
      go_wp2
      go_roundw
      case rel => exact ⟨k + 1, by omega, by go_num, by rw [Hq'.out], hL3, hB'⟩
      case measure => simp [intOf]; omega
    · obtain rfl : k = n := by omega
      have hval := sumN_val xs ys k
      have hlim := sumN_limbs xs ys k
      have hcell := hL.cell (k := k) (by simp; omega)
      have hfr := hL.frozen k
      generalize hq : (sumN xs ys k).2 = q at *
      have Hq := Lib.hid hq
      rw [Nat.sub_self] at hL
      have hL2 := hL.set k q
      have hB' := hB.setCell (p := ⟨g, k, none⟩) (Nat.le_refl g) (.int .u64 (q : Int))
      have hset := set_mid (sumN xs ys k).1 0 q
      rw [hlen] at hset
      rw [Nat.zero_add] at hset hL2
      rw [hset, List.replicate_zero, List.append_nil] at hL2
      have hlz : ((sumN xs ys k).1 ++ [q]).length = k + 1 := by simp [hlen]
      have hvz : pval ((sumN xs ys k).1 ++ [q]) = pval xs + pval ys := by
        rw [pval_snoc, hlen, hval, List.take_of_length_le (by have := Hn.out; omega), List.take_of_length_le (by have := Hn.out; omega)]
      have hlimz : Limbs ((sumN xs ys k).1 ++ [q]) := hlim.snoc (by rw [B64_eq]; omega)
      generalize (sumN xs ys k).1 ++ [q] = zs at *
      have Hlz := Lib.hid hlz
      have Hvz := Lib.hid hvz
      clear hlz hvz hset hval hlen hq hL
      go_wp2_with fail
      with_reducible refine (trim_any _ _ _ zs _ Hlz.out hL2.rd (Nat.le_refl _) (by unfold maxLen; omega)).mono ?_
      rintro e w' ⟨rfl, rfl⟩
      go_wp2
      go_ret
      have hr := RetO.trimmed Hg.out hL2 hlimz hB' (by rw [Hlz.out]; unfold maxLen; omega)
      rw [Hlz.out, Hvz.out] at hr
      exact hr
end Go.Proofs.YtknaghdoffigjaaGreatDoor
