/-
  The contracts of parts.at, wide.sum and wide.difference.
-/
import Derived.Test.YtgadnianjhaeiaaDoorMem
import Derived.Shelf.Spec.BitsCarry
import Derived.Deep.QuietTactic
import Derived.BigQuiet
import Derived.StillTailTactics
namespace Go.Proofs.YtgadnianjhaeiaaDoor
open Go.RowKit

theorem bits_Add64 (x y c : Nat) (hc : c ≤ 1) (w : World) :
    (callFunc 74 #[.int .u64 (x : Int), .int .u64 (y : Int), .int .u64 (c : Int)]).run Tryd.prog w =
      .ok (.value (.tuple #[.int .u64 (((x + y + c) % B64 : Nat) : Int), .int .u64 (((x + y + c) / B64 : Nat) : Int)])) w := by
  rw [run_callFunc_extern Tryd.func74 (by kernel_rfl) (by kernel_rfl) (by kernel_rfl) (e := add64Entry) (by kernel_rfl), run_add64 x y c (by omega) (by omega) (by omega) (by omega), B64_eq]
  simp only [Result.andThen]
  congr 5 <;> omega
theorem bits_Sub64 (x y b : Nat) (hb : b ≤ 1) (w : World) :
    (callFunc 77 #[.int .u64 (x : Int), .int .u64 (y : Int), .int .u64 (b : Int)]).run Tryd.prog w =
      .ok (.value (.tuple #[.int .u64 (((x + B64 - y - b) % B64 : Nat) : Int), .int .u64 ((if x < y + b then 1 else 0 : Nat) : Int)])) w := by
  rw [run_callFunc_extern Tryd.func77 (by kernel_rfl) (by kernel_rfl) (by kernel_rfl) (e := sub64Entry) (by kernel_rfl), run_sub64 x y b hb]
  rfl

set_option maxHeartbeats 400000 in
theorem at_any (A : Option Addr) (n c : Nat) (xs : List Nat) (i : Nat) (w : World) (hxn : xs.length = n) (h : RdA w A xs) (hn : n ≤ maxLen) :
    Calls Tryd.prog 75 #[.slice A n c, .int .i64 (i : Int)] w fun e w' => e = .returned (.int .u64 (xs.getD i 0 : Nat)) ∧ w = w' := by
  subst hxn
  unfold maxLen at hn
  by_cases hi : i < xs.length
  · obtain ⟨a, rfl, hb, hcell⟩ := h i hi
    generalize xs.getD i 0 = y at *
    go_enter Tryd.func75, Tryd.ntmps75
    go_wp2
    go_ret
    exact ⟨rfl, rfl⟩
  · have h0 : xs.getD i 0 = 0 := by rw [List.getD_eq_getElem?_getD, List.getElem?_eq_none (by omega)]; rfl
    rw [h0]
    clear h0
    go_enter Tryd.func75, Tryd.ntmps75
    go_wp2
    go_ret
    exact ⟨rfl, rfl⟩

/-- The digits and the carry of the first n places of a sum. -/
def sumN (xs ys : List Nat) : Nat → List Nat × Nat
  | 0 => ([], 0)
  | i + 1 => ((sumN xs ys i).1 ++ [(xs.getD i 0 + ys.getD i 0 + (sumN xs ys i).2) % B64], (xs.getD i 0 + ys.getD i 0 + (sumN xs ys i).2) / B64)
theorem sumN_length (xs ys : List Nat) (i : Nat) : (sumN xs ys i).1.length = i := by
  induction i with
  | zero => rfl
  | succ i ih => simp [sumN, ih]
theorem sumN_carry (xs ys : List Nat) (hx : Limbs xs) (hy : Limbs ys) (i : Nat) : (sumN xs ys i).2 ≤ 1 := by
  induction i with
  | zero => exact Nat.zero_le _
  | succ i ih =>
    have h1 := hx.getD i
    have h2 := hy.getD i
    simp only [sumN]
    rw [B64_eq] at *
    omega
theorem Limbs.snoc {l : List Nat} {x : Nat} (h : Limbs l) (hx : x < B64) : Limbs (l ++ [x]) := by
  intro y hy
  rcases List.mem_append.1 hy with hy | hy
  · exact h y hy
  · rw [List.mem_singleton.1 hy]; exact hx
theorem sumN_limbs (xs ys : List Nat) (i : Nat) : Limbs (sumN xs ys i).1 := by
  induction i with
  | zero => exact Limbs.nil
  | succ i ih => exact ih.snoc (Nat.mod_lt _ B64_pos)
theorem pval_take_succ (xs : List Nat) (i : Nat) : pval (xs.take (i + 1)) = pval (xs.take i) + B64 ^ i * xs.getD i 0 := by
  by_cases hi : i < xs.length
  · rw [List.take_succ_eq_append_getElem hi, pval_snoc, List.length_take, Nat.min_eq_left (by omega), List.getD_eq_getElem?_getD, List.getElem?_eq_getElem hi]
    rfl
  · rw [List.take_of_length_le (by omega), List.take_of_length_le (by omega), List.getD_eq_getElem?_getD, List.getElem?_eq_none (by omega)]
    simp
theorem sumN_val (xs ys : List Nat) (i : Nat) : pval (sumN xs ys i).1 + B64 ^ i * (sumN xs ys i).2 = pval (xs.take i) + pval (ys.take i) := by
  induction i with
  | zero => simp [sumN, pval]
  | succ i ih =>
    rw [pval_take_succ, pval_take_succ, sumN, pval_snoc, sumN_length]
    simp only
    have hd := Nat.mod_add_div (xs.getD i 0 + ys.getD i 0 + (sumN xs ys i).2) B64
    have e : B64 ^ (i + 1) * ((xs.getD i 0 + ys.getD i 0 + (sumN xs ys i).2) / B64) = B64 ^ i * (B64 * ((xs.getD i 0 + ys.getD i 0 + (sumN xs ys i).2) / B64)) := by
      rw [Nat.pow_succ, Nat.mul_assoc]
    rw [e, Nat.add_assoc, ← Nat.mul_add, hd, Nat.mul_add, Nat.mul_add]
    omega

theorem set_mid (l : List Nat) (m x : Nat) : (l ++ List.replicate (m + 1) 0).set l.length x = (l ++ [x]) ++ List.replicate m 0 := by
  rw [List.set_append_right _ _ (Nat.le_refl _), Nat.sub_self, List.replicate_succ, List.set_cons_zero]; simp

/-- The call returns a slice that reads as zs; nothing that was there before has changed. -/
def RetL (w w' : World) (e : Ending) (zs : List Nat) : Prop := ∃ A c, e = .returned (.slice A zs.length c) ∧ zs.length ≤ c ∧ c ≤ maxLen ∧ RdA w' A zs ∧ Below w.heap.size w w'
/-- The same, and the slice is the head of a block that the call made. -/
def RetO (w w' : World) (e : Ending) (zs : List Nat) : Prop :=
  ∃ g rest, e = .returned (.slice (some ⟨g, 0, none⟩) zs.length (zs ++ rest).length) ∧ (zs ++ rest).length ≤ maxLen ∧ w.heap.size ≤ g ∧ Lst w' g (zs ++ rest) ∧ Below w.heap.size w w'
theorem RetO.toL {w w' : World} {e : Ending} {zs : List Nat} (h : RetO w w' e zs) : RetL w w' e zs := by
  obtain ⟨g, rest, he, hm, hg, hl, hb⟩ := h
  refine ⟨_, _, he, by simp, hm, ?_, hb⟩
  have := hl.rd.take zs.length
  rwa [List.take_left' rfl] at this

theorem RetO.trimmed {w w' : World} {g : Nat} {zs : List Nat} (hg : g = w.heap.size) (h : Lst w' g zs) (hl : Limbs zs) (hb : Below g w w') (hm : zs.length ≤ maxLen) :
    RetO w w' (.returned (.slice (some ⟨g, 0, none⟩) (ptrim zs).length zs.length)) (limbs (pval zs)) := by
  have e : ptrim zs ++ zs.drop (ptrim zs).length = zs := by
    have := List.take_append_drop (ptrim zs).length zs
    rwa [← ptrim_eq_take] at this
  rw [← ptrim_limbs hl]
  exact ⟨g, zs.drop (ptrim zs).length, by rw [e], by rw [e]; exact hm, by omega, by rw [e]; exact h, hg ▸ hb⟩

theorem info_u64 : (Tryd.prog.info? 71).map (fun i => (i.zero, i.size, i.bytes)) = some (some (.int .u64 0), 1, 8) := by kernel_rfl
/-- make(parts, n) -/
theorem make_parts (n : Nat) (hn : n ≤ 17592186044416) (w : World) :
    (Instr.makeSlice 58 (.int .i64 (n : Int)) (.int .i64 (n : Int))).run Tryd.prog w = .ok (.slice (some ⟨w.heap.size, 0, none⟩) n n) (w.alloc (.cells (U (List.replicate n 0)) 71)) := by
  obtain ⟨i0, hi, hz0, hz1, hz2⟩ := info_parts info_u64
  have hr := run_make (P := Tryd.prog) w 58 71 i0 (.int .u64 0) Tryd.underlying58 hi hz0 .i64 .i64 n n (by omega) (by omega) (by rw [hz2]; omega) (by omega)
  rw [hz1] at hr
  simp only [Int.toNat_natCast, Nat.mul_one] at hr
  rw [← madeU]
  exact hr

set_option maxHeartbeats 1000000 in
theorem sum_any (A B : Option Addr) (ca cb : Nat) (xs ys : List Nat) (w : World) (hx : RdA w A xs) (hy : RdA w B ys) (lx : Limbs xs) (ly : Limbs ys)
    (nx : xs.length ≤ 1099511627776) (ny : ys.length ≤ 1099511627776) :
    Calls Tryd.prog 44 #[.slice A xs.length ca, .slice B ys.length cb] w fun e w' => RetO w w' e (limbs (pval xs + pval ys)) := by
  obtain ⟨n, hn⟩ : ∃ n, n = max xs.length ys.length := ⟨_, rfl⟩
  have hn1 : n ≤ 1099511627776 := by omega
  have hmk := make_parts (n + 1) (by omega)
  have e1 : (((n + 1 : Nat)) : Int) = (n : Int) + 1 := by omega
  rw [e1] at hmk
  have hmax : max (xs.length : Int) (ys.length : Int) = (n : Int) := by omega
  have Hn := Lib.hid hn
  clear hn e1
  go_enter Tryd.func44, Tryd.ntmps44
  go_wp2
  obtain ⟨g, hg⟩ : ∃ g, g = w.heap.size := ⟨_, rfl⟩
  have hL0 : Lst (w.alloc (.cells (U (List.replicate (n + 1) 0)) 71)) g (List.replicate (n + 1) 0) := by rw [hg]; exact Lst.new _ _
  have hB0 : Below g w (w.alloc (.cells (U (List.replicate (n + 1) 0)) 71)) := (Below.refl _ _).alloc (by omega) _
  rw [← hg]
  have Hg := Lib.hid hg
  clear hg hmk hmax
  go_loopw [7, 18] (fun c i wr => ∃ k : Nat, k ≤ n ∧ i = .int .i64 k ∧ c = .int .u64 ((sumN xs ys k).2 : Nat) ∧ Lst wr g ((sumN xs ys k).1 ++ List.replicate (n - k + 1) 0) ∧ Below g w wr)
    (fun _ i _ => n - (intOf i).toNat)
  case atStart => exact ⟨0, Nat.zero_le _, rfl, rfl, hL0, hB0⟩
  case round =>
    obtain ⟨k, hk, rfl, rfl, hL, hB⟩ := hrel
    have hc := sumN_carry xs ys lx ly k
    have hlen := sumN_length xs ys k
    by_cases hlt : k < n
    · have hA := hx.below (w' := wr) (by rw [← Hg.out]; exact hB)
      have hA2 := hy.below (w' := wr) (by rw [← Hg.out]; exact hB)
      have hcell := hL.cell (k := k) (by simp; omega)
      have hfr := hL.frozen k
      have hL2 := hL.set k ((xs.getD k 0 + ys.getD k 0 + (sumN xs ys k).2) % B64)
      have hset := set_mid (sumN xs ys k).1 (n - k) ((xs.getD k 0 + ys.getD k 0 + (sumN xs ys k).2) % B64)
      rw [hlen] at hset
      rw [hset] at hL2
      have hadd := fun W => bits_Add64 (xs.getD k 0) (ys.getD k 0) (sumN xs ys k).2 hc W
      have hL3 : Lst (wr.setCell ⟨g, k, none⟩ (.int .u64 (((xs.getD k 0 + ys.getD k 0 + (sumN xs ys k).2) % B64 : Nat) : Int))) g ((sumN xs ys (k + 1)).1 ++ List.replicate (n - (k + 1) + 1) 0) := by
        rw [show n - (k + 1) + 1 = n - k from by omega]; exact hL2
      have hc3 : (sumN xs ys (k + 1)).2 = (xs.getD k 0 + ys.getD k 0 + (sumN xs ys k).2) / B64 := rfl
      generalize hq' : (sumN xs ys (k + 1)).2 = q' at *
      have Hq' := Lib.hid hq'
      clear hq'
      have hB' := hB.setCell (p := ⟨g, k, none⟩) (Nat.le_refl g) (.int .u64 (((xs.getD k 0 + ys.getD k 0 + (sumN xs ys k).2) % B64 : Nat) : Int))
      have hx1 := Lib.hid (at_any A xs.length ca xs k wr rfl hA (by unfold maxLen; omega))
      have hy1 := Lib.hid (at_any B ys.length cb ys k wr rfl hA2 (by unfold maxLen; omega))
      rw [← hc3] at hadd
      have Hc3 := Lib.hid hc3
      clear hset hL hL2 hc3
      generalize (sumN xs ys k).2 = q at *
      generalize xs.getD k 0 = x at *
      generalize ys.getD k 0 = y at *
      generalize (x + y + q) % B64 = z at *
      clear hlen
      go_wp2_with fail
      with_reducible refine hx1.out.mono ?_
      rintro e w' ⟨rfl, rfl⟩
      go_wp2_with fail
      with_reducible refine hy1.out.mono ?_
      rintro e w' ⟨rfl, rfl⟩
      go_wp2
      go_roundw
      case rel => exact ⟨k + 1, by omega, by go_num, by rw [Hq'.out], hL3, hB'⟩
      case measure => simp [intOf]; omega
    · obtain rfl : k = n := by omega
      have hval := sumN_val xs ys k
      have hlim := sumN_limbs xs ys k
      have hcell := hL.cell (k := k) (by simp; omega)
      have hfr := hL.frozen k
      generalize hq : (sumN xs ys k).2 = q at *
      have Hq := Lib.hid hq
      rw [Nat.sub_self] at hL
      have hL2 := hL.set k q
      have hB' := hB.setCell (p := ⟨g, k, none⟩) (Nat.le_refl g) (.int .u64 (q : Int))
      have hset := set_mid (sumN xs ys k).1 0 q
      rw [hlen] at hset
      rw [Nat.zero_add] at hset hL2
      rw [hset, List.replicate_zero, List.append_nil] at hL2
      have hlz : ((sumN xs ys k).1 ++ [q]).length = k + 1 := by simp [hlen]
      have hvz : pval ((sumN xs ys k).1 ++ [q]) = pval xs + pval ys := by
        rw [pval_snoc, hlen, hval, List.take_of_length_le (by have := Hn.out; omega), List.take_of_length_le (by have := Hn.out; omega)]
      have hlimz : Limbs ((sumN xs ys k).1 ++ [q]) := hlim.snoc (by rw [B64_eq]; omega)
      generalize (sumN xs ys k).1 ++ [q] = zs at *
      have Hlz := Lib.hid hlz
      have Hvz := Lib.hid hvz
      clear hlz hvz hset hval hlen hq hL
      go_wp2_with fail
      with_reducible refine (trim_any _ _ _ zs _ Hlz.out hL2.rd (Nat.le_refl _) (by unfold maxLen; omega)).mono ?_
      rintro e w' ⟨rfl, rfl⟩
      go_wp2
      go_ret
      have hr := RetO.trimmed Hg.out hL2 hlimz hB' (by rw [Hlz.out]; unfold maxLen; omega)
      rw [Hlz.out, Hvz.out] at hr
      exact hr
end Go.Proofs.YtgadnianjhaeiaaDoor
