import Derived.Test.YtknaghdoffigjaaGreatDoorMDet
import Derived.Laws.CopyOwn
set_option linter.unusedSimpArgs false
set_option linter.unusedVariables false
set_option linter.unnecessarySimpa false
namespace Go.Proofs.YtknaghdoffigjaaGreatDoor
open Go.RowKit Go
theorem run_copy_rows (P : Program) (w : World) (dT sT ty elem : TypeId) (s n g o dLen dCap : Nat) (a : Addr) (sLen sCap : Nat) (cur : Array Value) (t : TypeId) (cs : List Value)
  (hu : P.underlying dT = some (.slice elem)) (hs : (P.info? elem).map (·.size) = some s) (hnm : n = Nat.min sLen dLen)
  (hg : w.heap[g]? = some (.cells cur t (0, 0))) (hn : cs.length = n * s)
  (hsrc : ∀ j v, cs[j]? = some v → w.cell? (a.add j) = some v) (hfit : o + cs.length ≤ cur.size) (h1 : ∀ v ∈ cs, v.oneCell' = true) :
  (Builtin.copy_ #[dT, sT] ty #[.slice (some ⟨g, o, none⟩) dLen dCap, .slice (some a) sLen sCap]).run P w =
   .ok (goInt n) (w.setRow g (cur.toList.take o ++ cs ++ cur.toList.drop (o + cs.length)).toArray) := by
 have hl := run_loadCells_list (P := P) w a cs hsrc
 have hst := run_storeCells_at P g o t cs 0 cur w hg (by simpa using hfit) h1
 cases hq : P.info? elem with
 | none => simp [hq] at hs
 | some i =>
  have hi : i.size = s := by simpa [hq] using hs
  subst hnm
  simp [Builtin.copy_, run_underlying hu, Builtin.lenOf, Builtin.firstCells, sizeOf, typeInfo, hq, hi, ← hn, hl, hst]
theorem run_copy_no (P : Program) (w : World) (dT sT ty elem : TypeId) (d a : Option Addr) (dLen dCap sLen sCap : Nat) (hu : P.underlying dT = some (.slice elem)) (hs : ((P.info? elem).map (·.size)).isSome = true) (hn : Nat.min sLen dLen = 0) :
  (Builtin.copy_ #[dT, sT] ty #[.slice d dLen dCap, .slice a sLen sCap]).run P w = .ok (goInt 0) w := by
 cases hq : P.info? elem with
 | none => simp [hq] at hs
 | some i =>
  cases d <;> cases a <;> simp [Builtin.copy_, run_underlying hu, Builtin.lenOf, Builtin.firstCells, sizeOf, typeInfo, hq, hn, storeCells, loadCells, loadCellsFrom]
def cpL {α : Type} (o n : Nat) (ys xs : List α) : List α := xs.take o ++ ys.take n ++ xs.drop (o + n)
theorem grown_setRow (w : World) (g : Nat) (cs : Array Value) : w.grownBy (w.setRow g cs) (some g) :=
 ⟨rfl, rfl, rfl, by simp [World.setRow], fun i _ hne => setRow_other w g i cs (fun e => hne (by rw [e]))⟩
theorem cpL_length {α : Type} (o n : Nat) (ys xs : List α) (hn : n ≤ ys.length) (h : o + n ≤ xs.length) : (cpL o n ys xs).length = xs.length := by
 unfold cpL
 simp
 omega
theorem U_cpL (o n : Nat) (ys xs : List Nat) : (U (cpL o n ys xs)).toList = (U xs).toList.take o ++ (U ys).toList.take n ++ (U xs).toList.drop (o + n) := by
 unfold U cpL
 simp [List.map_take, List.map_drop]
theorem copyQ (w : World) (g o dLen dCap : Nat) (xs : List Nat) (hL : Lst w g xs) (A : Option Addr) (sLen sCap n : Nat) (ys : List Nat) (hR : RdA w A ys) (hs : ys.length = sLen) (hn : n = Nat.min sLen dLen) (hfit : o + n ≤ xs.length) :
  (Builtin.copy_ #[84, 84] 3 #[.slice (some ⟨g, o, none⟩) dLen dCap, .slice A sLen sCap]).run Tryz.prog w = .ok (goInt n) (w.setRow g (U (cpL o n ys xs))) := by
 have hns : n ≤ sLen := by rw [hn]; exact Nat.min_le_left _ _
 cases h0 : n with
 | zero =>
  subst h0
  rw [run_copy_no Tryz.prog w _ _ _ 80 _ _ _ _ _ _ (by kernel_rfl) (by kernel_rfl) hn.symm]
  have e : U (cpL o 0 ys xs) = U xs := by unfold cpL; simp
  rw [e, setRow_self w g (U xs) _ _ hL]
  rfl
 | succ m =>
  rw [← h0]
  obtain ⟨a, rfl, _, _⟩ := hR 0 (by omega)
  have hl : ((U ys).toList.take n).length = n * 1 := by unfold U; simp; omega
  have h := run_copy_rows Tryz.prog w 84 84 3 80 1 n g o dLen dCap a sLen sCap (U xs) 80 ((U ys).toList.take n) (by kernel_rfl) (by kernel_rfl) hn hL hl
   (fun j v hj => by
    have hjn : j < n := by
     have := (List.getElem?_eq_some_iff.1 hj).1
     simp at this
     omega
    rw [List.getElem?_take_of_lt hjn] at hj
    obtain ⟨a', e, _, hc⟩ := hR j (by omega)
    cases e
    rw [hc]
    rw [Array.getElem?_toList, U_get ys j (by omega)] at hj
    exact hj)
   (by rw [hl]; unfold U; simp; omega)
   (fun v hv => by
    have := List.mem_of_mem_take hv
    unfold U at this
    simp at this
    obtain ⟨x, _, rfl⟩ := this
    rfl)
  rw [h, hl, Nat.mul_one, ← U_cpL, Array.toArray_toList]
theorem flat_append (a b : List (Bool × ByteArray)) : flat (a ++ b) = flat a ++ flat b := by simp [flat]
theorem flat_take (l : List (Bool × ByteArray)) (n : Nat) : flat (l.take n) = (flat l).take (n * 2) := by
 induction n generalizing l with
 | zero => simp [flat]
 | succ n ih =>
  cases l with
  | nil => simp [flat]
  | cons p l => rw [List.take_succ_cons, flat_cons, flat_cons, ih, show (n + 1) * 2 = n * 2 + 1 + 1 by omega, List.take_succ_cons, List.take_succ_cons]
theorem flat_drop (l : List (Bool × ByteArray)) (n : Nat) : flat (l.drop n) = (flat l).drop (n * 2) := by
 induction n generalizing l with
 | zero => simp
 | succ n ih =>
  cases l with
  | nil => simp [flat]
  | cons p l => rw [List.drop_succ_cons, flat_cons, ih, show (n + 1) * 2 = n * 2 + 1 + 1 by omega, List.drop_succ_cons, List.drop_succ_cons]
theorem flat_cpL (o n : Nat) (ys xs : List (Bool × ByteArray)) : flat (cpL o n ys xs) = (flat xs).take (o * 2) ++ (flat ys).take (n * 2) ++ (flat xs).drop (o * 2 + n * 2) := by
 unfold cpL
 rw [flat_append, flat_append, flat_take, flat_take, flat_drop, show (o + n) * 2 = o * 2 + n * 2 by omega]
theorem flat_one (l : List (Bool × ByteArray)) : ∀ v ∈ flat l, v.oneCell' = true := by
 induction l with
 | nil => intro v hv; cases hv
 | cons p l ih =>
  intro v hv
  rw [flat_cons] at hv
  rcases List.mem_cons.1 hv with rfl | hv
  ·rfl
  ·rcases List.mem_cons.1 hv with rfl | hv
   ·rfl
   ·exact ih v hv
theorem RdW.flat {w : World} {A : Option Addr} {zs : List (Bool × ByteArray)} (h : RdW w A zs) (a : Addr) (e : A = some a) (j : Nat) (v : Value) (hj : (flat zs)[j]? = some v) : w.cell? (a.add j) = some v := by
 have hl : j < zs.length * 2 := by rw [← flat_length]; exact (List.getElem?_eq_some_iff.1 hj).1
 have hk : j / 2 < zs.length := by omega
 obtain ⟨a', e', _, h1, h2⟩ := h (j / 2) hk
 rw [e] at e'
 cases e'
 obtain ⟨g1, g2⟩ := flat_get zs (j / 2) hk
 rcases Nat.mod_two_eq_zero_or_one j with hm | hm
 ·rw [show j / 2 * 2 = j by omega] at h1 g1
  rw [h1, ← hj, g1]
 ·rw [show j / 2 * 2 + 1 = j by omega] at g2
  rw [g2] at hj
  rw [← hj, ← h2]
  congr 1
  have : j ≠ 0 := by omega
  unfold Addr.add
  rw [if_neg this]
  by_cases h0 : j / 2 * 2 = 0
  ·rw [if_pos h0, show j = 1 by omega]
  ·rw [if_neg h0, show a.off + j / 2 * 2 + 1 = a.off + j by omega]
theorem copyW (w : World) (g o dLen dCap : Nat) (xs : List (Bool × ByteArray)) (hL : Lw w g xs) (A : Option Addr) (sLen sCap n : Nat) (ys : List (Bool × ByteArray)) (hR : RdW w A ys) (hs : n ≤ ys.length) (hn : n = Nat.min sLen dLen) (hfit : o + n ≤ xs.length) :
  (Builtin.copy_ #[26, 26] 3 #[.slice (some ⟨g, o * 2, none⟩) dLen dCap, .slice A sLen sCap]).run Tryz.prog w = .ok (goInt n) (w.setRow g (flat (cpL o n ys xs)).toArray) := by
 have hns : n ≤ sLen := by rw [hn]; exact Nat.min_le_left _ _
 cases h0 : n with
 | zero =>
  subst h0
  rw [run_copy_no Tryz.prog w _ _ _ 32 _ _ _ _ _ _ (by kernel_rfl) (by kernel_rfl) hn.symm]
  have e : cpL o 0 ys xs = xs := by unfold cpL; simp
  rw [e, setRow_self w g _ _ _ hL]
  rfl
 | succ m =>
  rw [← h0]
  obtain ⟨a, hA, _, _⟩ := hR 0 (by omega)
  have hl : ((flat ys).take (n * 2)).length = n * 2 := by rw [List.length_take, flat_length]; omega
  rw [hA]
  have h := run_copy_rows Tryz.prog w 26 26 3 32 2 n g (o * 2) dLen dCap a sLen sCap (flat xs).toArray 32 ((flat ys).take (n * 2)) (by kernel_rfl) (by kernel_rfl) hn hL hl
   (fun j v hj => by
    have hjn : j < n * 2 := by
     have := (List.getElem?_eq_some_iff.1 hj).1
     simp at this
     omega
    rw [List.getElem?_take_of_lt hjn] at hj
    exact hR.flat a hA j v hj)
   (by rw [hl]; simp [flat_length]; omega)
   (fun v hv => flat_one ys v (List.mem_of_mem_take hv))
  rw [h, hl, flat_cpL]
end Go.Proofs.YtknaghdoffigjaaGreatDoor
namespace Go.Proofs.YtknaghdoffigjaaGreatDoor
open Go.RowKit Go
attribute [local go_sem] Oper.semAt_some
def RdRows (w : World) (A : Option Addr) (rows : List (List Int)) : Prop :=
 ∀ k (h : k < rows.length), ∃ a Ak ck, A = some a ∧ a.block < w.heap.size ∧ w.cell? (a.add k) = some (.slice Ak rows[k].length ck) ∧ RdI w Ak rows[k]
theorem RdRows.below {w w' : World} {A : Option Addr} {rows : List (List Int)} (h : RdRows w A rows) (hb : Below w.heap.size w w') : RdRows w' A rows := fun k hk => by
 obtain ⟨a, Ak, ck, e, hl, hc, hr⟩ := h k hk
 exact ⟨a, Ak, ck, e, by have := hb.size; omega, (hb.cell (by rw [block_add]; exact hl)).trans hc, hr.below hb⟩
def maxL (rows : List (List Int)) : Nat → Nat
 | 0 => 0
 | k + 1 => max (maxL rows k) (rows.getD k []).length
theorem maxL_ge (rows : List (List Int)) (k j : Nat) (h : j < k) : (rows.getD j []).length ≤ maxL rows k := by
 induction k with
 | zero => omega
 | succ k ih =>
  rw [maxL]
  rcases Nat.lt_or_ge j k with h1 | h1
  ·exact Nat.le_trans (ih h1) (Nat.le_max_left _ _)
  ·rw [show j = k by omega]; exact Nat.le_max_right _ _
def ofS (rows : List (List Int)) (n c k : Nat) : List (Bool × ByteArray) := (List.range (n * c)).map fun j => if j / c < k then (wneg ((rows.getD (j / c) []).getD (j % c) 0), wmag ((rows.getD (j / c) []).getD (j % c) 0)) else (false, ⟨#[]⟩)
def ofL (rows : List (List Int)) (n c : Nat) : List Int := (List.range (n * c)).map fun j => (rows.getD (j / c) []).getD (j % c) 0
theorem ofS_zero (rows : List (List Int)) (n c : Nat) : ofS rows n c 0 = List.replicate (n * c) (false, ⟨#[]⟩) := by
 unfold ofS
 apply List.ext_getElem
 ·simp
 ·intro i h1 h2; simp
theorem ofS_length (rows : List (List Int)) (n c k : Nat) : (ofS rows n c k).length = n * c := by simp [ofS]
theorem ofS_full (rows : List (List Int)) (n c : Nat) : ofS rows n c n = enc (ofL rows n c) := by
 unfold ofS ofL enc
 rw [List.map_map]
 apply List.map_congr_left
 intro j hj
 have hj : j < n * c := by simpa using hj
 have hc : 0 < c := by
  rcases Nat.eq_zero_or_pos c with h | h
  ·rw [h] at hj; simp at hj
  ·exact h
 rw [if_pos ((Nat.div_lt_iff_lt_mul hc).2 hj)]
 rfl
theorem cpL_get {α : Type} (o n : Nat) (ys xs : List α) (hn : n ≤ ys.length) (h : o + n ≤ xs.length) (i : Nat) : (cpL o n ys xs)[i]? = if i < o then xs[i]? else if i < o + n then ys[i - o]? else xs[i]? := by
 unfold cpL
 rw [List.append_assoc, List.getElem?_append, List.length_take]
 by_cases h1 : i < o
 ·rw [if_pos (by omega), if_pos h1, List.getElem?_take_of_lt h1]
 ·rw [if_neg (by omega), if_neg h1, List.getElem?_append, List.length_take]
  by_cases h2 : i < o + n
  ·rw [if_pos (by omega), if_pos h2, List.getElem?_take_of_lt (by omega)]
   congr 1
   omega
  ·rw [if_neg (by omega), if_neg h2, List.getElem?_drop]
   congr 1
   omega
theorem ofS_get (rows : List (List Int)) (n c k i : Nat) (h : i < n * c) : (ofS rows n c k)[i]? = some (if i / c < k then (wneg ((rows.getD (i / c) []).getD (i % c) 0), wmag ((rows.getD (i / c) []).getD (i % c) 0)) else (false, ⟨#[]⟩)) := by
 unfold ofS
 rw [List.getElem?_map, List.getElem?_range h]
 rfl
theorem ofS_next (rows : List (List Int)) (n c k : Nat) (hk : k < n) (hl : (rows.getD k []).length ≤ c) :
  cpL (k * c) (rows.getD k []).length ((List.range (rows.getD k []).length).map fun j => (wneg ((rows.getD k []).getD j 0), wmag ((rows.getD k []).getD j 0))) (ofS rows n c k) = ofS rows n c (k + 1) := by
 have hkc : k * c + c ≤ n * c := by
  have := Nat.mul_le_mul_right c (show k + 1 ≤ n by omega)
  rw [Nat.add_mul] at this
  omega
 obtain ⟨m, hm⟩ : ∃ m, m = (rows.getD k []).length := ⟨_, rfl⟩
 rw [← hm] at hl ⊢
 apply List.ext_getElem?
 intro i
 rw [cpL_get _ _ _ _ (by simp) (by rw [ofS_length]; omega)]
 rcases Nat.lt_or_ge i (n * c) with h2 | h2
 ·have hc : 0 < c := by
   rcases Nat.eq_zero_or_pos c with h | h
   ·rw [h] at h2; simp at h2
   ·exact h
  have hdm := Nat.div_add_mod i c
  have hml := Nat.mod_lt i hc
  rw [Nat.mul_comm] at hdm
  rw [ofS_get _ _ _ _ _ h2, ofS_get _ _ _ _ _ h2]
  by_cases ha : i < k * c
  ·have hd : i / c < k := (Nat.div_lt_iff_lt_mul hc).2 ha
   rw [if_pos ha, if_pos hd, if_pos (by omega)]
  ·have hge : k ≤ i / c := (Nat.le_div_iff_mul_le hc).2 (by omega)
   rw [if_neg ha]
   by_cases hb : i < k * c + m
   ·have hd : i / c = k := by
     have : i / c < k + 1 := (Nat.div_lt_iff_lt_mul hc).2 (by rw [Nat.add_mul]; omega)
     omega
    have e : i - k * c = i % c := by rw [hd] at hdm; omega
    rw [if_pos hb, if_pos (by omega), hd, e, List.getElem?_map, List.getElem?_range (by omega)]
    rfl
   ·rw [if_neg hb, if_neg (by omega)]
    by_cases hd : i / c < k + 1
    ·have hdk : i / c = k := by omega
     have hmi : m ≤ i % c := by rw [hdk] at hdm; omega
     rw [if_pos hd, hdk, List.getD_eq_getElem?_getD (l := rows.getD k []), List.getElem?_eq_none (by rw [← hm]; exact hmi)]
     rfl
    ·rw [if_neg hd]
 ·rw [List.getElem?_eq_none (l := ofS rows n c (k + 1)) (by rw [ofS_length]; exact h2), List.getElem?_eq_none (l := ofS rows n c k) (by rw [ofS_length]; exact h2)]
  rw [if_neg (by omega), if_neg (by omega)]
set_option maxRecDepth 100000 in
set_option maxHeartbeats 4000000 in
theorem Of_fits (A : Option Addr) (n cap c NN : Nat) (rows : List (List Int)) (w : World) (hR : RdRows w A rows) (hn : rows.length = n) (hn2 : n ≤ 200) (hc : maxL rows n = c) (hc2 : c ≤ 200) (hNN : n * c = NN) (hb : ∀ k j, -9223372036854775808 ≤ (rows.getD k []).getD j 0 ∧ (rows.getD k []).getD j 0 ≤ 9223372036854775807) :
  Calls Tryz.prog 15 #[.slice A n cap] w fun e w' => ∃ g, e = .returned (mat n c (some ⟨g, 0, none⟩) NN NN) ∧ w.heap.size ≤ g ∧ Lw w' g (enc (ofL rows n c)) ∧ Below w.heap.size w w' := by
 have hNN2 : NN ≤ 40000 := by rw [← hNN]; exact Nat.le_trans (Nat.mul_le_mul hn2 hc2) (by omega)
 have hsz1 := fun W => isSize_any (n : Int) W
 have hsz2 := fun W => isSize_any (c : Int) W
 rw [show msize (n : Int) = true from by simp [msize]; omega] at hsz1
 rw [show msize (c : Int) = true from by simp [msize]; omega] at hsz2
 have hnt := fun W => newTable_any n c NN W (by omega) (by omega) hNN hNN2
 have hmo := fun g W => matrixOf_any (n : Int) (c : Int) (some ⟨g, 0, none⟩) NN NN W
 have hcv := fun (k : Nat) (A : Option Addr) cp W (hW : RdI W A (rows.getD k [])) (hk : (rows.getD k []).length ≤ 200) => convert_from A (rows.getD k []).length cp (rows.getD k []) W hW rfl (by omega) (fun j _ => hb k j)
 have hlen : ∀ k, k < n → (rows.getD k []).length ≤ c := fun k hk => by rw [← hc]; exact maxL_ge rows n k hk
 unfold mat at *
 have HS1 := Lib.hid hsz1
 have HS2 := Lib.hid hsz2
 have HNT := Lib.hid hnt
 have HMO := Lib.hid hmo
 have HCV := Lib.hid hcv
 have HR := Lib.hid hR
 have HN := Lib.hid hn
 have HC := Lib.hid hc
 have HNN := Lib.hid hNN
 have HLEN := Lib.hid hlen
 clear hsz1 hsz2 hnt hmo hcv hR hn hc hNN hlen hb
 have hK1 := (Kg.none_ none w 2).new 0 (.cells #[.slice A n cap] 22 (0, 0)) rfl
 have HK2 := Lib.hid ((hK1.new 1 (mrow 0 0 none 0 0) rfl).cast (l' := [some (w.heap.size, .cells #[.slice A n cap] 22 (0, 0)), some (w.heap.size + 1, mrow 0 0 none 0 0)]) (by simp))
 have hRs : ∀ W l, Kg none w W l → RdRows W A rows := fun W l h => HR.out.below ⟨h.1.os, h.1.tape, h.1.output, h.1.size, fun i hi => h.1.block i hi (by simp)⟩
 have HRS := Lib.hid hRs
 have c0 := HK2.out.cell 0 0 rfl rfl
 clear hK1 hRs
 refine (callsIn_wide (n := 0)).1 ?_
 refine callsIn_of_wp_marks Tryz.func15 rfl trivial ?_ rfl
 simp only [Tryz.ntmps15, List.size_toArray, List.length_cons, List.length_nil, Nat.reduceAdd, Nat.reduceSub, Array.replicate_succ, Array.replicate_zero, List.push_toArray, List.append_toArray, List.nil_append, List.cons_append]
 gi_wp2_with fail
 change Code.wpIn _ _ _ _ _ _ ((w.alloc (.cells #[.slice A n cap] 22 (0, 0))).alloc (mrow 0 0 none 0 0))
 generalize (w.alloc (.cells #[.slice A n cap] 22 (0, 0))).alloc (mrow 0 0 none 0 0) = W2 at *
 gi_loopw [3, 5, 11] (fun m _ i wr => wr = W2 ∧ ∃ k : Nat, i = .int .i64 k ∧ k ≤ n ∧ m = .int .i64 (maxL rows k : Nat)) (fun _ _ i _ => n - (intOf i).toNat)
 case atStart => exact ⟨rfl, 0, rfl, Nat.zero_le _, rfl⟩
 case round =>
  obtain ⟨rfl, k, rfl, hk, rfl⟩ := hrel
  by_cases hlt : k < n
  ·obtain ⟨a, Ak, ck, rfl, _, c1, _⟩ := HRS.out _ _ HK2.out k (by rw [HN.out]; exact hlt)
   have e1 : rows[k]'(by rw [HN.out]; exact hlt) = rows.getD k [] := by simp [hlt, HN.out]
   rw [e1] at c1
   have hmx : maxL rows (k + 1) = max (maxL rows k) (rows.getD k []).length := rfl
   have HMX := Lib.hid hmx
   clear hmx e1
   generalize (rows.getD k []).length = ln at *
   generalize maxL rows k = mk at *
   gi_wp2_with fail
   exact ⟨⟨trivial, k + 1, by simp, by omega, congrArg (Value.int .i64) (by rw [HMX.out]; omega)⟩, by simp [intOf]; omega⟩
  ·obtain rfl : k = n := by omega
   rw [HC.out]
   gi_wp2_with fail
   refine ⟨trivial, rfl, ?_⟩
   with_reducible refine (callsIn_wide.2 (HS1.out _)).mono ?_
   rintro e w1 ⟨rfl, rfl⟩
   gi_wp2_with fail
   refine ⟨trivial, rfl, ?_⟩
   with_reducible refine (callsIn_wide.2 (HS2.out _)).mono ?_
   rintro e w1 ⟨rfl, rfl⟩
   gi_wp2_with fail
   refine ⟨trivial, rfl, ?_⟩
   with_reducible refine (callsIn_wide.2 (HNT.out _)).mono ?_
   rintro e w3 ⟨g, rfl, hg, hLg, hb3⟩
   have hK3 := ((HK2.out.room.came 2 rfl hb3 hg (o := lwO (ofS rows k c 0)) (by rw [ofS_zero, HNN.out]; exact hLg)).more (.cells #[.int .i64 (k : Int), .int .i64 (c : Int), .slice (some ⟨g, 0, none⟩) NN NN] 68 (0, 0)))
   have HK3 := Lib.hid hK3
   have hw3 := HK2.out.1.size
   clear hK3 hLg hb3 c0
   gi_wp2_with fail
   change Code.wpIn _ _ _ _ _ _ (w3.alloc (.cells #[.int .i64 (k : Int), .int .i64 (c : Int), .slice (some ⟨g, 0, none⟩) NN NN] 68 (0, 0)))
   generalize w3.alloc (.cells #[.int .i64 (k : Int), .int .i64 (c : Int), .slice (some ⟨g, 0, none⟩) NN NN] 68 (0, 0)) = W4 at *
   generalize w3.heap.size = b6 at *
   have hK4 : Kg none w W4 [some (w.heap.size, .cells #[.slice A k cap] 22 (0, 0)), some (w.heap.size + 1, mrow 0 0 none 0 0), some (g, lwO (ofS rows k c 0)), some (b6, .cells #[.int .i64 (k : Int), .int .i64 (c : Int), .slice (some ⟨g, 0, none⟩) NN NN] 68 (0, 0))] := HK3.out
   have HK4 := Lib.hid hK4
   clear HK3 hK4
   refine range_boxed (a := ?A) (ps := #[36, 37]) (gf := 59) (first := #[.agg #[.int .i64 (k : Int), .int .i64 (c : Int), .slice (some ⟨g, 0, none⟩) NN NN]]) ?hg1 (enters_of Tryz.func59 (by kernel_rfl) rfl)
    (each_visits k c (some ⟨g, 0, none⟩) NN NN (by omega) (by omega) (Nat.le_of_eq HNN.out) (by unfold maxLen; omega)) ?hps1
    (fun i V => Kg none w V [some (w.heap.size, .cells #[.slice A k cap] 22 (0, 0)), some (w.heap.size + 1, mrow 0 0 none 0 0), some (g, lwO (ofS rows k c i)), some (b6, .cells #[.int .i64 (k : Int), .int .i64 (c : Int), .slice (some ⟨g, 0, none⟩) NN NN] 68 (0, 0))])
    (fun _ _ => False) ?own ?ownx HK4.out
    (fun i a' V => a' = { tmps := ((((?A).tmps.setIfInBounds 36 (.int .i64 (i : Int))).setIfInBounds 37 (.slice (if c = 0 then some ⟨g, 0, none⟩ else some ⟨g, i * c * 2, none⟩) c c)).setIfInBounds 7 (.int .i64 (i : Int))).setIfInBounds 8 (.slice (if c = 0 then some ⟨g, 0, none⟩ else some ⟨g, i * c * 2, none⟩) c c), defers := [] })
    (fun _ _ _ _ h _ => h) ?assign ?body ?done (fun _ _ _ _ h => h.elim)
   case hg1 => rfl
   case hps1 => exact fun k => rfl
   case own => exact fun i V V' h hl => h.later' hl HK4.out.1.size rfl
   case ownx => exact fun _ _ _ h _ => h.elim
   case assign =>
    intro l i V K' hi hz hI hK'
    unfold rowArgs
    simp only [Option.map_some, add_from0]
    generalize (if c = 0 then some (⟨g, 0, none⟩ : Addr) else some ⟨g, i * c * 2, none⟩) = A' at *
    clear hI
    gi_wp2
    exact hK' _ _ rfl (Below.refl _ _)
   case body =>
    rintro l i a' V hi hz hl0 hl1 hKV rfl
    simp only [List.setIfInBounds_toArray, List.set_cons_succ, List.set_cons_zero]
    obtain ⟨a, Ai, ci, rfl, hal, c1, hRi⟩ := HRS.out _ _ hKV i (by rw [HN.out]; exact hi)
    have e1 : rows[i]'(by rw [HN.out]; exact hi) = rows.getD i [] := by simp [hi, HN.out]
    rw [e1] at c1 hRi
    have hle := HLEN.out i hi
    have hcv := fun W hW => HCV.out i Ai ci W hW (by omega)
    have hnx := ofS_next rows k c i hi hle
    have hAi : (if c = 0 then some (⟨g, 0, none⟩ : Addr) else some ⟨g, i * c * 2, none⟩) = some ⟨g, i * c * 2, none⟩ := by
     by_cases h : c = 0
     ·rw [if_pos h, h]; simp
     ·rw [if_neg h]
    rw [hAi]
    have hfit : i * c + (rows.getD i []).length ≤ (ofS rows k c i).length := by
     rw [ofS_length]
     have := Nat.mul_le_mul_right c (show i + 1 ≤ k by omega)
     rw [Nat.add_mul] at this
     omega
    have c0 := hKV.cell 0 0 rfl rfl
    have HCVi := Lib.hid hcv
    have HNX := Lib.hid hnx
    have HFIT := Lib.hid hfit
    have HRi := Lib.hid hRi
    have HKV := Lib.hid hKV
    clear hcv hnx hfit hRi hKV e1 hAi
    obtain ⟨ln, hln⟩ : ∃ ln, ln = (rows.getD i []).length := ⟨_, rfl⟩
    rw [← hln] at c1 HCVi hle HNX HFIT
    have HLN := Lib.hid hln
    clear hln
    have hik : i < k := hi
    gi_wp2_with fail
    refine ⟨trivial, rfl, ?_⟩
    with_reducible refine (CallsIn.inRound l (callsIn_wide.2 (HCVi.out _ HRi.out))).mono ?_
    rintro e V1 ⟨h, rfl, hh, hLh, hb1⟩
    have hK1 := (HKV.out.step hb1)
    have hLg : Lw V1 g (ofS rows k c i) := hK1.at_ 2 rfl
    have hcp := copyW V1 g (i * c) c c (ofS rows k c i) hLg (some ⟨h, 0, none⟩) ln ln ln _ hLh.rdw (by simp) (show ln = Nat.min ln c from (Nat.min_eq_left hle).symm) HFIT.out
    rw [HNX.out] at hcp
    clear c0 c1
    gi_wp2_with fail
    have hgl := HK4.out.lt 2 rfl
    have hGr := grown_setRow V1 g (flat (ofS rows k c (i + 1))).toArray
    exact ⟨((Kept.refl W4.heap.size V).below hb1).grown hGr hgl, hK1.change 2 rfl hGr (o' := lwO (ofS rows k c (i + 1))) (setRow_heap V1 g _ _ _ _ hLg)⟩
   case done =>
    rintro D V hD h2 hd
    have c0 := h2.cell 3 0 rfl rfl
    have c1 := h2.cell 3 1 rfl rfl
    have c2 := h2.cell 3 2 rfl rfl
    have HK := Lib.hid h2
    clear h2
    gi_wp2_with fail
    refine ⟨trivial, rfl, ?_⟩
    with_reducible refine (callsIn_wide.2 (HMO.out g _)).mono ?_
    rintro e V1 ⟨rfl, hb1⟩
    clear c0 c1 c2
    have hK1 := HK.out.step hb1
    have d0 := hK1.cell 1 0 rfl rfl
    have d1 := hK1.cell 1 1 rfl rfl
    have d2 := hK1.cell 1 2 rfl rfl
    have f0 := hK1.frozen 1 0 rfl
    have f1 := hK1.frozen 1 1 rfl
    have f2 := hK1.frozen 1 2 rfl
    have hdl := heap_lt hd
    have hd1 := (hb1.block D hdl).trans hd
    have HK1 := Lib.hid hK1
    have HD1 := Lib.hid hd1
    clear hK1 hd1
    gi_wp2_with fail
    have hl1 := HK4.out.lt 1 rfl
    have hK2 := ((HK1.out.put 1 0 rfl (.int .i64 (k : Int))).put 1 1 rfl (.int .i64 (c : Int))).put 1 2 rfl (.slice (some ⟨g, 0, none⟩) NN NN)
    have hd2 : (((V1.setCell ⟨w.heap.size + 1, 0, none⟩ (.int .i64 (k : Int))).setCell ⟨w.heap.size + 1, 1, none⟩ (.int .i64 (c : Int))).setCell ⟨w.heap.size + 1, 2, none⟩ (.slice (some ⟨g, 0, none⟩) NN NN)).heap[D]? = some (.deferred (some [])) :=
     (Below.heap_setCell _ _ _ _ (by simp only []; omega)).trans ((Below.heap_setCell _ _ _ _ (by simp only []; omega)).trans ((Below.heap_setCell _ _ _ _ (by simp only []; omega)).trans HD1.out))
    have hlp := later_put (B := W4.heap.size) (.deferred none) hD hd2 rfl
    have hK5 := hK2.later' hlp HK4.out.1.size rfl
    refine ⟨by simp, .inl ⟨_, _, rfl, run_takeDeferred hd2, ?_⟩⟩
    exact ⟨_, results_mat (b := w.heap.size + 1) rfl rfl (hK5.at_ 1 rfl), g, rfl, HK4.out.ge 2 rfl, by rw [← ofS_full]; exact hK5.at_ 2 rfl, ⟨hK5.1.os, hK5.1.tape, hK5.1.output, hK5.1.size, fun i hi => hK5.1.block i hi (by simp)⟩⟩
end Go.Proofs.YtknaghdoffigjaaGreatDoor
namespace Go.Proofs.YtknaghdoffigjaaGreatDoor
open Go.RowKit Go
attribute [local go_sem] Oper.semAt_some
def prt (zs : List Int) (c row col rows cols : Nat) : List (List Int) := (List.range rows).map fun i => (List.range cols).map fun j => zs.getD ((row + i) * c + col + j) 0
theorem prt_get (zs : List Int) (c row col rows cols i : Nat) (h : i < rows) : (prt zs c row col rows cols).getD i [] = (List.range cols).map fun j => zs.getD ((row + i) * c + col + j) 0 := by
 unfold prt
 rw [List.getD_eq_getElem?_getD, List.getElem?_map, List.getElem?_range h]
 rfl
theorem Lw.rdAt {w : World} {g : Nat} {zs : List Int} (h : Lw w g (enc zs)) (o m : Nat) (hm : o + m ≤ zs.length) : RdW w (some ⟨g, o * 2, none⟩) ((List.range m).map fun j => (wneg (zs.getD (o + j) 0), wmag (zs.getD (o + j) 0))) := fun k hk => by
 have hk : k < m := by simpa using hk
 have h0 := h.cell0 (o + k) (by rw [enc_length]; omega)
 have h1 := h.cell1 (o + k) (by rw [enc_length]; omega)
 rw [enc_get] at h0 h1
 have e : (⟨g, o * 2, none⟩ : Addr).add (k * 2) = ⟨g, (o + k) * 2, none⟩ := by
  unfold Addr.add
  split
  ·rw [show (o + k) * 2 = o * 2 by omega]
  ·rw [show o * 2 + k * 2 = (o + k) * 2 by omega]
 refine ⟨_, rfl, heap_lt h, ?_, ?_⟩
 ·rw [e, h0]; simp
 ·rw [e]; simp only []; rw [h1]; simp
theorem slice_loW (A : Option Addr) (n c lo : Nat) (h1 : lo ≤ n) (h2 : n ≤ c) (w : World) :
  (Instr.slice 26 (.slice A n c) (some (.int .i64 (lo : Int))) none none).run Tryz.prog w = .ok (.slice (if c = lo then A else A.map (·.add (lo * 2))) (n - lo) (c - lo)) w := by
 have h := run_slice_l (P := Tryz.prog) (w := w) 26 A n c (by kernel_rfl) .i64 (lo : Int) (by omega) (by omega)
 rw [h]
 have e : Tryz.prog.elem 26 = 32 := by kernel_rfl
 rw [e, Tryz.sizeOf32]
 simp [Result.andThen, sliced]
theorem results_mat_tmp {fn : Func} {tmps : Array Value} {w : World} {p u : Tmp} {b : Nat} {r c : Int} {A : Option Addr} {n cap : Nat} (h : fn.results = #[.cell p 28, .tmp u])
  (ht : tmps.getD p undef = .pointer (some ⟨b, 0, none⟩)) (hw : Mb w b r c A n cap) : (results fn tmps).run Tryz.prog w = .ok (.tuple #[mat r c A n cap, tmps.getD u undef]) w := by
 have := hw.load
 rw [Array.getD_eq_getD_getElem?] at ht
 simp only [results, h]
 simp [Sem.run_bind, Result.andThen, ht, asAddr, this]
set_option maxRecDepth 100000 in
set_option maxHeartbeats 4000000 in
theorem Part_ok (gA r c NA capA row col n m NN : Nat) (zs : List Int) (w : World) (hA : Lw w gA (enc zs)) (hlen : zs.length = r * c) (hNA : NA = r * c) (hcapA : NA ≤ capA) (hcapm : capA ≤ maxLen) (hr : mright r c (enc zs) = true) (hr2 : r ≤ 200) (hc2 : c ≤ 200) (hrow : row + n ≤ r) (hcol : col + m ≤ c) (hNN : n * m = NN) :
  Calls Tryz.prog 30 #[mat r c (some ⟨gA, 0, none⟩) NA capA, .int .i64 (row : Int), .int .i64 (col : Int), .int .i64 (n : Int), .int .i64 (m : Int)] w fun e w' => ∃ g, e = .returned (.tuple #[mat n m (some ⟨g, 0, none⟩) NN NN, .bool true]) ∧ w.heap.size ≤ g ∧ Lw w' g (enc (ofL (prt zs c row col n m) n m)) ∧ Below w.heap.size w w' := by
 have hNN2 : NN ≤ 40000 := by rw [← hNN]; exact Nat.le_trans (Nat.mul_le_mul (show n ≤ 200 by omega) (show m ≤ 200 by omega)) (by omega)
 have hri := fun W hW => Right_any (r : Int) (c : Int) (some ⟨gA, 0, none⟩) NA capA (enc zs) W hW (by rw [enc_length, hlen, hNA]) (by omega)
 rw [hr] at hri
 have hg1 := fun W => isRange_any (row : Int) (n : Int) (r : Int) W (by omega) (by omega) (by omega)
 have hg2 := fun W => isRange_any (col : Int) (m : Int) (c : Int) W (by omega) (by omega) (by omega)
 rw [show (decide (0 ≤ (row : Int)) && decide (0 ≤ (n : Int)) && decide ((n : Int) ≤ (r : Int) - (row : Int))) = true from by simp; omega] at hg1
 rw [show (decide (0 ≤ (col : Int)) && decide (0 ≤ (m : Int)) && decide ((m : Int) ≤ (c : Int) - (col : Int))) = true from by simp; omega] at hg2
 have hto := fun W => tableOf_any (r : Int) (c : Int) (some ⟨gA, 0, none⟩) NA capA W
 have hnt := fun W => newTable_any n m NN W (by omega) (by omega) hNN hNN2
 have hmo := fun g W => matrixOf_any (n : Int) (m : Int) (some ⟨g, 0, none⟩) NN NN W
 have hrw := fun (i : Nat) (hi : i < n) W => row_any r c (row + i) (some ⟨gA, 0, none⟩) NA capA W (by omega) (by omega) (by omega) (by omega) hcapm
 unfold mat at *
 have HRI := Lib.hid hri
 have HG1 := Lib.hid hg1
 have HG2 := Lib.hid hg2
 have HTO := Lib.hid hto
 have HNT := Lib.hid hnt
 have HMO := Lib.hid hmo
 have HRW := Lib.hid hrw
 have HA := Lib.hid hA
 have HLEN := Lib.hid hlen
 have HNA := Lib.hid hNA
 have HNN := Lib.hid hNN
 have hgA := heap_lt hA
 clear hri hg1 hg2 hto hnt hmo hrw hA hlen hNA hNN hr
 have hK1 := (((Kg.none_ none w 4).new 0 (mrow (r : Int) (c : Int) (some ⟨gA, 0, none⟩) NA capA) rfl).new 1 (.cells #[.int .i64 (row : Int)] 3 (0, 0)) rfl).new 2 (.cells #[.int .i64 (col : Int)] 3 (0, 0)) rfl
 have HK2 := Lib.hid ((hK1.new 3 (mrow 0 0 none 0 0) rfl).cast (l' := [some (w.heap.size, mrow (r : Int) (c : Int) (some ⟨gA, 0, none⟩) NA capA), some (w.heap.size + 1, .cells #[.int .i64 (row : Int)] 3 (0, 0)), some (w.heap.size + 1 + 1, .cells #[.int .i64 (col : Int)] 3 (0, 0)), some (w.heap.size + 1 + 1 + 1, mrow 0 0 none 0 0)]) (by simp))
 have hAs : ∀ W l, Kg none w W l → Lw W gA (enc zs) := fun W l h => (h.1.block gA hgA (by simp)).trans HA.out
 have HAS := Lib.hid hAs
 have c0 := HK2.out.cell 0 0 rfl rfl
 have c1 := HK2.out.cell 0 1 rfl rfl
 have c2 := HK2.out.cell 0 2 rfl rfl
 have c3 := HK2.out.cell 1 0 rfl rfl
 have c4 := HK2.out.cell 2 0 rfl rfl
 clear hK1 hAs
 refine (callsIn_wide (n := 0)).1 ?_
 refine callsIn_of_wp_marks Tryz.func30 rfl trivial ?_ rfl
 simp only [Tryz.ntmps30, List.size_toArray, List.length_cons, List.length_nil, Nat.reduceAdd, Nat.reduceSub, Array.replicate_succ, Array.replicate_zero, List.push_toArray, List.append_toArray, List.nil_append, List.cons_append]
 gi_wp2_with fail
 change _ ∧ _ ∧ CallsIn _ _ _ _ _ ((((w.alloc (mrow (r : Int) (c : Int) (some ⟨gA, 0, none⟩) NA capA)).alloc (.cells #[.int .i64 (row : Int)] 3 (0, 0))).alloc (.cells #[.int .i64 (col : Int)] 3 (0, 0))).alloc (mrow 0 0 none 0 0)) _
 generalize (((w.alloc (mrow (r : Int) (c : Int) (some ⟨gA, 0, none⟩) NA capA)).alloc (.cells #[.int .i64 (row : Int)] 3 (0, 0))).alloc (.cells #[.int .i64 (col : Int)] 3 (0, 0))).alloc (mrow 0 0 none 0 0) = W2 at *
 refine ⟨trivial, rfl, ?_⟩
 with_reducible refine (callsIn_wide.2 (HRI.out _ (HAS.out _ _ HK2.out).rdw)).mono ?_
 rintro e w1 ⟨rfl, hb1⟩
 have HK3 := Lib.hid (HK2.out.step hb1)
 clear c0 c1 c2 c3 c4 hb1 HK2
 have c0 := HK3.out.cell 0 0 rfl rfl
 have c1 := HK3.out.cell 0 1 rfl rfl
 have c2 := HK3.out.cell 0 2 rfl rfl
 have c3 := HK3.out.cell 1 0 rfl rfl
 have c4 := HK3.out.cell 2 0 rfl rfl
 gi_wp2_with fail
 refine ⟨trivial, rfl, ?_⟩
 with_reducible refine (callsIn_wide.2 (HG1.out _)).mono ?_
 rintro e w2 ⟨rfl, rfl⟩
 gi_wp2_with fail
 refine ⟨trivial, rfl, ?_⟩
 with_reducible refine (callsIn_wide.2 (HG2.out _)).mono ?_
 rintro e w2 ⟨rfl, rfl⟩
 gi_wp2_with fail
 refine ⟨trivial, rfl, ?_⟩
 with_reducible refine (callsIn_wide.2 (HTO.out _)).mono ?_
 rintro e w3 ⟨rfl, hb3⟩
 have HK4 := Lib.hid ((HK3.out.step hb3).more (.cells #[.int .i64 (r : Int), .int .i64 (c : Int), .slice (some ⟨gA, 0, none⟩) NA capA] 68 (0, 0)))
 clear c0 c1 c2 c3 c4 hb3 HK3
 gi_wp2_with fail
 change _ ∧ _ ∧ CallsIn _ _ _ _ _ (w3.alloc (.cells #[.int .i64 (r : Int), .int .i64 (c : Int), .slice (some ⟨gA, 0, none⟩) NA capA] 68 (0, 0))) _
 generalize w3.alloc (.cells #[.int .i64 (r : Int), .int .i64 (c : Int), .slice (some ⟨gA, 0, none⟩) NA capA] 68 (0, 0)) = W5 at *
 generalize w3.heap.size = b12 at *
 refine ⟨trivial, rfl, ?_⟩
 with_reducible refine (callsIn_wide.2 (HNT.out _)).mono ?_
 rintro e w6 ⟨g, rfl, hg, hLg, hb6⟩
 have hK6 := ((HK4.out.room.came 5 rfl hb6 hg (o := lwO (ofS (prt zs c row col n m) n m 0)) (by rw [ofS_zero, HNN.out]; exact hLg)).more (.cells #[.int .i64 (n : Int), .int .i64 (m : Int), .slice (some ⟨g, 0, none⟩) NN NN] 68 (0, 0)))
 have HK6 := Lib.hid hK6
 have hW5 := HK4.out.1.size
 clear hK6 hLg hb6
 gi_wp2_with fail
 change Code.wpIn _ _ _ _ _ _ (w6.alloc (.cells #[.int .i64 (n : Int), .int .i64 (m : Int), .slice (some ⟨g, 0, none⟩) NN NN] 68 (0, 0)))
 generalize w6.alloc (.cells #[.int .i64 (n : Int), .int .i64 (m : Int), .slice (some ⟨g, 0, none⟩) NN NN] 68 (0, 0)) = W7 at *
 generalize w6.heap.size = b13 at *
 have hK7 : Kg none w W7 [some (w.heap.size, mrow (r : Int) (c : Int) (some ⟨gA, 0, none⟩) NA capA), some (w.heap.size + 1, .cells #[.int .i64 (row : Int)] 3 (0, 0)), some (w.heap.size + 1 + 1, .cells #[.int .i64 (col : Int)] 3 (0, 0)), some (w.heap.size + 1 + 1 + 1, mrow 0 0 none 0 0), some (b12, .cells #[.int .i64 (r : Int), .int .i64 (c : Int), .slice (some ⟨gA, 0, none⟩) NA capA] 68 (0, 0)), some (g, lwO (ofS (prt zs c row col n m) n m 0)), some (b13, .cells #[.int .i64 (n : Int), .int .i64 (m : Int), .slice (some ⟨g, 0, none⟩) NN NN] 68 (0, 0))] := HK6.out
 have HK7 := Lib.hid hK7
 clear HK6 hK7 HK4
 refine range_boxed (a := ?A) (ps := #[43, 44]) (gf := 59) (first := #[.agg #[.int .i64 (n : Int), .int .i64 (m : Int), .slice (some ⟨g, 0, none⟩) NN NN]]) ?hg1 (enters_of Tryz.func59 (by kernel_rfl) rfl)
  (each_visits n m (some ⟨g, 0, none⟩) NN NN (by omega) (by omega) (Nat.le_of_eq HNN.out) (by unfold maxLen; omega)) ?hps1
  (fun i V => Kg none w V [some (w.heap.size, mrow (r : Int) (c : Int) (some ⟨gA, 0, none⟩) NA capA), some (w.heap.size + 1, .cells #[.int .i64 (row : Int)] 3 (0, 0)), some (w.heap.size + 1 + 1, .cells #[.int .i64 (col : Int)] 3 (0, 0)), some (w.heap.size + 1 + 1 + 1, mrow 0 0 none 0 0), some (b12, .cells #[.int .i64 (r : Int), .int .i64 (c : Int), .slice (some ⟨gA, 0, none⟩) NA capA] 68 (0, 0)), some (g, lwO (ofS (prt zs c row col n m) n m i)), some (b13, .cells #[.int .i64 (n : Int), .int .i64 (m : Int), .slice (some ⟨g, 0, none⟩) NN NN] 68 (0, 0))])
  (fun _ _ => False) ?own ?ownx HK7.out
  (fun i a' V => a' = { tmps := ((((?A).tmps.setIfInBounds 43 (.int .i64 (i : Int))).setIfInBounds 44 (.slice (if m = 0 then some ⟨g, 0, none⟩ else some ⟨g, i * m * 2, none⟩) m m)).setIfInBounds 14 (.int .i64 (i : Int))).setIfInBounds 15 (.slice (if m = 0 then some ⟨g, 0, none⟩ else some ⟨g, i * m * 2, none⟩) m m), defers := [] })
  (fun _ _ _ _ h _ => h) ?assign ?body ?done (fun _ _ _ _ h => h.elim)
 case hg1 => rfl
 case hps1 => exact fun k => rfl
 case own => exact fun i V V' h hl => h.later' hl HK7.out.1.size rfl
 case ownx => exact fun _ _ _ h _ => h.elim
 case assign =>
  intro l i V K' hi hz hI hK'
  unfold rowArgs
  simp only [Option.map_some, add_from0]
  generalize (if m = 0 then some (⟨g, 0, none⟩ : Addr) else some ⟨g, i * m * 2, none⟩) = A' at *
  clear hI
  gi_wp2
  exact hK' _ _ rfl (Below.refl _ _)
 case body =>
  rintro l i a' V hi hz hl0 hl1 hKV rfl
  simp only [List.setIfInBounds_toArray, List.set_cons_succ, List.set_cons_zero]
  have hAi : (if m = 0 then some (⟨g, 0, none⟩ : Addr) else some ⟨g, i * m * 2, none⟩) = some ⟨g, i * m * 2, none⟩ := by
   by_cases h : m = 0
   ·rw [if_pos h, h]; simp
   ·rw [if_neg h]
  rw [hAi]
  have hlp : ((prt zs c row col n m).getD i []).length = m := by rw [prt_get _ _ _ _ _ _ _ hi]; simp
  have hnx := ofS_next (prt zs c row col n m) n m i hi (by omega)
  rw [hlp] at hnx
  have hys : (List.range m).map (fun j => (wneg (((prt zs c row col n m).getD i []).getD j 0), wmag (((prt zs c row col n m).getD i []).getD j 0))) = (List.range m).map fun j => (wneg (zs.getD ((row + i) * c + col + j) 0), wmag (zs.getD ((row + i) * c + col + j) 0)) := by
   apply List.map_congr_left
   intro j hj
   have hj : j < m := by simpa using hj
   rw [prt_get _ _ _ _ _ _ _ hi, List.getD_eq_getElem?_getD, List.getElem?_map, List.getElem?_range hj]
   rfl
  rw [hys] at hnx
  have hin : (row + i) * c + col + m ≤ zs.length := by
   rw [HLEN.out]
   have := Nat.mul_le_mul_right c (show row + i + 1 ≤ r by omega)
   rw [Nat.add_mul (row + i)] at this
   omega
  have hfit : i * m + m ≤ (ofS (prt zs c row col n m) n m i).length := by
   rw [ofS_length]
   have := Nat.mul_le_mul_right m (show i + 1 ≤ n by omega)
   rw [Nat.add_mul] at this
   omega
  have hrow := fun W => HRW.out i hi W
  have hAr : (if c = 0 then some (⟨gA, 0, none⟩ : Addr) else (some (⟨gA, 0, none⟩ : Addr)).map (·.add ((row + i) * c * 2))) = some ⟨gA, (row + i) * c * 2, none⟩ := by
   simp only [Option.map_some, add_from0]
   by_cases h : c = 0
   ·rw [if_pos h, h]; simp
   ·rw [if_neg h]
  rw [hAr] at hrow
  have hcut := fun W => slice_loW (some ⟨gA, (row + i) * c * 2, none⟩) c c col (by omega) (Nat.le_refl _) W
  obtain ⟨As, hAs⟩ : ∃ As, As = (if c = col then some (⟨gA, (row + i) * c * 2, none⟩ : Addr) else (some (⟨gA, (row + i) * c * 2, none⟩ : Addr)).map (·.add (col * 2))) := ⟨_, rfl⟩
  rw [← hAs] at hcut
  have hrd : ∀ W, Lw W gA (enc zs) → RdW W As ((List.range m).map fun j => (wneg (zs.getD ((row + i) * c + col + j) 0), wmag (zs.getD ((row + i) * c + col + j) 0))) := fun W hW => by
   rcases Nat.eq_zero_or_pos m with h0 | h0
   ·subst h0
    intro k hk
    simp at hk
   ·have h := hW.rdAt ((row + i) * c + col) m hin
    have e : As = some ⟨gA, ((row + i) * c + col) * 2, none⟩ := by
     rw [hAs, if_neg (by omega)]
     simp only [Option.map_some, Addr.add]
     split
     ·rw [show ((row + i) * c + col) * 2 = (row + i) * c * 2 by omega]
     ·rw [show (row + i) * c * 2 + col * 2 = ((row + i) * c + col) * 2 by omega]
    rw [e]
    exact h
  have w1 : IntKind.i64.wrap ((row : Int) + (i : Int)) = ((row + i : Nat) : Int) := by rw [show (row : Int) + (i : Int) = ((row + i : Nat) : Int) from by omega]; exact IntWalk.i64_in _ (by omega)
  obtain ⟨ri, hri⟩ : ∃ ri, ri = row + i := ⟨_, rfl⟩
  have hrd2 := hrd
  rw [← hri] at hrow hcut hnx hrd w1
  have HROW := Lib.hid hrow
  have HNX := Lib.hid hnx
  have HFIT := Lib.hid hfit
  have HRD := Lib.hid hrd
  have HKV := Lib.hid hKV
  have Hkk := Lib.hid (Kept.refl W7.heap.size V)
  clear hrow hnx hfit hrd hrd2 hKV hAi hAr hys hlp hin hri hAs
  have hgl := HK7.out.lt 5 rfl
  gi_wp2_with fail
  refine wpIn_region_facts (X := Unit) (fun x => [(0, 45, .slice (some ⟨g, i * m * 2, none⟩) m m), (1, 46, .agg #[.int .i64 (r : Int), .int .i64 (c : Int), .slice (some ⟨gA, 0, none⟩) NA capA]), (2, 47, .int .i64 (row : Int)), (3, 48, .int .i64 (i : Int)), (4, 49, .int .i64 (ri : Int)), (5, 50, .slice (some ⟨gA, ri * c * 2, none⟩) c c), (6, 51, .int .i64 (col : Int)), (7, 52, .slice As (c - col) (c - col)), (8, 53, .int .i64 (m : Int))])
   (fun _ L W => Kg none w W [some (w.heap.size, mrow (r : Int) (c : Int) (some ⟨gA, 0, none⟩) NA capA), some (w.heap.size + 1, .cells #[.int .i64 (row : Int)] 3 (0, 0)), some (w.heap.size + 1 + 1, .cells #[.int .i64 (col : Int)] 3 (0, 0)), some (w.heap.size + 1 + 1 + 1, mrow 0 0 none 0 0), some (b12, .cells #[.int .i64 (r : Int), .int .i64 (c : Int), .slice (some ⟨gA, 0, none⟩) NA capA] 68 (0, 0)), some (g, lwO (if L 8 = true then ofS (prt zs c row col n m) n m (i + 1) else ofS (prt zs c row col n m) n m i)), some (b13, .cells #[.int .i64 (n : Int), .int .i64 (m : Int), .slice (some ⟨g, 0, none⟩) NN NN] 68 (0, 0))] ∧ Kept W7.heap.size V W) (by kernel_rfl) (by kernel_rfl) () ?st (by kernel_rfl) ?_ ?_
  case st => exact ⟨by simpa using HKV.out.drew, Hkk.out.drew⟩
  ·repeat' (first | exact FactStepsIn.nil | refine FactStepsIn.cons ?_ ?_)
   all_goals
    intro L x wx hJ hl hd hs K hK
    (try simp [Region.binds] at hd)
    have e0 := hJ.1.cell 4 0 rfl rfl
    have e1 := hJ.1.cell 4 1 rfl rfl
    have e2 := hJ.1.cell 4 2 rfl rfl
    have e3 := hJ.1.cell 1 0 rfl rfl
    have e4 := hJ.1.cell 2 0 rfl rfl
    simp only [selA, selT_cons, selT_nil, List.set_cons_zero, List.set_cons_succ, List.getD_cons_zero, List.getD_cons_succ, hd, hl, selV_true, selV_false]
   ·go_simp
    refine hK.out x _ _ ?_ ?_
    ·simp [selA, selT_cons, selT_nil, hl, hd, selV_true, selV_false]
    ·exact ⟨by simpa [hl] using hJ.1, hJ.2⟩
   ·go_simp
    refine hK.out x _ _ ?_ ?_
    ·simp [selA, selT_cons, selT_nil, hl, hd, selV_true, selV_false]
    ·exact ⟨by simpa [hl] using hJ.1, hJ.2⟩
   ·go_simp
    refine hK.out x _ _ ?_ ?_
    ·simp [selA, selT_cons, selT_nil, hl, hd, selV_true, selV_false]
    ·exact ⟨by simpa [hl] using hJ.1, hJ.2⟩
   ·go_simp
    refine hK.out x _ _ ?_ ?_
    ·simp [selA, selT_cons, selT_nil, hl, hd, selV_true, selV_false]
    ·exact ⟨by simpa [hl] using hJ.1, hJ.2⟩
   ·go_simp
    refine hK.out x _ _ ?_ ?_
    ·simp [selA, selT_cons, selT_nil, hl, hd, selV_true, selV_false]
    ·exact ⟨by simpa [hl] using hJ.1, hJ.2⟩
   ·go_simp
    refine ⟨trivial, rfl, ?_⟩
    with_reducible refine (CallsIn.inRound l (callsIn_wide.2 (HROW.out _))).mono ?_
    rintro e v ⟨rfl, hb⟩
    refine hK.out x _ _ ?_ ?_
    ·simp [selA, selT_cons, selT_nil, hl, hd, selV_true, selV_false]
    ·exact ⟨by simpa [hl] using hJ.1.step hb, hJ.2.below hb⟩
   ·go_simp
    refine hK.out x _ _ ?_ ?_
    ·simp [selA, selT_cons, selT_nil, hl, hd, selV_true, selV_false]
    ·exact ⟨by simpa [hl] using hJ.1, hJ.2⟩
   ·go_simp
    refine hK.out x _ _ ?_ ?_
    ·simp [selA, selT_cons, selT_nil, hl, hd, selV_true, selV_false]
    ·exact ⟨by simpa [hl] using hJ.1, hJ.2⟩
   ·have hB := hJ.1
    simp only [hl, Bool.false_eq_true, if_false] at hB
    have hLg : Lw wx g (ofS (prt zs c row col n m) n m i) := hB.at_ 5 rfl
    have hcp := copyW wx g (i * m) m m (ofS (prt zs c row col n m) n m i) hLg As (c - col) (c - col) m _ (HRD.out wx (HAS.out _ _ hB)) (by simp) (show m = Nat.min (c - col) m from (Nat.min_eq_right (by omega)).symm) HFIT.out
    rw [HNX.out] at hcp
    have hGr := grown_setRow wx g (flat (ofS (prt zs c row col n m) n m (i + 1))).toArray
    have HGr := Lib.hid hGr
    have HLg := Lib.hid hLg
    clear hGr hLg hB
    go_simp
    refine hK.out x _ _ ?_ ?_
    ·simp [selA, selT_cons, selT_nil, hl, hd, selV_true, selV_false]
    ·have hB := hJ.1
     simp only [hl, Bool.false_eq_true, if_false] at hB
     exact ⟨by simpa using hB.change 5 rfl HGr.out (o' := lwO (ofS (prt zs c row col n m) n m (i + 1))) (setRow_heap wx g _ _ _ _ HLg.out), hJ.2.grown HGr.out hgl⟩
  ·rintro _ Wx ⟨hKx, hkx⟩
   simp only [selA, selT_cons, selT_nil, List.set_cons_zero, List.set_cons_succ, List.getD_cons_zero, List.getD_cons_succ, selV_true]
   simp only [if_true] at hKx
   gi_wp2_with fail
   exact ⟨hkx, hKx⟩
 case done =>
  rintro D V hD h2 hd
  have c0 := h2.cell 6 0 rfl rfl
  have c1 := h2.cell 6 1 rfl rfl
  have c2 := h2.cell 6 2 rfl rfl
  have HK := Lib.hid h2
  clear h2
  gi_wp2_with fail
  refine ⟨trivial, rfl, ?_⟩
  with_reducible refine (callsIn_wide.2 (HMO.out g _)).mono ?_
  rintro e V1 ⟨rfl, hb1⟩
  clear c0 c1 c2
  have hK1 := HK.out.step hb1
  have d0 := hK1.cell 3 0 rfl rfl
  have d1 := hK1.cell 3 1 rfl rfl
  have d2 := hK1.cell 3 2 rfl rfl
  have f0 := hK1.frozen 3 0 rfl
  have f1 := hK1.frozen 3 1 rfl
  have f2 := hK1.frozen 3 2 rfl
  have hdl := heap_lt hd
  have hd1 := (hb1.block D hdl).trans hd
  have HK1 := Lib.hid hK1
  have HD1 := Lib.hid hd1
  clear hK1 hd1
  gi_wp2_with fail
  have hl1 := HK7.out.lt 3 rfl
  have hK2 := ((HK1.out.put 3 0 rfl (.int .i64 (n : Int))).put 3 1 rfl (.int .i64 (m : Int))).put 3 2 rfl (.slice (some ⟨g, 0, none⟩) NN NN)
  have hd2 : (((V1.setCell ⟨w.heap.size + 1 + 1 + 1, 0, none⟩ (.int .i64 (n : Int))).setCell ⟨w.heap.size + 1 + 1 + 1, 1, none⟩ (.int .i64 (m : Int))).setCell ⟨w.heap.size + 1 + 1 + 1, 2, none⟩ (.slice (some ⟨g, 0, none⟩) NN NN)).heap[D]? = some (.deferred (some [])) :=
   (Below.heap_setCell _ _ _ _ (by simp only []; omega)).trans ((Below.heap_setCell _ _ _ _ (by simp only []; omega)).trans ((Below.heap_setCell _ _ _ _ (by simp only []; omega)).trans HD1.out))
  have hlp := later_put (B := W7.heap.size) (.deferred none) hD hd2 rfl
  have hK5 := hK2.later' hlp HK7.out.1.size rfl
  refine ⟨by simp, .inl ⟨_, _, rfl, run_takeDeferred hd2, ?_⟩⟩
  exact ⟨_, results_mat_tmp (b := w.heap.size + 1 + 1 + 1) rfl rfl (hK5.at_ 3 rfl), g, rfl, HK7.out.ge 5 rfl, by rw [← ofS_full]; exact hK5.at_ 5 rfl, ⟨hK5.1.os, hK5.1.tape, hK5.1.output, hK5.1.size, fun i hi => hK5.1.block i hi (by simp)⟩⟩
end Go.Proofs.YtknaghdoffigjaaGreatDoor
