/-
  The contracts of the reference's Join and Part, where what they are asked for is there.
-/
import Derived.Test.YtknaghdoffigjaaGreatDoorMJoin
import Derived.Test.YtknaghdoffigjaaGreatDoorZMRefD
import Derived.Test.YtknaghdoffigjaaGreatDoorZMBoth
set_option linter.unusedSimpArgs false
set_option linter.unusedVariables false
set_option linter.unnecessarySimpa false
namespace Go.Proofs.YtknaghdoffigjaaGreatDoor
open Go.RowKit Go
attribute [local go_sem] Oper.semAt_some

/-- Wides in a row of their own. -/
def OwW (w : World) (B : Nat) (v : Value) (zs : List Int) : Prop := w.ownsRow B 32 2 v zs.length (flat (enc zs))
theorem OwW.nil (w : World) (B : Nat) : OwW w B (.slice none 0 0) [] := World.ownsRow_nil _ _ _ _
theorem OwW.rd {w : World} {B : Nat} {v : Value} {zs : List Int} (h : OwW w B v zs) : ∃ A c, v = .slice A zs.length c ∧ zs.length ≤ c ∧ c ≤ maxLen ∧ RdW w A (enc zs) := by
  rcases h.2 with ⟨rfl, h0⟩ | ⟨g, cap, cur, rfl, hb, hh, hnc, hcm, hcs, hct⟩
  · obtain rfl : zs = [] := List.length_eq_zero_iff.1 h0
    exact ⟨none, 0, rfl, by simp, by simp, fun k hk => absurd hk (by simp [enc])⟩
  · have hg : ∀ j v, (flat (enc zs))[j]? = some v → w.cell? ⟨g, j, none⟩ = some v := fun j v hv => by
      have hj : j < zs.length * 2 := by
        have := (List.getElem?_eq_some_iff.1 hv).1
        rwa [flat_length, enc_length] at this
      rw [cell_of_row w g j cur _ (0, 0) hh]
      have h2 := congrArg (fun l : List Value => l[j]?) hct
      change (cur.toList.take (zs.length * 2))[j]? = (flat (enc zs))[j]? at h2
      rw [List.getElem?_take_of_lt hj, Array.getElem?_toList] at h2
      rw [h2, hv]
    refine ⟨_, _, rfl, hnc, hcm, fun k hk => ⟨_, rfl, heap_lt hh, ?_, ?_⟩⟩
    · rw [add_from0]
      exact hg _ _ (flat_get (enc zs) k hk).1
    · rw [add_from0]
      exact hg _ _ (flat_get (enc zs) k hk).2
theorem OwW.own {w : World} {B : Nat} {v : Value} {zs : List Int} (h : OwW w B v zs) (k : Nat) (hk : v.ownBlock = some k) : B ≤ k := by
  rcases h.2 with ⟨rfl, _⟩ | ⟨g, cap, cur, rfl, hb, _⟩
  · cases hk
  · injection hk with hk
    exact hk ▸ hb
theorem OwW.block {w w' : World} {B : Nat} {v : Value} {zs : List Int} (h : OwW w B v zs) (hb' : ∀ i, B ≤ i → i < w.heap.size → w'.heap[i]? = w.heap[i]?) : OwW w' B v zs := by
  rcases h.2 with ⟨rfl, h0⟩ | ⟨g, cap, cur, rfl, hb, hh, hnc, hcm, hcs, hct⟩
  · exact ⟨h.1, .inl ⟨rfl, h0⟩⟩
  · exact ⟨h.1, .inr ⟨g, cap, cur, rfl, hb, (hb' g hb (heap_lt hh)).trans hh, hnc, hcm, hcs, hct⟩⟩
theorem OwW.drew {w : World} {B : Nat} {v : Value} {zs : List Int} (h : OwW w B v zs) : OwW w.drew B v zs := h.block fun _ _ _ => rfl
theorem OwW.put {w : World} {B : Nat} {v : Value} {zs : List Int} (h : OwW w B v zs) {p : Addr} (hp : p.block < B) (u : Value) : OwW (w.setCell p u) B v zs :=
  h.block fun i hi _ => Below.heap_setCell _ _ _ _ (by omega)
theorem slice_lhW (A : Option Addr) (n cap lo hi : Nat) (h1 : lo ≤ hi) (h2 : hi ≤ cap) (w : World) :
    (Instr.slice 26 (.slice A n cap) (some (.int .i64 (lo : Int))) (some (.int .i64 (hi : Int))) none).run Tryz.prog w = .ok (.slice (if cap = lo then A else A.map (·.add (lo * 2))) (hi - lo) (cap - lo)) w := by
  have h := run_slice_lh (P := Tryz.prog) (w := w) 26 A n cap (by kernel_rfl) .i64 .i64 (lo : Int) (hi : Int) (by omega) (by omega) (by omega)
  rw [h]
  have e : Tryz.prog.elem 26 = 32 := by kernel_rfl
  rw [e, Tryz.sizeOf32]
  simp [Result.andThen, sliced]
/-- Where a piece of a block's Wides lies. -/
def adr (g cap lo : Nat) : Addr := if cap = lo then ⟨g, 0, none⟩ else ⟨g, lo * 2, none⟩
theorem adr_eq (g cap lo : Nat) : (if cap = lo then some (⟨g, 0, none⟩ : Addr) else (some (⟨g, 0, none⟩ : Addr)).map (·.add (lo * 2))) = some (adr g cap lo) := by
  unfold adr
  simp only [Option.map_some, add_from0]
  split <;> rfl
theorem adr_cells {w : World} {g : Nat} {zs : List Int} (h : Lw w g (enc zs)) (cap lo m : Nat) (hm : lo + m ≤ zs.length) (hc : zs.length ≤ cap) (j : Nat) (u : Value)
    (hj : (flat (enc ((List.range m).map fun j => zs.getD (lo + j) 0)))[j]? = some u) : w.cell? ((adr g cap lo).add j) = some u := by
  have hjl : j < m * 2 := by
    have := (List.getElem?_eq_some_iff.1 hj).1
    rw [flat_length, enc_length] at this
    simpa using this
  have hne : ¬ cap = lo := by omega
  unfold adr
  rw [if_neg hne]
  have h2 := h.rdAt lo m hm
  have e : ((List.range m).map fun j => (wneg (zs.getD (lo + j) 0), wmag (zs.getD (lo + j) 0))) = enc ((List.range m).map fun j => zs.getD (lo + j) 0) := enc_range (fun j => zs.getD (lo + j) 0) m
  rw [e] at h2
  exact h2.flat _ rfl j u hj
theorem enc_append (a b : List Int) : enc (a ++ b) = enc a ++ enc b := by unfold enc; rw [List.map_append]
/-- A table row by row, and as one list. -/
theorem rows_flat (f : Nat → Nat → Int) (n m : Nat) : ((List.range n).flatMap fun i => (List.range m).map fun j => f i j) = (List.range (n * m)).map fun k => f (k / m) (k % m) := by
  induction n with
  | zero => simp
  | succ n ih =>
    rw [List.range_succ, List.flatMap_append, ih, Nat.add_mul, Nat.one_mul, List.range_add, List.map_append]
    congr 1
    simp only [List.flatMap_cons, List.flatMap_nil, List.append_nil, List.map_map]
    apply List.map_congr_left
    intro j hj
    have hj : j < m := by simpa using hj
    simp only [Function.comp]
    rw [show n * m + j = m * n + j by rw [Nat.mul_comm], Nat.mul_add_div (by omega), Nat.div_eq_of_lt hj, Nat.mul_add_mod, Nat.mod_eq_of_lt hj]
    rfl
/-- The first k rows of a part. -/
def prtA (zs : List Int) (c row col m k : Nat) : List Int := (List.range k).flatMap fun i => (List.range m).map fun j => zs.getD ((row + i) * c + col + j) 0
theorem prtA_next (zs : List Int) (c row col m k : Nat) : prtA zs c row col m (k + 1) = prtA zs c row col m k ++ (List.range m).map fun j => zs.getD ((row + k) * c + col + j) 0 := by
  unfold prtA
  rw [List.range_succ, List.flatMap_append]
  simp
theorem prtA_length (zs : List Int) (c row col m k : Nat) : (prtA zs c row col m k).length = k * m := by
  unfold prtA
  rw [rows_flat]
  simp
theorem prtA_full (zs : List Int) (c row col n m : Nat) : prtA zs c row col m n = ofL (prt zs c row col n m) n m := by
  unfold prtA ofL
  rw [rows_flat]
  apply List.map_congr_left
  intro k hk
  have hk : k < n * m := by simpa using hk
  have hm : 0 < m := by
    rcases Nat.eq_zero_or_pos m with h | h
    · subst h; omega
    · exact h
  rw [prt_get _ _ _ _ _ _ _ ((Nat.div_lt_iff_lt_mul hm).2 hk), List.getD_eq_getElem?_getD, List.getD_eq_getElem?_getD, List.getElem?_map, List.getElem?_range (Nat.mod_lt _ hm)]
  simp
/-- The first k rows of the joined matrix. -/
def jnA (xs ys : List Int) (c1 c2 k : Nat) : List Int := (List.range k).flatMap fun i => ((List.range c1).map fun j => xs.getD (i * c1 + j) 0) ++ ((List.range c2).map fun j => ys.getD (i * c2 + j) 0)
theorem jnA_next (xs ys : List Int) (c1 c2 k : Nat) : jnA xs ys c1 c2 (k + 1) = (jnA xs ys c1 c2 k ++ (List.range c1).map fun j => xs.getD (k * c1 + j) 0) ++ (List.range c2).map fun j => ys.getD (k * c2 + j) 0 := by
  unfold jnA
  rw [List.range_succ, List.flatMap_append]
  simp
theorem jnA_row (xs ys : List Int) (c1 c2 i : Nat) : ((List.range c1).map fun j => xs.getD (i * c1 + j) 0) ++ ((List.range c2).map fun j => ys.getD (i * c2 + j) 0) = (List.range (c1 + c2)).map fun j => if j < c1 then xs.getD (i * c1 + j) 0 else ys.getD (i * c2 + (j - c1)) 0 := by
  rw [List.range_add, List.map_append, List.map_map]
  congr 1
  · apply List.map_congr_left
    intro j hj
    rw [if_pos (by simpa using hj)]
  · apply List.map_congr_left
    intro j hj
    simp only [Function.comp]
    rw [if_neg (by omega), show c1 + j - c1 = j by omega]
theorem jnA_length (xs ys : List Int) (c1 c2 k : Nat) : (jnA xs ys c1 c2 k).length = k * (c1 + c2) := by
  unfold jnA
  simp only [jnA_row]
  rw [rows_flat]
  simp
theorem jnA_full (xs ys : List Int) (c1 c2 r : Nat) : jnA xs ys c1 c2 r = ofL (jnr xs ys c1 c2 r) r (c1 + c2) := by
  unfold jnA ofL
  simp only [jnA_row]
  rw [rows_flat]
  apply List.map_congr_left
  intro k hk
  have hk : k < r * (c1 + c2) := by simpa using hk
  have hm : 0 < c1 + c2 := by
    rcases Nat.eq_zero_or_pos (c1 + c2) with h | h
    · rw [h] at hk; omega
    · exact h
  rw [jnr_get _ _ _ _ _ _ ((Nat.div_lt_iff_lt_mul hm).2 hk), jnA_row, List.getD_eq_getElem?_getD (l := (List.range (c1 + c2)).map _), List.getElem?_map, List.getElem?_range (Nat.mod_lt _ hm)]
  rfl
theorem info_wideT : (Tryz.prog.info? 32).map (fun i => (i.zero, i.size, i.bytes)) = some (some (.agg #[.bool false, .string ⟨#[]⟩]), 2, 24) := by kernel_rfl
set_option maxRecDepth 100000 in
set_option maxHeartbeats 4000000 in
theorem rPart_ok (gA r c NA capA row col n m NN : Nat) (zs : List Int) (w : World) (hA : Lw w gA (enc zs)) (hlen : zs.length = r * c) (hNA : NA = r * c) (hcapA : NA ≤ capA) (hcapm : capA ≤ maxLen) (hr : mright r c (enc zs) = true) (hr2 : r ≤ 200) (hc2 : c ≤ 200) (hrow : row + n ≤ r) (hcol : col + m ≤ c) (hNN : n * m = NN) :
    Calls Tryz.prog 31 #[mat r c (some ⟨gA, 0, none⟩) NA capA, .int .i64 (row : Int), .int .i64 (col : Int), .int .i64 (n : Int), .int .i64 (m : Int)] w fun e w' => ∃ A cap, e = .returned (.tuple #[mat n m A NN cap, .bool true]) ∧ RdW w' A (enc (ofL (prt zs c row col n m) n m)) ∧ Below w.heap.size w w' := by
  have hNN2 : NN ≤ 40000 := by rw [← hNN]; exact Nat.le_trans (Nat.mul_le_mul (show n ≤ 200 by omega) (show m ≤ 200 by omega)) (by omega)
  have hri := fun W hW => rRight_any (r : Int) (c : Int) (some ⟨gA, 0, none⟩) NA capA (enc zs) W hW (by rw [enc_length, hlen, hNA]) (by omega)
  rw [hr] at hri
  have d1 : decide ((row : Int) < 0) = false := by rw [decide_eq_false_iff_not]; omega
  have d2 : decide ((col : Int) < 0) = false := by rw [decide_eq_false_iff_not]; omega
  have d3 : decide ((n : Int) < 0) = false := by rw [decide_eq_false_iff_not]; omega
  have d4 : decide ((m : Int) < 0) = false := by rw [decide_eq_false_iff_not]; omega
  have d5 : decide ((n : Int) > (r : Int)) = false := by rw [decide_eq_false_iff_not]; omega
  have d6 : decide ((m : Int) > (c : Int)) = false := by rw [decide_eq_false_iff_not]; omega
  obtain ⟨rn, hrn⟩ : ∃ rn, rn = r - n := ⟨_, rfl⟩
  obtain ⟨cm, hcm⟩ : ∃ cm, cm = c - m := ⟨_, rfl⟩
  have w1 : IntKind.i64.wrap ((r : Int) - (n : Int)) = (rn : Int) := by rw [show (r : Int) - (n : Int) = (rn : Int) from by omega]; exact IntWalk.i64_in _ (by omega)
  have w2 : IntKind.i64.wrap ((c : Int) - (m : Int)) = (cm : Int) := by rw [show (c : Int) - (m : Int) = (cm : Int) from by omega]; exact IntWalk.i64_in _ (by omega)
  have d7 : decide ((row : Int) > (rn : Int)) = false := by rw [decide_eq_false_iff_not]; omega
  have d8 : decide ((col : Int) > (cm : Int)) = false := by rw [decide_eq_false_iff_not]; omega
  have q5 : ¬ r < n := by omega
  have q6 : ¬ c < m := by omega
  have q7 : ¬ rn < row := by omega
  have q8 : ¬ cm < col := by omega
  obtain ⟨rend, hrend⟩ : ∃ rend, rend = row + n := ⟨_, rfl⟩
  have w3 : IntKind.i64.wrap ((row : Int) + (n : Int)) = (rend : Int) := by rw [show (row : Int) + (n : Int) = (rend : Int) from by omega]; exact IntWalk.i64_in _ (by omega)
  obtain ⟨i0, hi, hz0, hz1, hz2⟩ := info_parts info_wideT
  have hgA := heap_lt hA
  have hAs : ∀ W l, Kg none w W l → Lw W gA (enc zs) := fun W l h => (h.1.block gA hgA (by simp)).trans hA
  unfold mat at *
  have HRI := Lib.hid hri
  have HI := Lib.hid hi
  have HZ := Lib.hid hz0
  have HAS := Lib.hid hAs
  have HLEN := Lib.hid hlen
  have HNA := Lib.hid hNA
  have HNN := Lib.hid hNN
  have HRE := Lib.hid hrend
  have HK1 := Lib.hid ((((Kg.none_ none w 0).more (mrow (r : Int) (c : Int) (some ⟨gA, 0, none⟩) NA capA)).more (mrow 0 0 none 0 0)).cast (l' := [some (w.heap.size, mrow (r : Int) (c : Int) (some ⟨gA, 0, none⟩) NA capA), some (w.heap.size + 1, mrow 0 0 none 0 0)]) (by simp))
  have c0 := HK1.out.cell 0 0 rfl rfl
  have c1 := HK1.out.cell 0 1 rfl rfl
  have c2 := HK1.out.cell 0 2 rfl rfl
  clear hri hi hz0 hAs hA hlen hNA hNN hr hrn hcm hrend
  go_enter Tryz.func31, Tryz.ntmps31
  go_wp2_with fail
  change Calls _ _ _ ((w.alloc (mrow (r : Int) (c : Int) (some ⟨gA, 0, none⟩) NA capA)).alloc (mrow 0 0 none 0 0)) _
  generalize (w.alloc (mrow (r : Int) (c : Int) (some ⟨gA, 0, none⟩) NA capA)).alloc (mrow 0 0 none 0 0) = W1 at *
  have hx1 : Lw W1 gA (enc zs) := HAS.out _ _ HK1.out
  with_reducible refine (HRI.out _ hx1.rdw).mono ?_
  rintro e V1 ⟨rfl, hb⟩
  have HK2 := Lib.hid (HK1.out.step hb)
  clear hb c0 c1 c2 HK1 hx1
  have c0 := HK2.out.cell 0 0 rfl rfl
  have c1 := HK2.out.cell 0 1 rfl rfl
  go_wp2_with fail
  clear c0 c1
  have HK3 := Lib.hid (show Kg none w (V1.alloc (.cells #[.int .i64 (n : Int), .int .i64 (m : Int), .slice none 0 0] 28 (0, 0))) [some (w.heap.size, mrow (r : Int) (c : Int) (some ⟨gA, 0, none⟩) NA capA), some (w.heap.size + 1, mrow 0 0 none 0 0), some (V1.heap.size, .cells #[.int .i64 (n : Int), .int .i64 (m : Int), .slice none 0 0] 28 (0, 0))] from HK2.out.more (.cells #[.int .i64 (n : Int), .int .i64 (m : Int), .slice none 0 0] 28 (0, 0)))
  have hzB : V1.heap.size < (V1.alloc (.cells #[.int .i64 (n : Int), .int .i64 (m : Int), .slice none 0 0] 28 (0, 0))).heap.size := by simp
  change Code.wp _ _ _ _ (V1.alloc (.cells #[.int .i64 (n : Int), .int .i64 (m : Int), .slice none 0 0] 28 (0, 0)))
  generalize V1.alloc (.cells #[.int .i64 (n : Int), .int .i64 (m : Int), .slice none 0 0] 28 (0, 0)) = W3 at *
  generalize V1.heap.size = bO at *
  have hw3 := HK3.out.1.size
  have hl0 := HK3.out.lt 0 rfl
  have hl1 := HK3.out.lt 1 rfl
  have hl2 := HK3.out.lt 2 rfl
  go_loopw [14] (fun ii wr => ∃ (k : Nat) (Av : Option Addr) (cv : Nat), ii = .int .i64 ((row + k : Nat) : Int) ∧ k ≤ n ∧ OwW wr W3.heap.size (.slice Av (k * m) cv) (prtA zs c row col m k) ∧ W3.heap.size ≤ wr.heap.size ∧ Kg none w wr [some (w.heap.size, mrow (r : Int) (c : Int) (some ⟨gA, 0, none⟩) NA capA), some (w.heap.size + 1, mrow 0 0 none 0 0), some (bO, .cells #[.int .i64 (n : Int), .int .i64 (m : Int), .slice Av (k * m) cv] 28 (0, 0))]) (fun ii _ => row + n - (intOf ii).toNat)
  case atStart => exact ⟨0, none, 0, rfl, Nat.zero_le _, by rw [Nat.zero_mul]; exact OwW.nil _ _, Nat.le_refl _, by rw [Nat.zero_mul]; exact HK3.out⟩
  case round =>
    obtain ⟨k, Av, cv, rfl, hk, hO, hsz, hK⟩ := hrel
    obtain ⟨l0, hl0e⟩ : ∃ l0, l0 = k * m := ⟨_, rfl⟩
    rw [← hl0e] at hO hK
    have HL0 := Lib.hid hl0e
    clear hl0e
    have HO := Lib.hid hO
    have HK4 := Lib.hid hK
    clear hO hK HK2 HK3
    by_cases hlt : k < n
    · obtain ⟨ri, hri⟩ : ∃ ri, ri = row + k := ⟨_, rfl⟩
      rw [← hri]
      obtain ⟨o1, ho1⟩ : ∃ o1, o1 = ri * c := ⟨_, rfl⟩
      obtain ⟨lo, hlo⟩ : ∃ lo, lo = o1 + col := ⟨_, rfl⟩
      obtain ⟨hi', hhi⟩ : ∃ hi', hi' = lo + m := ⟨_, rfl⟩
      have hin : lo + m ≤ zs.length := by
        rw [HLEN.out, hlo, ho1]
        have := Nat.mul_le_mul_right c (show ri + 1 ≤ r by omega)
        rw [Nat.add_mul] at this
        omega
      have hzc : zs.length ≤ capA := by have := HLEN.out; have := HNA.out; omega
      have hsl := slice_lhW (some ⟨gA, 0, none⟩) NA capA lo hi' (by omega) (by omega)
      rw [adr_eq, show hi' - lo = m by omega] at hsl
      have e1 : (ri : Int) * (c : Int) = (o1 : Int) := by rw [ho1, Int.natCast_mul]
      have ob : o1 ≤ 40000 := by rw [ho1]; exact Nat.le_trans (Nat.mul_le_mul (show ri ≤ 200 by omega) hc2) (by omega)
      have v0 : IntKind.i64.wrap (o1 : Int) = (o1 : Int) := IntWalk.i64_in _ (by omega)
      have v1 : IntKind.i64.wrap ((o1 : Int) + (col : Int)) = (lo : Int) := by rw [show (o1 : Int) + (col : Int) = (lo : Int) from by omega]; exact IntWalk.i64_in _ (by omega)
      have v2 : IntKind.i64.wrap ((lo : Int) + (m : Int)) = (hi' : Int) := by rw [show (lo : Int) + (m : Int) = (hi' : Int) from by omega]; exact IntWalk.i64_in _ (by omega)
      have hnx := prtA_next zs c row col m k
      rw [← hri, ← ho1, ← hlo] at hnx
      have hpl := prtA_length zs c row col m k
      have hkm : k * m ≤ 40000 := Nat.le_trans (Nat.mul_le_mul (show k ≤ 200 by omega) (show m ≤ 200 by omega)) (by omega)
      have dl : decide ((ri : Int) < (rend : Int)) = true := by rw [decide_eq_true_iff]; have := HRE.out; omega
      have hrl : ri < rend := by have := HRE.out; omega
      obtain ⟨q1, hq1⟩ : ∃ q1, q1 = prtA zs c row col m (k + 1) := ⟨_, rfl⟩
      obtain ⟨l1, hl1e⟩ : ∃ l1, l1 = (k + 1) * m := ⟨_, rfl⟩
      have hl1l : q1.length = l1 := by rw [hq1, hl1e, prtA_length]
      rw [← hq1] at hnx
      have HQ1 := Lib.hid hq1
      have HL1 := Lib.hid hl1e
      have HL1L := Lib.hid hl1l
      clear hq1 hl1e hl1l
      generalize prtA zs c row col m k = q0 at *
      have HSL := Lib.hid hsl
      have HNX := Lib.hid hnx
      have HPL := Lib.hid hpl
      have HIN := Lib.hid hin
      have HZC := Lib.hid hzc
      have HRI2 := Lib.hid hri
      clear hsl hnx hpl hin hzc ho1 hlo hhi hri
      have hsl := HSL.out
      go_wp2_with fail
      clear hsl
      refine wp_region_acts (X := Option Addr × Nat) (fun x => [(0, 75, .pointer (some ⟨bO, 2, none⟩)), (1, 76, .slice Av l0 cv), (2, 77, .pointer (some ⟨w.heap.size, 2, none⟩)), (3, 78, .slice (some ⟨gA, 0, none⟩) NA capA), (4, 79, .int .i64 (ri : Int)), (5, 80, .pointer (some ⟨w.heap.size, 1, none⟩)), (6, 81, .int .i64 (c : Int)), (7, 82, .int .i64 (o1 : Int)), (8, 83, .int .i64 (col : Int)), (9, 84, .int .i64 (lo : Int)), (10, 85, .int .i64 (ri : Int)), (11, 86, .pointer (some ⟨w.heap.size, 1, none⟩)), (12, 87, .int .i64 (c : Int)), (13, 88, .int .i64 (o1 : Int)), (14, 89, .int .i64 (col : Int)), (15, 90, .int .i64 (lo : Int)), (16, 91, .int .i64 (m : Int)), (17, 92, .int .i64 (hi' : Int)), (18, 93, .slice (some (adr gA capA lo)) m (capA - lo)), (19, 94, .slice x.1 l1 x.2), (20, 95, .pointer (some ⟨bO, 2, none⟩))])
        (fun x L W => Kg none w W [some (w.heap.size, mrow (r : Int) (c : Int) (some ⟨gA, 0, none⟩) NA capA), some (w.heap.size + 1, mrow 0 0 none 0 0), some (bO, .cells #[.int .i64 (n : Int), .int .i64 (m : Int), (if L 21 = true then .slice x.1 l1 x.2 else .slice Av l0 cv)] 28 (0, 0))] ∧ OwW W W3.heap.size (if L 19 = true then .slice x.1 l1 x.2 else .slice Av l0 cv) (if L 19 = true then q1 else q0) ∧ W3.heap.size ≤ W.heap.size) (by kernel_rfl) (by kernel_rfl) (none, 0) ?st (by kernel_rfl) ?_ ?_
      case st => exact ⟨by simpa using HK4.out.drew, by simpa using HO.out.drew, hsz⟩
      · simp only [selA, selT_cons, selT_nil, List.set_cons_zero, List.set_cons_succ, List.getD_cons_zero, List.getD_cons_succ]
        repeat' (first | exact ActSteps.nil | refine ActSteps.cons ?_ ?_)
        all_goals
          intro L x wx hJ hl hd hs K hK
          (try simp [Region.binds] at hd)
          have hsl := HSL.out wx
          have e0 := hJ.1.cell 0 1 rfl rfl
          have e1' := hJ.1.cell 0 2 rfl rfl
          try simp only [hd, hl, selV_true, selV_false]
        · go_simp
          refine hK.out x _ _ ?_ ?_
          · simp [hl, hd, hrl, selV_true, selV_false]
          · exact ⟨by simpa [hl] using hJ.1, by simpa [hl] using hJ.2.1, hJ.2.2⟩
        · have hn := hs 19 _ rfl (by simp [Region.binds])
          have hn2 : L 21 = false := by
            cases h21 : L 21 with
            | false => rfl
            | true => exact absurd h21 (by have := hs 21 _ rfl (by simp [Region.binds]); simp [this])
          have hB := hJ.1
          simp only [hn2, Bool.false_eq_true, if_false] at hB
          have g2 := hB.cell 2 2 rfl rfl
          clear hB
          go_simp
          refine hK.out x _ _ ?_ ?_
          · simp [hl, hd, hn, hrl, selV_true, selV_false]
          · exact hJ
        · go_simp
          refine hK.out x _ _ ?_ ?_
          · simp [hl, hd, hrl, selV_true, selV_false]
          · exact ⟨by simpa [hl] using hJ.1, by simpa [hl] using hJ.2.1, hJ.2.2⟩
        · go_simp
          refine hK.out x _ _ ?_ ?_
          · simp [hl, hd, hrl, selV_true, selV_false]
          · exact ⟨by simpa [hl] using hJ.1, by simpa [hl] using hJ.2.1, hJ.2.2⟩
        · go_simp
          refine hK.out x _ _ ?_ ?_
          · simp [hl, hd, hrl, selV_true, selV_false]
          · exact ⟨by simpa [hl] using hJ.1, by simpa [hl] using hJ.2.1, hJ.2.2⟩
        · go_simp
          refine hK.out x _ _ ?_ ?_
          · simp [hl, hd, hrl, selV_true, selV_false]
          · exact ⟨by simpa [hl] using hJ.1, by simpa [hl] using hJ.2.1, hJ.2.2⟩
        · go_simp
          refine hK.out x _ _ ?_ ?_
          · simp [hl, hd, hrl, selV_true, selV_false]
          · exact ⟨by simpa [hl] using hJ.1, by simpa [hl] using hJ.2.1, hJ.2.2⟩
        · go_simp
          refine hK.out x _ _ ?_ ?_
          · simp [hl, hd, hrl, selV_true, selV_false]
          · exact ⟨by simpa [hl] using hJ.1, by simpa [hl] using hJ.2.1, hJ.2.2⟩
        · go_simp
          refine hK.out x _ _ ?_ ?_
          · simp [hl, hd, hrl, selV_true, selV_false]
          · exact ⟨by simpa [hl] using hJ.1, by simpa [hl] using hJ.2.1, hJ.2.2⟩
        · go_simp
          refine hK.out x _ _ ?_ ?_
          · simp [hl, hd, hrl, selV_true, selV_false]
          · exact ⟨by simpa [hl] using hJ.1, by simpa [hl] using hJ.2.1, hJ.2.2⟩
        · go_simp
          refine hK.out x _ _ ?_ ?_
          · simp [hl, hd, hrl, selV_true, selV_false]
          · exact ⟨by simpa [hl] using hJ.1, by simpa [hl] using hJ.2.1, hJ.2.2⟩
        · go_simp
          refine hK.out x _ _ ?_ ?_
          · simp [hl, hd, hrl, selV_true, selV_false]
          · exact ⟨by simpa [hl] using hJ.1, by simpa [hl] using hJ.2.1, hJ.2.2⟩
        · go_simp
          refine hK.out x _ _ ?_ ?_
          · simp [hl, hd, hrl, selV_true, selV_false]
          · exact ⟨by simpa [hl] using hJ.1, by simpa [hl] using hJ.2.1, hJ.2.2⟩
        · go_simp
          refine hK.out x _ _ ?_ ?_
          · simp [hl, hd, hrl, selV_true, selV_false]
          · exact ⟨by simpa [hl] using hJ.1, by simpa [hl] using hJ.2.1, hJ.2.2⟩
        · go_simp
          refine hK.out x _ _ ?_ ?_
          · simp [hl, hd, hrl, selV_true, selV_false]
          · exact ⟨by simpa [hl] using hJ.1, by simpa [hl] using hJ.2.1, hJ.2.2⟩
        · go_simp
          refine hK.out x _ _ ?_ ?_
          · simp [hl, hd, hrl, selV_true, selV_false]
          · exact ⟨by simpa [hl] using hJ.1, by simpa [hl] using hJ.2.1, hJ.2.2⟩
        · go_simp
          refine hK.out x _ _ ?_ ?_
          · simp [hl, hd, hrl, selV_true, selV_false]
          · exact ⟨by simpa [hl] using hJ.1, by simpa [hl] using hJ.2.1, hJ.2.2⟩
        · go_simp
          refine hK.out x _ _ ?_ ?_
          · simp [hl, hd, hrl, selV_true, selV_false]
          · exact ⟨by simpa [hl] using hJ.1, by simpa [hl] using hJ.2.1, hJ.2.2⟩
        · go_simp
          refine hK.out x _ _ ?_ ?_
          · simp [hl, hd, hrl, selV_true, selV_false]
          · exact ⟨by simpa [hl] using hJ.1, by simpa [hl] using hJ.2.1, hJ.2.2⟩
        · have hn := hs 21 _ rfl (by simp [Region.binds])
          have hO := hJ.2.1
          have hB := hJ.1
          simp only [hl, Bool.false_eq_true, if_false] at hO
          simp only [hn, Bool.false_eq_true, if_false] at hB
          have hLx : Lw wx gA (enc zs) := HAS.out _ _ hJ.1
          refine wp_append_own wx (.tmp 76) (.tmp 93) 26 rfl W3.heap.size 32 i0 (.agg #[.bool false, .string ⟨#[]⟩]) 2 24 Tryz.underlying26 HI.out HZ.out hz1 hz2 rfl (by decide) (.slice Av l0 cv) q0.length (flat (enc q0)) rfl hO (adr gA capA lo) m (capA - lo) (flat (enc ((List.range m).map fun j => zs.getD (lo + j) 0))) rfl (by rw [flat_length, enc_length]; simp) (fun j u hj => adr_cells hLx capA lo m HIN.out HZC.out j u hj) (fun u hu => flat_one _ u hu) (by rw [HPL.out]; unfold maxLen; omega) (by rw [HPL.out]; omega) hJ.2.2 (fun v' w' hown hgr _ => ?_)
          have hOn : OwW w' W3.heap.size v' q1 := by
            unfold OwW
            rw [HNX.out, List.length_append, List.length_map, List.length_range, enc_append, flat_append]
            exact hown
          obtain ⟨A', c2', hv', _, _, _⟩ := hOn.rd
          rw [HL1L.out] at hv'
          subst hv'
          refine hK.out (A', c2') _ _ ?_ ?_
          · simp [hl, hd, hn, hrl, selV_true, selV_false, Act.put]
          · have hB2 := hB.other hgr (fun p e => ⟨by have := OwW.own hO p e; omega, fun j c' o hj => by
              have h1 := OwW.own hO p e
              match j, hj with
              | 0, hj => simp at hj; omega
              | 1, hj => simp at hj; omega
              | 2, hj => simp at hj; omega⟩)
            exact ⟨by simpa [hn] using hB2, by simpa using hOn, Nat.le_trans hJ.2.2 hgr.size⟩
        · go_simp
          refine hK.out x _ _ ?_ ?_
          · simp [hl, hd, hrl, selV_true, selV_false]
          · exact ⟨by simpa [hl] using hJ.1, by simpa [hl] using hJ.2.1, hJ.2.2⟩
        · have hB := hJ.1
          have hO := hJ.2.1
          simp only [hl, Bool.false_eq_true, if_false] at hB
          simp only [hd, if_true] at hO
          have f2 := hB.frozen 2 2 rfl
          have g2 := hB.cell 2 2 rfl rfl
          have HB := Lib.hid hB
          have HOx := Lib.hid hO
          clear hB hO
          go_simp
          refine hK.out x _ _ ?_ ?_
          · simp [hl, hd, hrl, selV_true, selV_false]
          · exact ⟨(HB.out.put 2 2 rfl (.slice x.1 l1 x.2)).cast (by simp), by simpa [hd] using HOx.out.put (by simp only []; omega) (.slice x.1 l1 x.2), by simpa [World.setCell] using hJ.2.2⟩
      · rintro ⟨xA, xc⟩ Wx hKx
        simp only [selA, selT_cons, selT_nil, List.set_cons_zero, List.set_cons_succ, List.getD_cons_zero, List.getD_cons_succ, selV_true]
        simp only [if_true] at hKx
        obtain ⟨hKx, hOx, hszx⟩ := hKx
        have HKX := Lib.hid hKx
        have HOX := Lib.hid hOx
        have w5 : IntKind.i64.wrap ((ri : Int) + 1) = ((row + (k + 1) : Nat) : Int) := by rw [show (ri : Int) + 1 = ((row + (k + 1) : Nat) : Int) from by have := HRI2.out; omega]; exact IntWalk.i64_in _ (by omega)
        clear hKx hOx
        go_wp2
        go_roundw
        case rel => exact ⟨k + 1, xA, xc, by simp, by omega, by rw [← HQ1.out, ← HL1.out]; exact HOX.out, hszx, by rw [← HL1.out]; exact HKX.out⟩
        case measure => have := HRI2.out; simp [intOf]; omega
    · obtain rfl : k = n := by omega
      have hfin := prtA_full zs c row col k m
      have hpl := prtA_length zs c row col m k
      have HFIN := Lib.hid hfin
      have HPL := Lib.hid hpl
      clear hfin hpl
      have hre : rend = row + k := HRE.out
      have d0 := HK4.out.cell 1 0 rfl rfl
      have d1' := HK4.out.cell 1 1 rfl rfl
      have d2' := HK4.out.cell 1 2 rfl rfl
      have f0 := HK4.out.frozen 1 0 rfl
      have f1 := HK4.out.frozen 1 1 rfl
      have f2 := HK4.out.frozen 1 2 rfl
      have g0 := HK4.out.cell 2 0 rfl rfl
      have g1 := HK4.out.cell 2 1 rfl rfl
      have g2 := HK4.out.cell 2 2 rfl rfl
      obtain ⟨ri, hri⟩ : ∃ ri, ri = row + k := ⟨_, rfl⟩
      rw [← hri]
      have dl : decide ((ri : Int) < (rend : Int)) = false := by rw [decide_eq_false_iff_not]; omega
      have hrl : ¬ ri < rend := by omega
      clear hri hre
      go_wp2_with fail
      have hP := ((HK4.out.put 1 0 rfl (.int .i64 (k : Int))).put 1 1 rfl (.int .i64 (m : Int))).put 1 2 rfl (.slice Av l0 cv)
      have hOf := ((HO.out.put (p := ⟨w.heap.size + 1, 0, none⟩) (by simpa using hl1) (.int .i64 (k : Int))).put (p := ⟨w.heap.size + 1, 1, none⟩) (by simpa using hl1) (.int .i64 (m : Int))).put (p := ⟨w.heap.size + 1, 2, none⟩) (by simpa using hl1) (.slice Av l0 cv)
      rw [HFIN.out] at hOf
      obtain ⟨A, cap, hv, h1, h2, hrd⟩ := hOf.rd
      have hvl : (ofL (prt zs c row col k m) k m).length = NN := by rw [← HFIN.out, HPL.out, HNN.out]
      rw [hvl] at hv
      injection hv with hv1 hv2 hv3
      subst hv1
      subst hv2
      subst hv3
      exact bodyPost_ret (results_mat_tmp (b := w.heap.size + 1) rfl rfl (hP.at_ 1 rfl)) rfl ⟨_, _, rfl, hrd, Kg.below_ hP⟩
end Go.Proofs.YtknaghdoffigjaaGreatDoor
