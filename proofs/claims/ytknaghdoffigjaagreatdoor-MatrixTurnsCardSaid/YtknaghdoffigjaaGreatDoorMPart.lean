/-
  The contract of matrix.Part.
-/
import Derived.Test.YtknaghdoffigjaaGreatDoorZMCopy
set_option linter.unusedSimpArgs false
set_option linter.unusedVariables false
set_option linter.unnecessarySimpa false
namespace Go.Proofs.YtknaghdoffigjaaGreatDoor
open Go.RowKit Go
attribute [local go_sem] Oper.semAt_some

/-- The rows of a part. -/
def prt (zs : List Int) (c row col rows cols : Nat) : List (List Int) := (List.range rows).map fun i => (List.range cols).map fun j => zs.getD ((row + i) * c + col + j) 0
theorem prt_get (zs : List Int) (c row col rows cols i : Nat) (h : i < rows) : (prt zs c row col rows cols).getD i [] = (List.range cols).map fun j => zs.getD ((row + i) * c + col + j) 0 := by
  unfold prt
  rw [List.getD_eq_getElem?_getD, List.getElem?_map, List.getElem?_range h]
  rfl
theorem Lw.rdAt {w : World} {g : Nat} {zs : List Int} (h : Lw w g (enc zs)) (o m : Nat) (hm : o + m ≤ zs.length) : RdW w (some ⟨g, o * 2, none⟩) ((List.range m).map fun j => (wneg (zs.getD (o + j) 0), wmag (zs.getD (o + j) 0))) := fun k hk => by
  have hk : k < m := by simpa using hk
  have h0 := h.cell0 (o + k) (by rw [enc_length]; omega)
  have h1 := h.cell1 (o + k) (by rw [enc_length]; omega)
  rw [enc_get] at h0 h1
  have e : (⟨g, o * 2, none⟩ : Addr).add (k * 2) = ⟨g, (o + k) * 2, none⟩ := by
    unfold Addr.add
    split
    · rw [show (o + k) * 2 = o * 2 by omega]
    · rw [show o * 2 + k * 2 = (o + k) * 2 by omega]
  refine ⟨_, rfl, heap_lt h, ?_, ?_⟩
  · rw [e, h0]; simp
  · rw [e]; simp only []; rw [h1]; simp
theorem slice_loW (A : Option Addr) (n c lo : Nat) (h1 : lo ≤ n) (h2 : n ≤ c) (w : World) :
    (Instr.slice 26 (.slice A n c) (some (.int .i64 (lo : Int))) none none).run Tryz.prog w = .ok (.slice (if c = lo then A else A.map (·.add (lo * 2))) (n - lo) (c - lo)) w := by
  have h := run_slice_l (P := Tryz.prog) (w := w) 26 A n c (by kernel_rfl) .i64 (lo : Int) (by omega) (by omega)
  rw [h]
  have e : Tryz.prog.elem 26 = 32 := by kernel_rfl
  rw [e, Tryz.sizeOf32]
  simp [Result.andThen, sliced]
theorem results_mat_tmp {fn : Func} {tmps : Array Value} {w : World} {p u : Tmp} {b : Nat} {r c : Int} {A : Option Addr} {n cap : Nat} (h : fn.results = #[.cell p 28, .tmp u])
    (ht : tmps.getD p undef = .pointer (some ⟨b, 0, none⟩)) (hw : Mb w b r c A n cap) : (results fn tmps).run Tryz.prog w = .ok (.tuple #[mat r c A n cap, tmps.getD u undef]) w := by
  have := hw.load
  rw [Array.getD_eq_getD_getElem?] at ht
  simp only [results, h]
  simp [Sem.run_bind, Result.andThen, ht, asAddr, this]
set_option maxRecDepth 100000 in
set_option maxHeartbeats 4000000 in
theorem Part_ok (gA r c NA capA row col n m NN : Nat) (zs : List Int) (w : World) (hA : Lw w gA (enc zs)) (hlen : zs.length = r * c) (hNA : NA = r * c) (hcapA : NA ≤ capA) (hcapm : capA ≤ maxLen) (hr : mright r c (enc zs) = true) (hr2 : r ≤ 200) (hc2 : c ≤ 200) (hrow : row + n ≤ r) (hcol : col + m ≤ c) (hNN : n * m = NN) :
    Calls Tryz.prog 30 #[mat r c (some ⟨gA, 0, none⟩) NA capA, .int .i64 (row : Int), .int .i64 (col : Int), .int .i64 (n : Int), .int .i64 (m : Int)] w fun e w' => ∃ g, e = .returned (.tuple #[mat n m (some ⟨g, 0, none⟩) NN NN, .bool true]) ∧ w.heap.size ≤ g ∧ Lw w' g (enc (ofL (prt zs c row col n m) n m)) ∧ Below w.heap.size w w' := by
  have hNN2 : NN ≤ 40000 := by rw [← hNN]; exact Nat.le_trans (Nat.mul_le_mul (show n ≤ 200 by omega) (show m ≤ 200 by omega)) (by omega)
  have hri := fun W hW => Right_any (r : Int) (c : Int) (some ⟨gA, 0, none⟩) NA capA (enc zs) W hW (by rw [enc_length, hlen, hNA]) (by omega)
  rw [hr] at hri
  have hg1 := fun W => isRange_any (row : Int) (n : Int) (r : Int) W (by omega) (by omega) (by omega)
  have hg2 := fun W => isRange_any (col : Int) (m : Int) (c : Int) W (by omega) (by omega) (by omega)
  rw [show (decide (0 ≤ (row : Int)) && decide (0 ≤ (n : Int)) && decide ((n : Int) ≤ (r : Int) - (row : Int))) = true from by simp; omega] at hg1
  rw [show (decide (0 ≤ (col : Int)) && decide (0 ≤ (m : Int)) && decide ((m : Int) ≤ (c : Int) - (col : Int))) = true from by simp; omega] at hg2
  have hto := fun W => tableOf_any (r : Int) (c : Int) (some ⟨gA, 0, none⟩) NA capA W
  have hnt := fun W => newTable_any n m NN W (by omega) (by omega) hNN hNN2
  have hmo := fun g W => matrixOf_any (n : Int) (m : Int) (some ⟨g, 0, none⟩) NN NN W
  have hrw := fun (i : Nat) (hi : i < n) W => row_any r c (row + i) (some ⟨gA, 0, none⟩) NA capA W (by omega) (by omega) (by omega) (by omega) hcapm
  unfold mat at *
  have HRI := Lib.hid hri
  have HG1 := Lib.hid hg1
  have HG2 := Lib.hid hg2
  have HTO := Lib.hid hto
  have HNT := Lib.hid hnt
  have HMO := Lib.hid hmo
  have HRW := Lib.hid hrw
  have HA := Lib.hid hA
  have HLEN := Lib.hid hlen
  have HNA := Lib.hid hNA
  have HNN := Lib.hid hNN
  have hgA := heap_lt hA
  clear hri hg1 hg2 hto hnt hmo hrw hA hlen hNA hNN hr
  have hK1 := (((Kg.none_ none w 4).new 0 (mrow (r : Int) (c : Int) (some ⟨gA, 0, none⟩) NA capA) rfl).new 1 (.cells #[.int .i64 (row : Int)] 3 (0, 0)) rfl).new 2 (.cells #[.int .i64 (col : Int)] 3 (0, 0)) rfl
  have HK2 := Lib.hid ((hK1.new 3 (mrow 0 0 none 0 0) rfl).cast (l' := [some (w.heap.size, mrow (r : Int) (c : Int) (some ⟨gA, 0, none⟩) NA capA), some (w.heap.size + 1, .cells #[.int .i64 (row : Int)] 3 (0, 0)), some (w.heap.size + 1 + 1, .cells #[.int .i64 (col : Int)] 3 (0, 0)), some (w.heap.size + 1 + 1 + 1, mrow 0 0 none 0 0)]) (by simp))
  have hAs : ∀ W l, Kg none w W l → Lw W gA (enc zs) := fun W l h => (h.1.block gA hgA (by simp)).trans HA.out
  have HAS := Lib.hid hAs
  have c0 := HK2.out.cell 0 0 rfl rfl
  have c1 := HK2.out.cell 0 1 rfl rfl
  have c2 := HK2.out.cell 0 2 rfl rfl
  have c3 := HK2.out.cell 1 0 rfl rfl
  have c4 := HK2.out.cell 2 0 rfl rfl
  clear hK1 hAs
  refine (callsIn_wide (n := 0)).1 ?_
  refine callsIn_of_wp_marks Tryz.func30 rfl trivial ?_ rfl
  simp only [Tryz.ntmps30, List.size_toArray, List.length_cons, List.length_nil, Nat.reduceAdd, Nat.reduceSub, Array.replicate_succ, Array.replicate_zero, List.push_toArray, List.append_toArray, List.nil_append, List.cons_append]
  gi_wp2_with fail
  change _ ∧ _ ∧ CallsIn _ _ _ _ _ ((((w.alloc (mrow (r : Int) (c : Int) (some ⟨gA, 0, none⟩) NA capA)).alloc (.cells #[.int .i64 (row : Int)] 3 (0, 0))).alloc (.cells #[.int .i64 (col : Int)] 3 (0, 0))).alloc (mrow 0 0 none 0 0)) _
  generalize (((w.alloc (mrow (r : Int) (c : Int) (some ⟨gA, 0, none⟩) NA capA)).alloc (.cells #[.int .i64 (row : Int)] 3 (0, 0))).alloc (.cells #[.int .i64 (col : Int)] 3 (0, 0))).alloc (mrow 0 0 none 0 0) = W2 at *
  refine ⟨trivial, rfl, ?_⟩
  with_reducible refine (callsIn_wide.2 (HRI.out _ (HAS.out _ _ HK2.out).rdw)).mono ?_
  rintro e w1 ⟨rfl, hb1⟩
  have HK3 := Lib.hid (HK2.out.step hb1)
  clear c0 c1 c2 c3 c4 hb1 HK2
  have c0 := HK3.out.cell 0 0 rfl rfl
  have c1 := HK3.out.cell 0 1 rfl rfl
  have c2 := HK3.out.cell 0 2 rfl rfl
  have c3 := HK3.out.cell 1 0 rfl rfl
  have c4 := HK3.out.cell 2 0 rfl rfl
  gi_wp2_with fail
  refine ⟨trivial, rfl, ?_⟩
  with_reducible refine (callsIn_wide.2 (HG1.out _)).mono ?_
  rintro e w2 ⟨rfl, rfl⟩
  gi_wp2_with fail
  refine ⟨trivial, rfl, ?_⟩
  with_reducible refine (callsIn_wide.2 (HG2.out _)).mono ?_
  rintro e w2 ⟨rfl, rfl⟩
  gi_wp2_with fail
  refine ⟨trivial, rfl, ?_⟩
  with_reducible refine (callsIn_wide.2 (HTO.out _)).mono ?_
  rintro e w3 ⟨rfl, hb3⟩
  have HK4 := Lib.hid ((HK3.out.step hb3).more (.cells #[.int .i64 (r : Int), .int .i64 (c : Int), .slice (some ⟨gA, 0, none⟩) NA capA] 68 (0, 0)))
  clear c0 c1 c2 c3 c4 hb3 HK3
  gi_wp2_with fail
  change _ ∧ _ ∧ CallsIn _ _ _ _ _ (w3.alloc (.cells #[.int .i64 (r : Int), .int .i64 (c : Int), .slice (some ⟨gA, 0, none⟩) NA capA] 68 (0, 0))) _
  generalize w3.alloc (.cells #[.int .i64 (r : Int), .int .i64 (c : Int), .slice (some ⟨gA, 0, none⟩) NA capA] 68 (0, 0)) = W5 at *
  generalize w3.heap.size = b12 at *
  refine ⟨trivial, rfl, ?_⟩
  with_reducible refine (callsIn_wide.2 (HNT.out _)).mono ?_
  rintro e w6 ⟨g, rfl, hg, hLg, hb6⟩
  have hK6 := ((HK4.out.room.came 5 rfl hb6 hg (o := lwO (ofS (prt zs c row col n m) n m 0)) (by rw [ofS_zero, HNN.out]; exact hLg)).more (.cells #[.int .i64 (n : Int), .int .i64 (m : Int), .slice (some ⟨g, 0, none⟩) NN NN] 68 (0, 0)))
  have HK6 := Lib.hid hK6
  have hW5 := HK4.out.1.size
  clear hK6 hLg hb6
  gi_wp2_with fail
  change Code.wpIn _ _ _ _ _ _ (w6.alloc (.cells #[.int .i64 (n : Int), .int .i64 (m : Int), .slice (some ⟨g, 0, none⟩) NN NN] 68 (0, 0)))
  generalize w6.alloc (.cells #[.int .i64 (n : Int), .int .i64 (m : Int), .slice (some ⟨g, 0, none⟩) NN NN] 68 (0, 0)) = W7 at *
  generalize w6.heap.size = b13 at *
  have hK7 : Kg none w W7 [some (w.heap.size, mrow (r : Int) (c : Int) (some ⟨gA, 0, none⟩) NA capA), some (w.heap.size + 1, .cells #[.int .i64 (row : Int)] 3 (0, 0)), some (w.heap.size + 1 + 1, .cells #[.int .i64 (col : Int)] 3 (0, 0)), some (w.heap.size + 1 + 1 + 1, mrow 0 0 none 0 0), some (b12, .cells #[.int .i64 (r : Int), .int .i64 (c : Int), .slice (some ⟨gA, 0, none⟩) NA capA] 68 (0, 0)), some (g, lwO (ofS (prt zs c row col n m) n m 0)), some (b13, .cells #[.int .i64 (n : Int), .int .i64 (m : Int), .slice (some ⟨g, 0, none⟩) NN NN] 68 (0, 0))] := HK6.out
  have HK7 := Lib.hid hK7
  clear HK6 hK7 HK4
  refine range_boxed (a := ?A) (ps := #[43, 44]) (gf := 59) (first := #[.agg #[.int .i64 (n : Int), .int .i64 (m : Int), .slice (some ⟨g, 0, none⟩) NN NN]]) ?hg1 (enters_of Tryz.func59 (by kernel_rfl) rfl)
    (each_visits n m (some ⟨g, 0, none⟩) NN NN (by omega) (by omega) (Nat.le_of_eq HNN.out) (by unfold maxLen; omega)) ?hps1
    (fun i V => Kg none w V [some (w.heap.size, mrow (r : Int) (c : Int) (some ⟨gA, 0, none⟩) NA capA), some (w.heap.size + 1, .cells #[.int .i64 (row : Int)] 3 (0, 0)), some (w.heap.size + 1 + 1, .cells #[.int .i64 (col : Int)] 3 (0, 0)), some (w.heap.size + 1 + 1 + 1, mrow 0 0 none 0 0), some (b12, .cells #[.int .i64 (r : Int), .int .i64 (c : Int), .slice (some ⟨gA, 0, none⟩) NA capA] 68 (0, 0)), some (g, lwO (ofS (prt zs c row col n m) n m i)), some (b13, .cells #[.int .i64 (n : Int), .int .i64 (m : Int), .slice (some ⟨g, 0, none⟩) NN NN] 68 (0, 0))])
    (fun _ _ => False) ?own ?ownx HK7.out
    (fun i a' V => a' = { tmps := ((((?A).tmps.setIfInBounds 43 (.int .i64 (i : Int))).setIfInBounds 44 (.slice (if m = 0 then some ⟨g, 0, none⟩ else some ⟨g, i * m * 2, none⟩) m m)).setIfInBounds 14 (.int .i64 (i : Int))).setIfInBounds 15 (.slice (if m = 0 then some ⟨g, 0, none⟩ else some ⟨g, i * m * 2, none⟩) m m), defers := [] })
    (fun _ _ _ _ h _ => h) ?assign ?body ?done (fun _ _ _ _ h => h.elim)
  case hg1 => rfl
  case hps1 => exact fun k => rfl
  case own => exact fun i V V' h hl => h.later' hl HK7.out.1.size rfl
  case ownx => exact fun _ _ _ h _ => h.elim
  case assign =>
    intro l i V K' hi hz hI hK'
    unfold rowArgs
    simp only [Option.map_some, add_from0]
    generalize (if m = 0 then some (⟨g, 0, none⟩ : Addr) else some ⟨g, i * m * 2, none⟩) = A' at *
    clear hI
    gi_wp2
    exact hK' _ _ rfl (Below.refl _ _)
  case body =>
    rintro l i a' V hi hz hl0 hl1 hKV rfl
    simp only [List.setIfInBounds_toArray, List.set_cons_succ, List.set_cons_zero]
    have hAi : (if m = 0 then some (⟨g, 0, none⟩ : Addr) else some ⟨g, i * m * 2, none⟩) = some ⟨g, i * m * 2, none⟩ := by
      by_cases h : m = 0
      · rw [if_pos h, h]; simp
      · rw [if_neg h]
    rw [hAi]
    have hlp : ((prt zs c row col n m).getD i []).length = m := by rw [prt_get _ _ _ _ _ _ _ hi]; simp
    have hnx := ofS_next (prt zs c row col n m) n m i hi (by omega)
    rw [hlp] at hnx
    have hys : (List.range m).map (fun j => (wneg (((prt zs c row col n m).getD i []).getD j 0), wmag (((prt zs c row col n m).getD i []).getD j 0))) = (List.range m).map fun j => (wneg (zs.getD ((row + i) * c + col + j) 0), wmag (zs.getD ((row + i) * c + col + j) 0)) := by
      apply List.map_congr_left
      intro j hj
      have hj : j < m := by simpa using hj
      rw [prt_get _ _ _ _ _ _ _ hi, List.getD_eq_getElem?_getD, List.getElem?_map, List.getElem?_range hj]
      rfl
    rw [hys] at hnx
    have hin : (row + i) * c + col + m ≤ zs.length := by
      rw [HLEN.out]
      have := Nat.mul_le_mul_right c (show row + i + 1 ≤ r by omega)
      rw [Nat.add_mul (row + i)] at this
      omega
    have hfit : i * m + m ≤ (ofS (prt zs c row col n m) n m i).length := by
      rw [ofS_length]
      have := Nat.mul_le_mul_right m (show i + 1 ≤ n by omega)
      rw [Nat.add_mul] at this
      omega
    have hrow := fun W => HRW.out i hi W
    have hAr : (if c = 0 then some (⟨gA, 0, none⟩ : Addr) else (some (⟨gA, 0, none⟩ : Addr)).map (·.add ((row + i) * c * 2))) = some ⟨gA, (row + i) * c * 2, none⟩ := by
      simp only [Option.map_some, add_from0]
      by_cases h : c = 0
      · rw [if_pos h, h]; simp
      · rw [if_neg h]
    rw [hAr] at hrow
    have hcut := fun W => slice_loW (some ⟨gA, (row + i) * c * 2, none⟩) c c col (by omega) (Nat.le_refl _) W
    obtain ⟨As, hAs⟩ : ∃ As, As = (if c = col then some (⟨gA, (row + i) * c * 2, none⟩ : Addr) else (some (⟨gA, (row + i) * c * 2, none⟩ : Addr)).map (·.add (col * 2))) := ⟨_, rfl⟩
    rw [← hAs] at hcut
    have hrd : ∀ W, Lw W gA (enc zs) → RdW W As ((List.range m).map fun j => (wneg (zs.getD ((row + i) * c + col + j) 0), wmag (zs.getD ((row + i) * c + col + j) 0))) := fun W hW => by
      rcases Nat.eq_zero_or_pos m with h0 | h0
      · subst h0
        intro k hk
        simp at hk
      · have h := hW.rdAt ((row + i) * c + col) m hin
        have e : As = some ⟨gA, ((row + i) * c + col) * 2, none⟩ := by
          rw [hAs, if_neg (by omega)]
          simp only [Option.map_some, Addr.add]
          split
          · rw [show ((row + i) * c + col) * 2 = (row + i) * c * 2 by omega]
          · rw [show (row + i) * c * 2 + col * 2 = ((row + i) * c + col) * 2 by omega]
        rw [e]
        exact h
    have w1 : IntKind.i64.wrap ((row : Int) + (i : Int)) = ((row + i : Nat) : Int) := by rw [show (row : Int) + (i : Int) = ((row + i : Nat) : Int) from by omega]; exact IntWalk.i64_in _ (by omega)
    obtain ⟨ri, hri⟩ : ∃ ri, ri = row + i := ⟨_, rfl⟩
    have hrd2 := hrd
    rw [← hri] at hrow hcut hnx hrd w1
    have HROW := Lib.hid hrow
    have HNX := Lib.hid hnx
    have HFIT := Lib.hid hfit
    have HRD := Lib.hid hrd
    have HKV := Lib.hid hKV
    have Hkk := Lib.hid (Kept.refl W7.heap.size V)
    clear hrow hnx hfit hrd hrd2 hKV hAi hAr hys hlp hin hri hAs
    have hgl := HK7.out.lt 5 rfl
    gi_wp2_with fail
    refine wpIn_region_facts (X := Unit) (fun x => [(0, 45, .slice (some ⟨g, i * m * 2, none⟩) m m), (1, 46, .agg #[.int .i64 (r : Int), .int .i64 (c : Int), .slice (some ⟨gA, 0, none⟩) NA capA]), (2, 47, .int .i64 (row : Int)), (3, 48, .int .i64 (i : Int)), (4, 49, .int .i64 (ri : Int)), (5, 50, .slice (some ⟨gA, ri * c * 2, none⟩) c c), (6, 51, .int .i64 (col : Int)), (7, 52, .slice As (c - col) (c - col)), (8, 53, .int .i64 (m : Int))])
      (fun _ L W => Kg none w W [some (w.heap.size, mrow (r : Int) (c : Int) (some ⟨gA, 0, none⟩) NA capA), some (w.heap.size + 1, .cells #[.int .i64 (row : Int)] 3 (0, 0)), some (w.heap.size + 1 + 1, .cells #[.int .i64 (col : Int)] 3 (0, 0)), some (w.heap.size + 1 + 1 + 1, mrow 0 0 none 0 0), some (b12, .cells #[.int .i64 (r : Int), .int .i64 (c : Int), .slice (some ⟨gA, 0, none⟩) NA capA] 68 (0, 0)), some (g, lwO (if L 8 = true then ofS (prt zs c row col n m) n m (i + 1) else ofS (prt zs c row col n m) n m i)), some (b13, .cells #[.int .i64 (n : Int), .int .i64 (m : Int), .slice (some ⟨g, 0, none⟩) NN NN] 68 (0, 0))] ∧ Kept W7.heap.size V W) (by kernel_rfl) (by kernel_rfl) () ?st (by kernel_rfl) ?_ ?_
    case st => exact ⟨by simpa using HKV.out.drew, Hkk.out.drew⟩
    · repeat' (first | exact FactStepsIn.nil | refine FactStepsIn.cons ?_ ?_)
      all_goals
        intro L x wx hJ hl hd hs K hK
        (try simp [Region.binds] at hd)
        have e0 := hJ.1.cell 4 0 rfl rfl
        have e1 := hJ.1.cell 4 1 rfl rfl
        have e2 := hJ.1.cell 4 2 rfl rfl
        have e3 := hJ.1.cell 1 0 rfl rfl
        have e4 := hJ.1.cell 2 0 rfl rfl
        simp only [selA, selT_cons, selT_nil, List.set_cons_zero, List.set_cons_succ, List.getD_cons_zero, List.getD_cons_succ, hd, hl, selV_true, selV_false]
      · go_simp
        refine hK.out x _ _ ?_ ?_
        · simp [selA, selT_cons, selT_nil, hl, hd, selV_true, selV_false]
        · exact ⟨by simpa [hl] using hJ.1, hJ.2⟩
      · go_simp
        refine hK.out x _ _ ?_ ?_
        · simp [selA, selT_cons, selT_nil, hl, hd, selV_true, selV_false]
        · exact ⟨by simpa [hl] using hJ.1, hJ.2⟩
      · go_simp
        refine hK.out x _ _ ?_ ?_
        · simp [selA, selT_cons, selT_nil, hl, hd, selV_true, selV_false]
        · exact ⟨by simpa [hl] using hJ.1, hJ.2⟩
      · go_simp
        refine hK.out x _ _ ?_ ?_
        · simp [selA, selT_cons, selT_nil, hl, hd, selV_true, selV_false]
        · exact ⟨by simpa [hl] using hJ.1, hJ.2⟩
      · go_simp
        refine hK.out x _ _ ?_ ?_
        · simp [selA, selT_cons, selT_nil, hl, hd, selV_true, selV_false]
        · exact ⟨by simpa [hl] using hJ.1, hJ.2⟩
      · go_simp
        refine ⟨trivial, rfl, ?_⟩
        with_reducible refine (CallsIn.inRound l (callsIn_wide.2 (HROW.out _))).mono ?_
        rintro e v ⟨rfl, hb⟩
        refine hK.out x _ _ ?_ ?_
        · simp [selA, selT_cons, selT_nil, hl, hd, selV_true, selV_false]
        · exact ⟨by simpa [hl] using hJ.1.step hb, hJ.2.below hb⟩
      · go_simp
        refine hK.out x _ _ ?_ ?_
        · simp [selA, selT_cons, selT_nil, hl, hd, selV_true, selV_false]
        · exact ⟨by simpa [hl] using hJ.1, hJ.2⟩
      · go_simp
        refine hK.out x _ _ ?_ ?_
        · simp [selA, selT_cons, selT_nil, hl, hd, selV_true, selV_false]
        · exact ⟨by simpa [hl] using hJ.1, hJ.2⟩
      · have hB := hJ.1
        simp only [hl, Bool.false_eq_true, if_false] at hB
        have hLg : Lw wx g (ofS (prt zs c row col n m) n m i) := hB.at_ 5 rfl
        have hcp := copyW wx g (i * m) m m (ofS (prt zs c row col n m) n m i) hLg As (c - col) (c - col) m _ (HRD.out wx (HAS.out _ _ hB)) (by simp) (show m = Nat.min (c - col) m from (Nat.min_eq_right (by omega)).symm) HFIT.out
        rw [HNX.out] at hcp
        have hGr := grown_setRow wx g (flat (ofS (prt zs c row col n m) n m (i + 1))).toArray
        have HGr := Lib.hid hGr
        have HLg := Lib.hid hLg
        clear hGr hLg hB
        go_simp
        refine hK.out x _ _ ?_ ?_
        · simp [selA, selT_cons, selT_nil, hl, hd, selV_true, selV_false]
        · have hB := hJ.1
          simp only [hl, Bool.false_eq_true, if_false] at hB
          exact ⟨by simpa using hB.change 5 rfl HGr.out (o' := lwO (ofS (prt zs c row col n m) n m (i + 1))) (setRow_heap wx g _ _ _ _ HLg.out), hJ.2.grown HGr.out hgl⟩
    · rintro _ Wx ⟨hKx, hkx⟩
      simp only [selA, selT_cons, selT_nil, List.set_cons_zero, List.set_cons_succ, List.getD_cons_zero, List.getD_cons_succ, selV_true]
      simp only [if_true] at hKx
      gi_wp2_with fail
      exact ⟨hkx, hKx⟩
  case done =>
    rintro D V hD h2 hd
    have c0 := h2.cell 6 0 rfl rfl
    have c1 := h2.cell 6 1 rfl rfl
    have c2 := h2.cell 6 2 rfl rfl
    have HK := Lib.hid h2
    clear h2
    gi_wp2_with fail
    refine ⟨trivial, rfl, ?_⟩
    with_reducible refine (callsIn_wide.2 (HMO.out g _)).mono ?_
    rintro e V1 ⟨rfl, hb1⟩
    clear c0 c1 c2
    have hK1 := HK.out.step hb1
    have d0 := hK1.cell 3 0 rfl rfl
    have d1 := hK1.cell 3 1 rfl rfl
    have d2 := hK1.cell 3 2 rfl rfl
    have f0 := hK1.frozen 3 0 rfl
    have f1 := hK1.frozen 3 1 rfl
    have f2 := hK1.frozen 3 2 rfl
    have hdl := heap_lt hd
    have hd1 := (hb1.block D hdl).trans hd
    have HK1 := Lib.hid hK1
    have HD1 := Lib.hid hd1
    clear hK1 hd1
    gi_wp2_with fail
    have hl1 := HK7.out.lt 3 rfl
    have hK2 := ((HK1.out.put 3 0 rfl (.int .i64 (n : Int))).put 3 1 rfl (.int .i64 (m : Int))).put 3 2 rfl (.slice (some ⟨g, 0, none⟩) NN NN)
    have hd2 : (((V1.setCell ⟨w.heap.size + 1 + 1 + 1, 0, none⟩ (.int .i64 (n : Int))).setCell ⟨w.heap.size + 1 + 1 + 1, 1, none⟩ (.int .i64 (m : Int))).setCell ⟨w.heap.size + 1 + 1 + 1, 2, none⟩ (.slice (some ⟨g, 0, none⟩) NN NN)).heap[D]? = some (.deferred (some [])) :=
      (Below.heap_setCell _ _ _ _ (by simp only []; omega)).trans ((Below.heap_setCell _ _ _ _ (by simp only []; omega)).trans ((Below.heap_setCell _ _ _ _ (by simp only []; omega)).trans HD1.out))
    have hlp := later_put (B := W7.heap.size) (.deferred none) hD hd2 rfl
    have hK5 := hK2.later' hlp HK7.out.1.size rfl
    refine ⟨by simp, .inl ⟨_, _, rfl, run_takeDeferred hd2, ?_⟩⟩
    exact ⟨_, results_mat_tmp (b := w.heap.size + 1 + 1 + 1) rfl rfl (hK5.at_ 3 rfl), g, rfl, HK7.out.ge 5 rfl, by rw [← ofS_full]; exact hK5.at_ 5 rfl, ⟨hK5.1.os, hK5.1.tape, hK5.1.output, hK5.1.size, fun i hi => hK5.1.block i hi (by simp)⟩⟩
end Go.Proofs.YtknaghdoffigjaaGreatDoor
