/-
  Parts that are not there, and matrices that cannot be joined: the program's and the reference's answers.
-/
import Derived.Test.YtknaghdoffigjaaGreatDoorMRefJ
import Derived.Test.YtknaghdoffigjaaGreatDoorZMInvV
set_option linter.unusedSimpArgs false
set_option linter.unusedVariables false
set_option linter.unnecessarySimpa false
namespace Go.Proofs.YtknaghdoffigjaaGreatDoor
open Go.RowKit Go
attribute [local go_sem] Oper.semAt_some

theorem and7 (z : Int) : 0 ≤ bits .and .i64 z 7 ∧ bits .and .i64 z 7 ≤ 7 := by
  have h : (BitVec.ofInt IntKind.i64.bits z &&& BitVec.ofInt IntKind.i64.bits 7).toNat ≤ 7 := by
    rw [BitVec.toNat_and]
    exact Nat.le_trans Nat.and_le_right (by decide)
  have e : bits .and .i64 z 7 = IntKind.i64.wrap (((BitVec.ofInt IntKind.i64.bits z &&& BitVec.ofInt IntKind.i64.bits 7).toNat : Nat) : Int) := rfl
  rw [e, IntWalk.i64_in _ (by omega)]
  omega
set_option maxRecDepth 100000 in
set_option maxHeartbeats 4000000 in
theorem Part_no (gA r c NA capA : Nat) (zs : List Int) (q0 q1 q2 q3 : Int) (w : World) (hA : Lw w gA (enc zs)) (hlen : zs.length = r * c) (hNA : NA = r * c) (hcapA : NA ≤ capA) (hcapm : capA ≤ maxLen) (hr : mright r c (enc zs) = true) (hr2 : r ≤ 200) (hc2 : c ≤ 200) (hb0 : -9223372036854775808 ≤ q0 ∧ q0 ≤ 9223372036854775807) (hb1 : -9223372036854775808 ≤ q1 ∧ q1 ≤ 9223372036854775807) (hb2 : -9223372036854775808 ≤ q2 ∧ q2 ≤ 9223372036854775807) (hb3 : -9223372036854775808 ≤ q3 ∧ q3 ≤ 9223372036854775807) (hno : ¬ (0 ≤ q0 ∧ 0 ≤ q2 ∧ q2 ≤ (r : Int) - q0 ∧ 0 ≤ q1 ∧ 0 ≤ q3 ∧ q3 ≤ (c : Int) - q1)) :
    Calls Tryz.prog 30 #[mat r c (some ⟨gA, 0, none⟩) NA capA, .int .i64 q0, .int .i64 q1, .int .i64 q2, .int .i64 q3] w fun e w' => e = .returned (.tuple #[mat 0 0 none 0 0, .bool false]) ∧ Below w.heap.size w w' := by
  have hri := fun W hW => Right_any (r : Int) (c : Int) (some ⟨gA, 0, none⟩) NA capA (enc zs) W hW (by rw [enc_length, hlen, hNA]) (by omega)
  rw [hr] at hri
  have hg1 := fun W => isRange_any q0 q2 (r : Int) W hb2.1 hb0 (by omega)
  have hg2 := fun W => isRange_any q1 q3 (c : Int) W hb3.1 hb1 (by omega)
  have hB : (decide (0 ≤ q0) && decide (0 ≤ q2) && decide (q2 ≤ (r : Int) - q0)) = true → (decide (0 ≤ q1) && decide (0 ≤ q3) && decide (q3 ≤ (c : Int) - q1)) = false := fun h => by
    rw [Bool.eq_false_iff]
    intro h2
    simp only [Bool.and_eq_true, decide_eq_true_eq] at h h2
    exact hno ⟨h.1.1, h.1.2, h.2, h2.1.1, h2.1.2, h2.2⟩
  generalize (decide (0 ≤ q0) && decide (0 ≤ q2) && decide (q2 ≤ (r : Int) - q0)) = B1 at *
  generalize (decide (0 ≤ q1) && decide (0 ≤ q3) && decide (q3 ≤ (c : Int) - q1)) = B2 at *
  unfold mat at *
  have HRI := Lib.hid hri
  have HG1 := Lib.hid hg1
  have HG2 := Lib.hid hg2
  have hgA := heap_lt hA
  have HA := Lib.hid hA
  clear hri hg1 hg2 hlen hNA hr hno hb0 hb1 hb2 hb3 hA
  have HK2 := Lib.hid ((((((Kg.none_ none w 0).more (mrow (r : Int) (c : Int) (some ⟨gA, 0, none⟩) NA capA)).more (.cells #[.int .i64 q0] 3 (0, 0))).more (.cells #[.int .i64 q1] 3 (0, 0))).more (mrow 0 0 none 0 0)).cast (l' := [some (w.heap.size, mrow (r : Int) (c : Int) (some ⟨gA, 0, none⟩) NA capA), some (w.heap.size + 1, .cells #[.int .i64 q0] 3 (0, 0)), some (w.heap.size + 1 + 1, .cells #[.int .i64 q1] 3 (0, 0)), some (w.heap.size + 1 + 1 + 1, mrow 0 0 none 0 0)]) (by simp))
  have c0 := HK2.out.cell 0 0 rfl rfl
  have c1 := HK2.out.cell 0 1 rfl rfl
  have c2 := HK2.out.cell 0 2 rfl rfl
  have hx : ∀ W l, Kg none w W l → Lw W gA (enc zs) := fun W l h => (h.1.block gA hgA (by simp)).trans HA.out
  have HX := Lib.hid hx
  clear hx
  refine (callsIn_wide (n := 0)).1 ?_
  refine callsIn_of_wp_marks Tryz.func30 rfl trivial ?_ rfl
  simp only [Tryz.ntmps30, List.size_toArray, List.length_cons, List.length_nil, Nat.reduceAdd, Nat.reduceSub, Array.replicate_succ, Array.replicate_zero, List.push_toArray, List.append_toArray, List.nil_append, List.cons_append]
  gi_wp2_with fail
  change _ ∧ _ ∧ CallsIn _ _ _ _ _ ((((w.alloc (mrow (r : Int) (c : Int) (some ⟨gA, 0, none⟩) NA capA)).alloc (.cells #[.int .i64 q0] 3 (0, 0))).alloc (.cells #[.int .i64 q1] 3 (0, 0))).alloc (mrow 0 0 none 0 0)) _
  generalize (((w.alloc (mrow (r : Int) (c : Int) (some ⟨gA, 0, none⟩) NA capA)).alloc (.cells #[.int .i64 q0] 3 (0, 0))).alloc (.cells #[.int .i64 q1] 3 (0, 0))).alloc (mrow 0 0 none 0 0) = W2 at *
  refine ⟨trivial, rfl, ?_⟩
  have hx2 := HX.out _ _ HK2.out
  with_reducible refine (callsIn_wide.2 (HRI.out _ hx2.rdw)).mono ?_
  rintro e w1 ⟨rfl, hb1⟩
  have HK3 := Lib.hid (HK2.out.step hb1)
  clear c0 c1 c2 hb1 HK2 hx2
  have c0 := HK3.out.cell 0 0 rfl rfl
  have c1 := HK3.out.cell 0 1 rfl rfl
  have c3 := HK3.out.cell 1 0 rfl rfl
  have c4 := HK3.out.cell 2 0 rfl rfl
  have f0 := HK3.out.frozen 3 0 rfl
  have g0 := HK3.out.cell 3 0 rfl rfl
  have f1 := HK3.out.frozen 3 1 rfl
  have g1 := HK3.out.cell 3 1 rfl rfl
  have f2 := HK3.out.frozen 3 2 rfl
  have g2 := HK3.out.cell 3 2 rfl rfl
  gi_wp2_with fail
  refine ⟨trivial, rfl, ?_⟩
  with_reducible refine (callsIn_wide.2 (HG1.out _)).mono ?_
  rintro e w2 ⟨rfl, rfl⟩
  have HKf := HK3
  cases B1 with
  | false =>
    clear hB
    gi_wp2_with fail
    refine ⟨trivial, ?_⟩
    rename_i hk
    refine hk _ _ ?_
    gi_wp2_with fail
    have hP := ((HKf.out.put 3 0 rfl (.int .i64 0)).put 3 1 rfl (.int .i64 0)).put 3 2 rfl (.slice none 0 0)
    exact ⟨_, results_mat_tmp (b := w.heap.size + 1 + 1 + 1) rfl rfl (hP.at_ 3 rfl), rfl, Kg.below_ hP⟩
  | true =>
    have hB2 := hB rfl
    subst hB2
    gi_wp2_with fail
    refine ⟨trivial, rfl, ?_⟩
    with_reducible refine (callsIn_wide.2 (HG2.out _)).mono ?_
    rintro e w3 ⟨rfl, rfl⟩
    gi_wp2_with fail
    have hP := ((HKf.out.put 3 0 rfl (.int .i64 0)).put 3 1 rfl (.int .i64 0)).put 3 2 rfl (.slice none 0 0)
    exact ⟨_, results_mat_tmp (b := w.heap.size + 1 + 1 + 1) rfl rfl (hP.at_ 3 rfl), rfl, Kg.below_ hP⟩
set_option maxRecDepth 100000 in
set_option maxHeartbeats 8000000 in
theorem rPart_no (gA r c NA capA : Nat) (zs : List Int) (q0 q1 q2 q3 : Int) (w : World) (hA : Lw w gA (enc zs)) (hlen : zs.length = r * c) (hNA : NA = r * c) (hcapA : NA ≤ capA) (hcapm : capA ≤ maxLen) (hr : mright r c (enc zs) = true) (hr2 : r ≤ 200) (hc2 : c ≤ 200) (hb0 : -9223372036854775808 ≤ q0 ∧ q0 ≤ 9223372036854775807) (hb1 : -9223372036854775808 ≤ q1 ∧ q1 ≤ 9223372036854775807) (hb2 : -9223372036854775808 ≤ q2 ∧ q2 ≤ 9223372036854775807) (hb3 : -9223372036854775808 ≤ q3 ∧ q3 ≤ 9223372036854775807) (hno : ¬ (0 ≤ q0 ∧ 0 ≤ q2 ∧ q2 ≤ (r : Int) - q0 ∧ 0 ≤ q1 ∧ 0 ≤ q3 ∧ q3 ≤ (c : Int) - q1)) :
    Calls Tryz.prog 31 #[mat r c (some ⟨gA, 0, none⟩) NA capA, .int .i64 q0, .int .i64 q1, .int .i64 q2, .int .i64 q3] w fun e w' => e = .returned (.tuple #[mat 0 0 none 0 0, .bool false]) ∧ Below w.heap.size w w' := by
  have hri := fun W hW => rRight_any (r : Int) (c : Int) (some ⟨gA, 0, none⟩) NA capA (enc zs) W hW (by rw [enc_length, hlen, hNA]) (by omega)
  rw [hr] at hri
  have hgA := heap_lt hA
  have hx : ∀ W l, Kg none w W l → Lw W gA (enc zs) := fun W l h => (h.1.block gA hgA (by simp)).trans hA
  unfold mat at *
  have HRI := Lib.hid hri
  have HX := Lib.hid hx
  have HK2 := Lib.hid ((((Kg.none_ none w 0).more (mrow (r : Int) (c : Int) (some ⟨gA, 0, none⟩) NA capA)).more (mrow 0 0 none 0 0)).cast (l' := [some (w.heap.size, mrow (r : Int) (c : Int) (some ⟨gA, 0, none⟩) NA capA), some (w.heap.size + 1, mrow 0 0 none 0 0)]) (by simp))
  have c0 := HK2.out.cell 0 0 rfl rfl
  have c1 := HK2.out.cell 0 1 rfl rfl
  have c2 := HK2.out.cell 0 2 rfl rfl
  clear hri hx hlen hNA hr hA
  go_enter Tryz.func31, Tryz.ntmps31
  go_wp2_with fail
  change Calls _ _ _ ((w.alloc (mrow (r : Int) (c : Int) (some ⟨gA, 0, none⟩) NA capA)).alloc (mrow 0 0 none 0 0)) _
  generalize (w.alloc (mrow (r : Int) (c : Int) (some ⟨gA, 0, none⟩) NA capA)).alloc (mrow 0 0 none 0 0) = W1 at *
  have hx1 := HX.out _ _ HK2.out
  with_reducible refine (HRI.out _ hx1.rdw).mono ?_
  rintro e V1 ⟨rfl, hb⟩
  have HKf := Lib.hid (HK2.out.step hb)
  clear hb c0 c1 c2 HK2 hx1
  have c0 := HKf.out.cell 0 0 rfl rfl
  have c1 := HKf.out.cell 0 1 rfl rfl
  have f0 := HKf.out.frozen 1 0 rfl
  have g0 := HKf.out.cell 1 0 rfl rfl
  have f1 := HKf.out.frozen 1 1 rfl
  have g1 := HKf.out.cell 1 1 rfl rfl
  have f2 := HKf.out.frozen 1 2 rfl
  have g2 := HKf.out.cell 1 2 rfl rfl
  cases d0 : decide (q0 < 0) with
  | true =>
    clear hno
    go_wp2_with fail
    have hP := ((HKf.out.put 1 0 rfl (.int .i64 0)).put 1 1 rfl (.int .i64 0)).put 1 2 rfl (.slice none 0 0)
    exact bodyPost_ret (results_mat_tmp (b := w.heap.size + 1) rfl rfl (hP.at_ 1 rfl)) rfl ⟨rfl, Kg.below_ hP⟩
  | false =>
    cases d1 : decide (q1 < 0) with
    | true =>
      clear hno
      go_wp2_with fail
      have hP := ((HKf.out.put 1 0 rfl (.int .i64 0)).put 1 1 rfl (.int .i64 0)).put 1 2 rfl (.slice none 0 0)
      exact bodyPost_ret (results_mat_tmp (b := w.heap.size + 1) rfl rfl (hP.at_ 1 rfl)) rfl ⟨rfl, Kg.below_ hP⟩
    | false =>
      cases d2 : decide (q2 < 0) with
      | true =>
        clear hno
        go_wp2_with fail
        have hP := ((HKf.out.put 1 0 rfl (.int .i64 0)).put 1 1 rfl (.int .i64 0)).put 1 2 rfl (.slice none 0 0)
        exact bodyPost_ret (results_mat_tmp (b := w.heap.size + 1) rfl rfl (hP.at_ 1 rfl)) rfl ⟨rfl, Kg.below_ hP⟩
      | false =>
        cases d3 : decide (q3 < 0) with
        | true =>
          clear hno
          go_wp2_with fail
          have hP := ((HKf.out.put 1 0 rfl (.int .i64 0)).put 1 1 rfl (.int .i64 0)).put 1 2 rfl (.slice none 0 0)
          exact bodyPost_ret (results_mat_tmp (b := w.heap.size + 1) rfl rfl (hP.at_ 1 rfl)) rfl ⟨rfl, Kg.below_ hP⟩
        | false =>
          cases d4 : decide (q2 > (r : Int)) with
          | true =>
            clear hno
            go_wp2_with fail
            have hP := ((HKf.out.put 1 0 rfl (.int .i64 0)).put 1 1 rfl (.int .i64 0)).put 1 2 rfl (.slice none 0 0)
            exact bodyPost_ret (results_mat_tmp (b := w.heap.size + 1) rfl rfl (hP.at_ 1 rfl)) rfl ⟨rfl, Kg.below_ hP⟩
          | false =>
            cases d5 : decide (q3 > (c : Int)) with
            | true =>
              clear hno
              go_wp2_with fail
              have hP := ((HKf.out.put 1 0 rfl (.int .i64 0)).put 1 1 rfl (.int .i64 0)).put 1 2 rfl (.slice none 0 0)
              exact bodyPost_ret (results_mat_tmp (b := w.heap.size + 1) rfl rfl (hP.at_ 1 rfl)) rfl ⟨rfl, Kg.below_ hP⟩
            | false =>
              have w1 : IntKind.i64.wrap ((r : Int) - q2) = (r : Int) - q2 := IntWalk.i64_in _ (by rw [decide_eq_false_iff_not] at d0 d1 d2 d3 d4 d5; omega)
              cases d6 : decide (q0 > (r : Int) - q2) with
              | true =>
                clear hno
                go_wp2_with fail
                have hP := ((HKf.out.put 1 0 rfl (.int .i64 0)).put 1 1 rfl (.int .i64 0)).put 1 2 rfl (.slice none 0 0)
                exact bodyPost_ret (results_mat_tmp (b := w.heap.size + 1) rfl rfl (hP.at_ 1 rfl)) rfl ⟨rfl, Kg.below_ hP⟩
              | false =>
                have w2 : IntKind.i64.wrap ((c : Int) - q3) = (c : Int) - q3 := IntWalk.i64_in _ (by rw [decide_eq_false_iff_not] at d0 d1 d2 d3 d4 d5; omega)
                cases d7 : decide (q1 > (c : Int) - q3) with
                | true =>
                  clear hno
                  go_wp2_with fail
                  have hP := ((HKf.out.put 1 0 rfl (.int .i64 0)).put 1 1 rfl (.int .i64 0)).put 1 2 rfl (.slice none 0 0)
                  exact bodyPost_ret (results_mat_tmp (b := w.heap.size + 1) rfl rfl (hP.at_ 1 rfl)) rfl ⟨rfl, Kg.below_ hP⟩
                | false =>
                  rw [decide_eq_false_iff_not] at d0 d1 d2 d3 d4 d5 d6 d7
                  exact absurd ⟨by omega, by omega, by omega, by omega, by omega, by omega⟩ hno
/-- A matrix and whether there is one are returned: these elements. -/
def RetP (P : Program) (f : Nat) (args : Array Value) (ok : Bool) (r c : Int) (N : Nat) (zs : List (Bool × ByteArray)) (W : World) : Prop :=
  Calls P f args W fun e w' => ∃ A cap, e = .returned (.tuple #[.agg #[.int .i64 r, .int .i64 c, .slice A N cap], .bool ok]) ∧ RdW w' A zs ∧ Below W.heap.size W w'
theorem Part_both (r c NA capA : Nat) (zs : List Int) (q0 q1 q2 q3 : Int) (hlen : zs.length = r * c) (hNA : NA = r * c) (hcapA : NA ≤ capA) (hcapm : capA ≤ maxLen) (hr2 : r ≤ 200) (hc2 : c ≤ 200) (hb0 : -9223372036854775808 ≤ q0 ∧ q0 ≤ 9223372036854775807) (hb1 : -9223372036854775808 ≤ q1 ∧ q1 ≤ 9223372036854775807) (hb2 : -9223372036854775808 ≤ q2 ∧ q2 ≤ 9223372036854775807) (hb3 : -9223372036854775808 ≤ q3 ∧ q3 ≤ 9223372036854775807) :
    ∃ (ok : Bool) (rr cc : Int) (N : Nat) (es : List (Bool × ByteArray)), es.length = N ∧ N ≤ 40000 ∧
      (∀ gA W, Lw W gA (enc zs) → RetP Tryz.prog 30 #[.agg #[.int .i64 (r : Int), .int .i64 (c : Int), .slice (some ⟨gA, 0, none⟩) NA capA], .int .i64 q0, .int .i64 q1, .int .i64 q2, .int .i64 q3] ok rr cc N es W) ∧
      (∀ gA W, Lw W gA (enc zs) → RetP Tryz.prog 31 #[.agg #[.int .i64 (r : Int), .int .i64 (c : Int), .slice (some ⟨gA, 0, none⟩) NA capA], .int .i64 q0, .int .i64 q1, .int .i64 q2, .int .i64 q3] ok rr cc N es W) := by
  have hr := mright_ints r c zs hlen hr2 hc2
  by_cases h : 0 ≤ q0 ∧ 0 ≤ q2 ∧ q2 ≤ (r : Int) - q0 ∧ 0 ≤ q1 ∧ 0 ≤ q3 ∧ q3 ≤ (c : Int) - q1
  · obtain ⟨row, rfl⟩ : ∃ a : Nat, (a : Int) = q0 := ⟨q0.toNat, by omega⟩
    obtain ⟨col, rfl⟩ : ∃ a : Nat, (a : Int) = q1 := ⟨q1.toNat, by omega⟩
    obtain ⟨n, rfl⟩ : ∃ a : Nat, (a : Int) = q2 := ⟨q2.toNat, by omega⟩
    obtain ⟨m, rfl⟩ : ∃ a : Nat, (a : Int) = q3 := ⟨q3.toNat, by omega⟩
    have hb : n * m ≤ 40000 := Nat.le_trans (Nat.mul_le_mul (show n ≤ 200 by omega) (show m ≤ 200 by omega)) (by omega)
    refine ⟨true, n, m, n * m, enc (ofL (prt zs c row col n m) n m), by rw [enc_length]; simp [ofL], hb, fun gA W hW => ?_, fun gA W hW => ?_⟩
    · refine (Part_ok gA r c NA capA row col n m (n * m) zs W hW hlen hNA hcapA hcapm hr hr2 hc2 (by omega) (by omega) rfl).mono ?_
      rintro e w' ⟨g, rfl, hg, hL, hb⟩
      exact ⟨_, _, rfl, hL.rdw, hb⟩
    · refine (rPart_ok gA r c NA capA row col n m (n * m) zs W hW hlen hNA hcapA hcapm hr hr2 hc2 (by omega) (by omega) rfl).mono ?_
      rintro e w' ⟨A, cap, rfl, hrd, hb⟩
      exact ⟨_, _, rfl, hrd, hb⟩
  · refine ⟨false, 0, 0, 0, [], rfl, by omega, fun gA W hW => ?_, fun gA W hW => ?_⟩
    · refine (Part_no gA r c NA capA zs q0 q1 q2 q3 W hW hlen hNA hcapA hcapm hr hr2 hc2 hb0 hb1 hb2 hb3 h).mono ?_
      rintro e w' ⟨rfl, hb⟩
      exact ⟨none, 0, rfl, RdW.nil _ _, hb⟩
    · refine (rPart_no gA r c NA capA zs q0 q1 q2 q3 W hW hlen hNA hcapA hcapm hr hr2 hc2 hb0 hb1 hb2 hb3 h).mono ?_
      rintro e w' ⟨rfl, hb⟩
      exact ⟨none, 0, rfl, RdW.nil _ _, hb⟩
set_option maxRecDepth 100000 in
set_option maxHeartbeats 4000000 in
theorem Join_rows (gA gB r1 c1 r2 c2 NA capA NB capB : Nat) (xs ys : List Int) (w : World) (hA : Lw w gA (enc xs)) (hB : Lw w gB (enc ys)) (hlA : xs.length = r1 * c1) (hNA : NA = r1 * c1) (hcA : NA ≤ capA) (hmA : capA ≤ maxLen) (hlB : ys.length = r2 * c2) (hNB : NB = r2 * c2) (hcB : NB ≤ capB) (hmB : capB ≤ maxLen) (hrA : mright r1 c1 (enc xs) = true) (hrB : mright r2 c2 (enc ys) = true) (hr1 : r1 ≤ 200) (hr2 : r2 ≤ 200) (hc1 : c1 ≤ 200) (hc2 : c2 ≤ 200) (hno : r1 ≠ r2) :
    Calls Tryz.prog 49 #[mat r1 c1 (some ⟨gA, 0, none⟩) NA capA, mat r2 c2 (some ⟨gB, 0, none⟩) NB capB] w fun e w' => e = .returned (.tuple #[mat 0 0 none 0 0, .bool false]) ∧ Below w.heap.size w w' := by
  have hri := fun W hW => Right_any (r1 : Int) (c1 : Int) (some ⟨gA, 0, none⟩) NA capA (enc xs) W hW (by rw [enc_length, hlA, hNA]) (by omega)
  rw [hrA] at hri
  have hrj := fun W hW => Right_any (r2 : Int) (c2 : Int) (some ⟨gB, 0, none⟩) NB capB (enc ys) W hW (by rw [enc_length, hlB, hNB]) (by omega)
  rw [hrB] at hrj
  have hne : ((r1 : Int) != (r2 : Int)) = true := by rw [bne_iff_ne]; omega
  have hne2 : ((r1 : Int) == (r2 : Int)) = false := by rw [beq_eq_false_iff_ne]; omega
  have hnn : ¬ r1 = r2 := hno
  unfold mat at *
  have HRI := Lib.hid hri
  have HRJ := Lib.hid hrj
  have hgA := heap_lt hA
  have hgB := heap_lt hB
  have HAS := Lib.hid (show ∀ W l, Kg none w W l → Lw W gA (enc xs) from fun W l h => (h.1.block gA hgA (by simp)).trans hA)
  have HBS := Lib.hid (show ∀ W l, Kg none w W l → Lw W gB (enc ys) from fun W l h => (h.1.block gB hgB (by simp)).trans hB)
  have HK2 := Lib.hid (((((Kg.none_ none w 0).more (mrow (r1 : Int) (c1 : Int) (some ⟨gA, 0, none⟩) NA capA)).more (mrow (r2 : Int) (c2 : Int) (some ⟨gB, 0, none⟩) NB capB)).more (mrow 0 0 none 0 0)).cast (l' := [some (w.heap.size, mrow (r1 : Int) (c1 : Int) (some ⟨gA, 0, none⟩) NA capA), some (w.heap.size + 1, mrow (r2 : Int) (c2 : Int) (some ⟨gB, 0, none⟩) NB capB), some (w.heap.size + 1 + 1, mrow 0 0 none 0 0)]) (by simp))
  have x0 := HK2.out.cell 0 0 rfl rfl
  have x1 := HK2.out.cell 0 1 rfl rfl
  have x2 := HK2.out.cell 0 2 rfl rfl
  clear hri hrj hA hB hlA hNA hlB hNB hrA hrB
  refine (callsIn_wide (n := 0)).1 ?_
  refine callsIn_of_wp_marks Tryz.func49 rfl trivial ?_ rfl
  simp only [Tryz.ntmps49, List.size_toArray, List.length_cons, List.length_nil, Nat.reduceAdd, Nat.reduceSub, Array.replicate_succ, Array.replicate_zero, List.push_toArray, List.append_toArray, List.nil_append, List.cons_append]
  gi_wp2_with fail
  change _ ∧ _ ∧ CallsIn _ _ _ _ _ (((w.alloc (mrow (r1 : Int) (c1 : Int) (some ⟨gA, 0, none⟩) NA capA)).alloc (mrow (r2 : Int) (c2 : Int) (some ⟨gB, 0, none⟩) NB capB)).alloc (mrow 0 0 none 0 0)) _
  generalize ((w.alloc (mrow (r1 : Int) (c1 : Int) (some ⟨gA, 0, none⟩) NA capA)).alloc (mrow (r2 : Int) (c2 : Int) (some ⟨gB, 0, none⟩) NB capB)).alloc (mrow 0 0 none 0 0) = W2 at *
  refine ⟨trivial, rfl, ?_⟩
  have hx2 := HAS.out _ _ HK2.out
  with_reducible refine (callsIn_wide.2 (HRI.out _ hx2.rdw)).mono ?_
  rintro e w1 ⟨rfl, hb1⟩
  have HK3 := Lib.hid (HK2.out.step hb1)
  clear x0 x1 x2 hb1 HK2 hx2
  have x0 := HK3.out.cell 1 0 rfl rfl
  have x1 := HK3.out.cell 1 1 rfl rfl
  have x2 := HK3.out.cell 1 2 rfl rfl
  gi_wp2_with fail
  refine ⟨trivial, rfl, ?_⟩
  have hx2 := HBS.out _ _ HK3.out
  with_reducible refine (callsIn_wide.2 (HRJ.out _ hx2.rdw)).mono ?_
  rintro e w2 ⟨rfl, hb2⟩
  have HKf := Lib.hid (HK3.out.step hb2)
  clear x0 x1 x2 hb2 HK3 hx2
  have x0 := HKf.out.cell 0 0 rfl rfl
  have x1 := HKf.out.cell 0 1 rfl rfl
  have x2 := HKf.out.cell 1 0 rfl rfl
  have x3 := HKf.out.cell 1 1 rfl rfl
  have f0 := HKf.out.frozen 2 0 rfl
  have g0 := HKf.out.cell 2 0 rfl rfl
  have f1 := HKf.out.frozen 2 1 rfl
  have g1 := HKf.out.cell 2 1 rfl rfl
  have f2 := HKf.out.frozen 2 2 rfl
  have g2 := HKf.out.cell 2 2 rfl rfl
  gi_wp2_with fail
  refine ⟨trivial, ?_⟩
  rename_i hk
  refine hk _ _ ?_
  gi_wp2_with fail
  have hP := ((HKf.out.put 2 0 rfl (.int .i64 0)).put 2 1 rfl (.int .i64 0)).put 2 2 rfl (.slice none 0 0)
  exact ⟨_, results_mat_tmp (b := w.heap.size + 1 + 1) rfl rfl (hP.at_ 2 rfl), rfl, Kg.below_ hP⟩
set_option maxRecDepth 100000 in
set_option maxHeartbeats 4000000 in
theorem Join_cols (gA gB r1 c1 c2 NA capA NB capB m : Nat) (xs ys : List Int) (w : World) (hA : Lw w gA (enc xs)) (hB : Lw w gB (enc ys)) (hlA : xs.length = r1 * c1) (hNA : NA = r1 * c1) (hcA : NA ≤ capA) (hmA : capA ≤ maxLen) (hlB : ys.length = r1 * c2) (hNB : NB = r1 * c2) (hcB : NB ≤ capB) (hmB : capB ≤ maxLen) (hrA : mright r1 c1 (enc xs) = true) (hrB : mright r1 c2 (enc ys) = true) (hr1 : r1 ≤ 200) (hc1 : c1 ≤ 200) (hc2 : c2 ≤ 200) (hm : c1 + c2 = m) (hm2 : 200 < m) :
    Calls Tryz.prog 49 #[mat r1 c1 (some ⟨gA, 0, none⟩) NA capA, mat r1 c2 (some ⟨gB, 0, none⟩) NB capB] w fun e w' => e = .returned (.tuple #[mat 0 0 none 0 0, .bool false]) ∧ Below w.heap.size w w' := by
  have hri := fun W hW => Right_any (r1 : Int) (c1 : Int) (some ⟨gA, 0, none⟩) NA capA (enc xs) W hW (by rw [enc_length, hlA, hNA]) (by omega)
  rw [hrA] at hri
  have hrj := fun W hW => Right_any (r1 : Int) (c2 : Int) (some ⟨gB, 0, none⟩) NB capB (enc ys) W hW (by rw [enc_length, hlB, hNB]) (by omega)
  rw [hrB] at hrj
  have wm : IntKind.i64.wrap ((c1 : Int) + (c2 : Int)) = (m : Int) := by rw [show (c1 : Int) + (c2 : Int) = (m : Int) from by omega]; exact IntWalk.i64_in _ (by omega)
  have hne : ((r1 : Int) != (r1 : Int)) = false := by simp
  have hne2 : ((r1 : Int) == (r1 : Int)) = true := by simp
  have his := fun W => isSize_any (m : Int) W
  rw [show msize (m : Int) = false from by unfold msize; simp; omega] at his
  have HIS := Lib.hid his
  clear his hm
  unfold mat at *
  have HRI := Lib.hid hri
  have HRJ := Lib.hid hrj
  have hgA := heap_lt hA
  have hgB := heap_lt hB
  have HAS := Lib.hid (show ∀ W l, Kg none w W l → Lw W gA (enc xs) from fun W l h => (h.1.block gA hgA (by simp)).trans hA)
  have HBS := Lib.hid (show ∀ W l, Kg none w W l → Lw W gB (enc ys) from fun W l h => (h.1.block gB hgB (by simp)).trans hB)
  have HK2 := Lib.hid (((((Kg.none_ none w 0).more (mrow (r1 : Int) (c1 : Int) (some ⟨gA, 0, none⟩) NA capA)).more (mrow (r1 : Int) (c2 : Int) (some ⟨gB, 0, none⟩) NB capB)).more (mrow 0 0 none 0 0)).cast (l' := [some (w.heap.size, mrow (r1 : Int) (c1 : Int) (some ⟨gA, 0, none⟩) NA capA), some (w.heap.size + 1, mrow (r1 : Int) (c2 : Int) (some ⟨gB, 0, none⟩) NB capB), some (w.heap.size + 1 + 1, mrow 0 0 none 0 0)]) (by simp))
  have x0 := HK2.out.cell 0 0 rfl rfl
  have x1 := HK2.out.cell 0 1 rfl rfl
  have x2 := HK2.out.cell 0 2 rfl rfl
  clear hri hrj hA hB hlA hNA hlB hNB hrA hrB
  refine (callsIn_wide (n := 0)).1 ?_
  refine callsIn_of_wp_marks Tryz.func49 rfl trivial ?_ rfl
  simp only [Tryz.ntmps49, List.size_toArray, List.length_cons, List.length_nil, Nat.reduceAdd, Nat.reduceSub, Array.replicate_succ, Array.replicate_zero, List.push_toArray, List.append_toArray, List.nil_append, List.cons_append]
  gi_wp2_with fail
  change _ ∧ _ ∧ CallsIn _ _ _ _ _ (((w.alloc (mrow (r1 : Int) (c1 : Int) (some ⟨gA, 0, none⟩) NA capA)).alloc (mrow (r1 : Int) (c2 : Int) (some ⟨gB, 0, none⟩) NB capB)).alloc (mrow 0 0 none 0 0)) _
  generalize ((w.alloc (mrow (r1 : Int) (c1 : Int) (some ⟨gA, 0, none⟩) NA capA)).alloc (mrow (r1 : Int) (c2 : Int) (some ⟨gB, 0, none⟩) NB capB)).alloc (mrow 0 0 none 0 0) = W2 at *
  refine ⟨trivial, rfl, ?_⟩
  have hx2 := HAS.out _ _ HK2.out
  with_reducible refine (callsIn_wide.2 (HRI.out _ hx2.rdw)).mono ?_
  rintro e w1 ⟨rfl, hb1⟩
  have HK3 := Lib.hid (HK2.out.step hb1)
  clear x0 x1 x2 hb1 HK2 hx2
  have x0 := HK3.out.cell 1 0 rfl rfl
  have x1 := HK3.out.cell 1 1 rfl rfl
  have x2 := HK3.out.cell 1 2 rfl rfl
  gi_wp2_with fail
  refine ⟨trivial, rfl, ?_⟩
  have hx2 := HBS.out _ _ HK3.out
  with_reducible refine (callsIn_wide.2 (HRJ.out _ hx2.rdw)).mono ?_
  rintro e w2 ⟨rfl, hb2⟩
  have HKf := Lib.hid (HK3.out.step hb2)
  clear x0 x1 x2 hb2 HK3 hx2
  have x0 := HKf.out.cell 0 0 rfl rfl
  have x1 := HKf.out.cell 0 1 rfl rfl
  have x2 := HKf.out.cell 1 0 rfl rfl
  have x3 := HKf.out.cell 1 1 rfl rfl
  have f0 := HKf.out.frozen 2 0 rfl
  have g0 := HKf.out.cell 2 0 rfl rfl
  have f1 := HKf.out.frozen 2 1 rfl
  have g1 := HKf.out.cell 2 1 rfl rfl
  have f2 := HKf.out.frozen 2 2 rfl
  have g2 := HKf.out.cell 2 2 rfl rfl
  gi_wp2_with fail
  refine ⟨trivial, rfl, ?_⟩
  with_reducible refine (callsIn_wide.2 (HIS.out _)).mono ?_
  rintro e w3 ⟨rfl, rfl⟩
  gi_wp2_with fail
  have hP := ((HKf.out.put 2 0 rfl (.int .i64 0)).put 2 1 rfl (.int .i64 0)).put 2 2 rfl (.slice none 0 0)
  exact ⟨_, results_mat_tmp (b := w.heap.size + 1 + 1) rfl rfl (hP.at_ 2 rfl), rfl, Kg.below_ hP⟩
set_option maxRecDepth 100000 in
set_option maxHeartbeats 4000000 in
theorem rJoin_rows (gA gB r1 c1 r2 c2 NA capA NB capB : Nat) (xs ys : List Int) (w : World) (hA : Lw w gA (enc xs)) (hB : Lw w gB (enc ys)) (hlA : xs.length = r1 * c1) (hNA : NA = r1 * c1) (hcA : NA ≤ capA) (hmA : capA ≤ maxLen) (hlB : ys.length = r2 * c2) (hNB : NB = r2 * c2) (hcB : NB ≤ capB) (hmB : capB ≤ maxLen) (hrA : mright r1 c1 (enc xs) = true) (hrB : mright r2 c2 (enc ys) = true) (hr1 : r1 ≤ 200) (hr2 : r2 ≤ 200) (hc1 : c1 ≤ 200) (hc2 : c2 ≤ 200) (hno : r1 ≠ r2) :
    Calls Tryz.prog 50 #[mat r1 c1 (some ⟨gA, 0, none⟩) NA capA, mat r2 c2 (some ⟨gB, 0, none⟩) NB capB] w fun e w' => e = .returned (.tuple #[mat 0 0 none 0 0, .bool false]) ∧ Below w.heap.size w w' := by
  have hri := fun W hW => rRight_any (r1 : Int) (c1 : Int) (some ⟨gA, 0, none⟩) NA capA (enc xs) W hW (by rw [enc_length, hlA, hNA]) (by omega)
  rw [hrA] at hri
  have hrj := fun W hW => rRight_any (r2 : Int) (c2 : Int) (some ⟨gB, 0, none⟩) NB capB (enc ys) W hW (by rw [enc_length, hlB, hNB]) (by omega)
  rw [hrB] at hrj
  have hne : ((r1 : Int) != (r2 : Int)) = true := by rw [bne_iff_ne]; omega
  have hne2 : ((r1 : Int) == (r2 : Int)) = false := by rw [beq_eq_false_iff_ne]; omega
  have hnn : ¬ r1 = r2 := hno
  unfold mat at *
  have HRI := Lib.hid hri
  have HRJ := Lib.hid hrj
  have hgA := heap_lt hA
  have hgB := heap_lt hB
  have HAS := Lib.hid (show ∀ W l, Kg none w W l → Lw W gA (enc xs) from fun W l h => (h.1.block gA hgA (by simp)).trans hA)
  have HBS := Lib.hid (show ∀ W l, Kg none w W l → Lw W gB (enc ys) from fun W l h => (h.1.block gB hgB (by simp)).trans hB)
  have HK2 := Lib.hid (((((Kg.none_ none w 0).more (mrow (r1 : Int) (c1 : Int) (some ⟨gA, 0, none⟩) NA capA)).more (mrow (r2 : Int) (c2 : Int) (some ⟨gB, 0, none⟩) NB capB)).more (mrow 0 0 none 0 0)).cast (l' := [some (w.heap.size, mrow (r1 : Int) (c1 : Int) (some ⟨gA, 0, none⟩) NA capA), some (w.heap.size + 1, mrow (r2 : Int) (c2 : Int) (some ⟨gB, 0, none⟩) NB capB), some (w.heap.size + 1 + 1, mrow 0 0 none 0 0)]) (by simp))
  have x0 := HK2.out.cell 0 0 rfl rfl
  have x1 := HK2.out.cell 0 1 rfl rfl
  have x2 := HK2.out.cell 0 2 rfl rfl
  clear hri hrj hA hB hlA hNA hlB hNB hrA hrB
  go_enter Tryz.func50, Tryz.ntmps50
  go_wp2_with fail
  change Calls _ _ _ (((w.alloc (mrow (r1 : Int) (c1 : Int) (some ⟨gA, 0, none⟩) NA capA)).alloc (mrow (r2 : Int) (c2 : Int) (some ⟨gB, 0, none⟩) NB capB)).alloc (mrow 0 0 none 0 0)) _
  generalize ((w.alloc (mrow (r1 : Int) (c1 : Int) (some ⟨gA, 0, none⟩) NA capA)).alloc (mrow (r2 : Int) (c2 : Int) (some ⟨gB, 0, none⟩) NB capB)).alloc (mrow 0 0 none 0 0) = W2 at *
  have hx2 := HAS.out _ _ HK2.out
  with_reducible refine (HRI.out _ hx2.rdw).mono ?_
  rintro e w1 ⟨rfl, hb1⟩
  have HK3 := Lib.hid (HK2.out.step hb1)
  clear x0 x1 x2 hb1 HK2 hx2
  have x0 := HK3.out.cell 1 0 rfl rfl
  have x1 := HK3.out.cell 1 1 rfl rfl
  have x2 := HK3.out.cell 1 2 rfl rfl
  go_wp2_with fail
  have hx2 := HBS.out _ _ HK3.out
  with_reducible refine (HRJ.out _ hx2.rdw).mono ?_
  rintro e w2 ⟨rfl, hb2⟩
  have HKf := Lib.hid (HK3.out.step hb2)
  clear x0 x1 x2 hb2 HK3 hx2
  have x0 := HKf.out.cell 0 0 rfl rfl
  have x2 := HKf.out.cell 1 0 rfl rfl
  have f0 := HKf.out.frozen 2 0 rfl
  have g0 := HKf.out.cell 2 0 rfl rfl
  have f1 := HKf.out.frozen 2 1 rfl
  have g1 := HKf.out.cell 2 1 rfl rfl
  have f2 := HKf.out.frozen 2 2 rfl
  have g2 := HKf.out.cell 2 2 rfl rfl
  go_wp2_with fail
  have hP := ((HKf.out.put 2 0 rfl (.int .i64 0)).put 2 1 rfl (.int .i64 0)).put 2 2 rfl (.slice none 0 0)
  exact bodyPost_ret (results_mat_tmp (b := w.heap.size + 1 + 1) rfl rfl (hP.at_ 2 rfl)) rfl ⟨rfl, Kg.below_ hP⟩
theorem Join_both (r1 c1 r2 c2 NA capA NB capB : Nat) (xs ys : List Int) (hlA : xs.length = r1 * c1) (hNA : NA = r1 * c1) (hcA : NA ≤ capA) (hmA : capA ≤ maxLen) (hlB : ys.length = r2 * c2) (hNB : NB = r2 * c2) (hcB : NB ≤ capB) (hmB : capB ≤ maxLen) (hr1 : r1 ≤ 200) (hr2 : r2 ≤ 200) (hm2 : c1 + c2 ≤ 200) :
    ∃ (ok : Bool) (rr cc : Int) (N : Nat) (es : List (Bool × ByteArray)), es.length = N ∧ N ≤ 40000 ∧
      (∀ gA gB W, Lw W gA (enc xs) → Lw W gB (enc ys) → RetP Tryz.prog 49 #[.agg #[.int .i64 (r1 : Int), .int .i64 (c1 : Int), .slice (some ⟨gA, 0, none⟩) NA capA], .agg #[.int .i64 (r2 : Int), .int .i64 (c2 : Int), .slice (some ⟨gB, 0, none⟩) NB capB]] ok rr cc N es W) ∧
      (∀ gA gB W, Lw W gA (enc xs) → Lw W gB (enc ys) → RetP Tryz.prog 50 #[.agg #[.int .i64 (r1 : Int), .int .i64 (c1 : Int), .slice (some ⟨gA, 0, none⟩) NA capA], .agg #[.int .i64 (r2 : Int), .int .i64 (c2 : Int), .slice (some ⟨gB, 0, none⟩) NB capB]] ok rr cc N es W) := by
  have hrA := mright_ints r1 c1 xs hlA hr1 (by omega)
  have hrB := mright_ints r2 c2 ys hlB hr2 (by omega)
  by_cases h : r1 = r2
  · subst h
    obtain ⟨m, hm⟩ : ∃ m, c1 + c2 = m := ⟨_, rfl⟩
    rw [hm] at hm2
    have hb : r1 * m ≤ 40000 := Nat.le_trans (Nat.mul_le_mul hr1 hm2) (by omega)
    refine ⟨true, r1, m, r1 * m, enc (ofL (jnr xs ys c1 c2 r1) r1 m), by rw [enc_length]; simp [ofL], hb, fun gA gB W hA hB => ?_, fun gA gB W hA hB => ?_⟩
    · refine (Join_ok gA gB r1 c1 c2 NA capA NB capB m (r1 * m) xs ys W hA hB hlA hNA hcA hmA hlB hNB hcB hmB hrA hrB hr1 hm hm2 rfl).mono ?_
      rintro e w' ⟨g, rfl, hg, hL, hb⟩
      exact ⟨_, _, rfl, hL.rdw, hb⟩
    · refine (rJoin_ok gA gB r1 c1 c2 NA capA NB capB m (r1 * m) xs ys W hA hB hlA hNA hcA hmA hlB hNB hcB hmB hrA hrB hr1 hm hm2 rfl).mono ?_
      rintro e w' ⟨A, cap, rfl, hrd, hb⟩
      exact ⟨_, _, rfl, hrd, hb⟩
  · refine ⟨false, 0, 0, 0, [], rfl, by omega, fun gA gB W hA hB => ?_, fun gA gB W hA hB => ?_⟩
    · refine (Join_rows gA gB r1 c1 r2 c2 NA capA NB capB xs ys W hA hB hlA hNA hcA hmA hlB hNB hcB hmB hrA hrB hr1 hr2 (by omega) (by omega) h).mono ?_
      rintro e w' ⟨rfl, hb⟩
      exact ⟨none, 0, rfl, RdW.nil _ _, hb⟩
    · refine (rJoin_rows gA gB r1 c1 r2 c2 NA capA NB capB xs ys W hA hB hlA hNA hcA hmA hlB hNB hcB hmB hrA hrB hr1 hr2 (by omega) (by omega) h).mono ?_
      rintro e w' ⟨rfl, hb⟩
      exact ⟨none, 0, rfl, RdW.nil _ _, hb⟩
end Go.Proofs.YtknaghdoffigjaaGreatDoor
