/-
  The contract of table.each as an iterator, and of matrix.One. The contract of matrix.One.
-/
import Derived.Test.YtknaghdoffigjaaGreatDoorMRange
import Derived.Test.YtknaghdoffigjaaGreatDoorInvG
set_option linter.unusedSimpArgs false
set_option linter.unusedVariables false
set_option linter.unnecessarySimpa false
namespace Go.Proofs.YtknaghdoffigjaaGreatDoor
open Go.RowKit Go
attribute [local go_sem] Oper.semAt_some

/-- What each hands to yield in round k: the number, and the row. -/
def rowArgs (c : Nat) (A : Option Addr) (k : Nat) : Array Value := #[.int .i64 (k : Int), .slice (if c = 0 then A else A.map (·.add (k * c * 2))) c c]
set_option maxRecDepth 100000 in
set_option maxHeartbeats 2000000 in
theorem each_visits (r c : Nat) (A : Option Addr) (n cap : Nat) (hr : r ≤ 400) (hc : c ≤ 400) (hn : r * c ≤ cap) (hcap : cap ≤ maxLen) :
    Visits Tryz.prog 59 #[mat r c A n cap] (rowArgs c A) r := by
  intro l J Jx W hJ hJx hY h0
  have hrow := fun (k : Nat) (hk : k < r) V => row_any r c k A n cap V hk hr hc hn hcap
  unfold mat at *
  refine callsIn_of_wp Tryz.func59 rfl trivial ?_ rfl
  simp only [Tryz.ntmps59, List.size_toArray, List.length_cons, List.length_nil, Nat.reduceAdd, Nat.reduceSub, Array.replicate_succ, Array.replicate_zero, List.push_toArray, List.append_toArray, List.nil_append, List.cons_append]
  have hT := Tb.new W (r : Int) (c : Int) A n cap
  have hB : Below W.heap.size W (W.alloc (.cells #[.int .i64 (r : Int), .int .i64 (c : Int), .slice A n cap] 68)) := (Below.refl _ _).alloc (Nat.le_refl _) _
  have hJ1 := hJ 0 W _ h0 hB
  gi_wp2
  generalize W.alloc (.cells #[.int .i64 (r : Int), .int .i64 (c : Int), .slice A n cap] 68) = W1 at *
  have hz1 : W.heap.size < W1.heap.size := (Array.getElem?_eq_some_iff.1 hT).1
  gi_loopw [4, 7] (fun _ i wr => ∃ k : Nat, i = .int .i64 k ∧ k ≤ r ∧ J k wr ∧ Tb wr W.heap.size (r : Int) (c : Int) A n cap) (fun _ i _ => r - (intOf i).toNat)
  case atStart => exact ⟨0, rfl, Nat.zero_le _, hJ1, hT⟩
  case round =>
    obtain ⟨k, rfl, hk, hj, ht⟩ := hrel
    by_cases hlt : k < r
    · have c0 := ht.cell0
      have c1 := ht.cell1
      have c2 := ht.cell2
      have htl : W.heap.size < wr.heap.size := (Array.getElem?_eq_some_iff.1 ht).1
      have hrk := hrow k hlt
      have hYk := hY k hlt
      unfold rowArgs at hYk
      generalize (if c = 0 then A else A.map (·.add (k * c * 2))) = A' at hrk hYk
      clear hrow hY
      gi_wp2_with fail
      refine ⟨trivial, rfl, ?_⟩
      with_reducible refine (callsIn_wide.2 (hrk _)).mono ?_
      rintro e V1 ⟨rfl, hb1⟩
      have hj1 := hJ k _ _ hj hb1
      have ht1 : Tb V1 W.heap.size (r : Int) (c : Int) A n cap := (hb1.block _ htl).trans ht
      have htl1 : W.heap.size < V1.heap.size := (Array.getElem?_eq_some_iff.1 ht1).1
      obtain ⟨fn, tmps, assign, body, hy, hR⟩ := hYk V1 hj1
      clear c0 c1 c2 hrk hYk
      gi_wp2
      refine ⟨rfl, ?_⟩
      refine hR.mono ?_
      rintro e V2 (⟨rfl, hj2, hk2⟩ | ⟨rfl, hx2⟩)
      · have ht2 : Tb V2 W.heap.size (r : Int) (c : Int) A n cap := (hk2.2 _ (Nat.le_refl _) htl1).trans ht1
        gi_wp2
        go_roundw
        case rel => exact ⟨k + 1, by simp, by omega, hj2, ht2⟩
        case measure => simp [intOf]; omega
      · gi_wp2
        refine bodyPost_ret (results_none rfl _ _ _) rfl ?_
        exact ⟨⟨_, rfl⟩, .inr hx2⟩
    · obtain rfl : k = r := by omega
      gi_wp2
      go_end0
      exact ⟨⟨_, rfl⟩, .inl hj⟩
end Go.Proofs.YtknaghdoffigjaaGreatDoor
namespace Go.Proofs.YtknaghdoffigjaaGreatDoor
open Go.RowKit Go
attribute [local go_sem] Oper.semAt_some

theorem flat_set (zs : List (Bool × ByteArray)) (j : Nat) (y : Bool) (t : ByteArray) : ((flat zs).set (j * 2) (.bool y)).set (j * 2 + 1) (.string t) = flat (zs.set j (y, t)) := by
  induction zs generalizing j with
  | nil => rfl
  | cons p zs ih =>
    cases j with
    | zero => rfl
    | succ j =>
      rw [flat_cons, List.set_cons_succ, flat_cons, show (j + 1) * 2 = j * 2 + 1 + 1 from by omega, List.set_cons_succ, List.set_cons_succ, List.set_cons_succ, List.set_cons_succ, ih]
theorem Lw.put {w : World} {g : Nat} {zs : List (Bool × ByteArray)} (h : Lw w g zs) (j : Nat) (y : Bool) (t : ByteArray) :
    Lw ((w.setCell ⟨g, j * 2, none⟩ (.bool y)).setCell ⟨g, j * 2 + 1, none⟩ (.string t)) g (zs.set j (y, t)) := by
  unfold Lw at h ⊢
  rw [← flat_set]
  simp [World.setCell, Array.getElem?_modify, h]
theorem results_mat {fn : Func} {tmps : Array Value} {w : World} {p : Tmp} {b : Nat} {r c : Int} {A : Option Addr} {n cap : Nat} (h : fn.results = #[.cell p 28])
    (ht : tmps.getD p undef = .pointer (some ⟨b, 0, none⟩)) (hw : Mb w b r c A n cap) : (results fn tmps).run Tryz.prog w = .ok (mat r c A n cap) w := by
  have := hw.load
  rw [Array.getD_eq_getD_getElem?] at ht
  simp only [results, h]
  simp [Sem.run_bind, Result.andThen, ht, asAddr, this]
theorem Mb.put {w : World} {b : Nat} {r c : Int} {A : Option Addr} {n cap : Nat} (h : Mb w b r c A n cap) (r' c' : Int) (A' : Option Addr) (n' cap' : Nat) :
    Mb (((w.setCell ⟨b, 0, none⟩ (.int .i64 r')).setCell ⟨b, 1, none⟩ (.int .i64 c')).setCell ⟨b, 2, none⟩ (.slice A' n' cap')) b r' c' A' n' cap' := by
  unfold Mb at h ⊢
  simp [World.setCell, Array.getElem?_modify, h]
/-- The unit matrix with n rows, of which the first k are finished. -/
def oneL (n k : Nat) : List (Bool × ByteArray) := (List.range (n * n)).map fun j => if j % (n + 1) = 0 ∧ j / (n + 1) < k then (false, ⟨#[1]⟩) else (false, ⟨#[]⟩)
theorem oneL_zero (n : Nat) : oneL n 0 = List.replicate (n * n) (false, ⟨#[]⟩) := by
  unfold oneL
  apply List.ext_getElem
  · simp
  · intro i h1 h2
    simp
theorem oneL_next (n k : Nat) : (oneL n k).set (k * n + k) (false, ⟨#[1]⟩) = oneL n (k + 1) := by
  unfold oneL
  apply List.ext_getElem
  · simp
  · intro i h1 h2
    rw [List.getElem_set]
    simp only [List.getElem_map, List.getElem_range]
    have e : k * n + k = (n + 1) * k := by grind
    by_cases h : k * n + k = i
    · rw [if_pos h, if_pos]
      rw [← h, e]
      exact ⟨Nat.mul_mod_right _ _, by rw [Nat.mul_div_cancel_left _ (by omega)]; omega⟩
    · rw [if_neg h]
      have hd := Nat.div_add_mod i (n + 1)
      by_cases hm : i % (n + 1) = 0
      · have hne : i / (n + 1) ≠ k := by
          intro e2
          rw [e2, hm] at hd
          omega
        by_cases hlt : i / (n + 1) < k
        · rw [if_pos ⟨hm, hlt⟩, if_pos ⟨hm, by omega⟩]
        · rw [if_neg (fun c => hlt c.2), if_neg (fun c => by have := c.2; omega)]
      · rw [if_neg (fun c => hm c.1), if_neg (fun c => hm c.1)]

set_option maxRecDepth 100000 in
set_option maxHeartbeats 4000000 in
theorem One_fits (n : Nat) (w : World) (hn : n ≤ 200) :
    Calls Tryz.prog 22 #[.int .i64 (n : Int)] w fun e w' =>
      ∃ g, e = .returned (mat n n (some ⟨g, 0, none⟩) (n * n) (n * n)) ∧ w.heap.size ≤ g ∧ Lw w' g (oneL n n) ∧ Below w.heap.size w w' := by
  have hnn : n * n ≤ 200 * 200 := Nat.mul_le_mul hn hn
  have hsz := fun W => isSize_any (n : Int) W
  have hms : msize (n : Int) = true := by simp [msize]; omega
  rw [hms] at hsz
  have hnt := fun W => newTable_any n n (n * n) W (by omega) (by omega) rfl (by omega)
  have hf1 := fun W => From_any 1 W (by omega) (by omega)
  rw [wv_def, show wneg 1 = false from by decide, show wmag 1 = ⟨#[1]⟩ from by decide] at hf1
  unfold mat at hnt
  clear hms
  have HSZ := Lib.hid hsz
  have HNT := Lib.hid hnt
  have HF := Lib.hid hf1
  clear hsz hnt hf1
  refine (callsIn_wide (n := 0)).1 ?_
  refine callsIn_of_wp_marks Tryz.func22 rfl trivial ?_ rfl
  simp only [Tryz.ntmps22, List.size_toArray, List.length_cons, List.length_nil, Nat.reduceAdd, Nat.reduceSub, Array.replicate_succ, Array.replicate_zero, List.push_toArray, List.append_toArray, List.nil_append, List.cons_append]
  have hM := Mb.new w 0 0 none 0 0
  gi_wp2_with fail
  refine ⟨trivial, rfl, ?_⟩
  with_reducible refine (callsIn_wide.2 (HSZ.out _)).mono ?_
  rintro e w1 ⟨rfl, rfl⟩
  gi_wp2_with fail
  refine ⟨trivial, rfl, ?_⟩
  with_reducible refine (callsIn_wide.2 (HNT.out _)).mono ?_
  rintro e w2 ⟨g, rfl, hg, hL, hb2⟩
  gi_wp2_with fail
  have hT3 := Tb.new w2 (n : Int) (n : Int) (some ⟨g, 0, none⟩) (n * n) (n * n)
  have hL3 : Lw (w2.alloc (.cells #[.int .i64 (n : Int), .int .i64 (n : Int), .slice (some ⟨g, 0, none⟩) (n * n) (n * n)] 68)) g (oneL n 0) := by
    rw [oneL_zero]
    exact (Below.heap_alloc _ _ _ hL.lt).trans hL
  have hM3 : Mb (w2.alloc (.cells #[.int .i64 (n : Int), .int .i64 (n : Int), .slice (some ⟨g, 0, none⟩) (n * n) (n * n)] 68)) w.heap.size 0 0 none 0 0 := (hM.below hb2 hM.lt).alloc _
  have hB3 : Below w.heap.size w (w2.alloc (.cells #[.int .i64 (n : Int), .int .i64 (n : Int), .slice (some ⟨g, 0, none⟩) (n * n) (n * n)] 68)) := by
    have h1 : Below w.heap.size w w2 := ((Below.refl w.heap.size w).alloc (Nat.le_refl _) (.cells #[.int .i64 0, .int .i64 0, .slice none 0 0] 28)).trans (hb2.mono (by simp))
    exact h1.alloc h1.size _
  have hgs : w.heap.size + 1 ≤ g := by simpa using hg
  have hg2 : w2.heap.size ≠ g := by have := hL.lt; omega
  clear hL hM hb2 hg
  generalize w2.alloc (.cells #[.int .i64 (n : Int), .int .i64 (n : Int), .slice (some ⟨g, 0, none⟩) (n * n) (n * n)] 68) = W3 at *
  generalize w2.heap.size = b3 at *
  refine range_over (gf := 59) (first := #[mat n n (some ⟨g, 0, none⟩) (n * n) (n * n)]) rfl (enters_of Tryz.func59 (by kernel_rfl) rfl)
    (each_visits n n (some ⟨g, 0, none⟩) (n * n) (n * n) (by omega) (by omega) (Nat.le_refl _) (by unfold maxLen; omega)) (fun k => rfl)
    (fun k V => Lw V g (oneL n k) ∧ Tb V b3 (n : Int) (n : Int) (some ⟨g, 0, none⟩) (n * n) (n * n) ∧ Mb V w.heap.size 0 0 none 0 0 ∧ Below w.heap.size w V ∧ W3.heap.size ≤ V.heap.size)
    (fun _ _ => False) ?own (fun _ _ _ h _ => h.elim) ⟨hL3, hT3, hM3, hB3, Nat.le_refl _⟩
    (fun k => { tmps := #[.int .i64 (n : Int), undef, .pointer (some ⟨w.heap.size, 0, none⟩), .pointer (some ⟨b3, 0, none⟩), .int .i64 (k : Int), .slice (if n = 0 then some ⟨g, 0, none⟩ else (some (⟨g, 0, none⟩ : Addr)).map (·.add (k * n * 2))) n n, .int .i64 (n : Int), .bool true, .bool false, undef, .int .i64 (n : Int), .int .i64 (n : Int),
      .agg #[.int .i64 (n : Int), .int .i64 (n : Int), .slice (some ⟨g, 0, none⟩) (n * n) (n * n)], .agg #[.int .i64 (n : Int), .int .i64 (n : Int), .slice (some ⟨g, 0, none⟩) (n * n) (n * n)], .func (.func 59) #[.agg #[.int .i64 (n : Int), .int .i64 (n : Int), .slice (some ⟨g, 0, none⟩) (n * n) (n * n)]] #[],
      .int .i64 (k : Int), .slice (if n = 0 then some ⟨g, 0, none⟩ else (some (⟨g, 0, none⟩ : Addr)).map (·.add (k * n * 2))) n n, undef, undef, undef, undef, undef, undef], defers := [] }) ?assign ?body ?done ?stop
  case own =>
    rintro k V V' ⟨h1, h2, h3, h4, h5⟩ hl
    exact ⟨hl.2 _ _ h1 rfl, hl.2 _ _ h2 rfl, hl.2 _ _ h3 rfl, h4.trans (hl.1.mono (by have := hB3.size; omega)), Nat.le_trans h5 hl.1.size⟩
  case assign =>
    intro l k V K hK
    unfold rowArgs
    generalize (if n = 0 then some (⟨g, 0, none⟩ : Addr) else (some (⟨g, 0, none⟩ : Addr)).map (·.add (k * n * 2))) = A' at *
    gi_wp2
    exact hK
  case body =>
    rintro l k V hk hz ⟨h1, h2, h3, h4, h5⟩
    have hn0 : n ≠ 0 := by omega
    simp only [if_neg hn0, Option.map_some, add_from0]
    gi_wp2_with fail
    refine ⟨trivial, rfl, ?_⟩
    refine (CallsIn.inRound l (callsIn_wide.2 (HF.out _))).mono ?_
    rintro e V1 ⟨rfl, hb1⟩
    have hlen : (oneL n k).length = n * n := by simp [oneL]
    have hj : k * n + k < n * n := by
      have : (k + 1) * n ≤ n * n := Nat.mul_le_mul_right n hk
      rw [Nat.add_mul, Nat.one_mul] at this
      omega
    have hL1 := h1.step hb1
    have c0 := hL1.cell0 (k * n + k) (by omega)
    have c1 := hL1.cell1 (k * n + k) (by omega)
    have ej : (k * n + k) * 2 = k * n * 2 + k * 2 := by rw [Nat.add_mul]
    rw [ej] at c0 c1
    have f0 : V1.frozen? ⟨g, k * n * 2 + k * 2, none⟩ = false := by
      unfold Lw at hL1
      simp [World.frozen?, hL1]
    have f1 : V1.frozen? ⟨g, k * n * 2 + k * 2 + 1, none⟩ = false := by
      unfold Lw at hL1
      simp [World.frozen?, hL1]
    generalize ((oneL n k)[k * n + k]'(by omega)).1 = u0 at c0
    generalize ((oneL n k)[k * n + k]'(by omega)).2 = u1 at c1
    have hP := hL1.put (k * n + k) false ⟨#[1]⟩
    rw [ej, oneL_next] at hP
    gi_wp2_with fail
    have hgW : g < W3.heap.size := hL3.lt
    have hbW : b3 < W3.heap.size := heap_lt hT3
    have hsz2 : ∀ (X : World) (p : Addr) (u : Value), (X.setCell p u).heap.size = X.heap.size := fun X p u => by simp [World.setCell]
    refine ⟨⟨?_, fun i hi1 hi2 => ?_⟩, ⟨hP, ?_, ?_, ?_, ?_⟩⟩
    · rw [hsz2, hsz2]; exact hb1.size
    · exact (Below.heap_setCell _ _ _ _ (by simp only []; omega)).trans ((Below.heap_setCell _ _ _ _ (by simp only []; omega)).trans (hb1.block i hi2))
    · exact (Below.heap_setCell _ _ _ _ (by simp only []; omega)).trans ((Below.heap_setCell _ _ _ _ (by simp only []; omega)).trans ((hb1.block _ (by omega)).trans h2))
    · exact (Below.heap_setCell _ _ _ _ (by simp only []; omega)).trans ((Below.heap_setCell _ _ _ _ (by simp only []; omega)).trans ((hb1.block _ h3.lt).trans h3))
    · exact ((h4.trans (hb1.mono h4.size)).setCell (by simp only []; omega) _).setCell (by simp only []; omega) _
    · rw [hsz2, hsz2]; exact Nat.le_trans h5 hb1.size
  case done =>
    rintro D V hD ⟨h1, h2, h3, h4, h5⟩ hd
    have c0 := h2.cell0
    have c1 := h2.cell1
    have c2 := h2.cell2
    gi_wp2_with fail
    refine ⟨trivial, rfl, ?_⟩
    have hmo := matrixOf_any (n : Int) (n : Int) (some ⟨g, 0, none⟩) (n * n) (n * n) V
    unfold mat at hmo
    refine (callsIn_wide.2 hmo).mono ?_
    rintro e V1 ⟨rfl, hb1⟩
    have hM1 := h3.below hb1 h3.lt
    have y0 := hM1.cell0
    have y1 := hM1.cell1
    have y2 := hM1.cell2
    have f0 : V1.frozen? ⟨w.heap.size, 0, none⟩ = false := by
      unfold Mb at hM1
      simp [World.frozen?, hM1]
    have f1 : V1.frozen? ⟨w.heap.size, 1, none⟩ = false := by
      unfold Mb at hM1
      simp [World.frozen?, hM1]
    have f2 : V1.frozen? ⟨w.heap.size, 2, none⟩ = false := by
      unfold Mb at hM1
      simp [World.frozen?, hM1]
    clear c0 c1 c2 hmo
    gi_wp2_with fail
    have hgW : g < W3.heap.size := hL3.lt
    have hDs : D < V.heap.size := heap_lt hd
    have hd3 : (((V1.setCell ⟨w.heap.size, 0, none⟩ (.int .i64 (n : Int))).setCell ⟨w.heap.size, 1, none⟩ (.int .i64 (n : Int))).setCell ⟨w.heap.size, 2, none⟩ (.slice (some ⟨g, 0, none⟩) (n * n) (n * n))).heap[D]? = some (.deferred (some [])) :=
      (Below.heap_setCell _ _ _ _ (by simp only []; omega)).trans ((Below.heap_setCell _ _ _ _ (by simp only []; omega)).trans ((Below.heap_setCell _ _ _ _ (by simp only []; omega)).trans ((hb1.block _ hDs).trans hd)))
    have hP := hM1.put (n : Int) (n : Int) (some ⟨g, 0, none⟩) (n * n) (n * n)
    have hLf : Lw (((V1.setCell ⟨w.heap.size, 0, none⟩ (.int .i64 (n : Int))).setCell ⟨w.heap.size, 1, none⟩ (.int .i64 (n : Int))).setCell ⟨w.heap.size, 2, none⟩ (.slice (some ⟨g, 0, none⟩) (n * n) (n * n))) g (oneL n n) :=
      (Below.heap_setCell _ _ _ _ (by simp only []; omega)).trans ((Below.heap_setCell _ _ _ _ (by simp only []; omega)).trans ((Below.heap_setCell _ _ _ _ (by simp only []; omega)).trans ((hb1.block _ h1.lt).trans h1)))
    have hBf := (((h4.trans (hb1.mono h4.size)).setCell (p := ⟨w.heap.size, 0, none⟩) (Nat.le_refl _) (.int .i64 (n : Int))).setCell (p := ⟨w.heap.size, 1, none⟩) (Nat.le_refl _) (.int .i64 (n : Int))).setCell (p := ⟨w.heap.size, 2, none⟩) (Nat.le_refl _) (.slice (some ⟨g, 0, none⟩) (n * n) (n * n))
    have hW3 := hB3.size
    refine ⟨by simp, .inl ⟨_, _, rfl, run_takeDeferred hd3, ?_⟩⟩
    have hlp := later_put (B := w.heap.size) (.deferred none) (by omega) hd3 rfl
    exact ⟨_, results_mat (b := w.heap.size) rfl rfl (hlp.2 _ _ hP rfl), g, rfl, by omega, hlp.2 _ _ hLf rfl, hBf.trans hlp.1⟩
  case stop =>
    rintro D c V _ h _
    exact h.elim
end Go.Proofs.YtknaghdoffigjaaGreatDoor
