import Derived.Test.YtknaghdoffigjaaGreatDoorZMRight
import Derived.Test.YtknaghdoffigjaaGreatDoorInvG
import Derived.Test.YtknaghdoffigjaaGreatDoorMRes
set_option linter.unusedSimpArgs false
set_option linter.unusedVariables false
set_option linter.unnecessarySimpa false
namespace Go.Proofs.YtknaghdoffigjaaGreatDoor
open Go.RowKit Go
attribute [local go_sem] Oper.semAt_some
def rowArgs (c : Nat) (A : Option Addr) (k : Nat) : Array Value := #[.int .i64 (k : Int), .slice (if c = 0 then A else A.map (·.add (k * c * 2))) c c]
set_option maxRecDepth 100000 in
set_option maxHeartbeats 2000000 in
theorem each_visits (r c : Nat) (A : Option Addr) (n cap : Nat) (hr : r ≤ 400) (hc : c ≤ 400) (hn : r * c ≤ cap) (hcap : cap ≤ maxLen) :
  Visits Tryz.prog 59 #[mat r c A n cap] (rowArgs c A) r := by
 intro l J Jx W hJ hJx hY h0
 have hrow := fun (k : Nat) (hk : k < r) V => row_any r c k A n cap V hk hr hc hn hcap
 unfold mat at *
 refine callsIn_of_wp Tryz.func59 rfl trivial ?_ rfl
 simp only [Tryz.ntmps59, List.size_toArray, List.length_cons, List.length_nil, Nat.reduceAdd, Nat.reduceSub, Array.replicate_succ, Array.replicate_zero, List.push_toArray, List.append_toArray, List.nil_append, List.cons_append]
 have hT := Tb.new W (r : Int) (c : Int) A n cap
 have hB : Below W.heap.size W (W.alloc (.cells #[.int .i64 (r : Int), .int .i64 (c : Int), .slice A n cap] 68)) := (Below.refl _ _).alloc (Nat.le_refl _) _
 have hJ1 := hJ 0 W _ h0 hB
 gi_wp2
 generalize W.alloc (.cells #[.int .i64 (r : Int), .int .i64 (c : Int), .slice A n cap] 68) = W1 at *
 have hz1 : W.heap.size < W1.heap.size := (Array.getElem?_eq_some_iff.1 hT).1
 gi_loopw [4, 7] (fun _ i wr => ∃ k : Nat, i = .int .i64 k ∧ k ≤ r ∧ J k wr ∧ Tb wr W.heap.size (r : Int) (c : Int) A n cap) (fun _ i _ => r - (intOf i).toNat)
 case atStart => exact ⟨0, rfl, Nat.zero_le _, hJ1, hT⟩
 case round =>
  obtain ⟨k, rfl, hk, hj, ht⟩ := hrel
  by_cases hlt : k < r
  ·have c0 := ht.cell0
   have c1 := ht.cell1
   have c2 := ht.cell2
   have htl : W.heap.size < wr.heap.size := (Array.getElem?_eq_some_iff.1 ht).1
   have hrk := hrow k hlt
   have hYk := hY k hlt
   unfold rowArgs at hYk
   generalize (if c = 0 then A else A.map (·.add (k * c * 2))) = A' at hrk hYk
   clear hrow hY
   gi_wp2_with fail
   refine ⟨trivial, rfl, ?_⟩
   with_reducible refine (callsIn_wide.2 (hrk _)).mono ?_
   rintro e V1 ⟨rfl, hb1⟩
   have hj1 := hJ k _ _ hj hb1
   have ht1 : Tb V1 W.heap.size (r : Int) (c : Int) A n cap := (hb1.block _ htl).trans ht
   have htl1 : W.heap.size < V1.heap.size := (Array.getElem?_eq_some_iff.1 ht1).1
   obtain ⟨fn, tmps, assign, body, hy, hR⟩ := hYk V1 hj1
   clear c0 c1 c2 hrk hYk
   gi_wp2
   refine ⟨rfl, ?_⟩
   refine hR.mono ?_
   rintro e V2 (⟨rfl, hj2, hk2⟩ | ⟨rfl, hx2⟩)
   ·have ht2 : Tb V2 W.heap.size (r : Int) (c : Int) A n cap := (hk2.2 _ (Nat.le_refl _) htl1).trans ht1
    gi_wp2
    go_roundw
    case rel => exact ⟨k + 1, by simp, by omega, hj2, ht2⟩
    case measure => simp [intOf]; omega
   ·gi_wp2
    refine bodyPost_ret (results_none rfl _ _ _) rfl ?_
    exact ⟨⟨_, rfl⟩, .inr hx2⟩
  ·obtain rfl : k = r := by omega
   gi_wp2
   go_end0
   exact ⟨⟨_, rfl⟩, .inl hj⟩
end Go.Proofs.YtknaghdoffigjaaGreatDoor
namespace Go.Proofs.YtknaghdoffigjaaGreatDoor
open Go.RowKit Go
attribute [local go_sem] Oper.semAt_some
theorem flat_set (zs : List (Bool × ByteArray)) (j : Nat) (y : Bool) (t : ByteArray) : ((flat zs).set (j * 2) (.bool y)).set (j * 2 + 1) (.string t) = flat (zs.set j (y, t)) := by
 induction zs generalizing j with
 | nil => rfl
 | cons p zs ih =>
  cases j with
  | zero => rfl
  | succ j =>
   rw [flat_cons, List.set_cons_succ, flat_cons, show (j + 1) * 2 = j * 2 + 1 + 1 from by omega, List.set_cons_succ, List.set_cons_succ, List.set_cons_succ, List.set_cons_succ, ih]
theorem Lw.put {w : World} {g : Nat} {zs : List (Bool × ByteArray)} (h : Lw w g zs) (j : Nat) (y : Bool) (t : ByteArray) :
  Lw ((w.setCell ⟨g, j * 2, none⟩ (.bool y)).setCell ⟨g, j * 2 + 1, none⟩ (.string t)) g (zs.set j (y, t)) := by
 unfold Lw at h ⊢
 rw [← flat_set]
 simp [World.setCell, Array.getElem?_modify, h]
theorem results_mat {fn : Func} {tmps : Array Value} {w : World} {p : Tmp} {b : Nat} {r c : Int} {A : Option Addr} {n cap : Nat} (h : fn.results = #[.cell p 28])
  (ht : tmps.getD p undef = .pointer (some ⟨b, 0, none⟩)) (hw : Mb w b r c A n cap) : (results fn tmps).run Tryz.prog w = .ok (mat r c A n cap) w := by
 have := hw.load
 rw [Array.getD_eq_getD_getElem?] at ht
 simp only [results, h]
 simp [Sem.run_bind, Result.andThen, ht, asAddr, this]
theorem Mb.put {w : World} {b : Nat} {r c : Int} {A : Option Addr} {n cap : Nat} (h : Mb w b r c A n cap) (r' c' : Int) (A' : Option Addr) (n' cap' : Nat) :
  Mb (((w.setCell ⟨b, 0, none⟩ (.int .i64 r')).setCell ⟨b, 1, none⟩ (.int .i64 c')).setCell ⟨b, 2, none⟩ (.slice A' n' cap')) b r' c' A' n' cap' := by
 unfold Mb at h ⊢
 simp [World.setCell, Array.getElem?_modify, h]
def oneL (n k : Nat) : List (Bool × ByteArray) := (List.range (n * n)).map fun j => if j % (n + 1) = 0 ∧ j / (n + 1) < k then (false, ⟨#[1]⟩) else (false, ⟨#[]⟩)
theorem oneL_zero (n : Nat) : oneL n 0 = List.replicate (n * n) (false, ⟨#[]⟩) := by
 unfold oneL
 apply List.ext_getElem
 ·simp
 ·intro i h1 h2
  simp
theorem oneL_next (n k : Nat) : (oneL n k).set (k * n + k) (false, ⟨#[1]⟩) = oneL n (k + 1) := by
 unfold oneL
 apply List.ext_getElem
 ·simp
 ·intro i h1 h2
  rw [List.getElem_set]
  simp only [List.getElem_map, List.getElem_range]
  have e : k * n + k = (n + 1) * k := by grind
  by_cases h : k * n + k = i
  ·rw [if_pos h, if_pos]
   rw [← h, e]
   exact ⟨Nat.mul_mod_right _ _, by rw [Nat.mul_div_cancel_left _ (by omega)]; omega⟩
  ·rw [if_neg h]
   have hd := Nat.div_add_mod i (n + 1)
   by_cases hm : i % (n + 1) = 0
   ·have hne : i / (n + 1) ≠ k := by
     intro e2
     rw [e2, hm] at hd
     omega
    by_cases hlt : i / (n + 1) < k
    ·rw [if_pos ⟨hm, hlt⟩, if_pos ⟨hm, by omega⟩]
    ·rw [if_neg (fun c => hlt c.2), if_neg (fun c => by have := c.2; omega)]
   ·rw [if_neg (fun c => hm c.1), if_neg (fun c => hm c.1)]
set_option maxRecDepth 100000 in
set_option maxHeartbeats 4000000 in
theorem One_fits (n : Nat) (w : World) (hn : n ≤ 200) :
  Calls Tryz.prog 22 #[.int .i64 (n : Int)] w fun e w' =>
   ∃ g, e = .returned (mat n n (some ⟨g, 0, none⟩) (n * n) (n * n)) ∧ w.heap.size ≤ g ∧ Lw w' g (oneL n n) ∧ Below w.heap.size w w' := by
 have hnn : n * n ≤ 200 * 200 := Nat.mul_le_mul hn hn
 have hsz := fun W => isSize_any (n : Int) W
 have hms : msize (n : Int) = true := by simp [msize]; omega
 rw [hms] at hsz
 have hnt := fun W => newTable_any n n (n * n) W (by omega) (by omega) rfl (by omega)
 have hf1 := fun W => From_any 1 W (by omega) (by omega)
 rw [wv_def, show wneg 1 = false from by decide, show wmag 1 = ⟨#[1]⟩ from by decide] at hf1
 unfold mat at hnt
 clear hms
 have HSZ := Lib.hid hsz
 have HNT := Lib.hid hnt
 have HF := Lib.hid hf1
 clear hsz hnt hf1
 refine (callsIn_wide (n := 0)).1 ?_
 refine callsIn_of_wp_marks Tryz.func22 rfl trivial ?_ rfl
 simp only [Tryz.ntmps22, List.size_toArray, List.length_cons, List.length_nil, Nat.reduceAdd, Nat.reduceSub, Array.replicate_succ, Array.replicate_zero, List.push_toArray, List.append_toArray, List.nil_append, List.cons_append]
 have hM := Mb.new w 0 0 none 0 0
 gi_wp2_with fail
 refine ⟨trivial, rfl, ?_⟩
 with_reducible refine (callsIn_wide.2 (HSZ.out _)).mono ?_
 rintro e w1 ⟨rfl, rfl⟩
 gi_wp2_with fail
 refine ⟨trivial, rfl, ?_⟩
 with_reducible refine (callsIn_wide.2 (HNT.out _)).mono ?_
 rintro e w2 ⟨g, rfl, hg, hL, hb2⟩
 gi_wp2_with fail
 have hT3 := Tb.new w2 (n : Int) (n : Int) (some ⟨g, 0, none⟩) (n * n) (n * n)
 have hL3 : Lw (w2.alloc (.cells #[.int .i64 (n : Int), .int .i64 (n : Int), .slice (some ⟨g, 0, none⟩) (n * n) (n * n)] 68)) g (oneL n 0) := by
  rw [oneL_zero]
  exact (Below.heap_alloc _ _ _ hL.lt).trans hL
 have hM3 : Mb (w2.alloc (.cells #[.int .i64 (n : Int), .int .i64 (n : Int), .slice (some ⟨g, 0, none⟩) (n * n) (n * n)] 68)) w.heap.size 0 0 none 0 0 := (hM.below hb2 hM.lt).alloc _
 have hB3 : Below w.heap.size w (w2.alloc (.cells #[.int .i64 (n : Int), .int .i64 (n : Int), .slice (some ⟨g, 0, none⟩) (n * n) (n * n)] 68)) := by
  have h1 : Below w.heap.size w w2 := ((Below.refl w.heap.size w).alloc (Nat.le_refl _) (.cells #[.int .i64 0, .int .i64 0, .slice none 0 0] 28)).trans (hb2.mono (by simp))
  exact h1.alloc h1.size _
 have hgs : w.heap.size + 1 ≤ g := by simpa using hg
 have hg2 : w2.heap.size ≠ g := by have := hL.lt; omega
 clear hL hM hb2 hg
 generalize w2.alloc (.cells #[.int .i64 (n : Int), .int .i64 (n : Int), .slice (some ⟨g, 0, none⟩) (n * n) (n * n)] 68) = W3 at *
 generalize w2.heap.size = b3 at *
 refine range_over (gf := 59) (first := #[mat n n (some ⟨g, 0, none⟩) (n * n) (n * n)]) rfl (enters_of Tryz.func59 (by kernel_rfl) rfl)
  (each_visits n n (some ⟨g, 0, none⟩) (n * n) (n * n) (by omega) (by omega) (Nat.le_refl _) (by unfold maxLen; omega)) (fun k => rfl)
  (fun k V => Lw V g (oneL n k) ∧ Tb V b3 (n : Int) (n : Int) (some ⟨g, 0, none⟩) (n * n) (n * n) ∧ Mb V w.heap.size 0 0 none 0 0 ∧ Below w.heap.size w V ∧ W3.heap.size ≤ V.heap.size)
  (fun _ _ => False) ?own (fun _ _ _ h _ => h.elim) ⟨hL3, hT3, hM3, hB3, Nat.le_refl _⟩
  (fun k => { tmps := #[.int .i64 (n : Int), undef, .pointer (some ⟨w.heap.size, 0, none⟩), .pointer (some ⟨b3, 0, none⟩), .int .i64 (k : Int), .slice (if n = 0 then some ⟨g, 0, none⟩ else (some (⟨g, 0, none⟩ : Addr)).map (·.add (k * n * 2))) n n, .int .i64 (n : Int), .bool true, .bool false, undef, .int .i64 (n : Int), .int .i64 (n : Int),
   .agg #[.int .i64 (n : Int), .int .i64 (n : Int), .slice (some ⟨g, 0, none⟩) (n * n) (n * n)], .agg #[.int .i64 (n : Int), .int .i64 (n : Int), .slice (some ⟨g, 0, none⟩) (n * n) (n * n)], .func (.func 59) #[.agg #[.int .i64 (n : Int), .int .i64 (n : Int), .slice (some ⟨g, 0, none⟩) (n * n) (n * n)]] #[],
   .int .i64 (k : Int), .slice (if n = 0 then some ⟨g, 0, none⟩ else (some (⟨g, 0, none⟩ : Addr)).map (·.add (k * n * 2))) n n, undef, undef, undef, undef, undef, undef], defers := [] }) ?assign ?body ?done ?stop
 case own =>
  rintro k V V' ⟨h1, h2, h3, h4, h5⟩ hl
  exact ⟨hl.2 _ _ h1 rfl, hl.2 _ _ h2 rfl, hl.2 _ _ h3 rfl, h4.trans (hl.1.mono (by have := hB3.size; omega)), Nat.le_trans h5 hl.1.size⟩
 case assign =>
  intro l k V K hK
  unfold rowArgs
  generalize (if n = 0 then some (⟨g, 0, none⟩ : Addr) else (some (⟨g, 0, none⟩ : Addr)).map (·.add (k * n * 2))) = A' at *
  gi_wp2
  exact hK
 case body =>
  rintro l k V hk hz ⟨h1, h2, h3, h4, h5⟩
  have hn0 : n ≠ 0 := by omega
  simp only [if_neg hn0, Option.map_some, add_from0]
  gi_wp2_with fail
  refine ⟨trivial, rfl, ?_⟩
  refine (CallsIn.inRound l (callsIn_wide.2 (HF.out _))).mono ?_
  rintro e V1 ⟨rfl, hb1⟩
  have hlen : (oneL n k).length = n * n := by simp [oneL]
  have hj : k * n + k < n * n := by
   have : (k + 1) * n ≤ n * n := Nat.mul_le_mul_right n hk
   rw [Nat.add_mul, Nat.one_mul] at this
   omega
  have hL1 := h1.step hb1
  have c0 := hL1.cell0 (k * n + k) (by omega)
  have c1 := hL1.cell1 (k * n + k) (by omega)
  have ej : (k * n + k) * 2 = k * n * 2 + k * 2 := by rw [Nat.add_mul]
  rw [ej] at c0 c1
  have f0 : V1.frozen? ⟨g, k * n * 2 + k * 2, none⟩ = false := by
   unfold Lw at hL1
   simp [World.frozen?, hL1]
  have f1 : V1.frozen? ⟨g, k * n * 2 + k * 2 + 1, none⟩ = false := by
   unfold Lw at hL1
   simp [World.frozen?, hL1]
  generalize ((oneL n k)[k * n + k]'(by omega)).1 = u0 at c0
  generalize ((oneL n k)[k * n + k]'(by omega)).2 = u1 at c1
  have hP := hL1.put (k * n + k) false ⟨#[1]⟩
  rw [ej, oneL_next] at hP
  gi_wp2_with fail
  have hgW : g < W3.heap.size := hL3.lt
  have hbW : b3 < W3.heap.size := heap_lt hT3
  have hsz2 : ∀ (X : World) (p : Addr) (u : Value), (X.setCell p u).heap.size = X.heap.size := fun X p u => by simp [World.setCell]
  refine ⟨⟨?_, fun i hi1 hi2 => ?_⟩, ⟨hP, ?_, ?_, ?_, ?_⟩⟩
  ·rw [hsz2, hsz2]; exact hb1.size
  ·exact (Below.heap_setCell _ _ _ _ (by simp only []; omega)).trans ((Below.heap_setCell _ _ _ _ (by simp only []; omega)).trans (hb1.block i hi2))
  ·exact (Below.heap_setCell _ _ _ _ (by simp only []; omega)).trans ((Below.heap_setCell _ _ _ _ (by simp only []; omega)).trans ((hb1.block _ (by omega)).trans h2))
  ·exact (Below.heap_setCell _ _ _ _ (by simp only []; omega)).trans ((Below.heap_setCell _ _ _ _ (by simp only []; omega)).trans ((hb1.block _ h3.lt).trans h3))
  ·exact ((h4.trans (hb1.mono h4.size)).setCell (by simp only []; omega) _).setCell (by simp only []; omega) _
  ·rw [hsz2, hsz2]; exact Nat.le_trans h5 hb1.size
 case done =>
  rintro D V hD ⟨h1, h2, h3, h4, h5⟩ hd
  have c0 := h2.cell0
  have c1 := h2.cell1
  have c2 := h2.cell2
  gi_wp2_with fail
  refine ⟨trivial, rfl, ?_⟩
  have hmo := matrixOf_any (n : Int) (n : Int) (some ⟨g, 0, none⟩) (n * n) (n * n) V
  unfold mat at hmo
  refine (callsIn_wide.2 hmo).mono ?_
  rintro e V1 ⟨rfl, hb1⟩
  have hM1 := h3.below hb1 h3.lt
  have y0 := hM1.cell0
  have y1 := hM1.cell1
  have y2 := hM1.cell2
  have f0 : V1.frozen? ⟨w.heap.size, 0, none⟩ = false := by
   unfold Mb at hM1
   simp [World.frozen?, hM1]
  have f1 : V1.frozen? ⟨w.heap.size, 1, none⟩ = false := by
   unfold Mb at hM1
   simp [World.frozen?, hM1]
  have f2 : V1.frozen? ⟨w.heap.size, 2, none⟩ = false := by
   unfold Mb at hM1
   simp [World.frozen?, hM1]
  clear c0 c1 c2 hmo
  gi_wp2_with fail
  have hgW : g < W3.heap.size := hL3.lt
  have hDs : D < V.heap.size := heap_lt hd
  have hd3 : (((V1.setCell ⟨w.heap.size, 0, none⟩ (.int .i64 (n : Int))).setCell ⟨w.heap.size, 1, none⟩ (.int .i64 (n : Int))).setCell ⟨w.heap.size, 2, none⟩ (.slice (some ⟨g, 0, none⟩) (n * n) (n * n))).heap[D]? = some (.deferred (some [])) :=
   (Below.heap_setCell _ _ _ _ (by simp only []; omega)).trans ((Below.heap_setCell _ _ _ _ (by simp only []; omega)).trans ((Below.heap_setCell _ _ _ _ (by simp only []; omega)).trans ((hb1.block _ hDs).trans hd)))
  have hP := hM1.put (n : Int) (n : Int) (some ⟨g, 0, none⟩) (n * n) (n * n)
  have hLf : Lw (((V1.setCell ⟨w.heap.size, 0, none⟩ (.int .i64 (n : Int))).setCell ⟨w.heap.size, 1, none⟩ (.int .i64 (n : Int))).setCell ⟨w.heap.size, 2, none⟩ (.slice (some ⟨g, 0, none⟩) (n * n) (n * n))) g (oneL n n) :=
   (Below.heap_setCell _ _ _ _ (by simp only []; omega)).trans ((Below.heap_setCell _ _ _ _ (by simp only []; omega)).trans ((Below.heap_setCell _ _ _ _ (by simp only []; omega)).trans ((hb1.block _ h1.lt).trans h1)))
  have hBf := (((h4.trans (hb1.mono h4.size)).setCell (p := ⟨w.heap.size, 0, none⟩) (Nat.le_refl _) (.int .i64 (n : Int))).setCell (p := ⟨w.heap.size, 1, none⟩) (Nat.le_refl _) (.int .i64 (n : Int))).setCell (p := ⟨w.heap.size, 2, none⟩) (Nat.le_refl _) (.slice (some ⟨g, 0, none⟩) (n * n) (n * n))
  have hW3 := hB3.size
  refine ⟨by simp, .inl ⟨_, _, rfl, run_takeDeferred hd3, ?_⟩⟩
  have hlp := later_put (B := w.heap.size) (.deferred none) (by omega) hd3 rfl
  exact ⟨_, results_mat (b := w.heap.size) rfl rfl (hlp.2 _ _ hP rfl), g, rfl, by omega, hlp.2 _ _ hLf rfl, hBf.trans hlp.1⟩
 case stop =>
  rintro D c V _ h _
  exact h.elim
end Go.Proofs.YtknaghdoffigjaaGreatDoor
namespace Go.Proofs.YtknaghdoffigjaaGreatDoor
open Go.RowKit Go
attribute [local go_sem] Oper.semAt_some
def TbQ (w : World) (b : Nat) (r c : Int) (A : Option Addr) (n cap : Nat) : Prop := w.heap[b]? = some (.cells #[.int .i64 r, .int .i64 c, .slice A n cap] 88 (0, 0))
section
variable {w w' : World} {b : Nat} {r c : Int} {A : Option Addr} {n cap : Nat}
theorem TbQ.cell0 (h : TbQ w b r c A n cap) : w.cell? ⟨b, 0, none⟩ = some (.int .i64 r) := cell_of_row w b 0 _ _ _ h
theorem TbQ.cell1 (h : TbQ w b r c A n cap) : w.cell? ⟨b, 1, none⟩ = some (.int .i64 c) := cell_of_row w b 1 _ _ _ h
theorem TbQ.cell2 (h : TbQ w b r c A n cap) : w.cell? ⟨b, 2, none⟩ = some (.slice A n cap) := cell_of_row w b 2 _ _ _ h
theorem TbQ.new (w : World) (r c : Int) (A : Option Addr) (n cap : Nat) : TbQ (w.alloc (.cells #[.int .i64 r, .int .i64 c, .slice A n cap] 88)) w.heap.size r c A n cap := heap_alloc_new w _
theorem TbQ.new1 (w : World) (o : Obj) (r c : Int) (A : Option Addr) (n cap : Nat) : TbQ ((w.alloc o).alloc (.cells #[.int .i64 r, .int .i64 c, .slice A n cap] 88)) (w.heap.size + 1) r c A n cap := by
 have := TbQ.new (w.alloc o) r c A n cap
 simpa using this
theorem TbQ.load (h : TbQ w b r c A n cap) : (loadVar 88 ⟨b, 0, none⟩).run Tryz.prog w = .ok (mat r c A n cap) w := by
 have h0 := h.cell0
 have h1 := h.cell1
 have h2 := h.cell2
 simp [loadVar, go_sem, h0, h1, h2, mat]
end
theorem post_tableQ {fn : Func} {R : Ending → World → Prop} {a : Act} {w : World} {p : Tmp} {b : Nat} {r c : Int} {A : Option Addr} {n cap : Nat} (h : fn.results = #[.cell p 88])
  (ht : a.tmps.getD p undef = .pointer (some ⟨b, 0, none⟩)) (hw : TbQ w b r c A n cap) (hd : a.defers = []) (hR : R (.returned (mat r c A n cap)) w) : bodyPost Tryz.prog fn R .ret a w := by
 refine bodyPost_ret (v := mat r c A n cap) ?_ hd hR
 have := hw.load
 rw [Array.getD_eq_getD_getElem?] at ht
 simp only [results, h]
 simp [Sem.run_bind, Result.andThen, ht, asAddr, this]
theorem make_words (n : Nat) (hn : n ≤ 80000) (w : World) :
  (Instr.makeSlice 84 (.int .i64 (n : Int)) (.int .i64 (n : Int))).run Tryz.prog w = .ok (.slice (some ⟨w.heap.size, 0, none⟩) n n) (w.alloc (.cells (U (List.replicate n 0)) 80)) := by
 obtain ⟨i0, hi, hz0, hz1, hz2⟩ := info_parts info_u64
 have hr := run_make (P := Tryz.prog) w 84 80 i0 (.int .u64 0) Tryz.underlying84 hi hz0 .i64 .i64 n n (by omega) (by omega) (by rw [hz2]; omega) (by omega)
 rw [hz1] at hr
 simp only [Int.toNat_natCast, Nat.mul_one] at hr
 rw [← madeU]
 exact hr
theorem slice_rowQ (A : Option Addr) (n cap lo hi : Nat) (h1 : lo ≤ hi) (h2 : hi ≤ cap) (w : World) :
  (Instr.slice 84 (.slice A n cap) (some (.int .i64 (lo : Int))) (some (.int .i64 (hi : Int))) (some (.int .i64 (hi : Int)))).run Tryz.prog w = .ok (.slice (if hi = lo then A else A.map (·.add lo)) (hi - lo) (hi - lo)) w := by
 have h := run_slice_lhm (P := Tryz.prog) (w := w) 84 A n cap (by kernel_rfl) .i64 .i64 .i64 (lo : Int) (hi : Int) (hi : Int) (by omega) (by omega) (by omega) (by omega)
 rw [h]
 have e : Tryz.prog.elem 84 = 80 := by kernel_rfl
 rw [e, Tryz.sizeOf80]
 simp [Result.andThen, sliced]
set_option maxHeartbeats 1000000 in
theorem row_anyQ (r c i : Nat) (A : Option Addr) (n cap : Nat) (w : World) (hi : i < r) (hr : r ≤ 400) (hc : c ≤ 400) (hn : r * c ≤ cap) (hcap : cap ≤ maxLen) :
  Calls Tryz.prog 125 #[mat r c A n cap, .int .i64 (i : Int)] w fun e w' =>
   e = .returned (.slice (if c = 0 then A else A.map (·.add (i * c))) c c) ∧ Below w.heap.size w w' := by
 have hi400 : i ≤ 400 := by omega
 have h1 : i * c ≤ 400 * 400 := Nat.mul_le_mul hi400 hc
 have h2 : (i + 1) * c = i * c + c := by rw [Nat.add_mul, Nat.one_mul]
 have h3 : (i + 1) * c ≤ r * c := Nat.mul_le_mul_right c hi
 obtain ⟨lo, hlo⟩ : ∃ lo, lo = i * c := ⟨_, rfl⟩
 rw [← hlo] at h1 h2 ⊢
 obtain ⟨up, hup⟩ : ∃ up, up = lo + c := ⟨_, rfl⟩
 have hsl := slice_rowQ A n cap lo up (by omega) (by omega)
 rw [show up - lo = c from by omega] at hsl
 have hif : (if up = lo then A else A.map (·.add lo)) = (if c = 0 then A else A.map (·.add lo)) := by
  by_cases h : c = 0
  ·rw [if_pos h, if_pos (by omega)]
  ·rw [if_neg h, if_neg (by omega)]
 rw [hif] at hsl
 have e1 : (i : Int) * (c : Int) = (lo : Int) := by rw [hlo, Int.natCast_mul]
 have e2 : ((i : Int) + 1) * (c : Int) = (up : Int) := by rw [Int.add_mul, e1, Int.one_mul]; omega
 have w0 : IntKind.i64.wrap ((i : Int) + 1) = (i : Int) + 1 := IntWalk.i64_in _ (by omega)
 have w1 : IntKind.i64.wrap (lo : Int) = lo := IntWalk.i64_in _ (by omega)
 have w2 : IntKind.i64.wrap (up : Int) = up := IntWalk.i64_in _ (by omega)
 generalize (if c = 0 then A else A.map (·.add lo)) = A' at *
 have hT := TbQ.new w (r : Int) (c : Int) A n cap
 have c0 := hT.cell0
 have c1 := hT.cell1
 have c2 := hT.cell2
 clear hif hlo h1 h2 h3 hn hcap hup
 unfold mat
 go_enter Tryz.func125, Tryz.ntmps125
 go_wp2_with fail
 go_quiet (fail)
 go_wp2_with fail
 go_ret
 exact ⟨rfl, below_many ((Below.refl _ _).alloc (Nat.le_refl _) _) _⟩
def rowArgsQ (c : Nat) (A : Option Addr) (k : Nat) : Array Value := #[.int .i64 (k : Int), .slice (if c = 0 then A else A.map (·.add (k * c))) c c]
set_option maxRecDepth 100000 in
set_option maxHeartbeats 2000000 in
theorem each_visitsQ (r c : Nat) (A : Option Addr) (n cap : Nat) (hr : r ≤ 400) (hc : c ≤ 400) (hn : r * c ≤ cap) (hcap : cap ≤ maxLen) :
  Visits Tryz.prog 111 #[mat r c A n cap] (rowArgsQ c A) r := by
 intro l J Jx W hJ hJx hY h0
 have hrow := fun (k : Nat) (hk : k < r) V => row_anyQ r c k A n cap V hk hr hc hn hcap
 unfold mat at *
 refine callsIn_of_wp Tryz.func111 rfl trivial ?_ rfl
 simp only [Tryz.ntmps111, List.size_toArray, List.length_cons, List.length_nil, Nat.reduceAdd, Nat.reduceSub, Array.replicate_succ, Array.replicate_zero, List.push_toArray, List.append_toArray, List.nil_append, List.cons_append]
 have hT := TbQ.new W (r : Int) (c : Int) A n cap
 have hB : Below W.heap.size W (W.alloc (.cells #[.int .i64 (r : Int), .int .i64 (c : Int), .slice A n cap] 88)) := (Below.refl _ _).alloc (Nat.le_refl _) _
 have hJ1 := hJ 0 W _ h0 hB
 gi_wp2
 generalize W.alloc (.cells #[.int .i64 (r : Int), .int .i64 (c : Int), .slice A n cap] 88) = W1 at *
 have hz1 : W.heap.size < W1.heap.size := (Array.getElem?_eq_some_iff.1 hT).1
 gi_loopw [4, 7] (fun _ i wr => ∃ k : Nat, i = .int .i64 k ∧ k ≤ r ∧ J k wr ∧ TbQ wr W.heap.size (r : Int) (c : Int) A n cap) (fun _ i _ => r - (intOf i).toNat)
 case atStart => exact ⟨0, rfl, Nat.zero_le _, hJ1, hT⟩
 case round =>
  obtain ⟨k, rfl, hk, hj, ht⟩ := hrel
  by_cases hlt : k < r
  ·have c0 := ht.cell0
   have c1 := ht.cell1
   have c2 := ht.cell2
   have htl : W.heap.size < wr.heap.size := (Array.getElem?_eq_some_iff.1 ht).1
   have hrk := hrow k hlt
   have hYk := hY k hlt
   unfold rowArgsQ at hYk
   generalize (if c = 0 then A else A.map (·.add (k * c))) = A' at hrk hYk
   clear hrow hY
   gi_wp2_with fail
   refine ⟨trivial, rfl, ?_⟩
   with_reducible refine (callsIn_wide.2 (hrk _)).mono ?_
   rintro e V1 ⟨rfl, hb1⟩
   have hj1 := hJ k _ _ hj hb1
   have ht1 : TbQ V1 W.heap.size (r : Int) (c : Int) A n cap := (hb1.block _ htl).trans ht
   have htl1 : W.heap.size < V1.heap.size := (Array.getElem?_eq_some_iff.1 ht1).1
   obtain ⟨fn, tmps, assign, body, hy, hR⟩ := hYk V1 hj1
   clear c0 c1 c2 hrk hYk
   gi_wp2
   refine ⟨rfl, ?_⟩
   refine hR.mono ?_
   rintro e V2 (⟨rfl, hj2, hk2⟩ | ⟨rfl, hx2⟩)
   ·have ht2 : TbQ V2 W.heap.size (r : Int) (c : Int) A n cap := (hk2.2 _ (Nat.le_refl _) htl1).trans ht1
    gi_wp2
    go_roundw
    case rel => exact ⟨k + 1, by simp, by omega, hj2, ht2⟩
    case measure => simp [intOf]; omega
   ·gi_wp2
    refine bodyPost_ret (results_none rfl _ _ _) rfl ?_
    exact ⟨⟨_, rfl⟩, .inr hx2⟩
  ·obtain rfl : k = r := by omega
   gi_wp2
   go_end0
   exact ⟨⟨_, rfl⟩, .inl hj⟩
end Go.Proofs.YtknaghdoffigjaaGreatDoor
namespace Go.Proofs.YtknaghdoffigjaaGreatDoor
open Go.RowKit Go
def scN (off p f : Nat) (xs : List Nat) : Nat → List Nat
 | 0 => xs
 | k + 1 => (scN off p f xs k).set (off + k) (f * xs.getD (off + k) 0 % p)
theorem scN_length (off p f : Nat) (xs : List Nat) (k : Nat) : (scN off p f xs k).length = xs.length := by
 induction k with
 | zero => rfl
 | succ k ih => rw [scN, List.length_set, ih]
theorem scN_get (off p f : Nat) (xs : List Nat) (k j : Nat) : (scN off p f xs k).getD j 0 = if off ≤ j ∧ j < off + k ∧ j < xs.length then f * xs.getD j 0 % p else xs.getD j 0 := by
 induction k with
 | zero => rw [if_neg (by omega)]; rfl
 | succ k ih =>
  rw [scN, List.getD_eq_getElem?_getD, List.getElem?_set, scN_length]
  by_cases h : off + k = j
  ·subst h
   rw [if_pos rfl]
   by_cases hl : off + k < xs.length
   ·rw [if_pos hl, if_pos ⟨by omega, by omega, hl⟩]; rfl
   ·rw [if_neg hl, if_neg (by omega), List.getD_eq_getElem?_getD, List.getElem?_eq_none (by omega)]
  ·rw [if_neg h, ← List.getD_eq_getElem?_getD, ih]
   by_cases h2 : off ≤ j ∧ j < off + k ∧ j < xs.length
   ·rw [if_pos h2, if_pos (by omega)]
   ·rw [if_neg h2, if_neg (by omega)]
set_option maxRecDepth 100000 in
set_option maxHeartbeats 4000000 in
theorem scale_any (g off n c p f : Nat) (xs : List Nat) (w : World) (hL : Lst w g xs) (hoff : off + n ≤ xs.length) (hp : 0 < p) (hp2 : p < 2147483648) (hf : f < p) (hx : ∀ j, xs.getD j 0 < p) (hxl : xs.length ≤ 1000000) :
  Calls Tryz.prog 113 #[mmod p, .slice (some ⟨g, off, none⟩) n c, .int .u64 (f : Int)] w fun e w' => e = .returned (.tuple #[]) ∧ Lst w' g (scN off p f xs n) ∧ w.grownBy w' (some g) := by
 have hrest := fun (m : Nat) (hm : m < 18446744073709551616) W => rest_any p m W hp hp2 hm
 unfold mmod at *
 generalize ((18446744073709551615 / p : Nat) : Int) = q at *
 have hO := Ob.new w (p : Int) q
 have hgl := hL.lt
 have hL1 : Lst (w.alloc (.cells #[.int .u64 (p : Int), .int .u64 q] 82)) g (scN off p f xs 0) := hL.alloc _
 have hG1 : w.grownBy (w.alloc (.cells #[.int .u64 (p : Int), .int .u64 q] 82)) (some g) := World.grownBy_alloc _ _ _
 have hne : w.heap.size ≠ g := by omega
 clear hL
 go_enter Tryz.func113, Tryz.ntmps113
 go_wp2_with fail
 generalize w.alloc (.cells #[.int .u64 (p : Int), .int .u64 q] 82) = W1 at *
 generalize w.heap.size = b3 at *
 go_loopw [6, 7, 10] (fun _ _ i wr => ∃ k : Nat, i = .int .i64 k ∧ k ≤ n ∧ Lst wr g (scN off p f xs k) ∧ Ob wr b3 (p : Int) q ∧ w.grownBy wr (some g)) (fun _ _ i _ => n - (intOf i).toNat)
 case atStart => exact ⟨0, rfl, Nat.zero_le _, hL1, hO, hG1⟩
 case round =>
  obtain ⟨k, rfl, hk, hLk, hOk, hG⟩ := hrel
  by_cases hlt : k < n
  ·obtain ⟨x, hxe⟩ : ∃ x, x = xs.getD (off + k) 0 := ⟨_, rfl⟩
   have hxp : x < p := by rw [hxe]; exact hx _
   have c0 := hLk.cell (k := off + k) (by rw [scN_length]; omega)
   rw [scN_get, if_neg (by omega), ← hxe] at c0
   have c1 := hOk.cell0
   have c2 := hOk.cell1
   have hfx : f * x < 2147483648 * 2147483648 := Nat.mul_lt_mul'' (by omega) (by omega)
   have w1 : IntKind.u64.wrap ((f : Int) * (x : Int)) = ((f * x : Nat) : Int) := by rw [← Int.natCast_mul]; exact IntWalk.u64_in _ (by omega)
   have hcall := fun W => hrest (f * x) (by omega) W
   obtain ⟨fx, hfx2⟩ : ∃ fx, fx = f * x := ⟨_, rfl⟩
   rw [← hfx2] at w1 hcall
   have hnext : (scN off p f xs k).set (off + k) (fx % p) = scN off p f xs (k + 1) := by rw [scN, hfx2, hxe]
   have HC := Lib.hid hcall
   have HN := Lib.hid hnext
   have HL := Lib.hid hLk
   have HO := Lib.hid hOk
   have HG := Lib.hid hG
   clear hcall hnext hLk hOk hG hfx hfx2 hxe hxp hrest hx
   go_wp2_with fail
   with_reducible refine (HC.out _).mono ?_
   rintro e w2 ⟨rfl, hb2⟩
   have hL2 := HL.out.below hb2 HL.out.lt
   have hO2 := HO.out.step hb2
   have hG2 := grown_below HG.out hb2
   clear c0 c1 c2
   have d0 := hL2.cell (k := off + k) (by rw [scN_length]; omega)
   have f0 := hL2.frozen (off + k)
   generalize (scN off p f xs k).getD (off + k) 0 = z0 at d0
   have hS := hL2.set (off + k) (fx % p)
   rw [HN.out] at hS
   have HS := Lib.hid hS
   have HG3 := Lib.hid (fun u => grownBy_setRow (p := ⟨g, off + k, none⟩) hG2 rfl u)
   have HO3 := Lib.hid (fun (u : Value) => (Below.heap_setCell w2 ⟨g, off + k, none⟩ u b3 hne).trans hO2)
   clear hS hG2 hO2 hL2 hb2
   go_wp2
   go_roundw
   case rel => exact ⟨k + 1, rfl, by omega, HS.out, HO3.out _, HG3.out _⟩
   case measure => simp [intOf]; omega
  ·obtain rfl : k = n := by omega
   have HL := Lib.hid hLk
   have HG := Lib.hid hG
   clear hLk hG hOk hrest hx
   go_wp2
   go_end0
   exact ⟨rfl, HL.out, HG.out⟩
end Go.Proofs.YtknaghdoffigjaaGreatDoor
namespace Go.Proofs.YtknaghdoffigjaaGreatDoor
open Go.RowKit Go
def adN (o1 o2 p f : Nat) (xs : List Nat) : Nat → List Nat
 | 0 => xs
 | k + 1 => (adN o1 o2 p f xs k).set (o1 + k) ((xs.getD (o1 + k) 0 + f * xs.getD (o2 + k) 0) % p)
theorem adN_length (o1 o2 p f : Nat) (xs : List Nat) (k : Nat) : (adN o1 o2 p f xs k).length = xs.length := by
 induction k with
 | zero => rfl
 | succ k ih => rw [adN, List.length_set, ih]
theorem adN_get (o1 o2 p f : Nat) (xs : List Nat) (k j : Nat) : (adN o1 o2 p f xs k).getD j 0 = if o1 ≤ j ∧ j < o1 + k ∧ j < xs.length then (xs.getD j 0 + f * xs.getD (o2 + (j - o1)) 0) % p else xs.getD j 0 := by
 induction k with
 | zero => rw [if_neg (by omega)]; rfl
 | succ k ih =>
  rw [adN, List.getD_eq_getElem?_getD, List.getElem?_set, adN_length]
  by_cases h : o1 + k = j
  ·subst h
   rw [if_pos rfl]
   by_cases hl : o1 + k < xs.length
   ·rw [if_pos hl, if_pos ⟨by omega, by omega, hl⟩, show o1 + k - o1 = k from by omega]; rfl
   ·rw [if_neg hl, if_neg (by omega), List.getD_eq_getElem?_getD, List.getElem?_eq_none (by omega)]
  ·rw [if_neg h, ← List.getD_eq_getElem?_getD, ih]
   by_cases h2 : o1 ≤ j ∧ j < o1 + k ∧ j < xs.length
   ·rw [if_pos h2, if_pos (by omega)]
   ·rw [if_neg h2, if_neg (by omega)]
set_option maxRecDepth 100000 in
set_option maxHeartbeats 4000000 in
theorem addMul_any (g o1 o2 n nr c1 c2 p f : Nat) (xs : List Nat) (w : World) (hL : Lst w g xs) (hnr : n ≤ nr) (h1 : o1 + n ≤ xs.length) (h2 : o2 + n ≤ xs.length) (hd : o1 + n ≤ o2 ∨ o2 + n ≤ o1) (hp : 0 < p) (hp2 : p < 2147483648) (hf : f < p) (hx : ∀ j, xs.getD j 0 < p) (hxl : xs.length ≤ 1000000) :
  Calls Tryz.prog 114 #[mmod p, .slice (some ⟨g, o1, none⟩) nr c1, .slice (some ⟨g, o2, none⟩) n c2, .int .u64 (f : Int)] w fun e w' => e = .returned (.tuple #[]) ∧ Lst w' g (adN o1 o2 p f xs n) ∧ w.grownBy w' (some g) := by
 have hrest := fun (m : Nat) (hm : m < 18446744073709551616) W => rest_any p m W hp hp2 hm
 unfold mmod at *
 generalize ((18446744073709551615 / p : Nat) : Int) = q at *
 have hO := Ob.new w (p : Int) q
 have hgl := hL.lt
 have hL1 : Lst (w.alloc (.cells #[.int .u64 (p : Int), .int .u64 q] 82)) g (adN o1 o2 p f xs 0) := hL.alloc _
 have hG1 : w.grownBy (w.alloc (.cells #[.int .u64 (p : Int), .int .u64 q] 82)) (some g) := World.grownBy_alloc _ _ _
 have hne : w.heap.size ≠ g := by omega
 clear hL
 go_enter Tryz.func114, Tryz.ntmps114
 go_wp2_with fail
 generalize w.alloc (.cells #[.int .u64 (p : Int), .int .u64 q] 82) = W1 at *
 generalize w.heap.size = b3 at *
 go_loopw [8, 9, 12] (fun _ _ i wr => ∃ k : Nat, i = .int .i64 k ∧ k ≤ n ∧ Lst wr g (adN o1 o2 p f xs k) ∧ Ob wr b3 (p : Int) q ∧ w.grownBy wr (some g)) (fun _ _ i _ => n - (intOf i).toNat)
 case atStart => exact ⟨0, rfl, Nat.zero_le _, hL1, hO, hG1⟩
 case round =>
  obtain ⟨k, rfl, hk, hLk, hOk, hG⟩ := hrel
  by_cases hlt : k < n
  ·obtain ⟨x, hxe⟩ : ∃ x, x = xs.getD (o2 + k) 0 := ⟨_, rfl⟩
   obtain ⟨y, hye⟩ : ∃ y, y = xs.getD (o1 + k) 0 := ⟨_, rfl⟩
   have hxp : x < p := by rw [hxe]; exact hx _
   have hyp : y < p := by rw [hye]; exact hx _
   have c0 := hLk.cell (k := o2 + k) (by rw [adN_length]; omega)
   rw [adN_get, if_neg (by omega), ← hxe] at c0
   have c3 := hLk.cell (k := o1 + k) (by rw [adN_length]; omega)
   rw [adN_get, if_neg (by omega), ← hye] at c3
   have c1 := hOk.cell0
   have c2 := hOk.cell1
   have hfx : f * x < 2147483648 * 2147483648 := Nat.mul_lt_mul'' (by omega) (by omega)
   have w1 : IntKind.u64.wrap ((f : Int) * (x : Int)) = ((f * x : Nat) : Int) := by rw [← Int.natCast_mul]; exact IntWalk.u64_in _ (by omega)
   obtain ⟨fx, hfx2⟩ : ∃ fx, fx = f * x := ⟨_, rfl⟩
   rw [← hfx2] at w1 hfx
   have w2 : IntKind.u64.wrap ((y : Int) + (fx : Int)) = ((y + fx : Nat) : Int) := by rw [← Int.natCast_add]; exact IntWalk.u64_in _ (by omega)
   have hcall := fun W => hrest (y + fx) (by omega) W
   obtain ⟨s, hs⟩ : ∃ s, s = y + fx := ⟨_, rfl⟩
   rw [← hs] at w2 hcall
   have hnext : (adN o1 o2 p f xs k).set (o1 + k) (s % p) = adN o1 o2 p f xs (k + 1) := by rw [adN, hs, hfx2, hxe, hye]
   obtain ⟨r, hr⟩ : ∃ r, r = s % p := ⟨_, rfl⟩
   rw [← hr] at hnext hcall
   have HC := Lib.hid hcall
   have HN := Lib.hid hnext
   have HL := Lib.hid hLk
   have HO := Lib.hid hOk
   have HG := Lib.hid hG
   clear hcall hnext hLk hOk hG hfx hfx2 hxe hye hs hxp hyp hrest hx hr
   have hkn : k < nr := by omega
   go_wp2_with fail
   go_region_with (go_at_call 109; (with_reducible refine (HC.out _).mono ?_); rintro e w2 ⟨rfl, hb2⟩; have hL2 := HL.out.drew.below hb2 HL.out.drew.lt; have hO2 := HO.out.drew.step hb2; have hG2 := grown_below (grown_drew HG.out) hb2; clear c0 c1 c2 c3; have d0 := hL2.cell (k := o1 + k) (by rw [adN_length]; omega); have f0 := hL2.frozen (o1 + k))
   all_goals
    have hS := hL2.set (o1 + k) r
    rw [HN.out] at hS
    have HS := Lib.hid hS
    have HG3 := Lib.hid (fun u => grownBy_setRow (p := ⟨g, o1 + k, none⟩) hG2 rfl u)
    have HO3 := Lib.hid (fun (u : Value) => (Below.heap_setCell w2 ⟨g, o1 + k, none⟩ u b3 hne).trans hO2)
    clear hS hG2 hO2 hL2 hb2
    go_wp2
    go_roundw
    case rel => exact ⟨k + 1, rfl, by omega, HS.out, HO3.out _, HG3.out _⟩
    case measure => simp [intOf]; omega
  ·obtain rfl : k = n := by omega
   have HL := Lib.hid hLk
   have HG := Lib.hid hG
   clear hLk hG hOk hrest hx
   go_wp2
   go_end0
   exact ⟨rfl, HL.out, HG.out⟩
end Go.Proofs.YtknaghdoffigjaaGreatDoor
