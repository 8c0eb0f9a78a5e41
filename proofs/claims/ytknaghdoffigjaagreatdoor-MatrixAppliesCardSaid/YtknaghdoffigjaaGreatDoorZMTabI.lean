import Derived.Test.YtknaghdoffigjaaGreatDoorZMCopy
set_option linter.unusedSimpArgs false
set_option linter.unusedVariables false
set_option linter.unnecessarySimpa false
namespace Go.Proofs.YtknaghdoffigjaaGreatDoor
open Go.RowKit Go
attribute [local go_sem] Oper.semAt_some
theorem info_intM : (Tryz.prog.info? 3).map (fun i => (i.zero, i.size, i.bytes)) = some (some (.int .i64 0), 1, 8) := by kernel_rfl
def Ii (xs : List Int) : Array Value := (xs.map (Value.int .i64)).toArray
def LsI (w : World) (g : Nat) (xs : List Int) : Prop := w.heap[g]? = some (.cells (Ii xs) 3 (0, 0))
theorem Ii_get (xs : List Int) (k : Nat) (h : k < xs.length) : (Ii xs)[k]? = some (.int .i64 (xs.getD k 0)) := by
 simp [Ii, List.getD_eq_getElem?_getD, List.getElem?_eq_getElem h]
theorem Ii_set (xs : List Int) (k : Nat) (x : Int) : (Ii xs).setIfInBounds k (.int .i64 x) = Ii (xs.set k x) := by
 simp [Ii, List.map_set]
section
variable {w w' : World} {g : Nat} {xs : List Int}
theorem LsI.cell (h : LsI w g xs) {k : Nat} (hk : k < xs.length) : w.cell? ⟨g, k, none⟩ = some (.int .i64 (xs.getD k 0)) := (cell_of_row w g k _ _ _ h).trans (Ii_get xs k hk)
theorem LsI.frozen (h : LsI w g xs) (k : Nat) : w.frozen? ⟨g, k, none⟩ = false := by
 unfold LsI at h
 simp [World.frozen?, h]
theorem LsI.set (h : LsI w g xs) (k : Nat) (x : Int) : LsI (w.setCell ⟨g, k, none⟩ (.int .i64 x)) g (xs.set k x) := by
 unfold LsI at h ⊢
 rw [← Ii_set]
 simp [World.setCell, Array.getElem?_modify, h]
theorem LsI.step (h : LsI w g xs) (hb : Below w.heap.size w w') : LsI w' g xs := (hb.block g (heap_lt h)).trans h
theorem LsI.new (w : World) (xs : List Int) : LsI (w.alloc (.cells (Ii xs) 3)) w.heap.size xs := heap_alloc_new w _
theorem LsI.rd (h : LsI w g xs) : RdI w (some ⟨g, 0, none⟩) xs := fun k hk => ⟨_, rfl, heap_lt h, by rw [add_from0]; exact h.cell hk⟩
end
theorem madeI (n : Nat) : madeCells #[.int .i64 0] n = Ii (List.replicate n 0) := by
 apply Array.ext
 ·simp [size_madeCells, Ii]
 ·intro i h1 h2
  simp [madeCells, Ii, Nat.mod_one]
def TbI (w : World) (b : Nat) (r c : Int) (A : Option Addr) (n cap : Nat) : Prop := w.heap[b]? = some (.cells #[.int .i64 r, .int .i64 c, .slice A n cap] 147 (0, 0))
section
variable {w w' : World} {b : Nat} {r c : Int} {A : Option Addr} {n cap : Nat}
theorem TbI.cell0 (h : TbI w b r c A n cap) : w.cell? ⟨b, 0, none⟩ = some (.int .i64 r) := cell_of_row w b 0 _ _ _ h
theorem TbI.cell1 (h : TbI w b r c A n cap) : w.cell? ⟨b, 1, none⟩ = some (.int .i64 c) := cell_of_row w b 1 _ _ _ h
theorem TbI.cell2 (h : TbI w b r c A n cap) : w.cell? ⟨b, 2, none⟩ = some (.slice A n cap) := cell_of_row w b 2 _ _ _ h
theorem TbI.new (w : World) (r c : Int) (A : Option Addr) (n cap : Nat) : TbI (w.alloc (.cells #[.int .i64 r, .int .i64 c, .slice A n cap] 147)) w.heap.size r c A n cap := heap_alloc_new w _
theorem TbI.load (h : TbI w b r c A n cap) : (loadVar 147 ⟨b, 0, none⟩).run Tryz.prog w = .ok (mat r c A n cap) w := by
 have h0 := h.cell0
 have h1 := h.cell1
 have h2 := h.cell2
 simp [loadVar, go_sem, h0, h1, h2, mat]
end
theorem post_tableI {fn : Func} {R : Ending → World → Prop} {a : Act} {w : World} {p : Tmp} {b : Nat} {r c : Int} {A : Option Addr} {n cap : Nat} (h : fn.results = #[.cell p 147])
  (ht : a.tmps.getD p undef = .pointer (some ⟨b, 0, none⟩)) (hw : TbI w b r c A n cap) (hd : a.defers = []) (hR : R (.returned (mat r c A n cap)) w) : bodyPost Tryz.prog fn R .ret a w := by
 refine bodyPost_ret (v := mat r c A n cap) ?_ hd hR
 have := hw.load
 rw [Array.getD_eq_getD_getElem?] at ht
 simp only [results, h]
 simp [Sem.run_bind, Result.andThen, ht, asAddr, this]
theorem make_ints (n : Nat) (hn : n ≤ 80000) (w : World) :
  (Instr.makeSlice 25 (.int .i64 (n : Int)) (.int .i64 (n : Int))).run Tryz.prog w = .ok (.slice (some ⟨w.heap.size, 0, none⟩) n n) (w.alloc (.cells (Ii (List.replicate n 0)) 3)) := by
 obtain ⟨i0, hi, hz0, hz1, hz2⟩ := info_parts info_intM
 have hr := run_make (P := Tryz.prog) w 25 3 i0 (.int .i64 0) Tryz.underlying25 hi hz0 .i64 .i64 n n (by omega) (by omega) (by rw [hz2]; omega) (by omega)
 rw [hz1] at hr
 simp only [Int.toNat_natCast, Nat.mul_one] at hr
 rw [← madeI]
 exact hr
set_option maxHeartbeats 1000000 in
theorem newTable_anyI (r c n : Nat) (w : World) (hr : r ≤ 400) (hc : c ≤ 400) (hn : r * c = n) (hn2 : n ≤ 40000) :
  Calls Tryz.prog 150 #[.int .i64 (r : Int), .int .i64 (c : Int)] w fun e w' =>
   ∃ g, e = .returned (mat r c (some ⟨g, 0, none⟩) n n) ∧ w.heap.size ≤ g ∧ LsI w' g (List.replicate n 0) ∧ Below w.heap.size w w' := by
 have hmk := make_ints n (by omega)
 have e1 : (r : Int) * (c : Int) = (n : Int) := by rw [← hn, Int.natCast_mul]
 have w1 : IntKind.i64.wrap (n : Int) = n := IntWalk.i64_in _ (by omega)
 clear hn
 go_enter Tryz.func150, Tryz.ntmps150
 go_wp2
 have hT := (TbI.new w (r : Int) (c : Int) (some ⟨w.heap.size + 1, 0, none⟩) n n)
 have hT2 : TbI ((w.alloc (.cells #[.int .i64 (r : Int), .int .i64 (c : Int), .slice (some ⟨w.heap.size + 1, 0, none⟩) n n] 147)).alloc (.cells (Ii (List.replicate n 0)) 3)) w.heap.size (r : Int) (c : Int) (some ⟨w.heap.size + 1, 0, none⟩) n n := (Below.heap_alloc _ _ _ (by simp)).trans hT
 have hL := LsI.new (w.alloc (.cells #[.int .i64 (r : Int), .int .i64 (c : Int), .slice (some ⟨w.heap.size + 1, 0, none⟩) n n] 147)) (List.replicate n 0)
 rw [show (w.alloc (.cells #[.int .i64 (r : Int), .int .i64 (c : Int), .slice (some ⟨w.heap.size + 1, 0, none⟩) n n] 147)).heap.size = w.heap.size + 1 from by simp] at hL
 exact post_tableI (b := w.heap.size) rfl rfl hT2 rfl ⟨_, rfl, by omega, hL, below2 _ _ _⟩
theorem slice_rowI (A : Option Addr) (n cap lo hi : Nat) (h1 : lo ≤ hi) (h2 : hi ≤ cap) (w : World) :
  (Instr.slice 25 (.slice A n cap) (some (.int .i64 (lo : Int))) (some (.int .i64 (hi : Int))) (some (.int .i64 (hi : Int)))).run Tryz.prog w = .ok (.slice (if hi = lo then A else A.map (·.add lo)) (hi - lo) (hi - lo)) w := by
 have h := run_slice_lhm (P := Tryz.prog) (w := w) 25 A n cap (by kernel_rfl) .i64 .i64 .i64 (lo : Int) (hi : Int) (hi : Int) (by omega) (by omega) (by omega) (by omega)
 rw [h]
 have e : Tryz.prog.elem 25 = 3 := by kernel_rfl
 rw [e, Tryz.sizeOf3]
 simp [Result.andThen, sliced]
set_option maxHeartbeats 1000000 in
theorem row_anyI (r c i : Nat) (A : Option Addr) (n cap : Nat) (w : World) (hi : i < r) (hr : r ≤ 400) (hc : c ≤ 400) (hn : r * c ≤ cap) (hcap : cap ≤ maxLen) :
  Calls Tryz.prog 152 #[mat r c A n cap, .int .i64 (i : Int)] w fun e w' =>
   e = .returned (.slice (if c = 0 then A else A.map (·.add (i * c))) c c) ∧ Below w.heap.size w w' := by
 have hi400 : i ≤ 400 := by omega
 have h1 : i * c ≤ 400 * 400 := Nat.mul_le_mul hi400 hc
 have h2 : (i + 1) * c = i * c + c := by rw [Nat.add_mul, Nat.one_mul]
 have h3 : (i + 1) * c ≤ r * c := Nat.mul_le_mul_right c hi
 obtain ⟨lo, hlo⟩ : ∃ lo, lo = i * c := ⟨_, rfl⟩
 rw [← hlo] at h1 h2 ⊢
 obtain ⟨up, hup⟩ : ∃ up, up = lo + c := ⟨_, rfl⟩
 have hsl := slice_rowI A n cap lo up (by omega) (by omega)
 rw [show up - lo = c from by omega] at hsl
 have hif : (if up = lo then A else A.map (·.add lo)) = (if c = 0 then A else A.map (·.add lo)) := by
  by_cases h : c = 0
  ·rw [if_pos h, if_pos (by omega)]
  ·rw [if_neg h, if_neg (by omega)]
 rw [hif] at hsl
 have e1 : (i : Int) * (c : Int) = (lo : Int) := by rw [hlo, Int.natCast_mul]
 have e2 : ((i : Int) + 1) * (c : Int) = (up : Int) := by rw [Int.add_mul, e1, Int.one_mul]; omega
 have w0 : IntKind.i64.wrap ((i : Int) + 1) = (i : Int) + 1 := IntWalk.i64_in _ (by omega)
 have w1 : IntKind.i64.wrap (lo : Int) = lo := IntWalk.i64_in _ (by omega)
 have w2 : IntKind.i64.wrap (up : Int) = up := IntWalk.i64_in _ (by omega)
 generalize (if c = 0 then A else A.map (·.add lo)) = A' at *
 have hT := TbI.new w (r : Int) (c : Int) A n cap
 have c0 := hT.cell0
 have c1 := hT.cell1
 have c2 := hT.cell2
 clear hif hlo h1 h2 h3 hn hcap hup
 unfold mat
 go_enter Tryz.func152, Tryz.ntmps152
 go_wp2_with fail
 go_quiet (fail)
 go_wp2_with fail
 go_ret
 exact ⟨rfl, below_many ((Below.refl _ _).alloc (Nat.le_refl _) _) _⟩
def rowArgsI (c : Nat) (A : Option Addr) (k : Nat) : Array Value := #[.int .i64 (k : Int), .slice (if c = 0 then A else A.map (·.add (k * c))) c c]
set_option maxRecDepth 100000 in
set_option maxHeartbeats 2000000 in
theorem each_visitsI (r c : Nat) (A : Option Addr) (n cap : Nat) (hr : r ≤ 400) (hc : c ≤ 400) (hn : r * c ≤ cap) (hcap : cap ≤ maxLen) :
  Visits Tryz.prog 151 #[mat r c A n cap] (rowArgsI c A) r := by
 intro l J Jx W hJ hJx hY h0
 have hrow := fun (k : Nat) (hk : k < r) V => row_anyI r c k A n cap V hk hr hc hn hcap
 unfold mat at *
 refine callsIn_of_wp Tryz.func151 rfl trivial ?_ rfl
 simp only [Tryz.ntmps151, List.size_toArray, List.length_cons, List.length_nil, Nat.reduceAdd, Nat.reduceSub, Array.replicate_succ, Array.replicate_zero, List.push_toArray, List.append_toArray, List.nil_append, List.cons_append]
 have hT := TbI.new W (r : Int) (c : Int) A n cap
 have hB : Below W.heap.size W (W.alloc (.cells #[.int .i64 (r : Int), .int .i64 (c : Int), .slice A n cap] 147)) := (Below.refl _ _).alloc (Nat.le_refl _) _
 have hJ1 := hJ 0 W _ h0 hB
 gi_wp2
 generalize W.alloc (.cells #[.int .i64 (r : Int), .int .i64 (c : Int), .slice A n cap] 147) = W1 at *
 have hz1 : W.heap.size < W1.heap.size := (Array.getElem?_eq_some_iff.1 hT).1
 gi_loopw [4, 7] (fun _ i wr => ∃ k : Nat, i = .int .i64 k ∧ k ≤ r ∧ J k wr ∧ TbI wr W.heap.size (r : Int) (c : Int) A n cap) (fun _ i _ => r - (intOf i).toNat)
 case atStart => exact ⟨0, rfl, Nat.zero_le _, hJ1, hT⟩
 case round =>
  obtain ⟨k, rfl, hk, hj, ht⟩ := hrel
  by_cases hlt : k < r
  ·have c0 := ht.cell0
   have c1 := ht.cell1
   have c2 := ht.cell2
   have htl : W.heap.size < wr.heap.size := (Array.getElem?_eq_some_iff.1 ht).1
   have hrk := hrow k hlt
   have hYk := hY k hlt
   unfold rowArgsI at hYk
   generalize (if c = 0 then A else A.map (·.add (k * c))) = A' at hrk hYk
   clear hrow hY
   gi_wp2_with fail
   refine ⟨trivial, rfl, ?_⟩
   with_reducible refine (callsIn_wide.2 (hrk _)).mono ?_
   rintro e V1 ⟨rfl, hb1⟩
   have hj1 := hJ k _ _ hj hb1
   have ht1 : TbI V1 W.heap.size (r : Int) (c : Int) A n cap := (hb1.block _ htl).trans ht
   have htl1 : W.heap.size < V1.heap.size := (Array.getElem?_eq_some_iff.1 ht1).1
   obtain ⟨fn, tmps, assign, body, hy, hR⟩ := hYk V1 hj1
   clear c0 c1 c2 hrk hYk
   gi_wp2
   refine ⟨rfl, ?_⟩
   refine hR.mono ?_
   rintro e V2 (⟨rfl, hj2, hk2⟩ | ⟨rfl, hx2⟩)
   ·have ht2 : TbI V2 W.heap.size (r : Int) (c : Int) A n cap := (hk2.2 _ (Nat.le_refl _) htl1).trans ht1
    gi_wp2
    go_roundw
    case rel => exact ⟨k + 1, by simp, by omega, hj2, ht2⟩
    case measure => simp [intOf]; omega
   ·gi_wp2
    refine bodyPost_ret (results_none rfl _ _ _) rfl ?_
    exact ⟨⟨_, rfl⟩, .inr hx2⟩
  ·obtain rfl : k = r := by omega
   gi_wp2
   go_end0
   exact ⟨⟨_, rfl⟩, .inl hj⟩
end Go.Proofs.YtknaghdoffigjaaGreatDoor
namespace Go.Proofs.YtknaghdoffigjaaGreatDoor
open Go.RowKit Go
def nbit (z : Int) : Nat := Lib.bitLen z.natAbs
def maxB (zs : List Int) : Nat → Nat
 | 0 => 0
 | k + 1 => max (maxB zs k) (nbit (zs.getD k 0))
def fitI (z : Int) : Prop := -9223372036854775808 ≤ z ∧ z ≤ 9223372036854775807
def cvI (zs : List Int) (k : Nat) : List Int := (List.range zs.length).map fun j => if j < k then zs.getD j 0 else 0
theorem cvI_zero (zs : List Int) : cvI zs 0 = List.replicate zs.length 0 := by
 unfold cvI
 apply List.ext_getElem
 ·simp
 ·intro i h1 h2; simp
theorem cvI_length (zs : List Int) (k : Nat) : (cvI zs k).length = zs.length := by simp [cvI]
theorem cvI_next (zs : List Int) (k : Nat) : (cvI zs k).set k (zs.getD k 0) = cvI zs (k + 1) := by
 unfold cvI
 apply List.ext_getElem
 ·simp
 ·intro i h1 h2
  rw [List.getElem_set]
  simp only [List.getElem_map, List.getElem_range]
  by_cases h : k = i
  ·subst h
   rw [if_pos rfl, if_pos (by omega)]
  ·rw [if_neg h]
   by_cases hl : i < k
   ·rw [if_pos hl, if_pos (by omega)]
   ·rw [if_neg hl, if_neg (by omega)]
theorem cvI_full (zs : List Int) : cvI zs zs.length = zs := by
 unfold cvI
 apply List.ext_getElem
 ·simp
 ·intro i h1 h2
  simp [h2]
theorem wrap_max (z : Int) (h : fitI z) : IntKind.u64.wrap (max z (wrap64 (-z))) = (z.natAbs : Int) := by
 obtain ⟨h1, h2⟩ := h
 by_cases hm : z = -9223372036854775808
 ·subst hm; decide +kernel
 ·rw [IntWalk.wrap64_in _ (by omega)]
  rw [IntWalk.u64_in _ (by omega)]
  omega
set_option maxRecDepth 100000 in
set_option maxHeartbeats 4000000 in
theorem ints_any (gA n cap : Nat) (zs : List Int) (w : World) (hA : Lw w gA (enc zs)) (hn : zs.length = n) (hn2 : n ≤ 40000) (hz : ∀ j, (wmag (zs.getD j 0)).size ≤ 1000) :
  Calls Tryz.prog 129 #[.slice (some ⟨gA, 0, none⟩) n cap] w fun e w' => Below w.heap.size w w' ∧
   ((∀ j, j < n → fitI (zs.getD j 0)) → ∃ g, e = .returned (.tuple #[.slice (some ⟨g, 0, none⟩) n n, .int .i64 (maxB zs n : Nat)]) ∧ w.heap.size ≤ g ∧ LsI w' g zs) ∧
   ((∃ j, j < n ∧ ¬ fitI (zs.getD j 0)) → e = .returned (.tuple #[.slice none 0 0, .int .i64 64])) := by
 have hmk := make_ints n (by omega)
 have hint := fun (k : Nat) W => Int_any (wneg (zs.getD k 0)) (wmag (zs.getD k 0)) W (hz k) (zs.getD k 0) (wint_wv' _)
 have hlen := fun (m : Nat) (hm : m ≤ 9223372036854775808) W => Tryz.bits_Len (m : Int) W (by omega) (by omega)
 have HA := Lib.hid hA
 have HN := Lib.hid hn
 have HINT := Lib.hid hint
 have HLEN := Lib.hid hlen
 have hgA := heap_lt hA
 clear hA hn hint hlen hz
 obtain ⟨g, hg⟩ : ∃ g, g = w.heap.size := ⟨_, rfl⟩
 have hb0 : Below w.heap.size w (w.alloc (.cells (Ii (List.replicate n 0)) 3)) := (Below.refl _ _).alloc (Nat.le_refl _) _
 have hL0 : LsI (w.alloc (.cells (Ii (List.replicate n 0)) 3)) g (cvI zs 0) := by
  rw [cvI_zero, HN.out, hg]
  exact LsI.new w _
 go_enter Tryz.func129, Tryz.ntmps129
 go_wp2_with fail
 rw [← hg]
 have HG := Lib.hid hg
 clear hg hmk
 go_loopw [2, 3, 13] (fun a m i wr => ∃ k : Nat, a = .slice (some ⟨g, 0, none⟩) n n ∧ i = .int .i64 k ∧ k ≤ n ∧ m = .int .i64 (maxB zs k : Nat) ∧ (∀ j, j < k → fitI (zs.getD j 0)) ∧ LsI wr g (cvI zs k) ∧ Below w.heap.size w wr) (fun _ _ i _ => n - (intOf i).toNat)
 case atStart => exact ⟨0, rfl, rfl, Nat.zero_le _, rfl, fun j hj => by omega, hL0, hb0⟩
 case round =>
  clear hL0 hb0
  obtain ⟨k, rfl, rfl, hk, rfl, hft, hL, hBe⟩ := hrel
  by_cases hlt : k < n
  ·have hAk : Lw wr gA (enc zs) := (hBe.block gA hgA).trans HA.out
   have c0 := hAk.cell0 k (by rw [enc_length, HN.out]; exact hlt)
   have c1 := hAk.cell1 k (by rw [enc_length, HN.out]; exact hlt)
   rw [enc_get] at c0 c1
   dsimp only at c0 c1
   have hi := fun W => HINT.out k W
   have hmx : maxB zs (k + 1) = max (maxB zs k) (nbit (zs.getD k 0)) := rfl
   have hnx := cvI_next zs k
   have hlk := cvI_length zs k
   rw [HN.out] at hlk
   have hb1 : Below wr.heap.size wr (wr.alloc (wbox (wneg (zs.getD k 0)) (wmag (zs.getD k 0)))) := (Below.refl _ _).alloc (Nat.le_refl _) _
   have hgl := heap_lt hL
   have hbit : nbit (zs.getD k 0) = Lib.bitLen (zs.getD k 0).natAbs := rfl
   have hwm := wrap_max (zs.getD k 0)
   obtain ⟨z, hz⟩ : ∃ z, z = zs.getD k 0 := ⟨_, rfl⟩
   rw [← hz] at c0 c1 hi hmx hnx hb1 hbit hwm
   have HZ := Lib.hid hz
   clear hz
   have HI := Lib.hid hi
   have HMX := Lib.hid hmx
   have HNX := Lib.hid hnx
   have HLK := Lib.hid hlk
   have HBIT := Lib.hid hbit
   have HWM := Lib.hid hwm
   have HL1 := Lib.hid (hL.step hb1)
   have HB1 := Lib.hid (hBe.trans (hb1.mono hBe.size))
   have HFT := Lib.hid hft
   clear hi hmx hnx hlk hbit hwm hb1 hAk hL hBe hft
   generalize wneg z = zx at *
   generalize wmag z = zm at *
   go_wp2_with fail
   clear c0 c1
   change Calls _ _ _ (wr.alloc (wbox zx zm)) _
   have hgs : g < (wr.alloc (wbox zx zm)).heap.size := by simp; omega
   generalize wr.alloc (wbox zx zm) = W1 at *
   generalize wr.heap.size = b5 at *
   with_reducible refine (HI.out _).mono ?_
   rintro e w2 ⟨rfl, hb2⟩
   have HL2 := Lib.hid (HL1.out.step hb2)
   have HB2 := Lib.hid (HB1.out.trans (hb2.mono HB1.out.size))
   clear hb2 HL1 HB1
   by_cases hf : fitI z
   ·have hfv : fitv z = z := if_pos hf
    have hfb : fitb z = true := by unfold fitb; rw [decide_eq_true_iff]; exact hf
    rw [hfv, hfb]
    clear hfv hfb
    have d0 := HL2.out.cell (k := k) (by rw [HLK.out]; exact hlt)
    have f0 := HL2.out.frozen k
    generalize (cvI zs k).getD k 0 = u0 at d0
    have hwz := HWM.out hf
    have hab : (z.natAbs : Nat) ≤ 9223372036854775808 := by obtain ⟨h1, h2⟩ := hf; omega
    have hln := fun W => HLEN.out z.natAbs hab W
    simp only [Int.toNat_natCast] at hln
    rw [← HBIT.out] at hln
    generalize nbit z = nb at *
    obtain ⟨na, hna⟩ : ∃ na, na = z.natAbs := ⟨_, rfl⟩
    rw [← hna] at hwz hln
    clear hna hab
    have HLN := Lib.hid hln
    clear hln
    go_wp2_with fail
    with_reducible refine (HLN.out _).mono ?_
    rintro e w3 ⟨rfl, rfl⟩
    have hP := HL2.out.set k z
    have hzz := HZ.out
    rw [show (cvI zs k).set k z = cvI zs (k + 1) from HNX.out] at hP
    have HP := Lib.hid hP
    clear d0 f0 hP hzz hwz
    go_wp2
    go_roundw
    case rel =>
     refine ⟨k + 1, rfl, rfl, by omega, congrArg (Value.int .i64) (by rw [HMX.out]; omega), fun j hj => ?_, HP.out, HB2.out.setCell (by have := HG.out; simp only []; omega) _⟩
     rcases Nat.lt_or_ge j k with h | h
     ·exact HFT.out j h
     ·rw [show j = k by omega, ← HZ.out]; exact hf
    case measure => simp [intOf]; omega
   ·have hfb : fitb z = false := by unfold fitb; rw [decide_eq_false_iff_not]; exact hf
    rw [hfb]
    clear hfb
    go_wp2
    go_ret2
    refine ⟨HB2.out, fun h => absurd (h k hlt) (by rw [← HZ.out]; exact hf), fun _ => rfl⟩
  ·obtain rfl : k = n := by omega
   have HL := Lib.hid hL
   have HB := Lib.hid hBe
   have HF := Lib.hid hft
   clear hL hBe hft hk
   go_wp2
   go_ret2
   refine ⟨HB.out, fun _ => ⟨g, rfl, by have := HG.out; omega, ?_⟩, ?_⟩
   ·have := HL.out
    rwa [← HN.out, cvI_full] at this
   ·rintro ⟨j, hj, h⟩
    exact absurd (HF.out j hj) h
end Go.Proofs.YtknaghdoffigjaaGreatDoor
namespace Go.Proofs.YtknaghdoffigjaaGreatDoor
open Go.RowKit Go
def dotI (xs ys : List Int) (m c i j : Nat) : Nat → Int
 | 0 => 0
 | k + 1 => dotI xs ys m c i j k + xs.getD (i * m + k) 0 * ys.getD (k * c + j) 0
def prV (xs ys : List Int) (m c i k j q : Nat) : Int := if q / c < i then dotI xs ys m c (q / c) (q % c) m else if q / c = i then (if q % c < j then dotI xs ys m c i (q % c) (k + 1) else dotI xs ys m c i (q % c) k) else 0
def prS (xs ys : List Int) (r m c i k j : Nat) : List Int := (List.range (r * c)).map (prV xs ys m c i k j)
theorem prS_length (xs ys : List Int) (r m c i k j : Nat) : (prS xs ys r m c i k j).length = r * c := by simp [prS]
theorem prS_get (xs ys : List Int) (r m c i k j q : Nat) (h : q < r * c) : (prS xs ys r m c i k j)[q]? = some (prV xs ys m c i k j q) := by
 unfold prS
 rw [List.getElem?_map, List.getElem?_range h]
 rfl
theorem pos_of_lt {r c q : Nat} (h : q < r * c) : 0 < c := by
 rcases Nat.eq_zero_or_pos c with h0 | h0
 ·rw [h0] at h; simp at h
 ·exact h0
theorem prS_ext (xs ys : List Int) (r m c i k j i' k' j' : Nat) (h : ∀ q, q < r * c → prV xs ys m c i k j q = prV xs ys m c i' k' j' q) : prS xs ys r m c i k j = prS xs ys r m c i' k' j' := by
 unfold prS
 exact List.map_congr_left fun q hq => h q (by simpa using hq)
theorem prS_zero (xs ys : List Int) (r m c : Nat) : prS xs ys r m c 0 0 0 = List.replicate (r * c) 0 := by
 apply List.ext_getElem?
 intro q
 rcases Nat.lt_or_ge q (r * c) with h | h
 ·rw [prS_get _ _ _ _ _ _ _ _ _ h, List.getElem?_replicate_of_lt h]
  unfold prV
  rw [if_neg (Nat.not_lt_zero _)]
  split
  ·rw [if_neg (Nat.not_lt_zero _)]; rfl
  ·rfl
 ·rw [List.getElem?_eq_none (by rw [prS_length]; exact h), List.getElem?_eq_none (by simpa using h)]
theorem prS_row (xs ys : List Int) (r m c i k : Nat) : prS xs ys r m c i k c = prS xs ys r m c i (k + 1) 0 := prS_ext _ _ _ _ _ _ _ _ _ _ _ fun q hq => by
 have := Nat.mod_lt q (pos_of_lt hq)
 unfold prV
 rw [if_pos this, if_neg (show ¬ q % c < 0 by omega)]
theorem prS_skipRow (xs ys : List Int) (r m c i k : Nat) (h : xs.getD (i * m + k) 0 = 0) : prS xs ys r m c i k 0 = prS xs ys r m c i (k + 1) 0 := prS_ext _ _ _ _ _ _ _ _ _ _ _ fun q hq => by
 unfold prV
 rw [if_neg (show ¬ q % c < 0 by omega), if_neg (show ¬ q % c < 0 by omega)]
 rw [show dotI xs ys m c i (q % c) (k + 1) = dotI xs ys m c i (q % c) k from by rw [dotI, h]; omega]
theorem prS_skip (xs ys : List Int) (r m c i k j : Nat) (h : ys.getD (k * c + j) 0 = 0) : prS xs ys r m c i k j = prS xs ys r m c i k (j + 1) := prS_ext _ _ _ _ _ _ _ _ _ _ _ fun q hq => by
 unfold prV
 by_cases hj : q % c = j
 ·rw [if_neg (show ¬ q % c < j by omega), if_pos (show q % c < j + 1 by omega), hj]
  rw [show dotI xs ys m c i j (k + 1) = dotI xs ys m c i j k from by rw [dotI, h]; omega]
 ·by_cases hl : q % c < j
  ·rw [if_pos hl, if_pos (show q % c < j + 1 by omega)]
  ·rw [if_neg hl, if_neg (show ¬ q % c < j + 1 by omega)]
theorem prS_done (xs ys : List Int) (r m c i : Nat) : prS xs ys r m c i m 0 = prS xs ys r m c (i + 1) 0 0 := prS_ext _ _ _ _ _ _ _ _ _ _ _ fun q hq => by
 unfold prV
 by_cases h1 : q / c < i
 ·rw [if_pos h1, if_pos (by omega)]
 ·rw [if_neg h1]
  by_cases h2 : q / c = i
  ·rw [if_pos h2, if_neg (Nat.not_lt_zero _), if_pos (show q / c < i + 1 by omega), h2]
  ·rw [if_neg h2, if_neg (show ¬ q / c < i + 1 by omega)]
   split
   ·rw [if_neg (Nat.not_lt_zero _)]; rfl
   ·rfl
theorem split_q {c i j q : Nat} (hj : j < c) (h : q = i * c + j) : q / c = i ∧ q % c = j := by
 subst h
 rw [Nat.mul_comm]
 exact ⟨by rw [Nat.mul_add_div (by omega), Nat.div_eq_of_lt hj, Nat.add_zero], by rw [Nat.mul_add_mod, Nat.mod_eq_of_lt hj]⟩
theorem in_table {r c i j : Nat} (hi : i < r) (hj : j < c) : i * c + j < r * c := by
 have := Nat.mul_le_mul_right c (show i + 1 ≤ r by omega)
 rw [Nat.add_mul] at this
 omega
theorem prS_at (xs ys : List Int) (r m c i k j : Nat) (hi : i < r) (hj : j < c) : (prS xs ys r m c i k j).getD (i * c + j) 0 = dotI xs ys m c i j k := by
 obtain ⟨h1, h2⟩ := split_q (i := i) hj rfl
 rw [List.getD_eq_getElem?_getD, prS_get _ _ _ _ _ _ _ _ _ (in_table hi hj), Option.getD_some]
 unfold prV
 rw [h1, h2, if_neg (Nat.lt_irrefl _), if_pos rfl, if_neg (Nat.lt_irrefl _)]
theorem prS_set (xs ys : List Int) (r m c i k j : Nat) (hi : i < r) (hj : j < c) : (prS xs ys r m c i k j).set (i * c + j) (dotI xs ys m c i j (k + 1)) = prS xs ys r m c i k (j + 1) := by
 apply List.ext_getElem?
 intro q
 rw [List.getElem?_set, prS_length]
 rcases Nat.lt_or_ge q (r * c) with h | h
 ·rw [prS_get _ _ _ _ _ _ _ _ _ h, prS_get _ _ _ _ _ _ _ _ _ h]
  by_cases he : i * c + j = q
  ·obtain ⟨h1, h2⟩ := split_q hj he.symm
   rw [if_pos he, if_pos (in_table hi hj)]
   unfold prV
   rw [h1, h2, if_neg (Nat.lt_irrefl _), if_pos rfl, if_pos (Nat.lt_succ_self _)]
  ·rw [if_neg he]
   unfold prV
   have hc : 0 < c := by omega
   have hdm := Nat.div_add_mod q c
   rw [Nat.mul_comm] at hdm
   by_cases h1 : q / c = i
   ·have h2 : q % c ≠ j := by rw [h1] at hdm; omega
    rw [if_neg (show ¬ q / c < i by omega), if_neg (show ¬ q / c < i by omega), if_pos h1, if_pos h1]
    by_cases hl : q % c < j
    ·rw [if_pos hl, if_pos (show q % c < j + 1 by omega)]
    ·rw [if_neg hl, if_neg (show ¬ q % c < j + 1 by omega)]
   ·rw [if_neg h1, if_neg h1]
 ·rw [List.getElem?_eq_none (by rw [prS_length]; exact h), List.getElem?_eq_none (by rw [prS_length]; exact h)]
  rw [if_neg]
  intro he
  have := in_table hi hj
  omega
def mulL (xs ys : List Int) (r m c : Nat) : List Int := (List.range (r * c)).map fun q => dotI xs ys m c (q / c) (q % c) m
theorem prS_full (xs ys : List Int) (r m c : Nat) : prS xs ys r m c r 0 0 = mulL xs ys r m c := by
 unfold prS mulL
 refine List.map_congr_left fun q hq => ?_
 have hq : q < r * c := by simpa using hq
 unfold prV
 rw [if_pos ((Nat.div_lt_iff_lt_mul (pos_of_lt hq)).2 hq)]
theorem times_any (x y z : Int) (w : World) (hz : x * y = z) (h : -9223372036854775808 ≤ z ∧ z ≤ 9223372036854775807) :
  Calls Tryz.prog 131 #[.int .i64 x, .int .i64 y] w fun e w' => e = .returned (.int .i64 z) ∧ w' = w := by
 have hw : wrap64 (x * y) = z := by rw [hz]; exact IntWalk.wrap64_in _ h
 clear hz
 go_enter Tryz.func131, Tryz.ntmps131
 go_wp2
 go_ret
 exact ⟨by simp; exact hw, rfl⟩
theorem plus_any (x y z : Int) (w : World) (hz : x + y = z) (h : -9223372036854775808 ≤ z ∧ z ≤ 9223372036854775807) :
  Calls Tryz.prog 132 #[.int .i64 x, .int .i64 y] w fun e w' => e = .returned (.int .i64 z) ∧ w' = w := by
 have hw : wrap64 (x + y) = z := by rw [hz]; exact IntWalk.wrap64_in _ h
 clear hz
 go_enter Tryz.func132, Tryz.ntmps132
 go_wp2
 go_ret
 exact ⟨by simp; exact hw, rfl⟩
end Go.Proofs.YtknaghdoffigjaaGreatDoor
