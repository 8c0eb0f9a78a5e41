/-
  The contracts of the reference's Mod and Made, and of the statements' Num.wide: some Wide of at most 40 bytes.
-/
import Derived.Test.YtgadnianjhaeiaaDoorSane
import Derived.Laws.AppendOwn
import Derived.Laws.AppendOwnNone
namespace Go.Proofs.YtgadnianjhaeiaaDoor
open Go.RowKit

/-- A slice with this address, as long as the list, reads as these uint8 numbers. -/
def RdY (w : World) (A : Option Addr) (xs : List Int) : Prop :=
  ∀ k, k < xs.length → ∃ a, A = some a ∧ a.block < w.heap.size ∧ w.cell? (a.add k) = some (.int .u8 (xs.getD k 0))
theorem RdY.below {w w' : World} {A : Option Addr} {xs : List Int} (h : RdY w A xs) (hb : Below w.heap.size w w') : RdY w' A xs := fun k hx => by
  obtain ⟨a, e, hlt, hc⟩ := h k hx
  exact ⟨a, e, by have := hb.size; omega, (hb.cell (by rw [block_add]; exact hlt)).trans hc⟩

set_option maxRecDepth 100000 in
theorem append_src (g m n c : Nat) (A : Option Addr) (xs : List Int) (w : World) (B ty : Nat) (hg : Bts w g (List.replicate m 0)) (hx : RdY w A xs) (hn : xs.length = n) (hA : A = none → n = 0 ∧ c = 0) (hB : B ≤ g) (hsz : m + n ≤ 140737488355328) :
    ∃ g' cap w', (Builtin.append_ #[22, 22] ty #[.slice (some ⟨g, 0, none⟩) m m, .slice A n c]).run Tryd.prog w = .ok (.slice (some ⟨g', 0, none⟩) (m + n) cap) w' ∧ m + n ≤ cap ∧ cap ≤ maxLen ∧ g' < w'.heap.size ∧
      (∀ i, i < m + n → w'.cell? ⟨g', i, none⟩ = some (.int .u8 ((List.replicate m (0 : Int) ++ xs).getD i 0))) ∧ Below B w w' := by
  have hmx : m ≤ maxLen := by unfold maxLen; omega
  have hmx2 : m + n ≤ maxLen := by unfold maxLen; omega
  obtain ⟨i0, hi, hz0, hz1, hz2⟩ := info_parts info_u8
  have hown : w.ownsRow B 5 1 (.slice (some ⟨g, 0, none⟩) m m) m ((List.replicate m (0 : Int)).map (Value.int .u8)) := by
    refine ⟨by simp, .inr ⟨g, m, Y (List.replicate m 0), rfl, hB, ?_, Nat.le_refl _, hmx, ?_, ?_⟩⟩
    · exact hg
    · simp [Y]
    · simp [Y]
  cases A with
  | none =>
    obtain ⟨rfl, rfl⟩ := hA rfl
    have hr := run_append_owned_none (P := Tryd.prog) (w := w) B 22 ty 5 i0 1 Tryd.underlying22 hi _ _ _ hown
    obtain rfl : xs = [] := List.length_eq_zero_iff.1 hn
    refine ⟨g, m, w, hr, by omega, hmx, hg.lt, fun i hi => ?_, Below.refl _ _⟩
    have := hg.cell (k := i) (by simpa using hi)
    rw [this]
    simp [List.getD_eq_getElem?_getD]
    rw [List.getElem?_replicate_of_lt (by omega), List.getElem?_replicate_of_lt (by omega)]
    rfl
  | some a =>
    obtain ⟨v', w', hr, hown', hgr, hnil⟩ := run_append_own (P := Tryd.prog) w B 22 ty 5 i0 (.int .u8 0) 1 1 Tryd.underlying22 hi hz0 hz1 hz2 rfl (by decide) _ _ _ hown a n c (xs.map (Value.int .u8)) (by simp [hn])
      (fun j u hj => by
        have hjl : j < xs.length := by
          have := (List.getElem?_eq_some_iff.1 hj).1
          simpa using this
        obtain ⟨a', e, _, hc⟩ := hx j hjl
        injection e with e
        subst e
        rw [hc]
        rw [List.getElem?_map, List.getElem?_eq_getElem hjl] at hj
        rw [List.getD_eq_getElem?_getD, List.getElem?_eq_getElem hjl]
        exact hj) (fun u hu => by obtain ⟨x, _, rfl⟩ := List.mem_map.1 hu; rfl) hmx2 (by omega) (by have := hg.lt; omega)
    rcases hown'.2 with ⟨hv, _⟩ | ⟨g', cap, cur, rfl, hbg, hh, hnc, hcm, hcs, hct⟩
    · have := (hnil.1 hv).1
      cases this
    · refine ⟨g', cap, w', hr, hnc, hcm, ?_, fun i hi => ?_, ?_⟩
      · rcases Nat.lt_or_ge g' w'.heap.size with hlt | hge
        · exact hlt
        · rw [Array.getElem?_eq_none hge] at hh; cases hh
      · rw [cell_of_row w' g' i cur _ (0, 0) hh]
        have h1 : cur.toList.take ((m + n) * 1) = (List.replicate m (0 : Int) ++ xs).map (Value.int .u8) := by rw [hct, List.map_append]
        have h2 := congrArg (fun l : List Value => l[i]?) h1
        change (cur.toList.take ((m + n) * 1))[i]? = ((List.replicate m (0 : Int) ++ xs).map (Value.int .u8))[i]? at h2
        rw [List.getElem?_take_of_lt (by omega), Array.getElem?_toList] at h2
        have hil : i < (List.replicate m (0 : Int) ++ xs).length := by simp [hn]; omega
        rw [h2, List.getElem?_map, List.getElem?_eq_getElem hil, List.getD_eq_getElem?_getD, List.getElem?_eq_getElem hil]
        rfl
      · exact (Below.refl B w).grown hgr (by have := hg.lt; omega) (by intro k hk; simp [Value.ownBlock] at hk; omega)

set_option maxHeartbeats 1000000 in
theorem Mod_any (z : Int) (w : World) (hz : -9223372036854775808 ≤ z ∧ z ≤ 9223372036854775807) :
    Calls Tryd.prog 36 #[.int .i64 z, .int .i64 4] w fun e w' => e = .returned (.int .i64 (z % 4)) ∧ w = w' := by
  obtain ⟨z1, z2⟩ := hz
  go_enter Tryd.func36, Tryd.ntmps36
  go_wp2
  go_ret
  have h1 := Int.tmod_add_mul_tdiv z 4
  have h2 : (z.tmod 4).natAbs < 4 := by
    rw [Int.natAbs_tmod]
    exact Nat.mod_lt _ (by decide)
  have h3 : wrap64 (z.tmod 4 + 4) = z.tmod 4 + 4 := IntWalk.wrap64_in _ (by omega)
  have h4 : (wrap64 (z.tmod 4 + 4)).tmod 4 = z % 4 := by
    rw [h3, Int.tmod_eq_emod_of_nonneg (by omega)]
    generalize z.tmod 4 = t at *
    generalize z.tdiv 4 = q at *
    omega
  exact ⟨ret_int h4, rfl⟩

set_option maxHeartbeats 1000000 in
theorem Made_any (neg : Bool) (g N cap : Nat) (xs : List Int) (w : World) (hN : N ≤ cap) (hm : cap ≤ maxLen) (hx : ∀ i, i < N → w.cell? ⟨g, i, none⟩ = some (.int .u8 (xs.getD i 0))) :
    Calls Tryd.prog 41 #[.slice (some ⟨g, 0, none⟩) N cap, .bool neg] w fun e w' => ∃ S : ByteArray, S.size ≤ 40 ∧ e = .returned (.agg #[.bool neg, .string S]) ∧ Below w.heap.size w w' := by
  have hmx : N ≤ 9223372036854775807 := Nat.le_trans hN hm
  obtain ⟨k, hk⟩ : ∃ k, k = min N 40 := ⟨_, rfl⟩
  have hk1 : k ≤ 40 := by omega
  have hk2 : k ≤ N := by omega
  have hkc : k ≤ cap := by omega
  have hmin : min (N : Int) 40 = (k : Int) := by omega
  obtain ⟨ys, hys⟩ : ∃ ys : List Int, ys = (List.range k).map fun i => xs.getD i 0 := ⟨_, rfl⟩
  have hyl : ys.length = k := by rw [hys]; simp
  have hconv : ∀ W : World, (∀ i, i < k → W.cell? ⟨g, i, none⟩ = some (.int .u8 (xs.getD i 0))) → (convert 22 9 (.slice (some ⟨g, 0, none⟩) k cap)).run Tryd.prog W = .ok (.string (strOfNums ys)) W := fun W hW =>
    run_convert_bytes_arg (P := Tryd.prog) W 22 5 Tryd.underlying22 Tryd.underlying5 g 0 k cap ys hyl (fun i hi => by
      rw [Nat.zero_add, hW i hi, hys]
      simp [List.getD_eq_getElem?_getD, hi]) 9 Tryd.underlying9
  have hsz : (strOfNums ys).size ≤ 40 := by rw [strOfNums_size, hyl]; exact hk1
  have hc1 := hconv (w.alloc (wbox false ⟨#[]⟩)) (fun i hi => by
    have h0 := hx i (by omega)
    have hb : g < w.heap.size := by
      rcases Nat.lt_or_ge g w.heap.size with hlt | hge
      · exact hlt
      · simp [World.cell?, Array.getElem?_eq_none hge] at h0
    rw [← h0]
    exact World.cell?_alloc_lt w _ _ hb)
  have hsl : ∀ W, (Instr.slice 22 (.slice (some ⟨g, 0, none⟩) N cap) none (some (.int .i64 (k : Int))) none).run Tryd.prog W = .ok (.slice (some ⟨g, 0, none⟩) k cap) W := fun W => by
    rw [run_slice_h (P := Tryd.prog) (w := W) 22 (some ⟨g, 0, none⟩) N cap (by kernel_rfl) .i64 (k : Int) (by omega) (by omega)]
    have e : Tryd.prog.elem 22 = 5 := by kernel_rfl
    rw [e, Tryd.sizeOf5]
    simp [Result.andThen, sliced, Addr.add]
  generalize strOfNums ys = S at *
  have Hsz := Lib.hid hsz
  clear hconv hys hyl hsz hk hx hm
  go_enter Tryd.func41, Tryd.ntmps41
  go_wp2
  exact post_wide (b := w.heap.size) rfl rfl (Wd.new w neg S) rfl ⟨S, Hsz.out, rfl, (Below.refl _ _).alloc (Nat.le_refl _) _⟩

/-- An append among the operations of a region, out of its run. -/
theorem step_append_run {ops : Array Oper} {o : Oper} {a : Act} {K : Act → World → Prop} {Q : Exit → Act → World → Prop} {E : Prop} {w w' : World} {v : Value} (hgd : o.guard = none) (s x : Operand)
    (ho : o.op = .call { callee := .builtin .append, args := #[s, x], argTypes := #[22, 22] }) (hty : o.type = 22) (sv xv : Value) (hs : a.eval s = sv) (hx : a.eval x = xv)
    (hrun : (Builtin.append_ #[22, 22] 22 #[sv, xv]).run Tryd.prog w = .ok v w') (h : K (a.put o.dst v) w') :
    if Region.wanted o (yielded ops a.tmps) = true then Oper.wp Tryd.prog o a w K Q else E := by
  have hw : Region.wanted o (yielded ops a.tmps) = true := by simp [Region.wanted, hgd]
  rw [if_pos hw]
  unfold Oper.wp execOp
  simp only [ho, hty, resolve, invoke, builtin, Sem.run_bind, Sem.run_pure, Result.andThen_ok, List.map_toArray, List.map_cons, List.map_nil, hs, hx, hrun]
  exact h

set_option maxRecDepth 100000 in
set_option maxHeartbeats 2000000 in
theorem NumWide_any (neg : Bool) (A : Option Addr) (n c : Nat) (z : Int) (xs : List Int) (w : World) (hx : RdY w A xs) (hn : xs.length = n) (hA : A = none → n = 0 ∧ c = 0) (hnb : n ≤ 140737488351232) (hz : -9223372036854775808 ≤ z ∧ z ≤ 9223372036854775807) :
    Calls Tryd.prog 13 #[.agg #[.bool neg, .slice A n c, .int .i64 z]] w fun e w' => ∃ S : ByteArray, S.size ≤ 40 ∧ e = .returned (.agg #[.bool neg, .string S]) ∧ Below w.heap.size w w' := by
  have hmo := fun W => Mod_any z W hz
  obtain ⟨m, hm⟩ : ∃ m : Nat, m = (z % 4).toNat := ⟨_, rfl⟩
  have hm4 : m ≤ 3 := by omega
  have hmk := make_bytes m (by omega)
  rw [show ((m : Nat) : Int) = z % 4 from by omega] at hmk
  obtain ⟨W0, hW0⟩ : ∃ W0, W0 = (w.alloc (.cells #[.bool neg, .slice A n c, .int .i64 z] 24)).alloc (wbox false ⟨#[]⟩) := ⟨_, rfl⟩
  have hsz : W0.heap.size = w.heap.size + 2 := by rw [hW0]; simp
  have hB0 : Below w.heap.size w W0 := by rw [hW0]; exact below2 _ _ _
  have hbox : W0.heap[w.heap.size]? = some (.cells #[.bool neg, .slice A n c, .int .i64 z] 24 (0, 0)) := by
    rw [hW0]
    refine (Below.heap_alloc _ _ _ (by simp)).trans ?_
    exact heap_alloc_new w _
  have hres : Wd W0 (w.heap.size + 1) false ⟨#[]⟩ := by rw [hW0]; exact Wd.new1 _ _ _ _
  have b0 : W0.cell? ⟨w.heap.size, 0, none⟩ = some (.bool neg) := cell_of_row W0 w.heap.size 0 _ _ _ hbox
  have b1 : W0.cell? ⟨w.heap.size, 1, none⟩ = some (.slice A n c) := cell_of_row W0 w.heap.size 1 _ _ _ hbox
  have b2 : W0.cell? ⟨w.heap.size, 2, none⟩ = some (.int .i64 z) := cell_of_row W0 w.heap.size 2 _ _ _ hbox
  have hxW := hx.below hB0
  have hBal : Below W0.heap.size W0 (W0.alloc (.cells (Y (List.replicate m 0)) 5)).drew := ((Below.refl _ _).alloc (Nat.le_refl _) _).drew
  obtain ⟨g', cap, W2, hrun, hcap1, hcap2, hg', hcells, hB2⟩ := append_src W0.heap.size m n c A xs (W0.alloc (.cells (Y (List.replicate m 0)) 5)).drew W0.heap.size 22 (Bts.new W0 _) (hxW.below hBal) hn hA (Nat.le_refl _) (by omega)
  have hB02 : Below W0.heap.size W0 W2 := hBal.trans hB2
  have hma := Made_any neg g' (m + n) cap _ W2 hcap1 hcap2 hcells
  have c0 : W2.cell? ⟨w.heap.size, 0, none⟩ = some (.bool neg) := (hB02.cell (by simp only []; omega)).trans b0
  have c1 : W2.cell? ⟨w.heap.size, 1, none⟩ = some (.slice A n c) := (hB02.cell (by simp only []; omega)).trans b1
  have c2 : W2.cell? ⟨w.heap.size, 2, none⟩ = some (.int .i64 z) := (hB02.cell (by simp only []; omega)).trans b2
  rw [hsz] at hrun
  have HRUN := Lib.hid hrun
  clear hrun
  have HMO := Lib.hid hmo
  have HMA := Lib.hid hma
  have HB0 := Lib.hid hB0
  have HB02 := Lib.hid hB02
  have Hsz := Lib.hid hsz
  have HW0 := Lib.hid hW0
  have Hres := Lib.hid hres
  clear hmo hma hB0 hB02 hB2 hBal hcells hx hxW hres hbox hm hA hW0
  go_enter Tryd.func13, Tryd.ntmps13
  go_wp2_with fail
  rw [← HW0.out]
  go_region_held3 (fun w' => w'.cell? ⟨w.heap.size, 0, none⟩ = some (.bool neg) ∧ w'.cell? ⟨w.heap.size, 1, none⟩ = some (.slice A n c) ∧ w'.cell? ⟨w.heap.size, 2, none⟩ = some (.int .i64 z)) (first | (refine ⟨?_, ?_, ?_⟩ <;> ((refine (cell_two _ _ _ _ _ _ ?_).trans ?_); omega; assumption)) | go_keep)
    (first
      | (go_at_call 36; (with_reducible refine (HMO.out _).mono ?_); rintro e w3 ⟨rfl, rfl⟩)
      | (go_at_call 41; (with_reducible refine HMA.out.mono ?_); rintro e w4 ⟨S, hS, rfl, hb4⟩; have hlt4 : w.heap.size + 2 ≤ W2.heap.size := (by have := HB02.out.size; have := Hsz.out; omega); have e0 := (hb4.cell (p := ⟨w.heap.size, 0, none⟩) (by simp only []; omega)).trans c0; have e1 := (hb4.cell (p := ⟨w.heap.size, 1, none⟩) (by simp only []; omega)).trans c1; have e2 := (hb4.cell (p := ⟨w.heap.size, 2, none⟩) (by simp only []; omega)).trans c2; have hdr := (Hres.out.below HB02.out (by have := Hsz.out; omega)).below hb4 (by omega); have r0 := hdr.cell0; have r1 := hdr.cell1; have f0 := hdr.frozen 0; have f1 := hdr.frozen 1)
      | (refine step_append_run (w' := W2) (v := .slice (some ⟨g', 0, none⟩) (m + n) cap) rfl (.tmp 6) (.tmp 8) rfl rfl (.slice (some ⟨w.heap.size + 2, 0, none⟩) m m) (.slice A n c) rfl rfl HRUN.out ?_))
  go_wp2
  have hB4 : Below w.heap.size w w4 := (HB0.out.trans (HB02.out.mono HB0.out.size)).trans (hb4.mono (by omega))
  exact post_wide (b := w.heap.size + 1) rfl rfl ((hdr.set0 neg).set1 S) rfl ⟨S, hS, rfl, (hB4.setCell (by simp) _).setCell (by simp) _⟩
end Go.Proofs.YtgadnianjhaeiaaDoor
