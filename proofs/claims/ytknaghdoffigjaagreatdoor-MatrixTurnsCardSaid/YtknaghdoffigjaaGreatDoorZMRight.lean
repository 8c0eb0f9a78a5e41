/-
  The contracts of slices.ContainsFunc for matrix.isNotCanonical, and of matrix.Right. Tables of Wides: newTable and row.
-/
import Derived.Test.YtknaghdoffigjaaGreatDoorZMInt
import Derived.Deep.RegionHeld3
import Derived.Test.YtknaghdoffigjaaGreatDoorZSmall
set_option linter.unusedSimpArgs false
set_option linter.unusedVariables false
set_option linter.unnecessarySimpa false
namespace Go.Proofs.YtknaghdoffigjaaGreatDoor
open Go.RowKit

/-- A slice with this address reads as these Wides. -/
def RdW (w : World) (A : Option Addr) (zs : List (Bool × ByteArray)) : Prop :=
  ∀ k (h : k < zs.length), ∃ a, A = some a ∧ a.block < w.heap.size ∧ w.cell? (a.add (k * 2)) = some (.bool zs[k].1) ∧ w.cell? ⟨(a.add (k * 2)).block, (a.add (k * 2)).off + 1, none⟩ = some (.string zs[k].2)
theorem RdW.below {w w' : World} {A : Option Addr} {zs : List (Bool × ByteArray)} (h : RdW w A zs) (hb : Below w.heap.size w w') : RdW w' A zs := fun k hk => by
  obtain ⟨a, e, hl, h1, h2⟩ := h k hk
  exact ⟨a, e, by have := hb.size; omega, (hb.cell (by rw [block_add]; exact hl)).trans h1, (hb.cell (by simp only []; rw [block_add]; exact hl)).trans h2⟩
theorem RdW.nil (w : World) (A : Option Addr) : RdW w A [] := fun k hk => absurd hk (by simp)

set_option maxHeartbeats 2000000 in
theorem IndexFunc_any (A : Option Addr) (n c : Nat) (zs : List (Bool × ByteArray)) (w : World) (hr : RdW w A zs) (hn : zs.length = n) (hm : n ≤ maxLen) :
    Calls Tryz.prog 126 #[.slice A n c, .func (.func 86) #[] #[]] w
      fun e w' => ∃ i : Int, e = .returned (.int .i64 i) ∧ decide (i ≥ 0) = zs.any (fun p => ncan p.1 p.2) ∧ Below w.heap.size w w' := by
  unfold maxLen at hm
  have HR := Lib.hid hr
  have HN := Lib.hid hn
  clear hr hn
  go_enter Tryz.func126, Tryz.ntmps126
  go_wp2_with fail
  go_loopw [5, 8] (fun _ i wr => ∃ k : Nat, i = .int .i64 k ∧ k ≤ n ∧ (zs.take k).any (fun p => ncan p.1 p.2) = false ∧ Below w.heap.size w wr) (fun _ i _ => n - (intOf i).toNat)
  case atStart => exact ⟨0, rfl, Nat.zero_le _, rfl, Below.refl _ _⟩
  case round =>
    obtain ⟨k, rfl, hk, hf, hb⟩ := hrel
    by_cases hlt : k < n
    · obtain ⟨a, rfl, ha, c0, c1⟩ := (HR.out.below hb) k (by rw [HN.out]; exact hlt)
      obtain ⟨x, hx⟩ : ∃ x, x = zs[k]'(by rw [HN.out]; exact hlt) := ⟨_, rfl⟩
      rw [← hx] at c0 c1
      have hcall := fun W => isNotCanonical_any x.1 x.2 W
      have HX := Lib.hid hx
      have HF := Lib.hid hf
      have HB := Lib.hid hb
      clear hx hf hb
      go_wp2_with fail
      with_reducible refine (hcall _).mono ?_
      rintro e w1 ⟨rfl, hb1⟩
      have HB1 := Lib.hid (HB.out.trans (hb1.mono HB.out.size))
      clear hb1 hcall c0 c1 ha
      by_cases hbad : ncan x.1 x.2 = true
      · have hany : zs.any (fun p => ncan p.1 p.2) = true := by
          rw [List.any_eq_true]
          exact ⟨x, by rw [HX.out]; exact List.getElem_mem _, hbad⟩
        have HA := Lib.hid hany
        clear hany
        go_wp2
        go_ret
        exact ⟨(k : Int), rfl, by rw [HA.out]; simp, HB1.out⟩
      · have hgood : ncan x.1 x.2 = false := by simpa using hbad
        have hnext : (zs.take (k + 1)).any (fun p => ncan p.1 p.2) = false := by
          rw [List.take_add_one, List.any_append, HF.out, List.getElem?_eq_getElem (by rw [HN.out]; exact hlt), ← HX.out]
          simp [hgood]
        have HF2 := Lib.hid hnext
        clear hnext hbad
        go_wp2
        go_roundw
        case rel => exact ⟨k + 1, rfl, by omega, HF2.out, HB1.out⟩
        case measure => simp [intOf]; omega
    · have hkn : k = n := by omega
      subst hkn
      have hall : zs.any (fun p => ncan p.1 p.2) = false := by
        rw [← HN.out, List.take_of_length_le (Nat.le_refl _)] at hf
        exact hf
      have HF := Lib.hid hall
      have HB := Lib.hid hb
      clear hf hall hb hk
      go_wp2
      go_ret
      exact ⟨-1, rfl, by rw [HF.out]; rfl, HB.out⟩

theorem ContainsFunc_any (A : Option Addr) (n c : Nat) (zs : List (Bool × ByteArray)) (w : World) (hr : RdW w A zs) (hn : zs.length = n) (hm : n ≤ maxLen) :
    Calls Tryz.prog 85 #[.slice A n c, .func (.func 86) #[] #[]] w
      fun e w' => e = .returned (.bool (zs.any (fun p => ncan p.1 p.2))) ∧ Below w.heap.size w w' := by
  have HI := Lib.hid (IndexFunc_any A n c zs w hr hn hm)
  clear hr hn
  go_enter Tryz.func85, Tryz.ntmps85
  go_wp2_with fail
  with_reducible refine HI.out.mono ?_
  rintro e w1 ⟨i, rfl, hi, hb⟩
  go_wp2
  go_ret
  exact ⟨by rw [← hi]; rfl, hb⟩

/-- Whether a matrix is right. -/
def mright (r c : Int) (zs : List (Bool × ByteArray)) : Bool := msize r && msize c && decide ((zs.length : Int) = r * c) && !zs.any (fun p => ncan p.1 p.2)
set_option maxHeartbeats 2000000 in
theorem Right_any (r c : Int) (A : Option Addr) (n cap : Nat) (zs : List (Bool × ByteArray)) (w : World) (hr : RdW w A zs) (hn : zs.length = n) (hm : n ≤ maxLen) :
    Calls Tryz.prog 32 #[mat r c A n cap] w fun e w' => e = .returned (.bool (mright r c zs)) ∧ Below w.heap.size w w' := by
  unfold mat
  have hs1 := fun W => isSize_any r W
  have hs2 := fun W => isSize_any c W
  have hB : Mb (w.alloc (.cells #[.int .i64 r, .int .i64 c, .slice A n cap] 28)) w.heap.size r c A n cap := Mb.new _ _ _ _ _ _
  have hbel : Below w.heap.size w (w.alloc (.cells #[.int .i64 r, .int .i64 c, .slice A n cap] 28)) := (Below.refl _ _).alloc (Nat.le_refl _) _
  have hcf := ContainsFunc_any A n cap zs (w.alloc (.cells #[.int .i64 r, .int .i64 c, .slice A n cap] 28)) (hr.below hbel) hn hm
  have HS1 := Lib.hid hs1
  have HS2 := Lib.hid hs2
  have HCF := Lib.hid hcf
  have HBel := Lib.hid hbel
  clear hs1 hs2 hcf hr hbel
  have hres : mright r c zs = (msize r && msize c && decide ((n : Int) = r * c) && !zs.any (fun p => ncan p.1 p.2)) := by unfold mright; rw [hn]
  rw [hres]
  clear hres hn
  generalize zs.any (fun p => ncan p.1 p.2) = bad at *
  by_cases h1 : msize r = true
  · rw [h1]
    by_cases h2 : msize c = true
    · rw [h2]
      have hrc : 0 ≤ r ∧ r ≤ 200 ∧ 0 ≤ c ∧ c ≤ 200 := by simp [msize] at h1 h2; omega
      have hmul : 0 ≤ r * c ∧ r * c ≤ 40000 := ⟨Int.mul_nonneg hrc.1 hrc.2.2.1, by have := Int.mul_le_mul hrc.2.1 hrc.2.2.2 hrc.2.2.1 (by omega : (0 : Int) ≤ 200); omega⟩
      have hw : IntKind.i64.wrap (r * c) = r * c := IntWalk.i64_in _ (by omega)
      rw [h1] at HS1
      rw [h2] at HS2
      clear h1 h2 hrc hmul
      by_cases h3 : ((n : Int) == r * c) = true
      · have h3' : decide ((n : Int) = r * c) = true := by simpa using h3
        rw [h3']
        clear h3'
        go_enter Tryz.func32, Tryz.ntmps32
        have c0 := hB.cell0
        have c1 := hB.cell1
        have c2 := hB.cell2
        go_wp2_with fail
        with_reducible refine (HS1.out _).mono ?_
        rintro e w1 ⟨rfl, rfl⟩
        go_wp2_with fail
        with_reducible refine (HS2.out _).mono ?_
        rintro e w1 ⟨rfl, rfl⟩
        go_wp2_with fail
        with_reducible refine HCF.out.mono ?_
        rintro e w1 ⟨rfl, hb⟩
        go_wp2
        go_ret
        exact ⟨by cases bad <;> rfl, HBel.out.trans (hb.mono HBel.out.size)⟩
      · have h4 : ((n : Int) == r * c) = false := by simpa using h3
        have h3' : decide ((n : Int) = r * c) = false := by simpa using h4
        rw [h3']
        clear h3' h3
        go_enter Tryz.func32, Tryz.ntmps32
        have c0 := hB.cell0
        have c1 := hB.cell1
        have c2 := hB.cell2
        go_wp2_with fail
        with_reducible refine (HS1.out _).mono ?_
        rintro e w1 ⟨rfl, rfl⟩
        go_wp2_with fail
        with_reducible refine (HS2.out _).mono ?_
        rintro e w1 ⟨rfl, rfl⟩
        go_wp2
        go_ret
        exact ⟨rfl, HBel.out⟩
    · have h2' : msize c = false := by simpa using h2
      rw [h2']
      rw [h1] at HS1
      rw [h2'] at HS2
      clear h1 h2 h2'
      go_enter Tryz.func32, Tryz.ntmps32
      have c0 := hB.cell0
      have c1 := hB.cell1
      have c2 := hB.cell2
      go_wp2_with fail
      with_reducible refine (HS1.out _).mono ?_
      rintro e w1 ⟨rfl, rfl⟩
      go_wp2_with fail
      with_reducible refine (HS2.out _).mono ?_
      rintro e w1 ⟨rfl, rfl⟩
      go_wp2
      go_ret
      exact ⟨rfl, HBel.out⟩
  · have h1' : msize r = false := by simpa using h1
    rw [h1']
    rw [h1'] at HS1
    clear h1 h1'
    go_enter Tryz.func32, Tryz.ntmps32
    have c0 := hB.cell0
    have c1 := hB.cell1
    have c2 := hB.cell2
    go_wp2_with fail
    with_reducible refine (HS1.out _).mono ?_
    rintro e w1 ⟨rfl, rfl⟩
    go_wp2
    go_ret
    exact ⟨rfl, HBel.out⟩
end Go.Proofs.YtknaghdoffigjaaGreatDoor
namespace Go.Proofs.YtknaghdoffigjaaGreatDoor
open Go.RowKit

/-- The cells of these Wides, one behind the other. -/
def flat (zs : List (Bool × ByteArray)) : List Value := zs.flatMap fun p => [.bool p.1, .string p.2]
theorem flat_cons (p : Bool × ByteArray) (zs : List (Bool × ByteArray)) : flat (p :: zs) = .bool p.1 :: .string p.2 :: flat zs := rfl
theorem flat_length (zs : List (Bool × ByteArray)) : (flat zs).length = zs.length * 2 := by
  induction zs with
  | nil => rfl
  | cons p zs ih => rw [flat_cons, List.length_cons, List.length_cons, ih, List.length_cons]; omega
theorem flat_get (zs : List (Bool × ByteArray)) (k : Nat) (h : k < zs.length) : (flat zs)[k * 2]? = some (.bool zs[k].1) ∧ (flat zs)[k * 2 + 1]? = some (.string zs[k].2) := by
  induction zs generalizing k with
  | nil => simp at h
  | cons p zs ih =>
    rw [flat_cons]
    cases k with
    | zero => exact ⟨rfl, rfl⟩
    | succ k =>
      have := ih k (by simpa using h)
      rw [show (k + 1) * 2 = k * 2 + 1 + 1 from by omega]
      simpa using this
/-- Block g holds these Wides. -/
def Lw (w : World) (g : Nat) (zs : List (Bool × ByteArray)) : Prop := w.heap[g]? = some (.cells (flat zs).toArray 32 (0, 0))
theorem Lw.lt {w : World} {g : Nat} {zs : List (Bool × ByteArray)} (h : Lw w g zs) : g < w.heap.size := by
  rcases Nat.lt_or_ge g w.heap.size with hlt | hge
  · exact hlt
  · unfold Lw at h; rw [Array.getElem?_eq_none hge] at h; cases h
theorem Lw.below {w w' : World} {g B : Nat} {zs : List (Bool × ByteArray)} (h : Lw w g zs) (hb : Below B w w') (hg : g < B) : Lw w' g zs := (hb.block g hg).trans h
theorem Lw.step {w w' : World} {g : Nat} {zs : List (Bool × ByteArray)} (h : Lw w g zs) (hb : Below w.heap.size w w') : Lw w' g zs := h.below hb h.lt
theorem Lw.new (w : World) (zs : List (Bool × ByteArray)) : Lw (w.alloc (.cells (flat zs).toArray 32)) w.heap.size zs := heap_alloc_new w _
theorem Lw.cell0 {w : World} {g : Nat} {zs : List (Bool × ByteArray)} (h : Lw w g zs) (k : Nat) (hk : k < zs.length) : w.cell? ⟨g, k * 2, none⟩ = some (.bool zs[k].1) := by
  unfold Lw at h
  simp [World.cell?, h, (flat_get zs k hk).1]
theorem Lw.cell1 {w : World} {g : Nat} {zs : List (Bool × ByteArray)} (h : Lw w g zs) (k : Nat) (hk : k < zs.length) : w.cell? ⟨g, k * 2 + 1, none⟩ = some (.string zs[k].2) := by
  unfold Lw at h
  simp [World.cell?, h, (flat_get zs k hk).2]
theorem add_from0 (g k : Nat) : (⟨g, 0, none⟩ : Addr).add k = ⟨g, k, none⟩ := by
  unfold Addr.add
  by_cases h0 : k = 0 <;> simp [h0]
theorem Lw.rd {w : World} {g : Nat} {zs : List (Bool × ByteArray)} (h : Lw w g zs) : RdW w (some ⟨g, 0, none⟩) zs := fun k hk =>
  ⟨_, rfl, h.lt, by rw [add_from0]; exact h.cell0 k hk, by rw [add_from0]; exact h.cell1 k hk⟩
theorem made_flat (n : Nat) : madeCells #[.bool false, .string ⟨#[]⟩] (n * 2) = (flat (List.replicate n (false, ⟨#[]⟩))).toArray := by
  apply Array.ext
  · simp [size_madeCells, flat_length]
  · intro i h1 h2
    have hi : i < n * 2 := by simpa [size_madeCells] using h1
    have hg := flat_get (List.replicate n (false, (⟨#[]⟩ : ByteArray))) (i / 2) (by rw [List.length_replicate]; omega)
    have hl : i < (flat (List.replicate n (false, (⟨#[]⟩ : ByteArray)))).length := by rw [flat_length, List.length_replicate]; exact hi
    rcases Nat.mod_two_eq_zero_or_one i with h | h
    · have e : i / 2 * 2 = i := by omega
      rw [e, List.getElem?_eq_getElem hl] at hg
      have := Option.some.inj hg.1
      simp [madeCells, h, this]
    · have e : i / 2 * 2 + 1 = i := by omega
      rw [e, List.getElem?_eq_getElem hl] at hg
      have := Option.some.inj hg.2
      simp [madeCells, h, this]
theorem info_wide : (Tryz.prog.info? 32).map (fun i => (i.zero, i.size, i.bytes)) = some (some (.agg #[.bool false, .string ⟨#[]⟩]), 2, 24) := by kernel_rfl
theorem make_wides (n : Nat) (hn : n ≤ 40000) (w : World) :
    (Instr.makeSlice 26 (.int .i64 (n : Int)) (.int .i64 (n : Int))).run Tryz.prog w = .ok (.slice (some ⟨w.heap.size, 0, none⟩) n n) (w.alloc (.cells (flat (List.replicate n (false, ⟨#[]⟩))).toArray 32)) := by
  obtain ⟨i0, hi, hz0, hz1, hz2⟩ := info_parts info_wide
  have hr := run_make (P := Tryz.prog) w 26 32 i0 (.agg #[.bool false, .string ⟨#[]⟩]) Tryz.underlying26 hi hz0 .i64 .i64 n n (by omega) (by omega) (by rw [hz2]; omega) (by omega)
  rw [hz1] at hr
  simp only [Int.toNat_natCast] at hr
  rw [← made_flat]
  exact hr
set_option maxHeartbeats 1000000 in
theorem newTable_any (r c n : Nat) (w : World) (hr : r ≤ 400) (hc : c ≤ 400) (hn : r * c = n) (hn2 : n ≤ 40000) :
    Calls Tryz.prog 58 #[.int .i64 (r : Int), .int .i64 (c : Int)] w fun e w' =>
      ∃ g, e = .returned (mat r c (some ⟨g, 0, none⟩) n n) ∧ w.heap.size ≤ g ∧ Lw w' g (List.replicate n (false, ⟨#[]⟩)) ∧ Below w.heap.size w w' := by
  have hmk := make_wides n hn2
  have e1 : (r : Int) * (c : Int) = (n : Int) := by rw [← hn, Int.natCast_mul]
  have w1 : IntKind.i64.wrap (n : Int) = n := IntWalk.i64_in _ (by omega)
  clear hn
  go_enter Tryz.func58, Tryz.ntmps58
  go_wp2
  have hT := (Tb.new w (r : Int) (c : Int) (some ⟨w.heap.size + 1, 0, none⟩) n n)
  have hT2 : Tb ((w.alloc (.cells #[.int .i64 (r : Int), .int .i64 (c : Int), .slice (some ⟨w.heap.size + 1, 0, none⟩) n n] 68)).alloc (.cells (flat (List.replicate n (false, ⟨#[]⟩))).toArray 32)) w.heap.size (r : Int) (c : Int) (some ⟨w.heap.size + 1, 0, none⟩) n n := (Below.heap_alloc _ _ _ (by simp)).trans hT
  have hL := Lw.new (w.alloc (.cells #[.int .i64 (r : Int), .int .i64 (c : Int), .slice (some ⟨w.heap.size + 1, 0, none⟩) n n] 68)) (List.replicate n (false, ⟨#[]⟩))
  rw [show (w.alloc (.cells #[.int .i64 (r : Int), .int .i64 (c : Int), .slice (some ⟨w.heap.size + 1, 0, none⟩) n n] 68)).heap.size = w.heap.size + 1 from by simp] at hL
  exact post_table (b := w.heap.size) rfl rfl hT2 rfl ⟨_, rfl, by omega, hL, below2 _ _ _⟩
theorem slice_row (A : Option Addr) (n cap lo hi : Nat) (h1 : lo ≤ hi) (h2 : hi ≤ cap) (w : World) :
    (Instr.slice 26 (.slice A n cap) (some (.int .i64 (lo : Int))) (some (.int .i64 (hi : Int))) (some (.int .i64 (hi : Int)))).run Tryz.prog w = .ok (.slice (if hi = lo then A else A.map (·.add (lo * 2))) (hi - lo) (hi - lo)) w := by
  have h := run_slice_lhm (P := Tryz.prog) (w := w) 26 A n cap (by kernel_rfl) .i64 .i64 .i64 (lo : Int) (hi : Int) (hi : Int) (by omega) (by omega) (by omega) (by omega)
  rw [h]
  have e : Tryz.prog.elem 26 = 32 := by kernel_rfl
  rw [e, Tryz.sizeOf32]
  simp [Result.andThen, sliced]
set_option maxHeartbeats 1000000 in
theorem row_any (r c i : Nat) (A : Option Addr) (n cap : Nat) (w : World) (hi : i < r) (hr : r ≤ 400) (hc : c ≤ 400) (hn : r * c ≤ cap) (hcap : cap ≤ maxLen) :
    Calls Tryz.prog 84 #[mat r c A n cap, .int .i64 (i : Int)] w fun e w' =>
      e = .returned (.slice (if c = 0 then A else A.map (·.add (i * c * 2))) c c) ∧ Below w.heap.size w w' := by
  have hi400 : i ≤ 400 := by omega
  have h1 : i * c ≤ 400 * 400 := Nat.mul_le_mul hi400 hc
  have h2 : (i + 1) * c = i * c + c := by rw [Nat.add_mul, Nat.one_mul]
  have h3 : (i + 1) * c ≤ r * c := Nat.mul_le_mul_right c hi
  obtain ⟨lo, hlo⟩ : ∃ lo, lo = i * c := ⟨_, rfl⟩
  rw [← hlo] at h1 h2 ⊢
  obtain ⟨up, hup⟩ : ∃ up, up = lo + c := ⟨_, rfl⟩
  have hsl := slice_row A n cap lo up (by omega) (by omega)
  rw [show up - lo = c from by omega] at hsl
  have hif : (if up = lo then A else A.map (·.add (lo * 2))) = (if c = 0 then A else A.map (·.add (lo * 2))) := by
    by_cases h : c = 0
    · rw [if_pos h, if_pos (by omega)]
    · rw [if_neg h, if_neg (by omega)]
  rw [hif] at hsl
  have e1 : (i : Int) * (c : Int) = (lo : Int) := by rw [hlo, Int.natCast_mul]
  have e2 : ((i : Int) + 1) * (c : Int) = (up : Int) := by rw [Int.add_mul, e1, Int.one_mul]; omega
  have w0 : IntKind.i64.wrap ((i : Int) + 1) = (i : Int) + 1 := IntWalk.i64_in _ (by omega)
  have w1 : IntKind.i64.wrap (lo : Int) = lo := IntWalk.i64_in _ (by omega)
  have w2 : IntKind.i64.wrap (up : Int) = up := IntWalk.i64_in _ (by omega)
  generalize (if c = 0 then A else A.map (·.add (lo * 2))) = A' at *
  have hT := Tb.new w (r : Int) (c : Int) A n cap
  have c0 := hT.cell0
  have c1 := hT.cell1
  have c2 := hT.cell2
  clear hif hlo h1 h2 h3 hn hcap hup
  unfold mat
  go_enter Tryz.func84, Tryz.ntmps84
  go_wp2_with fail
  go_quiet (fail)
  go_wp2_with fail
  go_ret
  exact ⟨rfl, below_many ((Below.refl _ _).alloc (Nat.le_refl _) _) _⟩
end Go.Proofs.YtknaghdoffigjaaGreatDoor
