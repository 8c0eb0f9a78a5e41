import Derived.Test.YtknaghdoffigjaaGreatDoorZMInt
import Derived.Deep.RegionHeld3
import Derived.Test.YtknaghdoffigjaaGreatDoorZParts
import Derived.RangeFuncWrites
import Derived.RangeFuncBound
import Derived.RangeFuncCalls
import Derived.RangeFuncLeaves
import Derived.RangeFuncNested
import Derived.OwnWalkIn
import Derived.TacticsInMore
import Derived.LoopNIn
import Derived.LoopIn
set_option linter.unusedSimpArgs false
set_option linter.unusedVariables false
set_option linter.unnecessarySimpa false
namespace Go.Proofs.YtknaghdoffigjaaGreatDoor
open Go.RowKit
def RdW (w : World) (A : Option Addr) (zs : List (Bool × ByteArray)) : Prop :=
 ∀ k (h : k < zs.length), ∃ a, A = some a ∧ a.block < w.heap.size ∧ w.cell? (a.add (k * 2)) = some (.bool zs[k].1) ∧ w.cell? ⟨(a.add (k * 2)).block, (a.add (k * 2)).off + 1, none⟩ = some (.string zs[k].2)
theorem RdW.below {w w' : World} {A : Option Addr} {zs : List (Bool × ByteArray)} (h : RdW w A zs) (hb : Below w.heap.size w w') : RdW w' A zs := fun k hk => by
 obtain ⟨a, e, hl, h1, h2⟩ := h k hk
 exact ⟨a, e, by have := hb.size; omega, (hb.cell (by rw [block_add]; exact hl)).trans h1, (hb.cell (by simp only []; rw [block_add]; exact hl)).trans h2⟩
theorem RdW.nil (w : World) (A : Option Addr) : RdW w A [] := fun k hk => absurd hk (by simp)
set_option maxHeartbeats 2000000 in
theorem IndexFunc_any (A : Option Addr) (n c : Nat) (zs : List (Bool × ByteArray)) (w : World) (hr : RdW w A zs) (hn : zs.length = n) (hm : n ≤ maxLen) :
  Calls Tryz.prog 126 #[.slice A n c, .func (.func 86) #[] #[]] w
   fun e w' => ∃ i : Int, e = .returned (.int .i64 i) ∧ decide (i ≥ 0) = zs.any (fun p => ncan p.1 p.2) ∧ Below w.heap.size w w' := by
 unfold maxLen at hm
 have HR := Lib.hid hr
 have HN := Lib.hid hn
 clear hr hn
 go_enter Tryz.func126, Tryz.ntmps126
 go_wp2_with fail
 go_loopw [5, 8] (fun _ i wr => ∃ k : Nat, i = .int .i64 k ∧ k ≤ n ∧ (zs.take k).any (fun p => ncan p.1 p.2) = false ∧ Below w.heap.size w wr) (fun _ i _ => n - (intOf i).toNat)
 case atStart => exact ⟨0, rfl, Nat.zero_le _, rfl, Below.refl _ _⟩
 case round =>
  obtain ⟨k, rfl, hk, hf, hb⟩ := hrel
  by_cases hlt : k < n
  ·obtain ⟨a, rfl, ha, c0, c1⟩ := (HR.out.below hb) k (by rw [HN.out]; exact hlt)
   obtain ⟨x, hx⟩ : ∃ x, x = zs[k]'(by rw [HN.out]; exact hlt) := ⟨_, rfl⟩
   rw [← hx] at c0 c1
   have hcall := fun W => isNotCanonical_any x.1 x.2 W
   have HX := Lib.hid hx
   have HF := Lib.hid hf
   have HB := Lib.hid hb
   clear hx hf hb
   go_wp2_with fail
   with_reducible refine (hcall _).mono ?_
   rintro e w1 ⟨rfl, hb1⟩
   have HB1 := Lib.hid (HB.out.trans (hb1.mono HB.out.size))
   clear hb1 hcall c0 c1 ha
   by_cases hbad : ncan x.1 x.2 = true
   ·have hany : zs.any (fun p => ncan p.1 p.2) = true := by
     rw [List.any_eq_true]
     exact ⟨x, by rw [HX.out]; exact List.getElem_mem _, hbad⟩
    have HA := Lib.hid hany
    clear hany
    go_wp2
    go_ret
    exact ⟨(k : Int), rfl, by rw [HA.out]; simp, HB1.out⟩
   ·have hgood : ncan x.1 x.2 = false := by simpa using hbad
    have hnext : (zs.take (k + 1)).any (fun p => ncan p.1 p.2) = false := by
     rw [List.take_add_one, List.any_append, HF.out, List.getElem?_eq_getElem (by rw [HN.out]; exact hlt), ← HX.out]
     simp [hgood]
    have HF2 := Lib.hid hnext
    clear hnext hbad
    go_wp2
    go_roundw
    case rel => exact ⟨k + 1, rfl, by omega, HF2.out, HB1.out⟩
    case measure => simp [intOf]; omega
  ·have hkn : k = n := by omega
   subst hkn
   have hall : zs.any (fun p => ncan p.1 p.2) = false := by
    rw [← HN.out, List.take_of_length_le (Nat.le_refl _)] at hf
    exact hf
   have HF := Lib.hid hall
   have HB := Lib.hid hb
   clear hf hall hb hk
   go_wp2
   go_ret
   exact ⟨-1, rfl, by rw [HF.out]; rfl, HB.out⟩
theorem ContainsFunc_any (A : Option Addr) (n c : Nat) (zs : List (Bool × ByteArray)) (w : World) (hr : RdW w A zs) (hn : zs.length = n) (hm : n ≤ maxLen) :
  Calls Tryz.prog 85 #[.slice A n c, .func (.func 86) #[] #[]] w
   fun e w' => e = .returned (.bool (zs.any (fun p => ncan p.1 p.2))) ∧ Below w.heap.size w w' := by
 have HI := Lib.hid (IndexFunc_any A n c zs w hr hn hm)
 clear hr hn
 go_enter Tryz.func85, Tryz.ntmps85
 go_wp2_with fail
 with_reducible refine HI.out.mono ?_
 rintro e w1 ⟨i, rfl, hi, hb⟩
 go_wp2
 go_ret
 exact ⟨by rw [← hi]; rfl, hb⟩
def mright (r c : Int) (zs : List (Bool × ByteArray)) : Bool := msize r && msize c && decide ((zs.length : Int) = r * c) && !zs.any (fun p => ncan p.1 p.2)
set_option maxHeartbeats 2000000 in
theorem Right_any (r c : Int) (A : Option Addr) (n cap : Nat) (zs : List (Bool × ByteArray)) (w : World) (hr : RdW w A zs) (hn : zs.length = n) (hm : n ≤ maxLen) :
  Calls Tryz.prog 32 #[mat r c A n cap] w fun e w' => e = .returned (.bool (mright r c zs)) ∧ Below w.heap.size w w' := by
 unfold mat
 have hs1 := fun W => isSize_any r W
 have hs2 := fun W => isSize_any c W
 have hB : Mb (w.alloc (.cells #[.int .i64 r, .int .i64 c, .slice A n cap] 28)) w.heap.size r c A n cap := Mb.new _ _ _ _ _ _
 have hbel : Below w.heap.size w (w.alloc (.cells #[.int .i64 r, .int .i64 c, .slice A n cap] 28)) := (Below.refl _ _).alloc (Nat.le_refl _) _
 have hcf := ContainsFunc_any A n cap zs (w.alloc (.cells #[.int .i64 r, .int .i64 c, .slice A n cap] 28)) (hr.below hbel) hn hm
 have HS1 := Lib.hid hs1
 have HS2 := Lib.hid hs2
 have HCF := Lib.hid hcf
 have HBel := Lib.hid hbel
 clear hs1 hs2 hcf hr hbel
 have hres : mright r c zs = (msize r && msize c && decide ((n : Int) = r * c) && !zs.any (fun p => ncan p.1 p.2)) := by unfold mright; rw [hn]
 rw [hres]
 clear hres hn
 generalize zs.any (fun p => ncan p.1 p.2) = bad at *
 by_cases h1 : msize r = true
 ·rw [h1]
  by_cases h2 : msize c = true
  ·rw [h2]
   have hrc : 0 ≤ r ∧ r ≤ 200 ∧ 0 ≤ c ∧ c ≤ 200 := by simp [msize] at h1 h2; omega
   have hmul : 0 ≤ r * c ∧ r * c ≤ 40000 := ⟨Int.mul_nonneg hrc.1 hrc.2.2.1, by have := Int.mul_le_mul hrc.2.1 hrc.2.2.2 hrc.2.2.1 (by omega : (0 : Int) ≤ 200); omega⟩
   have hw : IntKind.i64.wrap (r * c) = r * c := IntWalk.i64_in _ (by omega)
   rw [h1] at HS1
   rw [h2] at HS2
   clear h1 h2 hrc hmul
   by_cases h3 : ((n : Int) == r * c) = true
   ·have h3' : decide ((n : Int) = r * c) = true := by simpa using h3
    rw [h3']
    clear h3'
    go_enter Tryz.func32, Tryz.ntmps32
    have c0 := hB.cell0
    have c1 := hB.cell1
    have c2 := hB.cell2
    go_wp2_with fail
    with_reducible refine (HS1.out _).mono ?_
    rintro e w1 ⟨rfl, rfl⟩
    go_wp2_with fail
    with_reducible refine (HS2.out _).mono ?_
    rintro e w1 ⟨rfl, rfl⟩
    go_wp2_with fail
    with_reducible refine HCF.out.mono ?_
    rintro e w1 ⟨rfl, hb⟩
    go_wp2
    go_ret
    exact ⟨by cases bad <;> rfl, HBel.out.trans (hb.mono HBel.out.size)⟩
   ·have h4 : ((n : Int) == r * c) = false := by simpa using h3
    have h3' : decide ((n : Int) = r * c) = false := by simpa using h4
    rw [h3']
    clear h3' h3
    go_enter Tryz.func32, Tryz.ntmps32
    have c0 := hB.cell0
    have c1 := hB.cell1
    have c2 := hB.cell2
    go_wp2_with fail
    with_reducible refine (HS1.out _).mono ?_
    rintro e w1 ⟨rfl, rfl⟩
    go_wp2_with fail
    with_reducible refine (HS2.out _).mono ?_
    rintro e w1 ⟨rfl, rfl⟩
    go_wp2
    go_ret
    exact ⟨rfl, HBel.out⟩
  ·have h2' : msize c = false := by simpa using h2
   rw [h2']
   rw [h1] at HS1
   rw [h2'] at HS2
   clear h1 h2 h2'
   go_enter Tryz.func32, Tryz.ntmps32
   have c0 := hB.cell0
   have c1 := hB.cell1
   have c2 := hB.cell2
   go_wp2_with fail
   with_reducible refine (HS1.out _).mono ?_
   rintro e w1 ⟨rfl, rfl⟩
   go_wp2_with fail
   with_reducible refine (HS2.out _).mono ?_
   rintro e w1 ⟨rfl, rfl⟩
   go_wp2
   go_ret
   exact ⟨rfl, HBel.out⟩
 ·have h1' : msize r = false := by simpa using h1
  rw [h1']
  rw [h1'] at HS1
  clear h1 h1'
  go_enter Tryz.func32, Tryz.ntmps32
  have c0 := hB.cell0
  have c1 := hB.cell1
  have c2 := hB.cell2
  go_wp2_with fail
  with_reducible refine (HS1.out _).mono ?_
  rintro e w1 ⟨rfl, rfl⟩
  go_wp2
  go_ret
  exact ⟨rfl, HBel.out⟩
end Go.Proofs.YtknaghdoffigjaaGreatDoor
namespace Go.Proofs.YtknaghdoffigjaaGreatDoor
open Go.RowKit
def flat (zs : List (Bool × ByteArray)) : List Value := zs.flatMap fun p => [.bool p.1, .string p.2]
theorem flat_cons (p : Bool × ByteArray) (zs : List (Bool × ByteArray)) : flat (p :: zs) = .bool p.1 :: .string p.2 :: flat zs := rfl
theorem flat_length (zs : List (Bool × ByteArray)) : (flat zs).length = zs.length * 2 := by
 induction zs with
 | nil => rfl
 | cons p zs ih => rw [flat_cons, List.length_cons, List.length_cons, ih, List.length_cons]; omega
theorem flat_get (zs : List (Bool × ByteArray)) (k : Nat) (h : k < zs.length) : (flat zs)[k * 2]? = some (.bool zs[k].1) ∧ (flat zs)[k * 2 + 1]? = some (.string zs[k].2) := by
 induction zs generalizing k with
 | nil => simp at h
 | cons p zs ih =>
  rw [flat_cons]
  cases k with
  | zero => exact ⟨rfl, rfl⟩
  | succ k =>
   have := ih k (by simpa using h)
   rw [show (k + 1) * 2 = k * 2 + 1 + 1 from by omega]
   simpa using this
def Lw (w : World) (g : Nat) (zs : List (Bool × ByteArray)) : Prop := w.heap[g]? = some (.cells (flat zs).toArray 32 (0, 0))
theorem Lw.lt {w : World} {g : Nat} {zs : List (Bool × ByteArray)} (h : Lw w g zs) : g < w.heap.size := by
 rcases Nat.lt_or_ge g w.heap.size with hlt | hge
 ·exact hlt
 ·unfold Lw at h; rw [Array.getElem?_eq_none hge] at h; cases h
theorem Lw.below {w w' : World} {g B : Nat} {zs : List (Bool × ByteArray)} (h : Lw w g zs) (hb : Below B w w') (hg : g < B) : Lw w' g zs := (hb.block g hg).trans h
theorem Lw.step {w w' : World} {g : Nat} {zs : List (Bool × ByteArray)} (h : Lw w g zs) (hb : Below w.heap.size w w') : Lw w' g zs := h.below hb h.lt
theorem Lw.new (w : World) (zs : List (Bool × ByteArray)) : Lw (w.alloc (.cells (flat zs).toArray 32)) w.heap.size zs := heap_alloc_new w _
theorem Lw.cell0 {w : World} {g : Nat} {zs : List (Bool × ByteArray)} (h : Lw w g zs) (k : Nat) (hk : k < zs.length) : w.cell? ⟨g, k * 2, none⟩ = some (.bool zs[k].1) := by
 unfold Lw at h
 simp [World.cell?, h, (flat_get zs k hk).1]
theorem Lw.cell1 {w : World} {g : Nat} {zs : List (Bool × ByteArray)} (h : Lw w g zs) (k : Nat) (hk : k < zs.length) : w.cell? ⟨g, k * 2 + 1, none⟩ = some (.string zs[k].2) := by
 unfold Lw at h
 simp [World.cell?, h, (flat_get zs k hk).2]
theorem add_from0 (g k : Nat) : (⟨g, 0, none⟩ : Addr).add k = ⟨g, k, none⟩ := by
 unfold Addr.add
 by_cases h0 : k = 0 <;> simp [h0]
theorem made_flat (n : Nat) : madeCells #[.bool false, .string ⟨#[]⟩] (n * 2) = (flat (List.replicate n (false, ⟨#[]⟩))).toArray := by
 apply Array.ext
 ·simp [size_madeCells, flat_length]
 ·intro i h1 h2
  have hi : i < n * 2 := by simpa [size_madeCells] using h1
  have hg := flat_get (List.replicate n (false, (⟨#[]⟩ : ByteArray))) (i / 2) (by rw [List.length_replicate]; omega)
  have hl : i < (flat (List.replicate n (false, (⟨#[]⟩ : ByteArray)))).length := by rw [flat_length, List.length_replicate]; exact hi
  rcases Nat.mod_two_eq_zero_or_one i with h | h
  ·have e : i / 2 * 2 = i := by omega
   rw [e, List.getElem?_eq_getElem hl] at hg
   have := Option.some.inj hg.1
   simp [madeCells, h, this]
  ·have e : i / 2 * 2 + 1 = i := by omega
   rw [e, List.getElem?_eq_getElem hl] at hg
   have := Option.some.inj hg.2
   simp [madeCells, h, this]
theorem info_wide : (Tryz.prog.info? 32).map (fun i => (i.zero, i.size, i.bytes)) = some (some (.agg #[.bool false, .string ⟨#[]⟩]), 2, 24) := by kernel_rfl
theorem make_wides (n : Nat) (hn : n ≤ 40000) (w : World) :
  (Instr.makeSlice 26 (.int .i64 (n : Int)) (.int .i64 (n : Int))).run Tryz.prog w = .ok (.slice (some ⟨w.heap.size, 0, none⟩) n n) (w.alloc (.cells (flat (List.replicate n (false, ⟨#[]⟩))).toArray 32)) := by
 obtain ⟨i0, hi, hz0, hz1, hz2⟩ := info_parts info_wide
 have hr := run_make (P := Tryz.prog) w 26 32 i0 (.agg #[.bool false, .string ⟨#[]⟩]) Tryz.underlying26 hi hz0 .i64 .i64 n n (by omega) (by omega) (by rw [hz2]; omega) (by omega)
 rw [hz1] at hr
 simp only [Int.toNat_natCast] at hr
 rw [← made_flat]
 exact hr
set_option maxHeartbeats 1000000 in
theorem newTable_any (r c n : Nat) (w : World) (hr : r ≤ 400) (hc : c ≤ 400) (hn : r * c = n) (hn2 : n ≤ 40000) :
  Calls Tryz.prog 58 #[.int .i64 (r : Int), .int .i64 (c : Int)] w fun e w' =>
   ∃ g, e = .returned (mat r c (some ⟨g, 0, none⟩) n n) ∧ w.heap.size ≤ g ∧ Lw w' g (List.replicate n (false, ⟨#[]⟩)) ∧ Below w.heap.size w w' := by
 have hmk := make_wides n hn2
 have e1 : (r : Int) * (c : Int) = (n : Int) := by rw [← hn, Int.natCast_mul]
 have w1 : IntKind.i64.wrap (n : Int) = n := IntWalk.i64_in _ (by omega)
 clear hn
 go_enter Tryz.func58, Tryz.ntmps58
 go_wp2
 have hT := (Tb.new w (r : Int) (c : Int) (some ⟨w.heap.size + 1, 0, none⟩) n n)
 have hT2 : Tb ((w.alloc (.cells #[.int .i64 (r : Int), .int .i64 (c : Int), .slice (some ⟨w.heap.size + 1, 0, none⟩) n n] 68)).alloc (.cells (flat (List.replicate n (false, ⟨#[]⟩))).toArray 32)) w.heap.size (r : Int) (c : Int) (some ⟨w.heap.size + 1, 0, none⟩) n n := (Below.heap_alloc _ _ _ (by simp)).trans hT
 have hL := Lw.new (w.alloc (.cells #[.int .i64 (r : Int), .int .i64 (c : Int), .slice (some ⟨w.heap.size + 1, 0, none⟩) n n] 68)) (List.replicate n (false, ⟨#[]⟩))
 rw [show (w.alloc (.cells #[.int .i64 (r : Int), .int .i64 (c : Int), .slice (some ⟨w.heap.size + 1, 0, none⟩) n n] 68)).heap.size = w.heap.size + 1 from by simp] at hL
 exact post_table (b := w.heap.size) rfl rfl hT2 rfl ⟨_, rfl, by omega, hL, below2 _ _ _⟩
theorem slice_row (A : Option Addr) (n cap lo hi : Nat) (h1 : lo ≤ hi) (h2 : hi ≤ cap) (w : World) :
  (Instr.slice 26 (.slice A n cap) (some (.int .i64 (lo : Int))) (some (.int .i64 (hi : Int))) (some (.int .i64 (hi : Int)))).run Tryz.prog w = .ok (.slice (if hi = lo then A else A.map (·.add (lo * 2))) (hi - lo) (hi - lo)) w := by
 have h := run_slice_lhm (P := Tryz.prog) (w := w) 26 A n cap (by kernel_rfl) .i64 .i64 .i64 (lo : Int) (hi : Int) (hi : Int) (by omega) (by omega) (by omega) (by omega)
 rw [h]
 have e : Tryz.prog.elem 26 = 32 := by kernel_rfl
 rw [e, Tryz.sizeOf32]
 simp [Result.andThen, sliced]
set_option maxHeartbeats 1000000 in
theorem row_any (r c i : Nat) (A : Option Addr) (n cap : Nat) (w : World) (hi : i < r) (hr : r ≤ 400) (hc : c ≤ 400) (hn : r * c ≤ cap) (hcap : cap ≤ maxLen) :
  Calls Tryz.prog 84 #[mat r c A n cap, .int .i64 (i : Int)] w fun e w' =>
   e = .returned (.slice (if c = 0 then A else A.map (·.add (i * c * 2))) c c) ∧ Below w.heap.size w w' := by
 have hi400 : i ≤ 400 := by omega
 have h1 : i * c ≤ 400 * 400 := Nat.mul_le_mul hi400 hc
 have h2 : (i + 1) * c = i * c + c := by rw [Nat.add_mul, Nat.one_mul]
 have h3 : (i + 1) * c ≤ r * c := Nat.mul_le_mul_right c hi
 obtain ⟨lo, hlo⟩ : ∃ lo, lo = i * c := ⟨_, rfl⟩
 rw [← hlo] at h1 h2 ⊢
 obtain ⟨up, hup⟩ : ∃ up, up = lo + c := ⟨_, rfl⟩
 have hsl := slice_row A n cap lo up (by omega) (by omega)
 rw [show up - lo = c from by omega] at hsl
 have hif : (if up = lo then A else A.map (·.add (lo * 2))) = (if c = 0 then A else A.map (·.add (lo * 2))) := by
  by_cases h : c = 0
  ·rw [if_pos h, if_pos (by omega)]
  ·rw [if_neg h, if_neg (by omega)]
 rw [hif] at hsl
 have e1 : (i : Int) * (c : Int) = (lo : Int) := by rw [hlo, Int.natCast_mul]
 have e2 : ((i : Int) + 1) * (c : Int) = (up : Int) := by rw [Int.add_mul, e1, Int.one_mul]; omega
 have w0 : IntKind.i64.wrap ((i : Int) + 1) = (i : Int) + 1 := IntWalk.i64_in _ (by omega)
 have w1 : IntKind.i64.wrap (lo : Int) = lo := IntWalk.i64_in _ (by omega)
 have w2 : IntKind.i64.wrap (up : Int) = up := IntWalk.i64_in _ (by omega)
 generalize (if c = 0 then A else A.map (·.add (lo * 2))) = A' at *
 have hT := Tb.new w (r : Int) (c : Int) A n cap
 have c0 := hT.cell0
 have c1 := hT.cell1
 have c2 := hT.cell2
 clear hif hlo h1 h2 h3 hn hcap hup
 unfold mat
 go_enter Tryz.func84, Tryz.ntmps84
 go_wp2_with fail
 go_quiet (fail)
 go_wp2_with fail
 go_ret
 exact ⟨rfl, below_many ((Below.refl _ _).alloc (Nat.le_refl _) _) _⟩
end Go.Proofs.YtknaghdoffigjaaGreatDoor
namespace Go.Proofs.YtknaghdoffigjaaGreatDoor
open Go.RowKit Go
def Later (B : Nat) (W V : World) : Prop := Below B W V ∧ ∀ (i : Nat) (o : Obj), W.heap[i]? = some o → o.isCells = true → V.heap[i]? = some o
def Kept (B : Nat) (W V : World) : Prop := W.heap.size ≤ V.heap.size ∧ ∀ i, B ≤ i → i < W.heap.size → V.heap[i]? = W.heap[i]?
theorem heap_lt {W : World} {i : Nat} {o : Obj} (h : W.heap[i]? = some o) : i < W.heap.size := (Array.getElem?_eq_some_iff.1 h).1
theorem later_grow {B : Nat} {W V : World} (hB : B ≤ W.heap.size) (h : Below W.heap.size W V) : Later B W V :=
 ⟨h.mono hB, fun i o hi _ => (h.block i (heap_lt hi)).trans hi⟩
theorem later_put {B l : Nat} {W : World} {o : Obj} (o' : Obj) (hB : B ≤ l) (hl : W.heap[l]? = some o) (ho : o.isCells = false) : Later B W (W.putObj l o') := by
 refine ⟨(Below.refl B W).grown (grownBy_putObj' W l o') (by have := heap_lt hl; omega) (fun k e => by cases e; exact hB), fun i p hi hp => ?_⟩
 have hne : i ≠ l := by
  rintro rfl
  rw [hl] at hi
  cases hi
  rw [ho] at hp
  cases hp
 exact (World.putObj_heap_other hne).trans hi
theorem put_size (W : World) (l : Nat) (o : Obj) : (W.putObj l o).heap.size = W.heap.size := by simp [World.putObj]
def Visits (P : Program) (gf : Nat) (first : Array Value) (encs : Nat → Array Value) (N : Nat) : Prop :=
 ∀ (l : Nat) (J : Nat → World → Prop) (Jx : World → Prop) (W : World),
  (∀ k V V', J k V → Below V.heap.size V V' → J k V') → (∀ V V', Jx V → Below V.heap.size V V' → Jx V') →
  (∀ k, k < N → ∀ V, J k V → YieldAt Fence.wide 0 P l (encs k) V fun e V' => (e = .returned (.bool true) ∧ J (k + 1) V' ∧ Kept W.heap.size V V') ∨ (e = .returned (.bool false) ∧ Jx V')) →
  J 0 W → CallsIn Fence.wide 0 P gf (first ++ #[.func (.yield l) #[] #[]]) W fun e V => (∃ v, e = .returned v) ∧ (J N V ∨ Jx V)
def bodyEnd (B : Nat) (I : Nat → World → Prop) (Ix : Code → World → Prop) (k : Nat) (W : World) : Exit → Act → World → Prop
 | .normal, _, V => Kept B W V ∧ I (k + 1) V
 | .ret, _, V => Kept B W V ∧ Ix .ret V
 | .exit id, _, V => Kept B W V ∧ Ix (.exit id) V
 | .goto t, _, V => Kept B W V ∧ Ix (.goto t) V
 | .panic _, _, _ => False
 | .outgrown, _, _ => False
theorem range_over {P : Program} {g : Operand} {ps : Array Tmp} {assign body : Code} {Q : Exit → Act → World → Prop} {a : Act} {w : World} {gf : Nat} {first : Array Value} {encs : Nat → Array Value} {N : Nat}
  (hg : a.eval g = .func (.func gf) first #[]) (eg : ∀ args w, (callFunc gf args).run P w = .ok (.enter gf args) w) (hv : Visits P gf first encs N) (hps : ∀ k, (encs k).size = ps.size)
  (I : Nat → World → Prop) (Ix : Code → World → Prop) (hI : ∀ k V V', I k V → Later w.heap.size V V' → I k V') (hIx : ∀ c V V', Ix c V → Later w.heap.size V V' → Ix c V') (h0 : I 0 w) (a₁ : Nat → Act)
  (hassign : ∀ (l k : Nat) (V : World) (K : Act → World → Prop), K (a₁ k) V → assign.wpIn (Fence.wide.inRound l) 0 P (Exit.then K (fun _ _ _ => False)) { tmps := (ps.zip (encs k)).foldl (fun t (p, v) => t.setIfInBounds p v) a.tmps, defers := [] } V)
  (hbody : ∀ (l k : Nat) (V : World), k < N → w.heap.size + 2 ≤ V.heap.size → I k V → body.wpIn (Fence.wide.inRound l) 0 P (bodyEnd w.heap.size I Ix k V) (a₁ k) V)
  (hdone : ∀ (D : Nat) (V : World), w.heap.size ≤ D → I N V → V.heap[D]? = some (.deferred (some [])) → Q .normal { a with defers := { target := .collected D, args := #[] } :: a.defers } V)
  (hstop : ∀ (D : Nat) (c : Code) (V : World), w.heap.size ≤ D → Ix c V → V.heap[D]? = some (.deferred (some [])) → c.wpIn Fence.wide 0 P Q { a with defers := { target := .collected D, args := #[] } :: a.defers } V) :
  (Code.rangeFunc g ps assign body).wpIn Fence.wide 0 P Q a w := by
 refine wpIn_rangeFunc fun fn hfn => ?_
 obtain ⟨B, hB⟩ : ∃ B, B = w.heap.size := ⟨_, rfl⟩
 rw [← hB] at hI hIx hbody hdone hstop
 obtain ⟨rec, hrec⟩ : ∃ rec : LoopState → Option Code → Loop, rec = fun st pe => { state := st, pending := pe, fn := fn, tmps := a.tmps, params := ps, assign := assign, body := body, defers := B } := ⟨_, rfl⟩
 obtain ⟨V1, hV1⟩ : ∃ V1, V1 = (w.alloc (.deferred (some []))).alloc (.loop (rec .ready none)) := ⟨_, rfl⟩
 have z1 : V1.heap.size = B + 2 := by rw [hV1, hB]; simp
 have r1 : V1.heap[B + 1]? = some (.loop (rec .ready none)) := by
  have := World.alloc_heap_new (w.alloc (.deferred (some []))) (.loop (rec .ready none))
  rw [hV1, hB]
  simpa using this
 have d1 : V1.heap[B]? = some (.deferred (some [])) := by
  rw [hV1, hB]
  exact (Below.heap_alloc _ _ _ (by simp)).trans (World.alloc_heap_new w _)
 have i1 : I 0 V1 := by
  refine hI 0 w V1 h0 (later_grow (by omega) ?_)
  rw [hV1]
  exact ((Below.refl _ _).alloc (Nat.le_refl _) _).alloc (by simp) _
 -- the record's turns
 have turn : ∀ (st st' : LoopState) (pe pe' : Option Code) (V : World), V.heap[B + 1]? = some (.loop (rec st pe)) → Later B V (V.putObj (B + 1) (.loop (rec st' pe'))) ∧ (V.putObj (B + 1) (.loop (rec st' pe'))).heap[B + 1]? = some (.loop (rec st' pe')) := fun st st' pe pe' V h =>
  ⟨later_put _ (by omega) h rfl, World.putObj_heap_same (heap_lt h)⟩
 refine ⟨B + 1, [{ target := .collected B, args := #[] }], V1, { target := .fn (.func gf) #[], args := first ++ #[.func (.yield (B + 1)) #[] #[]] }, V1, gf, first ++ #[.func (.yield (B + 1)) #[] #[]], V1, ?_, ?_, ?_, ?_, ?_, ?_⟩
 ·rw [hV1, hrec, hB]
  exact run_enterLoop_outer _ _ _ _ _
 ·simp only [resolve, hg]
  simp [go_sem]
 ·intro f' _
  trivial
 ·simp [invoke, go_sem, eg]
 ·intro h; cases h
 ·refine (hv (B + 1) (fun k V => I k V ∧ V.heap[B + 1]? = some (.loop (rec .ready none)) ∧ V.heap[B]? = some (.deferred (some [])) ∧ B + 2 ≤ V.heap.size)
   (fun V => ∃ c, Ix c V ∧ V.heap[B + 1]? = some (.loop (rec .done (some c))) ∧ V.heap[B]? = some (.deferred (some []))) V1 ?_ ?_ ?_ ⟨i1, r1, d1, by omega⟩).mono ?_
  ·rintro k V V' ⟨hi, hr, hd, hz⟩ hb
   exact ⟨hI k V V' hi (later_grow (by omega) hb), (hb.block _ (heap_lt hr)).trans hr, (hb.block _ (heap_lt hd)).trans hd, Nat.le_trans hz hb.size⟩
  ·rintro V V' ⟨c, hi, hr, hd⟩ hb
   exact ⟨c, hIx c V V' hi (later_grow (by have := heap_lt hr; omega) hb), (hb.block _ (heap_lt hr)).trans hr, (hb.block _ (heap_lt hd)).trans hd⟩
  ·rintro k hk V ⟨hi, hr, hd, hz⟩
   have hy := run_yield (P := P) (args := encs k) hr (by rw [hrec]; exact hps k)
   rw [hrec] at hy
   obtain ⟨t1, t2⟩ := turn .ready .busy none none V hr
   have hbegin := run_beginRound (P := P) hr (by rw [hrec])
   have eb : { rec .ready none with state := .busy } = rec .busy none := by rw [hrec]
   rw [eb] at hbegin
   have d2 : (V.putObj (B + 1) (.loop (rec .busy none))).heap[B]? = some (.deferred (some [])) := (World.putObj_heap_other (by omega)).trans hd
   have s2 := put_size V (B + 1) (.loop (rec .busy none))
   have old2 : ∀ i, B + 2 ≤ i → (V.putObj (B + 1) (.loop (rec .busy none))).heap[i]? = V.heap[i]? := fun i h => World.putObj_heap_other (by omega)
   have hi2 := hI k _ _ hi t1
   refine ⟨fn, _, assign, body, hy, roundIn_of_wpIn hfn (hassign (B + 1) k V _ ⟨_, hbegin, ?_⟩)⟩
   generalize V.putObj (B + 1) (.loop (rec .busy none)) = V2 at *
   refine wpIn_mono (hbody (B + 1) k V2 hk (by omega) hi2) ?_
   have fin : ∀ (jump : Option Code) (V3 : World), Kept B V2 V3 →
     (Instr.endRound (B + 1) jump).run P V3 = .ok (.bool jump.isNone) (V3.putObj (B + 1) (.loop (rec (if jump.isNone then .ready else .done) jump))) ∧
     Later B V3 (V3.putObj (B + 1) (.loop (rec (if jump.isNone then .ready else .done) jump))) ∧
     (V3.putObj (B + 1) (.loop (rec (if jump.isNone then .ready else .done) jump))).heap[B + 1]? = some (.loop (rec (if jump.isNone then .ready else .done) jump)) ∧
     (V3.putObj (B + 1) (.loop (rec (if jump.isNone then .ready else .done) jump))).heap[B]? = some (.deferred (some [])) ∧
     Kept (B + 2) V (V3.putObj (B + 1) (.loop (rec (if jump.isNone then .ready else .done) jump))) := fun jump V3 hk3 => by
    have r3 : V3.heap[B + 1]? = some (.loop (rec .busy none)) := (hk3.2 (B + 1) (by omega) (heap_lt t2)).trans t2
    have d3 : V3.heap[B]? = some (.deferred (some [])) := (hk3.2 B (Nat.le_refl _) (heap_lt d2)).trans d2
    have he := run_endRound (P := P) jump r3
    have ee : { rec .busy none with state := if jump.isNone then .ready else .done, pending := jump } = rec (if jump.isNone then .ready else .done) jump := by rw [hrec]
    rw [ee] at he
    obtain ⟨u1, u2⟩ := turn .busy (if jump.isNone then .ready else .done) none jump V3 r3
    refine ⟨he, u1, u2, (World.putObj_heap_other (by omega)).trans d3, ?_, fun i h1 h2 => ?_⟩
    ·rw [put_size]; have := hk3.1; omega
    ·exact (World.putObj_heap_other (by omega)).trans ((hk3.2 i (by omega) (by omega)).trans (old2 i h1))
   rintro e a3 V3 hp
   cases e with
   | normal =>
    obtain ⟨hk3, hi3⟩ := hp
    obtain ⟨e1, e2, e3, e4, e5⟩ := fin none V3 hk3
    exact ⟨_, _, e1, .inl ⟨rfl, ⟨hI _ _ _ hi3 e2, e3, e4, by have := e5.1; omega⟩, by rw [z1]; exact e5⟩⟩
   | ret =>
    obtain ⟨hk3, hi3⟩ := hp
    obtain ⟨e1, e2, e3, e4, e5⟩ := fin (some .ret) V3 hk3
    exact ⟨_, _, e1, .inr ⟨rfl, _, hIx _ _ _ hi3 e2, e3, e4⟩⟩
   | exit id =>
    obtain ⟨hk3, hi3⟩ := hp
    obtain ⟨e1, e2, e3, e4, e5⟩ := fin (some (.exit id)) V3 hk3
    exact ⟨_, _, e1, .inr ⟨rfl, _, hIx _ _ _ hi3 e2, e3, e4⟩⟩
   | goto t =>
    obtain ⟨hk3, hi3⟩ := hp
    obtain ⟨e1, e2, e3, e4, e5⟩ := fin (some (.goto t)) V3 hk3
    exact ⟨_, _, e1, .inr ⟨rfl, _, hIx _ _ _ hi3 e2, e3, e4⟩⟩
   | panic ch => exact hp.elim
   | outgrown => exact hp.elim
  ·rintro e V ⟨⟨v, rfl⟩, (⟨hi, hr, hd, hz⟩ | ⟨c, hi, hr, hd⟩)⟩
   ·exact ⟨none, _, by have h := run_endLoop (P := P) hr (by rw [hrec]; simp); rw [hrec] at h; exact h, hdone B _ (Nat.le_refl _) (hI _ _ _ hi (later_put _ (by omega) hr rfl)) ((World.putObj_heap_other (by omega)).trans hd)⟩
   ·exact ⟨some c, _, by have h := run_endLoop (P := P) hr (by rw [hrec]; simp); rw [hrec] at h; exact h, hstop B c _ (Nat.le_refl _) (hIx _ _ _ hi (later_put _ (by omega) hr rfl)) ((World.putObj_heap_other (by omega)).trans hd)⟩
theorem range_boxed {P : Program} {g : Operand} {ps : Array Tmp} {assign body : Code} {Q : Exit → Act → World → Prop} {a : Act} {w : World} {gf : Nat} {first : Array Value} {encs : Nat → Array Value} {N : Nat}
  (hg : a.eval g = .func (.func gf) first #[]) (eg : ∀ args w, (callFunc gf args).run P w = .ok (.enter gf args) w) (hv : Visits P gf first encs N) (hps : ∀ k, (encs k).size = ps.size)
  (I : Nat → World → Prop) (Ix : Code → World → Prop) (hI : ∀ k V V', I k V → Later w.heap.size V V' → I k V') (hIx : ∀ c V V', Ix c V → Later w.heap.size V V' → Ix c V') (h0 : I 0 w) (J2 : Nat → Act → World → Prop) (hJ2 : ∀ k a' V V', J2 k a' V → Later w.heap.size V V' → J2 k a' V')
  (hassign : ∀ (l k : Nat) (V : World) (K : Act → World → Prop), k < N → w.heap.size + 2 ≤ V.heap.size → I k V → (∀ a' V', J2 k a' V' → Below V.heap.size V V' → K a' V') → assign.wpIn (Fence.wide.inRound l) 0 P (Exit.then K (fun _ _ _ => False)) { tmps := (ps.zip (encs k)).foldl (fun t (p, v) => t.setIfInBounds p v) a.tmps, defers := [] } V)
  (hbody : ∀ (l k : Nat) (a' : Act) (V : World), k < N → w.heap.size + 2 ≤ V.heap.size → w.heap.size ≤ l → (∃ r, V.heap[l]? = some (.loop r)) → I k V → J2 k a' V → body.wpIn (Fence.wide.inRound l) 0 P (bodyEnd w.heap.size I Ix k V) a' V)
  (hdone : ∀ (D : Nat) (V : World), w.heap.size ≤ D → I N V → V.heap[D]? = some (.deferred (some [])) → Q .normal { a with defers := { target := .collected D, args := #[] } :: a.defers } V)
  (hstop : ∀ (D : Nat) (c : Code) (V : World), w.heap.size ≤ D → Ix c V → V.heap[D]? = some (.deferred (some [])) → c.wpIn Fence.wide 0 P Q { a with defers := { target := .collected D, args := #[] } :: a.defers } V) :
  (Code.rangeFunc g ps assign body).wpIn Fence.wide 0 P Q a w := by
 refine wpIn_rangeFunc fun fn hfn => ?_
 obtain ⟨B, hB⟩ : ∃ B, B = w.heap.size := ⟨_, rfl⟩
 rw [← hB] at hI hIx hJ2 hassign hbody hdone hstop
 obtain ⟨rec, hrec⟩ : ∃ rec : LoopState → Option Code → Loop, rec = fun st pe => { state := st, pending := pe, fn := fn, tmps := a.tmps, params := ps, assign := assign, body := body, defers := B } := ⟨_, rfl⟩
 obtain ⟨V1, hV1⟩ : ∃ V1, V1 = (w.alloc (.deferred (some []))).alloc (.loop (rec .ready none)) := ⟨_, rfl⟩
 have z1 : V1.heap.size = B + 2 := by rw [hV1, hB]; simp
 have r1 : V1.heap[B + 1]? = some (.loop (rec .ready none)) := by
  have := World.alloc_heap_new (w.alloc (.deferred (some []))) (.loop (rec .ready none))
  rw [hV1, hB]
  simpa using this
 have d1 : V1.heap[B]? = some (.deferred (some [])) := by
  rw [hV1, hB]
  exact (Below.heap_alloc _ _ _ (by simp)).trans (World.alloc_heap_new w _)
 have i1 : I 0 V1 := by
  refine hI 0 w V1 h0 (later_grow (by omega) ?_)
  rw [hV1]
  exact ((Below.refl _ _).alloc (Nat.le_refl _) _).alloc (by simp) _
 -- the record's turns
 have turn : ∀ (st st' : LoopState) (pe pe' : Option Code) (V : World), V.heap[B + 1]? = some (.loop (rec st pe)) → Later B V (V.putObj (B + 1) (.loop (rec st' pe'))) ∧ (V.putObj (B + 1) (.loop (rec st' pe'))).heap[B + 1]? = some (.loop (rec st' pe')) := fun st st' pe pe' V h =>
  ⟨later_put _ (by omega) h rfl, World.putObj_heap_same (heap_lt h)⟩
 refine ⟨B + 1, [{ target := .collected B, args := #[] }], V1, { target := .fn (.func gf) #[], args := first ++ #[.func (.yield (B + 1)) #[] #[]] }, V1, gf, first ++ #[.func (.yield (B + 1)) #[] #[]], V1, ?_, ?_, ?_, ?_, ?_, ?_⟩
 ·rw [hV1, hrec, hB]
  exact run_enterLoop_outer _ _ _ _ _
 ·simp only [resolve, hg]
  simp [go_sem]
 ·intro f' _
  trivial
 ·simp [invoke, go_sem, eg]
 ·intro h; cases h
 ·refine (hv (B + 1) (fun k V => I k V ∧ V.heap[B + 1]? = some (.loop (rec .ready none)) ∧ V.heap[B]? = some (.deferred (some [])) ∧ B + 2 ≤ V.heap.size)
   (fun V => ∃ c, Ix c V ∧ V.heap[B + 1]? = some (.loop (rec .done (some c))) ∧ V.heap[B]? = some (.deferred (some []))) V1 ?_ ?_ ?_ ⟨i1, r1, d1, by omega⟩).mono ?_
  ·rintro k V V' ⟨hi, hr, hd, hz⟩ hb
   exact ⟨hI k V V' hi (later_grow (by omega) hb), (hb.block _ (heap_lt hr)).trans hr, (hb.block _ (heap_lt hd)).trans hd, Nat.le_trans hz hb.size⟩
  ·rintro V V' ⟨c, hi, hr, hd⟩ hb
   exact ⟨c, hIx c V V' hi (later_grow (by have := heap_lt hr; omega) hb), (hb.block _ (heap_lt hr)).trans hr, (hb.block _ (heap_lt hd)).trans hd⟩
  ·rintro k hk V ⟨hi, hr, hd, hz⟩
   have hy := run_yield (P := P) (args := encs k) hr (by rw [hrec]; exact hps k)
   rw [hrec] at hy
   refine ⟨fn, _, assign, body, hy, roundIn_of_wpIn hfn (hassign (B + 1) k V _ hk hz hi ?_)⟩
   intro a' V0 hj0 hb0
   have hi0 := hI k V V0 hi (later_grow (by omega) hb0)
   have hr0 := (hb0.block _ (heap_lt hr)).trans hr
   have hd0 := (hb0.block _ (heap_lt hd)).trans hd
   have hz0 : B + 2 ≤ V0.heap.size := Nat.le_trans hz hb0.size
   obtain ⟨t1, t2⟩ := turn .ready .busy none none V0 hr0
   have hbegin := run_beginRound (P := P) hr0 (by rw [hrec])
   have eb : { rec .ready none with state := .busy } = rec .busy none := by rw [hrec]
   rw [eb] at hbegin
   have d2 : (V0.putObj (B + 1) (.loop (rec .busy none))).heap[B]? = some (.deferred (some [])) := (World.putObj_heap_other (by omega)).trans hd0
   have s2 := put_size V0 (B + 1) (.loop (rec .busy none))
   have old2 : ∀ i, B + 2 ≤ i → i < V.heap.size → (V0.putObj (B + 1) (.loop (rec .busy none))).heap[i]? = V.heap[i]? := fun i h h' => (World.putObj_heap_other (by omega)).trans (hb0.block i h')
   have hi2 := hI k _ _ hi0 t1
   have hj2 := hJ2 k a' _ _ hj0 t1
   have hs0 := hb0.size
   refine ⟨_, hbegin, ?_⟩
   generalize V0.putObj (B + 1) (.loop (rec .busy none)) = V2 at *
   refine wpIn_mono (hbody (B + 1) k a' V2 hk (by omega) (by omega) ⟨_, t2⟩ hi2 hj2) ?_
   have fin : ∀ (jump : Option Code) (V3 : World), Kept B V2 V3 →
     (Instr.endRound (B + 1) jump).run P V3 = .ok (.bool jump.isNone) (V3.putObj (B + 1) (.loop (rec (if jump.isNone then .ready else .done) jump))) ∧
     Later B V3 (V3.putObj (B + 1) (.loop (rec (if jump.isNone then .ready else .done) jump))) ∧
     (V3.putObj (B + 1) (.loop (rec (if jump.isNone then .ready else .done) jump))).heap[B + 1]? = some (.loop (rec (if jump.isNone then .ready else .done) jump)) ∧
     (V3.putObj (B + 1) (.loop (rec (if jump.isNone then .ready else .done) jump))).heap[B]? = some (.deferred (some [])) ∧
     Kept (B + 2) V (V3.putObj (B + 1) (.loop (rec (if jump.isNone then .ready else .done) jump))) := fun jump V3 hk3 => by
    have r3 : V3.heap[B + 1]? = some (.loop (rec .busy none)) := (hk3.2 (B + 1) (by omega) (heap_lt t2)).trans t2
    have d3 : V3.heap[B]? = some (.deferred (some [])) := (hk3.2 B (Nat.le_refl _) (heap_lt d2)).trans d2
    have he := run_endRound (P := P) jump r3
    have ee : { rec .busy none with state := if jump.isNone then .ready else .done, pending := jump } = rec (if jump.isNone then .ready else .done) jump := by rw [hrec]
    rw [ee] at he
    obtain ⟨u1, u2⟩ := turn .busy (if jump.isNone then .ready else .done) none jump V3 r3
    refine ⟨he, u1, u2, (World.putObj_heap_other (by omega)).trans d3, ?_, fun i h1 h2 => ?_⟩
    ·rw [put_size]; have := hk3.1; omega
    ·exact (World.putObj_heap_other (by omega)).trans ((hk3.2 i (by omega) (by omega)).trans (old2 i h1 h2))
   rintro e a3 V3 hp
   cases e with
   | normal =>
    obtain ⟨hk3, hi3⟩ := hp
    obtain ⟨e1, e2, e3, e4, e5⟩ := fin none V3 hk3
    exact ⟨_, _, e1, .inl ⟨rfl, ⟨hI _ _ _ hi3 e2, e3, e4, by have := e5.1; omega⟩, by rw [z1]; exact e5⟩⟩
   | ret =>
    obtain ⟨hk3, hi3⟩ := hp
    obtain ⟨e1, e2, e3, e4, e5⟩ := fin (some .ret) V3 hk3
    exact ⟨_, _, e1, .inr ⟨rfl, _, hIx _ _ _ hi3 e2, e3, e4⟩⟩
   | exit id =>
    obtain ⟨hk3, hi3⟩ := hp
    obtain ⟨e1, e2, e3, e4, e5⟩ := fin (some (.exit id)) V3 hk3
    exact ⟨_, _, e1, .inr ⟨rfl, _, hIx _ _ _ hi3 e2, e3, e4⟩⟩
   | goto t =>
    obtain ⟨hk3, hi3⟩ := hp
    obtain ⟨e1, e2, e3, e4, e5⟩ := fin (some (.goto t)) V3 hk3
    exact ⟨_, _, e1, .inr ⟨rfl, _, hIx _ _ _ hi3 e2, e3, e4⟩⟩
   | panic ch => exact hp.elim
   | outgrown => exact hp.elim
  ·rintro e V ⟨⟨v, rfl⟩, (⟨hi, hr, hd, hz⟩ | ⟨c, hi, hr, hd⟩)⟩
   ·exact ⟨none, _, by have h := run_endLoop (P := P) hr (by rw [hrec]; simp); rw [hrec] at h; exact h, hdone B _ (Nat.le_refl _) (hI _ _ _ hi (later_put _ (by omega) hr rfl)) ((World.putObj_heap_other (by omega)).trans hd)⟩
   ·exact ⟨some c, _, by have h := run_endLoop (P := P) hr (by rw [hrec]; simp); rw [hrec] at h; exact h, hstop B c _ (Nat.le_refl _) (hIx _ _ _ hi (later_put _ (by omega) hr rfl)) ((World.putObj_heap_other (by omega)).trans hd)⟩
theorem range_within {P : Program} {g : Operand} {ps : Array Tmp} {assign body : Code} {Q : Exit → Act → World → Prop} {a : Act} {w : World} {gf : Nat} {first : Array Value} {encs : Nat → Array Value} {N : Nat}
  {l₀ : Nat} {r₀ : Loop} (hl₀ : w.heap[l₀]? = some (.loop r₀)) (hg : a.eval g = .func (.func gf) first #[]) (eg : ∀ args w, (callFunc gf args).run P w = .ok (.enter gf args) w) (hv : Visits P gf first encs N) (hps : ∀ k, (encs k).size = ps.size)
  (I : Nat → World → Prop) (Ix : Code → World → Prop) (hI : ∀ k V V', I k V → Later w.heap.size V V' → I k V') (hIx : ∀ c V V', Ix c V → Later w.heap.size V V' → Ix c V') (h0 : I 0 w) (J2 : Nat → Act → World → Prop) (hJ2 : ∀ k a' V V', J2 k a' V → Later w.heap.size V V' → J2 k a' V')
  (hassign : ∀ (l k : Nat) (V : World) (K : Act → World → Prop), k < N → w.heap.size + 1 ≤ V.heap.size → I k V → (∀ a' V', J2 k a' V' → Below V.heap.size V V' → K a' V') → assign.wpIn (Fence.wide.inRound l) 0 P (Exit.then K (fun _ _ _ => False)) { tmps := (ps.zip (encs k)).foldl (fun t (p, v) => t.setIfInBounds p v) a.tmps, defers := [] } V)
  (hbody : ∀ (l k : Nat) (a' : Act) (V : World), k < N → w.heap.size + 1 ≤ V.heap.size → w.heap.size ≤ l → (∃ r, V.heap[l]? = some (.loop r)) → I k V → J2 k a' V → body.wpIn (Fence.wide.inRound l) 0 P (bodyEnd w.heap.size I Ix k V) a' V)
  (hdone : ∀ V, I N V → Q .normal a V) (hstop : ∀ (c : Code) (V : World), Ix c V → c.wpIn (Fence.wide.inRound l₀) 0 P Q a V) :
  (Code.rangeFunc g ps assign body).wpIn (Fence.wide.inRound l₀) 0 P Q a w := by
 refine wpIn_rangeFunc fun fn hfn => ?_
 obtain ⟨B, hB⟩ : ∃ B, B = w.heap.size := ⟨_, rfl⟩
 rw [← hB] at hI hIx hJ2 hassign hbody
 obtain ⟨rec, hrec⟩ : ∃ rec : LoopState → Option Code → Loop, rec = fun st pe => { state := st, pending := pe, fn := fn, tmps := a.tmps, params := ps, assign := assign, body := body, defers := r₀.defers } := ⟨_, rfl⟩
 obtain ⟨V1, hV1⟩ : ∃ V1, V1 = w.alloc (.loop (rec .ready none)) := ⟨_, rfl⟩
 have z1 : V1.heap.size = B + 1 := by rw [hV1, hB]; simp
 have r1 : V1.heap[B]? = some (.loop (rec .ready none)) := by
  rw [hV1, hB]
  exact World.alloc_heap_new w _
 have i1 : I 0 V1 := by
  refine hI 0 w V1 h0 (later_grow (by omega) ?_)
  rw [hV1]
  exact (Below.refl _ _).alloc (Nat.le_refl _) _
 -- the record's turns
 have turn : ∀ (st st' : LoopState) (pe pe' : Option Code) (V : World), V.heap[B]? = some (.loop (rec st pe)) → Later B V (V.putObj (B) (.loop (rec st' pe'))) ∧ (V.putObj (B) (.loop (rec st' pe'))).heap[B]? = some (.loop (rec st' pe')) := fun st st' pe pe' V h =>
  ⟨later_put _ (by omega) h rfl, World.putObj_heap_same (heap_lt h)⟩
 refine ⟨B, [], V1, { target := .fn (.func gf) #[], args := first ++ #[.func (.yield (B)) #[] #[]] }, V1, gf, first ++ #[.func (.yield (B)) #[] #[]], V1, ?_, ?_, ?_, ?_, ?_, ?_⟩
 ·rw [hV1, hrec, hB]
  exact run_enterLoop_inner hl₀ _ _ _ _ _
 ·simp only [resolve, hg]
  simp [go_sem]
 ·intro f' _
  trivial
 ·simp [invoke, go_sem, eg]
 ·intro h; cases h
 ·refine (CallsIn.inRound l₀ (hv (B) (fun k V => I k V ∧ V.heap[B]? = some (.loop (rec .ready none)) ∧ B + 1 ≤ V.heap.size)
   (fun V => ∃ c, Ix c V ∧ V.heap[B]? = some (.loop (rec .done (some c))) ) V1 ?_ ?_ ?_ ⟨i1, r1, by omega⟩)).mono ?_
  ·rintro k V V' ⟨hi, hr, hz⟩ hb
   exact ⟨hI k V V' hi (later_grow (by omega) hb), (hb.block _ (heap_lt hr)).trans hr, Nat.le_trans hz hb.size⟩
  ·rintro V V' ⟨c, hi, hr⟩ hb
   exact ⟨c, hIx c V V' hi (later_grow (by have := heap_lt hr; omega) hb), (hb.block _ (heap_lt hr)).trans hr⟩
  ·rintro k hk V ⟨hi, hr, hz⟩
   have hy := run_yield (P := P) (args := encs k) hr (by rw [hrec]; exact hps k)
   rw [hrec] at hy
   refine ⟨fn, _, assign, body, hy, roundIn_of_wpIn hfn (hassign (B) k V _ hk hz hi ?_)⟩
   intro a' V0 hj0 hb0
   have hi0 := hI k V V0 hi (later_grow (by omega) hb0)
   have hr0 := (hb0.block _ (heap_lt hr)).trans hr
   have hz0 : B + 1 ≤ V0.heap.size := Nat.le_trans hz hb0.size
   obtain ⟨t1, t2⟩ := turn .ready .busy none none V0 hr0
   have hbegin := run_beginRound (P := P) hr0 (by rw [hrec])
   have eb : { rec .ready none with state := .busy } = rec .busy none := by rw [hrec]
   rw [eb] at hbegin
   have s2 := put_size V0 (B) (.loop (rec .busy none))
   have old2 : ∀ i, B + 1 ≤ i → i < V.heap.size → (V0.putObj (B) (.loop (rec .busy none))).heap[i]? = V.heap[i]? := fun i h h' => (World.putObj_heap_other (by omega)).trans (hb0.block i h')
   have hi2 := hI k _ _ hi0 t1
   have hj2 := hJ2 k a' _ _ hj0 t1
   have hs0 := hb0.size
   refine ⟨_, hbegin, ?_⟩
   generalize V0.putObj (B) (.loop (rec .busy none)) = V2 at *
   refine wpIn_mono (hbody (B) k a' V2 hk (by omega) (Nat.le_refl _) ⟨_, t2⟩ hi2 hj2) ?_
   have fin : ∀ (jump : Option Code) (V3 : World), Kept B V2 V3 →
     (Instr.endRound (B) jump).run P V3 = .ok (.bool jump.isNone) (V3.putObj (B) (.loop (rec (if jump.isNone then .ready else .done) jump))) ∧
     Later B V3 (V3.putObj (B) (.loop (rec (if jump.isNone then .ready else .done) jump))) ∧
     (V3.putObj (B) (.loop (rec (if jump.isNone then .ready else .done) jump))).heap[B]? = some (.loop (rec (if jump.isNone then .ready else .done) jump)) ∧
     Kept (B + 1) V (V3.putObj (B) (.loop (rec (if jump.isNone then .ready else .done) jump))) := fun jump V3 hk3 => by
    have r3 : V3.heap[B]? = some (.loop (rec .busy none)) := (hk3.2 (B) (by omega) (heap_lt t2)).trans t2
    have he := run_endRound (P := P) jump r3
    have ee : { rec .busy none with state := if jump.isNone then .ready else .done, pending := jump } = rec (if jump.isNone then .ready else .done) jump := by rw [hrec]
    rw [ee] at he
    obtain ⟨u1, u2⟩ := turn .busy (if jump.isNone then .ready else .done) none jump V3 r3
    refine ⟨he, u1, u2, ?_, fun i h1 h2 => ?_⟩
    ·rw [put_size]; have := hk3.1; omega
    ·exact (World.putObj_heap_other (by omega)).trans ((hk3.2 i (by omega) (by omega)).trans (old2 i h1 h2))
   rintro e a3 V3 hp
   cases e with
   | normal =>
    obtain ⟨hk3, hi3⟩ := hp
    obtain ⟨e1, e2, e3, e5⟩ := fin none V3 hk3
    exact ⟨_, _, e1, .inl ⟨rfl, ⟨hI _ _ _ hi3 e2, e3, by have := e5.1; omega⟩, by rw [z1]; exact e5⟩⟩
   | ret =>
    obtain ⟨hk3, hi3⟩ := hp
    obtain ⟨e1, e2, e3, e5⟩ := fin (some .ret) V3 hk3
    exact ⟨_, _, e1, .inr ⟨rfl, _, hIx _ _ _ hi3 e2, e3⟩⟩
   | exit id =>
    obtain ⟨hk3, hi3⟩ := hp
    obtain ⟨e1, e2, e3, e5⟩ := fin (some (.exit id)) V3 hk3
    exact ⟨_, _, e1, .inr ⟨rfl, _, hIx _ _ _ hi3 e2, e3⟩⟩
   | goto t =>
    obtain ⟨hk3, hi3⟩ := hp
    obtain ⟨e1, e2, e3, e5⟩ := fin (some (.goto t)) V3 hk3
    exact ⟨_, _, e1, .inr ⟨rfl, _, hIx _ _ _ hi3 e2, e3⟩⟩
   | panic ch => exact hp.elim
   | outgrown => exact hp.elim
  ·rintro e V ⟨⟨v, rfl⟩, (⟨hi, hr, hz⟩ | ⟨c, hi, hr⟩)⟩
   ·exact ⟨none, _, by have h := run_endLoop (P := P) hr (by rw [hrec]; simp); rw [hrec] at h; exact h, hdone _ (hI _ _ _ hi (later_put _ (by omega) hr rfl))⟩
   ·exact ⟨some c, _, by have h := run_endLoop (P := P) hr (by rw [hrec]; simp); rw [hrec] at h; exact h, hstop c _ (hIx _ _ _ hi (later_put _ (by omega) hr rfl))⟩
end Go.Proofs.YtknaghdoffigjaaGreatDoor
