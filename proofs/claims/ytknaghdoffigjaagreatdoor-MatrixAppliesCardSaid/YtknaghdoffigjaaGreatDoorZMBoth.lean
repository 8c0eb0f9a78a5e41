import Derived.Test.YtknaghdoffigjaaGreatDoorZMRefD
import Derived.Test.YtknaghdoffigjaaGreatDoorZMInvV
import Derived.Test.YtknaghdoffigjaaGreatDoorMSane
import Derived.Test.YtknaghdoffigjaaGreatDoorZRDig
import Derived.Test.YtknaghdoffigjaaGreatDoorCards
import Derived.Test.YtknaghdoffigjaaGreatDoorTie
import Derived.ProofKit
import Derived.OpenShut
import Derived.Deep.DeepHandedRow
import Derived.Deep.DeepWitnessRowRef
import Derived.Deep.Matrix
import Derived.Lib.LaidTab
import Derived.Lib.SmallJoins
import Derived.Carry
import Derived.SizedLaws
import Derived.Lay
import Derived.Test.YtknaghdoffigjaaGreatDoorZMCopy
set_option linter.unusedSimpArgs false
set_option linter.unusedVariables false
set_option linter.unnecessarySimpa false
namespace Go.Proofs.YtknaghdoffigjaaGreatDoor
open Go.RowKit Go
end Go.Proofs.YtknaghdoffigjaaGreatDoor
namespace Go.Proofs.YtknaghdoffigjaaGreatDoor
open Go.RowKit Go
attribute [local go_sem] Oper.semAt_some
theorem Kg.below_ {w0 w : World} {l : List (Option (Nat × Obj))} (h : Kg none w0 w l) : Below w0.heap.size w0 w := ⟨h.1.os, h.1.tape, h.1.output, h.1.size, fun i hi => h.1.block i hi (by simp)⟩
theorem addr_zero (a : Addr) : a.add 0 = a := by
 rcases a with ⟨b, o, f⟩
 unfold Addr.add
 split <;> simp_all
theorem slice_hiI (A : Option Addr) (n c m : Nat) (h : m ≤ c) (w : World) : (Instr.slice 25 (.slice A n c) none (some (.int .i64 (m : Int))) none).run Tryz.prog w = .ok (.slice A m c) w := by
 have h := run_slice_h (P := Tryz.prog) (w := w) 25 A n c (by kernel_rfl) .i64 (m : Int) (by omega) (by omega)
 rw [h]
 have e : Tryz.prog.elem 25 = 3 := by kernel_rfl
 rw [e, Tryz.sizeOf3]
 have e2 : A.map (·.add (0 * 1)) = A := by
  cases A with
  | none => rfl
  | some a => simp [addr_zero]
 simp only [Result.andThen, sliced, Int.toNat_natCast, e2, Nat.sub_zero]
 split <;> rfl
end Go.Proofs.YtknaghdoffigjaaGreatDoor
namespace Go.Proofs.YtknaghdoffigjaaGreatDoor
open Go.ChangeShapes Go.WideShapes Go.ChangeAt Go.RowKit Go.Joins Go.Deep
theorem own : ownKnob Tryz.prog.godebug = none := by kernel_rfl
theorem cells_int : Tryz.prog.cellsOf 3 = 1 := by kernel_rfl
theorem laidOutX : laidOutB Tryz.prog = true := by kernel_rfl
theorem int_bounds {z : Int} (hz : (Lit.int .i64 z).wf = true) : -9223372036854775808 ≤ z ∧ z ≤ 9223372036854775807 := by
 simp [Lit.wf, IntKind.min, IntKind.max, IntKind.signed, IntKind.bits] at hz
 omega
theorem Tz_of_laid {W : World} (h : laidMet Tryz.prog [("math/bits.deBruijn64tab", Rows.laid_math_bits_deBruijn64tab)] W) : Tz W := fun j hj => by
 have h1 := Lib.tabIs_of_head (name := "math/bits.deBruijn64tab") (k := .u8) (zs := Lib.deBruijn64tab.map fun n : Nat => (n : Int)) (g := 1) (t := 176) (e := 5) (n := 64) (rest := []) (by kernel_rfl) (by kernel_rfl) (by kernel_rfl) (by kernel_rfl) (by kernel_rfl) (by kernel_rfl) h
 have h2 := h1.cell (g := 1) (by kernel_rfl) j (by simpa using hj)
 rw [h2]
 simp [List.getD_eq_getElem?_getD, hj]
end Go.Proofs.YtknaghdoffigjaaGreatDoor
namespace Go.Proofs.YtknaghdoffigjaaGreatDoor
open Go.ChangeShapes Go.WideShapes Go.ChangeAt Go.RowKit Go.Joins Go.Deep
theorem cells_shape : Tryz.prog.cellsOf 38 = 3 := by kernel_rfl
set_option maxRecDepth 100000 in
theorem open_shape {H : Type} {enc : TypeId × Value → H} {W : World} {base : Nat} {v : Value} {d : DataW H} {p : List MemPlace} (hval : Value.okWide Tryz.prog W .any base 38 v)
  (h : DataW.Trod enc Tryz.prog W 0 (fun _ => true) true 38 v d p) :
  ∃ (R C : Nat) (A : Option Addr) (n c : Nat) (Ls : List Int), v = .agg #[.int .u8 (R : Int), .int .u8 (C : Int), .slice A n c] ∧ RdI W A Ls ∧ Ls.length = n ∧ n ≤ maxLen ∧ ∀ j, -9223372036854775808 ≤ Ls.getD j 0 ∧ Ls.getD j 0 ≤ 9223372036854775807 := by
 obtain ⟨v0, v1, v2, y0, y1, y2, k, rfl, rfl, rfl, h0, h1, h2⟩ := open_agg3 (P := Tryz.prog) Tryz.underlying38 (by kernel_rfl) cells_shape hval h
 obtain ⟨z0, e0, rfl, hz0⟩ := DataW.trod_int Tryz.underlying5 h0
 obtain ⟨z1, e1, rfl, hz1⟩ := DataW.trod_int Tryz.underlying5 h1
 injection e0 with e0
 injection e1 with e1
 subst e0
 subst e1
 have b0 := bounds_u8 hz0
 have b1 := bounds_u8 hz1
 obtain ⟨R, rfl⟩ : ∃ R : Nat, (R : Int) = z0 := ⟨z0.toNat, by omega⟩
 obtain ⟨C, rfl⟩ : ∃ C : Nat, (C : Int) = z1 := ⟨z1.toNat, by omega⟩
 rcases open_ints Tryz.underlying25 Tryz.underlying3 cells_int h2 with ⟨e2, rfl⟩ | ⟨a, len, cap, zs, e2, _, hl, hm, hzl, rfl, hcell, hwf⟩
 ·injection e2 with e2
  subst e2
  exact ⟨R, C, none, 0, 0, [], rfl, fun k hk => absurd hk (by simp), rfl, by unfold maxLen; omega, fun j => by simp⟩
 ·injection e2 with e2
  subst e2
  simp only [if_true] at hzl
  refine ⟨R, C, some a, len, cap, zs.take len, rfl, fun k hk => ?_, by simp; omega, by omega, fun j => ?_⟩
  ·have hk' : k < len := by simp at hk; omega
   have hc := hcell k (by omega)
   refine ⟨a, rfl, ?_, ?_⟩
   ·rcases Nat.lt_or_ge a.block W.heap.size with hlt | hge
    ·exact hlt
    ·simp [World.cell?, block_add, Array.getElem?_eq_none hge] at hc
   ·rw [hc, List.getD_eq_getElem?_getD, List.getD_eq_getElem?_getD, List.getElem?_take_of_lt hk']
  ·rw [List.getD_eq_getElem?_getD]
   cases hx : (zs.take len)[j]? with
   | none => simp
   | some x => simpa using int_bounds (hwf x (List.mem_of_mem_take (List.mem_of_getElem? hx)))
end Go.Proofs.YtknaghdoffigjaaGreatDoor
namespace Go.Proofs.YtknaghdoffigjaaGreatDoor
open Go.ChangeShapes Go.WideShapes Go.ChangeAt Go.RowKit Go.Joins Go.Deep
set_option maxRecDepth 100000 in
theorem open_list {H : Type} {enc : TypeId × Value → H} {W : World} {base : Nat} {v : Value} {d : DataW H} {p : List MemPlace} (hval : Value.okWide Tryz.prog W .any base 25 v)
  (h : DataW.Trod enc Tryz.prog W 0 (fun _ => true) true 25 v d p) :
  ∃ (A : Option Addr) (n c : Nat) (Ls : List Int), v = .slice A n c ∧ RdI W A Ls ∧ Ls.length = n ∧ n ≤ c ∧ c ≤ maxLen ∧ ∀ j, -9223372036854775808 ≤ Ls.getD j 0 ∧ Ls.getD j 0 ≤ 9223372036854775807 := by
 obtain ⟨A, n, c, rfl⟩ := okWide_slice Tryz.underlying25 hval
 obtain ⟨fuel, hf⟩ := h
 rcases open_ints Tryz.underlying25 Tryz.underlying3 cells_int hf with ⟨e2, _⟩ | ⟨a, len, cap, zs, e2, _, hl, hm, hzl, _, hcell, hwf⟩
 ·simp [Value.cells] at e2
  obtain ⟨rfl, rfl, rfl⟩ := e2
  exact ⟨none, 0, 0, [], rfl, fun k hk => absurd hk (by simp), rfl, Nat.le_refl _, by unfold maxLen; omega, fun j => by simp⟩
 ·simp [Value.cells] at e2
  obtain ⟨rfl, rfl, rfl⟩ := e2
  simp only [if_true] at hzl
  refine ⟨some a, n, c, zs.take n, rfl, fun k hk => ?_, by simp; omega, hl, hm, fun j => ?_⟩
  ·have hk' : k < n := by simp at hk; omega
   have hc := hcell k (by omega)
   refine ⟨a, rfl, ?_, ?_⟩
   ·rcases Nat.lt_or_ge a.block W.heap.size with hlt | hge
    ·exact hlt
    ·simp [World.cell?, block_add, Array.getElem?_eq_none hge] at hc
   ·rw [hc, List.getD_eq_getElem?_getD, List.getD_eq_getElem?_getD, List.getElem?_take_of_lt hk']
  ·rw [List.getD_eq_getElem?_getD]
   cases hx : (zs.take n)[j]? with
   | none => simp
   | some x => simpa using int_bounds (hwf x (List.mem_of_mem_take (List.mem_of_getElem? hx)))
end Go.Proofs.YtknaghdoffigjaaGreatDoor
namespace Go.Proofs.YtknaghdoffigjaaGreatDoor
open Go.RowKit Go
attribute [local go_sem] Oper.semAt_some
theorem row_of0 (g i c : Nat) : (if c = 0 then some (⟨g, 0, none⟩ : Addr) else (some (⟨g, 0, none⟩ : Addr)).map (·.add (i * c * 2))) = some ⟨g, i * c * 2, none⟩ := by
 simp only [Option.map_some, add_from0]
 by_cases h : c = 0
 ·rw [if_pos h, h]; simp
 ·rw [if_neg h]
end Go.Proofs.YtknaghdoffigjaaGreatDoor
