/-
  What the rows of the statements about wide share: how a number that came in is opened.
-/
import Derived.Test.YtgadnianjhaeiaaDoorRules
import Derived.Test.YtgadnianjhaeiaaDoorCards
import Derived.Test.YtgadnianjhaeiaaDoorTie
import Derived.ProofKit
import Derived.OpenShut
import Derived.Deep.DeepHandedRow
import Derived.Deep.DeepWitnessRowRef
import Derived.Lib.LaidTab
import Derived.Lib.SmallJoins
import Derived.Carry
import Derived.SizedLaws
import Derived.Lay
namespace Go.Proofs.YtgadnianjhaeiaaDoor
open Go.ChangeShapes Go.WideShapes Go.ChangeAt Go.RowKit Go.Joins

theorem own : ownKnob Tryd.prog.godebug = none := by kernel_rfl
theorem cells_u8 : Tryd.prog.cellsOf 5 = 1 := by kernel_rfl
theorem cells_num : Tryd.prog.cellsOf 24 = 3 := by kernel_rfl
theorem bytes_u8 : Tryd.prog.bytesOf 5 = 1 := by kernel_rfl
theorem laidOutX : laidOutB Tryd.prog = true := by kernel_rfl

theorem int_bounds {z : Int} (hz : (Lit.int .i64 z).wf = true) : -9223372036854775808 ≤ z ∧ z ≤ 9223372036854775807 := by
  simp [Lit.wf, IntKind.min, IntKind.max, IntKind.signed, IntKind.bits] at hz
  omega
set_option maxRecDepth 100000 in
/-- A number that came in, opened. -/
theorem open_num {H : Type} {enc : TypeId × Value → H} {W : World} {base : Nat} {v : Value} {d : DataW H} {p : List MemPlace} (hval : Value.okWide Tryd.prog W .any base 24 v)
    (h : DataW.Trod enc Tryd.prog W 0 (fun _ => true) true 24 v d p) (hw : ∀ n ∈ d.weights Tryd.prog 24, n ≤ reachBytes) :
    ∃ (neg : Bool) (A : Option Addr) (n c : Nat) (z : Int), v = .agg #[.bool neg, .slice A n c, .int .i64 z] ∧ Nm W A n c z := by
  obtain ⟨v0, v1, v2, y0, y1, y2, k, rfl, rfl, rfl, h0, h1, h2⟩ := open_agg3 (P := Tryd.prog) Tryd.underlying24 (by kernel_rfl) cells_num hval h
  obtain ⟨b, e0, rfl⟩ := DataW.trod_bool Tryd.underlying4 h0
  obtain ⟨z, e2, rfl, hz⟩ := DataW.trod_int Tryd.underlying3 h2
  injection e0 with e0
  injection e2 with e2
  subst e0
  subst e2
  have hz' : -9223372036854775808 ≤ z ∧ z ≤ 9223372036854775807 := by
    simp [Lit.wf, IntKind.min, IntKind.max, IntKind.signed, IntKind.bits] at hz
    omega
  rcases open_ints Tryd.underlying22 Tryd.underlying5 cells_u8 h1 with ⟨e1, rfl⟩ | ⟨a, len, cap, zs, e1, _, hl, hm, hzl, rfl, hcell, _⟩
  · injection e1 with e1
    subst e1
    exact ⟨b, none, 0, 0, z, rfl, [], fun k hk => by simp at hk, rfl, fun _ => ⟨rfl, rfl⟩, by omega, hz'⟩
  · injection e1 with e1
    subst e1
    simp only [if_true] at hzl
    have hsz : cap ≤ 140737488351232 := by
      have := hw ((lits IntKind.u8 (List.take len zs) : List (DataW H)).length + (lits IntKind.u8 (List.drop len zs) : List (DataW H)).length) (by
        simp only [DataW.weights, Tryd.underlying24, List.map_cons, List.map_nil, DataW.weightsEach, Tryd.underlying22, bytes_u8, Nat.mul_one]
        simp)
      simp [lits] at this
      unfold reachBytes at this
      omega
    refine ⟨b, some a, len, cap, z, rfl, zs.take len, fun k hk => ?_, by simp; omega, fun e => (by cases e), by omega, hz'⟩
    have hk' : k < len := by simp at hk; omega
    have hc := hcell k (by omega)
    refine ⟨a, rfl, ?_, ?_⟩
    · rcases Nat.lt_or_ge a.block W.heap.size with hlt | hge
      · exact hlt
      · simp [World.cell?, block_add, Array.getElem?_eq_none hge] at hc
    · rw [hc]
      simp [List.getD_eq_getElem?_getD, List.getElem?_take, hk']

end Go.Proofs.YtgadnianjhaeiaaDoor
