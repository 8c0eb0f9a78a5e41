/-
  The contract of the reference's Of. At, Zero and One beside the reference's: the same results, for any numbers. What the call of the law MatrixBuilds needs: rows taken over into slices of its own. What the rows of the statements about matrix share: the table that is laid, and how rows of ints and pairs of ints that came in are opened. How a shape that came in is opened.
-/
import Derived.Test.YtknaghdoffigjaaGreatDoorZMRefA
import Derived.Test.YtknaghdoffigjaaGreatDoorZMCopy
import Derived.Test.YtknaghdoffigjaaGreatDoorZRDig
import Derived.Test.YtknaghdoffigjaaGreatDoorZMInvV
import Derived.Test.YtknaghdoffigjaaGreatDoorMSane
import Derived.Test.YtknaghdoffigjaaGreatDoorCards
import Derived.Test.YtknaghdoffigjaaGreatDoorTie
import Derived.ProofKit
import Derived.OpenShut
import Derived.Deep.DeepHandedRow
import Derived.Deep.DeepWitnessRowRef
import Derived.Deep.Matrix
import Derived.Lib.LaidTab
import Derived.Lib.SmallJoins
import Derived.Carry
import Derived.SizedLaws
import Derived.Lay
set_option linter.unusedSimpArgs false
set_option linter.unusedVariables false
set_option linter.unnecessarySimpa false
namespace Go.Proofs.YtknaghdoffigjaaGreatDoor
open Go.RowKit Go
attribute [local go_sem] Oper.semAt_some

end Go.Proofs.YtknaghdoffigjaaGreatDoor
namespace Go.Proofs.YtknaghdoffigjaaGreatDoor
open Go.RowKit Go

end Go.Proofs.YtknaghdoffigjaaGreatDoor
namespace Go.Proofs.YtknaghdoffigjaaGreatDoor
open Go.RowKit Go
attribute [local go_sem] Oper.semAt_some

/-- Slices in a row of their own. -/
def OwS (w : World) (B : Nat) (v : Value) (vs : List Value) : Prop := w.ownsRow B 25 1 v vs.length vs
theorem OwS.nil (w : World) (B : Nat) : OwS w B (.slice none 0 0) [] := World.ownsRow_nil _ _ _ _
theorem OwS.rd {w : World} {B : Nat} {v : Value} {vs : List Value} (h : OwS w B v vs) : ∃ A c, v = .slice A vs.length c ∧ vs.length ≤ c ∧ c ≤ maxLen ∧ ∀ k (hk : k < vs.length), ∃ a, A = some a ∧ a.block < w.heap.size ∧ w.cell? (a.add k) = some vs[k] := by
  rcases h.2 with ⟨rfl, h0⟩ | ⟨g, cap, cur, rfl, hb, hh, hnc, hcm, hcs, hct⟩
  · obtain rfl : vs = [] := List.length_eq_zero_iff.1 h0
    exact ⟨none, 0, rfl, by simp, by simp, fun k hk => absurd hk (by simp)⟩
  · refine ⟨_, _, rfl, hnc, hcm, fun k hk => ⟨_, rfl, heap_lt hh, ?_⟩⟩
    rw [add_from0, cell_of_row w g k cur _ (0, 0) hh]
    have h2 := congrArg (fun l : List Value => l[k]?) hct
    change (cur.toList.take (vs.length * 1))[k]? = vs[k]? at h2
    rw [List.getElem?_take_of_lt (by omega), Array.getElem?_toList] at h2
    rw [h2, List.getElem?_eq_getElem hk]
theorem OwS.own {w : World} {B : Nat} {v : Value} {vs : List Value} (h : OwS w B v vs) (k : Nat) (hk : v.ownBlock = some k) : B ≤ k := by
  rcases h.2 with ⟨rfl, _⟩ | ⟨g, cap, cur, rfl, hb, _⟩
  · cases hk
  · injection hk with hk
    exact hk ▸ hb
theorem OwS.block {w w' : World} {B : Nat} {v : Value} {vs : List Value} (h : OwS w B v vs) (hb' : ∀ i, B ≤ i → i < w.heap.size → w'.heap[i]? = w.heap[i]?) : OwS w' B v vs := by
  rcases h.2 with ⟨rfl, h0⟩ | ⟨g, cap, cur, rfl, hb, hh, hnc, hcm, hcs, hct⟩
  · exact ⟨h.1, .inl ⟨rfl, h0⟩⟩
  · exact ⟨h.1, .inr ⟨g, cap, cur, rfl, hb, (hb' g hb (heap_lt hh)).trans hh, hnc, hcm, hcs, hct⟩⟩
theorem OwS.drew {w : World} {B : Nat} {v : Value} {vs : List Value} (h : OwS w B v vs) : OwS w.drew B v vs := h.block fun _ _ _ => rfl
theorem OwS.below {w w' : World} {B : Nat} {v : Value} {vs : List Value} (h : OwS w B v vs) (hb : Below w.heap.size w w') : OwS w' B v vs := h.block fun i _ hi => hb.block i hi
/-- The rows that the law takes over. -/
def cutRows (rows : List (List Int)) (k : Nat) : List (List Int) := (List.range k).map fun i => (rows.getD i []).take 8
/-- The slices of these rows. -/
def Cut (w : World) (rows : List (List Int)) (vs : List Value) : Prop := ∀ k, k < vs.length → ∃ Ak ck, vs[k]? = some (.slice Ak ((rows.getD k []).take 8).length ck) ∧ RdI w Ak ((rows.getD k []).take 8)
theorem Cut.rows {w W : World} {B : Nat} {v : Value} {vs : List Value} {rows : List (List Int)} (h : Cut w rows vs) (ho : OwS W B v vs) (hb : Below w.heap.size w W) :
    ∃ A c, v = .slice A vs.length c ∧ RdRows W A (cutRows rows vs.length) := by
  obtain ⟨A, c, rfl, _, _, hc⟩ := ho.rd
  refine ⟨A, c, rfl, fun k hk => ?_⟩
  have hk' : k < vs.length := by simpa [cutRows] using hk
  obtain ⟨a, rfl, hal, hac⟩ := hc k hk'
  obtain ⟨Ak, ck, hv, hr⟩ := h k hk'
  rw [List.getElem?_eq_getElem hk'] at hv
  injection hv with hv
  rw [hv] at hac
  have e : (cutRows rows vs.length)[k] = (rows.getD k []).take 8 := by simp [cutRows]
  rw [e]
  exact ⟨a, Ak, ck, rfl, hal, hac, hr.below hb⟩
theorem Kg.below_ {w0 w : World} {l : List (Option (Nat × Obj))} (h : Kg none w0 w l) : Below w0.heap.size w0 w := ⟨h.1.os, h.1.tape, h.1.output, h.1.size, fun i hi => h.1.block i hi (by simp)⟩
end Go.Proofs.YtknaghdoffigjaaGreatDoor
namespace Go.Proofs.YtknaghdoffigjaaGreatDoor
open Go.ChangeShapes Go.WideShapes Go.ChangeAt Go.RowKit Go.Joins Go.Deep

theorem own : ownKnob Tryz.prog.godebug = none := by kernel_rfl
theorem cells_int : Tryz.prog.cellsOf 3 = 1 := by kernel_rfl
theorem laidOutX : laidOutB Tryz.prog = true := by kernel_rfl
theorem int_bounds {z : Int} (hz : (Lit.int .i64 z).wf = true) : -9223372036854775808 ≤ z ∧ z ≤ 9223372036854775807 := by
  simp [Lit.wf, IntKind.min, IntKind.max, IntKind.signed, IntKind.bits] at hz
  omega
/-- The table that the row lists is the one that counts zeros. -/
theorem Tz_of_laid {W : World} (h : laidMet Tryz.prog [("math/bits.deBruijn64tab", Rows.laid_math_bits_deBruijn64tab)] W) : Tz W := fun j hj => by
  have h1 := Lib.tabIs_of_head (name := "math/bits.deBruijn64tab") (k := .u8) (zs := Lib.deBruijn64tab.map fun n : Nat => (n : Int)) (g := 1) (t := 176) (e := 5) (n := 64) (rest := []) (by kernel_rfl) (by kernel_rfl) (by kernel_rfl) (by kernel_rfl) (by kernel_rfl) (by kernel_rfl) h
  have h2 := h1.cell (g := 1) (by kernel_rfl) j (by simpa using hj)
  rw [h2]
  simp [List.getD_eq_getElem?_getD, hj]
end Go.Proofs.YtknaghdoffigjaaGreatDoor
namespace Go.Proofs.YtknaghdoffigjaaGreatDoor
open Go.ChangeShapes Go.WideShapes Go.ChangeAt Go.RowKit Go.Joins Go.Deep

theorem cells_shape : Tryz.prog.cellsOf 38 = 3 := by kernel_rfl
set_option maxRecDepth 100000 in
theorem open_shape {H : Type} {enc : TypeId × Value → H} {W : World} {base : Nat} {v : Value} {d : DataW H} {p : List MemPlace} (hval : Value.okWide Tryz.prog W .any base 38 v)
    (h : DataW.Trod enc Tryz.prog W 0 (fun _ => true) true 38 v d p) :
    ∃ (R C : Nat) (A : Option Addr) (n c : Nat) (Ls : List Int), v = .agg #[.int .u8 (R : Int), .int .u8 (C : Int), .slice A n c] ∧ RdI W A Ls ∧ Ls.length = n ∧ n ≤ maxLen ∧ ∀ j, -9223372036854775808 ≤ Ls.getD j 0 ∧ Ls.getD j 0 ≤ 9223372036854775807 := by
  obtain ⟨v0, v1, v2, y0, y1, y2, k, rfl, rfl, rfl, h0, h1, h2⟩ := open_agg3 (P := Tryz.prog) Tryz.underlying38 (by kernel_rfl) cells_shape hval h
  obtain ⟨z0, e0, rfl, hz0⟩ := DataW.trod_int Tryz.underlying5 h0
  obtain ⟨z1, e1, rfl, hz1⟩ := DataW.trod_int Tryz.underlying5 h1
  injection e0 with e0
  injection e1 with e1
  subst e0
  subst e1
  have b0 := bounds_u8 hz0
  have b1 := bounds_u8 hz1
  obtain ⟨R, rfl⟩ : ∃ R : Nat, (R : Int) = z0 := ⟨z0.toNat, by omega⟩
  obtain ⟨C, rfl⟩ : ∃ C : Nat, (C : Int) = z1 := ⟨z1.toNat, by omega⟩
  rcases open_ints Tryz.underlying25 Tryz.underlying3 cells_int h2 with ⟨e2, rfl⟩ | ⟨a, len, cap, zs, e2, _, hl, hm, hzl, rfl, hcell, hwf⟩
  · injection e2 with e2
    subst e2
    exact ⟨R, C, none, 0, 0, [], rfl, fun k hk => absurd hk (by simp), rfl, by unfold maxLen; omega, fun j => by simp⟩
  · injection e2 with e2
    subst e2
    simp only [if_true] at hzl
    refine ⟨R, C, some a, len, cap, zs.take len, rfl, fun k hk => ?_, by simp; omega, by omega, fun j => ?_⟩
    · have hk' : k < len := by simp at hk; omega
      have hc := hcell k (by omega)
      refine ⟨a, rfl, ?_, ?_⟩
      · rcases Nat.lt_or_ge a.block W.heap.size with hlt | hge
        · exact hlt
        · simp [World.cell?, block_add, Array.getElem?_eq_none hge] at hc
      · rw [hc, List.getD_eq_getElem?_getD, List.getD_eq_getElem?_getD, List.getElem?_take_of_lt hk']
    · rw [List.getD_eq_getElem?_getD]
      cases hx : (zs.take len)[j]? with
      | none => simp
      | some x => simpa using int_bounds (hwf x (List.mem_of_mem_take (List.mem_of_getElem? hx)))
end Go.Proofs.YtknaghdoffigjaaGreatDoor
