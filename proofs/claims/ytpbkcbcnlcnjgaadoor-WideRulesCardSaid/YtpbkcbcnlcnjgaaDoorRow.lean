/-
  WideRules: the row and its card, out of the contract.
-/
import Derived.Test.YtpbkcbcnlcnjgaaDoorRules
import Derived.Test.YtpbkcbcnlcnjgaaDoorCards
import Derived.Test.YtpbkcbcnlcnjgaaDoorTie
import Derived.ProofKit
import Derived.OpenShut
import Derived.Deep.DeepHandedRow
import Derived.Deep.DeepWitnessRowRef
import Derived.Lib.LaidTab
import Derived.Lib.SmallJoins
import Derived.Carry
import Derived.SizedLaws
import Derived.Lay
namespace Go.Proofs.YtpbkcbcnlcnjgaaDoor
open Go.ChangeShapes Go.WideShapes Go.ChangeAt Go.RowKit Go.Joins

theorem own : ownKnob Tryd.prog.godebug = none := by kernel_rfl
theorem cells_u8 : Tryd.prog.cellsOf 5 = 1 := by kernel_rfl
theorem cells_num : Tryd.prog.cellsOf 24 = 3 := by kernel_rfl
theorem bytes_u8 : Tryd.prog.bytesOf 5 = 1 := by kernel_rfl
theorem laidOutX : laidOutB Tryd.prog = true := by kernel_rfl

set_option maxRecDepth 100000 in
/-- A number that came in, opened. -/
theorem open_num {H : Type} {enc : TypeId × Value → H} {W : World} {base : Nat} {v : Value} {d : DataW H} {p : List MemPlace} (hval : Value.okWide Tryd.prog W .any base 24 v)
    (h : DataW.Trod enc Tryd.prog W 0 (fun _ => true) true 24 v d p) (hw : ∀ n ∈ d.weights Tryd.prog 24, n ≤ reachBytes) :
    ∃ (neg : Bool) (A : Option Addr) (n c : Nat) (z : Int), v = .agg #[.bool neg, .slice A n c, .int .i64 z] ∧ Nm W A n c z := by
  obtain ⟨v0, v1, v2, y0, y1, y2, k, rfl, rfl, rfl, h0, h1, h2⟩ := open_agg3 (P := Tryd.prog) Tryd.underlying24 (by kernel_rfl) cells_num hval h
  obtain ⟨b, e0, rfl⟩ := DataW.trod_bool Tryd.underlying4 h0
  obtain ⟨z, e2, rfl, hz⟩ := DataW.trod_int Tryd.underlying3 h2
  injection e0 with e0
  injection e2 with e2
  subst e0
  subst e2
  have hz' : -9223372036854775808 ≤ z ∧ z ≤ 9223372036854775807 := by
    simp [Lit.wf, IntKind.min, IntKind.max, IntKind.signed, IntKind.bits] at hz
    omega
  rcases open_ints Tryd.underlying22 Tryd.underlying5 cells_u8 h1 with ⟨e1, rfl⟩ | ⟨a, len, cap, zs, e1, _, hl, hm, hzl, rfl, hcell, _⟩
  · injection e1 with e1
    subst e1
    exact ⟨b, none, 0, 0, z, rfl, [], fun k hk => by simp at hk, rfl, fun _ => ⟨rfl, rfl⟩, by omega, hz'⟩
  · injection e1 with e1
    subst e1
    simp only [if_true] at hzl
    have hsz : cap ≤ 140737488351232 := by
      have := hw ((lits IntKind.u8 (List.take len zs) : List (DataW H)).length + (lits IntKind.u8 (List.drop len zs) : List (DataW H)).length) (by
        simp only [DataW.weights, Tryd.underlying24, List.map_cons, List.map_nil, DataW.weightsEach, Tryd.underlying22, bytes_u8, Nat.mul_one]
        simp)
      simp [lits] at this
      unfold reachBytes at this
      omega
    refine ⟨b, some a, len, cap, z, rfl, zs.take len, fun k hk => ?_, by simp; omega, fun e => (by cases e), by omega, hz'⟩
    have hk' : k < len := by simp at hk; omega
    have hc := hcell k (by omega)
    refine ⟨a, rfl, ?_, ?_⟩
    · rcases Nat.lt_or_ge a.block W.heap.size with hlt | hge
      · exact hlt
      · simp [World.cell?, block_add, Array.getElem?_eq_none hge] at hc
    · rw [hc]
      simp [List.getD_eq_getElem?_getD, List.getElem?_take, hk']

set_option maxRecDepth 100000 in
/-- WHAT THE WALK GIVES, in every world and for all arguments. -/
theorem contract (H : Type) (enc : TypeId × Value → H) (W : World) (base : Nat) (args : Array Value) (ds gs : List (DataW H)) (before : List MemPlace)
    (hval : ∀ (j : Nat) t v, Tryd.f11.params[j]? = some t → args[j]? = some v → Value.okWide Tryd.prog W .any base t v)
    (hW : DataW.Whole enc Tryd.prog Tryd.f11.params.toList Rows.wideRulesSpec.vars false W args.toList ds gs before)
    (hsz : (DataW.weightsEach Tryd.prog (Tryd.f11.params.toList ++ (OpenSpec.ofChange Rows.wideRulesSpec).bare.plain.varTypes Tryd.prog) (ds ++ gs)).all (· ≤ reachBytes) = true) :
    Calls Tryd.prog 11 args W fun e W' => ∃ v, e = .returned v ∧ Rows.wideRulesSpec.post enc Tryd.prog Tryd.f11 false true false false W args v W' := by
  have hW' := hW
  obtain ⟨p, q, hA0, hV, rfl, hfz, hnd⟩ := hW
  have hA : DataW.TrodAll enc Tryd.prog W 0 (fun _ => true) true Tryd.f11.params.toList args.toList ds p := hA0
  rw [Tryd.params11] at hA hval hsz
  obtain ⟨v1, v2, v3, d1, d2, d3, p1, p2, p3, rfl, rfl, rfl, k1, k2, k3⟩ := trodAll_three hA
  obtain ⟨rfl, rfl⟩ := trodVars_none hV
  have hwt : ∀ (j : Nat) (t : TypeId) (d : DataW H), (([24, 24, 24] : List TypeId) ++ (OpenSpec.ofChange Rows.wideRulesSpec).bare.plain.varTypes Tryd.prog)[j]? = some t → ([d1, d2, d3] ++ [])[j]? = some d → ∀ n ∈ d.weights Tryd.prog t, n ≤ reachBytes := fun j t d ht hd n hn =>
    of_decide_eq_true (List.all_eq_true.1 hsz n (DataW.weights_mem_each ht hd n hn))
  obtain ⟨n1, A1, l1, c1, z1, rfl, m1⟩ := open_num (hval 0 _ v1 rfl rfl) k1 (hwt 0 _ d1 rfl rfl)
  obtain ⟨n2, A2, l2, c2, z2, rfl, m2⟩ := open_num (hval 1 _ v2 rfl rfl) k2 (hwt 1 _ d2 rfl rfl)
  obtain ⟨n3, A3, l3, c3, z3, rfl, m3⟩ := open_num (hval 2 _ v3 rfl rfl) k3 (hwt 2 _ d3 rfl rfl)
  refine (Rules_any n1 n2 n3 A1 A2 A3 l1 l2 l3 c1 c2 c3 z1 z2 z3 W m1 m2 m3).mono ?_
  rintro e W' ⟨rfl, bel⟩
  have hlt : ∀ x ∈ p1 ++ p2 ++ p3 ++ [], x.block < W.heap.size := fun x hx => by simpa using hW'.lt x hx
  have stay : ∀ {v : Value} {d : DataW H} {ps : List MemPlace}, DataW.Trod enc Tryd.prog W 0 (fun _ => true) true 24 v d ps → (∀ x ∈ ps, x.block < W.heap.size) →
      DataW.Trod enc Tryd.prog W' 0 (fun b => decide (b < W.heap.size)) true 24 v d ps := fun h hl => Below.trod laidOutX (by kernel_rfl) (of_decide_eq_true (by kernel_rfl)) h bel hl
  have e1 : Rows.wideRulesSpec.fn H ([d1, d2, d3] ++ []) = { results := [.lit (.bool true)], args := [d1, d2, d3] } := rfl
  refine ⟨_, rfl, [d1, d2, d3], [], _, [], p1 ++ (p2 ++ p3), [], hW', ?_, ?_, ?_, bel.frame _, fun h => by cases h⟩
  · rw [e1]; exact trodAll_mk1 (shut_bool Tryd.underlying4 _)
  · rw [e1, Tryd.params11]
    exact trodAll_mk3 (stay k1 fun x hx => hlt x (by simp [hx])) (stay k2 fun x hx => hlt x (by simp [hx])) (stay k3 fun x hx => hlt x (by simp [hx]))
  · rw [e1]; rfl

/-- The arguments of the witness. -/
def wArgs : Array Value := #[.agg #[.bool false, .slice none 0 0, .int .i64 0], .agg #[.bool false, .slice none 0 0, .int .i64 0], .agg #[.bool false, .slice none 0 0, .int .i64 0]]
noncomputable def laidWorld (os : Os) : World := World.laidAll Tryd.prog os Rows.wideRulesRow.laid
theorem laid_met (os : Os) : laidMet Tryd.prog Rows.wideRulesRow.laid ((laidWorld os).forCall (fun _ _ => 0) ⟨#[], wArgs, []⟩).memory :=
  laidMet_laidAll _ (by kernel_rfl) (by kernel_rfl)

theorem witness_row (os : Os) {H : Type} (enc : TypeId × Value → H) :
    (OpenSpec.ofChange Rows.wideRulesSpec).preRow enc Tryd.prog Tryd.f11 Rows.wideRulesRow.domain false Rows.wideRulesRow.laid ((laidWorld os).forCall (fun _ _ => 0) ⟨#[], wArgs, []⟩).memory wArgs := by
  have hw : (DataW.whole enc Tryd.prog ((laidWorld os).forCall (fun _ _ => 0) ⟨#[], wArgs, []⟩).memory Tryd.f11.params.toList Rows.wideRulesSpec.vars false wArgs.toList 8).map (fun x => (x.1, x.2.1)) =
      some ([.agg [.lit (.bool false), .nil, .lit (.int .i64 0)], .agg [.lit (.bool false), .nil, .lit (.int .i64 0)], .agg [.lit (.bool false), .nil, .lit (.int .i64 0)]], []) := by kernel_rfl
  obtain ⟨⟨x1, x2, x3⟩, hx, hx1⟩ := Option.map_eq_some_iff.1 hw
  simp only [Prod.mk.injEq] at hx1
  obtain ⟨rfl, rfl⟩ := hx1
  exact OpenSpec.preRow_of_cond 8 hx (by kernel_rfl) (fun k hk => by cases hk) (by kernel_rfl) (laid_met os)

set_option maxRecDepth 100000 in
theorem lifted (os : Os) (started : os.Started) (H : Type) (enc : TypeId × Value → H) (F : Stop.Interp) :
    ReturnsInHanded {} Tryd.checked os 11 .any ((OpenSpec.ofChange Rows.wideRulesSpec).preRow enc Tryd.prog Tryd.f11 Rows.wideRulesRow.domain false Rows.wideRulesRow.laid) (((OpenSpec.ofChange Rows.wideRulesSpec).at F).post enc Tryd.prog Tryd.f11 false true false false) := by
  refine returnsInHanded_of_row (C := Tryd.checked) (s := OpenSpec.ofChange Rows.wideRulesSpec) own started (by kernel_rfl) Tryd.func11
    (witness_row_atRef (enc := enc) (C := Tryd.checked) false (laidWorld os) wArgs (World.laidAll_os _ _ _) (by kernel_rfl) (by kernel_rfl) (by kernel_rfl) (witness_row os enc)) ?_
  intro W base args ds gs before hval hW _ _ hsz _ _ _
  exact contract H enc W base args ds gs before hval hW hsz

theorem said : Rows.WideRulesSaid :=
  OpenClaim.holds_of_cond 11 Tryd.f11 rfl rfl rfl rfl rfl rfl rfl ⟨rfl, rfl, rfl, rfl, rfl⟩ rfl rfl rfl rfl rfl (by kernel_rfl) Tryd.func11 (by kernel_rfl)
    (of_decide_eq_true (by kernel_rfl)) (by unfold Func.isWrapper; first | (rw [if_pos (by decide +kernel)]; kernel_rfl) | (rw [if_neg (by decide +kernel)]; exact ⟨rfl, rfl⟩))
    (fun os started H enc _ F => by rw [OpenClaim.pre_eq_preRow]; exact lifted os started H enc F)

theorem plain (f : FuncId) (fn : Func) (hf : Tryd.pinned.checked.prog.funcNamed "cocycle/cocyclelaw01.WideRules" = some f) (hfn : Tryd.pinned.checked.prog.funcs[f]? = some fn) :
    false = Tryd.pinned.checked.prog.looks [] ∧ ∀ (j : Nat) t, fn.params[j]? = some t → Tryd.pinned.checked.prog.wantsStandIn t = false := by
  obtain rfl : f = 11 := Option.some.inj ((show Tryd.prog.funcNamed "cocycle/cocyclelaw01.WideRules" = some 11 by kernel_rfl).symm.trans hf) |>.symm
  obtain rfl : fn = Tryd.f11 := (Option.some.inj (Tryd.func11.symm.trans hfn)).symm
  refine ⟨by kernel_rfl, fun j t ht => ?_⟩
  rw [Tryd.params11] at ht
  obtain rfl : t = 24 := by simpa using Array.mem_of_getElem? ht
  exact (show Tryd.prog.wantsStandIn 24 = false by kernel_rfl)

/-- THE CARD. -/
theorem card : Rows.WideRulesCardSaid :=
  Claim7.holds_tied_plain_at .later [] _ _ _ _ said (fun _ h => by cases h) (by kernel_rfl) (fun _ h => by cases h) wideRules_row_tie rfl ⟨rfl, rfl⟩ (by kernel_rfl) rfl plain (by kernel_rfl)
end Go.Proofs.YtpbkcbcnlcnjgaaDoor
