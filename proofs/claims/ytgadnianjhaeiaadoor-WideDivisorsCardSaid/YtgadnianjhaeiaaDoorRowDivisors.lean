/-
  WideDivisors: for any three numbers that come in, the statement returns true, and nothing that was there before has changed. No condition.
-/
import Derived.Test.YtgadnianjhaeiaaDoorRowK
import Derived.Test.YtgadnianjhaeiaaDoorDivisors
namespace Go.Proofs.YtgadnianjhaeiaaDoor
open Go.ChangeShapes Go.WideShapes Go.ChangeAt Go.RowKit Go.Joins
set_option maxRecDepth 100000 in
/-- A number that came in: its bytes have room. -/
theorem num_cap {H : Type} {enc : TypeId × Value → H} {W : World} {base : Nat} {neg : Bool} {A : Option Addr} {n c : Nat} {z : Int} {d : DataW H} {p : List MemPlace} (hval : Value.okWide Tryd.prog W .any base 24 (.agg #[.bool neg, .slice A n c, .int .i64 z]))
    (h : DataW.Trod enc Tryd.prog W 0 (fun _ => true) true 24 (.agg #[.bool neg, .slice A n c, .int .i64 z]) d p) : n ≤ c := by
  obtain ⟨v0, v1, v2, y0, y1, y2, k, e, _, _, h0, h1, h2⟩ := open_agg3 (P := Tryd.prog) Tryd.underlying24 (by kernel_rfl) cells_num hval h
  simp at e
  obtain ⟨rfl, rfl, rfl⟩ := e
  rcases open_ints Tryd.underlying22 Tryd.underlying5 cells_u8 h1 with ⟨e1, _⟩ | ⟨a, len, cap, zs, e1, _, hl, _⟩
  · simp at e1
    omega
  · simp at e1
    omega

set_option maxRecDepth 100000 in
/-- What the walk gives, in every world and for all arguments. -/
theorem contract (H : Type) (enc : TypeId × Value → H) (W : World) (base : Nat) (args : Array Value) (ds gs : List (DataW H)) (before : List MemPlace)
    (hval : ∀ (j : Nat) t v, Tryd.f7.params[j]? = some t → args[j]? = some v → Value.okWide Tryd.prog W .any base t v)
    (hW : DataW.Whole enc Tryd.prog Tryd.f7.params.toList Rows.wideDivisorsSpec.vars false W args.toList ds gs before)
    (hsz : (DataW.weightsEach Tryd.prog (Tryd.f7.params.toList ++ (OpenSpec.ofChange Rows.wideDivisorsSpec).bare.plain.varTypes Tryd.prog) (ds ++ gs)).all (· ≤ reachBytes) = true) :
    Calls Tryd.prog 7 args W fun e W' => ∃ v, e = .returned v ∧ Rows.wideDivisorsSpec.post enc Tryd.prog Tryd.f7 false true false false W args v W' := by
  have hW' := hW
  obtain ⟨p, q, hA0, hV, rfl, hfz, hnd⟩ := hW
  have hA : DataW.TrodAll enc Tryd.prog W 0 (fun _ => true) true Tryd.f7.params.toList args.toList ds p := hA0
  rw [Tryd.params7] at hA hval hsz
  obtain ⟨v1, v2, v3, d1, d2, d3, p1, p2, p3, rfl, rfl, rfl, k1, k2, k3⟩ := trodAll_three hA
  obtain ⟨rfl, rfl⟩ := trodVars_none hV
  have hwt : ∀ (j : Nat) (t : TypeId) (d : DataW H), (([24, 24, 24] : List TypeId) ++ (OpenSpec.ofChange Rows.wideDivisorsSpec).bare.plain.varTypes Tryd.prog)[j]? = some t → ([d1, d2, d3] ++ [])[j]? = some d → ∀ n ∈ d.weights Tryd.prog t, n ≤ reachBytes := fun j t d ht hd n hn =>
    of_decide_eq_true (List.all_eq_true.1 hsz n (DataW.weights_mem_each ht hd n hn))
  obtain ⟨n1, A1, l1, c1, z1, rfl, m1⟩ := open_num (hval 0 _ v1 rfl rfl) k1 (hwt 0 _ d1 rfl rfl)
  obtain ⟨n2, A2, l2, c2, z2, rfl, m2⟩ := open_num (hval 1 _ v2 rfl rfl) k2 (hwt 1 _ d2 rfl rfl)
  obtain ⟨n3, A3, l3, c3, z3, rfl, m3⟩ := open_num (hval 2 _ v3 rfl rfl) k3 (hwt 2 _ d3 rfl rfl)
  have lc3 := num_cap (hval 2 _ _ rfl rfl) k3
  refine (Divisors_any n1 n2 n3 A1 A2 A3 l1 l2 l3 c1 c2 c3 z1 z2 z3 W m1 m2 m3 lc3).mono ?_
  rintro e W' ⟨rfl, bel⟩
  have hlt : ∀ x ∈ p1 ++ p2 ++ p3 ++ [], x.block < W.heap.size := fun x hx => by simpa using hW'.lt x hx
  have stay : ∀ {v : Value} {d : DataW H} {ps : List MemPlace}, DataW.Trod enc Tryd.prog W 0 (fun _ => true) true 24 v d ps → (∀ x ∈ ps, x.block < W.heap.size) →
      DataW.Trod enc Tryd.prog W' 0 (fun b => decide (b < W.heap.size)) true 24 v d ps := fun h hl => Below.trod laidOutX (by kernel_rfl) (of_decide_eq_true (by kernel_rfl)) h bel hl
  have e1 : Rows.wideDivisorsSpec.fn H ([d1, d2, d3] ++ []) = { results := [.lit (.bool true)], args := [d1, d2, d3] } := rfl
  refine ⟨_, rfl, [d1, d2, d3], [], _, [], p1 ++ (p2 ++ p3), [], hW', ?_, ?_, ?_, bel.frame _, fun h => by cases h⟩
  · rw [e1]; exact trodAll_mk1 (shut_bool Tryd.underlying4 _)
  · rw [e1, Tryd.params7]
    exact trodAll_mk3 (stay k1 fun x hx => hlt x (by simp [hx])) (stay k2 fun x hx => hlt x (by simp [hx])) (stay k3 fun x hx => hlt x (by simp [hx]))
  · rw [e1]; rfl

/-- The arguments of the witness. -/
def wArgs : Array Value := #[.agg #[.bool false, .slice none 0 0, .int .i64 0], .agg #[.bool false, .slice none 0 0, .int .i64 0], .agg #[.bool false, .slice none 0 0, .int .i64 0]]
noncomputable def laidWorld (os : Os) : World := World.laidAll Tryd.prog os Rows.wideDivisorsRow.laid
theorem laid_met (os : Os) : laidMet Tryd.prog Rows.wideDivisorsRow.laid ((laidWorld os).forCall (fun _ _ => 0) ⟨#[], wArgs, []⟩).memory :=
  laidMet_laidAll _ (by kernel_rfl) (by kernel_rfl)

theorem witness_row (os : Os) {H : Type} (enc : TypeId × Value → H) :
    (OpenSpec.ofChange Rows.wideDivisorsSpec).preRow enc Tryd.prog Tryd.f7 Rows.wideDivisorsRow.domain false Rows.wideDivisorsRow.laid ((laidWorld os).forCall (fun _ _ => 0) ⟨#[], wArgs, []⟩).memory wArgs := by
  have hw : (DataW.whole enc Tryd.prog ((laidWorld os).forCall (fun _ _ => 0) ⟨#[], wArgs, []⟩).memory Tryd.f7.params.toList Rows.wideDivisorsSpec.vars false wArgs.toList 8).map (fun x => (x.1, x.2.1)) =
      some ([.agg [.lit (.bool false), .nil, .lit (.int .i64 0)], .agg [.lit (.bool false), .nil, .lit (.int .i64 0)], .agg [.lit (.bool false), .nil, .lit (.int .i64 0)]], []) := by kernel_rfl
  obtain ⟨⟨x1, x2, x3⟩, hx, hx1⟩ := Option.map_eq_some_iff.1 hw
  simp only [Prod.mk.injEq] at hx1
  obtain ⟨rfl, rfl⟩ := hx1
  exact OpenSpec.preRow_of_cond 8 hx (by kernel_rfl) (fun k hk => by cases hk) (by kernel_rfl) (laid_met os)

set_option maxRecDepth 100000 in
theorem lifted (os : Os) (started : os.Started) (H : Type) (enc : TypeId × Value → H) (F : Stop.Interp) :
    ReturnsInHanded {} Tryd.checked os 7 .any ((OpenSpec.ofChange Rows.wideDivisorsSpec).preRow enc Tryd.prog Tryd.f7 Rows.wideDivisorsRow.domain false Rows.wideDivisorsRow.laid) (((OpenSpec.ofChange Rows.wideDivisorsSpec).at F).post enc Tryd.prog Tryd.f7 false true false false) := by
  refine returnsInHanded_of_row (C := Tryd.checked) (s := OpenSpec.ofChange Rows.wideDivisorsSpec) own started (by kernel_rfl) Tryd.func7
    (witness_row_atRef (enc := enc) (C := Tryd.checked) false (laidWorld os) wArgs (World.laidAll_os _ _ _) (by kernel_rfl) (by kernel_rfl) (by kernel_rfl) (witness_row os enc)) ?_
  intro W base args ds gs before hval hW _ _ hsz _ _ _
  exact contract H enc W base args ds gs before hval hW hsz

theorem said : Rows.WideDivisorsSaid :=
  OpenClaim.holds_of_cond 7 Tryd.f7 rfl rfl rfl rfl rfl rfl rfl ⟨rfl, rfl, rfl, rfl, rfl⟩ rfl rfl rfl rfl rfl (by kernel_rfl) Tryd.func7 (by kernel_rfl)
    (of_decide_eq_true (by kernel_rfl)) (by unfold Func.isWrapper; first | (rw [if_pos (by decide +kernel)]; kernel_rfl) | (rw [if_neg (by decide +kernel)]; exact ⟨rfl, rfl⟩))
    (fun os started H enc _ F => by rw [OpenClaim.pre_eq_preRow]; exact lifted os started H enc F)

theorem plain (f : FuncId) (fn : Func) (hf : Tryd.pinned.checked.prog.funcNamed "cocycle/cocyclelaw01.WideDivisors" = some f) (hfn : Tryd.pinned.checked.prog.funcs[f]? = some fn) :
    false = Tryd.pinned.checked.prog.looks [] ∧ ∀ (j : Nat) t, fn.params[j]? = some t → Tryd.pinned.checked.prog.wantsStandIn t = false := by
  obtain rfl : f = 7 := Option.some.inj ((show Tryd.prog.funcNamed "cocycle/cocyclelaw01.WideDivisors" = some 7 by kernel_rfl).symm.trans hf) |>.symm
  obtain rfl : fn = Tryd.f7 := (Option.some.inj (Tryd.func7.symm.trans hfn)).symm
  refine ⟨by kernel_rfl, fun j t ht => ?_⟩
  rw [Tryd.params7] at ht
  obtain rfl : t = 24 := by simpa using Array.mem_of_getElem? ht
  exact (show Tryd.prog.wantsStandIn 24 = false by kernel_rfl)

/-- The card. -/
theorem card : Rows.WideDivisorsCardSaid :=
  Claim7.holds_tied_plain_at .later [] _ _ _ _ said (fun _ h => by cases h) (by kernel_rfl) (fun _ h => by cases h) wideDivisors_row_tie rfl ⟨rfl, rfl⟩ (by kernel_rfl) rfl plain (by kernel_rfl)
end Go.Proofs.YtgadnianjhaeiaaDoor
