/-
  A range over a method value that visits places 0, 1, .. of a list: the loop out of one round, in the widest fence.
-/
import Derived.Test.YtknaghdoffigjaaGreatDoorZMRight
import Derived.RangeFuncWrites
import Derived.RangeFuncBound
import Derived.RangeFuncCalls
import Derived.RangeFuncLeaves
import Derived.RangeFuncNested
import Derived.OwnWalkIn
import Derived.TacticsInMore
import Derived.LoopNIn
import Derived.LoopIn
set_option linter.unusedSimpArgs false
set_option linter.unusedVariables false
set_option linter.unnecessarySimpa false
namespace Go.Proofs.YtknaghdoffigjaaGreatDoor
open Go.RowKit Go

/-- Only blocks from B on are new or other than before, and none of these held cells. -/
def Later (B : Nat) (W V : World) : Prop := Below B W V ∧ ∀ (i : Nat) (o : Obj), W.heap[i]? = some o → o.isCells = true → V.heap[i]? = some o
/-- The blocks from B on are as they were. -/
def Kept (B : Nat) (W V : World) : Prop := W.heap.size ≤ V.heap.size ∧ ∀ i, B ≤ i → i < W.heap.size → V.heap[i]? = W.heap[i]?
theorem heap_lt {W : World} {i : Nat} {o : Obj} (h : W.heap[i]? = some o) : i < W.heap.size := (Array.getElem?_eq_some_iff.1 h).1
theorem later_grow {B : Nat} {W V : World} (hB : B ≤ W.heap.size) (h : Below W.heap.size W V) : Later B W V :=
  ⟨h.mono hB, fun i o hi _ => (h.block i (heap_lt hi)).trans hi⟩
theorem later_put {B l : Nat} {W : World} {o : Obj} (o' : Obj) (hB : B ≤ l) (hl : W.heap[l]? = some o) (ho : o.isCells = false) : Later B W (W.putObj l o') := by
  refine ⟨(Below.refl B W).grown (grownBy_putObj' W l o') (by have := heap_lt hl; omega) (fun k e => by cases e; exact hB), fun i p hi hp => ?_⟩
  have hne : i ≠ l := by
    rintro rfl
    rw [hl] at hi
    cases hi
    rw [ho] at hp
    cases hp
  exact (World.putObj_heap_other hne).trans hi
theorem put_size (W : World) (l : Nat) (o : Obj) : (W.putObj l o).heap.size = W.heap.size := by simp [World.putObj]

/-- An iterator that calls yield with the values of places 0 to N - 1, one after the other, until it says false. -/
def Visits (P : Program) (gf : Nat) (first : Array Value) (encs : Nat → Array Value) (N : Nat) : Prop :=
  ∀ (l : Nat) (J : Nat → World → Prop) (Jx : World → Prop) (W : World),
    (∀ k V V', J k V → Below V.heap.size V V' → J k V') → (∀ V V', Jx V → Below V.heap.size V V' → Jx V') →
    (∀ k, k < N → ∀ V, J k V → YieldAt Fence.wide 0 P l (encs k) V fun e V' => (e = .returned (.bool true) ∧ J (k + 1) V' ∧ Kept W.heap.size V V') ∨ (e = .returned (.bool false) ∧ Jx V')) →
    J 0 W → CallsIn Fence.wide 0 P gf (first ++ #[.func (.yield l) #[] #[]]) W fun e V => (∃ v, e = .returned v) ∧ (J N V ∨ Jx V)

/-- How the body of round k may be left. -/
def bodyEnd (B : Nat) (I : Nat → World → Prop) (Ix : Code → World → Prop) (k : Nat) (W : World) : Exit → Act → World → Prop
  | .normal, _, V => Kept B W V ∧ I (k + 1) V
  | .ret, _, V => Kept B W V ∧ Ix .ret V
  | .exit id, _, V => Kept B W V ∧ Ix (.exit id) V
  | .goto t, _, V => Kept B W V ∧ Ix (.goto t) V
  | .panic _, _, _ => False
  | .outgrown, _, _ => False

theorem range_over {P : Program} {g : Operand} {ps : Array Tmp} {assign body : Code} {Q : Exit → Act → World → Prop} {a : Act} {w : World} {gf : Nat} {first : Array Value} {encs : Nat → Array Value} {N : Nat}
    (hg : a.eval g = .func (.func gf) first #[]) (eg : ∀ args w, (callFunc gf args).run P w = .ok (.enter gf args) w) (hv : Visits P gf first encs N) (hps : ∀ k, (encs k).size = ps.size)
    (I : Nat → World → Prop) (Ix : Code → World → Prop) (hI : ∀ k V V', I k V → Later w.heap.size V V' → I k V') (hIx : ∀ c V V', Ix c V → Later w.heap.size V V' → Ix c V') (h0 : I 0 w) (a₁ : Nat → Act)
    (hassign : ∀ (l k : Nat) (V : World) (K : Act → World → Prop), K (a₁ k) V → assign.wpIn (Fence.wide.inRound l) 0 P (Exit.then K (fun _ _ _ => False)) { tmps := (ps.zip (encs k)).foldl (fun t (p, v) => t.setIfInBounds p v) a.tmps, defers := [] } V)
    (hbody : ∀ (l k : Nat) (V : World), k < N → w.heap.size + 2 ≤ V.heap.size → I k V → body.wpIn (Fence.wide.inRound l) 0 P (bodyEnd w.heap.size I Ix k V) (a₁ k) V)
    (hdone : ∀ (D : Nat) (V : World), w.heap.size ≤ D → I N V → V.heap[D]? = some (.deferred (some [])) → Q .normal { a with defers := { target := .collected D, args := #[] } :: a.defers } V)
    (hstop : ∀ (D : Nat) (c : Code) (V : World), w.heap.size ≤ D → Ix c V → V.heap[D]? = some (.deferred (some [])) → c.wpIn Fence.wide 0 P Q { a with defers := { target := .collected D, args := #[] } :: a.defers } V) :
    (Code.rangeFunc g ps assign body).wpIn Fence.wide 0 P Q a w := by
  refine wpIn_rangeFunc fun fn hfn => ?_
  obtain ⟨B, hB⟩ : ∃ B, B = w.heap.size := ⟨_, rfl⟩
  rw [← hB] at hI hIx hbody hdone hstop
  obtain ⟨rec, hrec⟩ : ∃ rec : LoopState → Option Code → Loop, rec = fun st pe => { state := st, pending := pe, fn := fn, tmps := a.tmps, params := ps, assign := assign, body := body, defers := B } := ⟨_, rfl⟩
  obtain ⟨V1, hV1⟩ : ∃ V1, V1 = (w.alloc (.deferred (some []))).alloc (.loop (rec .ready none)) := ⟨_, rfl⟩
  have z1 : V1.heap.size = B + 2 := by rw [hV1, hB]; simp
  have r1 : V1.heap[B + 1]? = some (.loop (rec .ready none)) := by
    have := World.alloc_heap_new (w.alloc (.deferred (some []))) (.loop (rec .ready none))
    rw [hV1, hB]
    simpa using this
  have d1 : V1.heap[B]? = some (.deferred (some [])) := by
    rw [hV1, hB]
    exact (Below.heap_alloc _ _ _ (by simp)).trans (World.alloc_heap_new w _)
  have i1 : I 0 V1 := by
    refine hI 0 w V1 h0 (later_grow (by omega) ?_)
    rw [hV1]
    exact ((Below.refl _ _).alloc (Nat.le_refl _) _).alloc (by simp) _
  -- the record's turns
  have turn : ∀ (st st' : LoopState) (pe pe' : Option Code) (V : World), V.heap[B + 1]? = some (.loop (rec st pe)) → Later B V (V.putObj (B + 1) (.loop (rec st' pe'))) ∧ (V.putObj (B + 1) (.loop (rec st' pe'))).heap[B + 1]? = some (.loop (rec st' pe')) := fun st st' pe pe' V h =>
    ⟨later_put _ (by omega) h rfl, World.putObj_heap_same (heap_lt h)⟩
  refine ⟨B + 1, [{ target := .collected B, args := #[] }], V1, { target := .fn (.func gf) #[], args := first ++ #[.func (.yield (B + 1)) #[] #[]] }, V1, gf, first ++ #[.func (.yield (B + 1)) #[] #[]], V1, ?_, ?_, ?_, ?_, ?_, ?_⟩
  · rw [hV1, hrec, hB]
    exact run_enterLoop_outer _ _ _ _ _
  · simp only [resolve, hg]
    simp [go_sem]
  · intro f' _
    trivial
  · simp [invoke, go_sem, eg]
  · intro h; cases h
  · refine (hv (B + 1) (fun k V => I k V ∧ V.heap[B + 1]? = some (.loop (rec .ready none)) ∧ V.heap[B]? = some (.deferred (some [])) ∧ B + 2 ≤ V.heap.size)
      (fun V => ∃ c, Ix c V ∧ V.heap[B + 1]? = some (.loop (rec .done (some c))) ∧ V.heap[B]? = some (.deferred (some []))) V1 ?_ ?_ ?_ ⟨i1, r1, d1, by omega⟩).mono ?_
    · rintro k V V' ⟨hi, hr, hd, hz⟩ hb
      exact ⟨hI k V V' hi (later_grow (by omega) hb), (hb.block _ (heap_lt hr)).trans hr, (hb.block _ (heap_lt hd)).trans hd, Nat.le_trans hz hb.size⟩
    · rintro V V' ⟨c, hi, hr, hd⟩ hb
      exact ⟨c, hIx c V V' hi (later_grow (by have := heap_lt hr; omega) hb), (hb.block _ (heap_lt hr)).trans hr, (hb.block _ (heap_lt hd)).trans hd⟩
    · rintro k hk V ⟨hi, hr, hd, hz⟩
      have hy := run_yield (P := P) (args := encs k) hr (by rw [hrec]; exact hps k)
      rw [hrec] at hy
      obtain ⟨t1, t2⟩ := turn .ready .busy none none V hr
      have hbegin := run_beginRound (P := P) hr (by rw [hrec])
      have eb : { rec .ready none with state := .busy } = rec .busy none := by rw [hrec]
      rw [eb] at hbegin
      have d2 : (V.putObj (B + 1) (.loop (rec .busy none))).heap[B]? = some (.deferred (some [])) := (World.putObj_heap_other (by omega)).trans hd
      have s2 := put_size V (B + 1) (.loop (rec .busy none))
      have old2 : ∀ i, B + 2 ≤ i → (V.putObj (B + 1) (.loop (rec .busy none))).heap[i]? = V.heap[i]? := fun i h => World.putObj_heap_other (by omega)
      have hi2 := hI k _ _ hi t1
      refine ⟨fn, _, assign, body, hy, roundIn_of_wpIn hfn (hassign (B + 1) k V _ ⟨_, hbegin, ?_⟩)⟩
      generalize V.putObj (B + 1) (.loop (rec .busy none)) = V2 at *
      refine wpIn_mono (hbody (B + 1) k V2 hk (by omega) hi2) ?_
      have fin : ∀ (jump : Option Code) (V3 : World), Kept B V2 V3 →
          (Instr.endRound (B + 1) jump).run P V3 = .ok (.bool jump.isNone) (V3.putObj (B + 1) (.loop (rec (if jump.isNone then .ready else .done) jump))) ∧
          Later B V3 (V3.putObj (B + 1) (.loop (rec (if jump.isNone then .ready else .done) jump))) ∧
          (V3.putObj (B + 1) (.loop (rec (if jump.isNone then .ready else .done) jump))).heap[B + 1]? = some (.loop (rec (if jump.isNone then .ready else .done) jump)) ∧
          (V3.putObj (B + 1) (.loop (rec (if jump.isNone then .ready else .done) jump))).heap[B]? = some (.deferred (some [])) ∧
          Kept (B + 2) V (V3.putObj (B + 1) (.loop (rec (if jump.isNone then .ready else .done) jump))) := fun jump V3 hk3 => by
        have r3 : V3.heap[B + 1]? = some (.loop (rec .busy none)) := (hk3.2 (B + 1) (by omega) (heap_lt t2)).trans t2
        have d3 : V3.heap[B]? = some (.deferred (some [])) := (hk3.2 B (Nat.le_refl _) (heap_lt d2)).trans d2
        have he := run_endRound (P := P) jump r3
        have ee : { rec .busy none with state := if jump.isNone then .ready else .done, pending := jump } = rec (if jump.isNone then .ready else .done) jump := by rw [hrec]
        rw [ee] at he
        obtain ⟨u1, u2⟩ := turn .busy (if jump.isNone then .ready else .done) none jump V3 r3
        refine ⟨he, u1, u2, (World.putObj_heap_other (by omega)).trans d3, ?_, fun i h1 h2 => ?_⟩
        · rw [put_size]; have := hk3.1; omega
        · exact (World.putObj_heap_other (by omega)).trans ((hk3.2 i (by omega) (by omega)).trans (old2 i h1))
      rintro e a3 V3 hp
      cases e with
      | normal =>
        obtain ⟨hk3, hi3⟩ := hp
        obtain ⟨e1, e2, e3, e4, e5⟩ := fin none V3 hk3
        exact ⟨_, _, e1, .inl ⟨rfl, ⟨hI _ _ _ hi3 e2, e3, e4, by have := e5.1; omega⟩, by rw [z1]; exact e5⟩⟩
      | ret =>
        obtain ⟨hk3, hi3⟩ := hp
        obtain ⟨e1, e2, e3, e4, e5⟩ := fin (some .ret) V3 hk3
        exact ⟨_, _, e1, .inr ⟨rfl, _, hIx _ _ _ hi3 e2, e3, e4⟩⟩
      | exit id =>
        obtain ⟨hk3, hi3⟩ := hp
        obtain ⟨e1, e2, e3, e4, e5⟩ := fin (some (.exit id)) V3 hk3
        exact ⟨_, _, e1, .inr ⟨rfl, _, hIx _ _ _ hi3 e2, e3, e4⟩⟩
      | goto t =>
        obtain ⟨hk3, hi3⟩ := hp
        obtain ⟨e1, e2, e3, e4, e5⟩ := fin (some (.goto t)) V3 hk3
        exact ⟨_, _, e1, .inr ⟨rfl, _, hIx _ _ _ hi3 e2, e3, e4⟩⟩
      | panic ch => exact hp.elim
      | outgrown => exact hp.elim
    · rintro e V ⟨⟨v, rfl⟩, (⟨hi, hr, hd, hz⟩ | ⟨c, hi, hr, hd⟩)⟩
      · exact ⟨none, _, by have h := run_endLoop (P := P) hr (by rw [hrec]; simp); rw [hrec] at h; exact h, hdone B _ (Nat.le_refl _) (hI _ _ _ hi (later_put _ (by omega) hr rfl)) ((World.putObj_heap_other (by omega)).trans hd)⟩
      · exact ⟨some c, _, by have h := run_endLoop (P := P) hr (by rw [hrec]; simp); rw [hrec] at h; exact h, hstop B c _ (Nat.le_refl _) (hIx _ _ _ hi (later_put _ (by omega) hr rfl)) ((World.putObj_heap_other (by omega)).trans hd)⟩
/-- The same, where the assignment to the loop's variables may lay new blocks: J2 says what it has laid. -/
theorem range_boxed {P : Program} {g : Operand} {ps : Array Tmp} {assign body : Code} {Q : Exit → Act → World → Prop} {a : Act} {w : World} {gf : Nat} {first : Array Value} {encs : Nat → Array Value} {N : Nat}
    (hg : a.eval g = .func (.func gf) first #[]) (eg : ∀ args w, (callFunc gf args).run P w = .ok (.enter gf args) w) (hv : Visits P gf first encs N) (hps : ∀ k, (encs k).size = ps.size)
    (I : Nat → World → Prop) (Ix : Code → World → Prop) (hI : ∀ k V V', I k V → Later w.heap.size V V' → I k V') (hIx : ∀ c V V', Ix c V → Later w.heap.size V V' → Ix c V') (h0 : I 0 w) (J2 : Nat → Act → World → Prop) (hJ2 : ∀ k a' V V', J2 k a' V → Later w.heap.size V V' → J2 k a' V')
    (hassign : ∀ (l k : Nat) (V : World) (K : Act → World → Prop), k < N → w.heap.size + 2 ≤ V.heap.size → I k V → (∀ a' V', J2 k a' V' → Below V.heap.size V V' → K a' V') → assign.wpIn (Fence.wide.inRound l) 0 P (Exit.then K (fun _ _ _ => False)) { tmps := (ps.zip (encs k)).foldl (fun t (p, v) => t.setIfInBounds p v) a.tmps, defers := [] } V)
    (hbody : ∀ (l k : Nat) (a' : Act) (V : World), k < N → w.heap.size + 2 ≤ V.heap.size → w.heap.size ≤ l → (∃ r, V.heap[l]? = some (.loop r)) → I k V → J2 k a' V → body.wpIn (Fence.wide.inRound l) 0 P (bodyEnd w.heap.size I Ix k V) a' V)
    (hdone : ∀ (D : Nat) (V : World), w.heap.size ≤ D → I N V → V.heap[D]? = some (.deferred (some [])) → Q .normal { a with defers := { target := .collected D, args := #[] } :: a.defers } V)
    (hstop : ∀ (D : Nat) (c : Code) (V : World), w.heap.size ≤ D → Ix c V → V.heap[D]? = some (.deferred (some [])) → c.wpIn Fence.wide 0 P Q { a with defers := { target := .collected D, args := #[] } :: a.defers } V) :
    (Code.rangeFunc g ps assign body).wpIn Fence.wide 0 P Q a w := by
  refine wpIn_rangeFunc fun fn hfn => ?_
  obtain ⟨B, hB⟩ : ∃ B, B = w.heap.size := ⟨_, rfl⟩
  rw [← hB] at hI hIx hJ2 hassign hbody hdone hstop
  obtain ⟨rec, hrec⟩ : ∃ rec : LoopState → Option Code → Loop, rec = fun st pe => { state := st, pending := pe, fn := fn, tmps := a.tmps, params := ps, assign := assign, body := body, defers := B } := ⟨_, rfl⟩
  obtain ⟨V1, hV1⟩ : ∃ V1, V1 = (w.alloc (.deferred (some []))).alloc (.loop (rec .ready none)) := ⟨_, rfl⟩
  have z1 : V1.heap.size = B + 2 := by rw [hV1, hB]; simp
  have r1 : V1.heap[B + 1]? = some (.loop (rec .ready none)) := by
    have := World.alloc_heap_new (w.alloc (.deferred (some []))) (.loop (rec .ready none))
    rw [hV1, hB]
    simpa using this
  have d1 : V1.heap[B]? = some (.deferred (some [])) := by
    rw [hV1, hB]
    exact (Below.heap_alloc _ _ _ (by simp)).trans (World.alloc_heap_new w _)
  have i1 : I 0 V1 := by
    refine hI 0 w V1 h0 (later_grow (by omega) ?_)
    rw [hV1]
    exact ((Below.refl _ _).alloc (Nat.le_refl _) _).alloc (by simp) _
  -- the record's turns
  have turn : ∀ (st st' : LoopState) (pe pe' : Option Code) (V : World), V.heap[B + 1]? = some (.loop (rec st pe)) → Later B V (V.putObj (B + 1) (.loop (rec st' pe'))) ∧ (V.putObj (B + 1) (.loop (rec st' pe'))).heap[B + 1]? = some (.loop (rec st' pe')) := fun st st' pe pe' V h =>
    ⟨later_put _ (by omega) h rfl, World.putObj_heap_same (heap_lt h)⟩
  refine ⟨B + 1, [{ target := .collected B, args := #[] }], V1, { target := .fn (.func gf) #[], args := first ++ #[.func (.yield (B + 1)) #[] #[]] }, V1, gf, first ++ #[.func (.yield (B + 1)) #[] #[]], V1, ?_, ?_, ?_, ?_, ?_, ?_⟩
  · rw [hV1, hrec, hB]
    exact run_enterLoop_outer _ _ _ _ _
  · simp only [resolve, hg]
    simp [go_sem]
  · intro f' _
    trivial
  · simp [invoke, go_sem, eg]
  · intro h; cases h
  · refine (hv (B + 1) (fun k V => I k V ∧ V.heap[B + 1]? = some (.loop (rec .ready none)) ∧ V.heap[B]? = some (.deferred (some [])) ∧ B + 2 ≤ V.heap.size)
      (fun V => ∃ c, Ix c V ∧ V.heap[B + 1]? = some (.loop (rec .done (some c))) ∧ V.heap[B]? = some (.deferred (some []))) V1 ?_ ?_ ?_ ⟨i1, r1, d1, by omega⟩).mono ?_
    · rintro k V V' ⟨hi, hr, hd, hz⟩ hb
      exact ⟨hI k V V' hi (later_grow (by omega) hb), (hb.block _ (heap_lt hr)).trans hr, (hb.block _ (heap_lt hd)).trans hd, Nat.le_trans hz hb.size⟩
    · rintro V V' ⟨c, hi, hr, hd⟩ hb
      exact ⟨c, hIx c V V' hi (later_grow (by have := heap_lt hr; omega) hb), (hb.block _ (heap_lt hr)).trans hr, (hb.block _ (heap_lt hd)).trans hd⟩
    · rintro k hk V ⟨hi, hr, hd, hz⟩
      have hy := run_yield (P := P) (args := encs k) hr (by rw [hrec]; exact hps k)
      rw [hrec] at hy
      refine ⟨fn, _, assign, body, hy, roundIn_of_wpIn hfn (hassign (B + 1) k V _ hk hz hi ?_)⟩
      intro a' V0 hj0 hb0
      have hi0 := hI k V V0 hi (later_grow (by omega) hb0)
      have hr0 := (hb0.block _ (heap_lt hr)).trans hr
      have hd0 := (hb0.block _ (heap_lt hd)).trans hd
      have hz0 : B + 2 ≤ V0.heap.size := Nat.le_trans hz hb0.size
      obtain ⟨t1, t2⟩ := turn .ready .busy none none V0 hr0
      have hbegin := run_beginRound (P := P) hr0 (by rw [hrec])
      have eb : { rec .ready none with state := .busy } = rec .busy none := by rw [hrec]
      rw [eb] at hbegin
      have d2 : (V0.putObj (B + 1) (.loop (rec .busy none))).heap[B]? = some (.deferred (some [])) := (World.putObj_heap_other (by omega)).trans hd0
      have s2 := put_size V0 (B + 1) (.loop (rec .busy none))
      have old2 : ∀ i, B + 2 ≤ i → i < V.heap.size → (V0.putObj (B + 1) (.loop (rec .busy none))).heap[i]? = V.heap[i]? := fun i h h' => (World.putObj_heap_other (by omega)).trans (hb0.block i h')
      have hi2 := hI k _ _ hi0 t1
      have hj2 := hJ2 k a' _ _ hj0 t1
      have hs0 := hb0.size
      refine ⟨_, hbegin, ?_⟩
      generalize V0.putObj (B + 1) (.loop (rec .busy none)) = V2 at *
      refine wpIn_mono (hbody (B + 1) k a' V2 hk (by omega) (by omega) ⟨_, t2⟩ hi2 hj2) ?_
      have fin : ∀ (jump : Option Code) (V3 : World), Kept B V2 V3 →
          (Instr.endRound (B + 1) jump).run P V3 = .ok (.bool jump.isNone) (V3.putObj (B + 1) (.loop (rec (if jump.isNone then .ready else .done) jump))) ∧
          Later B V3 (V3.putObj (B + 1) (.loop (rec (if jump.isNone then .ready else .done) jump))) ∧
          (V3.putObj (B + 1) (.loop (rec (if jump.isNone then .ready else .done) jump))).heap[B + 1]? = some (.loop (rec (if jump.isNone then .ready else .done) jump)) ∧
          (V3.putObj (B + 1) (.loop (rec (if jump.isNone then .ready else .done) jump))).heap[B]? = some (.deferred (some [])) ∧
          Kept (B + 2) V (V3.putObj (B + 1) (.loop (rec (if jump.isNone then .ready else .done) jump))) := fun jump V3 hk3 => by
        have r3 : V3.heap[B + 1]? = some (.loop (rec .busy none)) := (hk3.2 (B + 1) (by omega) (heap_lt t2)).trans t2
        have d3 : V3.heap[B]? = some (.deferred (some [])) := (hk3.2 B (Nat.le_refl _) (heap_lt d2)).trans d2
        have he := run_endRound (P := P) jump r3
        have ee : { rec .busy none with state := if jump.isNone then .ready else .done, pending := jump } = rec (if jump.isNone then .ready else .done) jump := by rw [hrec]
        rw [ee] at he
        obtain ⟨u1, u2⟩ := turn .busy (if jump.isNone then .ready else .done) none jump V3 r3
        refine ⟨he, u1, u2, (World.putObj_heap_other (by omega)).trans d3, ?_, fun i h1 h2 => ?_⟩
        · rw [put_size]; have := hk3.1; omega
        · exact (World.putObj_heap_other (by omega)).trans ((hk3.2 i (by omega) (by omega)).trans (old2 i h1 h2))
      rintro e a3 V3 hp
      cases e with
      | normal =>
        obtain ⟨hk3, hi3⟩ := hp
        obtain ⟨e1, e2, e3, e4, e5⟩ := fin none V3 hk3
        exact ⟨_, _, e1, .inl ⟨rfl, ⟨hI _ _ _ hi3 e2, e3, e4, by have := e5.1; omega⟩, by rw [z1]; exact e5⟩⟩
      | ret =>
        obtain ⟨hk3, hi3⟩ := hp
        obtain ⟨e1, e2, e3, e4, e5⟩ := fin (some .ret) V3 hk3
        exact ⟨_, _, e1, .inr ⟨rfl, _, hIx _ _ _ hi3 e2, e3, e4⟩⟩
      | exit id =>
        obtain ⟨hk3, hi3⟩ := hp
        obtain ⟨e1, e2, e3, e4, e5⟩ := fin (some (.exit id)) V3 hk3
        exact ⟨_, _, e1, .inr ⟨rfl, _, hIx _ _ _ hi3 e2, e3, e4⟩⟩
      | goto t =>
        obtain ⟨hk3, hi3⟩ := hp
        obtain ⟨e1, e2, e3, e4, e5⟩ := fin (some (.goto t)) V3 hk3
        exact ⟨_, _, e1, .inr ⟨rfl, _, hIx _ _ _ hi3 e2, e3, e4⟩⟩
      | panic ch => exact hp.elim
      | outgrown => exact hp.elim
    · rintro e V ⟨⟨v, rfl⟩, (⟨hi, hr, hd, hz⟩ | ⟨c, hi, hr, hd⟩)⟩
      · exact ⟨none, _, by have h := run_endLoop (P := P) hr (by rw [hrec]; simp); rw [hrec] at h; exact h, hdone B _ (Nat.le_refl _) (hI _ _ _ hi (later_put _ (by omega) hr rfl)) ((World.putObj_heap_other (by omega)).trans hd)⟩
      · exact ⟨some c, _, by have h := run_endLoop (P := P) hr (by rw [hrec]; simp); rw [hrec] at h; exact h, hstop B c _ (Nat.le_refl _) (hIx _ _ _ hi (later_put _ (by omega) hr rfl)) ((World.putObj_heap_other (by omega)).trans hd)⟩
/-- The same, within the round of another loop. -/
theorem range_within {P : Program} {g : Operand} {ps : Array Tmp} {assign body : Code} {Q : Exit → Act → World → Prop} {a : Act} {w : World} {gf : Nat} {first : Array Value} {encs : Nat → Array Value} {N : Nat}
    {l₀ : Nat} {r₀ : Loop} (hl₀ : w.heap[l₀]? = some (.loop r₀)) (hg : a.eval g = .func (.func gf) first #[]) (eg : ∀ args w, (callFunc gf args).run P w = .ok (.enter gf args) w) (hv : Visits P gf first encs N) (hps : ∀ k, (encs k).size = ps.size)
    (I : Nat → World → Prop) (Ix : Code → World → Prop) (hI : ∀ k V V', I k V → Later w.heap.size V V' → I k V') (hIx : ∀ c V V', Ix c V → Later w.heap.size V V' → Ix c V') (h0 : I 0 w) (J2 : Nat → Act → World → Prop) (hJ2 : ∀ k a' V V', J2 k a' V → Later w.heap.size V V' → J2 k a' V')
    (hassign : ∀ (l k : Nat) (V : World) (K : Act → World → Prop), k < N → w.heap.size + 1 ≤ V.heap.size → I k V → (∀ a' V', J2 k a' V' → Below V.heap.size V V' → K a' V') → assign.wpIn (Fence.wide.inRound l) 0 P (Exit.then K (fun _ _ _ => False)) { tmps := (ps.zip (encs k)).foldl (fun t (p, v) => t.setIfInBounds p v) a.tmps, defers := [] } V)
    (hbody : ∀ (l k : Nat) (a' : Act) (V : World), k < N → w.heap.size + 1 ≤ V.heap.size → w.heap.size ≤ l → (∃ r, V.heap[l]? = some (.loop r)) → I k V → J2 k a' V → body.wpIn (Fence.wide.inRound l) 0 P (bodyEnd w.heap.size I Ix k V) a' V)
    (hdone : ∀ V, I N V → Q .normal a V) (hstop : ∀ (c : Code) (V : World), Ix c V → c.wpIn (Fence.wide.inRound l₀) 0 P Q a V) :
    (Code.rangeFunc g ps assign body).wpIn (Fence.wide.inRound l₀) 0 P Q a w := by
  refine wpIn_rangeFunc fun fn hfn => ?_
  obtain ⟨B, hB⟩ : ∃ B, B = w.heap.size := ⟨_, rfl⟩
  rw [← hB] at hI hIx hJ2 hassign hbody
  obtain ⟨rec, hrec⟩ : ∃ rec : LoopState → Option Code → Loop, rec = fun st pe => { state := st, pending := pe, fn := fn, tmps := a.tmps, params := ps, assign := assign, body := body, defers := r₀.defers } := ⟨_, rfl⟩
  obtain ⟨V1, hV1⟩ : ∃ V1, V1 = w.alloc (.loop (rec .ready none)) := ⟨_, rfl⟩
  have z1 : V1.heap.size = B + 1 := by rw [hV1, hB]; simp
  have r1 : V1.heap[B]? = some (.loop (rec .ready none)) := by
    rw [hV1, hB]
    exact World.alloc_heap_new w _
  have i1 : I 0 V1 := by
    refine hI 0 w V1 h0 (later_grow (by omega) ?_)
    rw [hV1]
    exact (Below.refl _ _).alloc (Nat.le_refl _) _
  -- the record's turns
  have turn : ∀ (st st' : LoopState) (pe pe' : Option Code) (V : World), V.heap[B]? = some (.loop (rec st pe)) → Later B V (V.putObj (B) (.loop (rec st' pe'))) ∧ (V.putObj (B) (.loop (rec st' pe'))).heap[B]? = some (.loop (rec st' pe')) := fun st st' pe pe' V h =>
    ⟨later_put _ (by omega) h rfl, World.putObj_heap_same (heap_lt h)⟩
  refine ⟨B, [], V1, { target := .fn (.func gf) #[], args := first ++ #[.func (.yield (B)) #[] #[]] }, V1, gf, first ++ #[.func (.yield (B)) #[] #[]], V1, ?_, ?_, ?_, ?_, ?_, ?_⟩
  · rw [hV1, hrec, hB]
    exact run_enterLoop_inner hl₀ _ _ _ _ _
  · simp only [resolve, hg]
    simp [go_sem]
  · intro f' _
    trivial
  · simp [invoke, go_sem, eg]
  · intro h; cases h
  · refine (CallsIn.inRound l₀ (hv (B) (fun k V => I k V ∧ V.heap[B]? = some (.loop (rec .ready none)) ∧ B + 1 ≤ V.heap.size)
      (fun V => ∃ c, Ix c V ∧ V.heap[B]? = some (.loop (rec .done (some c))) ) V1 ?_ ?_ ?_ ⟨i1, r1, by omega⟩)).mono ?_
    · rintro k V V' ⟨hi, hr, hz⟩ hb
      exact ⟨hI k V V' hi (later_grow (by omega) hb), (hb.block _ (heap_lt hr)).trans hr, Nat.le_trans hz hb.size⟩
    · rintro V V' ⟨c, hi, hr⟩ hb
      exact ⟨c, hIx c V V' hi (later_grow (by have := heap_lt hr; omega) hb), (hb.block _ (heap_lt hr)).trans hr⟩
    · rintro k hk V ⟨hi, hr, hz⟩
      have hy := run_yield (P := P) (args := encs k) hr (by rw [hrec]; exact hps k)
      rw [hrec] at hy
      refine ⟨fn, _, assign, body, hy, roundIn_of_wpIn hfn (hassign (B) k V _ hk hz hi ?_)⟩
      intro a' V0 hj0 hb0
      have hi0 := hI k V V0 hi (later_grow (by omega) hb0)
      have hr0 := (hb0.block _ (heap_lt hr)).trans hr
      have hz0 : B + 1 ≤ V0.heap.size := Nat.le_trans hz hb0.size
      obtain ⟨t1, t2⟩ := turn .ready .busy none none V0 hr0
      have hbegin := run_beginRound (P := P) hr0 (by rw [hrec])
      have eb : { rec .ready none with state := .busy } = rec .busy none := by rw [hrec]
      rw [eb] at hbegin
      have s2 := put_size V0 (B) (.loop (rec .busy none))
      have old2 : ∀ i, B + 1 ≤ i → i < V.heap.size → (V0.putObj (B) (.loop (rec .busy none))).heap[i]? = V.heap[i]? := fun i h h' => (World.putObj_heap_other (by omega)).trans (hb0.block i h')
      have hi2 := hI k _ _ hi0 t1
      have hj2 := hJ2 k a' _ _ hj0 t1
      have hs0 := hb0.size
      refine ⟨_, hbegin, ?_⟩
      generalize V0.putObj (B) (.loop (rec .busy none)) = V2 at *
      refine wpIn_mono (hbody (B) k a' V2 hk (by omega) (Nat.le_refl _) ⟨_, t2⟩ hi2 hj2) ?_
      have fin : ∀ (jump : Option Code) (V3 : World), Kept B V2 V3 →
          (Instr.endRound (B) jump).run P V3 = .ok (.bool jump.isNone) (V3.putObj (B) (.loop (rec (if jump.isNone then .ready else .done) jump))) ∧
          Later B V3 (V3.putObj (B) (.loop (rec (if jump.isNone then .ready else .done) jump))) ∧
          (V3.putObj (B) (.loop (rec (if jump.isNone then .ready else .done) jump))).heap[B]? = some (.loop (rec (if jump.isNone then .ready else .done) jump)) ∧
          Kept (B + 1) V (V3.putObj (B) (.loop (rec (if jump.isNone then .ready else .done) jump))) := fun jump V3 hk3 => by
        have r3 : V3.heap[B]? = some (.loop (rec .busy none)) := (hk3.2 (B) (by omega) (heap_lt t2)).trans t2
        have he := run_endRound (P := P) jump r3
        have ee : { rec .busy none with state := if jump.isNone then .ready else .done, pending := jump } = rec (if jump.isNone then .ready else .done) jump := by rw [hrec]
        rw [ee] at he
        obtain ⟨u1, u2⟩ := turn .busy (if jump.isNone then .ready else .done) none jump V3 r3
        refine ⟨he, u1, u2, ?_, fun i h1 h2 => ?_⟩
        · rw [put_size]; have := hk3.1; omega
        · exact (World.putObj_heap_other (by omega)).trans ((hk3.2 i (by omega) (by omega)).trans (old2 i h1 h2))
      rintro e a3 V3 hp
      cases e with
      | normal =>
        obtain ⟨hk3, hi3⟩ := hp
        obtain ⟨e1, e2, e3, e5⟩ := fin none V3 hk3
        exact ⟨_, _, e1, .inl ⟨rfl, ⟨hI _ _ _ hi3 e2, e3, by have := e5.1; omega⟩, by rw [z1]; exact e5⟩⟩
      | ret =>
        obtain ⟨hk3, hi3⟩ := hp
        obtain ⟨e1, e2, e3, e5⟩ := fin (some .ret) V3 hk3
        exact ⟨_, _, e1, .inr ⟨rfl, _, hIx _ _ _ hi3 e2, e3⟩⟩
      | exit id =>
        obtain ⟨hk3, hi3⟩ := hp
        obtain ⟨e1, e2, e3, e5⟩ := fin (some (.exit id)) V3 hk3
        exact ⟨_, _, e1, .inr ⟨rfl, _, hIx _ _ _ hi3 e2, e3⟩⟩
      | goto t =>
        obtain ⟨hk3, hi3⟩ := hp
        obtain ⟨e1, e2, e3, e5⟩ := fin (some (.goto t)) V3 hk3
        exact ⟨_, _, e1, .inr ⟨rfl, _, hIx _ _ _ hi3 e2, e3⟩⟩
      | panic ch => exact hp.elim
      | outgrown => exact hp.elim
    · rintro e V ⟨⟨v, rfl⟩, (⟨hi, hr, hz⟩ | ⟨c, hi, hr⟩)⟩
      · exact ⟨none, _, by have h := run_endLoop (P := P) hr (by rw [hrec]; simp); rw [hrec] at h; exact h, hdone _ (hI _ _ _ hi (later_put _ (by omega) hr rfl))⟩
      · exact ⟨some c, _, by have h := run_endLoop (P := P) hr (by rw [hrec]; simp); rw [hrec] at h; exact h, hstop c _ (hIx _ _ _ hi (later_put _ (by omega) hr rfl))⟩
end Go.Proofs.YtknaghdoffigjaaGreatDoor
