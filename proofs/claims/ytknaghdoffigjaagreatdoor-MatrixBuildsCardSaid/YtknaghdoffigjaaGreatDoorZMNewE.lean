/-
  The contract of matrix.newEstimate. Iterators that need a condition on the world, and a range over them.
-/
import Derived.Test.YtknaghdoffigjaaGreatDoorMRefine
import Derived.Test.YtknaghdoffigjaaGreatDoorMRange
import Derived.Shelf.Spec.TrailingZeros
set_option linter.unusedSimpArgs false
set_option linter.unusedVariables false
set_option linter.unnecessarySimpa false
namespace Go.Proofs.YtknaghdoffigjaaGreatDoor
open Go.RowKit Go

theorem enc_zeros (n : Nat) : enc (List.replicate n 0) = List.replicate n (false, ⟨#[]⟩) := by
  unfold enc
  rw [List.map_replicate]
  rfl
/-- An estimate as a value. -/
def estV (M : Int) (A : Option Addr) (n cap : Nat) : Value := .agg #[.bool (wneg M), .string (wmag M), .slice A n cap]
theorem post_estimate {fn : Func} {R : Ending → World → Prop} {a : Act} {w : World} {p : Tmp} {b : Nat} {x : Bool} {s : ByteArray} {A : Option Addr} {n cap : Nat} (h : fn.results = #[.cell p 77])
    (ht : a.tmps.getD p undef = .pointer (some ⟨b, 0, none⟩)) (hw : w.heap[b]? = some (.cells #[.bool x, .string s, .slice A n cap] 77 (0, 0))) (hd : a.defers = []) (hR : R (.returned (.agg #[.bool x, .string s, .slice A n cap])) w) : bodyPost Tryz.prog fn R .ret a w := by
  refine bodyPost_ret (v := .agg #[.bool x, .string s, .slice A n cap]) ?_ hd hR
  have c0 := cell_of_row w b 0 _ _ _ hw
  have c1 := cell_of_row w b 1 _ _ _ hw
  have c2 := cell_of_row w b 2 _ _ _ hw
  have : (loadVar 77 ⟨b, 0, none⟩).run Tryz.prog w = .ok (.agg #[.bool x, .string s, .slice A n cap]) w := by
    simp at c0 c1 c2
    simp [loadVar, go_sem, c0, c1, c2]
  rw [Array.getD_eq_getD_getElem?] at ht
  simp only [results, h]
  simp [Sem.run_bind, Result.andThen, ht, asAddr, this]
set_option maxRecDepth 100000 in
set_option maxHeartbeats 4000000 in
theorem newEstimate_any (n : Nat) (w : World) (hn2 : n ≤ 40000) :
    Calls Tryz.prog 66 #[.int .i64 (n : Int)] w fun e w' =>
      ∃ g, e = .returned (estV 1 (some ⟨g, 0, none⟩) n n) ∧ w.heap.size ≤ g ∧ Lw w' g (enc (List.replicate n 0)) ∧ Below w.heap.size w w' := by
  unfold estV
  have hmk := make_wides n hn2
  rw [enc_zeros]
  have hf1 := fun W => From_any 1 W (by omega) (by omega)
  rw [wv_def] at hf1
  have HF := Lib.hid hf1
  clear hf1
  have hK1 := (Kg.none_ none w 1).new 0 (.cells #[.bool false, .string ⟨#[]⟩, .slice none 0 0] 77 (0, 0)) rfl
  have HK1 := Lib.hid (hK1.cast (l' := [some (w.heap.size, .cells #[.bool false, .string ⟨#[]⟩, .slice none 0 0] 77 (0, 0))]) (by simp))
  clear hK1
  generalize wneg 1 = x1 at *
  generalize wmag 1 = s1 at *
  go_enter Tryz.func66, Tryz.ntmps66
  go_wp2_with fail
  generalize w.alloc (.cells #[.bool false, .string ⟨#[]⟩, .slice none 0 0] 77 (0, 0)) = W1 at *
  refine wp_region_facts (X := Nat) (fun x => [(0, 3, .agg #[.bool x1, .string s1]), (1, 4, .int .i64 (n : Int)), (2, 5, .slice (some ⟨x, 0, none⟩) n n), (3, 6, .agg #[.bool x1, .string s1, .slice (some ⟨x, 0, none⟩) n n])])
    (fun x L W => Kg none w W [some (w.heap.size, (if L 4 = true then .cells #[.bool x1, .string s1, .slice (some ⟨x, 0, none⟩) n n] 77 (0, 0) else .cells #[.bool false, .string ⟨#[]⟩, .slice none 0 0] 77 (0, 0)))] ∧ (L 2 = true → w.heap.size ≤ x ∧ w.heap.size ≠ x ∧ Lw W x (List.replicate n (false, ⟨#[]⟩)))) (by kernel_rfl) (by kernel_rfl) 0 (by refine ⟨HK1.out.drew, fun h => ?_⟩; simp at h) (by kernel_rfl) ?_ ?_
  · repeat' (first | exact FactSteps.nil | refine FactSteps.cons ?_ ?_)
    all_goals
      intro L x wx hJ hl hd hs K hK
      (try simp [Region.binds] at hd)
      simp only [selA, selT_cons, selT_nil, List.set_cons_zero, List.set_cons_succ, List.getD_cons_zero, List.getD_cons_succ, hd, hl, selV_true, selV_false]
    · go_simp
      with_reducible refine (HF.out _).mono ?_
      rintro e v ⟨rfl, hb⟩
      refine hK.out x _ _ ?_ ?_
      · simp [selA, selT_cons, selT_nil, hl, hd, selV_true, selV_false]
      · exact ⟨by simpa using hJ.1.step hb, fun h => ⟨(hJ.2 (by simpa using h)).1, (hJ.2 (by simpa using h)).2.1, (hJ.2 (by simpa using h)).2.2.step hb⟩⟩
    · go_simp
      refine hK.out x _ _ ?_ ?_
      · simp [selA, selT_cons, selT_nil, hl, hd, selV_true, selV_false]
      · simpa [hl] using hJ
    · have hm := hmk wx
      have hn := hs 4 _ rfl (by simp [Region.binds])
      have hB := hJ.1
      simp only [hn, Bool.false_eq_true, if_false] at hB
      go_simp
      refine hK.out wx.heap.size _ _ ?_ ?_
      · simp [selA, selT_cons, selT_nil, hl, hd, hn, hs 3 _ rfl (by simp [Region.binds]), selV_true, selV_false]
      · exact ⟨by simpa [hn] using hB.alloc _, fun _ => ⟨hB.1.size, Nat.ne_of_lt (hB.lt 0 rfl), Lw.new wx _⟩⟩
    · go_simp
      refine hK.out x _ _ ?_ ?_
      · simp [selA, selT_cons, selT_nil, hl, hd, selV_true, selV_false]
      · simpa [hl] using hJ
    · obtain ⟨hx, hx2, hLx⟩ := hJ.2 (by simp [hd])
      have hB := hJ.1
      simp only [hl, Bool.false_eq_true, if_false] at hB
      have d0 := hB.cell 0 0 rfl rfl
      have d1 := hB.cell 0 1 rfl rfl
      have d2 := hB.cell 0 2 rfl rfl
      have f0 := hB.frozen 0 0 rfl
      have f1 := hB.frozen 0 1 rfl
      have f2 := hB.frozen 0 2 rfl
      go_simp
      refine hK.out x _ _ ?_ ?_
      · simp [selA, selT_cons, selT_nil, hl, hd, selV_true, selV_false]
      · refine ⟨((hB.put 0 0 rfl _).put 0 1 rfl _).put 0 2 rfl _, fun _ => ⟨hx, hx2, (Below.heap_setCell _ _ _ _ (by simp only []; omega)).trans ((Below.heap_setCell _ _ _ _ (by simp only []; omega)).trans ((Below.heap_setCell _ _ _ _ (by simp only []; omega)).trans hLx))⟩⟩
  · rintro g W2 ⟨hK2, hL2⟩
    simp only [selA, selT_cons, selT_nil, List.set_cons_zero, List.set_cons_succ, List.getD_cons_zero, List.getD_cons_succ, selV_true]
    simp only [if_true] at hK2
    go_wp2_with fail
    obtain ⟨hg, hg2, hLg⟩ := hL2 trivial
    exact post_estimate (b := w.heap.size) rfl rfl (hK2.at_ 0 rfl) rfl ⟨g, rfl, hg, hLg, ⟨hK2.1.os, hK2.1.tape, hK2.1.output, hK2.1.size, fun i hi => hK2.1.block i hi (by simp)⟩⟩
end Go.Proofs.YtknaghdoffigjaaGreatDoor
namespace Go.Proofs.YtknaghdoffigjaaGreatDoor
open Go.RowKit Go
attribute [local go_sem] Oper.semAt_some

/-- Like Visits, where every round may use T. -/
def VisitsIf (T : World → Prop) (P : Program) (gf : Nat) (first : Array Value) (encs : Nat → Array Value) (N : Nat) : Prop :=
  ∀ (l : Nat) (J : Nat → World → Prop) (Jx : World → Prop) (W : World),
    (∀ k V V', J k V → Below V.heap.size V V' → J k V') → (∀ V V', Jx V → Below V.heap.size V V' → Jx V') →
    (∀ k V, J k V → T V) →
    (∀ k, k < N → ∀ V, J k V → YieldAt Fence.wide 0 P l (encs k) V fun e V' => (e = .returned (.bool true) ∧ J (k + 1) V' ∧ Kept W.heap.size V V') ∨ (e = .returned (.bool false) ∧ Jx V')) →
    J 0 W → CallsIn Fence.wide 0 P gf (first ++ #[.func (.yield l) #[] #[]]) W fun e V => (∃ v, e = .returned v) ∧ (J N V ∨ Jx V)
theorem range_boxedIf {T : World → Prop} {P : Program} {g : Operand} {ps : Array Tmp} {assign body : Code} {Q : Exit → Act → World → Prop} {a : Act} {w : World} {gf : Nat} {first : Array Value} {encs : Nat → Array Value} {N : Nat}
    (hg : a.eval g = .func (.func gf) first #[]) (eg : ∀ args w, (callFunc gf args).run P w = .ok (.enter gf args) w) (hv : VisitsIf T P gf first encs N) (hps : ∀ k, (encs k).size = ps.size)
    (I : Nat → World → Prop) (Ix : Code → World → Prop) (hI : ∀ k V V', I k V → Later w.heap.size V V' → I k V') (hIx : ∀ c V V', Ix c V → Later w.heap.size V V' → Ix c V') (hT : ∀ k V, I k V → T V) (h0 : I 0 w) (J2 : Nat → Act → World → Prop) (hJ2 : ∀ k a' V V', J2 k a' V → Later w.heap.size V V' → J2 k a' V')
    (hassign : ∀ (l k : Nat) (V : World) (K : Act → World → Prop), k < N → w.heap.size + 2 ≤ V.heap.size → I k V → (∀ a' V', J2 k a' V' → Below V.heap.size V V' → K a' V') → assign.wpIn (Fence.wide.inRound l) 0 P (Exit.then K (fun _ _ _ => False)) { tmps := (ps.zip (encs k)).foldl (fun t (p, v) => t.setIfInBounds p v) a.tmps, defers := [] } V)
    (hbody : ∀ (l k : Nat) (a' : Act) (V : World), k < N → w.heap.size + 2 ≤ V.heap.size → w.heap.size ≤ l → (∃ r, V.heap[l]? = some (.loop r)) → I k V → J2 k a' V → body.wpIn (Fence.wide.inRound l) 0 P (bodyEnd w.heap.size I Ix k V) a' V)
    (hdone : ∀ (D : Nat) (V : World), w.heap.size ≤ D → I N V → V.heap[D]? = some (.deferred (some [])) → Q .normal { a with defers := { target := .collected D, args := #[] } :: a.defers } V)
    (hstop : ∀ (D : Nat) (c : Code) (V : World), w.heap.size ≤ D → Ix c V → V.heap[D]? = some (.deferred (some [])) → c.wpIn Fence.wide 0 P Q { a with defers := { target := .collected D, args := #[] } :: a.defers } V) :
    (Code.rangeFunc g ps assign body).wpIn Fence.wide 0 P Q a w := by
  refine wpIn_rangeFunc fun fn hfn => ?_
  obtain ⟨B, hB⟩ : ∃ B, B = w.heap.size := ⟨_, rfl⟩
  rw [← hB] at hI hIx hJ2 hassign hbody hdone hstop
  obtain ⟨rec, hrec⟩ : ∃ rec : LoopState → Option Code → Loop, rec = fun st pe => { state := st, pending := pe, fn := fn, tmps := a.tmps, params := ps, assign := assign, body := body, defers := B } := ⟨_, rfl⟩
  obtain ⟨V1, hV1⟩ : ∃ V1, V1 = (w.alloc (.deferred (some []))).alloc (.loop (rec .ready none)) := ⟨_, rfl⟩
  have z1 : V1.heap.size = B + 2 := by rw [hV1, hB]; simp
  have r1 : V1.heap[B + 1]? = some (.loop (rec .ready none)) := by
    have := World.alloc_heap_new (w.alloc (.deferred (some []))) (.loop (rec .ready none))
    rw [hV1, hB]
    simpa using this
  have d1 : V1.heap[B]? = some (.deferred (some [])) := by
    rw [hV1, hB]
    exact (Below.heap_alloc _ _ _ (by simp)).trans (World.alloc_heap_new w _)
  have i1 : I 0 V1 := by
    refine hI 0 w V1 h0 (later_grow (by omega) ?_)
    rw [hV1]
    exact ((Below.refl _ _).alloc (Nat.le_refl _) _).alloc (by simp) _
  -- the record's turns
  have turn : ∀ (st st' : LoopState) (pe pe' : Option Code) (V : World), V.heap[B + 1]? = some (.loop (rec st pe)) → Later B V (V.putObj (B + 1) (.loop (rec st' pe'))) ∧ (V.putObj (B + 1) (.loop (rec st' pe'))).heap[B + 1]? = some (.loop (rec st' pe')) := fun st st' pe pe' V h =>
    ⟨later_put _ (by omega) h rfl, World.putObj_heap_same (heap_lt h)⟩
  refine ⟨B + 1, [{ target := .collected B, args := #[] }], V1, { target := .fn (.func gf) #[], args := first ++ #[.func (.yield (B + 1)) #[] #[]] }, V1, gf, first ++ #[.func (.yield (B + 1)) #[] #[]], V1, ?_, ?_, ?_, ?_, ?_, ?_⟩
  · rw [hV1, hrec, hB]
    exact run_enterLoop_outer _ _ _ _ _
  · simp only [resolve, hg]
    simp [go_sem]
  · intro f' _
    trivial
  · simp [invoke, go_sem, eg]
  · intro h; cases h
  · refine (hv (B + 1) (fun k V => I k V ∧ V.heap[B + 1]? = some (.loop (rec .ready none)) ∧ V.heap[B]? = some (.deferred (some [])) ∧ B + 2 ≤ V.heap.size)
      (fun V => ∃ c, Ix c V ∧ V.heap[B + 1]? = some (.loop (rec .done (some c))) ∧ V.heap[B]? = some (.deferred (some []))) V1 ?_ ?_ (fun k V h => hT k V h.1) ?_ ⟨i1, r1, d1, by omega⟩).mono ?_
    · rintro k V V' ⟨hi, hr, hd, hz⟩ hb
      exact ⟨hI k V V' hi (later_grow (by omega) hb), (hb.block _ (heap_lt hr)).trans hr, (hb.block _ (heap_lt hd)).trans hd, Nat.le_trans hz hb.size⟩
    · rintro V V' ⟨c, hi, hr, hd⟩ hb
      exact ⟨c, hIx c V V' hi (later_grow (by have := heap_lt hr; omega) hb), (hb.block _ (heap_lt hr)).trans hr, (hb.block _ (heap_lt hd)).trans hd⟩
    · rintro k hk V ⟨hi, hr, hd, hz⟩
      have hy := run_yield (P := P) (args := encs k) hr (by rw [hrec]; exact hps k)
      rw [hrec] at hy
      refine ⟨fn, _, assign, body, hy, roundIn_of_wpIn hfn (hassign (B + 1) k V _ hk hz hi ?_)⟩
      intro a' V0 hj0 hb0
      have hi0 := hI k V V0 hi (later_grow (by omega) hb0)
      have hr0 := (hb0.block _ (heap_lt hr)).trans hr
      have hd0 := (hb0.block _ (heap_lt hd)).trans hd
      have hz0 : B + 2 ≤ V0.heap.size := Nat.le_trans hz hb0.size
      obtain ⟨t1, t2⟩ := turn .ready .busy none none V0 hr0
      have hbegin := run_beginRound (P := P) hr0 (by rw [hrec])
      have eb : { rec .ready none with state := .busy } = rec .busy none := by rw [hrec]
      rw [eb] at hbegin
      have d2 : (V0.putObj (B + 1) (.loop (rec .busy none))).heap[B]? = some (.deferred (some [])) := (World.putObj_heap_other (by omega)).trans hd0
      have s2 := put_size V0 (B + 1) (.loop (rec .busy none))
      have old2 : ∀ i, B + 2 ≤ i → i < V.heap.size → (V0.putObj (B + 1) (.loop (rec .busy none))).heap[i]? = V.heap[i]? := fun i h h' => (World.putObj_heap_other (by omega)).trans (hb0.block i h')
      have hi2 := hI k _ _ hi0 t1
      have hj2 := hJ2 k a' _ _ hj0 t1
      have hs0 := hb0.size
      refine ⟨_, hbegin, ?_⟩
      generalize V0.putObj (B + 1) (.loop (rec .busy none)) = V2 at *
      refine wpIn_mono (hbody (B + 1) k a' V2 hk (by omega) (by omega) ⟨_, t2⟩ hi2 hj2) ?_
      have fin : ∀ (jump : Option Code) (V3 : World), Kept B V2 V3 →
          (Instr.endRound (B + 1) jump).run P V3 = .ok (.bool jump.isNone) (V3.putObj (B + 1) (.loop (rec (if jump.isNone then .ready else .done) jump))) ∧
          Later B V3 (V3.putObj (B + 1) (.loop (rec (if jump.isNone then .ready else .done) jump))) ∧
          (V3.putObj (B + 1) (.loop (rec (if jump.isNone then .ready else .done) jump))).heap[B + 1]? = some (.loop (rec (if jump.isNone then .ready else .done) jump)) ∧
          (V3.putObj (B + 1) (.loop (rec (if jump.isNone then .ready else .done) jump))).heap[B]? = some (.deferred (some [])) ∧
          Kept (B + 2) V (V3.putObj (B + 1) (.loop (rec (if jump.isNone then .ready else .done) jump))) := fun jump V3 hk3 => by
        have r3 : V3.heap[B + 1]? = some (.loop (rec .busy none)) := (hk3.2 (B + 1) (by omega) (heap_lt t2)).trans t2
        have d3 : V3.heap[B]? = some (.deferred (some [])) := (hk3.2 B (Nat.le_refl _) (heap_lt d2)).trans d2
        have he := run_endRound (P := P) jump r3
        have ee : { rec .busy none with state := if jump.isNone then .ready else .done, pending := jump } = rec (if jump.isNone then .ready else .done) jump := by rw [hrec]
        rw [ee] at he
        obtain ⟨u1, u2⟩ := turn .busy (if jump.isNone then .ready else .done) none jump V3 r3
        refine ⟨he, u1, u2, (World.putObj_heap_other (by omega)).trans d3, ?_, fun i h1 h2 => ?_⟩
        · rw [put_size]; have := hk3.1; omega
        · exact (World.putObj_heap_other (by omega)).trans ((hk3.2 i (by omega) (by omega)).trans (old2 i h1 h2))
      rintro e a3 V3 hp
      cases e with
      | normal =>
        obtain ⟨hk3, hi3⟩ := hp
        obtain ⟨e1, e2, e3, e4, e5⟩ := fin none V3 hk3
        exact ⟨_, _, e1, .inl ⟨rfl, ⟨hI _ _ _ hi3 e2, e3, e4, by have := e5.1; omega⟩, by rw [z1]; exact e5⟩⟩
      | ret =>
        obtain ⟨hk3, hi3⟩ := hp
        obtain ⟨e1, e2, e3, e4, e5⟩ := fin (some .ret) V3 hk3
        exact ⟨_, _, e1, .inr ⟨rfl, _, hIx _ _ _ hi3 e2, e3, e4⟩⟩
      | exit id =>
        obtain ⟨hk3, hi3⟩ := hp
        obtain ⟨e1, e2, e3, e4, e5⟩ := fin (some (.exit id)) V3 hk3
        exact ⟨_, _, e1, .inr ⟨rfl, _, hIx _ _ _ hi3 e2, e3, e4⟩⟩
      | goto t =>
        obtain ⟨hk3, hi3⟩ := hp
        obtain ⟨e1, e2, e3, e4, e5⟩ := fin (some (.goto t)) V3 hk3
        exact ⟨_, _, e1, .inr ⟨rfl, _, hIx _ _ _ hi3 e2, e3, e4⟩⟩
      | panic ch => exact hp.elim
      | outgrown => exact hp.elim
    · rintro e V ⟨⟨v, rfl⟩, (⟨hi, hr, hd, hz⟩ | ⟨c, hi, hr, hd⟩)⟩
      · exact ⟨none, _, by have h := run_endLoop (P := P) hr (by rw [hrec]; simp); rw [hrec] at h; exact h, hdone B _ (Nat.le_refl _) (hI _ _ _ hi (later_put _ (by omega) hr rfl)) ((World.putObj_heap_other (by omega)).trans hd)⟩
      · exact ⟨some c, _, by have h := run_endLoop (P := P) hr (by rw [hrec]; simp); rw [hrec] at h; exact h, hstop B c _ (Nat.le_refl _) (hIx _ _ _ hi (later_put _ (by omega) hr rfl)) ((World.putObj_heap_other (by omega)).trans hd)⟩
/-- The table that the library counts zeros with is where the library lays it. -/
def Tz (w : World) : Prop := TabAt 1 Lib.deBruijn64tab w
theorem Tz.lt {w : World} (h : Tz w) : 1 < w.heap.size := by
  have h1 := h 0 (by decide)
  rcases Nat.lt_or_ge 1 w.heap.size with hlt | hge
  · exact hlt
  · simp [World.cell?, Array.getElem?_eq_none hge] at h1
theorem Tz.of {w w' : World} (h : Tz w) (hb : ∀ b, b < w.heap.size → w'.heap[b]? = w.heap[b]?) : Tz w' := fun j hj =>
  (World.cell?_of_block (w := w) (hb _ h.lt)).trans (h j hj)
theorem Tz.below {w w' : World} (h : Tz w) (hb : Below w.heap.size w w') : Tz w' := h.of fun b hl => hb.block b hl
theorem Tz.alloc {w : World} (h : Tz w) (o : Obj) : Tz (w.alloc o) := h.below ((Below.refl _ _).alloc (Nat.le_refl _) _)
theorem Tz.drew {w : World} (h : Tz w) : Tz w.drew := h
end Go.Proofs.YtknaghdoffigjaaGreatDoor
