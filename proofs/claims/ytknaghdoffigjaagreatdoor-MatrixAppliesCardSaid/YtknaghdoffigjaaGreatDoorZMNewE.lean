import Derived.Test.YtknaghdoffigjaaGreatDoorZMConv
import Derived.Test.YtknaghdoffigjaaGreatDoorZMRight
import Derived.Shelf.Spec.TrailingZeros
set_option linter.unusedSimpArgs false
set_option linter.unusedVariables false
set_option linter.unnecessarySimpa false
namespace Go.Proofs.YtknaghdoffigjaaGreatDoor
open Go.RowKit Go
theorem enc_zeros (n : Nat) : enc (List.replicate n 0) = List.replicate n (false, ⟨#[]⟩) := by
 unfold enc
 rw [List.map_replicate]
 rfl
def estV (M : Int) (A : Option Addr) (n cap : Nat) : Value := .agg #[.bool (wneg M), .string (wmag M), .slice A n cap]
theorem post_estimate {fn : Func} {R : Ending → World → Prop} {a : Act} {w : World} {p : Tmp} {b : Nat} {x : Bool} {s : ByteArray} {A : Option Addr} {n cap : Nat} (h : fn.results = #[.cell p 77])
  (ht : a.tmps.getD p undef = .pointer (some ⟨b, 0, none⟩)) (hw : w.heap[b]? = some (.cells #[.bool x, .string s, .slice A n cap] 77 (0, 0))) (hd : a.defers = []) (hR : R (.returned (.agg #[.bool x, .string s, .slice A n cap])) w) : bodyPost Tryz.prog fn R .ret a w := by
 refine bodyPost_ret (v := .agg #[.bool x, .string s, .slice A n cap]) ?_ hd hR
 have c0 := cell_of_row w b 0 _ _ _ hw
 have c1 := cell_of_row w b 1 _ _ _ hw
 have c2 := cell_of_row w b 2 _ _ _ hw
 have : (loadVar 77 ⟨b, 0, none⟩).run Tryz.prog w = .ok (.agg #[.bool x, .string s, .slice A n cap]) w := by
  simp at c0 c1 c2
  simp [loadVar, go_sem, c0, c1, c2]
 rw [Array.getD_eq_getD_getElem?] at ht
 simp only [results, h]
 simp [Sem.run_bind, Result.andThen, ht, asAddr, this]
set_option maxRecDepth 100000 in
set_option maxHeartbeats 4000000 in
theorem newEstimate_any (n : Nat) (w : World) (hn2 : n ≤ 40000) :
  Calls Tryz.prog 66 #[.int .i64 (n : Int)] w fun e w' =>
   ∃ g, e = .returned (estV 1 (some ⟨g, 0, none⟩) n n) ∧ w.heap.size ≤ g ∧ Lw w' g (enc (List.replicate n 0)) ∧ Below w.heap.size w w' := by
 unfold estV
 have hmk := make_wides n hn2
 rw [enc_zeros]
 have hf1 := fun W => From_any 1 W (by omega) (by omega)
 rw [wv_def] at hf1
 have HF := Lib.hid hf1
 clear hf1
 have hK1 := (Kg.none_ none w 1).new 0 (.cells #[.bool false, .string ⟨#[]⟩, .slice none 0 0] 77 (0, 0)) rfl
 have HK1 := Lib.hid (hK1.cast (l' := [some (w.heap.size, .cells #[.bool false, .string ⟨#[]⟩, .slice none 0 0] 77 (0, 0))]) (by simp))
 clear hK1
 generalize wneg 1 = x1 at *
 generalize wmag 1 = s1 at *
 go_enter Tryz.func66, Tryz.ntmps66
 go_wp2_with fail
 generalize w.alloc (.cells #[.bool false, .string ⟨#[]⟩, .slice none 0 0] 77 (0, 0)) = W1 at *
 refine wp_region_facts (X := Nat) (fun x => [(0, 3, .agg #[.bool x1, .string s1]), (1, 4, .int .i64 (n : Int)), (2, 5, .slice (some ⟨x, 0, none⟩) n n), (3, 6, .agg #[.bool x1, .string s1, .slice (some ⟨x, 0, none⟩) n n])])
  (fun x L W => Kg none w W [some (w.heap.size, (if L 4 = true then .cells #[.bool x1, .string s1, .slice (some ⟨x, 0, none⟩) n n] 77 (0, 0) else .cells #[.bool false, .string ⟨#[]⟩, .slice none 0 0] 77 (0, 0)))] ∧ (L 2 = true → w.heap.size ≤ x ∧ w.heap.size ≠ x ∧ Lw W x (List.replicate n (false, ⟨#[]⟩)))) (by kernel_rfl) (by kernel_rfl) 0 (by refine ⟨HK1.out.drew, fun h => ?_⟩; simp at h) (by kernel_rfl) ?_ ?_
 ·repeat' (first | exact FactSteps.nil | refine FactSteps.cons ?_ ?_)
  all_goals
   intro L x wx hJ hl hd hs K hK
   (try simp [Region.binds] at hd)
   simp only [selA, selT_cons, selT_nil, List.set_cons_zero, List.set_cons_succ, List.getD_cons_zero, List.getD_cons_succ, hd, hl, selV_true, selV_false]
  ·go_simp
   with_reducible refine (HF.out _).mono ?_
   rintro e v ⟨rfl, hb⟩
   refine hK.out x _ _ ?_ ?_
   ·simp [selA, selT_cons, selT_nil, hl, hd, selV_true, selV_false]
   ·exact ⟨by simpa using hJ.1.step hb, fun h => ⟨(hJ.2 (by simpa using h)).1, (hJ.2 (by simpa using h)).2.1, (hJ.2 (by simpa using h)).2.2.step hb⟩⟩
  ·go_simp
   refine hK.out x _ _ ?_ ?_
   ·simp [selA, selT_cons, selT_nil, hl, hd, selV_true, selV_false]
   ·simpa [hl] using hJ
  ·have hm := hmk wx
   have hn := hs 4 _ rfl (by simp [Region.binds])
   have hB := hJ.1
   simp only [hn, Bool.false_eq_true, if_false] at hB
   go_simp
   refine hK.out wx.heap.size _ _ ?_ ?_
   ·simp [selA, selT_cons, selT_nil, hl, hd, hn, hs 3 _ rfl (by simp [Region.binds]), selV_true, selV_false]
   ·exact ⟨by simpa [hn] using hB.alloc _, fun _ => ⟨hB.1.size, Nat.ne_of_lt (hB.lt 0 rfl), Lw.new wx _⟩⟩
  ·go_simp
   refine hK.out x _ _ ?_ ?_
   ·simp [selA, selT_cons, selT_nil, hl, hd, selV_true, selV_false]
   ·simpa [hl] using hJ
  ·obtain ⟨hx, hx2, hLx⟩ := hJ.2 (by simp [hd])
   have hB := hJ.1
   simp only [hl, Bool.false_eq_true, if_false] at hB
   have d0 := hB.cell 0 0 rfl rfl
   have d1 := hB.cell 0 1 rfl rfl
   have d2 := hB.cell 0 2 rfl rfl
   have f0 := hB.frozen 0 0 rfl
   have f1 := hB.frozen 0 1 rfl
   have f2 := hB.frozen 0 2 rfl
   go_simp
   refine hK.out x _ _ ?_ ?_
   ·simp [selA, selT_cons, selT_nil, hl, hd, selV_true, selV_false]
   ·refine ⟨((hB.put 0 0 rfl _).put 0 1 rfl _).put 0 2 rfl _, fun _ => ⟨hx, hx2, (Below.heap_setCell _ _ _ _ (by simp only []; omega)).trans ((Below.heap_setCell _ _ _ _ (by simp only []; omega)).trans ((Below.heap_setCell _ _ _ _ (by simp only []; omega)).trans hLx))⟩⟩
 ·rintro g W2 ⟨hK2, hL2⟩
  simp only [selA, selT_cons, selT_nil, List.set_cons_zero, List.set_cons_succ, List.getD_cons_zero, List.getD_cons_succ, selV_true]
  simp only [if_true] at hK2
  go_wp2_with fail
  obtain ⟨hg, hg2, hLg⟩ := hL2 trivial
  exact post_estimate (b := w.heap.size) rfl rfl (hK2.at_ 0 rfl) rfl ⟨g, rfl, hg, hLg, ⟨hK2.1.os, hK2.1.tape, hK2.1.output, hK2.1.size, fun i hi => hK2.1.block i hi (by simp)⟩⟩
end Go.Proofs.YtknaghdoffigjaaGreatDoor
namespace Go.Proofs.YtknaghdoffigjaaGreatDoor
open Go.RowKit Go
attribute [local go_sem] Oper.semAt_some
def VisitsIf (T : World → Prop) (P : Program) (gf : Nat) (first : Array Value) (encs : Nat → Array Value) (N : Nat) : Prop :=
 ∀ (l : Nat) (J : Nat → World → Prop) (Jx : World → Prop) (W : World),
  (∀ k V V', J k V → Below V.heap.size V V' → J k V') → (∀ V V', Jx V → Below V.heap.size V V' → Jx V') →
  (∀ k V, J k V → T V) →
  (∀ k, k < N → ∀ V, J k V → YieldAt Fence.wide 0 P l (encs k) V fun e V' => (e = .returned (.bool true) ∧ J (k + 1) V' ∧ Kept W.heap.size V V') ∨ (e = .returned (.bool false) ∧ Jx V')) →
  J 0 W → CallsIn Fence.wide 0 P gf (first ++ #[.func (.yield l) #[] #[]]) W fun e V => (∃ v, e = .returned v) ∧ (J N V ∨ Jx V)
theorem range_boxedIf {T : World → Prop} {P : Program} {g : Operand} {ps : Array Tmp} {assign body : Code} {Q : Exit → Act → World → Prop} {a : Act} {w : World} {gf : Nat} {first : Array Value} {encs : Nat → Array Value} {N : Nat}
  (hg : a.eval g = .func (.func gf) first #[]) (eg : ∀ args w, (callFunc gf args).run P w = .ok (.enter gf args) w) (hv : VisitsIf T P gf first encs N) (hps : ∀ k, (encs k).size = ps.size)
  (I : Nat → World → Prop) (Ix : Code → World → Prop) (hI : ∀ k V V', I k V → Later w.heap.size V V' → I k V') (hIx : ∀ c V V', Ix c V → Later w.heap.size V V' → Ix c V') (hT : ∀ k V, I k V → T V) (h0 : I 0 w) (J2 : Nat → Act → World → Prop) (hJ2 : ∀ k a' V V', J2 k a' V → Later w.heap.size V V' → J2 k a' V')
  (hassign : ∀ (l k : Nat) (V : World) (K : Act → World → Prop), k < N → w.heap.size + 2 ≤ V.heap.size → I k V → (∀ a' V', J2 k a' V' → Below V.heap.size V V' → K a' V') → assign.wpIn (Fence.wide.inRound l) 0 P (Exit.then K (fun _ _ _ => False)) { tmps := (ps.zip (encs k)).foldl (fun t (p, v) => t.setIfInBounds p v) a.tmps, defers := [] } V)
  (hbody : ∀ (l k : Nat) (a' : Act) (V : World), k < N → w.heap.size + 2 ≤ V.heap.size → w.heap.size ≤ l → (∃ r, V.heap[l]? = some (.loop r)) → I k V → J2 k a' V → body.wpIn (Fence.wide.inRound l) 0 P (bodyEnd w.heap.size I Ix k V) a' V)
  (hdone : ∀ (D : Nat) (V : World), w.heap.size ≤ D → I N V → V.heap[D]? = some (.deferred (some [])) → Q .normal { a with defers := { target := .collected D, args := #[] } :: a.defers } V)
  (hstop : ∀ (D : Nat) (c : Code) (V : World), w.heap.size ≤ D → Ix c V → V.heap[D]? = some (.deferred (some [])) → c.wpIn Fence.wide 0 P Q { a with defers := { target := .collected D, args := #[] } :: a.defers } V) :
  (Code.rangeFunc g ps assign body).wpIn Fence.wide 0 P Q a w := by
 refine wpIn_rangeFunc fun fn hfn => ?_
 obtain ⟨B, hB⟩ : ∃ B, B = w.heap.size := ⟨_, rfl⟩
 rw [← hB] at hI hIx hJ2 hassign hbody hdone hstop
 obtain ⟨rec, hrec⟩ : ∃ rec : LoopState → Option Code → Loop, rec = fun st pe => { state := st, pending := pe, fn := fn, tmps := a.tmps, params := ps, assign := assign, body := body, defers := B } := ⟨_, rfl⟩
 obtain ⟨V1, hV1⟩ : ∃ V1, V1 = (w.alloc (.deferred (some []))).alloc (.loop (rec .ready none)) := ⟨_, rfl⟩
 have z1 : V1.heap.size = B + 2 := by rw [hV1, hB]; simp
 have r1 : V1.heap[B + 1]? = some (.loop (rec .ready none)) := by
  have := World.alloc_heap_new (w.alloc (.deferred (some []))) (.loop (rec .ready none))
  rw [hV1, hB]
  simpa using this
 have d1 : V1.heap[B]? = some (.deferred (some [])) := by
  rw [hV1, hB]
  exact (Below.heap_alloc _ _ _ (by simp)).trans (World.alloc_heap_new w _)
 have i1 : I 0 V1 := by
  refine hI 0 w V1 h0 (later_grow (by omega) ?_)
  rw [hV1]
  exact ((Below.refl _ _).alloc (Nat.le_refl _) _).alloc (by simp) _
 -- the record's turns
 have turn : ∀ (st st' : LoopState) (pe pe' : Option Code) (V : World), V.heap[B + 1]? = some (.loop (rec st pe)) → Later B V (V.putObj (B + 1) (.loop (rec st' pe'))) ∧ (V.putObj (B + 1) (.loop (rec st' pe'))).heap[B + 1]? = some (.loop (rec st' pe')) := fun st st' pe pe' V h =>
  ⟨later_put _ (by omega) h rfl, World.putObj_heap_same (heap_lt h)⟩
 refine ⟨B + 1, [{ target := .collected B, args := #[] }], V1, { target := .fn (.func gf) #[], args := first ++ #[.func (.yield (B + 1)) #[] #[]] }, V1, gf, first ++ #[.func (.yield (B + 1)) #[] #[]], V1, ?_, ?_, ?_, ?_, ?_, ?_⟩
 ·rw [hV1, hrec, hB]
  exact run_enterLoop_outer _ _ _ _ _
 ·simp only [resolve, hg]
  simp [go_sem]
 ·intro f' _
  trivial
 ·simp [invoke, go_sem, eg]
 ·intro h; cases h
 ·refine (hv (B + 1) (fun k V => I k V ∧ V.heap[B + 1]? = some (.loop (rec .ready none)) ∧ V.heap[B]? = some (.deferred (some [])) ∧ B + 2 ≤ V.heap.size)
   (fun V => ∃ c, Ix c V ∧ V.heap[B + 1]? = some (.loop (rec .done (some c))) ∧ V.heap[B]? = some (.deferred (some []))) V1 ?_ ?_ (fun k V h => hT k V h.1) ?_ ⟨i1, r1, d1, by omega⟩).mono ?_
  ·rintro k V V' ⟨hi, hr, hd, hz⟩ hb
   exact ⟨hI k V V' hi (later_grow (by omega) hb), (hb.block _ (heap_lt hr)).trans hr, (hb.block _ (heap_lt hd)).trans hd, Nat.le_trans hz hb.size⟩
  ·rintro V V' ⟨c, hi, hr, hd⟩ hb
   exact ⟨c, hIx c V V' hi (later_grow (by have := heap_lt hr; omega) hb), (hb.block _ (heap_lt hr)).trans hr, (hb.block _ (heap_lt hd)).trans hd⟩
  ·rintro k hk V ⟨hi, hr, hd, hz⟩
   have hy := run_yield (P := P) (args := encs k) hr (by rw [hrec]; exact hps k)
   rw [hrec] at hy
   refine ⟨fn, _, assign, body, hy, roundIn_of_wpIn hfn (hassign (B + 1) k V _ hk hz hi ?_)⟩
   intro a' V0 hj0 hb0
   have hi0 := hI k V V0 hi (later_grow (by omega) hb0)
   have hr0 := (hb0.block _ (heap_lt hr)).trans hr
   have hd0 := (hb0.block _ (heap_lt hd)).trans hd
   have hz0 : B + 2 ≤ V0.heap.size := Nat.le_trans hz hb0.size
   obtain ⟨t1, t2⟩ := turn .ready .busy none none V0 hr0
   have hbegin := run_beginRound (P := P) hr0 (by rw [hrec])
   have eb : { rec .ready none with state := .busy } = rec .busy none := by rw [hrec]
   rw [eb] at hbegin
   have d2 : (V0.putObj (B + 1) (.loop (rec .busy none))).heap[B]? = some (.deferred (some [])) := (World.putObj_heap_other (by omega)).trans hd0
   have s2 := put_size V0 (B + 1) (.loop (rec .busy none))
   have old2 : ∀ i, B + 2 ≤ i → i < V.heap.size → (V0.putObj (B + 1) (.loop (rec .busy none))).heap[i]? = V.heap[i]? := fun i h h' => (World.putObj_heap_other (by omega)).trans (hb0.block i h')
   have hi2 := hI k _ _ hi0 t1
   have hj2 := hJ2 k a' _ _ hj0 t1
   have hs0 := hb0.size
   refine ⟨_, hbegin, ?_⟩
   generalize V0.putObj (B + 1) (.loop (rec .busy none)) = V2 at *
   refine wpIn_mono (hbody (B + 1) k a' V2 hk (by omega) (by omega) ⟨_, t2⟩ hi2 hj2) ?_
   have fin : ∀ (jump : Option Code) (V3 : World), Kept B V2 V3 →
     (Instr.endRound (B + 1) jump).run P V3 = .ok (.bool jump.isNone) (V3.putObj (B + 1) (.loop (rec (if jump.isNone then .ready else .done) jump))) ∧
     Later B V3 (V3.putObj (B + 1) (.loop (rec (if jump.isNone then .ready else .done) jump))) ∧
     (V3.putObj (B + 1) (.loop (rec (if jump.isNone then .ready else .done) jump))).heap[B + 1]? = some (.loop (rec (if jump.isNone then .ready else .done) jump)) ∧
     (V3.putObj (B + 1) (.loop (rec (if jump.isNone then .ready else .done) jump))).heap[B]? = some (.deferred (some [])) ∧
     Kept (B + 2) V (V3.putObj (B + 1) (.loop (rec (if jump.isNone then .ready else .done) jump))) := fun jump V3 hk3 => by
    have r3 : V3.heap[B + 1]? = some (.loop (rec .busy none)) := (hk3.2 (B + 1) (by omega) (heap_lt t2)).trans t2
    have d3 : V3.heap[B]? = some (.deferred (some [])) := (hk3.2 B (Nat.le_refl _) (heap_lt d2)).trans d2
    have he := run_endRound (P := P) jump r3
    have ee : { rec .busy none with state := if jump.isNone then .ready else .done, pending := jump } = rec (if jump.isNone then .ready else .done) jump := by rw [hrec]
    rw [ee] at he
    obtain ⟨u1, u2⟩ := turn .busy (if jump.isNone then .ready else .done) none jump V3 r3
    refine ⟨he, u1, u2, (World.putObj_heap_other (by omega)).trans d3, ?_, fun i h1 h2 => ?_⟩
    ·rw [put_size]; have := hk3.1; omega
    ·exact (World.putObj_heap_other (by omega)).trans ((hk3.2 i (by omega) (by omega)).trans (old2 i h1 h2))
   rintro e a3 V3 hp
   cases e with
   | normal =>
    obtain ⟨hk3, hi3⟩ := hp
    obtain ⟨e1, e2, e3, e4, e5⟩ := fin none V3 hk3
    exact ⟨_, _, e1, .inl ⟨rfl, ⟨hI _ _ _ hi3 e2, e3, e4, by have := e5.1; omega⟩, by rw [z1]; exact e5⟩⟩
   | ret =>
    obtain ⟨hk3, hi3⟩ := hp
    obtain ⟨e1, e2, e3, e4, e5⟩ := fin (some .ret) V3 hk3
    exact ⟨_, _, e1, .inr ⟨rfl, _, hIx _ _ _ hi3 e2, e3, e4⟩⟩
   | exit id =>
    obtain ⟨hk3, hi3⟩ := hp
    obtain ⟨e1, e2, e3, e4, e5⟩ := fin (some (.exit id)) V3 hk3
    exact ⟨_, _, e1, .inr ⟨rfl, _, hIx _ _ _ hi3 e2, e3, e4⟩⟩
   | goto t =>
    obtain ⟨hk3, hi3⟩ := hp
    obtain ⟨e1, e2, e3, e4, e5⟩ := fin (some (.goto t)) V3 hk3
    exact ⟨_, _, e1, .inr ⟨rfl, _, hIx _ _ _ hi3 e2, e3, e4⟩⟩
   | panic ch => exact hp.elim
   | outgrown => exact hp.elim
  ·rintro e V ⟨⟨v, rfl⟩, (⟨hi, hr, hd, hz⟩ | ⟨c, hi, hr, hd⟩)⟩
   ·exact ⟨none, _, by have h := run_endLoop (P := P) hr (by rw [hrec]; simp); rw [hrec] at h; exact h, hdone B _ (Nat.le_refl _) (hI _ _ _ hi (later_put _ (by omega) hr rfl)) ((World.putObj_heap_other (by omega)).trans hd)⟩
   ·exact ⟨some c, _, by have h := run_endLoop (P := P) hr (by rw [hrec]; simp); rw [hrec] at h; exact h, hstop B c _ (Nat.le_refl _) (hIx _ _ _ hi (later_put _ (by omega) hr rfl)) ((World.putObj_heap_other (by omega)).trans hd)⟩
def Tz (w : World) : Prop := TabAt 1 Lib.deBruijn64tab w
theorem Tz.lt {w : World} (h : Tz w) : 1 < w.heap.size := by
 have h1 := h 0 (by decide)
 rcases Nat.lt_or_ge 1 w.heap.size with hlt | hge
 ·exact hlt
 ·simp [World.cell?, Array.getElem?_eq_none hge] at h1
theorem Tz.of {w w' : World} (h : Tz w) (hb : ∀ b, b < w.heap.size → w'.heap[b]? = w.heap[b]?) : Tz w' := fun j hj =>
 (World.cell?_of_block (w := w) (hb _ h.lt)).trans (h j hj)
end Go.Proofs.YtknaghdoffigjaaGreatDoor
namespace Go.Proofs.YtknaghdoffigjaaGreatDoor
open Go.RowKit Go
def ren29 : Go.Shelf.Ren := ⟨fun | 29 => 154 | n => n, fun | 3 => 3 | 4 => 4 | 5 => 5 | 22 => 80 | 25 => 145 | 54 => 176 | n => n, fun | 1 => 1 | n => n⟩
theorem lays29 : Lays7.n29 Tryz.prog ren29 := by
 constructor
 case f29 => exact Tryz.func154.trans (congrArg some (by kernel_rfl))
 all_goals first | kernel_rfl | (intro w; kernel_rfl)
theorem tz64_any (x : Nat) (w : World) (_hx0 : x ≠ 0) (hx : x < 18446744073709551616) (hT : Tz w) :
  Calls Tryz.prog 154 #[.int .u64 (x : Int)] w fun e w' => e = .returned (.int .i64 (Lib.ctz 64 x : Nat)) ∧ w' = w :=
 Any7.bits_TrailingZeros64 lays29 x hx w fun _ => hT
def powL (n : Nat) : Nat → Nat → Nat → Nat → Nat
 | 0, _, _, r => r
 | f + 1, b, e, r => if e = 0 then r else powL n f (b * b % n) (e / 2) (if e % 2 = 1 then r * b % n else r)
theorem powL_zero (n f b r : Nat) : powL n f b 0 r = r := by
 cases f <;> simp [powL]
theorem powL_lt (n : Nat) (hn : 0 < n) : ∀ f b e r, r < n → powL n f b e r < n
 | 0, _, _, _, h => h
 | f + 1, b, e, r, h => by
  rw [powL]
  split
  ·exact h
  ·exact powL_lt n hn f _ _ _ (by split; exact Nat.mod_lt _ hn; exact h)
set_option maxHeartbeats 2000000 in
theorem power_any (b e n : Nat) (w : World) (hn : 0 < n) (hn2 : n < 2147483648) (hb : b < 4294967296) (he : e < 18446744073709551616) :
  Calls Tryz.prog 155 #[.int .u64 (b : Int), .int .u64 (e : Int), .int .u64 (n : Int)] w fun e' w' => e' = .returned (.int .u64 (powL n 64 b e 1 : Nat)) ∧ w' = w := by
 obtain ⟨res, hres⟩ : ∃ res, res = powL n 64 b e 1 := ⟨_, rfl⟩
 rw [← hres]
 have HRES := Lib.hid hres
 clear hres
 have hz : ((n : Int) == 0) = false := by rw [beq_eq_false_iff_ne]; omega
 have hz2 : (n : Int) ≠ 0 := by omega
 go_enter Tryz.func155, Tryz.ntmps155
 go_wp2_with fail
 go_loop [0, 1, 7] (fun sb se sr => ∃ f b e r : Nat, sb = .int .u64 (b : Int) ∧ se = .int .u64 (e : Int) ∧ sr = .int .u64 (r : Int) ∧ powL n f b e r = res ∧ e < 2 ^ f ∧ e < 18446744073709551616 ∧ b < 4294967296 ∧ r < 4294967296) (fun _ se _ => (intOf se).toNat)
 case atStart => exact ⟨64, b, e, 1, rfl, rfl, rfl, HRES.out.symm, he, he, hb, by omega⟩
 case round =>
  obtain ⟨f, b, e, r, rfl, rfl, rfl, ht, hf, he2, hb, hr⟩ := hrel
  by_cases he0 : e = 0
  ·subst he0
   rw [powL_zero] at ht
   subst ht
   have HF := Lib.hid hf
   clear hf hb hr
   go_wp2
   go_ret
   exact ⟨rfl, rfl⟩
  ·obtain ⟨f, rfl⟩ : ∃ g, f = g + 1 := ⟨f - 1, by
    cases f with
    | zero => simp at hf; omega
    | succ f => rfl⟩
   rw [powL, if_neg he0] at ht
   have hf2 : e / 2 < 2 ^ f := by rw [Nat.pow_succ] at hf; omega
   have g1 : decide ((e : Int) > 0) = true := by rw [decide_eq_true_iff]; omega
   have hbb : b * b < 18446744073709551616 := Nat.lt_of_le_of_lt (Nat.mul_le_mul (show b ≤ 4294967295 by omega) (show b ≤ 4294967295 by omega)) (by omega)
   have hrb : r * b < 18446744073709551616 := Nat.lt_of_le_of_lt (Nat.mul_le_mul (show r ≤ 4294967295 by omega) (show b ≤ 4294967295 by omega)) (by omega)
   have w1 : IntKind.u64.wrap ((b : Int) * (b : Int)) = ((b * b : Nat) : Int) := by rw [← Int.natCast_mul]; exact IntWalk.u64_in _ (by omega)
   have w2 : IntKind.u64.wrap ((r : Int) * (b : Int)) = ((r * b : Nat) : Int) := by rw [← Int.natCast_mul]; exact IntWalk.u64_in _ (by omega)
   have w3 : IntKind.u64.wrap ((e : Int) / 2) = ((e / 2 : Nat) : Int) := by rw [show (e : Int) / 2 = ((e / 2 : Nat) : Int) from by omega]; exact IntWalk.u64_in _ (by omega)
   have m1 : b * b % n < n := Nat.mod_lt _ hn
   have m2 : r * b % n < n := Nat.mod_lt _ hn
   have HT := Lib.hid ht
   have HF2 := Lib.hid hf2
   clear ht hf hbb hrb
   by_cases ho : e % 2 = 1
   ·rw [if_pos ho] at HT
    have o1 : ((e : Int) % 2 == 1) = true := by rw [beq_iff_eq]; omega
    go_wp2
    go_round
    case rel => exact ⟨f, b * b % n, e / 2, r * b % n, rfl, rfl, rfl, HT.out, HF2.out, by omega, by omega, by omega⟩
    case measure => simp [intOf]; omega
   ·rw [if_neg ho] at HT
    have o1 : ((e : Int) % 2 == 1) = false := by rw [beq_eq_false_iff_ne]; omega
    go_wp2
    go_round
    case rel => exact ⟨f, b * b % n, e / 2, r, rfl, rfl, rfl, HT.out, HF2.out, by omega, by omega, by omega⟩
    case measure => simp [intOf]; omega
def witL (n : Nat) : Nat → Nat → Bool
 | 0, _ => true
 | h + 1, x => if x = n - 1 then false else witL n h (x * x % n)
def wit (b n : Nat) : Bool := if powL n 64 b ((n - 1) / 2 ^ Lib.ctz 64 (n - 1)) 1 = 1 then false else witL n (Lib.ctz 64 (n - 1)) (powL n 64 b ((n - 1) / 2 ^ Lib.ctz 64 (n - 1)) 1)
set_option maxHeartbeats 2000000 in
theorem isWitness_any (b n : Nat) (w : World) (hn : 2 < n) (hn2 : n < 2147483648) (hb : b < 4294967296) (hT : Tz w) :
  Calls Tryz.prog 143 #[.int .u64 (b : Int), .int .u64 (n : Int)] w fun e' w' => e' = .returned (.bool (wit b n)) ∧ w' = w := by
 have hz : ((n : Int) == 0) = false := by rw [beq_eq_false_iff_ne]; omega
 have hz2 : (n : Int) ≠ 0 := by omega
 obtain ⟨m, hm⟩ : ∃ m, m = n - 1 := ⟨_, rfl⟩
 obtain ⟨h, hh⟩ : ∃ h, h = Lib.ctz 64 m := ⟨_, rfl⟩
 have hh2 : h < 64 := by rw [hh]; exact (Lib.lowest_bit 64 m (by omega) (by omega)).2
 have htz := tz64_any m w (by omega) (by omega) hT
 rw [← hh] at htz
 obtain ⟨d, hd⟩ : ∃ d, d = m / 2 ^ h := ⟨_, rfl⟩
 have hd2 : d < 2147483648 := by rw [hd]; exact Nat.lt_of_le_of_lt (Nat.div_le_self _ _) (by omega)
 have hpw := power_any b d n w (by omega) hn2 hb (by omega)
 obtain ⟨x, hx⟩ : ∃ x, x = powL n 64 b d 1 := ⟨_, rfl⟩
 have hx2 : x < n := by rw [hx]; exact powL_lt n (by omega) _ _ _ _ (by omega)
 rw [← hx] at hpw
 have e0 : wit b n = if x = 1 then false else witL n h x := by unfold wit; rw [← hm, ← hh, ← hd, ← hx]
 have w1 : IntKind.u64.wrap ((n : Int) - 1) = (m : Int) := by rw [show (n : Int) - 1 = (m : Int) by omega]; exact IntWalk.u64_in _ (by omega)
 have hdi : (m : Int) / 2 ^ h = (d : Int) := by rw [hd, Int.natCast_ediv, Int.natCast_pow]; rfl
 have HTZ := Lib.hid htz
 have HPW := Lib.hid hpw
 have HDI := Lib.hid hdi
 have HM := Lib.hid hm
 clear htz hpw hdi hm hx hd hh
 obtain ⟨res, hres⟩ : ∃ r, r = wit b n := ⟨_, rfl⟩
 rw [← hres]
 have HE := Lib.hid (hres.trans e0)
 clear e0 hres
 go_enter Tryz.func143, Tryz.ntmps143
 go_wp2_with fail
 with_reducible refine (HTZ.out).mono ?_
 rintro e w1 ⟨rfl, rfl⟩
 have hdi := HDI.out
 go_wp2_with fail
 with_reducible refine (HPW.out).mono ?_
 rintro e w1 ⟨rfl, rfl⟩
 clear hdi
 by_cases hx1 : x = 1
 ·have c1 : ((x : Int) == 1) = true := by rw [beq_iff_eq]; omega
  have he := HE.out
  rw [if_pos hx1] at he
  subst he
  clear hx1
  go_wp2
  go_ret
  exact ⟨rfl, rfl⟩
 ·have c1 : ((x : Int) == 1) = false := by rw [beq_eq_false_iff_ne]; omega
  have he := HE.out
  rw [if_neg hx1] at he
  have HRES := Lib.hid he
  clear hx1 he
  go_wp2_with fail
  go_loop [6, 20] (fun sx si => ∃ x k : Nat, sx = .int .u64 (x : Int) ∧ si = .int .i64 (k : Int) ∧ k ≤ h ∧ x < n ∧ witL n (h - k) x = res) (fun _ si => h - (intOf si).toNat)
  case atStart => exact ⟨x, 0, rfl, rfl, Nat.zero_le _, hx2, HRES.out.symm⟩
  case round =>
   obtain ⟨y, k, rfl, rfl, hk, hy, ht⟩ := hrel
   clear c1
   by_cases hlt : k < h
   ·obtain ⟨g, hg⟩ : ∃ g, h - k = g + 1 := ⟨h - k - 1, by omega⟩
    have hg2 : h - (k + 1) = g := by omega
    rw [hg, witL, ← HM.out] at ht
    have hyy : y * y < 18446744073709551616 := Nat.lt_of_le_of_lt (Nat.mul_le_mul (show y ≤ 4294967295 by omega) (show y ≤ 4294967295 by omega)) (by omega)
    have w2 : IntKind.u64.wrap ((y : Int) * (y : Int)) = ((y * y : Nat) : Int) := by rw [← Int.natCast_mul]; exact IntWalk.u64_in _ (by omega)
    have m1 : y * y % n < n := Nat.mod_lt _ (by omega)
    by_cases hm : y = m
    ·rw [if_pos hm] at ht
     subst ht
     have c2 : ((y : Int) == (m : Int)) = true := by rw [beq_iff_eq]; omega
     clear hm
     go_wp2
     go_ret
     exact ⟨rfl, rfl⟩
    ·rw [if_neg hm] at ht
     have c2 : ((y : Int) == (m : Int)) = false := by rw [beq_eq_false_iff_ne]; omega
     have HT := Lib.hid ht
     have HG := Lib.hid hg2
     clear hm ht hg hg2 hyy
     go_wp2
     go_round
     case rel => exact ⟨y * y % n, k + 1, rfl, by simp, by omega, m1, by rw [HG.out]; exact HT.out⟩
     case measure => simp [intOf]; omega
   ·obtain rfl : k = h := by omega
    rw [Nat.sub_self, witL] at ht
    subst ht
    go_wp2
    go_ret
    exact ⟨rfl, rfl⟩
def sprpL (n : Nat) : List Nat → Bool
 | [] => true
 | b :: l => if b % n ≠ 0 ∧ wit b n = true then false else sprpL n l
def sprp (n : Nat) : Bool := sprpL n [2, 3, 5, 7]
theorem base_at0 (w : World) : (Instr.index 157 (.agg #[.int .u64 2, .int .u64 3, .int .u64 5, .int .u64 7]) (.int .i64 0)).run Tryz.prog w = .ok (.int .u64 2) w := by kernel_rfl
theorem base_at1 (w : World) : (Instr.index 157 (.agg #[.int .u64 2, .int .u64 3, .int .u64 5, .int .u64 7]) (.int .i64 1)).run Tryz.prog w = .ok (.int .u64 3) w := by kernel_rfl
theorem base_at2 (w : World) : (Instr.index 157 (.agg #[.int .u64 2, .int .u64 3, .int .u64 5, .int .u64 7]) (.int .i64 2)).run Tryz.prog w = .ok (.int .u64 5) w := by kernel_rfl
theorem base_at3 (w : World) : (Instr.index 157 (.agg #[.int .u64 2, .int .u64 3, .int .u64 5, .int .u64 7]) (.int .i64 3)).run Tryz.prog w = .ok (.int .u64 7) w := by kernel_rfl
set_option maxRecDepth 100000 in
set_option maxHeartbeats 4000000 in
theorem isPrime_any (n : Nat) (w : World) (hn : 2 < n) (hn2 : n < 2147483648) (hT : Tz w) :
  Calls Tryz.prog 104 #[.int .u64 (n : Int)] w fun e w' => e = .returned (.bool (sprp n)) ∧ w' = w := by
 obtain ⟨res, hres⟩ : ∃ res, res = sprp n := ⟨_, rfl⟩
 rw [← hres]
 have HRES := Lib.hid hres
 clear hres
 have hz : ((n : Int) == 0) = false := by rw [beq_eq_false_iff_ne]; omega
 have hz2 : (n : Int) ≠ 0 := by omega
 have hwit := fun (b : Nat) (hb : b < 4294967296) => isWitness_any b n w hn hn2 hb hT
 have hmo := fun (b : Nat) => Int.natCast_emod b n
 have HW := Lib.hid hwit
 have HMO := Lib.hid hmo
 clear hwit hmo hT
 have i0 := base_at0
 have i1 := base_at1
 have i2 := base_at2
 have i3 := base_at3
 go_enter Tryz.func104, Tryz.ntmps104
 go_wp2_with fail
 go_loop [6] (fun si => ∃ k : Nat, si = .int .i64 (k : Int) ∧ k ≤ 4 ∧ sprpL n ([2, 3, 5, 7].drop k) = res) (fun si => 4 - (intOf si).toNat)
 case atStart => exact ⟨0, rfl, by omega, HRES.out.symm⟩
 case round =>
  obtain ⟨k, rfl, hk, ht⟩ := hrel
  obtain rfl | rfl | rfl | rfl | rfl : k = 0 ∨ k = 1 ∨ k = 2 ∨ k = 3 ∨ k = 4 := by omega
  ·have ht2 : (if 2 % n ≠ 0 ∧ wit 2 n = true then false else sprpL n ([2, 3, 5, 7].drop 1)) = res := ht
   have hcall : Calls Tryz.prog 143 #[.int .u64 2, .int .u64 (n : Int)] w fun e w' => e = .returned (.bool (wit 2 n)) ∧ w' = w := HW.out 2 (by omega)
   have hmo := HMO.out 2
   clear ht
   by_cases h1 : 2 % n = 0
   ·rw [if_neg (fun h => h.1 h1)] at ht2
    have n1 : ((2 : Int) % (n : Int) != 0) = false := by
     rw [show ((2 : Int) % (n : Int)) = ((2 % n : Nat) : Int) from hmo.symm, h1]; rfl
    have HT := Lib.hid ht2
    clear h1 hmo ht2 hcall
    go_wp2
    go_round
    case rel => exact ⟨1, rfl, by omega, HT.out⟩
    case measure => simp [intOf]
   ·have n1 : ((2 : Int) % (n : Int) != 0) = true := by
     rw [show ((2 : Int) % (n : Int)) = ((2 % n : Nat) : Int) from hmo.symm, bne_iff_ne]; omega
    cases hw : wit 2 n with
    | true =>
     rw [if_pos ⟨h1, hw⟩] at ht2
     rw [hw] at hcall
     subst ht2
     have HC := Lib.hid hcall
     clear h1 hmo hcall hw
     go_wp2_with fail
     with_reducible refine (HC.out).mono ?_
     rintro e w1 ⟨rfl, rfl⟩
     go_wp2
     go_ret
     exact ⟨rfl, rfl⟩
    | false =>
     rw [if_neg (fun h => by rw [hw] at h; exact Bool.noConfusion h.2)] at ht2
     rw [hw] at hcall
     have HT := Lib.hid ht2
     have HC := Lib.hid hcall
     clear h1 hmo hcall hw ht2
     go_wp2_with fail
     with_reducible refine (HC.out).mono ?_
     rintro e w1 ⟨rfl, rfl⟩
     go_wp2
     go_round
     case rel => exact ⟨1, rfl, by omega, HT.out⟩
     case measure => simp [intOf]
  ·have ht2 : (if 3 % n ≠ 0 ∧ wit 3 n = true then false else sprpL n ([2, 3, 5, 7].drop 2)) = res := ht
   have hcall : Calls Tryz.prog 143 #[.int .u64 3, .int .u64 (n : Int)] w fun e w' => e = .returned (.bool (wit 3 n)) ∧ w' = w := HW.out 3 (by omega)
   have hmo := HMO.out 3
   clear ht
   by_cases h1 : 3 % n = 0
   ·rw [if_neg (fun h => h.1 h1)] at ht2
    have n1 : ((3 : Int) % (n : Int) != 0) = false := by
     rw [show ((3 : Int) % (n : Int)) = ((3 % n : Nat) : Int) from hmo.symm, h1]; rfl
    have HT := Lib.hid ht2
    clear h1 hmo ht2 hcall
    go_wp2
    go_round
    case rel => exact ⟨2, rfl, by omega, HT.out⟩
    case measure => simp [intOf]
   ·have n1 : ((3 : Int) % (n : Int) != 0) = true := by
     rw [show ((3 : Int) % (n : Int)) = ((3 % n : Nat) : Int) from hmo.symm, bne_iff_ne]; omega
    cases hw : wit 3 n with
    | true =>
     rw [if_pos ⟨h1, hw⟩] at ht2
     rw [hw] at hcall
     subst ht2
     have HC := Lib.hid hcall
     clear h1 hmo hcall hw
     go_wp2_with fail
     with_reducible refine (HC.out).mono ?_
     rintro e w1 ⟨rfl, rfl⟩
     go_wp2
     go_ret
     exact ⟨rfl, rfl⟩
    | false =>
     rw [if_neg (fun h => by rw [hw] at h; exact Bool.noConfusion h.2)] at ht2
     rw [hw] at hcall
     have HT := Lib.hid ht2
     have HC := Lib.hid hcall
     clear h1 hmo hcall hw ht2
     go_wp2_with fail
     with_reducible refine (HC.out).mono ?_
     rintro e w1 ⟨rfl, rfl⟩
     go_wp2
     go_round
     case rel => exact ⟨2, rfl, by omega, HT.out⟩
     case measure => simp [intOf]
  ·have ht2 : (if 5 % n ≠ 0 ∧ wit 5 n = true then false else sprpL n ([2, 3, 5, 7].drop 3)) = res := ht
   have hcall : Calls Tryz.prog 143 #[.int .u64 5, .int .u64 (n : Int)] w fun e w' => e = .returned (.bool (wit 5 n)) ∧ w' = w := HW.out 5 (by omega)
   have hmo := HMO.out 5
   clear ht
   by_cases h1 : 5 % n = 0
   ·rw [if_neg (fun h => h.1 h1)] at ht2
    have n1 : ((5 : Int) % (n : Int) != 0) = false := by
     rw [show ((5 : Int) % (n : Int)) = ((5 % n : Nat) : Int) from hmo.symm, h1]; rfl
    have HT := Lib.hid ht2
    clear h1 hmo ht2 hcall
    go_wp2
    go_round
    case rel => exact ⟨3, rfl, by omega, HT.out⟩
    case measure => simp [intOf]
   ·have n1 : ((5 : Int) % (n : Int) != 0) = true := by
     rw [show ((5 : Int) % (n : Int)) = ((5 % n : Nat) : Int) from hmo.symm, bne_iff_ne]; omega
    cases hw : wit 5 n with
    | true =>
     rw [if_pos ⟨h1, hw⟩] at ht2
     rw [hw] at hcall
     subst ht2
     have HC := Lib.hid hcall
     clear h1 hmo hcall hw
     go_wp2_with fail
     with_reducible refine (HC.out).mono ?_
     rintro e w1 ⟨rfl, rfl⟩
     go_wp2
     go_ret
     exact ⟨rfl, rfl⟩
    | false =>
     rw [if_neg (fun h => by rw [hw] at h; exact Bool.noConfusion h.2)] at ht2
     rw [hw] at hcall
     have HT := Lib.hid ht2
     have HC := Lib.hid hcall
     clear h1 hmo hcall hw ht2
     go_wp2_with fail
     with_reducible refine (HC.out).mono ?_
     rintro e w1 ⟨rfl, rfl⟩
     go_wp2
     go_round
     case rel => exact ⟨3, rfl, by omega, HT.out⟩
     case measure => simp [intOf]
  ·have ht2 : (if 7 % n ≠ 0 ∧ wit 7 n = true then false else sprpL n ([2, 3, 5, 7].drop 4)) = res := ht
   have hcall : Calls Tryz.prog 143 #[.int .u64 7, .int .u64 (n : Int)] w fun e w' => e = .returned (.bool (wit 7 n)) ∧ w' = w := HW.out 7 (by omega)
   have hmo := HMO.out 7
   clear ht
   by_cases h1 : 7 % n = 0
   ·rw [if_neg (fun h => h.1 h1)] at ht2
    have n1 : ((7 : Int) % (n : Int) != 0) = false := by
     rw [show ((7 : Int) % (n : Int)) = ((7 % n : Nat) : Int) from hmo.symm, h1]; rfl
    have HT := Lib.hid ht2
    clear h1 hmo ht2 hcall
    go_wp2
    go_round
    case rel => exact ⟨4, rfl, by omega, HT.out⟩
    case measure => simp [intOf]
   ·have n1 : ((7 : Int) % (n : Int) != 0) = true := by
     rw [show ((7 : Int) % (n : Int)) = ((7 % n : Nat) : Int) from hmo.symm, bne_iff_ne]; omega
    cases hw : wit 7 n with
    | true =>
     rw [if_pos ⟨h1, hw⟩] at ht2
     rw [hw] at hcall
     subst ht2
     have HC := Lib.hid hcall
     clear h1 hmo hcall hw
     go_wp2_with fail
     with_reducible refine (HC.out).mono ?_
     rintro e w1 ⟨rfl, rfl⟩
     go_wp2
     go_ret
     exact ⟨rfl, rfl⟩
    | false =>
     rw [if_neg (fun h => by rw [hw] at h; exact Bool.noConfusion h.2)] at ht2
     rw [hw] at hcall
     have HT := Lib.hid ht2
     have HC := Lib.hid hcall
     clear h1 hmo hcall hw ht2
     go_wp2_with fail
     with_reducible refine (HC.out).mono ?_
     rintro e w1 ⟨rfl, rfl⟩
     go_wp2
     go_round
     case rel => exact ⟨4, rfl, by omega, HT.out⟩
     case measure => simp [intOf]
  ·have ht2 : res = true := ht.symm
   subst ht2
   clear ht
   go_wp2
   go_ret
   exact ⟨rfl, rfl⟩
theorem sprp_629 : sprp 2147483629 = true := by decide +kernel
theorem sprp_between : sprp 2147483645 = false ∧ sprp 2147483643 = false ∧ sprp 2147483641 = false ∧ sprp 2147483639 = false ∧ sprp 2147483637 = false ∧ sprp 2147483635 = false ∧ sprp 2147483633 = false ∧ sprp 2147483631 = false := by decide +kernel
end Go.Proofs.YtknaghdoffigjaaGreatDoor
