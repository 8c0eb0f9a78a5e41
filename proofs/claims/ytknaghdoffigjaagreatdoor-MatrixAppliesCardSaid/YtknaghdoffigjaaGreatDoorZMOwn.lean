import Derived.Test.YtknaghdoffigjaaGreatDoorZMEqual
import Derived.RangeFuncBound
import Derived.RangeFuncCalls
import Derived.RangeFuncLeaves
import Derived.RangeFuncNested
import Derived.RangeFuncWrites
set_option linter.unusedSimpArgs false
set_option linter.unusedVariables false
set_option linter.unnecessarySimpa false
namespace Go.Proofs.YtknaghdoffigjaaGreatDoor
open Go.RowKit Go
attribute [local go_sem] Oper.semAt_some
def KeptTo (B T : Nat) (W V : World) : Prop := W.heap.size ≤ V.heap.size ∧ ∀ i, B ≤ i → i < T → i < W.heap.size → V.heap[i]? = W.heap[i]?
def VisitsTo (P : Program) (gf : Nat) (first : Array Value) (encs : Nat → Array Value) (N e : Nat) : Prop :=
 ∀ (l : Nat) (J : Nat → World → Prop) (Jx : World → Prop) (W : World),
  (∀ k V V', J k V → Below V.heap.size V V' → J k V') → (∀ V V', Jx V → Below V.heap.size V V' → Jx V') →
  (∀ k, k < N → ∀ V, J k V → W.heap.size + e ≤ V.heap.size → YieldAt Fence.wide 0 P l (encs k) V fun x V' => (x = .returned (.bool true) ∧ J (k + 1) V' ∧ KeptTo W.heap.size (W.heap.size + e) V V') ∨ (x = .returned (.bool false) ∧ Jx V')) →
  J 0 W → CallsIn Fence.wide 0 P gf (first ++ #[.func (.yield l) #[] #[]]) W fun x V => (∃ v, x = .returned v) ∧ (J N V ∨ Jx V)
def bodyEndTo (B T : Nat) (I : Nat → World → Prop) (Ix : Code → World → Prop) (k : Nat) (W : World) : Exit → Act → World → Prop
 | .normal, _, V => KeptTo B T W V ∧ I (k + 1) V
 | .ret, _, V => KeptTo B T W V ∧ Ix .ret V
 | .exit id, _, V => KeptTo B T W V ∧ Ix (.exit id) V
 | .goto t, _, V => KeptTo B T W V ∧ Ix (.goto t) V
 | .panic _, _, _ => False
 | .outgrown, _, _ => False
theorem range_owned {P : Program} {g : Operand} {ps : Array Tmp} {assign body : Code} {Q : Exit → Act → World → Prop} {a : Act} {w : World} {gf : Nat} {first : Array Value} {encs : Nat → Array Value} {N e : Nat}
  (hg : a.eval g = .func (.func gf) first #[]) (eg : ∀ args w, (callFunc gf args).run P w = .ok (.enter gf args) w) (hv : VisitsTo P gf first encs N e) (hps : ∀ k, (encs k).size = ps.size)
  (I : Nat → World → Prop) (Ix : Code → World → Prop) (hI : ∀ k V V', I k V → Later w.heap.size V V' → I k V') (hIx : ∀ c V V', Ix c V → Later w.heap.size V V' → Ix c V') (h0 : I 0 w) (J2 : Nat → Act → World → Prop) (hJ2 : ∀ k a' V V', J2 k a' V → Later w.heap.size V V' → J2 k a' V')
  (hassign : ∀ (l k : Nat) (V : World) (K : Act → World → Prop), k < N → w.heap.size + 2 ≤ V.heap.size → I k V → (∀ a' V', J2 k a' V' → Below V.heap.size V V' → K a' V') → assign.wpIn (Fence.wide.inRound l) 0 P (Exit.then K (fun _ _ _ => False)) { tmps := (ps.zip (encs k)).foldl (fun t (p, v) => t.setIfInBounds p v) a.tmps, defers := [] } V)
  (hbody : ∀ (l k : Nat) (a' : Act) (V : World), k < N → w.heap.size + 2 + e ≤ V.heap.size → w.heap.size ≤ l → (∃ r, V.heap[l]? = some (.loop r)) → I k V → J2 k a' V → body.wpIn (Fence.wide.inRound l) 0 P (bodyEndTo w.heap.size (w.heap.size + 2 + e) I Ix k V) a' V)
  (hdone : ∀ (D : Nat) (V : World), w.heap.size ≤ D → I N V → V.heap[D]? = some (.deferred (some [])) → Q .normal { a with defers := { target := .collected D, args := #[] } :: a.defers } V)
  (hstop : ∀ (D : Nat) (c : Code) (V : World), w.heap.size ≤ D → Ix c V → V.heap[D]? = some (.deferred (some [])) → c.wpIn Fence.wide 0 P Q { a with defers := { target := .collected D, args := #[] } :: a.defers } V) :
  (Code.rangeFunc g ps assign body).wpIn Fence.wide 0 P Q a w := by
 refine wpIn_rangeFunc fun fn hfn => ?_
 obtain ⟨B, hB⟩ : ∃ B, B = w.heap.size := ⟨_, rfl⟩
 rw [← hB] at hI hIx hJ2 hassign hbody hdone hstop
 obtain ⟨rec, hrec⟩ : ∃ rec : LoopState → Option Code → Loop, rec = fun st pe => { state := st, pending := pe, fn := fn, tmps := a.tmps, params := ps, assign := assign, body := body, defers := B } := ⟨_, rfl⟩
 obtain ⟨V1, hV1⟩ : ∃ V1, V1 = (w.alloc (.deferred (some []))).alloc (.loop (rec .ready none)) := ⟨_, rfl⟩
 have z1 : V1.heap.size = B + 2 := by rw [hV1, hB]; simp
 have r1 : V1.heap[B + 1]? = some (.loop (rec .ready none)) := by
  have := World.alloc_heap_new (w.alloc (.deferred (some []))) (.loop (rec .ready none))
  rw [hV1, hB]
  simpa using this
 have d1 : V1.heap[B]? = some (.deferred (some [])) := by
  rw [hV1, hB]
  exact (Below.heap_alloc _ _ _ (by simp)).trans (World.alloc_heap_new w _)
 have i1 : I 0 V1 := by
  refine hI 0 w V1 h0 (later_grow (by omega) ?_)
  rw [hV1]
  exact ((Below.refl _ _).alloc (Nat.le_refl _) _).alloc (by simp) _
 -- the record's turns
 have turn : ∀ (st st' : LoopState) (pe pe' : Option Code) (V : World), V.heap[B + 1]? = some (.loop (rec st pe)) → Later B V (V.putObj (B + 1) (.loop (rec st' pe'))) ∧ (V.putObj (B + 1) (.loop (rec st' pe'))).heap[B + 1]? = some (.loop (rec st' pe')) := fun st st' pe pe' V h =>
  ⟨later_put _ (by omega) h rfl, World.putObj_heap_same (heap_lt h)⟩
 refine ⟨B + 1, [{ target := .collected B, args := #[] }], V1, { target := .fn (.func gf) #[], args := first ++ #[.func (.yield (B + 1)) #[] #[]] }, V1, gf, first ++ #[.func (.yield (B + 1)) #[] #[]], V1, ?_, ?_, ?_, ?_, ?_, ?_⟩
 ·rw [hV1, hrec, hB]
  exact run_enterLoop_outer _ _ _ _ _
 ·simp only [resolve, hg]
  simp [go_sem]
 ·intro f' _
  trivial
 ·simp [invoke, go_sem, eg]
 ·intro h; cases h
 ·refine (hv (B + 1) (fun k V => I k V ∧ V.heap[B + 1]? = some (.loop (rec .ready none)) ∧ V.heap[B]? = some (.deferred (some [])) ∧ B + 2 ≤ V.heap.size)
   (fun V => ∃ c, Ix c V ∧ V.heap[B + 1]? = some (.loop (rec .done (some c))) ∧ V.heap[B]? = some (.deferred (some []))) V1 ?_ ?_ ?_ ⟨i1, r1, d1, by omega⟩).mono ?_
  ·rintro k V V' ⟨hi, hr, hd, hz⟩ hb
   exact ⟨hI k V V' hi (later_grow (by omega) hb), (hb.block _ (heap_lt hr)).trans hr, (hb.block _ (heap_lt hd)).trans hd, Nat.le_trans hz hb.size⟩
  ·rintro V V' ⟨c, hi, hr, hd⟩ hb
   exact ⟨c, hIx c V V' hi (later_grow (by have := heap_lt hr; omega) hb), (hb.block _ (heap_lt hr)).trans hr, (hb.block _ (heap_lt hd)).trans hd⟩
  ·rintro k hk V ⟨hi, hr, hd, hz⟩ hzz
   rw [z1] at hzz
   have hy := run_yield (P := P) (args := encs k) hr (by rw [hrec]; exact hps k)
   rw [hrec] at hy
   refine ⟨fn, _, assign, body, hy, roundIn_of_wpIn hfn (hassign (B + 1) k V _ hk hz hi ?_)⟩
   intro a' V0 hj0 hb0
   have hi0 := hI k V V0 hi (later_grow (by omega) hb0)
   have hr0 := (hb0.block _ (heap_lt hr)).trans hr
   have hd0 := (hb0.block _ (heap_lt hd)).trans hd
   have hz0 : B + 2 ≤ V0.heap.size := Nat.le_trans hz hb0.size
   obtain ⟨t1, t2⟩ := turn .ready .busy none none V0 hr0
   have hbegin := run_beginRound (P := P) hr0 (by rw [hrec])
   have eb : { rec .ready none with state := .busy } = rec .busy none := by rw [hrec]
   rw [eb] at hbegin
   have d2 : (V0.putObj (B + 1) (.loop (rec .busy none))).heap[B]? = some (.deferred (some [])) := (World.putObj_heap_other (by omega)).trans hd0
   have s2 := put_size V0 (B + 1) (.loop (rec .busy none))
   have old2 : ∀ i, B + 2 ≤ i → i < V.heap.size → (V0.putObj (B + 1) (.loop (rec .busy none))).heap[i]? = V.heap[i]? := fun i h h' => (World.putObj_heap_other (by omega)).trans (hb0.block i h')
   have hi2 := hI k _ _ hi0 t1
   have hj2 := hJ2 k a' _ _ hj0 t1
   have hs0 := hb0.size
   refine ⟨_, hbegin, ?_⟩
   generalize V0.putObj (B + 1) (.loop (rec .busy none)) = V2 at *
   refine wpIn_mono (hbody (B + 1) k a' V2 hk (by omega) (by omega) ⟨_, t2⟩ hi2 hj2) ?_
   have fin : ∀ (jump : Option Code) (V3 : World), KeptTo B (B + 2 + e) V2 V3 →
     (Instr.endRound (B + 1) jump).run P V3 = .ok (.bool jump.isNone) (V3.putObj (B + 1) (.loop (rec (if jump.isNone then .ready else .done) jump))) ∧
     Later B V3 (V3.putObj (B + 1) (.loop (rec (if jump.isNone then .ready else .done) jump))) ∧
     (V3.putObj (B + 1) (.loop (rec (if jump.isNone then .ready else .done) jump))).heap[B + 1]? = some (.loop (rec (if jump.isNone then .ready else .done) jump)) ∧
     (V3.putObj (B + 1) (.loop (rec (if jump.isNone then .ready else .done) jump))).heap[B]? = some (.deferred (some [])) ∧
     KeptTo (B + 2) (B + 2 + e) V (V3.putObj (B + 1) (.loop (rec (if jump.isNone then .ready else .done) jump))) := fun jump V3 hk3 => by
    have r3 : V3.heap[B + 1]? = some (.loop (rec .busy none)) := (hk3.2 (B + 1) (by omega) (by omega) (heap_lt t2)).trans t2
    have d3 : V3.heap[B]? = some (.deferred (some [])) := (hk3.2 B (Nat.le_refl _) (by omega) (heap_lt d2)).trans d2
    have he := run_endRound (P := P) jump r3
    have ee : { rec .busy none with state := if jump.isNone then .ready else .done, pending := jump } = rec (if jump.isNone then .ready else .done) jump := by rw [hrec]
    rw [ee] at he
    obtain ⟨u1, u2⟩ := turn .busy (if jump.isNone then .ready else .done) none jump V3 r3
    refine ⟨he, u1, u2, (World.putObj_heap_other (by omega)).trans d3, ?_, fun i h1 hT h2 => ?_⟩
    ·rw [put_size]; have := hk3.1; omega
    ·exact (World.putObj_heap_other (by omega)).trans ((hk3.2 i (by omega) hT (by omega)).trans (old2 i h1 h2))
   rintro ee a3 V3 hp
   cases ee with
   | normal =>
    obtain ⟨hk3, hi3⟩ := hp
    obtain ⟨e1, e2, e3, e4, e5⟩ := fin none V3 hk3
    exact ⟨_, _, e1, .inl ⟨rfl, ⟨hI _ _ _ hi3 e2, e3, e4, by have := e5.1; omega⟩, by rw [z1]; exact e5⟩⟩
   | ret =>
    obtain ⟨hk3, hi3⟩ := hp
    obtain ⟨e1, e2, e3, e4, e5⟩ := fin (some .ret) V3 hk3
    exact ⟨_, _, e1, .inr ⟨rfl, _, hIx _ _ _ hi3 e2, e3, e4⟩⟩
   | exit id =>
    obtain ⟨hk3, hi3⟩ := hp
    obtain ⟨e1, e2, e3, e4, e5⟩ := fin (some (.exit id)) V3 hk3
    exact ⟨_, _, e1, .inr ⟨rfl, _, hIx _ _ _ hi3 e2, e3, e4⟩⟩
   | goto t =>
    obtain ⟨hk3, hi3⟩ := hp
    obtain ⟨e1, e2, e3, e4, e5⟩ := fin (some (.goto t)) V3 hk3
    exact ⟨_, _, e1, .inr ⟨rfl, _, hIx _ _ _ hi3 e2, e3, e4⟩⟩
   | panic ch => exact hp.elim
   | outgrown => exact hp.elim
  ·rintro ev V ⟨⟨v, rfl⟩, (⟨hi, hr, hd, hz⟩ | ⟨c, hi, hr, hd⟩)⟩
   ·exact ⟨none, _, by have h := run_endLoop (P := P) hr (by rw [hrec]; simp); rw [hrec] at h; exact h, hdone B _ (Nat.le_refl _) (hI _ _ _ hi (later_put _ (by omega) hr rfl)) ((World.putObj_heap_other (by omega)).trans hd)⟩
   ·exact ⟨some c, _, by have h := run_endLoop (P := P) hr (by rw [hrec]; simp); rw [hrec] at h; exact h, hstop B c _ (Nat.le_refl _) (hIx _ _ _ hi (later_put _ (by omega) hr rfl)) ((World.putObj_heap_other (by omega)).trans hd)⟩
set_option maxRecDepth 100000 in
set_option maxHeartbeats 2000000 in
theorem each_visitsToQ (r c : Nat) (A : Option Addr) (n cap : Nat) (hr : r ≤ 400) (hc : c ≤ 400) (hn : r * c ≤ cap) (hcap : cap ≤ maxLen) :
  VisitsTo Tryz.prog 111 #[mat r c A n cap] (rowArgsQ c A) r 1 := by
 intro l J Jx W hJ hJx hY h0
 have hrow := fun (k : Nat) (hk : k < r) V => row_anyQ r c k A n cap V hk hr hc hn hcap
 unfold mat at *
 refine callsIn_of_wp Tryz.func111 rfl trivial ?_ rfl
 simp only [Tryz.ntmps111, List.size_toArray, List.length_cons, List.length_nil, Nat.reduceAdd, Nat.reduceSub, Array.replicate_succ, Array.replicate_zero, List.push_toArray, List.append_toArray, List.nil_append, List.cons_append]
 have hT := TbQ.new W (r : Int) (c : Int) A n cap
 have hB : Below W.heap.size W (W.alloc (.cells #[.int .i64 (r : Int), .int .i64 (c : Int), .slice A n cap] 88)) := (Below.refl _ _).alloc (Nat.le_refl _) _
 have hJ1 := hJ 0 W _ h0 hB
 gi_wp2
 generalize W.alloc (.cells #[.int .i64 (r : Int), .int .i64 (c : Int), .slice A n cap] 88) = W1 at *
 have hz1 : W.heap.size < W1.heap.size := (Array.getElem?_eq_some_iff.1 hT).1
 gi_loopw [4, 7] (fun _ i wr => ∃ k : Nat, i = .int .i64 k ∧ k ≤ r ∧ J k wr ∧ TbQ wr W.heap.size (r : Int) (c : Int) A n cap) (fun _ i _ => r - (intOf i).toNat)
 case atStart => exact ⟨0, rfl, Nat.zero_le _, hJ1, hT⟩
 case round =>
  obtain ⟨k, rfl, hk, hj, ht⟩ := hrel
  by_cases hlt : k < r
  ·have c0 := ht.cell0
   have c1 := ht.cell1
   have c2 := ht.cell2
   have htl : W.heap.size < wr.heap.size := (Array.getElem?_eq_some_iff.1 ht).1
   have hrk := hrow k hlt
   have hYk := hY k hlt
   unfold rowArgsQ at hYk
   generalize (if c = 0 then A else A.map (·.add (k * c))) = A' at hrk hYk
   clear hrow hY
   gi_wp2_with fail
   refine ⟨trivial, rfl, ?_⟩
   with_reducible refine (callsIn_wide.2 (hrk _)).mono ?_
   rintro e V1 ⟨rfl, hb1⟩
   have hj1 := hJ k _ _ hj hb1
   have ht1 : TbQ V1 W.heap.size (r : Int) (c : Int) A n cap := (hb1.block _ htl).trans ht
   have htl1 : W.heap.size < V1.heap.size := (Array.getElem?_eq_some_iff.1 ht1).1
   obtain ⟨fn, tmps, assign, body, hy, hR⟩ := hYk V1 hj1 (by omega)
   clear c0 c1 c2 hrk hYk
   gi_wp2
   refine ⟨rfl, ?_⟩
   refine hR.mono ?_
   rintro e V2 (⟨rfl, hj2, hk2⟩ | ⟨rfl, hx2⟩)
   ·have ht2 : TbQ V2 W.heap.size (r : Int) (c : Int) A n cap := (hk2.2 _ (Nat.le_refl _) (by omega) htl1).trans ht1
    gi_wp2
    go_roundw
    case rel => exact ⟨k + 1, by simp, by omega, hj2, ht2⟩
    case measure => simp [intOf]; omega
   ·gi_wp2
    refine bodyPost_ret (results_none rfl _ _ _) rfl ?_
    exact ⟨⟨_, rfl⟩, .inr hx2⟩
  ·obtain rfl : k = r := by omega
   gi_wp2
   go_end0
   exact ⟨⟨_, rfl⟩, .inl hj⟩
end Go.Proofs.YtknaghdoffigjaaGreatDoor
namespace Go.Proofs.YtknaghdoffigjaaGreatDoor
open Go.RowKit Go
def invE (p : Nat) (zs : List Int) (n i q : Nat) : Nat := if q < n then (zs.getD (i * n + q) 0 % (p : Int)).toNat else if q = n + i then 1 else 0
def invS (p : Nat) (zs : List Int) (n k : Nat) : List Nat := (List.range (n * (n + n))).map fun j => if j / (n + n) < k then invE p zs n (j / (n + n)) (j % (n + n)) else 0
def invR (p : Nat) (zs : List Int) (n k : Nat) : List Nat := (List.range n).map fun j => (zs.getD (k * n + j) 0 % (p : Int)).toNat
theorem invS_length (p : Nat) (zs : List Int) (n k : Nat) : (invS p zs n k).length = n * (n + n) := by simp [invS]
theorem invS_get (p : Nat) (zs : List Int) (n k j : Nat) (h : j < n * (n + n)) : (invS p zs n k)[j]? = some (if j / (n + n) < k then invE p zs n (j / (n + n)) (j % (n + n)) else 0) := by
 unfold invS
 rw [List.getElem?_map, List.getElem?_range h]
 rfl
theorem invS_zero (p : Nat) (zs : List Int) (n : Nat) : invS p zs n 0 = List.replicate (n * (n + n)) 0 := by
 unfold invS
 apply List.ext_getElem
 ·simp
 ·intro i h1 h2; simp
theorem invS_lt (p : Nat) (zs : List Int) (n k : Nat) (hp : 1 < p) (j : Nat) : (invS p zs n k).getD j 0 < p := by
 rcases Nat.lt_or_ge j (n * (n + n)) with h | h
 ·rw [List.getD_eq_getElem?_getD, invS_get _ _ _ _ _ h, Option.getD_some]
  split
  ·unfold invE
   split
   ·have h0 := Int.emod_nonneg (zs.getD (j / (n + n) * n + j % (n + n)) 0) (show (p : Int) ≠ 0 by omega)
    have h1 := Int.emod_lt_of_pos (zs.getD (j / (n + n) * n + j % (n + n)) 0) (show (0 : Int) < (p : Int) by omega)
    omega
   ·split <;> omega
  ·omega
 ·rw [List.getD_eq_getElem?_getD, List.getElem?_eq_none (by rw [invS_length]; exact h)]
  simp; omega
theorem invS_next (p : Nat) (zs : List Int) (n k : Nat) (hk : k < n) : (cpL (k * (n + n)) n (invR p zs n k) (invS p zs n k)).set (k * (n + n) + (n + k)) 1 = invS p zs n (k + 1) := by
 have hkc : k * (n + n) + (n + n) ≤ n * (n + n) := by
  have := Nat.mul_le_mul_right (n + n) (show k + 1 ≤ n by omega)
  rw [Nat.add_mul] at this
  omega
 have hl : (cpL (k * (n + n)) n (invR p zs n k) (invS p zs n k)).length = n * (n + n) := by
  rw [cpL_length _ _ _ _ (by simp [invR]) (by rw [invS_length]; omega), invS_length]
 apply List.ext_getElem?
 intro j
 rw [List.getElem?_set, hl]
 rcases Nat.lt_or_ge j (n * (n + n)) with h | h
 ·have hc : 0 < n + n := pos_of_lt h
  have hdm := Nat.div_add_mod j (n + n)
  rw [Nat.mul_comm] at hdm
  have hml := Nat.mod_lt j hc
  rw [invS_get _ _ _ _ _ h, cpL_get _ _ _ _ (by simp [invR]) (by rw [invS_length]; omega), invS_get _ _ _ _ _ h]
  by_cases he : k * (n + n) + (n + k) = j
  ·obtain ⟨h1, h2⟩ := split_q (c := n + n) (i := k) (j := n + k) (by omega) he.symm
   rw [if_pos he, if_pos (by omega), h1, h2, if_pos (Nat.lt_succ_self _)]
   unfold invE
   rw [if_neg (show ¬ n + k < n by omega), if_pos rfl]
  ·rw [if_neg he]
   by_cases ha : j < k * (n + n)
   ·have hd : j / (n + n) < k := (Nat.div_lt_iff_lt_mul hc).2 ha
    rw [if_pos ha, if_pos hd, if_pos (show j / (n + n) < k + 1 by omega)]
   ·have hge : k ≤ j / (n + n) := (Nat.le_div_iff_mul_le hc).2 (by omega)
    rw [if_neg ha]
    by_cases hb : j < k * (n + n) + n
    ·have hd : j / (n + n) = k := by
      have : j / (n + n) < k + 1 := (Nat.div_lt_iff_lt_mul hc).2 (by rw [Nat.add_mul]; omega)
      omega
     have e : j - k * (n + n) = j % (n + n) := by rw [hd] at hdm; omega
     have hq : j % (n + n) < n := by omega
     rw [if_pos hb, hd, if_pos (Nat.lt_succ_self _), e]
     unfold invR invE
     rw [List.getElem?_map, List.getElem?_range hq, if_pos hq]
     rfl
    ·rw [if_neg hb, if_neg (show ¬ j / (n + n) < k by omega)]
     by_cases hd : j / (n + n) < k + 1
     ·have hdk : j / (n + n) = k := by omega
      rw [if_pos hd, hdk]
      rw [hdk] at hdm
      unfold invE
      rw [if_neg (show ¬ j % (n + n) < n by omega), if_neg (show ¬ j % (n + n) = n + k by omega)]
     ·rw [if_neg hd]
 ·rw [List.getElem?_eq_none (by rw [hl]; exact h), List.getElem?_eq_none (by rw [invS_length]; exact h)]
  rw [if_neg (by omega)]
def invO (ys : List Nat) (n : Nat) : Nat → List Nat
 | 0 => []
 | k + 1 => invO ys n k ++ ((ys.drop (k * (n + n) + n)).take n)
theorem invO_length (ys : List Nat) (n k : Nat) (h : k * (n + n) ≤ ys.length) : (invO ys n k).length = k * n := by
 induction k with
 | zero => simp [invO]
 | succ k ih =>
  rw [Nat.add_mul] at h
  rw [invO, List.length_append, ih (by omega), List.length_take, List.length_drop, Nat.add_mul]
  omega
def OwQ (w : World) (B : Nat) (v : Value) (xs : List Nat) : Prop := w.ownsRow B 80 1 v xs.length (xs.map fun x : Nat => Value.int .u64 (x : Int))
theorem OwQ.nil (w : World) (B : Nat) : OwQ w B (.slice none 0 0) [] := World.ownsRow_nil _ _ _ _
theorem OwQ.rd {w : World} {B : Nat} {v : Value} {xs : List Nat} (h : OwQ w B v xs) : ∃ A c, v = .slice A xs.length c ∧ xs.length ≤ c ∧ c ≤ maxLen ∧ RdA w A xs := by
 rcases h.2 with ⟨rfl, h0⟩ | ⟨g, cap, cur, rfl, hb, hh, hnc, hcm, hcs, hct⟩
 ·obtain rfl : xs = [] := List.length_eq_zero_iff.1 h0
  exact ⟨none, 0, rfl, by simp, by simp, RdA.nil _ _⟩
 ·refine ⟨_, _, rfl, hnc, hcm, fun k hk => ⟨_, rfl, heap_lt hh, ?_⟩⟩
  rw [add_from0, cell_of_row w g k cur _ (0, 0) hh]
  have h2 := congrArg (fun l : List Value => l[k]?) hct
  change (cur.toList.take (xs.length * 1))[k]? = (xs.map fun x : Nat => Value.int .u64 (x : Int))[k]? at h2
  rw [List.getElem?_take_of_lt (by omega), Array.getElem?_toList] at h2
  rw [h2]
  simp [List.getD_eq_getElem?_getD, hk]
theorem OwQ.own {w : World} {B : Nat} {v : Value} {xs : List Nat} (h : OwQ w B v xs) (k : Nat) (hk : v.ownBlock = some k) : B ≤ k := by
 rcases h.2 with ⟨rfl, _⟩ | ⟨g, cap, cur, rfl, hb, _⟩
 ·cases hk
 ·injection hk with hk
  exact hk ▸ hb
theorem OwQ.later {w w' : World} {B C : Nat} {v : Value} {xs : List Nat} (h : OwQ w B v xs) (hl : Later C w w') : OwQ w' B v xs := by
 rcases h.2 with ⟨rfl, h0⟩ | ⟨g, cap, cur, rfl, hb, hh, hnc, hcm, hcs, hct⟩
 ·exact ⟨h.1, .inl ⟨rfl, h0⟩⟩
 ·exact ⟨h.1, .inr ⟨g, cap, cur, rfl, hb, hl.2 _ _ hh rfl, hnc, hcm, hcs, hct⟩⟩
theorem OwQ.block {w w' : World} {B : Nat} {v : Value} {xs : List Nat} (h : OwQ w B v xs) (hb' : ∀ i, B ≤ i → i < w.heap.size → w'.heap[i]? = w.heap[i]?) : OwQ w' B v xs := by
 rcases h.2 with ⟨rfl, h0⟩ | ⟨g, cap, cur, rfl, hb, hh, hnc, hcm, hcs, hct⟩
 ·exact ⟨h.1, .inl ⟨rfl, h0⟩⟩
 ·exact ⟨h.1, .inr ⟨g, cap, cur, rfl, hb, (hb' g hb (heap_lt hh)).trans hh, hnc, hcm, hcs, hct⟩⟩
theorem Lst.rdAt {w : World} {g : Nat} {xs : List Nat} (h : Lst w g xs) (o m : Nat) (hm : o + m ≤ xs.length) : RdA w (some ⟨g, o, none⟩) ((xs.drop o).take m) := fun k hk => by
 have hk : k < m := by rw [List.length_take] at hk; omega
 refine ⟨_, rfl, h.lt, ?_⟩
 rw [show (⟨g, o, none⟩ : Addr).add k = ⟨g, o + k, none⟩ from by unfold Addr.add; split <;> simp_all, h.cell (by omega)]
 rw [List.getD_eq_getElem?_getD, List.getD_eq_getElem?_getD, List.getElem?_take_of_lt hk, List.getElem?_drop]
theorem Kg.other {row row' : Option Nat} {w0 w w' : World} {l : List (Option (Nat × Obj))} (h : Kg row w0 w l) (hb : w.grownBy w' row') (hr : ∀ k, row' = some k → w0.heap.size ≤ k ∧ ∀ (j c : Nat) (p : Obj), l[j]? = some (some (c, p)) → c ≠ k) : Kg row w0 w' l := by
 refine ⟨⟨hb.os.trans h.1.os, hb.tape.trans h.1.tape, hb.output.trans h.1.output, Nat.le_trans h.1.size hb.size, fun i hi hne => (hb.block i (Nat.lt_of_lt_of_le hi h.1.size) (fun e => by have := (hr i e.symm).1; omega)).trans (h.1.block i hi hne)⟩, fun i b o hi => ⟨h.ge i hi, (hb.block b (h.lt i hi) (fun e => (hr b e.symm).2 i b o hi rfl)).trans (h.at_ i hi)⟩, h.2.2⟩
theorem wpIn_append_run {l n : Nat} {P : Program} {o : Oper} {a : Act} {w w' : World} {K : Act → World → Prop} {Q : Exit → Act → World → Prop} (s x : Operand) (t : TypeId)
  (ho : o.op = .call { callee := .builtin .append, args := #[s, x], argTypes := #[t, t] }) (sv xv v : Value) (hs : a.eval s = sv) (hx : a.eval x = xv)
  (hrun : (Builtin.append_ #[t, t] o.type #[sv, xv]).run P w = .ok v w') (h : K (a.put o.dst v) w') : o.wpIn (Fence.wide.inRound l) n P a w K Q := by
 unfold Oper.wpIn
 refine ⟨fun f _ => trivial, ?_⟩
 rw [Fence.inRound_round, Oper.semAt_some l a.eval o (by rw [ho]; intro c hc; cases hc)]
 simp [execOp, ho, resolve, invoke, builtin, hs, hx, hrun, Result.andThen]
 exact h
theorem KeptTo.refl (B T : Nat) (V : World) : KeptTo B T V V := ⟨Nat.le_refl _, fun _ _ _ _ => rfl⟩
theorem KeptTo.grown {B T : Nat} {V W X : World} {row : Option Nat} (h : KeptTo B T V W) (hb : W.grownBy X row) (hr : ∀ k, row = some k → T ≤ k) : KeptTo B T V X :=
 ⟨Nat.le_trans h.1 hb.size, fun i h1 hT h2 => (hb.block i (Nat.lt_of_lt_of_le h2 h.1) (fun e => by have := hr i e.symm; omega)).trans (h.2 i h1 hT h2)⟩
theorem KeptTo.put {B T : Nat} {V W : World} (h : KeptTo B T V W) {p : Addr} (hp : p.block < B) (v : Value) : KeptTo B T V (W.setCell p v) :=
 ⟨by have := h.1; simpa [World.setCell] using this, fun i h1 hT h2 => (Below.heap_setCell W p v i (by omega)).trans (h.2 i h1 hT h2)⟩
theorem KeptTo.drew {B T : Nat} {V W : World} (h : KeptTo B T V W) : KeptTo B T V W.drew := h
theorem OwQ.drew {w : World} {B : Nat} {v : Value} {xs : List Nat} (h : OwQ w B v xs) : OwQ w.drew B v xs := h.block fun _ _ _ => rfl
set_option maxRecDepth 100000 in
theorem appendQ (w : World) (B : Nat) (v : Value) (xs : List Nat) (h : OwQ w B v xs) (a : Addr) (n c : Nat) (ys : List Nat) (hy : RdA w (some a) ys) (hn : ys.length = n) (hsz : xs.length + n ≤ 1000000) (hB : B ≤ w.heap.size) :
  ∃ v' w', (Builtin.append_ #[84, 84] 84 #[v, .slice (some a) n c]).run Tryz.prog w = .ok v' w' ∧ OwQ w' B v' (xs ++ ys) ∧ w.grownBy w' v.ownBlock := by
 obtain ⟨i0, hi, hz0, hz1, hz2⟩ := info_parts info_u64
 obtain ⟨v', w', hr, hown, hgr, _⟩ := run_append_own (P := Tryz.prog) w B 84 84 80 i0 (.int .u64 0) 1 8 Tryz.underlying84 hi hz0 hz1 hz2 rfl (by decide) _ _ _ h a n c (ys.map fun x : Nat => Value.int .u64 (x : Int)) (by simp [hn])
  (fun j u hj => by
   have hjl : j < ys.length := by
    have := (List.getElem?_eq_some_iff.1 hj).1
    simpa using this
   obtain ⟨a', e, _, hc⟩ := hy j hjl
   injection e with e
   subst e
   rw [hc]
   rw [List.getElem?_map, List.getElem?_eq_getElem hjl] at hj
   rw [List.getD_eq_getElem?_getD, List.getElem?_eq_getElem hjl]
   exact hj) (fun u hu => by obtain ⟨x, _, rfl⟩ := List.mem_map.1 hu; rfl) (by unfold maxLen; omega) (by omega) hB
 refine ⟨v', w', hr, ?_, hgr⟩
 unfold OwQ
 rw [List.length_append, hn, List.map_append]
 exact hown
end Go.Proofs.YtknaghdoffigjaaGreatDoor
