import Derived.Test.YtknaghdoffigjaaGreatDoorZMInt
import Derived.OrdersIn
set_option linter.unusedSimpArgs false
set_option linter.unusedVariables false
set_option linter.unnecessarySimpa false
namespace Go
section
variable {P : Program} {ops : Array Oper} {Q : Exit → Act → World → Prop} {md : Region.Mode}
def Region.lowB (md : Region.Mode) (ops : Array Oper) : Bool :=
 (List.range ops.size).all fun i => match ops[i]? with
  | some o => o.after.all fun e => !Region.binds md e || decide (e.on < i)
  | none => true
theorem Region.all_listed {listed : Array Bool} (hlow : Region.lowB md ops = true) (hr : Region.ready md ops listed = []) :
  ∀ (n i : Nat), i < n → i < ops.size → listed.getD i true = true := by
 intro n
 induction n with
 | zero => intro i hi; omega
 | succ n ih =>
  intro i hi hs
  rcases Nat.lt_or_ge i n with h | h
  ·exact ih i h hs
  ·cases hl : listed.getD i true with
   | true => rfl
   | false =>
    exfalso
    have hm : i ∈ Region.ready md ops listed := by
     rw [mem_ready]
     refine ⟨hl, ops[i], Array.getElem?_eq_getElem hs, fun e he hb => ?_⟩
     have hlo := (List.all_eq_true.1 hlow) i (List.mem_range.2 hs)
     rw [Array.getElem?_eq_getElem hs] at hlo
     have := (Array.all_eq_true_iff_forall_mem.1 hlo) e he
     simp only [hb, Bool.not_true, Bool.false_or, decide_eq_true_eq] at this
     have hd := ih e.on (by omega) (by omega)
     rcases Nat.lt_or_ge e.on listed.size with h' | h'
     ·simp [h'] at hd ⊢; exact hd
     ·simp at hl
      rcases Nat.lt_or_ge i listed.size with h2 | h2
      ·omega
      ·simp [Array.getElem?_eq_none h2] at hl
    rw [hr] at hm
    cases hm
theorem wpAny_inv (Inv : (Nat → Bool) → Act → World → Prop) (hlow : Region.lowB md ops = true)
  (hstep : ∀ i o, ops[i]? = some o → ∀ (L : Nat → Bool) a w, Inv L a w → L i = false → (∀ e ∈ o.after, Region.binds md e = true → L e.on = true) →
   (∀ j oj, ops[j]? = some oj → (oj.after.any fun e => Region.binds md e && e.on == i) = true → L j = false) →
   wpOp P ops Q i (Inv fun j => if j = i then true else L j) a w)
  (hend : ∀ a w, Inv (fun _ => true) a w → Q .normal a w) :
  ∀ (fuel : Nat) (listed : Array Bool) (a : Act) (w : World), listed.size = ops.size → listed.toList.count false ≤ fuel →
   (∀ j oj, ops[j]? = some oj → listed.getD j true = true → ∀ e ∈ oj.after, Region.binds md e = true → listed.getD e.on true = true) →
   Inv (fun j => listed.getD j true) a w → wpAny P md ops Q fuel listed a w := by
 have done : ∀ (listed : Array Bool) a w, listed.size = ops.size → Region.ready md ops listed = [] → Inv (fun j => listed.getD j true) a w → Q .normal a w := by
  intro listed a w hs hr hI
  refine hend a w ?_
  rwa [show (fun j => listed.getD j true) = fun _ => true from funext fun j => by
   rcases Nat.lt_or_ge j ops.size with h | h
   ·exact Region.all_listed hlow hr (j + 1) j (by omega) h
   ·simp [Array.getElem?_eq_none (show listed.size ≤ j by omega)]] at hI
 intro fuel
 induction fuel with
 | zero =>
  intro listed a w hs hc hcl hI
  have hall : ∀ j, listed.getD j true = true := by
   intro j
   cases hl : listed.getD j true with
   | true => rfl
   | false =>
    exfalso
    have hj : j < listed.size := by
     rcases Nat.lt_or_ge j listed.size with h | h
     ·exact h
     ·simp [Array.getElem?_eq_none h] at hl
    simp [hj] at hl
    have : 0 < listed.toList.count false := List.count_pos_iff.2 (by rw [← hl]; exact Array.getElem_mem_toList hj)
    omega
  have hr : Region.ready md ops listed = [] := by
   apply List.eq_nil_iff_forall_not_mem.2
   intro i hi
   have := (mem_ready.1 hi).1
   rw [hall i] at this
   cases this
  exact ⟨hr, done listed a w hs hr hI⟩
 | succ fuel ih =>
  intro listed a w hs hc hcl hI
  refine ⟨fun hr => done listed a w hs hr hI, fun i hi => ?_⟩
  obtain ⟨hl, o, ho, hdep⟩ := mem_ready.1 hi
  have hi2 : i < listed.size := by
   rcases Nat.lt_or_ge i listed.size with h | h
   ·exact h
   ·simp [Array.getElem?_eq_none h] at hl
  have hdep2 : ∀ e ∈ o.after, Region.binds md e = true → listed.getD e.on true = true := fun e he hb => by
   have := hdep e he hb
   rcases Nat.lt_or_ge e.on listed.size with h' | h'
   ·simp [h'] at this ⊢; exact this
   ·simp [Array.getElem?_eq_none h']
  have hset : (fun j => (listed.setIfInBounds i true).getD j true) = fun j => if j = i then true else listed.getD j true := by
   funext j
   by_cases hj : j = i
   ·subst hj; simp [hi2]
   ·rw [if_neg hj, getD_set_ne true (Ne.symm hj)]
  refine wpOp_mono (fun a' w' h => ih (listed.setIfInBounds i true) a' w' (by simpa using hs) ?_ ?_ (by rw [hset]; exact h)) (hstep i o ho _ a w hI hl hdep2 ?_)
  ·have e : listed[i]'hi2 = false := by simpa [hi2] using hl
   rw [Array.toList_setIfInBounds, List.count_set (by simpa using hi2)]
   have : 0 < listed.toList.count false := List.count_pos_iff.2 (by rw [← e]; exact Array.getElem_mem_toList hi2)
   simp only [Array.getElem_toList, e]
   simp
   have h3 : List.count false listed.toList = Array.count false listed := by simp
   omega
  ·intro j oj hj hlj e he hb
   have hj2 := congrFun hset
   have h1 := hj2 e.on
   have h2 := hj2 j
   rw [h1]
   rw [h2] at hlj
   by_cases hei : e.on = i
   ·rw [if_pos hei]
   ·rw [if_neg hei]
    by_cases hji : j = i
    ·subst hji
     rw [ho] at hj
     cases hj
     exact hdep2 e he hb
    ·rw [if_neg hji] at hlj
     exact hcl j oj hj hlj e he hb
  ·intro j oj hj hany
   obtain ⟨e, he, hb⟩ := Array.any_eq_true'.1 hany
   simp only [Bool.and_eq_true, beq_iff_eq] at hb
   cases hlj : listed.getD j true with
   | false => rfl
   | true =>
    have := hcl j oj hj hlj e he hb.1
    rw [hb.2, hl] at this
    cases this
def selV (b : Bool) (v u : Value) : Value := if b = true then v else u
theorem selV_true (v u : Value) : selV true v u = v := rfl
theorem selV_false (v u : Value) : selV false v u = u := rfl
def selT (L : Nat → Bool) (l : List (Nat × Nat × Value)) (t : Array Value) : Array Value := l.foldl (fun t p => t.setIfInBounds p.2.1 (selV (L p.1) p.2.2 (t.getD p.2.1 undef))) t
theorem selT_nil (L : Nat → Bool) (t : Array Value) : selT L [] t = t := rfl
theorem selT_cons (L : Nat → Bool) (k d : Nat) (v : Value) (l : List (Nat × Nat × Value)) (t : List Value) : selT L ((k, d, v) :: l) t.toArray = selT L l (t.set d (selV (L k) v (t.getD d undef))).toArray := by
 unfold selT
 simp
def selA (L : Nat → Bool) (l : List (Nat × Nat × Value)) (a : Act) : Act := { a with tmps := selT L l a.tmps }
def FactStep (P : Program) (ops : Array Oper) (Q : Exit → Act → World → Prop) {X : Type} (lst : X → List (Nat × Nat × Value)) (J : X → (Nat → Bool) → World → Prop) (a : Act) (i : Nat) (o : Oper) : Prop :=
 ∀ (L : Nat → Bool) (x : X) (w : World), J x L w → L i = false → (∀ e ∈ o.after, Region.binds .any e = true → L e.on = true) →
  (∀ j oj, ops[j]? = some oj → (oj.after.any fun e => Region.binds .any e && e.on == i) = true → L j = false) →
  ∀ K : Act → World → Prop, RowKit.Hid (∀ (x' : X) (a' : Act) (w' : World), a' = selA (fun j => if j = i then true else L j) (lst x') a → J x' (fun j => if j = i then true else L j) w' → K a' w') →
   if Region.wanted o (yielded ops (selA L (lst x) a).tmps) = true then Oper.wp P o (selA L (lst x) a) w K Q else K ((selA L (lst x) a).put o.dst undef) w
def FactSteps (P : Program) (ops : Array Oper) (Q : Exit → Act → World → Prop) {X : Type} (lst : X → List (Nat × Nat × Value)) (J : X → (Nat → Bool) → World → Prop) (a : Act) : Nat → List Oper → Prop
 | _, [] => True
 | i, o :: os => FactStep P ops Q lst J a i o ∧ FactSteps P ops Q lst J a (i + 1) os
theorem FactSteps.nil {X : Type} {lst : X → List (Nat × Nat × Value)} {J : X → (Nat → Bool) → World → Prop} {a : Act} {i : Nat} : FactSteps P ops Q lst J a i [] := trivial
theorem FactSteps.cons {X : Type} {lst : X → List (Nat × Nat × Value)} {J : X → (Nat → Bool) → World → Prop} {a : Act} {i : Nat} {o : Oper} {os : List Oper} (h : FactStep P ops Q lst J a i o) (hs : FactSteps P ops Q lst J a (i + 1) os) : FactSteps P ops Q lst J a i (o :: os) := ⟨h, hs⟩
theorem FactSteps.get {X : Type} {lst : X → List (Nat × Nat × Value)} {J : X → (Nat → Bool) → World → Prop} {a : Act} : ∀ (os : List Oper) (k : Nat), FactSteps P ops Q lst J a k os →
  ∀ i o, os[i]? = some o → FactStep P ops Q lst J a (k + i) o
 | [], _, _, i, o, h => by simp at h
 | o' :: os, k, hs, 0, o, h => by simp at h; subst h; exact hs.1
 | o' :: os, k, hs, i + 1, o, h => by
  have := FactSteps.get os (k + 1) hs.2 i o (by simpa using h)
  rwa [show k + 1 + i = k + (i + 1) by omega] at this
theorem wp_region_facts {X : Type} (lst : X → List (Nat × Nat × Value)) (J : X → (Nat → Bool) → World → Prop) {id : Nat} {a : Act} {w : World} (hm : P.follows .mixedOrders = true) (hlow : Region.lowB .any ops = true)
  (x0 : X) (h0 : J x0 (fun j => decide (ops.size ≤ j)) w.drew) (ha : selA (fun j => decide (ops.size ≤ j)) (lst x0) a = a)
  (hstep : FactSteps P ops Q lst J a 0 ops.toList)
  (hend : ∀ x w, J x (fun _ => true) w → Q .normal (selA (fun _ => true) (lst x) a) w) : (Code.region id ops true).wp P Q a w := by
 refine wp_region_any hm (wpAny_inv (fun L a' w' => ∃ x, a' = selA L (lst x) a ∧ J x L w') hlow ?_ ?_ ops.size (Array.replicate ops.size false) a _ (by simp) ?_ ?_ ?_)
 ·rintro i o ho L _ w ⟨x, rfl, hJ⟩ hl hd hsu
  have h := FactSteps.get ops.toList 0 hstep i o (by simpa using ho)
  rw [Nat.zero_add] at h
  exact wpOp_step ho fun K' hK => h L x w hJ hl hd hsu K' (Lib.hid fun x' a' w' e hJ' => hK a' w' ⟨x', e, hJ'⟩)
 ·rintro _ w ⟨x, rfl, hJ⟩
  exact hend x w hJ
 ·simp
 ·intro j oj hj hl
  have hs : j < ops.size := (Array.getElem?_eq_some_iff.1 hj).1
  simp [hs] at hl
 ·refine ⟨x0, ?_, ?_⟩
  ·rw [← ha]
   rw [show (fun j => (Array.replicate ops.size false).getD j true) = fun j => decide (ops.size ≤ j) from funext fun j => by
    rcases Nat.lt_or_ge j ops.size with h | h
    ·simp [h]
    ·simp [h]]
   rw [ha]
   exact ha.symm
  ·rw [show (fun j => (Array.replicate ops.size false).getD j true) = fun j => decide (ops.size ≤ j) from funext fun j => by
    rcases Nat.lt_or_ge j ops.size with h | h
    ·simp [h]
    ·simp [h]]
   exact h0
end
section
variable {F : Fence} {n : Nat} {P : Program} {ops : Array Oper} {Q : Exit → Act → World → Prop} {md : Region.Mode}
theorem wpAnyIn_inv (Inv : (Nat → Bool) → Act → World → Prop) (hlow : Region.lowB md ops = true)
  (hstep : ∀ i o, ops[i]? = some o → ∀ (L : Nat → Bool) a w, Inv L a w → L i = false → (∀ e ∈ o.after, Region.binds md e = true → L e.on = true) →
   (∀ j oj, ops[j]? = some oj → (oj.after.any fun e => Region.binds md e && e.on == i) = true → L j = false) →
   wpOpIn F n P ops Q i (Inv fun j => if j = i then true else L j) a w)
  (hend : ∀ a w, Inv (fun _ => true) a w → Q .normal a w) :
  ∀ (fuel : Nat) (listed : Array Bool) (a : Act) (w : World), listed.size = ops.size → listed.toList.count false ≤ fuel →
   (∀ j oj, ops[j]? = some oj → listed.getD j true = true → ∀ e ∈ oj.after, Region.binds md e = true → listed.getD e.on true = true) →
   Inv (fun j => listed.getD j true) a w → wpAnyIn F n P md ops Q fuel listed a w := by
 have done : ∀ (listed : Array Bool) a w, listed.size = ops.size → Region.ready md ops listed = [] → Inv (fun j => listed.getD j true) a w → Q .normal a w := by
  intro listed a w hs hr hI
  refine hend a w ?_
  rwa [show (fun j => listed.getD j true) = fun _ => true from funext fun j => by
   rcases Nat.lt_or_ge j ops.size with h | h
   ·exact Region.all_listed hlow hr (j + 1) j (by omega) h
   ·simp [Array.getElem?_eq_none (show listed.size ≤ j by omega)]] at hI
 intro fuel
 induction fuel with
 | zero =>
  intro listed a w hs hc hcl hI
  have hall : ∀ j, listed.getD j true = true := by
   intro j
   cases hl : listed.getD j true with
   | true => rfl
   | false =>
    exfalso
    have hj : j < listed.size := by
     rcases Nat.lt_or_ge j listed.size with h | h
     ·exact h
     ·simp [Array.getElem?_eq_none h] at hl
    simp [hj] at hl
    have : 0 < listed.toList.count false := List.count_pos_iff.2 (by rw [← hl]; exact Array.getElem_mem_toList hj)
    omega
  have hr : Region.ready md ops listed = [] := by
   apply List.eq_nil_iff_forall_not_mem.2
   intro i hi
   have := (mem_ready.1 hi).1
   rw [hall i] at this
   cases this
  exact ⟨hr, done listed a w hs hr hI⟩
 | succ fuel ih =>
  intro listed a w hs hc hcl hI
  refine ⟨fun hr => done listed a w hs hr hI, fun i hi => ?_⟩
  obtain ⟨hl, o, ho, hdep⟩ := mem_ready.1 hi
  have hi2 : i < listed.size := by
   rcases Nat.lt_or_ge i listed.size with h | h
   ·exact h
   ·simp [Array.getElem?_eq_none h] at hl
  have hdep2 : ∀ e ∈ o.after, Region.binds md e = true → listed.getD e.on true = true := fun e he hb => by
   have := hdep e he hb
   rcases Nat.lt_or_ge e.on listed.size with h' | h'
   ·simp [h'] at this ⊢; exact this
   ·simp [Array.getElem?_eq_none h']
  have hset : (fun j => (listed.setIfInBounds i true).getD j true) = fun j => if j = i then true else listed.getD j true := by
   funext j
   by_cases hj : j = i
   ·subst hj; simp [hi2]
   ·rw [if_neg hj, getD_set_ne true (Ne.symm hj)]
  refine wpOpIn_mono (fun a' w' h => ih (listed.setIfInBounds i true) a' w' (by simpa using hs) ?_ ?_ (by rw [hset]; exact h)) (hstep i o ho _ a w hI hl hdep2 ?_)
  ·have e : listed[i]'hi2 = false := by simpa [hi2] using hl
   rw [Array.toList_setIfInBounds, List.count_set (by simpa using hi2)]
   have : 0 < listed.toList.count false := List.count_pos_iff.2 (by rw [← e]; exact Array.getElem_mem_toList hi2)
   simp only [Array.getElem_toList, e]
   simp
   have h3 : List.count false listed.toList = Array.count false listed := by simp
   omega
  ·intro j oj hj hlj e he hb
   have hj2 := congrFun hset
   have h1 := hj2 e.on
   have h2 := hj2 j
   rw [h1]
   rw [h2] at hlj
   by_cases hei : e.on = i
   ·rw [if_pos hei]
   ·rw [if_neg hei]
    by_cases hji : j = i
    ·subst hji
     rw [ho] at hj
     cases hj
     exact hdep2 e he hb
    ·rw [if_neg hji] at hlj
     exact hcl j oj hj hlj e he hb
  ·intro j oj hj hany
   obtain ⟨e, he, hb⟩ := Array.any_eq_true'.1 hany
   simp only [Bool.and_eq_true, beq_iff_eq] at hb
   cases hlj : listed.getD j true with
   | false => rfl
   | true =>
    have := hcl j oj hj hlj e he hb.1
    rw [hb.2, hl] at this
    cases this
def FactStepIn (F : Fence) (n : Nat) (P : Program) (ops : Array Oper) (Q : Exit → Act → World → Prop) {X : Type} (lst : X → List (Nat × Nat × Value)) (J : X → (Nat → Bool) → World → Prop) (a : Act) (i : Nat) (o : Oper) : Prop :=
 ∀ (L : Nat → Bool) (x : X) (w : World), J x L w → L i = false → (∀ e ∈ o.after, Region.binds .any e = true → L e.on = true) →
  (∀ j oj, ops[j]? = some oj → (oj.after.any fun e => Region.binds .any e && e.on == i) = true → L j = false) →
  ∀ K : Act → World → Prop, RowKit.Hid (∀ (x' : X) (a' : Act) (w' : World), a' = selA (fun j => if j = i then true else L j) (lst x') a → J x' (fun j => if j = i then true else L j) w' → K a' w') →
   if Region.wanted o (yielded ops (selA L (lst x) a).tmps) = true then Oper.wpIn F n P o (selA L (lst x) a) w K Q else (∀ f, o.about P w (selA L (lst x) a).eval = some f → F.fn f) ∧ K ((selA L (lst x) a).put o.dst undef) w
def FactStepsIn (F : Fence) (n : Nat) (P : Program) (ops : Array Oper) (Q : Exit → Act → World → Prop) {X : Type} (lst : X → List (Nat × Nat × Value)) (J : X → (Nat → Bool) → World → Prop) (a : Act) : Nat → List Oper → Prop
 | _, [] => True
 | i, o :: os => FactStepIn F n P ops Q lst J a i o ∧ FactStepsIn F n P ops Q lst J a (i + 1) os
theorem FactStepsIn.nil {X : Type} {lst : X → List (Nat × Nat × Value)} {J : X → (Nat → Bool) → World → Prop} {a : Act} {i : Nat} : FactStepsIn F n P ops Q lst J a i [] := trivial
theorem FactStepsIn.cons {X : Type} {lst : X → List (Nat × Nat × Value)} {J : X → (Nat → Bool) → World → Prop} {a : Act} {i : Nat} {o : Oper} {os : List Oper} (h : FactStepIn F n P ops Q lst J a i o) (hs : FactStepsIn F n P ops Q lst J a (i + 1) os) : FactStepsIn F n P ops Q lst J a i (o :: os) := ⟨h, hs⟩
theorem FactStepsIn.get {X : Type} {lst : X → List (Nat × Nat × Value)} {J : X → (Nat → Bool) → World → Prop} {a : Act} : ∀ (os : List Oper) (k : Nat), FactStepsIn F n P ops Q lst J a k os →
  ∀ i o, os[i]? = some o → FactStepIn F n P ops Q lst J a (k + i) o
 | [], _, _, i, o, h => by simp at h
 | o' :: os, k, hs, 0, o, h => by simp at h; subst h; exact hs.1
 | o' :: os, k, hs, i + 1, o, h => by
  have := FactStepsIn.get os (k + 1) hs.2 i o (by simpa using h)
  rwa [show k + 1 + i = k + (i + 1) by omega] at this
theorem wpIn_region_facts {X : Type} (lst : X → List (Nat × Nat × Value)) (J : X → (Nat → Bool) → World → Prop) {id : Nat} {a : Act} {w : World} (hm : P.follows .mixedOrders = true) (hlow : Region.lowB .any ops = true)
  (x0 : X) (h0 : J x0 (fun j => decide (ops.size ≤ j)) w.drew) (ha : selA (fun j => decide (ops.size ≤ j)) (lst x0) a = a)
  (hstep : FactStepsIn F n P ops Q lst J a 0 ops.toList)
  (hend : ∀ x w, J x (fun _ => true) w → Q .normal (selA (fun _ => true) (lst x) a) w) : (Code.region id ops true).wpIn F n P Q a w := by
 refine wpIn_region_any hm (wpAnyIn_inv (fun L a' w' => ∃ x, a' = selA L (lst x) a ∧ J x L w') hlow ?_ ?_ ops.size (Array.replicate ops.size false) a _ (by simp) ?_ ?_ ?_)
 ·rintro i o ho L _ w ⟨x, rfl, hJ⟩ hl hd hsu
  have h := FactStepsIn.get ops.toList 0 hstep i o (by simpa using ho)
  rw [Nat.zero_add] at h
  exact wpOpIn_step ho fun K' hK => h L x w hJ hl hd hsu K' (Lib.hid fun x' a' w' e hJ' => hK a' w' ⟨x', e, hJ'⟩)
 ·rintro _ w ⟨x, rfl, hJ⟩
  exact hend x w hJ
 ·simp
 ·intro j oj hj hl
  have hs : j < ops.size := (Array.getElem?_eq_some_iff.1 hj).1
  simp [hs] at hl
 ·refine ⟨x0, ?_, ?_⟩
  ·rw [← ha]
   rw [show (fun j => (Array.replicate ops.size false).getD j true) = fun j => decide (ops.size ≤ j) from funext fun j => by
    rcases Nat.lt_or_ge j ops.size with h | h
    ·simp [h]
    ·simp [h]]
   rw [ha]
   exact ha.symm
  ·rw [show (fun j => (Array.replicate ops.size false).getD j true) = fun j => decide (ops.size ≤ j) from funext fun j => by
    rcases Nat.lt_or_ge j ops.size with h | h
    ·simp [h]
    ·simp [h]]
   exact h0
end
end Go
namespace Go.Proofs.YtknaghdoffigjaaGreatDoor
open Go.RowKit Go
def Kb (w0 w : World) (l : List (Option (Nat × Obj))) : Prop :=
 Below w0.heap.size w0 w ∧ (∀ (i b : Nat) (o : Obj), l[i]? = some (some (b, o)) → w0.heap.size ≤ b ∧ w.heap[b]? = some o) ∧
 ∀ (i j b c : Nat) (o p : Obj), l[i]? = some (some (b, o)) → l[j]? = some (some (c, p)) → i ≠ j → b ≠ c
section
variable {w0 w w' : World} {l : List (Option (Nat × Obj))}
theorem Kb.none_ (w : World) (n : Nat) : Kb w w (List.replicate n none) := by
 have h : ∀ (i b : Nat) (o : Obj), (List.replicate n (none : Option (Nat × Obj)))[i]? = some (some (b, o)) → False := fun i b o h => by
  rw [List.getElem?_replicate] at h
  split at h <;> cases h
 exact ⟨Below.refl _ _, fun i b o hi => (h i b o hi).elim, fun i j b c o p hi _ _ => (h i b o hi).elim⟩
theorem Kb.lt (h : Kb w0 w l) (i : Nat) {b : Nat} {o : Obj} (hi : l[i]? = some (some (b, o))) : b < w.heap.size := (Array.getElem?_eq_some_iff.1 (h.2.1 i b o hi).2).1
theorem Kb.at_ (h : Kb w0 w l) (i : Nat) {b : Nat} {o : Obj} (hi : l[i]? = some (some (b, o))) : w.heap[b]? = some o := (h.2.1 i b o hi).2
theorem Kb.ge (h : Kb w0 w l) (i : Nat) {b : Nat} {o : Obj} (hi : l[i]? = some (some (b, o))) : w0.heap.size ≤ b := (h.2.1 i b o hi).1
theorem Kb.ne (h : Kb w0 w l) (i j : Nat) {b c : Nat} {o p : Obj} (hi : l[i]? = some (some (b, o))) (hj : l[j]? = some (some (c, p))) (hij : i ≠ j) : b ≠ c := h.2.2 i j b c o p hi hj hij
theorem Kb.cast (h : Kb w0 w l) {l' : List (Option (Nat × Obj))} (e : l = l') : Kb w0 w l' := e ▸ h
theorem Kb.step (h : Kb w0 w l) (hb : Below w.heap.size w w') : Kb w0 w' l :=
 ⟨h.1.trans (hb.mono h.1.size), fun i b o hi => ⟨h.ge i hi, (hb.block b (h.lt i hi)).trans (h.at_ i hi)⟩, h.2.2⟩
theorem Kb.drew (h : Kb w0 w l) : Kb w0 w.drew l := ⟨h.1.drew, h.2.1, h.2.2⟩
theorem Kb.new (h : Kb w0 w l) (i : Nat) (o : Obj) (hi : l[i]? = some none) : Kb w0 (w.alloc o) (l.set i (some (w.heap.size, o))) := by
 have hl : i < l.length := (List.getElem?_eq_some_iff.1 hi).1
 have ht : ∀ (j b : Nat) (p : Obj), (l.set i (some (w.heap.size, o)))[j]? = some (some (b, p)) → (j = i ∧ b = w.heap.size ∧ p = o) ∨ (j ≠ i ∧ l[j]? = some (some (b, p))) := fun j b p hj => by
  by_cases hij : i = j
  ·subst hij
   rw [List.getElem?_set_self hl] at hj
   simp at hj
   exact .inl ⟨rfl, hj.1.symm, hj.2.symm⟩
  ·rw [List.getElem?_set_ne hij] at hj
   exact .inr ⟨fun e => hij e.symm, hj⟩
 refine ⟨h.1.alloc h.1.size _, fun j b p hj => ?_, fun j k b c p q hj hk hjk => ?_⟩
 ·rcases ht j b p hj with ⟨_, rfl, rfl⟩ | ⟨_, e⟩
  ·exact ⟨h.1.size, heap_alloc_new w _⟩
  ·exact ⟨h.ge j e, (Below.heap_alloc w o b (h.lt j e)).trans (h.at_ j e)⟩
 ·rcases ht j b p hj with ⟨rfl, rfl, rfl⟩ | ⟨hne, e⟩
  ·rcases ht k c q hk with ⟨rfl, rfl, rfl⟩ | ⟨hne2, e2⟩
   ·exact absurd rfl hjk
   ·exact Nat.ne_of_gt (h.lt k e2)
  ·rcases ht k c q hk with ⟨rfl, rfl, rfl⟩ | ⟨hne2, e2⟩
   ·exact Nat.ne_of_lt (h.lt j e)
   ·exact h.2.2 j k b c p q e e2 hjk
theorem Kb.put (h : Kb w0 w l) (i k : Nat) {b : Nat} {cs : Array Value} {ty : TypeId} (hi : l[i]? = some (some (b, .cells cs ty (0, 0)))) (v : Value) :
  Kb w0 (w.setCell ⟨b, k, none⟩ v) (l.set i (some (b, .cells (cs.setIfInBounds k v) ty (0, 0)))) := by
 have hl : i < l.length := (List.getElem?_eq_some_iff.1 hi).1
 have ht : ∀ (j c : Nat) (p : Obj), (l.set i (some (b, .cells (cs.setIfInBounds k v) ty (0, 0))))[j]? = some (some (c, p)) → (j = i ∧ c = b ∧ p = .cells (cs.setIfInBounds k v) ty (0, 0)) ∨ (j ≠ i ∧ l[j]? = some (some (c, p))) := fun j c p hj => by
  by_cases hij : i = j
  ·subst hij
   rw [List.getElem?_set_self hl] at hj
   simp at hj
   exact .inl ⟨rfl, hj.1.symm, hj.2.symm⟩
  ·rw [List.getElem?_set_ne hij] at hj
   exact .inr ⟨fun e => hij e.symm, hj⟩
 have hat := h.at_ i hi
 refine ⟨h.1.setCell (by simpa using h.ge i hi) _, fun j c p hj => ?_, fun j j2 c d p q hj hk hjk => ?_⟩
 ·rcases ht j c p hj with ⟨rfl, rfl, rfl⟩ | ⟨hne, e⟩
  ·refine ⟨h.ge j hi, ?_⟩
   simp [World.setCell, Array.getElem?_modify, hat]
  ·exact ⟨h.ge j e, (Below.heap_setCell w _ v c (by simpa using h.ne j i e hi hne)).trans (h.at_ j e)⟩
 ·rcases ht j c p hj with ⟨rfl, rfl, rfl⟩ | ⟨hne, e⟩
  ·rcases ht j2 d q hk with ⟨rfl, rfl, rfl⟩ | ⟨hne2, e2⟩
   ·exact absurd rfl hjk
   ·exact h.ne _ _ hi e2 hjk
  ·rcases ht j2 d q hk with ⟨rfl, rfl, rfl⟩ | ⟨hne2, e2⟩
   ·exact h.ne _ _ e hi hjk
   ·exact h.ne _ _ e e2 hjk
theorem Kb.cell (h : Kb w0 w l) (i k : Nat) {b : Nat} {cs : Array Value} {ty : TypeId} {fr : Nat × Nat} {v : Value} (hi : l[i]? = some (some (b, .cells cs ty fr))) (hk : cs[k]? = some v) : w.cell? ⟨b, k, none⟩ = some v := by
 rw [cell_of_row w b k _ _ _ (h.at_ i hi)]; exact hk
theorem Kb.frozen (h : Kb w0 w l) (i k : Nat) {b : Nat} {cs : Array Value} {ty : TypeId} (hi : l[i]? = some (some (b, .cells cs ty (0, 0)))) : w.frozen? ⟨b, k, none⟩ = false := by
 simp [World.frozen?, h.at_ i hi]
end
end Go.Proofs.YtknaghdoffigjaaGreatDoor
