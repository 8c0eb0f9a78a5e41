/-
  The contract of the reference's From (as in the texts of package wide, without the rest of them). The law for regions that draw their order, with the slots written out once.
-/
import Derived.Test.YtknaghdoffigjaaGreatDoorZRDig
import Derived.Test.YtknaghdoffigjaaGreatDoorGcdS
import Derived.Test.YtknaghdoffigjaaGreatDoorMLaw
set_option linter.unusedSimpArgs false
set_option linter.unusedVariables false
set_option linter.unnecessarySimpa false
namespace Go.Proofs.YtknaghdoffigjaaGreatDoor
open Go.RowKit

/-- A slice that reads as digits with this value. -/
def Rz (w : World) (A : Option Addr) (n c N : Nat) : Prop := ∃ D, RdJ w A D ∧ D.length = n ∧ n ≤ c ∧ c ≤ maxLen ∧ Qds D ∧ qval D = N
theorem Rz.below {w w' : World} {A : Option Addr} {n c N : Nat} (h : Rz w A n c N) (hb : Below w.heap.size w w') : Rz w' A n c N := by
  obtain ⟨D, h1, h2⟩ := h
  exact ⟨D, h1.below hb, h2⟩
/-- The number of this size, with this sign. -/
def sgi (neg : Bool) (N : Nat) : Int := if neg then -(N : Int) else N
theorem wv_of (neg : Bool) (N : Nat) : (.agg #[.bool (neg && decide (N ≠ 0)), .string (bstr (canon N))] : Value) = .agg #[.bool (wneg (sgi neg N)), .string (wmag (sgi neg N))] := by
  rw [← wv_def]
  unfold sgi
  cases neg
  · rw [if_neg (by decide), wv_nat]; rfl
  · rw [if_pos rfl, wv_neg]; simp
theorem wint_sgi (x : Bool) (s : ByteArray) : wint x s = sgi x (bval s.data.toList) := rfl
theorem rwide (neg : Bool) (A : Option Addr) (n c N : Nat) (w : World) (h : Rz w A n c N) (hn : n ≤ 1000) (r : Int) (hr : sgi neg N = r) :
    Calls Tryz.prog 103 #[.bool neg, .slice A n c] w fun e w' => e = .returned (.agg #[.bool (wneg r), .string (wmag r)]) ∧ Below w.heap.size w w' := by
  obtain ⟨D, h1, h2, h3, h4, h5, h6⟩ := h
  have := refwide_any neg A n c D w h1 h5 h2 h3 h4 hn
  rw [h6, wv_of, hr] at this
  exact this
set_option maxRecDepth 100000 in
set_option maxHeartbeats 4000000 in
theorem RFrom_any (n : Int) (w : World) (h1 : -9223372036854775808 ≤ n) (h2 : n ≤ 9223372036854775807) :
    Calls Tryz.prog 56 #[.int .i64 n] w fun e w' => e = .returned (.agg #[.bool (wneg n), .string (wmag n)]) ∧ Below w.heap.size w w' := by
  obtain ⟨i0, hi, hz0, hz1, hz2⟩ := info_parts info_int
  obtain ⟨N, hN⟩ : ∃ N, N = n.natAbs := ⟨_, rfl⟩
  have hNb : N ≤ 9223372036854775808 := by omega
  have hu : n < 0 → IntKind.u64.wrap (-IntKind.u64.wrap n) = (N : Int) := fun h => by rw [IntKind.wrap_u64, IntKind.wrap_u64]; omega
  have hp : ¬ n < 0 → n = (N : Int) := fun h => by omega
  have hsg : ∀ b, b = decide (n < 0) → sgi b N = n := fun b e => by
    rw [e]; unfold sgi
    by_cases h : n < 0
    · rw [decide_eq_true h, if_pos rfl]; omega
    · rw [decide_eq_false h, if_neg (by decide)]; omega
  have hwd := fun b e A k c W h hn => rwide b A k c N W h hn n (hsg b e)
  generalize wneg n = sg at *
  generalize wmag n = S at *
  have HG := Lib.hid hwd
  have HU := Lib.hid hu
  have HP := Lib.hid hp
  have HD := Lib.hid (Wd.new w false ⟨#[]⟩)
  clear hN hu hp hsg hwd
  by_cases h0 : n < 0
  all_goals go_enter Tryz.func56, Tryz.ntmps56
  all_goals go_wp2
  all_goals first | rw [HU.out h0] | rw [HP.out h0]
  all_goals
    generalize hW1 : w.alloc (wbox false ⟨#[]⟩) = W1 at *
    have HW1 := Lib.hid hW1
    have HB1 := Lib.hid (show Below w.heap.size w W1 by rw [← hW1]; exact (Below.refl _ _).alloc (Nat.le_refl _) _)
    clear hW1
    go_loopw [3, 4] (fun v m wr => ∃ (D : List Nat) (r k : Nat), m = .int .u64 r ∧ D.length = k ∧ k ≤ 4 ∧ r < 65536 ^ (4 - k) ∧ Qds D ∧ qval D + C16 ^ k * r = N ∧ OwJ wr (w.heap.size + 1) v D ∧ Wd wr w.heap.size false ⟨#[]⟩ ∧ Below w.heap.size w wr)
      (fun _ m _ => (intOf m).toNat)
    case atStart => exact ⟨[], N, 0, rfl, rfl, by omega, by rw [show (65536 : Nat) ^ (4 - 0) = 18446744073709551616 from rfl]; omega, Qds.nil, by simp [qval], OwJ.nil _ _, HD.out, HB1.out⟩
    case round =>
      obtain ⟨D, r, k, rfl, hlen, hk, hr, hq, hval, hown, hwd, hbel⟩ := hrel
      have Hval := Lib.hid hval
      have Hown := Lib.hid hown
      have Hwd := Lib.hid hwd
      have Hbel := Lib.hid hbel
      clear hval hown hwd hbel
      have hbw : w.heap.size + 1 ≤ wr.heap.size := by have := Hwd.out.lt; omega
      by_cases hr0 : r = 0
      · subst hr0
        have hN : qval D = N := by have := Hval.out; simpa using this
        have HN := Lib.hid hN
        obtain ⟨A', c', rfl, hc', hm', hrd, _⟩ := Hown.out.rd
        have hwdd := Lib.hid (fun W hrd b e => HG.out b e A' k c' W ⟨D, hrd, hlen, by omega, hm', hq, HN.out⟩ (by omega))
        clear hN
        go_wp2_with fail
        first
          | with_reducible refine (hwdd.out _ hrd true (decide_eq_true h0).symm).mono ?_
          | with_reducible refine (hwdd.out _ hrd false (decide_eq_false h0).symm).mono ?_
          | with_reducible refine (hwdd.out _ hrd _ rfl).mono ?_
          | with_reducible refine (hwdd.out _ hrd (decide ((N : Int) < 0)) (by rw [HP.out h0])).mono ?_
        rintro e w5 ⟨rfl, hb5⟩
        have hW5 := Hwd.out.below hb5 Hwd.out.lt
        have hz0 := hW5.cell0
        have hz1 := hW5.cell1
        have hzf0 := hW5.frozen 0
        have hzf1 := hW5.frozen 1
        have hB5 := Hbel.out.trans (hb5.mono Hbel.out.size)
        go_wp2
        exact post_wide (b := w.heap.size) rfl rfl ((hW5.set0 _).set1 _) rfl ⟨rfl, (hB5.setCell (Nat.le_refl _) _).setCell (Nat.le_refl _) _⟩
      · have hk3 : k ≤ 3 := by
          refine Nat.le_of_not_lt fun h => ?_
          have : 4 - k = 0 := by omega
          rw [this] at hr
          omega
        have hrl : r < 18446744073709551616 := Nat.lt_of_lt_of_le hr (by
          have : (65536 : Nat) ^ (4 - k) ≤ 65536 ^ 4 := Nat.pow_le_pow_right (by omega) (by omega)
          simpa using this)
        have hr2 : r / 65536 < 65536 ^ (4 - (k + 1)) := by
          rw [Nat.div_lt_iff_lt_mul (by omega), ← Nat.pow_succ, show (4 - (k + 1)).succ = 4 - k from by omega]
          exact hr
        have hval2 : qval (D ++ [r % 65536]) + C16 ^ (k + 1) * (r / 65536) = N := by
          rw [qval_snoc, hlen, Nat.pow_succ, Nat.mul_assoc, Nat.add_assoc, ← Nat.mul_add, C16_eq, Nat.mod_add_div, ← C16_eq]
          exact Hval.out
        obtain ⟨d, hd⟩ : ∃ d : Nat, d = r % 65536 := ⟨_, rfl⟩
        obtain ⟨r2, hr2'⟩ : ∃ r2 : Nat, r2 = r / 65536 := ⟨_, rfl⟩
        have e1 : (r : Int) % 65536 = (d : Int) := by omega
        have e2 : (r : Int) / 65536 = (r2 : Int) := by omega
        have hdl : d < 65536 := by omega
        have hrr : r2 < r := by omega
        rw [← hd, ← hr2'] at hval2
        rw [← hr2'] at hr2
        have Hval2 := Lib.hid hval2
        have Hr2 := Lib.hid hr2
        clear hval2 hd hr2' hr2 hr
        go_wp2_with (at_builtin; refine wpList_append_own _ rfl (.tmp 13) (.tmp 17) 25 rfl (w.heap.size + 1) 3 i0 (.int .i64 0) 1 8 Tryz.underlying25 hi hz0 hz1 hz2 rfl (by decide) _ D.length (D.map fun x : Nat => Value.int .i64 (x : Int)) rfl (World.ownsRow.alloc Hown.out _) ⟨wr.heap.size, 0, none⟩ 1 1 [.int .i64 ((d : Nat) : Int)] rfl rfl (cell_one_new _ _ _) (fun x hx => by simp at hx; subst hx; rfl) (by unfold maxLen; omega) (by omega) (by simp; omega) ?_; intro v2 w2 hown2 hgrow2 _)
        go_roundw
        case rel => exact ⟨D ++ [d], r2, k + 1, by first | rfl | rw [e2], by simp [hlen], by omega, Hr2.out, hq.snoc (by rw [C16_eq]; exact hdl), Hval2.out, OwJ.push hown2, (Hwd.out.alloc _).grown hgrow2 Hown.out.own (by omega), (Hbel.out.alloc Hbel.out.size _).grown hgrow2 (by simp; omega) (fun k hk => by have := Hown.out.own k hk; omega)⟩
        case measure => simp [intOf]; omega
end Go.Proofs.YtknaghdoffigjaaGreatDoor
namespace Go.Proofs.YtknaghdoffigjaaGreatDoor
open Go.RowKit Go

section
variable {P : Program} {ops : Array Oper} {Q : Exit → Act → World → Prop}
/-- Like FactStep, with the slots as a function of what has been chosen and done. -/
def ActStep (P : Program) (ops : Array Oper) (Q : Exit → Act → World → Prop) {X : Type} (T : X → (Nat → Bool) → Act) (J : X → (Nat → Bool) → World → Prop) (i : Nat) (o : Oper) : Prop :=
  ∀ (L : Nat → Bool) (x : X) (w : World), J x L w → L i = false → (∀ e ∈ o.after, Region.binds .any e = true → L e.on = true) →
    (∀ j oj, ops[j]? = some oj → (oj.after.any fun e => Region.binds .any e && e.on == i) = true → L j = false) →
    ∀ K : Act → World → Prop, RowKit.Hid (∀ (x' : X) (a' : Act) (w' : World), a' = T x' (fun j => if j = i then true else L j) → J x' (fun j => if j = i then true else L j) w' → K a' w') →
      if Region.wanted o (yielded ops (T x L).tmps) = true then Oper.wp P o (T x L) w K Q else K ((T x L).put o.dst undef) w
def ActSteps (P : Program) (ops : Array Oper) (Q : Exit → Act → World → Prop) {X : Type} (T : X → (Nat → Bool) → Act) (J : X → (Nat → Bool) → World → Prop) : Nat → List Oper → Prop
  | _, [] => True
  | i, o :: os => ActStep P ops Q T J i o ∧ ActSteps P ops Q T J (i + 1) os
theorem ActSteps.nil {X : Type} {T : X → (Nat → Bool) → Act} {J : X → (Nat → Bool) → World → Prop} {i : Nat} : ActSteps P ops Q T J i [] := trivial
theorem ActSteps.cons {X : Type} {T : X → (Nat → Bool) → Act} {J : X → (Nat → Bool) → World → Prop} {i : Nat} {o : Oper} {os : List Oper} (h : ActStep P ops Q T J i o) (hs : ActSteps P ops Q T J (i + 1) os) : ActSteps P ops Q T J i (o :: os) := ⟨h, hs⟩
theorem ActSteps.facts {X : Type} {lst : X → List (Nat × Nat × Value)} {J : X → (Nat → Bool) → World → Prop} {a : Act} : ∀ (os : List Oper) (i : Nat), ActSteps P ops Q (fun x L => selA L (lst x) a) J i os → FactSteps P ops Q lst J a i os
  | [], _, _ => FactSteps.nil
  | _ :: os, i, h => FactSteps.cons h.1 (ActSteps.facts os (i + 1) h.2)
theorem wp_region_acts {X : Type} (lst : X → List (Nat × Nat × Value)) (J : X → (Nat → Bool) → World → Prop) {id : Nat} {a : Act} {w : World} (hm : P.follows .mixedOrders = true) (hlow : Region.lowB .any ops = true)
    (x0 : X) (h0 : J x0 (fun j => decide (ops.size ≤ j)) w.drew) (ha : selA (fun j => decide (ops.size ≤ j)) (lst x0) a = a)
    (hstep : ActSteps P ops Q (fun x L => selA L (lst x) a) J 0 ops.toList)
    (hend : ∀ x w, J x (fun _ => true) w → Q .normal (selA (fun _ => true) (lst x) a) w) : (Code.region id ops true).wp P Q a w :=
  wp_region_facts lst J hm hlow x0 h0 ha (ActSteps.facts _ _ hstep) hend
end
end Go.Proofs.YtknaghdoffigjaaGreatDoor
