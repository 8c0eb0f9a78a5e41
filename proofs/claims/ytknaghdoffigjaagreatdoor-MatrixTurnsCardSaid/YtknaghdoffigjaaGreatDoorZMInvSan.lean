/-
  What Inverse computes at the matrices of the chapter's examples. Plain mathematics: digits to the base 65536, the least significant one first. No program stands in this text. Words for memory: a block that holds a list of int numbers; a slice that reads as such a list. And the contract of the reference's trim.
-/
import Derived.Test.YtknaghdoffigjaaGreatDoorZMInvV
import Derived.Test.YtknaghdoffigjaaGreatDoorZMEqual
import Derived.Test.YtknaghdoffigjaaGreatDoorZNum
import Derived.Test.YtknaghdoffigjaaGreatDoorZW1
set_option linter.unusedSimpArgs false
set_option linter.unusedVariables false
set_option linter.unnecessarySimpa false
namespace Go.Proofs.YtknaghdoffigjaaGreatDoor
open Go.RowKit Go

theorem primesF_skip (f v : Nat) (hv : 2 * f + 3 = v) (hs : sprp v = false) : primesF (f + 1) = primesF f := by
  rw [primesF, hv, if_neg (by rw [hs]; decide)]
theorem PL.two {pl : List Nat} (hpl : PL pl) : pl.getD 1 0 = 2147483629 ∧ 2 ≤ pl.length := by
  obtain ⟨f, hf, rfl⟩ := hpl
  obtain ⟨g, rfl⟩ : ∃ g, f = g + 9 := ⟨f - 9, by omega⟩
  obtain ⟨s1, s2, s3, s4, s5, s6, s7, s8⟩ := sprp_between
  have e : primesF (g + 9) = 2147483629 :: primesF g := by
    rw [primesF_skip (g + 8) _ (by omega) s1, primesF_skip (g + 7) _ (by omega) s2, primesF_skip (g + 6) _ (by omega) s3, primesF_skip (g + 5) _ (by omega) s4, primesF_skip (g + 4) _ (by omega) s5, primesF_skip (g + 3) _ (by omega) s6, primesF_skip (g + 2) _ (by omega) s7, primesF_skip (g + 1) _ (by omega) s8,
      primesF, show 2 * g + 3 = 2147483629 from by omega, if_pos sprp_629]
  rw [e]
  exact ⟨rfl, by simp⟩
theorem estM_congr {pl ql : List Nat} (k : Nat) (h : ∀ j, j < k → pl.getD j 0 = ql.getD j 0) : estM pl k = estM ql k := by
  induction k with
  | zero => rfl
  | succ k ih => rw [estM, estM, ih fun j hj => h j (by omega), h k (by omega)]
theorem estL_congr {pl ql : List Nat} (n : Nat) (zs : List Int) (k : Nat) (h : ∀ j, j < k → pl.getD j 0 = ql.getD j 0) : estL pl n zs k = estL ql n zs k := by
  induction k with
  | zero => rfl
  | succ k ih => rw [estL, estL, ih fun j hj => h j (by omega), h k (by omega), estM_congr k fun j hj => h j (by omega)]
theorem estC_congr {pl ql : List Nat} (n : Nat) (zs : List Int) (k : Nat) (h : ∀ j, j ≤ k → pl.getD j 0 = ql.getD j 0) : estC pl n zs k = estC ql n zs k := by
  rw [estC, estC, h k (by omega), estM_congr k fun j hj => h j (by omega), estL_congr n zs k fun j hj => h j (by omega)]
/-- The first two primes. -/
def P2 : List Nat := [2147483647, 2147483629]
theorem PL.p2 {pl : List Nat} (hpl : PL pl) (j : Nat) (hj : j ≤ 1) : pl.getD j 0 = P2.getD j 0 := by
  rcases Nat.lt_or_ge j 1 with h | h
  · obtain rfl : j = 0 := by omega
    exact hpl.first
  · obtain rfl : j = 1 := by omega
    exact hpl.two.1
theorem est_sane : estL P2 2 [2, 1, 1, 1] 2 = [1, -1, -1, 2] := by decide +kernel
theorem est_ch0 : estC P2 2 [2, 1, 1, 1] 0 = true := by decide +kernel
theorem est_ch1 : estC P2 2 [2, 1, 1, 1] 1 = false := by decide +kernel
theorem inv_det0 : invDet 2147483647 [2, 1, 1, 1] 2 = 1 := by decide +kernel
theorem inv_det1 : invDet 2147483629 [2, 1, 1, 1] 2 = 1 := by decide +kernel
theorem inv_det2 : invDet 2147483647 [1, 2, 3, 4] 2 = 2147483645 := by decide +kernel
theorem inv_one : isInvB 2 (mulL [2, 1, 1, 1] [1, -1, -1, 2] 2 2 2) = true := by decide +kernel
theorem small_ints (zs : List Int) (h : (zs.all fun x => decide (-100 ≤ x) && decide (x ≤ 100)) = true) (j : Nat) : -100 ≤ zs.getD j 0 ∧ zs.getD j 0 ≤ 100 := by
  rw [List.all_eq_true] at h
  rw [List.getD_eq_getElem?_getD]
  cases hx : zs[j]? with
  | none => simp
  | some x =>
    have h3 := h x (List.mem_of_getElem? hx)
    simp at h3
    simpa using h3
theorem small_size (zs : List Int) (h : (zs.all fun x => decide (-100 ≤ x) && decide (x ≤ 100)) = true) (j : Nat) : (wmag (zs.getD j 0)).size ≤ 900 := by
  have := small_ints zs h j
  exact Nat.le_trans (wmag_size _ 1 (by omega)) (by omega)
theorem small_fit (zs : List Int) (h : (zs.all fun x => decide (-100 ≤ x) && decide (x ≤ 100)) = true) (j : Nat) : fitI (zs.getD j 0) := by
  have := small_ints zs h j
  unfold fitI
  omega
set_option maxRecDepth 100000 in
theorem Inverse_sane1 (gA cap : Nat) (w : World) (hA : Lw w gA (enc [2, 1, 1, 1])) (hcap : 4 ≤ cap) (hcapm : cap ≤ maxLen) (hTz : Tz w) :
    Calls Tryz.prog 28 #[mat 2 2 (some ⟨gA, 0, none⟩) 4 cap] w fun e w' => ∃ g, e = .returned (.tuple #[mat 2 2 (some ⟨g, 0, none⟩) 4 4, .bool true]) ∧ w.heap.size ≤ g ∧ Lw w' g (enc [1, -1, -1, 2]) ∧ Below w.heap.size w w' := by
  obtain ⟨pl, hpl⟩ := PL_ex
  have h0 := hpl.first
  have h1 := hpl.two
  have e2 : estL pl 2 [2, 1, 1, 1] 2 = [1, -1, -1, 2] := by rw [estL_congr (ql := P2) 2 _ 2 (fun j hj => hpl.p2 j (by omega)), est_sane]
  have c0 : estC pl 2 [2, 1, 1, 1] 0 = true := by rw [estC_congr (ql := P2) 2 _ 0 (fun j hj => hpl.p2 j (by omega)), est_ch0]
  have c1 : estC pl 2 [2, 1, 1, 1] 1 = false := by rw [estC_congr (ql := P2) 2 _ 1 (fun j hj => hpl.p2 j (by omega)), est_ch1]
  have h := Inverse_any gA 4 2 cap 1 pl [2, 1, 1, 1] true w hpl hA rfl (by omega) rfl hcap hcapm (small_size _ (by decide)) (by omega) (by omega)
    (fun j hj => by
      obtain rfl : j = 0 := by omega
      rw [h0]
      exact ⟨.inl inv_det0, .inl c0⟩)
    (by
      rw [if_pos rfl, h1.1]
      refine ⟨.inl inv_det1, by rw [c1]; decide, ?_⟩
      rw [show 1 + 1 = 2 from rfl, e2]
      exact inv_one)
    (fun k hk _ hc W gb hWa hWb => by
      rcases Nat.lt_or_ge k 1 with hlt | hge
      · obtain rfl : k = 0 := by omega
        rw [c0] at hc
        cases hc
      · obtain rfl : k = 1 := by omega
        rw [show 1 + 1 = 2 from rfl, e2] at hWb ⊢
        exact isInverse_ints gA gb 2 4 cap 4 [2, 1, 1, 1] [1, -1, -1, 2] W hWa hWb rfl rfl (by omega) rfl (by decide +kernel) (by decide +kernel) (small_fit _ (by decide)) (small_fit _ (by decide)) (by decide +kernel))
    hTz
  refine h.mono ?_
  rintro e w' ⟨r, rfl, hg, _, hb⟩
  obtain ⟨g, rfl, hge, hL⟩ := hg rfl
  rw [show 1 + 1 = 2 from rfl, e2] at hL
  exact ⟨g, rfl, hge, hL, hb⟩
set_option maxRecDepth 100000 in
theorem Inverse_sane2 (gA cap : Nat) (w : World) (hA : Lw w gA (enc [1, 2, 3, 4])) (hcap : 4 ≤ cap) (hcapm : cap ≤ maxLen) (hTz : Tz w) :
    Calls Tryz.prog 28 #[mat 2 2 (some ⟨gA, 0, none⟩) 4 cap] w fun e w' => e = .returned (.tuple #[mat 0 0 none 0 0, .bool false]) ∧ Below w.heap.size w w' := by
  obtain ⟨pl, hpl⟩ := PL_ex
  have h0 := hpl.first
  have h1 := hpl.two
  have hno : ¬ (invDet (pl.getD 0 0) [1, 2, 3, 4] 2 = 1 ∨ invDet (pl.getD 0 0) [1, 2, 3, 4] 2 + 1 = pl.getD 0 0) := by
    rw [h0, inv_det2]
    decide
  have h := Inverse_any gA 4 2 cap 0 pl [1, 2, 3, 4] false w hpl hA rfl (by omega) rfl hcap hcapm (small_size _ (by decide)) (by omega) (by omega)
    (fun j hj => absurd hj (by omega))
    (by
      rw [if_neg (by decide)]
      exact hno)
    (fun k hk hG _ W gb hWa hWb => by
      obtain rfl : k = 0 := by omega
      exact absurd hG hno)
    hTz
  refine h.mono ?_
  rintro e w' ⟨r, rfl, _, hr, hb⟩
  rw [hr rfl]
  exact ⟨rfl, hb⟩
end Go.Proofs.YtknaghdoffigjaaGreatDoor
namespace Go.Proofs.YtknaghdoffigjaaGreatDoor

/- Digits to the base 65536, the least significant one first. -/
def C16 : Nat := 65536
theorem C16_eq : C16 = 65536 := rfl
def qval : List Nat → Nat
  | [] => 0
  | x :: l => x + C16 * qval l
def Qds (l : List Nat) : Prop := ∀ x ∈ l, x < C16
def qdsF : Nat → Nat → List Nat
  | 0, _ => []
  | f + 1, n => if n = 0 then [] else n % C16 :: qdsF f (n / C16)
/-- The digits of n, without zeros at the end. -/
def qds (n : Nat) : List Nat := qdsF n n

theorem C16_pos : 0 < C16 := by rw [C16_eq]; omega
theorem div_lt_C16 {n : Nat} (h : n ≠ 0) : n / C16 < n := Nat.div_lt_self (by omega) (by rw [C16_eq]; omega)
theorem qdsF_any (f g n : Nat) (hf : n ≤ f) (hg : n ≤ g) : qdsF f n = qdsF g n := by
  induction f generalizing g n with
  | zero => obtain rfl : n = 0 := by omega
            cases g <;> simp [qdsF]
  | succ f ih =>
    cases g with
    | zero => obtain rfl : n = 0 := by omega
              simp [qdsF]
    | succ g =>
      simp only [qdsF]
      by_cases h : n = 0
      · simp [h]
      · have := div_lt_C16 h
        rw [if_neg h, if_neg h, ih g _ (by omega) (by omega)]
theorem qds_zero : qds 0 = [] := rfl
theorem qds_step (n : Nat) (h : n ≠ 0) : qds n = n % C16 :: qds (n / C16) := by
  unfold qds
  have := div_lt_C16 h
  cases n with
  | zero => exact absurd rfl h
  | succ n =>
    rw [show qdsF (n + 1) (n + 1) = (n + 1) % C16 :: qdsF n ((n + 1) / C16) from by simp [qdsF], qdsF_any n _ _ (by omega) (Nat.le_refl _)]
theorem qval_qds (n : Nat) : qval (qds n) = n := by
  induction n using Nat.strongRecOn with
  | ind n ih =>
    by_cases h : n = 0
    · subst h; rfl
    · rw [qds_step n h, qval, ih _ (div_lt_C16 h)]
      exact Nat.mod_add_div n C16
theorem qds_qds (n : Nat) : Qds (qds n) := by
  induction n using Nat.strongRecOn with
  | ind n ih =>
    by_cases h : n = 0
    · subst h; intro x hx; simp [qds_zero] at hx
    · rw [qds_step n h]
      intro x hx
      rcases List.mem_cons.1 hx with rfl | hx
      · exact Nat.mod_lt _ C16_pos
      · exact ih _ (div_lt_C16 h) x hx
theorem Qds.tail {x : Nat} {l : List Nat} (h : Qds (x :: l)) : Qds l := fun y hy => h y (List.mem_cons_of_mem _ hy)
theorem Qds.head {x : Nat} {l : List Nat} (h : Qds (x :: l)) : x < C16 := h x List.mem_cons_self
theorem Qds.nil : Qds [] := by intro x hx; cases hx
theorem Qds.cons {x : Nat} {l : List Nat} (h : x < C16) (hl : Qds l) : Qds (x :: l) := by
  intro y hy
  rcases List.mem_cons.1 hy with rfl | hy
  · exact h
  · exact hl y hy
theorem Qds.getD {l : List Nat} (h : Qds l) (k : Nat) : l.getD k 0 < C16 := by
  by_cases hk : k < l.length
  · rw [List.getD_eq_getElem?_getD, List.getElem?_eq_getElem hk]; exact h _ (List.getElem_mem hk)
  · rw [List.getD_eq_getElem?_getD, List.getElem?_eq_none (by omega)]; exact C16_pos
theorem ptrim_qds {l : List Nat} (h : Qds l) : ptrim l = qds (qval l) := by
  induction l with
  | nil => rfl
  | cons x l ih =>
    have hx := h.head
    have ih := ih h.tail
    have hm : (x + C16 * qval l) % C16 = x := by rw [Nat.add_mul_mod_self_left, Nat.mod_eq_of_lt hx]
    have hd : (x + C16 * qval l) / C16 = qval l := by rw [Nat.add_mul_div_left _ _ C16_pos, Nat.div_eq_of_lt hx, Nat.zero_add]
    by_cases h0 : qval l = 0
    · have : ptrim l = [] := by rw [ih, h0, qds_zero]
      simp only [ptrim, this, qval]
      by_cases hx0 : x = 0
      · simp [hx0, h0, qds_zero]
      · rw [if_neg hx0, h0, Nat.mul_zero, Nat.add_zero, qds_step x hx0, Nat.mod_eq_of_lt hx, Nat.div_eq_of_lt hx, qds_zero]
    · have hne : x + C16 * qval l ≠ 0 := by
        have : 0 < C16 * qval l := Nat.mul_pos C16_pos (by omega)
        omega
      rw [qval, qds_step _ hne, hm, hd, ptrim]
      have : qds (qval l) ≠ [] := by rw [qds_step _ h0]; simp
      rw [ih]
      cases hl : qds (qval l) with
      | nil => exact absurd hl this
      | cons y r => rfl
theorem qval_append (a b : List Nat) : qval (a ++ b) = qval a + C16 ^ a.length * qval b := by
  induction a with
  | nil => simp [qval]
  | cons x a ih => rw [List.cons_append, qval, ih, qval, List.length_cons, Nat.pow_succ, Nat.mul_add, Nat.add_assoc, Nat.mul_comm (C16 ^ a.length) C16, Nat.mul_assoc]
theorem qval_snoc (a : List Nat) (x : Nat) : qval (a ++ [x]) = qval a + C16 ^ a.length * x := by rw [qval_append]; simp [qval]
end Go.Proofs.YtknaghdoffigjaaGreatDoor
namespace Go.Proofs.YtknaghdoffigjaaGreatDoor
open Go.RowKit

/-- The cells of a list of int numbers. -/
def J (xs : List Nat) : Array Value := (xs.map fun x : Nat => Value.int .i64 (x : Int)).toArray
/-- Block g is just this list of int numbers, and may be written. -/
def Jst (w : World) (g : Nat) (xs : List Nat) : Prop := w.heap[g]? = some (.cells (J xs) 3 (0, 0))
/-- A slice with this address, as long as the list, reads as the list. -/
def RdJ (w : World) (A : Option Addr) (xs : List Nat) : Prop :=
  ∀ k, k < xs.length → ∃ a, A = some a ∧ a.block < w.heap.size ∧ w.cell? (a.add k) = some (.int .i64 (xs.getD k 0 : Nat))

theorem J_get (xs : List Nat) (k : Nat) (h : k < xs.length) : (J xs)[k]? = some (.int .i64 (xs.getD k 0 : Nat)) := by
  simp [J, List.getD_eq_getElem?_getD, List.getElem?_eq_getElem h]
theorem J_set (xs : List Nat) (k x : Nat) : (J xs).setIfInBounds k (.int .i64 (x : Int)) = J (xs.set k x) := by
  simp [J, List.map_set]

section

variable {w w' : World} {g : Nat} {xs : List Nat}

theorem Jst.lt (h : Jst w g xs) : g < w.heap.size := by
  rcases Nat.lt_or_ge g w.heap.size with hlt | hge
  · exact hlt
  · unfold Jst at h; rw [Array.getElem?_eq_none hge] at h; cases h
theorem Jst.cell (h : Jst w g xs) {k : Nat} (hk : k < xs.length) : w.cell? ⟨g, k, none⟩ = some (.int .i64 (xs.getD k 0 : Nat)) :=
  (cell_of_row w g k (J xs) _ (0, 0) h).trans (J_get xs k hk)
theorem Jst.frozen (h : Jst w g xs) (k : Nat) : w.frozen? ⟨g, k, none⟩ = false := by
  unfold Jst at h
  simp [World.frozen?, h]
theorem Jst.set (h : Jst w g xs) (k x : Nat) : Jst (w.setCell ⟨g, k, none⟩ (.int .i64 (x : Int))) g (xs.set k x) := by
  unfold Jst at h ⊢
  rw [← J_set]
  simp [World.setCell, Array.getElem?_modify, h]
theorem Jst.block (h : Jst w g xs) (hb : w'.heap[g]? = w.heap[g]?) : Jst w' g xs := hb.trans h
theorem Jst.below {B : Nat} (h : Jst w g xs) (hb : Below B w w') (hg : g < B) : Jst w' g xs := h.block (hb.block g hg)
theorem Jst.alloc (h : Jst w g xs) (o : Obj) : Jst (w.alloc o) g xs := h.block (Below.heap_alloc w o g h.lt)
theorem Jst.drew (h : Jst w g xs) : Jst w.drew g xs := h
theorem Jst.drewN (h : Jst w g xs) (n : Nat) : Jst (w.drewN n) g xs := h
theorem Jst.grown {row : Option Nat} (h : Jst w g xs) (hb : w.grownBy w' row) (hg : some g ≠ row) : Jst w' g xs := h.block (hb.block g h.lt hg)
theorem Jst.rd (h : Jst w g xs) : RdJ w (some ⟨g, 0, none⟩) xs := fun k hk => ⟨_, rfl, h.lt, by
  have := h.cell hk
  have e : (⟨g, 0, none⟩ : Addr).add k = ⟨g, k, none⟩ := by
    unfold Addr.add
    by_cases h0 : k = 0 <;> simp [h0]
  rw [e]; exact this⟩
end

theorem Jst.new (w : World) (xs : List Nat) : Jst (w.alloc (.cells (J xs) 3)) w.heap.size xs := heap_alloc_new w _

section

variable {w w' : World} {A : Option Addr} {xs : List Nat}

theorem RdJ.nil (w : World) (A : Option Addr) : RdJ w A [] := fun k hk => absurd hk (by simp)
theorem RdJ.keep (h : RdJ w A xs) (hs : w.heap.size ≤ w'.heap.size) (hk : ∀ p : Addr, p.block < w.heap.size → w'.cell? p = w.cell? p) : RdJ w' A xs := fun k hx => by
  obtain ⟨a, e, hb, hc⟩ := h k hx
  exact ⟨a, e, by omega, (hk _ (by rw [block_add]; exact hb)).trans hc⟩
theorem RdJ.below (h : RdJ w A xs) (hb : Below w.heap.size w w') : RdJ w' A xs := h.keep hb.size fun _ hp => hb.cell hp
theorem RdJ.drew (h : RdJ w A xs) : RdJ w.drew A xs := h
theorem RdJ.drewN (h : RdJ w A xs) (n : Nat) : RdJ (w.drewN n) A xs := h
theorem RdJ.take (h : RdJ w A xs) (m : Nat) : RdJ w A (xs.take m) := fun k hk => by
  rw [List.length_take] at hk
  obtain ⟨a, e, hb, hc⟩ := h k (by omega)
  refine ⟨a, e, hb, ?_⟩
  rw [hc, List.getD_eq_getElem?_getD, List.getD_eq_getElem?_getD, List.getElem?_take_of_lt (by omega)]
end

set_option maxHeartbeats 400000 in
theorem reftrim_any (A : Option Addr) (n c : Nat) (xs : List Nat) (w : World) (hn : xs.length = n) (h : RdJ w A xs) (hc : n ≤ c) (hm : c ≤ maxLen) :
    Calls Tryz.prog 142 #[.slice A n c] w fun e w' => e = .returned (.slice A (ptrim xs).length c) ∧ w = w' := by
  subst hn
  unfold maxLen at hm
  go_enter Tryz.func142, Tryz.ntmps142
  go_wp2
  go_loop [0] (fun z => ∃ k : Nat, k ≤ xs.length ∧ z = .slice A k c ∧ ptrim xs = ptrim (xs.take k)) (fun z => match z with | .slice _ k _ => k | _ => 0)
  case atStart => exact ⟨xs.length, Nat.le_refl _, rfl, by simp⟩
  case round =>
    obtain ⟨k, hk, rfl, hp⟩ := hrel
    have H := Lib.hid hp
    clear hp
    cases k with
    | zero =>
      go_wp2
      go_ret
      exact ⟨by rw [H.out]; rfl, rfl⟩
    | succ k =>
      obtain ⟨a, rfl, hb, hcell⟩ := h k (by omega)
      by_cases h0 : xs.getD k 0 = 0
      · have H2 := Lib.hid (H.out.trans (ptrim_take_zero xs k (by omega) h0))
        rw [h0] at hcell
        clear h0
        go_wp2
        go_round
        case rel => exact ⟨k, by omega, rfl, H2.out⟩
        case measure => simp
      · have h0b : (((xs.getD k 0 : Nat) : Int) == 0) = false := by
          rw [beq_eq_false_iff_ne]; omega
        have H2 := Lib.hid (H.out.trans (ptrim_take_stop xs k (by omega) h0))
        clear h0
        generalize xs.getD k 0 = y at *
        go_wp2
        go_ret
        exact ⟨by rw [H2.out, List.length_take, Nat.min_eq_left hk]; rfl, rfl⟩
end Go.Proofs.YtknaghdoffigjaaGreatDoor
