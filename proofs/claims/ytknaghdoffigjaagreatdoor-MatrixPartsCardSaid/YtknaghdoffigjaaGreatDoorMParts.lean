/-
  The law MatrixParts, its call: it returns true.
-/
import Derived.Test.YtknaghdoffigjaaGreatDoorMRefN
import Derived.Test.YtknaghdoffigjaaGreatDoorMWith
set_option linter.unusedSimpArgs false
set_option linter.unusedVariables false
set_option linter.unnecessarySimpa false
namespace Go.Proofs.YtknaghdoffigjaaGreatDoor
open Go.RowKit Go
attribute [local go_sem] Oper.semAt_some

theorem ofL_at (rows : List (List Int)) (n c i j : Nat) (hi : i < n) (hj : j < c) : (ofL rows n c).getD (i * c + j) 0 = (rows.getD i []).getD j 0 := by
  have h : i * c + j < n * c := by
    have := Nat.mul_le_mul_right c (show i + 1 ≤ n by omega)
    rw [Nat.add_mul] at this
    omega
  unfold ofL
  rw [List.getD_eq_getElem?_getD, List.getElem?_map, List.getElem?_range h, Option.map_some, Option.getD_some, Nat.mul_comm i c, Nat.mul_add_div (by omega), Nat.div_eq_of_lt hj, Nat.mul_add_mod, Nat.mod_eq_of_lt hj]
  rfl
theorem divmod_lt {k n c : Nat} (h : k < n * c) : k / c < n ∧ k % c < c := by
  have hc : 0 < c := by
    rcases Nat.eq_zero_or_pos c with h0 | h0
    · subst h0; omega
    · exact h0
  exact ⟨(Nat.div_lt_iff_lt_mul hc).2 h, Nat.mod_lt _ hc⟩
theorem list_of_get (xs : List Int) (n : Nat) (hl : xs.length = n) (f : Nat → Int) (h : ∀ k, k < n → f k = xs.getD k 0) : (List.range n).map f = xs := by
  apply List.ext_getElem
  · simp [hl]
  · intro i h1 h2
    simp only [List.getElem_map, List.getElem_range]
    rw [h i (by simpa using h1), List.getD_eq_getElem?_getD, List.getElem?_eq_getElem h2]
    rfl
theorem map_at (f : Nat → Int) (n k : Nat) (h : k < n) : ((List.range n).map f).getD k 0 = f k := by
  rw [List.getD_eq_getElem?_getD, List.getElem?_map, List.getElem?_range h]
  rfl
theorem app_left (xs ys : List Int) (k : Nat) (h : k < xs.length) : (xs ++ ys).getD k 0 = xs.getD k 0 := by
  rw [List.getD_eq_getElem?_getD, List.getElem?_append_left h, List.getD_eq_getElem?_getD]
theorem app_right (xs ys : List Int) (k : Nat) : (xs ++ ys).getD (xs.length + k) 0 = ys.getD k 0 := by
  rw [List.getD_eq_getElem?_getD, List.getElem?_append_right (by omega), show xs.length + k - xs.length = k by omega, List.getD_eq_getElem?_getD]
/-- The left part of what is joined. -/
theorem prt_left (xs ys : List Int) (c1 c2 r m : Nat) (hm : c1 + c2 = m) (hl : xs.length = r * c1) : ofL (prt (ofL (jnr xs ys c1 c2 r) r m) m 0 0 r c1) r c1 = xs := by
  refine list_of_get xs (r * c1) hl _ fun k hk => ?_
  obtain ⟨h1, h2⟩ := divmod_lt hk
  rw [prt_get _ _ _ _ _ _ _ h1, map_at _ _ _ h2, Nat.zero_add, Nat.add_zero, ofL_at _ _ _ _ _ h1 (by omega), jnr_get _ _ _ _ _ _ h1, app_left _ _ _ (by simpa using h2), map_at _ _ _ h2, Nat.mul_comm, Nat.div_add_mod]
/-- The right part of what is joined. -/
theorem prt_right (xs ys : List Int) (c1 c2 r m : Nat) (hm : c1 + c2 = m) (hl : ys.length = r * c2) : ofL (prt (ofL (jnr xs ys c1 c2 r) r m) m 0 c1 r c2) r c2 = ys := by
  refine list_of_get ys (r * c2) hl _ fun k hk => ?_
  obtain ⟨h1, h2⟩ := divmod_lt hk
  have h3 := app_right ((List.range c1).map fun j => xs.getD (k / c2 * c1 + j) 0) ((List.range c2).map fun j => ys.getD (k / c2 * c2 + j) 0) (k % c2)
  rw [List.length_map, List.length_range] at h3
  rw [prt_get _ _ _ _ _ _ _ h1, map_at _ _ _ h2, Nat.zero_add, Nat.add_assoc, ofL_at _ _ _ _ _ h1 (by omega), jnr_get _ _ _ _ _ _ h1, h3, map_at _ _ _ h2, Nat.mul_comm, Nat.div_add_mod]
theorem same_caps (r c : Int) (A B : Option Addr) (n ca cb : Nat) (xs : List (Bool × ByteArray)) (w : World) (hx : RdW w A xs) (hy : RdW w B xs) (hn : xs.length = n) (hnb : n ≤ 1000000) :
    Calls Tryz.prog 17 #[.agg #[.int .i64 r, .int .i64 c, .slice A n ca], .agg #[.int .i64 r, .int .i64 c, .slice B n cb]] w fun e w' => e = .returned (.bool true) ∧ Below w.heap.size w w' := by
  have h := same_any r c r c A B n n ca cb xs xs w hx hy hn hn hnb hnb
  rw [decide_eq_true rfl, decide_eq_true rfl, decide_eq_true rfl] at h
  exact h
theorem Equal_self (r c N : Nat) (zs : List Int) (hl : zs.length = r * c) (hN : r * c = N) (hr : r ≤ 200) (hc : c ≤ 200) (gA gB : Nat) (W : World) (h1 : Lw W gA (enc zs)) (h2 : Lw W gB (enc zs)) :
    Calls Tryz.prog 38 #[.agg #[.int .i64 (r : Int), .int .i64 (c : Int), .slice (some ⟨gA, 0, none⟩) N N], .agg #[.int .i64 (r : Int), .int .i64 (c : Int), .slice (some ⟨gB, 0, none⟩) N N]] W fun e w' => e = .returned (.bool true) ∧ Below W.heap.size W w' := by
  have hNb : N ≤ 40000 := by rw [← hN]; exact Nat.le_trans (Nat.mul_le_mul hr hc) (by omega)
  have h := Equal_any (r : Int) (c : Int) (r : Int) (c : Int) (some ⟨gA, 0, none⟩) (some ⟨gB, 0, none⟩) N N N N (enc zs) (enc zs) W h1.rdw h2.rdw (by rw [enc_length, hl, hN]) (by rw [enc_length, hl, hN]) (by omega) (by omega)
  rw [mright_ints r c zs hl hr hc, decide_eq_true rfl] at h
  unfold mat at h
  simpa using h
/-- Slices that read as these Wides. -/
def RdL (w : World) (l : List (Option Addr × List (Bool × ByteArray))) : Prop := ∀ p ∈ l, RdW w p.1 p.2
theorem RdL.below {w w' : World} {l : List (Option Addr × List (Bool × ByteArray))} (h : RdL w l) (hb : Below w.heap.size w w') : RdL w' l := fun p hp => (h p hp).below hb
theorem RdL.alloc {w : World} {l : List (Option Addr × List (Bool × ByteArray))} (h : RdL w l) (o : Obj) : RdL (w.alloc o) l := h.below ((Below.refl _ _).alloc (Nat.le_refl _) o)
theorem RdL.more {w : World} {l : List (Option Addr × List (Bool × ByteArray))} (h : RdL w l) {A : Option Addr} {zs : List (Bool × ByteArray)} (ha : RdW w A zs) : RdL w (l ++ [(A, zs)]) := fun p hp => by
  rcases List.mem_append.1 hp with hp | hp
  · exact h p hp
  · rcases List.mem_singleton.1 hp with rfl
    exact ha
theorem RdW.matput {w : World} {A : Option Addr} {zs : List (Bool × ByteArray)} (h : RdW w A zs) {b : Nat} {r c : Int} {A' : Option Addr} {n cap : Nat} {ty : TypeId} {fr : Nat × Nat} (hb : w.heap[b]? = some (.cells #[.int .i64 r, .int .i64 c, .slice A' n cap] ty fr)) (i : Nat) (v : Value) : RdW (w.setCell ⟨b, i, none⟩ v) A zs := fun k hk => by
  obtain ⟨a, e, ha, h1, h2⟩ := h k hk
  have hne : a.block ≠ b := by
    intro hab
    have hab2 : (a.add (k * 2)).block = b := by rw [block_add]; exact hab
    unfold World.cell? at h1
    rw [hab2, hb] at h1
    simp only at h1
    split at h1
    · cases h1
    · generalize (a.add (k * 2)).off = o at h1
      match o, h1 with
      | 0, h1 => simp at h1
      | 1, h1 => simp at h1
      | 2, h1 => simp at h1
      | o + 3, h1 => simp at h1
  have hk2 : (w.setCell ⟨b, i, none⟩ v).heap[a.block]? = w.heap[a.block]? := Below.heap_setCell w _ v _ (by simpa using hne)
  refine ⟨a, e, by simpa [World.setCell] using ha, ?_, ?_⟩
  · rw [World.cell?_of_block (w := w) (by rw [block_add]; exact hk2)]; exact h1
  · rw [World.cell?_of_block (w := w) (by simp only []; rw [block_add]; exact hk2)]; exact h2
theorem RdL.matput {w : World} {l : List (Option Addr × List (Bool × ByteArray))} (h : RdL w l) {b : Nat} {r c : Int} {A' : Option Addr} {n cap : Nat} {ty : TypeId} {fr : Nat × Nat} (hb : w.heap[b]? = some (.cells #[.int .i64 r, .int .i64 c, .slice A' n cap] ty fr)) (i : Nat) (v : Value) : RdL (w.setCell ⟨b, i, none⟩ v) l := fun p hp => (h p hp).matput hb i v
theorem RdL.nil (w : World) : RdL w [] := fun p hp => absurd hp (by simp)
/-- A matrix's variable that may not be there, or not be filled yet. -/
def entM (a s : Bool) (b : Nat) (o : Obj) : Option (Nat × Obj) := if a = true then some (b, if s = true then o else mrow 0 0 none 0 0) else none
theorem entM_no (s : Bool) (b : Nat) (o : Obj) : entM false s b o = none := rfl
theorem entM_new (b : Nat) (o : Obj) : entM true false b o = some (b, mrow 0 0 none 0 0) := rfl
theorem entM_full (b : Nat) (o : Obj) : entM true true b o = some (b, o) := rfl
/-- The variable alone. -/
def entV (a : Bool) (b : Nat) : Option (Nat × Obj) := if a = true then some (b, mrow 0 0 none 0 0) else none
theorem entM_false (a : Bool) (b : Nat) (o : Obj) : entM a false b o = entV a b := by cases a <;> rfl
theorem lt_of_false {x : Bool} {y : Bool} (h : x = true → y = true) (hy : y = false) : x = false := by
  cases x with
  | false => rfl
  | true => rw [h rfl] at hy; cases hy
/-- Joining two matrices of zeros. -/
theorem zeros_join (r c N1 N2 : Nat) (hr : r ≤ 6) (hc : c ≤ 6) (h1 : r * 195 = N1) (h2 : r * c = N2) :
    ∃ (ok : Bool) (rr cc : Int) (N : Nat) (es : List (Bool × ByteArray)), es.length = N ∧ N ≤ 40000 ∧ ok = decide (c ≤ 5) ∧ (ok = false → rr = 0 ∧ cc = 0 ∧ N = 0 ∧ es = []) ∧
      (∀ gA gB W, Lw W gA (enc (List.replicate N1 0)) → Lw W gB (enc (List.replicate N2 0)) → RetP Tryz.prog 49 #[.agg #[.int .i64 (r : Int), .int .i64 195, .slice (some ⟨gA, 0, none⟩) N1 N1], .agg #[.int .i64 (r : Int), .int .i64 (c : Int), .slice (some ⟨gB, 0, none⟩) N2 N2]] ok rr cc N es W) := by
  have hl1 : (List.replicate N1 (0 : Int)).length = r * 195 := by rw [List.length_replicate, h1]
  have hl2 : (List.replicate N2 (0 : Int)).length = r * c := by rw [List.length_replicate, h2]
  have b1 : N1 ≤ 1170 := by rw [← h1]; exact Nat.mul_le_mul hr (Nat.le_refl 195)
  have b2 : N2 ≤ 36 := by rw [← h2]; exact Nat.mul_le_mul hr hc
  have m1 : N1 ≤ maxLen := by unfold maxLen; omega
  have m2 : N2 ≤ maxLen := by unfold maxLen; omega
  have r1 := mright_ints r 195 _ hl1 (by omega) (by omega)
  have r2 := mright_ints r c _ hl2 (by omega) (by omega)
  by_cases h : c ≤ 5
  · obtain ⟨m, hm⟩ : ∃ m, 195 + c = m := ⟨_, rfl⟩
    have hb : r * m ≤ 40000 := Nat.le_trans (Nat.mul_le_mul (show r ≤ 200 by omega) (show m ≤ 200 by omega)) (by omega)
    refine ⟨true, r, m, r * m, enc (ofL (jnr (List.replicate N1 0) (List.replicate N2 0) 195 c r) r m), by rw [enc_length]; simp [ofL], hb, (decide_eq_true h).symm, fun e => (Bool.noConfusion e), fun gA gB W hA hB => ?_⟩
    refine (Join_ok gA gB r 195 c N1 N1 N2 N2 m (r * m) _ _ W hA hB hl1 h1.symm (Nat.le_refl _) m1 hl2 h2.symm (Nat.le_refl _) m2 r1 r2 (by omega) hm (by omega) rfl).mono ?_
    rintro e w' ⟨g, rfl, hg, hL, hb⟩
    exact ⟨_, _, rfl, hL.rdw, hb⟩
  · refine ⟨false, 0, 0, 0, [], rfl, by omega, (decide_eq_false h).symm, fun _ => ⟨rfl, rfl, rfl, rfl⟩, fun gA gB W hA hB => ?_⟩
    refine (Join_cols gA gB r 195 c N1 N1 N2 N2 (195 + c) _ _ W hA hB hl1 h1.symm (Nat.le_refl _) m1 hl2 h2.symm (Nat.le_refl _) m2 r1 r2 (by omega) (by omega) (by omega) rfl (by omega)).mono ?_
    rintro e w' ⟨rfl, hb⟩
    exact ⟨none, 0, rfl, RdW.nil _ _, hb⟩

set_option maxRecDepth 100000 in
set_option maxHeartbeats 8000000 in
theorem parts_any (A1 A2 : Option Addr) (n1 c1 n2 c2 R1 C1 R2 C2 : Nat) (L1 L2 : List Int) (q0 q1 q2 q3 : Int) (w : World) (hR1 : RdI w A1 L1) (hl1 : L1.length = n1) (hm1 : n1 ≤ maxLen) (hb1 : (∀ j, -9223372036854775808 ≤ L1.getD j 0 ∧ L1.getD j 0 ≤ 9223372036854775807))
    (hR2 : RdI w A2 L2) (hl2 : L2.length = n2) (hm2 : n2 ≤ maxLen) (hb2 : (∀ j, -9223372036854775808 ≤ L2.getD j 0 ∧ L2.getD j 0 ≤ 9223372036854775807)) (hq0 : -9223372036854775808 ≤ q0 ∧ q0 ≤ 9223372036854775807) (hq1 : -9223372036854775808 ≤ q1 ∧ q1 ≤ 9223372036854775807) (hq2 : -9223372036854775808 ≤ q2 ∧ q2 ≤ 9223372036854775807) (hq3 : -9223372036854775808 ≤ q3 ∧ q3 ≤ 9223372036854775807) (hTz : Tz w) :
    Calls Tryz.prog 9 #[.agg #[.int .u8 (R1 : Int), .int .u8 (C1 : Int), .slice A1 n1 c1], .agg #[.int .u8 (R2 : Int), .int .u8 (C2 : Int), .slice A2 n2 c2], .agg #[.int .i64 q0, .int .i64 q1, .int .i64 q2, .int .i64 q3]] w fun e w' => e = .returned (.bool true) ∧ Below w.heap.size w w' := by
  obtain ⟨r, hr⟩ : ∃ r, R1 % 7 = r := ⟨_, rfl⟩
  obtain ⟨k1, hk1⟩ : ∃ c, C1 % 7 = c := ⟨_, rfl⟩
  obtain ⟨rt, hrt⟩ : ∃ r, R2 % 7 = r := ⟨_, rfl⟩
  obtain ⟨k2, hk2⟩ : ∃ c, C2 % 7 = c := ⟨_, rfl⟩
  have hr6 : r ≤ 6 := by omega
  have hk16 : k1 ≤ 6 := by omega
  have hrt6 : rt ≤ 6 := by omega
  have hk26 : k2 ≤ 6 := by omega
  obtain ⟨N1, hN1⟩ : ∃ N, r * k1 = N := ⟨_, rfl⟩
  obtain ⟨N2, hN2⟩ : ∃ N, r * k2 = N := ⟨_, rfl⟩
  obtain ⟨NT, hNT⟩ : ∃ N, rt * k2 = N := ⟨_, rfl⟩
  obtain ⟨m, hmm⟩ : ∃ m, k1 + k2 = m := ⟨_, rfl⟩
  have hm12 : m ≤ 12 := by omega
  obtain ⟨N3, hN3⟩ : ∃ N, r * m = N := ⟨_, rfl⟩
  obtain ⟨NZ, hNZ⟩ : ∃ N, r * 195 = N := ⟨_, rfl⟩
  have hb1N : N1 ≤ 36 := by rw [← hN1]; exact Nat.mul_le_mul hr6 hk16
  have hb2N : N2 ≤ 36 := by rw [← hN2]; exact Nat.mul_le_mul hr6 hk26
  have hbTN : NT ≤ 36 := by rw [← hNT]; exact Nat.mul_le_mul hrt6 hk26
  have hb3N : N3 ≤ 72 := by rw [← hN3]; exact Nat.mul_le_mul hr6 hm12
  have hx1 : N1 ≤ maxLen := by unfold maxLen; omega
  have hx2 : N2 ≤ maxLen := by unfold maxLen; omega
  have hxT : NT ≤ maxLen := by unfold maxLen; omega
  have hx3 : N3 ≤ maxLen := by unfold maxLen; omega
  have hl1z : (wth L1 N1).length = r * k1 := by rw [wth_length, hN1]
  have hl2z : (wth L2 N2).length = r * k2 := by rw [wth_length, hN2]
  have hlTz : (wth L2 NT).length = rt * k2 := by rw [wth_length, hNT]
  have hmr1 := mright_ints r k1 _ hl1z (by omega) (by omega)
  have hmr2 := mright_ints r k2 _ hl2z (by omega) (by omega)
  have et : ((C2 : Int)).tmod 7 = (k2 : Int) := by rw [← hk2]; rfl
  have wt : IntKind.i64.wrap (k2 : Int) = (k2 : Int) := IntWalk.i64_in _ (by omega)
  have hma := fun W h => Mat_any A1 n1 c1 L1 R1 C1 r k1 N1 W h hl1 hm1 hr hk1 hN1 hb1
  have hmt := fun W h => Mat_any A2 n2 c2 L2 R2 C2 rt k2 NT W h hl2 hm2 hrt hk2 hNT hb2
  have hwi := fun W h => With_any A2 n2 c2 L2 (R2 : Int) (C2 : Int) r k2 N2 W h hl2 hm2 (by omega) (by omega) hN2 hb2
  have hjo := fun gA gB W h1 h2 => Join_ok gA gB r k1 k2 N1 N1 N2 N2 m N3 (wth L1 N1) (wth L2 N2) W h1 h2 hl1z hN1.symm (Nat.le_refl _) hx1 hl2z hN2.symm (Nat.le_refl _) hx2 hmr1 hmr2 (by omega) hmm (by omega) hN3
  have hpl := prt_left (wth L1 N1) (wth L2 N2) k1 k2 r m hmm hl1z
  have hpr := prt_right (wth L1 N1) (wth L2 N2) k1 k2 r m hmm hl2z
  obtain ⟨z3, hz3⟩ : ∃ z3, z3 = ofL (jnr (wth L1 N1) (wth L2 N2) k1 k2 r) r m := ⟨_, rfl⟩
  have hl3z : z3.length = r * m := by rw [hz3]; simp [ofL]
  rw [← hz3] at hjo hpl hpr
  have hmr3 := mright_ints r m z3 hl3z (by omega) (by omega)
  have hp1 : ∀ gA W, Lw W gA (enc z3) → Calls Tryz.prog 30 #[mat r m (some ⟨gA, 0, none⟩) N3 N3, .int .i64 0, .int .i64 0, .int .i64 (r : Int), .int .i64 (k1 : Int)] W fun e w' => ∃ g, e = .returned (.tuple #[mat r k1 (some ⟨g, 0, none⟩) N1 N1, .bool true]) ∧ W.heap.size ≤ g ∧ Lw w' g (enc (wth L1 N1)) ∧ Below W.heap.size W w' := fun gA W h => by
    have h := Part_ok gA r m N3 N3 0 0 r k1 N1 z3 W h hl3z hN3.symm (Nat.le_refl _) hx3 hmr3 (by omega) (by omega) (by omega) (by omega) hN1
    rw [hpl] at h
    simp only [show ((0 : Nat) : Int) = 0 from rfl] at h
    exact h
  have hp2 : ∀ gA W, Lw W gA (enc z3) → Calls Tryz.prog 30 #[mat r m (some ⟨gA, 0, none⟩) N3 N3, .int .i64 0, .int .i64 (k1 : Int), .int .i64 (r : Int), .int .i64 (k2 : Int)] W fun e w' => ∃ g, e = .returned (.tuple #[mat r k2 (some ⟨g, 0, none⟩) N2 N2, .bool true]) ∧ W.heap.size ≤ g ∧ Lw w' g (enc (wth L2 N2)) ∧ Below W.heap.size W w' := fun gA W h => by
    have h := Part_ok gA r m N3 N3 0 k1 r k2 N2 z3 W h hl3z hN3.symm (Nat.le_refl _) hx3 hmr3 (by omega) (by omega) (by omega) (by omega) hN2
    rw [hpr] at h
    simp only [show ((0 : Nat) : Int) = 0 from rfl] at h
    exact h
  have heq1 := fun gA gB W h1 h2 => Equal_self r k1 N1 (wth L1 N1) hl1z hN1 (by omega) (by omega) gA gB W h1 h2
  have heq2 := fun gA gB W h1 h2 => Equal_self r k2 N2 (wth L2 N2) hl2z hN2 (by omega) (by omega) gA gB W h1 h2
  obtain ⟨ok1, rr1, cc1, M1, es1, hel1, heb1, hj1, hrj1⟩ := Join_both r k1 rt k2 N1 N1 NT NT (wth L1 N1) (wth L2 NT) hl1z hN1.symm (Nat.le_refl _) hx1 hlTz hNT.symm (Nat.le_refl _) hxT (by omega) (by omega) (by omega)
  obtain ⟨ok2, rr2, cc2, M2, es2, hel2, heb2, hp3, hrp3⟩ := Part_both r m N3 N3 z3 q0 q1 q2 q3 hl3z hN3.symm (Nat.le_refl _) hx3 (by omega) (by omega) hq0 hq1 hq2 hq3
  have ha0 := and7 q0
  have ha1 := and7 q1
  have ha2 := and7 q2
  have ha3 := and7 q3
  obtain ⟨ok3, rr3, cc3, M3, es3, hel3, heb3, hp4, hrp4⟩ := Part_both r m N3 N3 z3 (bits .and .i64 q0 7) (bits .and .i64 q1 7) (bits .and .i64 q2 7) (bits .and .i64 q3 7) hl3z hN3.symm (Nat.le_refl _) hx3 (by omega) (by omega) (by omega) (by omega) (by omega) (by omega)
  obtain ⟨ok4, rr4, cc4, M4, es4, hel4, heb4, hok4, hno4, hzj⟩ := zeros_join r k2 NZ N2 hr6 hk26 hNZ hN2
  have hz1 : ∀ W, Calls Tryz.prog 20 #[.int .i64 (r : Int), .int .i64 195] W fun e w' => ∃ g, e = .returned (mat r 195 (some ⟨g, 0, none⟩) NZ NZ) ∧ W.heap.size ≤ g ∧ Lw w' g (enc (List.replicate NZ 0)) ∧ Below W.heap.size W w' := fun W => by
    have h := Zero_fits r 195 W (by omega) (by omega)
    rw [hNZ, ← enc_zeros] at h
    simp only [show ((195 : Nat) : Int) = 195 from rfl] at h
    exact h
  have hz2 : ∀ W, Calls Tryz.prog 20 #[.int .i64 (r : Int), .int .i64 (k2 : Int)] W fun e w' => ∃ g, e = .returned (mat r k2 (some ⟨g, 0, none⟩) N2 N2) ∧ W.heap.size ≤ g ∧ Lw w' g (enc (List.replicate N2 0)) ∧ Below W.heap.size W w' := fun W => by
    have h := Zero_fits r k2 W (by omega) (by omega)
    rw [hN2, ← enc_zeros] at h
    exact h
  obtain ⟨za, hza⟩ : ∃ za, za = wth L1 N1 := ⟨_, rfl⟩
  obtain ⟨zb, hzb⟩ : ∃ zb, zb = wth L2 N2 := ⟨_, rfl⟩
  obtain ⟨zt, hzt⟩ : ∃ zt, zt = wth L2 NT := ⟨_, rfl⟩
  obtain ⟨zy, hzy⟩ : ∃ zy, zy = List.replicate NZ (0 : Int) := ⟨_, rfl⟩
  obtain ⟨zz, hzz⟩ : ∃ zz, zz = List.replicate N2 (0 : Int) := ⟨_, rfl⟩
  rw [← hza] at hma hjo hp1 heq1 hj1 hrj1
  rw [← hzb] at hwi hjo hp2 heq2
  rw [← hzt] at hmt hj1 hrj1
  rw [← hzy] at hz1 hzj
  rw [← hzz] at hz2 hzj
  have hTs : ∀ W l, Kg none w W l → Tz W := fun W l h => hTz.of fun b hb => h.1.block b hb (by simp)
  have hRa : ∀ W l, Kg none w W l → RdI W A1 L1 := fun W l h => hR1.below (Kg.below_ h)
  have hRb : ∀ W l, Kg none w W l → RdI W A2 L2 := fun W l h => hR2.below (Kg.below_ h)
  unfold RetP at *
  unfold mat at *
  have HMA := Lib.hid hma
  have HMT := Lib.hid hmt
  have HWI := Lib.hid hwi
  have HJO := Lib.hid hjo
  have HP1 := Lib.hid hp1
  have HP2 := Lib.hid hp2
  have HEQ1 := Lib.hid heq1
  have HEQ2 := Lib.hid heq2
  have HJ1 := Lib.hid hj1
  have HRJ1 := Lib.hid hrj1
  have HP3 := Lib.hid hp3
  have HRP3 := Lib.hid hrp3
  have HP4 := Lib.hid hp4
  have HRP4 := Lib.hid hrp4
  have HZJ := Lib.hid hzj
  have HZ1 := Lib.hid hz1
  have HZ2 := Lib.hid hz2
  have HSA := Lib.hid (fun W hW => sanity_any W hW)
  have HTS := Lib.hid hTs
  have HRA := Lib.hid hRa
  have HRB := Lib.hid hRb
  have HOK4 := Lib.hid hok4
  have HNO4 := Lib.hid hno4
  have HS1 := Lib.hid (fun A B ca cb W h1 h2 => same_caps rr1 cc1 A B M1 ca cb es1 W h1 h2 hel1 (by omega))
  have HS2 := Lib.hid (fun A B ca cb W h1 h2 => same_caps rr2 cc2 A B M2 ca cb es2 W h1 h2 hel2 (by omega))
  have HS3 := Lib.hid (fun A B ca cb W h1 h2 => same_caps rr3 cc3 A B M3 ca cb es3 W h1 h2 hel3 (by omega))
  have HK1 := Lib.hid (((((Kg.none_ none w 0).more (.cells #[.int .u8 (R1 : Int), .int .u8 (C1 : Int), .slice A1 n1 c1] 38 (0, 0))).more (.cells #[.int .u8 (R2 : Int), .int .u8 (C2 : Int), .slice A2 n2 c2] 38 (0, 0))).more (.cells #[.int .i64 q0, .int .i64 q1, .int .i64 q2, .int .i64 q3] 58 (0, 0))).cast (l' := [some (w.heap.size, .cells #[.int .u8 (R1 : Int), .int .u8 (C1 : Int), .slice A1 n1 c1] 38 (0, 0)), some (w.heap.size + 1, .cells #[.int .u8 (R2 : Int), .int .u8 (C2 : Int), .slice A2 n2 c2] 38 (0, 0)), some (w.heap.size + 1 + 1, .cells #[.int .i64 q0, .int .i64 q1, .int .i64 q2, .int .i64 q3] 58 (0, 0))]) (by simp))
  clear hma hmt hwi hjo hp1 hp2 heq1 heq2 hj1 hrj1 hp3 hrp3 hp4 hrp4 hzj hz1 hz2 hTs hRa hRb hok4 hno4 hel1 hel2 hel3 hel4 heb1 heb2 heb3 heb4 hza hzb hzt hzy hzz hz3 hpl hpr hR1 hR2 hmr1 hmr2 hmr3 hl1z hl2z hlTz hl3z hb1 hb2 hr hk1 hrt hk2 hN1 hN2 hN3 hNT hNZ hmm hl1 hl2 hTz ha0 ha1 ha2 ha3 hq0 hq1 hq2 hq3
  go_enter Tryz.func9, Tryz.ntmps9
  go_wp2_with fail
  change Calls _ _ _ (((w.alloc (.cells #[.int .u8 (R1 : Int), .int .u8 (C1 : Int), .slice A1 n1 c1] 38 (0, 0))).alloc (.cells #[.int .u8 (R2 : Int), .int .u8 (C2 : Int), .slice A2 n2 c2] 38 (0, 0))).alloc (.cells #[.int .i64 q0, .int .i64 q1, .int .i64 q2, .int .i64 q3] 58 (0, 0))) _
  generalize ((w.alloc (.cells #[.int .u8 (R1 : Int), .int .u8 (C1 : Int), .slice A1 n1 c1] 38 (0, 0))).alloc (.cells #[.int .u8 (R2 : Int), .int .u8 (C2 : Int), .slice A2 n2 c2] 38 (0, 0))).alloc (.cells #[.int .i64 q0, .int .i64 q1, .int .i64 q2, .int .i64 q3] 58 (0, 0)) = W1 at *
  with_reducible refine (HSA.out _ (HTS.out _ _ HK1.out)).mono ?_
  rintro e V1 ⟨rfl, hb2⟩
  have HK2 := Lib.hid (HK1.out.step hb2)
  clear hb2 HK1
  have x0 := HK2.out.cell 0 0 rfl rfl
  have x1 := HK2.out.cell 0 1 rfl rfl
  have x2 := HK2.out.cell 0 2 rfl rfl
  go_wp2_with fail
  with_reducible refine (HMA.out _ (HRA.out _ _ HK2.out)).mono ?_
  rintro e V2 ⟨g1, rfl, hg, hL, hb⟩
  have HK3 := Lib.hid (show Kg none w (V2.alloc (.cells #[.int .i64 (r : Int), .int .i64 (k1 : Int), .slice (some ⟨g1, 0, none⟩) N1 N1] 28 (0, 0))) [some (w.heap.size, .cells #[.int .u8 (R1 : Int), .int .u8 (C1 : Int), .slice A1 n1 c1] 38 (0, 0)), some (w.heap.size + 1, .cells #[.int .u8 (R2 : Int), .int .u8 (C2 : Int), .slice A2 n2 c2] 38 (0, 0)), some (w.heap.size + 1 + 1, .cells #[.int .i64 q0, .int .i64 q1, .int .i64 q2, .int .i64 q3] 58 (0, 0)), some (g1, lwO (enc (za))), some (V2.heap.size, .cells #[.int .i64 (r : Int), .int .i64 (k1 : Int), .slice (some ⟨g1, 0, none⟩) N1 N1] 28 (0, 0))] from (HK2.out.room.came 3 rfl hb hg (o := lwO (enc (za))) hL).more (.cells #[.int .i64 (r : Int), .int .i64 (k1 : Int), .slice (some ⟨g1, 0, none⟩) N1 N1] 28 (0, 0)))
  clear hg hL hb x0 x1 x2 HK2
  have x0 := HK3.out.cell 1 0 rfl rfl
  have x1 := HK3.out.cell 1 1 rfl rfl
  have x2 := HK3.out.cell 1 2 rfl rfl
  have x3 := HK3.out.cell 4 0 rfl rfl
  have x4 := HK3.out.cell 4 1 rfl rfl
  go_wp2_with fail
  change Calls _ _ _ (V2.alloc (.cells #[.int .i64 (r : Int), .int .i64 (k1 : Int), .slice (some ⟨g1, 0, none⟩) N1 N1] 28 (0, 0))) _
  generalize V2.alloc (.cells #[.int .i64 (r : Int), .int .i64 (k1 : Int), .slice (some ⟨g1, 0, none⟩) N1 N1] 28 (0, 0)) = W3 at *
  generalize V2.heap.size = b2 at *
  with_reducible refine (HWI.out _ (HRB.out _ _ HK3.out)).mono ?_
  rintro e V3 ⟨g2, rfl, hg, hL, hb⟩
  have HK4 := Lib.hid (show Kg none w (V3.alloc (.cells #[.int .i64 (r : Int), .int .i64 (k2 : Int), .slice (some ⟨g2, 0, none⟩) N2 N2] 28 (0, 0))) [some (w.heap.size, .cells #[.int .u8 (R1 : Int), .int .u8 (C1 : Int), .slice A1 n1 c1] 38 (0, 0)), some (w.heap.size + 1, .cells #[.int .u8 (R2 : Int), .int .u8 (C2 : Int), .slice A2 n2 c2] 38 (0, 0)), some (w.heap.size + 1 + 1, .cells #[.int .i64 q0, .int .i64 q1, .int .i64 q2, .int .i64 q3] 58 (0, 0)), some (g1, lwO (enc (za))), some (b2, .cells #[.int .i64 (r : Int), .int .i64 (k1 : Int), .slice (some ⟨g1, 0, none⟩) N1 N1] 28 (0, 0)), some (g2, lwO (enc (zb))), some (V3.heap.size, .cells #[.int .i64 (r : Int), .int .i64 (k2 : Int), .slice (some ⟨g2, 0, none⟩) N2 N2] 28 (0, 0))] from (HK3.out.room.came 5 rfl hb hg (o := lwO (enc (zb))) hL).more (.cells #[.int .i64 (r : Int), .int .i64 (k2 : Int), .slice (some ⟨g2, 0, none⟩) N2 N2] 28 (0, 0)))
  clear hg hL hb x0 x1 x2 x3 x4 HK3
  have x0 := HK4.out.cell 4 0 rfl rfl
  have x1 := HK4.out.cell 4 1 rfl rfl
  have x2 := HK4.out.cell 4 2 rfl rfl
  have x3 := HK4.out.cell 6 0 rfl rfl
  have x4 := HK4.out.cell 6 1 rfl rfl
  have x5 := HK4.out.cell 6 2 rfl rfl
  go_wp2_with fail
  change Calls _ _ _ (V3.alloc (.cells #[.int .i64 (r : Int), .int .i64 (k2 : Int), .slice (some ⟨g2, 0, none⟩) N2 N2] 28 (0, 0))) _
  generalize V3.alloc (.cells #[.int .i64 (r : Int), .int .i64 (k2 : Int), .slice (some ⟨g2, 0, none⟩) N2 N2] 28 (0, 0)) = W4 at *
  generalize V3.heap.size = b3 at *
  have hxa : Lw W4 g1 (enc za) := HK4.out.at_ 3 rfl
  have hxb : Lw W4 g2 (enc zb) := HK4.out.at_ 5 rfl
  with_reducible refine (HJO.out g1 g2 _ hxa hxb).mono ?_
  rintro e V4 ⟨g3, rfl, hg, hL, hb⟩
  have HK5 := Lib.hid (show Kg none w (V4.alloc (.cells #[.int .i64 (r : Int), .int .i64 (m : Int), .slice (some ⟨g3, 0, none⟩) N3 N3] 28 (0, 0))) [some (w.heap.size, .cells #[.int .u8 (R1 : Int), .int .u8 (C1 : Int), .slice A1 n1 c1] 38 (0, 0)), some (w.heap.size + 1, .cells #[.int .u8 (R2 : Int), .int .u8 (C2 : Int), .slice A2 n2 c2] 38 (0, 0)), some (w.heap.size + 1 + 1, .cells #[.int .i64 q0, .int .i64 q1, .int .i64 q2, .int .i64 q3] 58 (0, 0)), some (g1, lwO (enc (za))), some (b2, .cells #[.int .i64 (r : Int), .int .i64 (k1 : Int), .slice (some ⟨g1, 0, none⟩) N1 N1] 28 (0, 0)), some (g2, lwO (enc (zb))), some (b3, .cells #[.int .i64 (r : Int), .int .i64 (k2 : Int), .slice (some ⟨g2, 0, none⟩) N2 N2] 28 (0, 0)), some (g3, lwO (enc (z3))), some (V4.heap.size, .cells #[.int .i64 (r : Int), .int .i64 (m : Int), .slice (some ⟨g3, 0, none⟩) N3 N3] 28 (0, 0))] from (HK4.out.room.came 7 rfl hb hg (o := lwO (enc (z3))) hL).more (.cells #[.int .i64 (r : Int), .int .i64 (m : Int), .slice (some ⟨g3, 0, none⟩) N3 N3] 28 (0, 0)))
  clear hg hL hb x0 x1 x2 x3 x4 x5 hxa hxb HK4
  have x0 := HK5.out.cell 4 0 rfl rfl
  have x1 := HK5.out.cell 4 1 rfl rfl
  have x2 := HK5.out.cell 8 0 rfl rfl
  have x3 := HK5.out.cell 8 1 rfl rfl
  have x4 := HK5.out.cell 8 2 rfl rfl
  go_wp2_with fail
  change Calls _ _ _ (V4.alloc (.cells #[.int .i64 (r : Int), .int .i64 (m : Int), .slice (some ⟨g3, 0, none⟩) N3 N3] 28 (0, 0))) _
  generalize V4.alloc (.cells #[.int .i64 (r : Int), .int .i64 (m : Int), .slice (some ⟨g3, 0, none⟩) N3 N3] 28 (0, 0)) = W5 at *
  generalize V4.heap.size = b4 at *
  have hxa : Lw W5 g3 (enc z3) := HK5.out.at_ 7 rfl
  with_reducible refine (HP1.out g3 _ hxa).mono ?_
  rintro e V5 ⟨g4, rfl, hg, hL, hb⟩
  have HK6 := Lib.hid (show Kg none w (V5.alloc (.cells #[.int .i64 (r : Int), .int .i64 (k1 : Int), .slice (some ⟨g4, 0, none⟩) N1 N1] 28 (0, 0))) [some (w.heap.size, .cells #[.int .u8 (R1 : Int), .int .u8 (C1 : Int), .slice A1 n1 c1] 38 (0, 0)), some (w.heap.size + 1, .cells #[.int .u8 (R2 : Int), .int .u8 (C2 : Int), .slice A2 n2 c2] 38 (0, 0)), some (w.heap.size + 1 + 1, .cells #[.int .i64 q0, .int .i64 q1, .int .i64 q2, .int .i64 q3] 58 (0, 0)), some (g1, lwO (enc (za))), some (b2, .cells #[.int .i64 (r : Int), .int .i64 (k1 : Int), .slice (some ⟨g1, 0, none⟩) N1 N1] 28 (0, 0)), some (g2, lwO (enc (zb))), some (b3, .cells #[.int .i64 (r : Int), .int .i64 (k2 : Int), .slice (some ⟨g2, 0, none⟩) N2 N2] 28 (0, 0)), some (g3, lwO (enc (z3))), some (b4, .cells #[.int .i64 (r : Int), .int .i64 (m : Int), .slice (some ⟨g3, 0, none⟩) N3 N3] 28 (0, 0)), some (g4, lwO (enc (za))), some (V5.heap.size, .cells #[.int .i64 (r : Int), .int .i64 (k1 : Int), .slice (some ⟨g4, 0, none⟩) N1 N1] 28 (0, 0))] from (HK5.out.room.came 9 rfl hb hg (o := lwO (enc (za))) hL).more (.cells #[.int .i64 (r : Int), .int .i64 (k1 : Int), .slice (some ⟨g4, 0, none⟩) N1 N1] 28 (0, 0)))
  clear hg hL hb x0 x1 x2 x3 x4 hxa HK5
  have x0 := HK6.out.cell 4 0 rfl rfl
  have x1 := HK6.out.cell 4 1 rfl rfl
  have x2 := HK6.out.cell 6 1 rfl rfl
  have x3 := HK6.out.cell 8 0 rfl rfl
  have x4 := HK6.out.cell 8 1 rfl rfl
  have x5 := HK6.out.cell 8 2 rfl rfl
  go_wp2_with fail
  change Calls _ _ _ (V5.alloc (.cells #[.int .i64 (r : Int), .int .i64 (k1 : Int), .slice (some ⟨g4, 0, none⟩) N1 N1] 28 (0, 0))) _
  generalize V5.alloc (.cells #[.int .i64 (r : Int), .int .i64 (k1 : Int), .slice (some ⟨g4, 0, none⟩) N1 N1] 28 (0, 0)) = W6 at *
  generalize V5.heap.size = b5 at *
  have hxa : Lw W6 g3 (enc z3) := HK6.out.at_ 7 rfl
  with_reducible refine (HP2.out g3 _ hxa).mono ?_
  rintro e V6 ⟨g5, rfl, hg, hL, hb⟩
  have HK7 := Lib.hid (show Kg none w (V6.alloc (.cells #[.int .i64 (r : Int), .int .i64 (k2 : Int), .slice (some ⟨g5, 0, none⟩) N2 N2] 28 (0, 0))) [some (w.heap.size, .cells #[.int .u8 (R1 : Int), .int .u8 (C1 : Int), .slice A1 n1 c1] 38 (0, 0)), some (w.heap.size + 1, .cells #[.int .u8 (R2 : Int), .int .u8 (C2 : Int), .slice A2 n2 c2] 38 (0, 0)), some (w.heap.size + 1 + 1, .cells #[.int .i64 q0, .int .i64 q1, .int .i64 q2, .int .i64 q3] 58 (0, 0)), some (g1, lwO (enc (za))), some (b2, .cells #[.int .i64 (r : Int), .int .i64 (k1 : Int), .slice (some ⟨g1, 0, none⟩) N1 N1] 28 (0, 0)), some (g2, lwO (enc (zb))), some (b3, .cells #[.int .i64 (r : Int), .int .i64 (k2 : Int), .slice (some ⟨g2, 0, none⟩) N2 N2] 28 (0, 0)), some (g3, lwO (enc (z3))), some (b4, .cells #[.int .i64 (r : Int), .int .i64 (m : Int), .slice (some ⟨g3, 0, none⟩) N3 N3] 28 (0, 0)), some (g4, lwO (enc (za))), some (b5, .cells #[.int .i64 (r : Int), .int .i64 (k1 : Int), .slice (some ⟨g4, 0, none⟩) N1 N1] 28 (0, 0)), some (g5, lwO (enc (zb))), some (V6.heap.size, .cells #[.int .i64 (r : Int), .int .i64 (k2 : Int), .slice (some ⟨g5, 0, none⟩) N2 N2] 28 (0, 0))] from (HK6.out.room.came 11 rfl hb hg (o := lwO (enc (zb))) hL).more (.cells #[.int .i64 (r : Int), .int .i64 (k2 : Int), .slice (some ⟨g5, 0, none⟩) N2 N2] 28 (0, 0)))
  clear hg hL hb x0 x1 x2 x3 x4 x5 hxa HK6
  have x0 := HK7.out.cell 4 0 rfl rfl
  have x1 := HK7.out.cell 4 1 rfl rfl
  have x2 := HK7.out.cell 4 2 rfl rfl
  have x3 := HK7.out.cell 10 0 rfl rfl
  have x4 := HK7.out.cell 10 1 rfl rfl
  have x5 := HK7.out.cell 10 2 rfl rfl
  go_wp2_with fail
  change Calls _ _ _ (V6.alloc (.cells #[.int .i64 (r : Int), .int .i64 (k2 : Int), .slice (some ⟨g5, 0, none⟩) N2 N2] 28 (0, 0))) _
  generalize V6.alloc (.cells #[.int .i64 (r : Int), .int .i64 (k2 : Int), .slice (some ⟨g5, 0, none⟩) N2 N2] 28 (0, 0)) = W7 at *
  generalize V6.heap.size = b6 at *
  have hxa : Lw W7 g4 (enc za) := HK7.out.at_ 9 rfl
  have hxb : Lw W7 g1 (enc za) := HK7.out.at_ 3 rfl
  with_reducible refine (HEQ1.out g4 g1 _ hxa hxb).mono ?_
  rintro e V7 ⟨rfl, hb⟩
  have HK8 := Lib.hid (HK7.out.step hb)
  clear hb hxa hxb x0 x1 x2 x3 x4 x5 HK7
  have x0 := HK8.out.cell 6 0 rfl rfl
  have x1 := HK8.out.cell 6 1 rfl rfl
  have x2 := HK8.out.cell 6 2 rfl rfl
  have x3 := HK8.out.cell 12 0 rfl rfl
  have x4 := HK8.out.cell 12 1 rfl rfl
  have x5 := HK8.out.cell 12 2 rfl rfl
  go_wp2_with fail
  have hxa : Lw V7 g5 (enc zb) := HK8.out.at_ 11 rfl
  have hxb : Lw V7 g2 (enc zb) := HK8.out.at_ 5 rfl
  with_reducible refine (HEQ2.out g5 g2 _ hxa hxb).mono ?_
  rintro e V8 ⟨rfl, hb⟩
  have HK9 := Lib.hid (show Kg none w V8 [some (w.heap.size, .cells #[.int .u8 (R1 : Int), .int .u8 (C1 : Int), .slice A1 n1 c1] 38 (0, 0)), some (w.heap.size + 1, .cells #[.int .u8 (R2 : Int), .int .u8 (C2 : Int), .slice A2 n2 c2] 38 (0, 0)), some (w.heap.size + 1 + 1, .cells #[.int .i64 q0, .int .i64 q1, .int .i64 q2, .int .i64 q3] 58 (0, 0)), some (g1, lwO (enc (za))), some (b2, .cells #[.int .i64 (r : Int), .int .i64 (k1 : Int), .slice (some ⟨g1, 0, none⟩) N1 N1] 28 (0, 0)), some (g2, lwO (enc (zb))), some (b3, .cells #[.int .i64 (r : Int), .int .i64 (k2 : Int), .slice (some ⟨g2, 0, none⟩) N2 N2] 28 (0, 0)), some (g3, lwO (enc (z3))), some (b4, .cells #[.int .i64 (r : Int), .int .i64 (m : Int), .slice (some ⟨g3, 0, none⟩) N3 N3] 28 (0, 0))] from (HK8.out.step hb).take 9)
  clear hb hxa hxb x0 x1 x2 x3 x4 x5 HK8
  go_wp2_with fail
  refine wp_region_acts (X := Nat × Nat × Option Addr × Nat) (fun x => [(0, 90, .agg #[.int .i64 (r : Int), .int .i64 (k1 : Int), .slice (some ⟨g1, 0, none⟩) N1 N1]), (1, 91, .agg #[.int .u8 (R2 : Int), .int .u8 (C2 : Int), .slice A2 n2 c2]), (2, 92, .agg #[.int .i64 (rt : Int), .int .i64 (k2 : Int), .slice (some ⟨x.1, 0, none⟩) NT NT]), (3, 93, .tuple #[.agg #[.int .i64 rr1, .int .i64 cc1, .slice x.2.2.1 M1 x.2.2.2], .bool ok1]), (4, 89, .tuple #[.agg #[.int .i64 rr1, .int .i64 cc1, .slice x.2.2.1 M1 x.2.2.2], .bool ok1]), (5, 94, .agg #[.int .i64 rr1, .int .i64 cc1, .slice x.2.2.1 M1 x.2.2.2]), (6, 95, .bool ok1), (7, 16, .pointer (some ⟨x.2.1, 0, none⟩)), (9, 17, .bool ok1)])
    (fun x L W => Kg none w W [some (w.heap.size, .cells #[.int .u8 (R1 : Int), .int .u8 (C1 : Int), .slice A1 n1 c1] 38 (0, 0)), some (w.heap.size + 1, .cells #[.int .u8 (R2 : Int), .int .u8 (C2 : Int), .slice A2 n2 c2] 38 (0, 0)), some (w.heap.size + 1 + 1, .cells #[.int .i64 q0, .int .i64 q1, .int .i64 q2, .int .i64 q3] 58 (0, 0)), some (g1, lwO (enc (za))), some (b2, .cells #[.int .i64 (r : Int), .int .i64 (k1 : Int), .slice (some ⟨g1, 0, none⟩) N1 N1] 28 (0, 0)), some (g2, lwO (enc (zb))), some (b3, .cells #[.int .i64 (r : Int), .int .i64 (k2 : Int), .slice (some ⟨g2, 0, none⟩) N2 N2] 28 (0, 0)), some (g3, lwO (enc (z3))), some (b4, .cells #[.int .i64 (r : Int), .int .i64 (m : Int), .slice (some ⟨g3, 0, none⟩) N3 N3] 28 (0, 0)), entO (L 2) x.1 (lwO (enc zt)), entM (L 7) (L 8) x.2.1 (.cells #[.int .i64 rr1, .int .i64 cc1, .slice x.2.2.1 M1 x.2.2.2] 28 (0, 0))] ∧ RdL W [] ∧ (L 3 = true → RdW W x.2.2.1 es1) ∧ (L 5 = true → L 4 = true)) (by kernel_rfl) (by kernel_rfl) (0, 0, none, 0) ?st (by kernel_rfl) ?_ ?_
  case st => exact ⟨by simpa [entO_no, entM_no] using HK9.out.drew.room.room, RdL.nil _, fun h3 => by simp at h3, fun h3 => by simp at h3⟩
  · simp only [selA, selT_cons, selT_nil, List.set_cons_zero, List.set_cons_succ, List.getD_cons_zero, List.getD_cons_succ]
    repeat' (first | exact ActSteps.nil | refine ActSteps.cons ?_ ?_)
    all_goals
      intro L x wx hJ hl hd hs K hK
      (try simp [Region.binds] at hd)
      have p0 := hJ.1.cell 4 0 rfl rfl
      have p1 := hJ.1.cell 4 1 rfl rfl
      have p2 := hJ.1.cell 4 2 rfl rfl
      have p3 := hJ.1.cell 1 0 rfl rfl
      have p4 := hJ.1.cell 1 1 rfl rfl
      have p5 := hJ.1.cell 1 2 rfl rfl
      try simp only [hd, hl, selV_true, selV_false]
    · go_simp
      refine hK.out x _ _ ?_ ?_
      · simp [hl, hd, selV_true, selV_false]
      · exact ⟨by simpa [hl] using hJ.1, hJ.2.1, by simpa [hl] using hJ.2.2.1, by simpa [hl, hd] using hJ.2.2.2⟩
    · go_simp
      refine hK.out x _ _ ?_ ?_
      · simp [hl, hd, selV_true, selV_false]
      · exact ⟨by simpa [hl] using hJ.1, hJ.2.1, by simpa [hl] using hJ.2.2.1, by simpa [hl, hd] using hJ.2.2.2⟩
    · have hn3 := hs 3 _ rfl (by simp [Region.binds])
      have hB := hJ.1
      simp only [hl, entO_no] at hB
      go_simp
      with_reducible refine (HMT.out _ (HRB.out _ _ hB)).mono ?_
      rintro e v ⟨h, rfl, hh, hLh, hb⟩
      refine hK.out (h, x.2) _ _ ?_ ?_
      · simp [hl, hd, hn3, selV_true, selV_false]
      · exact ⟨(hB.came 9 rfl hb hh (o := lwO (enc zt)) hLh).cast (by simp [entO_yes]), hJ.2.1.below hb, fun h3 => absurd h3 (by simp [hn3]), by simpa using hJ.2.2.2⟩
    · have hn4 := hs 4 _ rfl (by simp [Region.binds])
      have hn8 := hs 8 _ rfl (by simp [Region.binds])
      have hn5 := lt_of_false hJ.2.2.2 hn4
      have hB := hJ.1
      simp only [hd, entO_yes] at hB
      have hxa : Lw wx g1 (enc za) := hB.at_ 3 rfl
      have hxt : Lw wx x.1 (enc zt) := hB.at_ 9 rfl
      clear hB
      go_simp
      with_reducible refine (HJ1.out g1 x.1 _ hxa hxt).mono ?_
      rintro e v ⟨A, cap, rfl, hrd, hb⟩
      refine hK.out (x.1, x.2.1, A, cap) _ _ ?_ ?_
      · simp [hl, hd, hn4, hn5, hn8, selV_true, selV_false]
      · exact ⟨by simpa [hn8, entM_false] using hJ.1.step hb, hJ.2.1.below hb, fun _ => hrd, by simp [hn5]⟩
    · go_simp
      refine hK.out x _ _ ?_ ?_
      · simp [hl, hd, selV_true, selV_false]
      · exact ⟨by simpa [hl] using hJ.1, hJ.2.1, by simpa [hl] using hJ.2.2.1, by simpa [hl, hd] using hJ.2.2.2⟩
    · go_simp
      refine hK.out x _ _ ?_ ?_
      · simp [hl, hd, selV_true, selV_false]
      · exact ⟨by simpa [hl] using hJ.1, hJ.2.1, by simpa [hl] using hJ.2.2.1, by simpa [hl, hd] using hJ.2.2.2⟩
    · go_simp
      refine hK.out x _ _ ?_ ?_
      · simp [hl, hd, selV_true, selV_false]
      · exact ⟨by simpa [hl] using hJ.1, hJ.2.1, by simpa [hl] using hJ.2.2.1, by simpa [hl, hd] using hJ.2.2.2⟩
    · have hn8 := hs 8 _ rfl (by simp [Region.binds])
      go_simp
      refine hK.out (x.1, wx.heap.size, x.2.2) _ _ ?_ ?_
      · simp [hl, hd, hn8, selV_true, selV_false]
      · refine ⟨Kg.cast (hJ.1.new 10 (mrow 0 0 none 0 0) (by simp [hl, entM_no])) ?_, hJ.2.1.alloc _, fun h3 => RdW.below (hJ.2.2.1 (by simpa using h3)) ((Below.refl _ _).alloc (Nat.le_refl _) _), by simpa using hJ.2.2.2⟩
        simp [hn8, entM_new]
    · have hJ2 := hJ.1
      simp only [hl, hd, entM_new] at hJ2
      have f0 := hJ2.frozen 10 0 rfl
      have f1 := hJ2.frozen 10 1 rfl
      have f2 := hJ2.frozen 10 2 rfl
      have g0 := hJ2.cell 10 0 rfl rfl
      have g1' := hJ2.cell 10 1 rfl rfl
      have g2' := hJ2.cell 10 2 rfl rfl
      go_simp
      have hKp := ((hJ2.put 10 0 rfl (.int .i64 rr1)).put 10 1 rfl (.int .i64 cc1)).put 10 2 rfl (.slice x.2.2.1 M1 x.2.2.2)
      have hm0 := hJ2.at_ 10 rfl
      have hm1 := (hJ2.put 10 0 rfl (.int .i64 rr1)).at_ 10 rfl
      have hm2 := ((hJ2.put 10 0 rfl (.int .i64 rr1)).put 10 1 rfl (.int .i64 cc1)).at_ 10 rfl
      refine hK.out x _ _ ?_ ?_
      · simp [hl, hd, selV_true, selV_false]
      · refine ⟨Kg.cast hKp (by simp [hd, entM_full]), ?_, ?_, by simpa [hd] using hJ.2.2.2⟩
        · exact ((hJ.2.1.matput hm0 0 _).matput hm1 1 _).matput hm2 2 _
        · exact fun h3 => (((hJ.2.2.1 (by simpa using h3)).matput hm0 0 _).matput hm1 1 _).matput hm2 2 _
    · go_simp
      refine hK.out x _ _ ?_ ?_
      · simp [hl, hd, selV_true, selV_false]
      · exact ⟨by simpa [hl] using hJ.1, hJ.2.1, by simpa [hl] using hJ.2.2.1, by simpa [hl, hd] using hJ.2.2.2⟩
  · rintro ⟨y1, b9, Aa, ca⟩ V9 hKx
    simp only [selA, selT_cons, selT_nil, List.set_cons_zero, List.set_cons_succ, List.getD_cons_zero, List.getD_cons_succ, selV_true]
    simp only [entM_full, entO_yes] at hKx
    obtain ⟨hKx, hRl, hRa, _⟩ := hKx
    have HK10 := Lib.hid (show Kg none w V9 [some (w.heap.size, .cells #[.int .u8 (R1 : Int), .int .u8 (C1 : Int), .slice A1 n1 c1] 38 (0, 0)), some (w.heap.size + 1, .cells #[.int .u8 (R2 : Int), .int .u8 (C2 : Int), .slice A2 n2 c2] 38 (0, 0)), some (w.heap.size + 1 + 1, .cells #[.int .i64 q0, .int .i64 q1, .int .i64 q2, .int .i64 q3] 58 (0, 0)), some (g1, lwO (enc (za))), some (b2, .cells #[.int .i64 (r : Int), .int .i64 (k1 : Int), .slice (some ⟨g1, 0, none⟩) N1 N1] 28 (0, 0)), some (g2, lwO (enc (zb))), some (b3, .cells #[.int .i64 (r : Int), .int .i64 (k2 : Int), .slice (some ⟨g2, 0, none⟩) N2 N2] 28 (0, 0)), some (g3, lwO (enc (z3))), some (b4, .cells #[.int .i64 (r : Int), .int .i64 (m : Int), .slice (some ⟨g3, 0, none⟩) N3 N3] 28 (0, 0)), some (b9, .cells #[.int .i64 rr1, .int .i64 cc1, .slice Aa M1 ca] 28 (0, 0))] from hKx.sel [0, 1, 2, 3, 4, 5, 6, 7, 8, 10] (by decide))
    have HRL1 := Lib.hid (hRl.more (hRa trivial))
    clear hKx hRl hRa HK9
    go_wp2_with fail
    refine wp_region_acts (X := Nat × Nat × Option Addr × Nat) (fun x => [(0, 97, .agg #[.int .i64 (r : Int), .int .i64 (k1 : Int), .slice (some ⟨g1, 0, none⟩) N1 N1]), (1, 98, .agg #[.int .u8 (R2 : Int), .int .u8 (C2 : Int), .slice A2 n2 c2]), (2, 99, .agg #[.int .i64 (rt : Int), .int .i64 (k2 : Int), .slice (some ⟨x.1, 0, none⟩) NT NT]), (3, 100, .tuple #[.agg #[.int .i64 rr1, .int .i64 cc1, .slice x.2.2.1 M1 x.2.2.2], .bool ok1]), (4, 96, .tuple #[.agg #[.int .i64 rr1, .int .i64 cc1, .slice x.2.2.1 M1 x.2.2.2], .bool ok1]), (5, 101, .agg #[.int .i64 rr1, .int .i64 cc1, .slice x.2.2.1 M1 x.2.2.2]), (6, 102, .bool ok1), (7, 18, .pointer (some ⟨x.2.1, 0, none⟩)), (9, 19, .bool ok1)])
      (fun x L W => Kg none w W [some (w.heap.size, .cells #[.int .u8 (R1 : Int), .int .u8 (C1 : Int), .slice A1 n1 c1] 38 (0, 0)), some (w.heap.size + 1, .cells #[.int .u8 (R2 : Int), .int .u8 (C2 : Int), .slice A2 n2 c2] 38 (0, 0)), some (w.heap.size + 1 + 1, .cells #[.int .i64 q0, .int .i64 q1, .int .i64 q2, .int .i64 q3] 58 (0, 0)), some (g1, lwO (enc (za))), some (b2, .cells #[.int .i64 (r : Int), .int .i64 (k1 : Int), .slice (some ⟨g1, 0, none⟩) N1 N1] 28 (0, 0)), some (g2, lwO (enc (zb))), some (b3, .cells #[.int .i64 (r : Int), .int .i64 (k2 : Int), .slice (some ⟨g2, 0, none⟩) N2 N2] 28 (0, 0)), some (g3, lwO (enc (z3))), some (b4, .cells #[.int .i64 (r : Int), .int .i64 (m : Int), .slice (some ⟨g3, 0, none⟩) N3 N3] 28 (0, 0)), some (b9, .cells #[.int .i64 rr1, .int .i64 cc1, .slice Aa M1 ca] 28 (0, 0)), entO (L 2) x.1 (lwO (enc zt)), entM (L 7) (L 8) x.2.1 (.cells #[.int .i64 rr1, .int .i64 cc1, .slice x.2.2.1 M1 x.2.2.2] 28 (0, 0))] ∧ RdL W [(Aa, es1)] ∧ (L 3 = true → RdW W x.2.2.1 es1) ∧ (L 5 = true → L 4 = true)) (by kernel_rfl) (by kernel_rfl) (0, 0, none, 0) ?st (by kernel_rfl) ?_ ?_
    case st => exact ⟨by simpa [entO_no, entM_no] using HK10.out.drew.room.room, HRL1.out, fun h3 => by simp at h3, fun h3 => by simp at h3⟩
    · simp only [selA, selT_cons, selT_nil, List.set_cons_zero, List.set_cons_succ, List.getD_cons_zero, List.getD_cons_succ]
      repeat' (first | exact ActSteps.nil | refine ActSteps.cons ?_ ?_)
      all_goals
        intro L x wx hJ hl hd hs K hK
        (try simp [Region.binds] at hd)
        have p0 := hJ.1.cell 4 0 rfl rfl
        have p1 := hJ.1.cell 4 1 rfl rfl
        have p2 := hJ.1.cell 4 2 rfl rfl
        have p3 := hJ.1.cell 1 0 rfl rfl
        have p4 := hJ.1.cell 1 1 rfl rfl
        have p5 := hJ.1.cell 1 2 rfl rfl
        try simp only [hd, hl, selV_true, selV_false]
      · go_simp
        refine hK.out x _ _ ?_ ?_
        · simp [hl, hd, selV_true, selV_false]
        · exact ⟨by simpa [hl] using hJ.1, hJ.2.1, by simpa [hl] using hJ.2.2.1, by simpa [hl, hd] using hJ.2.2.2⟩
      · go_simp
        refine hK.out x _ _ ?_ ?_
        · simp [hl, hd, selV_true, selV_false]
        · exact ⟨by simpa [hl] using hJ.1, hJ.2.1, by simpa [hl] using hJ.2.2.1, by simpa [hl, hd] using hJ.2.2.2⟩
      · have hn3 := hs 3 _ rfl (by simp [Region.binds])
        have hB := hJ.1
        simp only [hl, entO_no] at hB
        go_simp
        with_reducible refine (HMT.out _ (HRB.out _ _ hB)).mono ?_
        rintro e v ⟨h, rfl, hh, hLh, hb⟩
        refine hK.out (h, x.2) _ _ ?_ ?_
        · simp [hl, hd, hn3, selV_true, selV_false]
        · exact ⟨(hB.came 10 rfl hb hh (o := lwO (enc zt)) hLh).cast (by simp [entO_yes]), hJ.2.1.below hb, fun h3 => absurd h3 (by simp [hn3]), by simpa using hJ.2.2.2⟩
      · have hn4 := hs 4 _ rfl (by simp [Region.binds])
        have hn8 := hs 8 _ rfl (by simp [Region.binds])
        have hn5 := lt_of_false hJ.2.2.2 hn4
        have hB := hJ.1
        simp only [hd, entO_yes] at hB
        have hxa : Lw wx g1 (enc za) := hB.at_ 3 rfl
        have hxt : Lw wx x.1 (enc zt) := hB.at_ 10 rfl
        clear hB
        go_simp
        with_reducible refine (HRJ1.out g1 x.1 _ hxa hxt).mono ?_
        rintro e v ⟨A, cap, rfl, hrd, hb⟩
        refine hK.out (x.1, x.2.1, A, cap) _ _ ?_ ?_
        · simp [hl, hd, hn4, hn5, hn8, selV_true, selV_false]
        · exact ⟨by simpa [hn8, entM_false] using hJ.1.step hb, hJ.2.1.below hb, fun _ => hrd, by simp [hn5]⟩
      · go_simp
        refine hK.out x _ _ ?_ ?_
        · simp [hl, hd, selV_true, selV_false]
        · exact ⟨by simpa [hl] using hJ.1, hJ.2.1, by simpa [hl] using hJ.2.2.1, by simpa [hl, hd] using hJ.2.2.2⟩
      · go_simp
        refine hK.out x _ _ ?_ ?_
        · simp [hl, hd, selV_true, selV_false]
        · exact ⟨by simpa [hl] using hJ.1, hJ.2.1, by simpa [hl] using hJ.2.2.1, by simpa [hl, hd] using hJ.2.2.2⟩
      · go_simp
        refine hK.out x _ _ ?_ ?_
        · simp [hl, hd, selV_true, selV_false]
        · exact ⟨by simpa [hl] using hJ.1, hJ.2.1, by simpa [hl] using hJ.2.2.1, by simpa [hl, hd] using hJ.2.2.2⟩
      · have hn8 := hs 8 _ rfl (by simp [Region.binds])
        go_simp
        refine hK.out (x.1, wx.heap.size, x.2.2) _ _ ?_ ?_
        · simp [hl, hd, hn8, selV_true, selV_false]
        · refine ⟨Kg.cast (hJ.1.new 11 (mrow 0 0 none 0 0) (by simp [hl, entM_no])) ?_, hJ.2.1.alloc _, fun h3 => RdW.below (hJ.2.2.1 (by simpa using h3)) ((Below.refl _ _).alloc (Nat.le_refl _) _), by simpa using hJ.2.2.2⟩
          simp [hn8, entM_new]
      · have hJ2 := hJ.1
        simp only [hl, hd, entM_new] at hJ2
        have f0 := hJ2.frozen 11 0 rfl
        have f1 := hJ2.frozen 11 1 rfl
        have f2 := hJ2.frozen 11 2 rfl
        have g0 := hJ2.cell 11 0 rfl rfl
        have g1' := hJ2.cell 11 1 rfl rfl
        have g2' := hJ2.cell 11 2 rfl rfl
        go_simp
        have hKp := ((hJ2.put 11 0 rfl (.int .i64 rr1)).put 11 1 rfl (.int .i64 cc1)).put 11 2 rfl (.slice x.2.2.1 M1 x.2.2.2)
        have hm0 := hJ2.at_ 11 rfl
        have hm1 := (hJ2.put 11 0 rfl (.int .i64 rr1)).at_ 11 rfl
        have hm2 := ((hJ2.put 11 0 rfl (.int .i64 rr1)).put 11 1 rfl (.int .i64 cc1)).at_ 11 rfl
        refine hK.out x _ _ ?_ ?_
        · simp [hl, hd, selV_true, selV_false]
        · refine ⟨Kg.cast hKp (by simp [hd, entM_full]), ?_, ?_, by simpa [hd] using hJ.2.2.2⟩
          · exact ((hJ.2.1.matput hm0 0 _).matput hm1 1 _).matput hm2 2 _
          · exact fun h3 => (((hJ.2.2.1 (by simpa using h3)).matput hm0 0 _).matput hm1 1 _).matput hm2 2 _
      · go_simp
        refine hK.out x _ _ ?_ ?_
        · simp [hl, hd, selV_true, selV_false]
        · exact ⟨by simpa [hl] using hJ.1, hJ.2.1, by simpa [hl] using hJ.2.2.1, by simpa [hl, hd] using hJ.2.2.2⟩
    · rintro ⟨y2, b10, Ab, cb⟩ V10 hKx
      simp only [selA, selT_cons, selT_nil, List.set_cons_zero, List.set_cons_succ, List.getD_cons_zero, List.getD_cons_succ, selV_true]
      simp only [entM_full, entO_yes] at hKx
      obtain ⟨hKx, hRl, hRa, _⟩ := hKx
      have HK11 := Lib.hid (show Kg none w V10 [some (w.heap.size, .cells #[.int .u8 (R1 : Int), .int .u8 (C1 : Int), .slice A1 n1 c1] 38 (0, 0)), some (w.heap.size + 1, .cells #[.int .u8 (R2 : Int), .int .u8 (C2 : Int), .slice A2 n2 c2] 38 (0, 0)), some (w.heap.size + 1 + 1, .cells #[.int .i64 q0, .int .i64 q1, .int .i64 q2, .int .i64 q3] 58 (0, 0)), some (g1, lwO (enc (za))), some (b2, .cells #[.int .i64 (r : Int), .int .i64 (k1 : Int), .slice (some ⟨g1, 0, none⟩) N1 N1] 28 (0, 0)), some (g2, lwO (enc (zb))), some (b3, .cells #[.int .i64 (r : Int), .int .i64 (k2 : Int), .slice (some ⟨g2, 0, none⟩) N2 N2] 28 (0, 0)), some (g3, lwO (enc (z3))), some (b4, .cells #[.int .i64 (r : Int), .int .i64 (m : Int), .slice (some ⟨g3, 0, none⟩) N3 N3] 28 (0, 0)), some (b9, .cells #[.int .i64 rr1, .int .i64 cc1, .slice Aa M1 ca] 28 (0, 0)), some (b10, .cells #[.int .i64 rr1, .int .i64 cc1, .slice Ab M1 cb] 28 (0, 0))] from hKx.sel [0, 1, 2, 3, 4, 5, 6, 7, 8, 9, 11] (by decide))
      have HRL2 := Lib.hid (hRl.more (hRa trivial))
      clear hKx hRl hRa HK10 HRL1
      have x0 := HK11.out.cell 8 0 rfl rfl
      have x1 := HK11.out.cell 8 1 rfl rfl
      have x2 := HK11.out.cell 8 2 rfl rfl
      have x3 := HK11.out.cell 2 0 rfl rfl
      have x4 := HK11.out.cell 2 1 rfl rfl
      have x5 := HK11.out.cell 2 2 rfl rfl
      have x6 := HK11.out.cell 2 3 rfl rfl
      go_wp2_with fail
      have hxa : Lw V10 g3 (enc z3) := HK11.out.at_ 7 rfl
      with_reducible refine (HP3.out g3 _ hxa).mono ?_
      rintro e V11 ⟨Ac, cc_, rfl, hrd, hb⟩
      have HK12 := Lib.hid (show Kg none w (V11.alloc (.cells #[.int .i64 rr2, .int .i64 cc2, .slice Ac M2 cc_] 28 (0, 0))) [some (w.heap.size, .cells #[.int .u8 (R1 : Int), .int .u8 (C1 : Int), .slice A1 n1 c1] 38 (0, 0)), some (w.heap.size + 1, .cells #[.int .u8 (R2 : Int), .int .u8 (C2 : Int), .slice A2 n2 c2] 38 (0, 0)), some (w.heap.size + 1 + 1, .cells #[.int .i64 q0, .int .i64 q1, .int .i64 q2, .int .i64 q3] 58 (0, 0)), some (g1, lwO (enc (za))), some (b2, .cells #[.int .i64 (r : Int), .int .i64 (k1 : Int), .slice (some ⟨g1, 0, none⟩) N1 N1] 28 (0, 0)), some (g2, lwO (enc (zb))), some (b3, .cells #[.int .i64 (r : Int), .int .i64 (k2 : Int), .slice (some ⟨g2, 0, none⟩) N2 N2] 28 (0, 0)), some (g3, lwO (enc (z3))), some (b4, .cells #[.int .i64 (r : Int), .int .i64 (m : Int), .slice (some ⟨g3, 0, none⟩) N3 N3] 28 (0, 0)), some (b9, .cells #[.int .i64 rr1, .int .i64 cc1, .slice Aa M1 ca] 28 (0, 0)), some (b10, .cells #[.int .i64 rr1, .int .i64 cc1, .slice Ab M1 cb] 28 (0, 0)), some (V11.heap.size, .cells #[.int .i64 rr2, .int .i64 cc2, .slice Ac M2 cc_] 28 (0, 0))] from (HK11.out.step hb).more (.cells #[.int .i64 rr2, .int .i64 cc2, .slice Ac M2 cc_] 28 (0, 0)))
      have HRL3 := Lib.hid (show RdL (V11.alloc (.cells #[.int .i64 rr2, .int .i64 cc2, .slice Ac M2 cc_] 28 (0, 0))) [(Aa, es1), (Ab, es1), (Ac, es2)] from ((HRL2.out.below hb).more hrd).alloc (.cells #[.int .i64 rr2, .int .i64 cc2, .slice Ac M2 cc_] 28 (0, 0)))
      clear hrd hb hxa x0 x1 x2 x3 x4 x5 x6 HK11 HRL2
      have x0 := HK12.out.cell 8 0 rfl rfl
      have x1 := HK12.out.cell 8 1 rfl rfl
      have x2 := HK12.out.cell 8 2 rfl rfl
      have x3 := HK12.out.cell 2 0 rfl rfl
      have x4 := HK12.out.cell 2 1 rfl rfl
      have x5 := HK12.out.cell 2 2 rfl rfl
      have x6 := HK12.out.cell 2 3 rfl rfl
      go_wp2_with fail
      change Calls _ _ _ (V11.alloc (.cells #[.int .i64 rr2, .int .i64 cc2, .slice Ac M2 cc_] 28 (0, 0))) _
      generalize V11.alloc (.cells #[.int .i64 rr2, .int .i64 cc2, .slice Ac M2 cc_] 28 (0, 0)) = W12 at *
      generalize V11.heap.size = b11 at *
      have hxa : Lw W12 g3 (enc z3) := HK12.out.at_ 7 rfl
      with_reducible refine (HRP3.out g3 _ hxa).mono ?_
      rintro e V12 ⟨Ad, cd_, rfl, hrd, hb⟩
      have HK13 := Lib.hid (show Kg none w (V12.alloc (.cells #[.int .i64 rr2, .int .i64 cc2, .slice Ad M2 cd_] 28 (0, 0))) [some (w.heap.size, .cells #[.int .u8 (R1 : Int), .int .u8 (C1 : Int), .slice A1 n1 c1] 38 (0, 0)), some (w.heap.size + 1, .cells #[.int .u8 (R2 : Int), .int .u8 (C2 : Int), .slice A2 n2 c2] 38 (0, 0)), some (w.heap.size + 1 + 1, .cells #[.int .i64 q0, .int .i64 q1, .int .i64 q2, .int .i64 q3] 58 (0, 0)), some (g1, lwO (enc (za))), some (b2, .cells #[.int .i64 (r : Int), .int .i64 (k1 : Int), .slice (some ⟨g1, 0, none⟩) N1 N1] 28 (0, 0)), some (g2, lwO (enc (zb))), some (b3, .cells #[.int .i64 (r : Int), .int .i64 (k2 : Int), .slice (some ⟨g2, 0, none⟩) N2 N2] 28 (0, 0)), some (g3, lwO (enc (z3))), some (b4, .cells #[.int .i64 (r : Int), .int .i64 (m : Int), .slice (some ⟨g3, 0, none⟩) N3 N3] 28 (0, 0)), some (b9, .cells #[.int .i64 rr1, .int .i64 cc1, .slice Aa M1 ca] 28 (0, 0)), some (b10, .cells #[.int .i64 rr1, .int .i64 cc1, .slice Ab M1 cb] 28 (0, 0)), some (b11, .cells #[.int .i64 rr2, .int .i64 cc2, .slice Ac M2 cc_] 28 (0, 0)), some (V12.heap.size, .cells #[.int .i64 rr2, .int .i64 cc2, .slice Ad M2 cd_] 28 (0, 0))] from (HK12.out.step hb).more (.cells #[.int .i64 rr2, .int .i64 cc2, .slice Ad M2 cd_] 28 (0, 0)))
      have HRL4 := Lib.hid (show RdL (V12.alloc (.cells #[.int .i64 rr2, .int .i64 cc2, .slice Ad M2 cd_] 28 (0, 0))) [(Aa, es1), (Ab, es1), (Ac, es2), (Ad, es2)] from ((HRL3.out.below hb).more hrd).alloc (.cells #[.int .i64 rr2, .int .i64 cc2, .slice Ad M2 cd_] 28 (0, 0)))
      clear hrd hb hxa x0 x1 x2 x3 x4 x5 x6 HK12 HRL3
      have x0 := HK13.out.cell 8 0 rfl rfl
      have x1 := HK13.out.cell 8 1 rfl rfl
      have x2 := HK13.out.cell 8 2 rfl rfl
      have x3 := HK13.out.cell 2 0 rfl rfl
      have x4 := HK13.out.cell 2 1 rfl rfl
      have x5 := HK13.out.cell 2 2 rfl rfl
      have x6 := HK13.out.cell 2 3 rfl rfl
      go_wp2_with fail
      change Calls _ _ _ (V12.alloc (.cells #[.int .i64 rr2, .int .i64 cc2, .slice Ad M2 cd_] 28 (0, 0))) _
      generalize V12.alloc (.cells #[.int .i64 rr2, .int .i64 cc2, .slice Ad M2 cd_] 28 (0, 0)) = W13 at *
      generalize V12.heap.size = b12 at *
      have hxa : Lw W13 g3 (enc z3) := HK13.out.at_ 7 rfl
      with_reducible refine (HP4.out g3 _ hxa).mono ?_
      rintro e V13 ⟨Ae, ce_, rfl, hrd, hb⟩
      have HK14 := Lib.hid (show Kg none w (V13.alloc (.cells #[.int .i64 rr3, .int .i64 cc3, .slice Ae M3 ce_] 28 (0, 0))) [some (w.heap.size, .cells #[.int .u8 (R1 : Int), .int .u8 (C1 : Int), .slice A1 n1 c1] 38 (0, 0)), some (w.heap.size + 1, .cells #[.int .u8 (R2 : Int), .int .u8 (C2 : Int), .slice A2 n2 c2] 38 (0, 0)), some (w.heap.size + 1 + 1, .cells #[.int .i64 q0, .int .i64 q1, .int .i64 q2, .int .i64 q3] 58 (0, 0)), some (g1, lwO (enc (za))), some (b2, .cells #[.int .i64 (r : Int), .int .i64 (k1 : Int), .slice (some ⟨g1, 0, none⟩) N1 N1] 28 (0, 0)), some (g2, lwO (enc (zb))), some (b3, .cells #[.int .i64 (r : Int), .int .i64 (k2 : Int), .slice (some ⟨g2, 0, none⟩) N2 N2] 28 (0, 0)), some (g3, lwO (enc (z3))), some (b4, .cells #[.int .i64 (r : Int), .int .i64 (m : Int), .slice (some ⟨g3, 0, none⟩) N3 N3] 28 (0, 0)), some (b9, .cells #[.int .i64 rr1, .int .i64 cc1, .slice Aa M1 ca] 28 (0, 0)), some (b10, .cells #[.int .i64 rr1, .int .i64 cc1, .slice Ab M1 cb] 28 (0, 0)), some (b11, .cells #[.int .i64 rr2, .int .i64 cc2, .slice Ac M2 cc_] 28 (0, 0)), some (b12, .cells #[.int .i64 rr2, .int .i64 cc2, .slice Ad M2 cd_] 28 (0, 0)), some (V13.heap.size, .cells #[.int .i64 rr3, .int .i64 cc3, .slice Ae M3 ce_] 28 (0, 0))] from (HK13.out.step hb).more (.cells #[.int .i64 rr3, .int .i64 cc3, .slice Ae M3 ce_] 28 (0, 0)))
      have HRL5 := Lib.hid (show RdL (V13.alloc (.cells #[.int .i64 rr3, .int .i64 cc3, .slice Ae M3 ce_] 28 (0, 0))) [(Aa, es1), (Ab, es1), (Ac, es2), (Ad, es2), (Ae, es3)] from ((HRL4.out.below hb).more hrd).alloc (.cells #[.int .i64 rr3, .int .i64 cc3, .slice Ae M3 ce_] 28 (0, 0)))
      clear hrd hb hxa x0 x1 x2 x3 x4 x5 x6 HK13 HRL4
      have x0 := HK14.out.cell 8 0 rfl rfl
      have x1 := HK14.out.cell 8 1 rfl rfl
      have x2 := HK14.out.cell 8 2 rfl rfl
      have x3 := HK14.out.cell 2 0 rfl rfl
      have x4 := HK14.out.cell 2 1 rfl rfl
      have x5 := HK14.out.cell 2 2 rfl rfl
      have x6 := HK14.out.cell 2 3 rfl rfl
      go_wp2_with fail
      change Calls _ _ _ (V13.alloc (.cells #[.int .i64 rr3, .int .i64 cc3, .slice Ae M3 ce_] 28 (0, 0))) _
      generalize V13.alloc (.cells #[.int .i64 rr3, .int .i64 cc3, .slice Ae M3 ce_] 28 (0, 0)) = W14 at *
      generalize V13.heap.size = b13 at *
      have hxa : Lw W14 g3 (enc z3) := HK14.out.at_ 7 rfl
      with_reducible refine (HRP4.out g3 _ hxa).mono ?_
      rintro e V14 ⟨Af, cf_, rfl, hrd, hb⟩
      have HK15 := Lib.hid (show Kg none w (V14.alloc (.cells #[.int .i64 rr3, .int .i64 cc3, .slice Af M3 cf_] 28 (0, 0))) [some (w.heap.size, .cells #[.int .u8 (R1 : Int), .int .u8 (C1 : Int), .slice A1 n1 c1] 38 (0, 0)), some (w.heap.size + 1, .cells #[.int .u8 (R2 : Int), .int .u8 (C2 : Int), .slice A2 n2 c2] 38 (0, 0)), some (w.heap.size + 1 + 1, .cells #[.int .i64 q0, .int .i64 q1, .int .i64 q2, .int .i64 q3] 58 (0, 0)), some (g1, lwO (enc (za))), some (b2, .cells #[.int .i64 (r : Int), .int .i64 (k1 : Int), .slice (some ⟨g1, 0, none⟩) N1 N1] 28 (0, 0)), some (g2, lwO (enc (zb))), some (b3, .cells #[.int .i64 (r : Int), .int .i64 (k2 : Int), .slice (some ⟨g2, 0, none⟩) N2 N2] 28 (0, 0)), some (g3, lwO (enc (z3))), some (b4, .cells #[.int .i64 (r : Int), .int .i64 (m : Int), .slice (some ⟨g3, 0, none⟩) N3 N3] 28 (0, 0)), some (b9, .cells #[.int .i64 rr1, .int .i64 cc1, .slice Aa M1 ca] 28 (0, 0)), some (b10, .cells #[.int .i64 rr1, .int .i64 cc1, .slice Ab M1 cb] 28 (0, 0)), some (b11, .cells #[.int .i64 rr2, .int .i64 cc2, .slice Ac M2 cc_] 28 (0, 0)), some (b12, .cells #[.int .i64 rr2, .int .i64 cc2, .slice Ad M2 cd_] 28 (0, 0)), some (b13, .cells #[.int .i64 rr3, .int .i64 cc3, .slice Ae M3 ce_] 28 (0, 0)), some (V14.heap.size, .cells #[.int .i64 rr3, .int .i64 cc3, .slice Af M3 cf_] 28 (0, 0))] from (HK14.out.step hb).more (.cells #[.int .i64 rr3, .int .i64 cc3, .slice Af M3 cf_] 28 (0, 0)))
      have HRL6 := Lib.hid (show RdL (V14.alloc (.cells #[.int .i64 rr3, .int .i64 cc3, .slice Af M3 cf_] 28 (0, 0))) [(Aa, es1), (Ab, es1), (Ac, es2), (Ad, es2), (Ae, es3), (Af, es3)] from ((HRL5.out.below hb).more hrd).alloc (.cells #[.int .i64 rr3, .int .i64 cc3, .slice Af M3 cf_] 28 (0, 0)))
      clear hrd hb hxa x0 x1 x2 x3 x4 x5 x6 HK14 HRL5
      go_wp2_with fail
      change Code.wp _ _ _ _ (V14.alloc (.cells #[.int .i64 rr3, .int .i64 cc3, .slice Af M3 cf_] 28 (0, 0)))
      generalize V14.alloc (.cells #[.int .i64 rr3, .int .i64 cc3, .slice Af M3 cf_] 28 (0, 0)) = W15 at *
      generalize V14.heap.size = b14 at *
      refine wp_region_acts (X := Nat × Nat × Nat × Option Addr × Nat) (fun x => [(0, 164, .pointer (some ⟨b2, 0, none⟩)), (1, 165, .int .i64 (r : Int)), (2, 166, .agg #[.int .i64 (r : Int), .int .i64 195, .slice (some ⟨x.1, 0, none⟩) NZ NZ]), (3, 167, .pointer (some ⟨b2, 0, none⟩)), (4, 168, .int .i64 (r : Int)), (5, 169, .pointer (some ⟨b3, 1, none⟩)), (6, 170, .int .i64 (k2 : Int)), (7, 171, .agg #[.int .i64 (r : Int), .int .i64 (k2 : Int), .slice (some ⟨x.2.1, 0, none⟩) N2 N2]), (8, 172, .tuple #[.agg #[.int .i64 rr4, .int .i64 cc4, .slice x.2.2.2.1 M4 x.2.2.2.2], .bool ok4]), (9, 163, .tuple #[.agg #[.int .i64 rr4, .int .i64 cc4, .slice x.2.2.2.1 M4 x.2.2.2.2], .bool ok4]), (10, 173, .agg #[.int .i64 rr4, .int .i64 cc4, .slice x.2.2.2.1 M4 x.2.2.2.2]), (11, 174, .bool ok4), (12, 28, .pointer (some ⟨x.2.2.1, 0, none⟩)), (14, 29, .bool ok4)])
        (fun x L W => Kg none w W [some (w.heap.size, .cells #[.int .u8 (R1 : Int), .int .u8 (C1 : Int), .slice A1 n1 c1] 38 (0, 0)), some (w.heap.size + 1, .cells #[.int .u8 (R2 : Int), .int .u8 (C2 : Int), .slice A2 n2 c2] 38 (0, 0)), some (w.heap.size + 1 + 1, .cells #[.int .i64 q0, .int .i64 q1, .int .i64 q2, .int .i64 q3] 58 (0, 0)), some (g1, lwO (enc (za))), some (b2, .cells #[.int .i64 (r : Int), .int .i64 (k1 : Int), .slice (some ⟨g1, 0, none⟩) N1 N1] 28 (0, 0)), some (g2, lwO (enc (zb))), some (b3, .cells #[.int .i64 (r : Int), .int .i64 (k2 : Int), .slice (some ⟨g2, 0, none⟩) N2 N2] 28 (0, 0)), some (g3, lwO (enc (z3))), some (b4, .cells #[.int .i64 (r : Int), .int .i64 (m : Int), .slice (some ⟨g3, 0, none⟩) N3 N3] 28 (0, 0)), some (b9, .cells #[.int .i64 rr1, .int .i64 cc1, .slice Aa M1 ca] 28 (0, 0)), some (b10, .cells #[.int .i64 rr1, .int .i64 cc1, .slice Ab M1 cb] 28 (0, 0)), some (b11, .cells #[.int .i64 rr2, .int .i64 cc2, .slice Ac M2 cc_] 28 (0, 0)), some (b12, .cells #[.int .i64 rr2, .int .i64 cc2, .slice Ad M2 cd_] 28 (0, 0)), some (b13, .cells #[.int .i64 rr3, .int .i64 cc3, .slice Ae M3 ce_] 28 (0, 0)), some (b14, .cells #[.int .i64 rr3, .int .i64 cc3, .slice Af M3 cf_] 28 (0, 0)), entO (L 2) x.1 (lwO (enc zy)), entO (L 7) x.2.1 (lwO (enc zz)), entM (L 12) (L 13) x.2.2.1 (.cells #[.int .i64 rr4, .int .i64 cc4, .slice x.2.2.2.1 M4 x.2.2.2.2] 28 (0, 0))] ∧ RdL W [(Aa, es1), (Ab, es1), (Ac, es2), (Ad, es2), (Ae, es3), (Af, es3)] ∧ (L 8 = true → RdW W x.2.2.2.1 es4) ∧ (L 10 = true → L 9 = true)) (by kernel_rfl) (by kernel_rfl) (0, 0, 0, none, 0) ?st (by kernel_rfl) ?_ ?_
      case st => exact ⟨by simpa [entO_no, entM_no] using HK15.out.drew.room.room.room, HRL6.out, fun h3 => by simp at h3, fun h3 => by simp at h3⟩
      · simp only [selA, selT_cons, selT_nil, List.set_cons_zero, List.set_cons_succ, List.getD_cons_zero, List.getD_cons_succ]
        repeat' (first | exact ActSteps.nil | refine ActSteps.cons ?_ ?_)
        all_goals
          intro L x wx hJ hl hd hs K hK
          (try simp [Region.binds] at hd)
          have p0 := hJ.1.cell 4 0 rfl rfl
          have p1 := hJ.1.cell 6 1 rfl rfl
          try simp only [hd, hl, selV_true, selV_false]
        · go_simp
          refine hK.out x _ _ ?_ ?_
          · simp [hl, hd, selV_true, selV_false]
          · exact ⟨by simpa [hl] using hJ.1, hJ.2.1, by simpa [hl] using hJ.2.2.1, by simpa [hl, hd] using hJ.2.2.2⟩
        · go_simp
          refine hK.out x _ _ ?_ ?_
          · simp [hl, hd, selV_true, selV_false]
          · exact ⟨by simpa [hl] using hJ.1, hJ.2.1, by simpa [hl] using hJ.2.2.1, by simpa [hl, hd] using hJ.2.2.2⟩
        · have hn8 := hs 8 _ rfl (by simp [Region.binds])
          go_simp
          with_reducible refine (HZ1.out _).mono ?_
          rintro e v ⟨h, rfl, hh, hLh, hb⟩
          refine hK.out (h, x.2) _ _ ?_ ?_
          · simp [hl, hd, hn8, selV_true, selV_false]
          · exact ⟨(hJ.1.came 15 (by simp [hl, entO_no]) hb hh (o := lwO (enc zy)) hLh).cast (by simp [entO_yes]), hJ.2.1.below hb, fun h3 => absurd h3 (by simp [hn8]), by simpa using hJ.2.2.2⟩
        · go_simp
          refine hK.out x _ _ ?_ ?_
          · simp [hl, hd, selV_true, selV_false]
          · exact ⟨by simpa [hl] using hJ.1, hJ.2.1, by simpa [hl] using hJ.2.2.1, by simpa [hl, hd] using hJ.2.2.2⟩
        · go_simp
          refine hK.out x _ _ ?_ ?_
          · simp [hl, hd, selV_true, selV_false]
          · exact ⟨by simpa [hl] using hJ.1, hJ.2.1, by simpa [hl] using hJ.2.2.1, by simpa [hl, hd] using hJ.2.2.2⟩
        · go_simp
          refine hK.out x _ _ ?_ ?_
          · simp [hl, hd, selV_true, selV_false]
          · exact ⟨by simpa [hl] using hJ.1, hJ.2.1, by simpa [hl] using hJ.2.2.1, by simpa [hl, hd] using hJ.2.2.2⟩
        · go_simp
          refine hK.out x _ _ ?_ ?_
          · simp [hl, hd, selV_true, selV_false]
          · exact ⟨by simpa [hl] using hJ.1, hJ.2.1, by simpa [hl] using hJ.2.2.1, by simpa [hl, hd] using hJ.2.2.2⟩
        · have hn8 := hs 8 _ rfl (by simp [Region.binds])
          go_simp
          with_reducible refine (HZ2.out _).mono ?_
          rintro e v ⟨h, rfl, hh, hLh, hb⟩
          refine hK.out (x.1, h, x.2.2) _ _ ?_ ?_
          · simp [hl, hd, hn8, selV_true, selV_false]
          · exact ⟨(hJ.1.came 16 (by simp [hl, entO_no]) hb hh (o := lwO (enc zz)) hLh).cast (by simp [entO_yes]), hJ.2.1.below hb, fun h3 => absurd h3 (by simp [hn8]), by simpa using hJ.2.2.2⟩
        · have hn9 := hs 9 _ rfl (by simp [Region.binds])
          have hn13 := hs 13 _ rfl (by simp [Region.binds])
          have hn10 := lt_of_false hJ.2.2.2 hn9
          have hB := hJ.1
          simp only [hd, entO_yes] at hB
          have hxa : Lw wx x.1 (enc zy) := hB.at_ 15 rfl
          have hxt : Lw wx x.2.1 (enc zz) := hB.at_ 16 rfl
          clear hB
          go_simp
          with_reducible refine (HZJ.out x.1 x.2.1 _ hxa hxt).mono ?_
          rintro e v ⟨A, cap, rfl, hrd, hb⟩
          refine hK.out (x.1, x.2.1, x.2.2.1, A, cap) _ _ ?_ ?_
          · simp [hl, hd, hn9, hn10, hn13, selV_true, selV_false]
          · exact ⟨by simpa [hn13, entM_false] using hJ.1.step hb, hJ.2.1.below hb, fun _ => hrd, by simp [hn10]⟩
        · go_simp
          refine hK.out x _ _ ?_ ?_
          · simp [hl, hd, selV_true, selV_false]
          · exact ⟨by simpa [hl] using hJ.1, hJ.2.1, by simpa [hl] using hJ.2.2.1, by simpa [hl, hd] using hJ.2.2.2⟩
        · go_simp
          refine hK.out x _ _ ?_ ?_
          · simp [hl, hd, selV_true, selV_false]
          · exact ⟨by simpa [hl] using hJ.1, hJ.2.1, by simpa [hl] using hJ.2.2.1, by simpa [hl, hd] using hJ.2.2.2⟩
        · go_simp
          refine hK.out x _ _ ?_ ?_
          · simp [hl, hd, selV_true, selV_false]
          · exact ⟨by simpa [hl] using hJ.1, hJ.2.1, by simpa [hl] using hJ.2.2.1, by simpa [hl, hd] using hJ.2.2.2⟩
        · have hn13 := hs 13 _ rfl (by simp [Region.binds])
          go_simp
          refine hK.out (x.1, x.2.1, wx.heap.size, x.2.2.2) _ _ ?_ ?_
          · simp [hl, hd, hn13, selV_true, selV_false]
          · refine ⟨Kg.cast (hJ.1.new 17 (mrow 0 0 none 0 0) (by simp [hl, entM_no])) ?_, hJ.2.1.alloc _, fun h3 => RdW.below (hJ.2.2.1 (by simpa using h3)) ((Below.refl _ _).alloc (Nat.le_refl _) _), by simpa using hJ.2.2.2⟩
            simp [hn13, entM_new]
        · have hJ2 := hJ.1
          simp only [hl, hd, entM_new] at hJ2
          have f0 := hJ2.frozen 17 0 rfl
          have f1 := hJ2.frozen 17 1 rfl
          have f2 := hJ2.frozen 17 2 rfl
          have g0 := hJ2.cell 17 0 rfl rfl
          have g1' := hJ2.cell 17 1 rfl rfl
          have g2' := hJ2.cell 17 2 rfl rfl
          go_simp
          have hKp := ((hJ2.put 17 0 rfl (.int .i64 rr4)).put 17 1 rfl (.int .i64 cc4)).put 17 2 rfl (.slice x.2.2.2.1 M4 x.2.2.2.2)
          have hm0 := hJ2.at_ 17 rfl
          have hm1 := (hJ2.put 17 0 rfl (.int .i64 rr4)).at_ 17 rfl
          have hm2 := ((hJ2.put 17 0 rfl (.int .i64 rr4)).put 17 1 rfl (.int .i64 cc4)).at_ 17 rfl
          refine hK.out x _ _ ?_ ?_
          · simp [hl, hd, selV_true, selV_false]
          · refine ⟨Kg.cast hKp (by simp [hd, entM_full]), ?_, ?_, by simpa [hd] using hJ.2.2.2⟩
            · exact ((hJ.2.1.matput hm0 0 _).matput hm1 1 _).matput hm2 2 _
            · exact fun h3 => (((hJ.2.2.1 (by simpa using h3)).matput hm0 0 _).matput hm1 1 _).matput hm2 2 _
        · go_simp
          refine hK.out x _ _ ?_ ?_
          · simp [hl, hd, selV_true, selV_false]
          · exact ⟨by simpa [hl] using hJ.1, hJ.2.1, by simpa [hl] using hJ.2.2.1, by simpa [hl, hd] using hJ.2.2.2⟩
      · rintro ⟨y3, y4, b15, Ag, cg_⟩ W16 hKx
        simp only [selA, selT_cons, selT_nil, List.set_cons_zero, List.set_cons_succ, List.getD_cons_zero, List.getD_cons_succ, selV_true]
        simp only [entM_full, entO_yes] at hKx
        obtain ⟨hKx, hRl, hRa, _⟩ := hKx
        have HK16 := Lib.hid (show Kg none w W16 [some (w.heap.size, .cells #[.int .u8 (R1 : Int), .int .u8 (C1 : Int), .slice A1 n1 c1] 38 (0, 0)), some (w.heap.size + 1, .cells #[.int .u8 (R2 : Int), .int .u8 (C2 : Int), .slice A2 n2 c2] 38 (0, 0)), some (w.heap.size + 1 + 1, .cells #[.int .i64 q0, .int .i64 q1, .int .i64 q2, .int .i64 q3] 58 (0, 0)), some (g1, lwO (enc (za))), some (b2, .cells #[.int .i64 (r : Int), .int .i64 (k1 : Int), .slice (some ⟨g1, 0, none⟩) N1 N1] 28 (0, 0)), some (g2, lwO (enc (zb))), some (b3, .cells #[.int .i64 (r : Int), .int .i64 (k2 : Int), .slice (some ⟨g2, 0, none⟩) N2 N2] 28 (0, 0)), some (g3, lwO (enc (z3))), some (b4, .cells #[.int .i64 (r : Int), .int .i64 (m : Int), .slice (some ⟨g3, 0, none⟩) N3 N3] 28 (0, 0)), some (b9, .cells #[.int .i64 rr1, .int .i64 cc1, .slice Aa M1 ca] 28 (0, 0)), some (b10, .cells #[.int .i64 rr1, .int .i64 cc1, .slice Ab M1 cb] 28 (0, 0)), some (b11, .cells #[.int .i64 rr2, .int .i64 cc2, .slice Ac M2 cc_] 28 (0, 0)), some (b12, .cells #[.int .i64 rr2, .int .i64 cc2, .slice Ad M2 cd_] 28 (0, 0)), some (b13, .cells #[.int .i64 rr3, .int .i64 cc3, .slice Ae M3 ce_] 28 (0, 0)), some (b14, .cells #[.int .i64 rr3, .int .i64 cc3, .slice Af M3 cf_] 28 (0, 0)), some (b15, .cells #[.int .i64 rr4, .int .i64 cc4, .slice Ag M4 cg_] 28 (0, 0))] from hKx.sel [0, 1, 2, 3, 4, 5, 6, 7, 8, 9, 10, 11, 12, 13, 14, 17] (by decide))
        have HRL7 := Lib.hid (hRl.more (hRa trivial))
        clear hKx hRl hRa HK15 HRL6
        have x0 := HK16.out.cell 9 0 rfl rfl
        have x1 := HK16.out.cell 9 1 rfl rfl
        have x2 := HK16.out.cell 9 2 rfl rfl
        have x3 := HK16.out.cell 10 0 rfl rfl
        have x4 := HK16.out.cell 10 1 rfl rfl
        have x5 := HK16.out.cell 10 2 rfl rfl
        go_wp2_with fail
        have hra := HRL7.out _ (show (Aa, es1) ∈ _ by simp)
        have hrb := HRL7.out _ (show (Ab, es1) ∈ _ by simp)
        with_reducible refine (HS1.out Aa Ab ca cb _ hra hrb).mono ?_
        rintro e U1 ⟨rfl, hb⟩
        have HK17 := Lib.hid (HK16.out.step hb)
        have HRL8 := Lib.hid (HRL7.out.below hb)
        clear hra hrb hb x0 x1 x2 x3 x4 x5 HK16 HRL7
        have x0 := HK17.out.cell 11 0 rfl rfl
        have x1 := HK17.out.cell 11 1 rfl rfl
        have x2 := HK17.out.cell 11 2 rfl rfl
        have x3 := HK17.out.cell 12 0 rfl rfl
        have x4 := HK17.out.cell 12 1 rfl rfl
        have x5 := HK17.out.cell 12 2 rfl rfl
        go_wp2_with fail
        have hra := HRL8.out _ (show (Ac, es2) ∈ _ by simp)
        have hrb := HRL8.out _ (show (Ad, es2) ∈ _ by simp)
        with_reducible refine (HS2.out Ac Ad cc_ cd_ _ hra hrb).mono ?_
        rintro e U2 ⟨rfl, hb⟩
        have HK18 := Lib.hid (HK17.out.step hb)
        have HRL9 := Lib.hid (HRL8.out.below hb)
        clear hra hrb hb x0 x1 x2 x3 x4 x5 HK17 HRL8
        have x0 := HK18.out.cell 13 0 rfl rfl
        have x1 := HK18.out.cell 13 1 rfl rfl
        have x2 := HK18.out.cell 13 2 rfl rfl
        have x3 := HK18.out.cell 14 0 rfl rfl
        have x4 := HK18.out.cell 14 1 rfl rfl
        have x5 := HK18.out.cell 14 2 rfl rfl
        go_wp2_with fail
        have hra := HRL9.out _ (show (Ae, es3) ∈ _ by simp)
        have hrb := HRL9.out _ (show (Af, es3) ∈ _ by simp)
        with_reducible refine (HS3.out Ae Af ce_ cf_ _ hra hrb).mono ?_
        rintro e U3 ⟨rfl, hb⟩
        have HK19 := Lib.hid (HK18.out.step hb)
        have HRL10 := Lib.hid (HRL9.out.below hb)
        clear hra hrb hb x0 x1 x2 x3 x4 x5 HK18 HRL9
        have hok := HOK4.out
        have x0 := HK19.out.cell 6 1 rfl rfl
        by_cases h5 : k2 ≤ 5
        · have d5 : decide ((k2 : Int) ≤ 5) = true := by rw [decide_eq_true_iff]; omega
          rw [decide_eq_true h5] at hok
          subst hok
          go_wp2
          go_ret
          exact ⟨rfl, Kg.below_ HK19.out⟩
        · have d5 : decide ((k2 : Int) ≤ 5) = false := by rw [decide_eq_false_iff_not]; omega
          rw [decide_eq_false h5] at hok
          subst hok
          obtain ⟨rfl, rfl, rfl, rfl⟩ := HNO4.out rfl
          have x1 := HK19.out.cell 15 0 rfl rfl
          have x2 := HK19.out.cell 15 1 rfl rfl
          have x3 := HK19.out.cell 15 2 rfl rfl
          go_wp2_with fail
          with_reducible refine (same_caps 0 0 Ag none 0 cg_ 0 [] _ (RdW.nil _ _) (RdW.nil _ _) rfl (by omega)).mono ?_
          rintro e U4 ⟨rfl, hb⟩
          have HK20 := Lib.hid (HK19.out.step hb)
          clear x0 x1 x2 x3
          go_wp2
          go_ret
          exact ⟨rfl, Kg.below_ HK20.out⟩

end Go.Proofs.YtknaghdoffigjaaGreatDoor
