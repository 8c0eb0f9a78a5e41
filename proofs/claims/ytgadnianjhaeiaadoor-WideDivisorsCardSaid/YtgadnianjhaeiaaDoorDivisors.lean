/-
  The contract of the statements' WideDivisors: it returns true, whatever three numbers come in.
-/
import Derived.Test.YtgadnianjhaeiaaDoorInvG
import Derived.Test.YtgadnianjhaeiaaDoorRGcd
import Derived.Test.YtgadnianjhaeiaaDoorRemainders
import Derived.Deep.DeepCutAuto
namespace Go.Proofs.YtgadnianjhaeiaaDoor
open Go.RowKit

theorem Nm.cut {w : World} {A : Option Addr} {n c : Nat} {z : Int} (h : Nm w A n c z) (k : Nat) (hk : k ≤ n) : Nm w A k c z := by
  obtain ⟨xs, h1, h2, h3, h4, h5⟩ := h
  refine ⟨xs.take k, fun j hj => ?_, by rw [List.length_take]; omega, fun e => ⟨by have := (h3 e).1; omega, (h3 e).2⟩, by omega, h5⟩
  rw [List.length_take] at hj
  obtain ⟨a, e, hb, hc⟩ := h1 j (by omega)
  refine ⟨a, e, hb, ?_⟩
  rw [hc]
  simp [List.getD_eq_getElem?_getD, List.getElem?_take, show j < k from by omega]
theorem slice_first (A : Option Addr) (n c k : Nat) (hk : k ≤ c) (w : World) :
    (Instr.slice 22 (.slice A n c) none (some (.int .i64 (k : Int))) none).run Tryd.prog w = .ok (.slice A k c) w := by
  have h := run_slice_h (P := Tryd.prog) (w := w) 22 A n c (by kernel_rfl) .i64 (k : Int) (by omega) (by omega)
  rw [h]
  have e : Tryd.prog.elem 22 = 5 := by kernel_rfl
  rw [e, Tryd.sizeOf5]
  cases A <;> simp [Result.andThen, sliced, Addr.add]

theorem RGcd_all (x y : Bool) (s t : ByteArray) (w : World) (hs : s.size ≤ 80) (ht : t.size ≤ 80) (a b : Int) (ha : wint x s = a) (hbv : wint y t = b) :
    Calls Tryd.prog 29 #[.agg #[.bool x, .string s], .agg #[.bool y, .string t]] w fun e w' =>
      e = .returned (.tuple #[.agg #[.bool (wneg (gcdS a b).1), .string (wmag (gcdS a b).1)], .agg #[.bool (wneg (gcdS a b).2.1), .string (wmag (gcdS a b).2.1)], .agg #[.bool (wneg (gcdS a b).2.2), .string (wmag (gcdS a b).2.2)]]) ∧ Below w.heap.size w w' := by
  by_cases hb : b = 0
  · have h := RGcd_zero x y s t w hs ht (by rw [hbv]; exact hb) a ha
    have e : gcdS a b = ((a.natAbs : Int), a.sign, 0) := by unfold gcdS; rw [if_pos hb]
    rw [e]
    exact h
  · exact RGcd_any x y s t w hs ht (by rw [hbv]; exact hb) a b ha hbv
theorem gcd_facts (a b : Int) (ha : a.natAbs < 256 ^ 80) (hb : b.natAbs < 256 ^ 80) :
    0 ≤ (gcdS a b).1 ∧ (gcdS a b).1 ∣ a ∧ (gcdS a b).1 ∣ b ∧ (gcdS a b).2.1 * a + (gcdS a b).2.2 * b = (gcdS a b).1 ∧ (gcdS a b).1.natAbs < 256 ^ 80 ∧ (gcdS a b).2.1.natAbs < 256 ^ 80 ∧ (gcdS a b).2.2.natAbs < 256 ^ 161 := by
  have hp : (0 : Nat) < 256 ^ 80 := Nat.pow_pos (by omega)
  have hp2 : (0 : Nat) < 256 ^ 161 := Nat.pow_pos (by omega)
  have hp1 : (1 : Nat) < 256 ^ 80 := Nat.one_lt_pow (by omega) (by omega)
  by_cases h : b = 0
  · have e : gcdS a b = ((a.natAbs : Int), a.sign, 0) := by unfold gcdS; rw [if_pos h]
    rw [e]
    subst h
    have hsc := sign_cases a
    refine ⟨by simp only []; omega, Int.natAbs_dvd.2 (Int.dvd_refl _), Int.dvd_zero _, ?_, by simpa using ha, ?_, by simp⟩
    · simp only []
      rcases hsc with ⟨h1, h2⟩ | ⟨h1, h2⟩ | ⟨h1, h2⟩ <;> rw [h2] <;> omega
    · simp only []
      generalize (256 : Nat) ^ 80 = P at *
      omega
  · obtain ⟨h1, h2, h3, h4, h5, h6⟩ := gcdS_ok a b h
    generalize (gcdS a b).1 = g at *
    generalize (gcdS a b).2.1 = u at *
    generalize (gcdS a b).2.2 = v at *
    have hg : g.natAbs ≤ b.natAbs := Nat.le_of_dvd (by omega) (Int.natAbs_dvd_natAbs.2 h3)
    have hu : u.natAbs ≤ b.natAbs := by
      have : u * 1 ≤ u * g := Int.mul_le_mul_of_nonneg_left h1 h5
      omega
    have hv : v.natAbs ≤ (g - u * a).natAbs := by
      have e : v * b = g - u * a := by omega
      rw [← e, Int.natAbs_mul]
      exact Nat.le_mul_of_pos_right _ (by omega)
    have hua : (u * a).natAbs < 256 ^ 160 := abs_mul (k := 80) (l := 80) (by omega) ha
    have hd : (g - u * a).natAbs < 256 ^ 161 := by
      have h400 : (256 : Nat) ^ 80 ≤ 256 ^ 160 := Nat.pow_le_pow_right (by omega) (by omega)
      have : (256 : Nat) ^ 161 = 256 * 256 ^ 160 := by rw [Nat.pow_succ, Nat.mul_comm]
      generalize (256 : Nat) ^ 161 = p401 at *
      generalize (256 : Nat) ^ 160 = p400 at *
      generalize (256 : Nat) ^ 80 = p200 at *
      omega
    exact ⟨by omega, h2, h3, h4, by omega, by omega, by omega⟩
theorem quo_rest0 {x y : Bool} {s t : ByteArray} {a g : Int} (hx : NV x s a 80) (hy : NV y t g 80) (hd : g ∣ a) (W : World) :
    Calls Tryd.prog 27 #[.agg #[.bool x, .string s], .agg #[.bool y, .string t]] W fun e w' => ∃ xq sq ok, e = .returned (.tuple #[.agg #[.bool xq, .string sq], .agg #[.bool false, .string ⟨#[]⟩], .bool ok]) ∧ Below W.heap.size W w' := by
  obtain ⟨e1, h1⟩ := hx
  obtain ⟨e2, h2⟩ := hy
  by_cases h : g = 0
  · exact (Quo_zero x y s t W (by omega) (by rw [e2]; exact h)).mono fun _ _ ⟨e, hb⟩ => ⟨_, _, _, e, hb⟩
  · have hq := Quo_any x y s t W (by omega) (by omega) (by rw [e2]; exact h)
    rw [e1, e2, Int.emod_eq_zero_of_dvd hd] at hq
    exact hq.mono fun _ _ ⟨e, hb⟩ => ⟨_, _, _, e, hb⟩
theorem Bxs.more3 {w0 w : World} {l : List (Nat × Bool × ByteArray)} (h : Bxs w0 w l) (x y z : Bool) (s t u : ByteArray) : Bxs w0 (((w.alloc (wbox x s)).alloc (wbox y t)).alloc (wbox z u)) (l ++ [(w.heap.size, x, s), (w.heap.size + 1, y, t), (w.heap.size + 2, z, u)]) := by
  have h2 := (h.more2 x y s t).more z u
  rw [List.append_assoc] at h2
  simpa using h2

/-- A block that holds these cells, four Wides in an array of arrays. -/
def Ab (w : World) (b : Nat) (vs : Array Value) : Prop := w.heap[b]? = some (.cells vs 39 (0, 0))
abbrev zbox : Obj := .cells #[.bool false, .string ⟨#[]⟩, .bool false, .string ⟨#[]⟩, .bool false, .string ⟨#[]⟩, .bool false, .string ⟨#[]⟩] 39
abbrev abx (x1 y1 x2 y2 : Bool) (s1 t1 s2 t2 : ByteArray) : Array Value := #[.bool x1, .string s1, .bool y1, .string t1, .bool x2, .string s2, .bool y2, .string t2]
theorem Ab.lt {w : World} {b : Nat} {vs : Array Value} (h : Ab w b vs) : b < w.heap.size := by
  rcases Nat.lt_or_ge b w.heap.size with hlt | hge
  · exact hlt
  · unfold Ab at h; rw [Array.getElem?_eq_none hge] at h; cases h
theorem Ab.below {w w' : World} {b : Nat} {vs : Array Value} {B : Nat} (h : Ab w b vs) (hb : Below B w w') (hg : b < B) : Ab w' b vs := (hb.block b hg).trans h
theorem Ab.cell {w : World} {b : Nat} {vs : Array Value} (h : Ab w b vs) (k : Nat) {v : Value} (hv : vs[k]? = some v) : w.cell? ⟨b, k, none⟩ = some v := by
  unfold Ab at h
  simp [World.cell?, h, hv]
theorem Ab.frozen {w : World} {b : Nat} {vs : Array Value} (h : Ab w b vs) (k : Nat) : w.frozen? ⟨b, k, none⟩ = false := by
  unfold Ab at h
  simp [World.frozen?, h]
theorem Ab.new (w : World) (vs : Array Value) : Ab (w.alloc (.cells vs 39)) w.heap.size vs := heap_alloc_new w _
theorem Ab.set8 {w : World} {b : Nat} {a0 a1 a2 a3 a4 a5 a6 a7 : Value} (h : Ab w b #[a0, a1, a2, a3, a4, a5, a6, a7]) (u0 u1 u2 u3 u4 u5 u6 u7 : Value) :
    Ab ((((((((w.setCell ⟨b, 0, none⟩ u0).setCell ⟨b, 1, none⟩ u1).setCell ⟨b, 2, none⟩ u2).setCell ⟨b, 3, none⟩ u3).setCell ⟨b, 4, none⟩ u4).setCell ⟨b, 5, none⟩ u5).setCell ⟨b, 6, none⟩ u6).setCell ⟨b, 7, none⟩ u7) b #[u0, u1, u2, u3, u4, u5, u6, u7] := by
  unfold Ab at h ⊢
  simp [World.setCell, Array.getElem?_modify, h]
/-- Two numbers as they came in, and a Wide. -/
structure D4 (w0 w : World) (b1 b2 b8 : Nat) (n1 n2 n3 : Bool) (A1 A2 : Option Addr) (l1 l2 c1 c2 : Nat) (z1 z2 : Int) (S3 : ByteArray) : Prop where
  p1 : Nb w b1 n1 A1 l1 c1 z1
  p2 : Nb w b2 n2 A2 l2 c2 z2
  p8 : Wd w b8 n3 S3
  bel : Below w0.heap.size w0 w
section
variable {w0 w w' : World} {b1 b2 b8 : Nat} {n1 n2 n3 : Bool} {A1 A2 : Option Addr} {l1 l2 c1 c2 : Nat} {z1 z2 : Int} {S3 : ByteArray}
theorem D4.step (h : D4 w0 w b1 b2 b8 n1 n2 n3 A1 A2 l1 l2 c1 c2 z1 z2 S3) (hb : Below w.heap.size w w') : D4 w0 w' b1 b2 b8 n1 n2 n3 A1 A2 l1 l2 c1 c2 z1 z2 S3 :=
  ⟨h.p1.below hb h.p1.lt, h.p2.below hb h.p2.lt, h.p8.below hb h.p8.lt, h.bel.trans (hb.mono h.bel.size)⟩
theorem D4.alloc (h : D4 w0 w b1 b2 b8 n1 n2 n3 A1 A2 l1 l2 c1 c2 z1 z2 S3) (o : Obj) : D4 w0 (w.alloc o) b1 b2 b8 n1 n2 n3 A1 A2 l1 l2 c1 c2 z1 z2 S3 := h.step ((Below.refl _ _).alloc (Nat.le_refl _) o)
theorem D4.drew (h : D4 w0 w b1 b2 b8 n1 n2 n3 A1 A2 l1 l2 c1 c2 z1 z2 S3) : D4 w0 w.drew b1 b2 b8 n1 n2 n3 A1 A2 l1 l2 c1 c2 z1 z2 S3 := ⟨h.p1, h.p2, h.p8, h.bel.drew⟩
theorem D4.set1 (h : D4 w0 w b1 b2 b8 n1 n2 n3 A1 A2 l1 l2 c1 c2 z1 z2 S3) {b : Nat} (hx : w0.heap.size ≤ b) (e1 : b1 ≠ b) (e2 : b2 ≠ b) (e8 : b8 ≠ b) (k : Nat) (u : Value) : D4 w0 (w.setCell ⟨b, k, none⟩ u) b1 b2 b8 n1 n2 n3 A1 A2 l1 l2 c1 c2 z1 z2 S3 :=
  ⟨(Below.heap_setCell w _ _ _ e1).trans h.p1, (Below.heap_setCell w _ _ _ e2).trans h.p2, h.p8.far e8 _, h.bel.setCell hx _⟩
theorem D4.set8 (h : D4 w0 w b1 b2 b8 n1 n2 n3 A1 A2 l1 l2 c1 c2 z1 z2 S3) {b : Nat} {vs : Array Value} (hX : Ab w b vs) (hx : w0.heap.size ≤ b) (u0 u1 u2 u3 u4 u5 u6 u7 : Value) :
    D4 w0 ((((((((w.setCell ⟨b, 0, none⟩ u0).setCell ⟨b, 1, none⟩ u1).setCell ⟨b, 2, none⟩ u2).setCell ⟨b, 3, none⟩ u3).setCell ⟨b, 4, none⟩ u4).setCell ⟨b, 5, none⟩ u5).setCell ⟨b, 6, none⟩ u6).setCell ⟨b, 7, none⟩ u7) b1 b2 b8 n1 n2 n3 A1 A2 l1 l2 c1 c2 z1 z2 S3 := by
  have e1 : b1 ≠ b := by
    rintro rfl
    have e := h.p1.symm.trans hX
    simp at e
  have e2 : b2 ≠ b := by
    rintro rfl
    have e := h.p2.symm.trans hX
    simp at e
  have e8 : b8 ≠ b := by
    rintro rfl
    have e := h.p8.symm.trans hX
    simp at e
  exact (((((((h.set1 hx e1 e2 e8 _ _).set1 hx e1 e2 e8 _ _).set1 hx e1 e2 e8 _ _).set1 hx e1 e2 e8 _ _).set1 hx e1 e2 e8 _ _).set1 hx e1 e2 e8 _ _).set1 hx e1 e2 e8 _ _).set1 hx e1 e2 e8 _ _
theorem D4.cells (h : D4 w0 w b1 b2 b8 n1 n2 n3 A1 A2 l1 l2 c1 c2 z1 z2 S3) :
    w.cell? ⟨b1, 0, none⟩ = some (.bool n1) ∧ w.cell? ⟨b1, 1, none⟩ = some (.slice A1 l1 c1) ∧ w.cell? ⟨b1, 2, none⟩ = some (.int .i64 z1) ∧
    w.cell? ⟨b2, 0, none⟩ = some (.bool n2) ∧ w.cell? ⟨b2, 1, none⟩ = some (.slice A2 l2 c2) ∧ w.cell? ⟨b2, 2, none⟩ = some (.int .i64 z2) ∧
    w.cell? ⟨b8, 0, none⟩ = some (.bool n3) ∧ w.cell? ⟨b8, 1, none⟩ = some (.string S3) :=
  ⟨h.p1.cell0, h.p1.cell1, h.p1.cell2, h.p2.cell0, h.p2.cell1, h.p2.cell2, h.p8.cell0, h.p8.cell1⟩
end

set_option maxRecDepth 100000 in
set_option maxHeartbeats 4000000 in
/-- The statement, from the array on. -/
theorem Divisors_any (n1 n2 n3 : Bool) (A1 A2 A3 : Option Addr) (l1 l2 l3 c1 c2 c3 : Nat) (z1 z2 z3 : Int) (w : World) (h1 : Nm w A1 l1 c1 z1) (h2 : Nm w A2 l2 c2 z2) (h3 : Nm w A3 l3 c3 z3) (hlc : l3 ≤ c3) :
    Calls Tryd.prog 7 #[.agg #[.bool n1, .slice A1 l1 c1, .int .i64 z1], .agg #[.bool n2, .slice A2 l2 c2, .int .i64 z2], .agg #[.bool n3, .slice A3 l3 c3, .int .i64 z3]] w
      fun e w' => e = .returned (.bool true) ∧ Below w.heap.size w w' := by
  obtain ⟨W3, hW3⟩ : ∃ W3, W3 = ((w.alloc (.cells #[.bool n1, .slice A1 l1 c1, .int .i64 z1] 24)).alloc (.cells #[.bool n2, .slice A2 l2 c2, .int .i64 z2] 24)).alloc (.cells #[.bool n3, .slice A3 l3 c3, .int .i64 z3] 24) := ⟨_, rfl⟩
  have hs3 : w.heap.size + 3 = W3.heap.size := by rw [hW3]; simp
  have hB3 : Below w.heap.size w W3 := by
    rw [hW3]
    exact (((Below.refl _ _).alloc (Nat.le_refl _) _).alloc (by simp) _).alloc (by simp; omega) _
  have q1 : Nb W3 w.heap.size n1 A1 l1 c1 z1 := by rw [hW3]; exact ((Nb.new w _ _ _ _ _).alloc _).alloc _
  have q2 : Nb W3 (w.heap.size + 1) n2 A2 l2 c2 z2 := by
    rw [hW3]
    have := (Nb.new (w.alloc (.cells #[.bool n1, .slice A1 l1 c1, .int .i64 z1] 24)) n2 A2 l2 c2 z2).alloc (.cells #[.bool n3, .slice A3 l3 c3, .int .i64 z3] 24)
    simpa using this
  have q3 : Nb W3 (w.heap.size + 1 + 1) n3 A3 l3 c3 z3 := by
    rw [hW3]
    have := (Nb.new ((w.alloc (.cells #[.bool n1, .slice A1 l1 c1, .int .i64 z1] 24)).alloc (.cells #[.bool n2, .slice A2 l2 c2, .int .i64 z2] 24)) n3 A3 l3 c3 z3)
    simpa using this
  have HW3 := Lib.hid hW3
  clear hW3
  obtain ⟨k3, hk3⟩ : ∃ k, k = min l3 8 := ⟨_, rfl⟩
  have hsl := slice_first A3 l3 c3 k3 (by omega)
  rw [show ((k3 : Nat) : Int) = min (l3 : Int) 8 from by omega] at hsl
  have h3c := h3.cut k3 (by omega)
  clear hk3
  go_enter Tryd.func7, Tryd.ntmps7
  go_wp2_with fail
  rw [← HW3.out]
  refine (sanity_true _).mono ?_
  rintro e w4 ⟨rfl, hb4⟩
  have hB4 : Below w.heap.size w w4 := hB3.trans (hb4.mono hB3.size)
  have hl1 := q1.lt
  have hl2 := q2.lt
  have hl3 := q3.lt
  have r1 := q1.below hb4 hl1
  have r2 := q2.below hb4 hl2
  have r3 := q3.below hb4 hl3
  have a0 := r3.cell0
  have a1 := r3.cell1
  have a2 := r3.cell2
  have f1 : w4.frozen? ⟨w.heap.size + 1 + 1, 1, none⟩ = false := by
    unfold Nb at r3
    simp [World.frozen?, r3]
  clear q1 q2 q3 hb4 hl1 hl2 hl3
  go_wp2_with fail
  have e3 : w4.heap[w.heap.size + 1 + 1]? = some (.cells #[.bool n3, .slice A3 l3 c3, .int .i64 z3] 24 (0, 0)) := r3
  generalize hW5 : w4.setCell ⟨w.heap.size + 1 + 1, 1, none⟩ (.slice A3 k3 c3) = W5 at *
  have hB5 : Below w.heap.size w W5 := by rw [← hW5]; exact hB4.setCell (by simp only []; omega) _
  have v1 : Nb W5 w.heap.size n1 A1 l1 c1 z1 := by rw [← hW5]; exact (Below.heap_setCell w4 _ _ _ (by simp only []; omega)).trans r1
  have v2 : Nb W5 (w.heap.size + 1) n2 A2 l2 c2 z2 := by rw [← hW5]; exact (Below.heap_setCell w4 _ _ _ (by simp only []; omega)).trans r2
  clear hW5 e3 f1 a0 a1 a2 r1 r2 r3 hB4 hsl hlc h3 HW3
  with_reducible refine ((h3c.below hB5).call n3).mono ?_
  rintro e w6 ⟨S3, hS3, rfl, hb6⟩
  have hB6 : Below w.heap.size w w6 := hB5.trans (hb6.mono hB5.size)
  go_wp2_with fail
  have hD : D4 w (w6.alloc (wbox n3 S3)) w.heap.size (w.heap.size + 1) w6.heap.size n1 n2 n3 A1 A2 l1 l2 c1 c2 z1 z2 S3 :=
    ⟨(v1.below hb6 v1.lt).alloc _, (v2.below hb6 v2.lt).alloc _, Wd.new _ _ _, hB6.alloc hB6.size _⟩
  generalize hW : w6.alloc (wbox n3 S3) = W7 at *
  generalize w6.heap.size = b8 at *
  have H1 := Lib.hid h1
  have H2 := Lib.hid h2
  have NC := NV.self n3 S3 40 hS3
  clear hW h1 h2 v1 v2 hb6 hB6 hB5 h3c
  obtain ⟨d0, d1, d2, d3, d4, d5, d6, d7⟩ := hD.cells
  go_cut [9] (fun s9 wx => ∃ (b9 : Nat) (x1 y1 x2 y2 : Bool) (s1 t1 s2 t2 : ByteArray), s9 = .pointer (some ⟨b9, 0, none⟩) ∧ Ab wx b9 (abx x1 y1 x2 y2 s1 t1 s2 t2) ∧ s1.size ≤ 80 ∧ t1.size ≤ 80 ∧ s2.size ≤ 80 ∧ t2.size ≤ 80 ∧ Below w.heap.size w wx)
  case first =>
    go_region_held3 (fun w' => w'.cell? ⟨w.heap.size, 0, none⟩ = some (.bool n1) ∧ w'.cell? ⟨w.heap.size, 1, none⟩ = some (.slice A1 l1 c1) ∧ w'.cell? ⟨w.heap.size, 2, none⟩ = some (.int .i64 z1) ∧ w'.cell? ⟨w.heap.size + 1, 0, none⟩ = some (.bool n2) ∧ w'.cell? ⟨w.heap.size + 1, 1, none⟩ = some (.slice A2 l2 c2) ∧ w'.cell? ⟨w.heap.size + 1, 2, none⟩ = some (.int .i64 z2) ∧ w'.cell? ⟨b8, 0, none⟩ = some (.bool n3) ∧ w'.cell? ⟨b8, 1, none⟩ = some (.string S3)) (first | (refine ⟨?_, ?_, ?_, ?_, ?_, ?_, ?_, ?_⟩ <;> with_reducible assumption) | with_reducible exact hD.cells | with_reducible exact (hD.alloc _).cells | with_reducible exact (hD.alloc _).drew.cells | with_reducible exact (hD.drew.alloc _).cells | with_reducible exact (hD.set8 hX hx0 _ _ _ _ _ _ _ _).cells | go_keep)
      (first
        | (go_at_call 13; (first | (with_reducible refine ((H1.out.below hD.bel).call n1).mono ?_) | (with_reducible refine ((H1.out.below hD.drew.bel).call n1).mono ?_) | (with_reducible refine ((H1.out.below (hD.alloc zbox).bel).call n1).mono ?_) | (with_reducible refine ((H1.out.below (hD.drew.alloc zbox).bel).call n1).mono ?_) | (with_reducible refine ((H1.out.below (hD.alloc zbox).drew.bel).call n1).mono ?_)); rintro e w12 ⟨S, hS, rfl, hbn⟩; (first | (replace hD := hD.step hbn; (try (replace hX := hX.below hbn hX.lt))) | (replace hD := hD.drew.step hbn) | (have hx0 := hD.bel.size; replace hD := (hD.alloc zbox).step hbn; have hX := (Ab.new _ _).below hbn (Ab.new _ _).lt) | (have hx0 := hD.bel.size; have hX := Ab.below (show Ab (World.drew (World.alloc W7 zbox)) W7.heap.size #[.bool false, .string ⟨#[]⟩, .bool false, .string ⟨#[]⟩, .bool false, .string ⟨#[]⟩, .bool false, .string ⟨#[]⟩] from Ab.new W7 _) hbn (Ab.new W7 _).lt; replace hD := (hD.alloc zbox).drew.step hbn) | (have hx0 := hD.bel.size; replace hD := (hD.drew.alloc zbox).step hbn; have hX := (Ab.new _ _).below hbn (Ab.new _ _).lt)); have HM := Lib.hid (fun W => mul_to (NV.self n1 S 40 hS) NC (Nat.le_of_ble_eq_true rfl) (Nat.le_of_ble_eq_true rfl) (wint n1 S * wint n3 S3) rfl W); have hP := wmag_size (wint n1 S * wint n3 S3) 80 (abs_mul (k := 40) (l := 40) (NV.self n1 S 40 hS).abs NC.abs); clear hbn d0 d1 d2 d3 d4 d5 d6 d7; obtain ⟨d0, d1, d2, d3, d4, d5, d6, d7⟩ := hD.cells; (try simp only [World.drew] at hX); (try (have e0 := hX.cell 0 rfl; have f0 := hX.frozen 0; have e1 := hX.cell 1 rfl; have f1 := hX.frozen 1; have e2 := hX.cell 2 rfl; have f2 := hX.frozen 2; have e3 := hX.cell 3 rfl; have f3 := hX.frozen 3; have e4 := hX.cell 4 rfl; have f4 := hX.frozen 4; have e5 := hX.cell 5 rfl; have f5 := hX.frozen 5; have e6 := hX.cell 6 rfl; have f6 := hX.frozen 6; have e7 := hX.cell 7 rfl; have f7 := hX.frozen 7)))
        | (go_at_call 13; (first | (with_reducible refine ((H2.out.below hD.bel).call n2).mono ?_) | (with_reducible refine ((H2.out.below hD.drew.bel).call n2).mono ?_) | (with_reducible refine ((H2.out.below (hD.alloc zbox).bel).call n2).mono ?_) | (with_reducible refine ((H2.out.below (hD.drew.alloc zbox).bel).call n2).mono ?_) | (with_reducible refine ((H2.out.below (hD.alloc zbox).drew.bel).call n2).mono ?_)); rintro e w12 ⟨S, hS, rfl, hbn⟩; (first | (replace hD := hD.step hbn; (try (replace hX := hX.below hbn hX.lt))) | (replace hD := hD.drew.step hbn) | (have hx0 := hD.bel.size; replace hD := (hD.alloc zbox).step hbn; have hX := (Ab.new _ _).below hbn (Ab.new _ _).lt) | (have hx0 := hD.bel.size; have hX := Ab.below (show Ab (World.drew (World.alloc W7 zbox)) W7.heap.size #[.bool false, .string ⟨#[]⟩, .bool false, .string ⟨#[]⟩, .bool false, .string ⟨#[]⟩, .bool false, .string ⟨#[]⟩] from Ab.new W7 _) hbn (Ab.new W7 _).lt; replace hD := (hD.alloc zbox).drew.step hbn) | (have hx0 := hD.bel.size; replace hD := (hD.drew.alloc zbox).step hbn; have hX := (Ab.new _ _).below hbn (Ab.new _ _).lt)); have HM := Lib.hid (fun W => mul_to (NV.self n2 S 40 hS) NC (Nat.le_of_ble_eq_true rfl) (Nat.le_of_ble_eq_true rfl) (wint n2 S * wint n3 S3) rfl W); have hP := wmag_size (wint n2 S * wint n3 S3) 80 (abs_mul (k := 40) (l := 40) (NV.self n2 S 40 hS).abs NC.abs); clear hbn d0 d1 d2 d3 d4 d5 d6 d7; obtain ⟨d0, d1, d2, d3, d4, d5, d6, d7⟩ := hD.cells; (try simp only [World.drew] at hX); (try (have e0 := hX.cell 0 rfl; have f0 := hX.frozen 0; have e1 := hX.cell 1 rfl; have f1 := hX.frozen 1; have e2 := hX.cell 2 rfl; have f2 := hX.frozen 2; have e3 := hX.cell 3 rfl; have f3 := hX.frozen 3; have e4 := hX.cell 4 rfl; have f4 := hX.frozen 4; have e5 := hX.cell 5 rfl; have f5 := hX.frozen 5; have e6 := hX.cell 6 rfl; have f6 := hX.frozen 6; have e7 := hX.cell 7 rfl; have f7 := hX.frozen 7)))
        | (go_at_call 24; (with_reducible refine (HM.out _).mono ?_); rintro e w13 ⟨rfl, hbn⟩; clear HM; (first | (replace hD := hD.step hbn; (try (replace hX := hX.below hbn hX.lt))) | (replace hD := hD.drew.step hbn) | (have hx0 := hD.bel.size; replace hD := (hD.alloc zbox).step hbn; have hX := (Ab.new _ _).below hbn (Ab.new _ _).lt) | (have hx0 := hD.bel.size; have hX := Ab.below (show Ab (World.drew (World.alloc W7 zbox)) W7.heap.size #[.bool false, .string ⟨#[]⟩, .bool false, .string ⟨#[]⟩, .bool false, .string ⟨#[]⟩, .bool false, .string ⟨#[]⟩] from Ab.new W7 _) hbn (Ab.new W7 _).lt; replace hD := (hD.alloc zbox).drew.step hbn) | (have hx0 := hD.bel.size; replace hD := (hD.drew.alloc zbox).step hbn; have hX := (Ab.new _ _).below hbn (Ab.new _ _).lt)); clear hbn d0 d1 d2 d3 d4 d5 d6 d7; obtain ⟨d0, d1, d2, d3, d4, d5, d6, d7⟩ := hD.cells; (try simp only [World.drew] at hX); (try (have e0 := hX.cell 0 rfl; have f0 := hX.frozen 0; have e1 := hX.cell 1 rfl; have f1 := hX.frozen 1; have e2 := hX.cell 2 rfl; have f2 := hX.frozen 2; have e3 := hX.cell 3 rfl; have f3 := hX.frozen 3; have e4 := hX.cell 4 rfl; have f4 := hX.frozen 4; have e5 := hX.cell 5 rfl; have f5 := hX.frozen 5; have e6 := hX.cell 6 rfl; have f6 := hX.frozen 6; have e7 := hX.cell 7 rfl; have f7 := hX.frozen 7))))
    all_goals
      go_wp2_with fail
      go_meet
    all_goals
      case rel =>
        first
          | exact ⟨_, _, _, _, _, _, _, _, _, rfl, hX.set8 _ _ _ _ _ _ _ _, by omega, by omega, by omega, by omega, (hD.set8 hX hx0 _ _ _ _ _ _ _ _).bel⟩
          | exact ⟨_, _, _, _, _, _, _, _, _, rfl, Ab.new _ _, by omega, by omega, by omega, by omega, hD.bel.alloc hD.bel.size _⟩
  case rest =>
    obtain ⟨b9, x1, y1, x2, y2, s1, t1, s2, t2, rfl, hA, g1, g2, g3, g4, hB⟩ := hcut
    clear hD d0 d1 d2 d3 d4 d5 d6 d7 H1 H2 NC hS3 hB3 hs3
    go_wp2_with fail
    go_loopw [10, 11, 12, 13, 14, 15, 16, 17, 18, 19, 20, 21, 22, 23, 24] (fun si _ _ _ _ _ _ _ _ _ _ _ _ _ _ wr => ∃ k : Nat, si = .int .i64 k ∧ k ≤ 2 ∧ Ab wr b9 (abx x1 y1 x2 y2 s1 t1 s2 t2) ∧ Below w.heap.size w wr)
      (fun si _ _ _ _ _ _ _ _ _ _ _ _ _ _ _ => 2 - (intOf si).toNat)
    case atStart => exact ⟨0, rfl, by omega, hA, hB⟩
    case round =>
      clear hA hB
      obtain ⟨k, rfl, hk, hA, hB⟩ := hrel
      have hk3 : k = 0 ∨ k = 1 ∨ k = 2 := by omega
      have HA := Lib.hid hA
      have HB := Lib.hid hB
      rcases hk3 with rfl | rfl | rfl
      · have hA1 := hA.below ((Below.refl _ _).alloc (Nat.le_refl _) (wbox x1 s1)) hA.lt
        have c0 := hA.cell 0 rfl
        have c1 := hA.cell 1 rfl
        have c2 := hA1.cell 2 rfl
        have c3 := hA1.cell 3 rfl
        clear hA hB hA1
        have NA : NV x1 s1 (wint x1 s1) 80 := ⟨rfl, g1⟩
        have NB : NV y1 t1 (wint y1 t1) 80 := ⟨rfl, g2⟩
        have P1 := Lib.hid (fun W => Gcd_any x1 y1 s1 t1 W g1 g2 (wint x1 s1) (wint y1 t1) rfl rfl)
        have P2 := Lib.hid (fun W => RGcd_all x1 y1 s1 t1 W g1 g2 (wint x1 s1) (wint y1 t1) rfl rfl)
        have hf := gcd_facts (wint x1 s1) (wint y1 t1) NA.abs NB.abs
        generalize (gcdS (wint x1 s1) (wint y1 t1)).1 = g at *
        generalize (gcdS (wint x1 s1) (wint y1 t1)).2.1 = u at *
        generalize (gcdS (wint x1 s1) (wint y1 t1)).2.2 = v at *
        obtain ⟨f1, f2, f3, f4, f5, f6, f7⟩ := hf
        have NG := NV.of g 80 f5
        have NU := NV.of u 80 f6
        have NW := NV.of v 161 f7
        have P3 := Lib.hid (fun W => quo_rest0 NA NG f2 W)
        have P4 := Lib.hid (fun W => quo_rest0 NB NG f3 W)
        have P5 := Lib.hid (fun W => sign_to NG (by omega) g.sign rfl W)
        have P6 := Lib.hid (fun W => mul_to NU NA (by omega) (by omega) (u * wint x1 s1) rfl W)
        have P7 := Lib.hid (fun W => mul_to NW NB (by omega) (by omega) (v * wint y1 t1) rfl W)
        have NP := NV.of (u * wint x1 s1) 160 (abs_mul (k := 80) (l := 80) f6 NA.abs)
        have NQ := NV.of (v * wint y1 t1) 241 (abs_mul (k := 161) (l := 80) f7 NB.abs)
        have P8 := Lib.hid (fun W => add_to NP NQ (by omega) (by omega) g f4 W)
        have hgs : decide (g.sign < 0) = false := by
          rw [decide_eq_false_iff_not]
          rcases sign_cases g with h | h | h <;> omega
        have E1 := eq_same (wneg g) (wmag g)
        have E2 := eq_same (wneg u) (wmag u)
        have E3 := eq_same (wneg v) (wmag v)
        have E4 := eq_same false ⟨#[]⟩
        clear NA NB NG NU NW NP NQ f1 f2 f3 f4 f5 f6 f7
        generalize wneg (u * wint x1 s1) = xp at *
        generalize wmag (u * wint x1 s1) = sp at *
        generalize wneg (v * wint y1 t1) = xq at *
        generalize wmag (v * wint y1 t1) = sq at *
        generalize g.sign = gs at *
        generalize wneg g = xg at *
        generalize wmag g = sg at *
        generalize wneg u = xu at *
        generalize wmag u = su at *
        generalize wneg v = xv at *
        generalize wmag v = sv at *
        clear g u v
        have X2 := Lib.hid (((Bxs.none_ wr).more x1 s1).more y1 t1)
        have e1 : ([] ++ [(wr.heap.size, x1, s1)] ++ [((wr.alloc (wbox x1 s1)).heap.size, y1, t1)] : List (Nat × Bool × ByteArray)) = [(wr.heap.size, x1, s1), (wr.heap.size + 1, y1, t1)] := by simp
        rw [e1] at X2
        clear e1
        go_wp2_with fail
        with_reducible refine (P1.out _).mono ?_
        rintro e w10 ⟨rfl, hb10⟩
        have X3 := Lib.hid ((X2.out.step hb10).more3 xg xu xv sg su sv)
        clear c0 c1 c2 c3 hb10 X2
        have d0 := (X3.out.at_ 0 rfl).cell0
        have d1 := (X3.out.at_ 0 rfl).cell1
        have d2 := (X3.out.at_ 1 rfl).cell0
        have d3 := (X3.out.at_ 1 rfl).cell1
        go_wp2_with fail
        with_reducible refine (P2.out _).mono ?_
        rintro e w11 ⟨rfl, hb11⟩
        have X4 := Lib.hid ((X3.out.step hb11).more3 xg xu xv sg su sv)
        clear d0 d1 d2 d3 hb11 X3
        have d0 := (X4.out.at_ 0 rfl).cell0
        have d1 := (X4.out.at_ 0 rfl).cell1
        have d2 := (X4.out.at_ 2 rfl).cell0
        have d3 := (X4.out.at_ 2 rfl).cell1
        go_wp2_with fail
        with_reducible refine (P3.out _).mono ?_
        rintro e w12 ⟨xa, sa, oa, rfl, hb12⟩
        have X5 := Lib.hid ((X4.out.step hb12).more2 xa false sa ⟨#[]⟩)
        clear d0 d1 d2 d3 hb12 X4
        have d0 := (X5.out.at_ 1 rfl).cell0
        have d1 := (X5.out.at_ 1 rfl).cell1
        have d2 := (X5.out.at_ 2 rfl).cell0
        have d3 := (X5.out.at_ 2 rfl).cell1
        go_wp2_with fail
        with_reducible refine (P4.out _).mono ?_
        rintro e w13 ⟨xb, sb, ob, rfl, hb13⟩
        have X6 := Lib.hid ((X5.out.step hb13).more2 xb false sb ⟨#[]⟩)
        clear d0 d1 d2 d3 hb13 X5
        go_wp2_with fail
        generalize hW : (w13.alloc (wbox xb sb)).alloc (wbox false ⟨#[]⟩) = W14 at *
        have hB : Bxs wr W14 [(wr.heap.size, x1, s1), (wr.heap.size + 1, y1, t1), (w10.heap.size, xg, sg), (w10.heap.size + 1, xu, su), (w10.heap.size + 1 + 1, xv, sv), (w11.heap.size, xg, sg), (w11.heap.size + 1, xu, su), (w11.heap.size + 1 + 1, xv, sv), (w12.heap.size, xa, sa), (w12.heap.size + 1, false, ⟨#[]⟩), (w13.heap.size, xb, sb), (w13.heap.size + 1, false, ⟨#[]⟩)] := X6.out
        clear hW X6
        generalize w10.heap.size + 1 + 1 = k15 at *
        generalize w10.heap.size + 1 = k14 at *
        generalize w10.heap.size = k13 at *
        generalize w11.heap.size + 1 + 1 = k18 at *
        generalize w11.heap.size + 1 = k17 at *
        generalize w11.heap.size = k16 at *
        generalize w12.heap.size + 1 = k20 at *
        generalize w13.heap.size + 1 = k23 at *
        have d0 := (hB.at_ 0 rfl).cell0
        have d1 := (hB.at_ 0 rfl).cell1
        have d2 := (hB.at_ 1 rfl).cell0
        have d3 := (hB.at_ 1 rfl).cell1
        have d4 := (hB.at_ 2 rfl).cell0
        have d5 := (hB.at_ 2 rfl).cell1
        have d6 := (hB.at_ 3 rfl).cell0
        have d7 := (hB.at_ 3 rfl).cell1
        have d8 := (hB.at_ 4 rfl).cell0
        have d9 := (hB.at_ 4 rfl).cell1
        have d10 := (hB.at_ 5 rfl).cell0
        have d11 := (hB.at_ 5 rfl).cell1
        have d12 := (hB.at_ 6 rfl).cell0
        have d13 := (hB.at_ 6 rfl).cell1
        have d14 := (hB.at_ 7 rfl).cell0
        have d15 := (hB.at_ 7 rfl).cell1
        have d16 := (hB.at_ 9 rfl).cell0
        have d17 := (hB.at_ 9 rfl).cell1
        have d18 := (hB.at_ 11 rfl).cell0
        have d19 := (hB.at_ 11 rfl).cell1
        go_region_held3 (fun w' => w'.cell? ⟨wr.heap.size, 0, none⟩ = some (.bool x1) ∧ w'.cell? ⟨wr.heap.size, 1, none⟩ = some (.string s1) ∧ w'.cell? ⟨wr.heap.size + 1, 0, none⟩ = some (.bool y1) ∧ w'.cell? ⟨wr.heap.size + 1, 1, none⟩ = some (.string t1) ∧ w'.cell? ⟨k13, 0, none⟩ = some (.bool xg) ∧ w'.cell? ⟨k13, 1, none⟩ = some (.string sg) ∧ w'.cell? ⟨k14, 0, none⟩ = some (.bool xu) ∧ w'.cell? ⟨k14, 1, none⟩ = some (.string su) ∧ w'.cell? ⟨k15, 0, none⟩ = some (.bool xv) ∧ w'.cell? ⟨k15, 1, none⟩ = some (.string sv) ∧ w'.cell? ⟨k16, 0, none⟩ = some (.bool xg) ∧ w'.cell? ⟨k16, 1, none⟩ = some (.string sg) ∧ w'.cell? ⟨k17, 0, none⟩ = some (.bool xu) ∧ w'.cell? ⟨k17, 1, none⟩ = some (.string su) ∧ w'.cell? ⟨k18, 0, none⟩ = some (.bool xv) ∧ w'.cell? ⟨k18, 1, none⟩ = some (.string sv) ∧ w'.cell? ⟨k20, 0, none⟩ = some (.bool false) ∧ w'.cell? ⟨k20, 1, none⟩ = some (.string ⟨#[]⟩) ∧ w'.cell? ⟨k23, 0, none⟩ = some (.bool false) ∧ w'.cell? ⟨k23, 1, none⟩ = some (.string ⟨#[]⟩)) (go_keep)
          (first
            | (go_at_call 20; (with_reducible refine (P5.out _).mono ?_); rintro e w15 ⟨rfl, hbn⟩; (first | replace hB := hB.step hbn | replace hB := hB.drew.step hbn); clear hbn d0 d1 d2 d3 d4 d5 d6 d7 d8 d9 d10 d11 d12 d13 d14 d15 d16 d17 d18 d19; have d0 := (hB.at_ 0 rfl).cell0; have d1 := (hB.at_ 0 rfl).cell1; have d2 := (hB.at_ 1 rfl).cell0; have d3 := (hB.at_ 1 rfl).cell1; have d4 := (hB.at_ 2 rfl).cell0; have d5 := (hB.at_ 2 rfl).cell1; have d6 := (hB.at_ 3 rfl).cell0; have d7 := (hB.at_ 3 rfl).cell1; have d8 := (hB.at_ 4 rfl).cell0; have d9 := (hB.at_ 4 rfl).cell1; have d10 := (hB.at_ 5 rfl).cell0; have d11 := (hB.at_ 5 rfl).cell1; have d12 := (hB.at_ 6 rfl).cell0; have d13 := (hB.at_ 6 rfl).cell1; have d14 := (hB.at_ 7 rfl).cell0; have d15 := (hB.at_ 7 rfl).cell1; have d16 := (hB.at_ 9 rfl).cell0; have d17 := (hB.at_ 9 rfl).cell1; have d18 := (hB.at_ 11 rfl).cell0; have d19 := (hB.at_ 11 rfl).cell1)
            | (go_at_call 24; (first | (with_reducible refine (P6.out _).mono ?_) | (with_reducible refine (P7.out _).mono ?_)); rintro e w15 ⟨rfl, hbn⟩; (first | replace hB := hB.step hbn | replace hB := hB.drew.step hbn); clear hbn d0 d1 d2 d3 d4 d5 d6 d7 d8 d9 d10 d11 d12 d13 d14 d15 d16 d17 d18 d19; have d0 := (hB.at_ 0 rfl).cell0; have d1 := (hB.at_ 0 rfl).cell1; have d2 := (hB.at_ 1 rfl).cell0; have d3 := (hB.at_ 1 rfl).cell1; have d4 := (hB.at_ 2 rfl).cell0; have d5 := (hB.at_ 2 rfl).cell1; have d6 := (hB.at_ 3 rfl).cell0; have d7 := (hB.at_ 3 rfl).cell1; have d8 := (hB.at_ 4 rfl).cell0; have d9 := (hB.at_ 4 rfl).cell1; have d10 := (hB.at_ 5 rfl).cell0; have d11 := (hB.at_ 5 rfl).cell1; have d12 := (hB.at_ 6 rfl).cell0; have d13 := (hB.at_ 6 rfl).cell1; have d14 := (hB.at_ 7 rfl).cell0; have d15 := (hB.at_ 7 rfl).cell1; have d16 := (hB.at_ 9 rfl).cell0; have d17 := (hB.at_ 9 rfl).cell1; have d18 := (hB.at_ 11 rfl).cell0; have d19 := (hB.at_ 11 rfl).cell1)
            | (go_at_call 14; (with_reducible refine (P8.out _).mono ?_); rintro e w15 ⟨rfl, hbn⟩; (first | replace hB := hB.step hbn | replace hB := hB.drew.step hbn); clear hbn d0 d1 d2 d3 d4 d5 d6 d7 d8 d9 d10 d11 d12 d13 d14 d15 d16 d17 d18 d19; have d0 := (hB.at_ 0 rfl).cell0; have d1 := (hB.at_ 0 rfl).cell1; have d2 := (hB.at_ 1 rfl).cell0; have d3 := (hB.at_ 1 rfl).cell1; have d4 := (hB.at_ 2 rfl).cell0; have d5 := (hB.at_ 2 rfl).cell1; have d6 := (hB.at_ 3 rfl).cell0; have d7 := (hB.at_ 3 rfl).cell1; have d8 := (hB.at_ 4 rfl).cell0; have d9 := (hB.at_ 4 rfl).cell1; have d10 := (hB.at_ 5 rfl).cell0; have d11 := (hB.at_ 5 rfl).cell1; have d12 := (hB.at_ 6 rfl).cell0; have d13 := (hB.at_ 6 rfl).cell1; have d14 := (hB.at_ 7 rfl).cell0; have d15 := (hB.at_ 7 rfl).cell1; have d16 := (hB.at_ 9 rfl).cell0; have d17 := (hB.at_ 9 rfl).cell1; have d18 := (hB.at_ 11 rfl).cell0; have d19 := (hB.at_ 11 rfl).cell1))
        go_wp2
        go_roundw
        case rel => exact ⟨1, rfl, by omega, HA.out.below hB.1 HA.out.lt, HB.out.trans (hB.1.mono HB.out.size)⟩
        case measure => simp [intOf]
      · have hA1 := hA.below ((Below.refl _ _).alloc (Nat.le_refl _) (wbox x2 s2)) hA.lt
        have c0 := hA.cell 4 rfl
        have c1 := hA.cell 5 rfl
        have c2 := hA1.cell 6 rfl
        have c3 := hA1.cell 7 rfl
        clear hA hB hA1
        have NA : NV x2 s2 (wint x2 s2) 80 := ⟨rfl, g3⟩
        have NB : NV y2 t2 (wint y2 t2) 80 := ⟨rfl, g4⟩
        have P1 := Lib.hid (fun W => Gcd_any x2 y2 s2 t2 W g3 g4 (wint x2 s2) (wint y2 t2) rfl rfl)
        have P2 := Lib.hid (fun W => RGcd_all x2 y2 s2 t2 W g3 g4 (wint x2 s2) (wint y2 t2) rfl rfl)
        have hf := gcd_facts (wint x2 s2) (wint y2 t2) NA.abs NB.abs
        generalize (gcdS (wint x2 s2) (wint y2 t2)).1 = g at *
        generalize (gcdS (wint x2 s2) (wint y2 t2)).2.1 = u at *
        generalize (gcdS (wint x2 s2) (wint y2 t2)).2.2 = v at *
        obtain ⟨f1, f2, f3, f4, f5, f6, f7⟩ := hf
        have NG := NV.of g 80 f5
        have NU := NV.of u 80 f6
        have NW := NV.of v 161 f7
        have P3 := Lib.hid (fun W => quo_rest0 NA NG f2 W)
        have P4 := Lib.hid (fun W => quo_rest0 NB NG f3 W)
        have P5 := Lib.hid (fun W => sign_to NG (by omega) g.sign rfl W)
        have P6 := Lib.hid (fun W => mul_to NU NA (by omega) (by omega) (u * wint x2 s2) rfl W)
        have P7 := Lib.hid (fun W => mul_to NW NB (by omega) (by omega) (v * wint y2 t2) rfl W)
        have NP := NV.of (u * wint x2 s2) 160 (abs_mul (k := 80) (l := 80) f6 NA.abs)
        have NQ := NV.of (v * wint y2 t2) 241 (abs_mul (k := 161) (l := 80) f7 NB.abs)
        have P8 := Lib.hid (fun W => add_to NP NQ (by omega) (by omega) g f4 W)
        have hgs : decide (g.sign < 0) = false := by
          rw [decide_eq_false_iff_not]
          rcases sign_cases g with h | h | h <;> omega
        have E1 := eq_same (wneg g) (wmag g)
        have E2 := eq_same (wneg u) (wmag u)
        have E3 := eq_same (wneg v) (wmag v)
        have E4 := eq_same false ⟨#[]⟩
        clear NA NB NG NU NW NP NQ f1 f2 f3 f4 f5 f6 f7
        generalize wneg (u * wint x2 s2) = xp at *
        generalize wmag (u * wint x2 s2) = sp at *
        generalize wneg (v * wint y2 t2) = xq at *
        generalize wmag (v * wint y2 t2) = sq at *
        generalize g.sign = gs at *
        generalize wneg g = xg at *
        generalize wmag g = sg at *
        generalize wneg u = xu at *
        generalize wmag u = su at *
        generalize wneg v = xv at *
        generalize wmag v = sv at *
        clear g u v
        have X2 := Lib.hid (((Bxs.none_ wr).more x2 s2).more y2 t2)
        have e1 : ([] ++ [(wr.heap.size, x2, s2)] ++ [((wr.alloc (wbox x2 s2)).heap.size, y2, t2)] : List (Nat × Bool × ByteArray)) = [(wr.heap.size, x2, s2), (wr.heap.size + 1, y2, t2)] := by simp
        rw [e1] at X2
        clear e1
        go_wp2_with fail
        with_reducible refine (P1.out _).mono ?_
        rintro e w10 ⟨rfl, hb10⟩
        have X3 := Lib.hid ((X2.out.step hb10).more3 xg xu xv sg su sv)
        clear c0 c1 c2 c3 hb10 X2
        have d0 := (X3.out.at_ 0 rfl).cell0
        have d1 := (X3.out.at_ 0 rfl).cell1
        have d2 := (X3.out.at_ 1 rfl).cell0
        have d3 := (X3.out.at_ 1 rfl).cell1
        go_wp2_with fail
        with_reducible refine (P2.out _).mono ?_
        rintro e w11 ⟨rfl, hb11⟩
        have X4 := Lib.hid ((X3.out.step hb11).more3 xg xu xv sg su sv)
        clear d0 d1 d2 d3 hb11 X3
        have d0 := (X4.out.at_ 0 rfl).cell0
        have d1 := (X4.out.at_ 0 rfl).cell1
        have d2 := (X4.out.at_ 2 rfl).cell0
        have d3 := (X4.out.at_ 2 rfl).cell1
        go_wp2_with fail
        with_reducible refine (P3.out _).mono ?_
        rintro e w12 ⟨xa, sa, oa, rfl, hb12⟩
        have X5 := Lib.hid ((X4.out.step hb12).more2 xa false sa ⟨#[]⟩)
        clear d0 d1 d2 d3 hb12 X4
        have d0 := (X5.out.at_ 1 rfl).cell0
        have d1 := (X5.out.at_ 1 rfl).cell1
        have d2 := (X5.out.at_ 2 rfl).cell0
        have d3 := (X5.out.at_ 2 rfl).cell1
        go_wp2_with fail
        with_reducible refine (P4.out _).mono ?_
        rintro e w13 ⟨xb, sb, ob, rfl, hb13⟩
        have X6 := Lib.hid ((X5.out.step hb13).more2 xb false sb ⟨#[]⟩)
        clear d0 d1 d2 d3 hb13 X5
        go_wp2_with fail
        generalize hW : (w13.alloc (wbox xb sb)).alloc (wbox false ⟨#[]⟩) = W14 at *
        have hB : Bxs wr W14 [(wr.heap.size, x2, s2), (wr.heap.size + 1, y2, t2), (w10.heap.size, xg, sg), (w10.heap.size + 1, xu, su), (w10.heap.size + 1 + 1, xv, sv), (w11.heap.size, xg, sg), (w11.heap.size + 1, xu, su), (w11.heap.size + 1 + 1, xv, sv), (w12.heap.size, xa, sa), (w12.heap.size + 1, false, ⟨#[]⟩), (w13.heap.size, xb, sb), (w13.heap.size + 1, false, ⟨#[]⟩)] := X6.out
        clear hW X6
        generalize w10.heap.size + 1 + 1 = k15 at *
        generalize w10.heap.size + 1 = k14 at *
        generalize w10.heap.size = k13 at *
        generalize w11.heap.size + 1 + 1 = k18 at *
        generalize w11.heap.size + 1 = k17 at *
        generalize w11.heap.size = k16 at *
        generalize w12.heap.size + 1 = k20 at *
        generalize w13.heap.size + 1 = k23 at *
        have d0 := (hB.at_ 0 rfl).cell0
        have d1 := (hB.at_ 0 rfl).cell1
        have d2 := (hB.at_ 1 rfl).cell0
        have d3 := (hB.at_ 1 rfl).cell1
        have d4 := (hB.at_ 2 rfl).cell0
        have d5 := (hB.at_ 2 rfl).cell1
        have d6 := (hB.at_ 3 rfl).cell0
        have d7 := (hB.at_ 3 rfl).cell1
        have d8 := (hB.at_ 4 rfl).cell0
        have d9 := (hB.at_ 4 rfl).cell1
        have d10 := (hB.at_ 5 rfl).cell0
        have d11 := (hB.at_ 5 rfl).cell1
        have d12 := (hB.at_ 6 rfl).cell0
        have d13 := (hB.at_ 6 rfl).cell1
        have d14 := (hB.at_ 7 rfl).cell0
        have d15 := (hB.at_ 7 rfl).cell1
        have d16 := (hB.at_ 9 rfl).cell0
        have d17 := (hB.at_ 9 rfl).cell1
        have d18 := (hB.at_ 11 rfl).cell0
        have d19 := (hB.at_ 11 rfl).cell1
        go_region_held3 (fun w' => w'.cell? ⟨wr.heap.size, 0, none⟩ = some (.bool x2) ∧ w'.cell? ⟨wr.heap.size, 1, none⟩ = some (.string s2) ∧ w'.cell? ⟨wr.heap.size + 1, 0, none⟩ = some (.bool y2) ∧ w'.cell? ⟨wr.heap.size + 1, 1, none⟩ = some (.string t2) ∧ w'.cell? ⟨k13, 0, none⟩ = some (.bool xg) ∧ w'.cell? ⟨k13, 1, none⟩ = some (.string sg) ∧ w'.cell? ⟨k14, 0, none⟩ = some (.bool xu) ∧ w'.cell? ⟨k14, 1, none⟩ = some (.string su) ∧ w'.cell? ⟨k15, 0, none⟩ = some (.bool xv) ∧ w'.cell? ⟨k15, 1, none⟩ = some (.string sv) ∧ w'.cell? ⟨k16, 0, none⟩ = some (.bool xg) ∧ w'.cell? ⟨k16, 1, none⟩ = some (.string sg) ∧ w'.cell? ⟨k17, 0, none⟩ = some (.bool xu) ∧ w'.cell? ⟨k17, 1, none⟩ = some (.string su) ∧ w'.cell? ⟨k18, 0, none⟩ = some (.bool xv) ∧ w'.cell? ⟨k18, 1, none⟩ = some (.string sv) ∧ w'.cell? ⟨k20, 0, none⟩ = some (.bool false) ∧ w'.cell? ⟨k20, 1, none⟩ = some (.string ⟨#[]⟩) ∧ w'.cell? ⟨k23, 0, none⟩ = some (.bool false) ∧ w'.cell? ⟨k23, 1, none⟩ = some (.string ⟨#[]⟩)) (go_keep)
          (first
            | (go_at_call 20; (with_reducible refine (P5.out _).mono ?_); rintro e w15 ⟨rfl, hbn⟩; (first | replace hB := hB.step hbn | replace hB := hB.drew.step hbn); clear hbn d0 d1 d2 d3 d4 d5 d6 d7 d8 d9 d10 d11 d12 d13 d14 d15 d16 d17 d18 d19; have d0 := (hB.at_ 0 rfl).cell0; have d1 := (hB.at_ 0 rfl).cell1; have d2 := (hB.at_ 1 rfl).cell0; have d3 := (hB.at_ 1 rfl).cell1; have d4 := (hB.at_ 2 rfl).cell0; have d5 := (hB.at_ 2 rfl).cell1; have d6 := (hB.at_ 3 rfl).cell0; have d7 := (hB.at_ 3 rfl).cell1; have d8 := (hB.at_ 4 rfl).cell0; have d9 := (hB.at_ 4 rfl).cell1; have d10 := (hB.at_ 5 rfl).cell0; have d11 := (hB.at_ 5 rfl).cell1; have d12 := (hB.at_ 6 rfl).cell0; have d13 := (hB.at_ 6 rfl).cell1; have d14 := (hB.at_ 7 rfl).cell0; have d15 := (hB.at_ 7 rfl).cell1; have d16 := (hB.at_ 9 rfl).cell0; have d17 := (hB.at_ 9 rfl).cell1; have d18 := (hB.at_ 11 rfl).cell0; have d19 := (hB.at_ 11 rfl).cell1)
            | (go_at_call 24; (first | (with_reducible refine (P6.out _).mono ?_) | (with_reducible refine (P7.out _).mono ?_)); rintro e w15 ⟨rfl, hbn⟩; (first | replace hB := hB.step hbn | replace hB := hB.drew.step hbn); clear hbn d0 d1 d2 d3 d4 d5 d6 d7 d8 d9 d10 d11 d12 d13 d14 d15 d16 d17 d18 d19; have d0 := (hB.at_ 0 rfl).cell0; have d1 := (hB.at_ 0 rfl).cell1; have d2 := (hB.at_ 1 rfl).cell0; have d3 := (hB.at_ 1 rfl).cell1; have d4 := (hB.at_ 2 rfl).cell0; have d5 := (hB.at_ 2 rfl).cell1; have d6 := (hB.at_ 3 rfl).cell0; have d7 := (hB.at_ 3 rfl).cell1; have d8 := (hB.at_ 4 rfl).cell0; have d9 := (hB.at_ 4 rfl).cell1; have d10 := (hB.at_ 5 rfl).cell0; have d11 := (hB.at_ 5 rfl).cell1; have d12 := (hB.at_ 6 rfl).cell0; have d13 := (hB.at_ 6 rfl).cell1; have d14 := (hB.at_ 7 rfl).cell0; have d15 := (hB.at_ 7 rfl).cell1; have d16 := (hB.at_ 9 rfl).cell0; have d17 := (hB.at_ 9 rfl).cell1; have d18 := (hB.at_ 11 rfl).cell0; have d19 := (hB.at_ 11 rfl).cell1)
            | (go_at_call 14; (with_reducible refine (P8.out _).mono ?_); rintro e w15 ⟨rfl, hbn⟩; (first | replace hB := hB.step hbn | replace hB := hB.drew.step hbn); clear hbn d0 d1 d2 d3 d4 d5 d6 d7 d8 d9 d10 d11 d12 d13 d14 d15 d16 d17 d18 d19; have d0 := (hB.at_ 0 rfl).cell0; have d1 := (hB.at_ 0 rfl).cell1; have d2 := (hB.at_ 1 rfl).cell0; have d3 := (hB.at_ 1 rfl).cell1; have d4 := (hB.at_ 2 rfl).cell0; have d5 := (hB.at_ 2 rfl).cell1; have d6 := (hB.at_ 3 rfl).cell0; have d7 := (hB.at_ 3 rfl).cell1; have d8 := (hB.at_ 4 rfl).cell0; have d9 := (hB.at_ 4 rfl).cell1; have d10 := (hB.at_ 5 rfl).cell0; have d11 := (hB.at_ 5 rfl).cell1; have d12 := (hB.at_ 6 rfl).cell0; have d13 := (hB.at_ 6 rfl).cell1; have d14 := (hB.at_ 7 rfl).cell0; have d15 := (hB.at_ 7 rfl).cell1; have d16 := (hB.at_ 9 rfl).cell0; have d17 := (hB.at_ 9 rfl).cell1; have d18 := (hB.at_ 11 rfl).cell0; have d19 := (hB.at_ 11 rfl).cell1))
        go_wp2
        go_roundw
        case rel => exact ⟨2, rfl, by omega, HA.out.below hB.1 HA.out.lt, HB.out.trans (hB.1.mono HB.out.size)⟩
        case measure => simp [intOf]
      · clear hA hB
        go_wp2
        go_ret
        exact ⟨rfl, HB.out⟩
end Go.Proofs.YtgadnianjhaeiaaDoor
