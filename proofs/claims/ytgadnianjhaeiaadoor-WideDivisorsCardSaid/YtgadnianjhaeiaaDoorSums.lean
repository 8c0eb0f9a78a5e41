/-
  The contracts of the statements' WideSums and WideProducts: they return true, whatever two numbers come in.
-/
import Derived.Test.YtgadnianjhaeiaaDoorRules
import Derived.Test.YtgadnianjhaeiaaDoorRAdd
namespace Go.Proofs.YtgadnianjhaeiaaDoor
open Go.RowKit

/-- Two variables that hold these two numbers, in a world that is as the first one below its end. -/
structure Duo (w0 w : World) (b1 b2 : Nat) (x1 x2 : Bool) (s1 s2 : ByteArray) : Prop where
  d1 : Wd w b1 x1 s1
  d2 : Wd w b2 x2 s2
  bel : Below w0.heap.size w0 w
section
variable {w0 w w' : World} {b1 b2 : Nat} {x1 x2 : Bool} {s1 s2 : ByteArray}
theorem Duo.step (h : Duo w0 w b1 b2 x1 x2 s1 s2) (hb : Below w.heap.size w w') : Duo w0 w' b1 b2 x1 x2 s1 s2 :=
  ⟨h.d1.below hb h.d1.lt, h.d2.below hb h.d2.lt, h.bel.trans (hb.mono h.bel.size)⟩
theorem Duo.drew (h : Duo w0 w b1 b2 x1 x2 s1 s2) : Duo w0 w.drew b1 b2 x1 x2 s1 s2 := ⟨h.d1, h.d2, h.bel.drew⟩
theorem Duo.cells (h : Duo w0 w b1 b2 x1 x2 s1 s2) :
    w.cell? ⟨b1, 0, none⟩ = some (.bool x1) ∧ w.cell? ⟨b1, 1, none⟩ = some (.string s1) ∧ w.cell? ⟨b2, 0, none⟩ = some (.bool x2) ∧ w.cell? ⟨b2, 1, none⟩ = some (.string s2) :=
  ⟨h.d1.cell0, h.d1.cell1, h.d2.cell0, h.d2.cell1⟩
end
theorem cmp_to {x y : Bool} {s t : ByteArray} {a b : Int} {k l : Nat} (hx : NV x s a k) (hy : NV y t b l) (hk : k ≤ 1000) (hl : l ≤ 1000) (r : Int) (hr : (a - b).sign = r) (W : World) :
    Calls Tryd.prog 22 #[.agg #[.bool x, .string s], .agg #[.bool y, .string t]] W fun e w' => e = .returned (.int .i64 r) ∧ Below W.heap.size W w' := by
  obtain ⟨rfl, h1⟩ := hx
  obtain ⟨rfl, h2⟩ := hy
  have := Cmp_any x y s t W (by unfold maxLen; omega) (by unfold maxLen; omega)
  rw [hr] at this
  exact this
theorem sign_to {x : Bool} {s : ByteArray} {a : Int} {k : Nat} (hx : NV x s a k) (hk : k ≤ 1000) (r : Int) (hr : a.sign = r) (W : World) :
    Calls Tryd.prog 20 #[.agg #[.bool x, .string s]] W fun e w' => e = .returned (.int .i64 r) ∧ Below W.heap.size W w' := by
  obtain ⟨rfl, h1⟩ := hx
  have := Sign_any x s W (by unfold maxLen; omega)
  rw [hr] at this
  exact this
section
variable {x y : Bool} {s t : ByteArray} {a b : Int} {k l : Nat}
theorem radd_to (hx : NV x s a k) (hy : NV y t b l) (hk : k ≤ 300) (hl : l ≤ 300) (r : Int) (hr : a + b = r) (W : World) :
    Calls Tryd.prog 15 #[.agg #[.bool x, .string s], .agg #[.bool y, .string t]] W fun e w' => e = .returned (.agg #[.bool (wneg r), .string (wmag r)]) ∧ Below W.heap.size W w' := by
  obtain ⟨rfl, h1⟩ := hx
  obtain ⟨rfl, h2⟩ := hy
  exact RAdd_any x y s t W (by omega) (by omega) r hr
theorem rsub_to (hx : NV x s a k) (hy : NV y t b l) (hk : k ≤ 300) (hl : l ≤ 300) (r : Int) (hr : a - b = r) (W : World) :
    Calls Tryd.prog 17 #[.agg #[.bool x, .string s], .agg #[.bool y, .string t]] W fun e w' => e = .returned (.agg #[.bool (wneg r), .string (wmag r)]) ∧ Below W.heap.size W w' := by
  obtain ⟨rfl, h1⟩ := hx
  obtain ⟨rfl, h2⟩ := hy
  exact RSub_any x y s t W (by omega) (by omega) r hr
theorem rmul_to (hx : NV x s a k) (hy : NV y t b l) (hk : k ≤ 300) (hl : l ≤ 300) (r : Int) (hr : a * b = r) (W : World) :
    Calls Tryd.prog 25 #[.agg #[.bool x, .string s], .agg #[.bool y, .string t]] W fun e w' => e = .returned (.agg #[.bool (wneg r), .string (wmag r)]) ∧ Below W.heap.size W w' := by
  obtain ⟨rfl, h1⟩ := hx
  obtain ⟨rfl, h2⟩ := hy
  exact RMul_any x y s t W (by omega) (by omega) r hr
theorem rneg_to (hx : NV x s a k) (hk : k ≤ 300) (r : Int) (hr : -a = r) (W : World) :
    Calls Tryd.prog 19 #[.agg #[.bool x, .string s]] W fun e w' => e = .returned (.agg #[.bool (wneg r), .string (wmag r)]) ∧ Below W.heap.size W w' := by
  obtain ⟨rfl, h1⟩ := hx
  exact RNeg_any x s W (by omega) r hr
theorem rsign_to (hx : NV x s a k) (hk : k ≤ 300) (r : Int) (hr : a.sign = r) (W : World) :
    Calls Tryd.prog 21 #[.agg #[.bool x, .string s]] W fun e w' => e = .returned (.int .i64 r) ∧ Below W.heap.size W w' := by
  obtain ⟨rfl, h1⟩ := hx
  have := RSign_any x s W (by omega)
  rw [hr] at this
  exact this
theorem rcmp_to (hx : NV x s a k) (hy : NV y t b l) (hk : k ≤ 200) (hl : l ≤ 200) (r : Int) (hr : (a - b).sign = r) (W : World) :
    Calls Tryd.prog 23 #[.agg #[.bool x, .string s], .agg #[.bool y, .string t]] W fun e w' => e = .returned (.int .i64 r) ∧ Below W.heap.size W w' := by
  obtain ⟨rfl, h1⟩ := hx
  obtain ⟨rfl, h2⟩ := hy
  have := RCmp_any x y s t W (by omega) (by omega) _ rfl
  rw [hr] at this
  exact this
end
theorem cast_beq (z : Int) : (z == z) = true := by simp

set_option maxRecDepth 100000 in
set_option maxHeartbeats 4000000 in
theorem Sums_any (n1 n2 : Bool) (A1 A2 : Option Addr) (l1 l2 c1 c2 : Nat) (z1 z2 : Int) (w : World) (h1 : Nm w A1 l1 c1 z1) (h2 : Nm w A2 l2 c2 z2) :
    Calls Tryd.prog 3 #[.agg #[.bool n1, .slice A1 l1 c1, .int .i64 z1], .agg #[.bool n2, .slice A2 l2 c2, .int .i64 z2]] w
      fun e w' => e = .returned (.bool true) ∧ Below w.heap.size w w' := by
  obtain ⟨W3, hW3⟩ : ∃ W3, W3 = (w.alloc (.cells #[.bool n1, .slice A1 l1 c1, .int .i64 z1] 24)).alloc (.cells #[.bool n2, .slice A2 l2 c2, .int .i64 z2] 24) := ⟨_, rfl⟩
  have hB3 : Below w.heap.size w W3 := by
    rw [hW3]
    exact ((Below.refl _ _).alloc (Nat.le_refl _) _).alloc (by simp) _
  have q1 : Nb W3 w.heap.size n1 A1 l1 c1 z1 := by rw [hW3]; exact (Nb.new w _ _ _ _ _).alloc _
  have q2 : Nb W3 (w.heap.size + 1) n2 A2 l2 c2 z2 := by
    rw [hW3]
    have := Nb.new (w.alloc (.cells #[.bool n1, .slice A1 l1 c1, .int .i64 z1] 24)) n2 A2 l2 c2 z2
    simpa using this
  have HW3 := Lib.hid hW3
  clear hW3
  go_enter Tryd.func3, Tryd.ntmps3
  go_wp2_with fail
  rw [← HW3.out]
  refine (sanity_true _).mono ?_
  rintro e w4 ⟨rfl, hb4⟩
  have hB4 : Below w.heap.size w w4 := hB3.trans (hb4.mono hB3.size)
  have r1 := q1.below hb4 q1.lt
  have r2 := q2.below hb4 q2.lt
  have a0 := r1.cell0
  have a1 := r1.cell1
  have a2 := r1.cell2
  clear q1 q2 hb4
  go_wp2_with fail
  refine ((h1.below hB4).call n1).mono ?_
  rintro e w5 ⟨S1, hS1, rfl, hb5⟩
  have hB5 : Below w.heap.size w w5 := hB4.trans (hb5.mono hB4.size)
  clear a0 a1 a2
  have v2 := (r2.below hb5 r2.lt).alloc (wbox n1 S1)
  have m1 := Wd.new w5 n1 S1
  have a0 := v2.cell0
  have a1 := v2.cell1
  have a2 := v2.cell2
  clear r1 r2 hb5
  go_wp2_with fail
  generalize hW6 : w5.alloc (wbox n1 S1) = W6 at *
  have hB6 : Below w.heap.size w W6 := by rw [← hW6]; exact hB5.alloc hB5.size _
  clear hW6
  refine ((h2.below hB6).call n2).mono ?_
  rintro e w7 ⟨S2, hS2, rfl, hb7⟩
  have hB7 : Below w.heap.size w w7 := hB6.trans (hb7.mono hB6.size)
  have u1 := (m1.below hb7 m1.lt).alloc (wbox n2 S2)
  have m2 := Wd.new w7 n2 S2
  have hT : Duo w (w7.alloc (wbox n2 S2)) w5.heap.size w7.heap.size n1 n2 S1 S2 := ⟨u1, m2, hB7.alloc hB7.size _⟩
  clear a0 a1 a2 v2 m1 hb7 hB5 u1 m2 hB3 hB4 hB6 hB7 h1 h2 HW3
  go_wp2_with fail
  generalize hW8 : w7.alloc (wbox n2 S2) = W8 at *
  clear hW8
  have N1 := NV.self n1 S1 40 hS1
  have N2 := NV.self n2 S2 40 hS2
  generalize wint n1 S1 = a at *
  generalize wint n2 S2 = b at *
  have P1 := Lib.hid (fun W => add_to N1 N2 (by omega) (by omega) (a + b) rfl W)
  have P2 := Lib.hid (fun W => sub_to N1 N2 (by omega) (by omega) (a - b) rfl W)
  have P3 := Lib.hid (fun W => neg_to N1 (by omega) (-a) rfl W)
  have P4 := Lib.hid (fun W => sign_to N1 (by omega) a.sign rfl W)
  have P5 := Lib.hid (fun W => cmp_to N1 N2 (by omega) (by omega) (a - b).sign rfl W)
  have P6 := Lib.hid (fun W => cmp_to N1 N1 (by omega) (by omega) 0 (by rw [Int.sub_self]; rfl) W)
  have R1 := Lib.hid (fun W => radd_to N1 N2 (by omega) (by omega) (a + b) rfl W)
  have R2 := Lib.hid (fun W => rsub_to N1 N2 (by omega) (by omega) (a - b) rfl W)
  have R3 := Lib.hid (fun W => rneg_to N1 (by omega) (-a) rfl W)
  have R4 := Lib.hid (fun W => rsign_to N1 (by omega) a.sign rfl W)
  have R5 := Lib.hid (fun W => rcmp_to N1 N2 (by omega) (by omega) (a - b).sign rfl W)
  have E1 := eq_same (wneg (a + b)) (wmag (a + b))
  have E2 := eq_same (wneg (a - b)) (wmag (a - b))
  have E3 := eq_same (wneg (-a)) (wmag (-a))
  clear N1 N2 hS1 hS2
  generalize wneg (a + b) = xa at *
  generalize wmag (a + b) = sa at *
  generalize wneg (a - b) = xb at *
  generalize wmag (a - b) = sb at *
  generalize wneg (-a) = xc at *
  generalize wmag (-a) = sc at *
  generalize a.sign = za at *
  generalize (a - b).sign = zb at *
  have F1 := cast_beq za
  have F2 := cast_beq zb
  generalize w5.heap.size = b1 at *
  generalize w7.heap.size = b2 at *
  clear a b
  obtain ⟨d0, d1, d2, d3⟩ := hT.cells
  go_region_held3 (fun w' => w'.cell? ⟨b1, 0, none⟩ = some (.bool n1) ∧ w'.cell? ⟨b1, 1, none⟩ = some (.string S1) ∧ w'.cell? ⟨b2, 0, none⟩ = some (.bool n2) ∧ w'.cell? ⟨b2, 1, none⟩ = some (.string S2)) (go_keep)
    (first
      | (go_at_call 14; (with_reducible refine (P1.out _).mono ?_); (rintro e w11 ⟨rfl, hbn⟩; (first | replace hT := hT.step hbn | replace hT := hT.drew.step hbn); clear hbn d0 d1 d2 d3; obtain ⟨d0, d1, d2, d3⟩ := hT.cells))
      | (go_at_call 16; (with_reducible refine (P2.out _).mono ?_); (rintro e w11 ⟨rfl, hbn⟩; (first | replace hT := hT.step hbn | replace hT := hT.drew.step hbn); clear hbn d0 d1 d2 d3; obtain ⟨d0, d1, d2, d3⟩ := hT.cells))
      | (go_at_call 18; (with_reducible refine (P3.out _).mono ?_); (rintro e w11 ⟨rfl, hbn⟩; (first | replace hT := hT.step hbn | replace hT := hT.drew.step hbn); clear hbn d0 d1 d2 d3; obtain ⟨d0, d1, d2, d3⟩ := hT.cells))
      | (go_at_call 20; (with_reducible refine (P4.out _).mono ?_); (rintro e w11 ⟨rfl, hbn⟩; (first | replace hT := hT.step hbn | replace hT := hT.drew.step hbn); clear hbn d0 d1 d2 d3; obtain ⟨d0, d1, d2, d3⟩ := hT.cells))
      | (go_at_call 22; (first | (with_reducible refine (P5.out _).mono ?_) | (with_reducible refine (P6.out _).mono ?_)); (rintro e w11 ⟨rfl, hbn⟩; (first | replace hT := hT.step hbn | replace hT := hT.drew.step hbn); clear hbn d0 d1 d2 d3; obtain ⟨d0, d1, d2, d3⟩ := hT.cells))
      | (go_at_call 15; (with_reducible refine (R1.out _).mono ?_); (rintro e w11 ⟨rfl, hbn⟩; (first | replace hT := hT.step hbn | replace hT := hT.drew.step hbn); clear hbn d0 d1 d2 d3; obtain ⟨d0, d1, d2, d3⟩ := hT.cells))
      | (go_at_call 17; (with_reducible refine (R2.out _).mono ?_); (rintro e w11 ⟨rfl, hbn⟩; (first | replace hT := hT.step hbn | replace hT := hT.drew.step hbn); clear hbn d0 d1 d2 d3; obtain ⟨d0, d1, d2, d3⟩ := hT.cells))
      | (go_at_call 19; (with_reducible refine (R3.out _).mono ?_); (rintro e w11 ⟨rfl, hbn⟩; (first | replace hT := hT.step hbn | replace hT := hT.drew.step hbn); clear hbn d0 d1 d2 d3; obtain ⟨d0, d1, d2, d3⟩ := hT.cells))
      | (go_at_call 21; (with_reducible refine (R4.out _).mono ?_); (rintro e w11 ⟨rfl, hbn⟩; (first | replace hT := hT.step hbn | replace hT := hT.drew.step hbn); clear hbn d0 d1 d2 d3; obtain ⟨d0, d1, d2, d3⟩ := hT.cells))
      | (go_at_call 23; (with_reducible refine (R5.out _).mono ?_); (rintro e w11 ⟨rfl, hbn⟩; (first | replace hT := hT.step hbn | replace hT := hT.drew.step hbn); clear hbn d0 d1 d2 d3; obtain ⟨d0, d1, d2, d3⟩ := hT.cells)))
  go_wp2
  go_ret
  exact ⟨rfl, hT.bel⟩
end Go.Proofs.YtgadnianjhaeiaaDoor
