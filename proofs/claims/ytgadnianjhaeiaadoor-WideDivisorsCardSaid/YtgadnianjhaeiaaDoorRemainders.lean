/-
  The contract of the statements' WideRemainders: it returns true, whatever two numbers come in.
-/
import Derived.Test.YtgadnianjhaeiaaDoorSums
import Derived.Test.YtgadnianjhaeiaaDoorQuo
namespace Go.Proofs.YtgadnianjhaeiaaDoor
open Go.RowKit

set_option maxHeartbeats 1000000 in
theorem Quo_zero (x y : Bool) (s t : ByteArray) (w : World) (ht : t.size ≤ 4398046511104) (hb : wint y t = 0) :
    Calls Tryd.prog 27 #[.agg #[.bool x, .string s], .agg #[.bool y, .string t]] w fun e w' => e = .returned (.tuple #[.agg #[.bool false, .string ⟨#[]⟩], .agg #[.bool false, .string ⟨#[]⟩], .bool false]) ∧ Below w.heap.size w w' := by
  have hsi := fun W => Sign_any y t W (by unfold maxLen; omega)
  rw [hb, show (0 : Int).sign = 0 from rfl] at hsi
  have HSI := Lib.hid hsi
  clear hsi
  have HV := Lib.hid (Vars.start4 w x y false false s t ⟨#[]⟩ ⟨#[]⟩)
  go_enter Tryd.func27, Tryd.ntmps27
  go_wp2_with fail
  with_reducible refine (HSI.out _).mono ?_
  rintro e w1 ⟨rfl, hb1⟩
  have hV1 := HV.out.step hb1
  clear hb1
  have hz0 := (hV1.at_ 2 rfl).cell0
  have hz1 := (hV1.at_ 2 rfl).cell1
  have hzf0 := (hV1.at_ 2 rfl).frozen 0
  have hzf1 := (hV1.at_ 2 rfl).frozen 1
  have hz2 := (hV1.at_ 3 rfl).cell0
  have hz3 := (hV1.at_ 3 rfl).cell1
  have hzf2 := (hV1.at_ 3 rfl).frozen 0
  have hzf3 := (hV1.at_ 3 rfl).frozen 1
  have hV2 := (hV1.put 2 rfl false ⟨#[]⟩).put 3 rfl false ⟨#[]⟩
  go_wp2
  exact post_wide_wide_tmp (b := w.heap.size + 2) (c := w.heap.size + 3) rfl rfl rfl (hV2.at_ 2 rfl) (hV2.at_ 3 rfl) rfl ⟨rfl, hV2.1⟩
theorem quo_to {x y : Bool} {s t : ByteArray} {a b : Int} {k l : Nat} (hx : NV x s a k) (hy : NV y t b l) (hk : k ≤ 1000) (hl : l ≤ 1000) (hb : b ≠ 0) (q r : Int) (hq : a / b = q) (hr : a % b = r) (W : World) :
    Calls Tryd.prog 27 #[.agg #[.bool x, .string s], .agg #[.bool y, .string t]] W fun e w' => e = .returned (.tuple #[.agg #[.bool (wneg q), .string (wmag q)], .agg #[.bool (wneg r), .string (wmag r)], .bool true]) ∧ Below W.heap.size W w' := by
  obtain ⟨rfl, h1⟩ := hx
  obtain ⟨rfl, h2⟩ := hy
  have := Quo_any x y s t W (by omega) (by omega) hb
  rw [hq, hr] at this
  exact this
theorem abs_quo {a b : Int} {k : Nat} (ha : a.natAbs < 256 ^ k) : (a / b).natAbs < 256 ^ k := Nat.lt_of_le_of_lt (Int.natAbs_ediv_le_natAbs _ _) ha
theorem abs_rem {a b : Int} {k : Nat} (hb : b ≠ 0) (h : b.natAbs < 256 ^ k) : (a % b).natAbs < 256 ^ k := by
  have h1 := Int.emod_nonneg a hb
  have h2 := Int.emod_lt a hb
  omega

/-- Five variables that hold these numbers. -/
structure Five (w0 w : World) (b1 b2 b3 b4 b5 : Nat) (x1 x2 x3 x4 x5 : Bool) (s1 s2 s3 s4 s5 : ByteArray) : Prop where
  d1 : Wd w b1 x1 s1
  d2 : Wd w b2 x2 s2
  d3 : Wd w b3 x3 s3
  d4 : Wd w b4 x4 s4
  d5 : Wd w b5 x5 s5
  bel : Below w0.heap.size w0 w
section
variable {w0 w w' : World} {b1 b2 b3 b4 b5 : Nat} {x1 x2 x3 x4 x5 : Bool} {s1 s2 s3 s4 s5 : ByteArray}
theorem Five.step (h : Five w0 w b1 b2 b3 b4 b5 x1 x2 x3 x4 x5 s1 s2 s3 s4 s5) (hb : Below w.heap.size w w') : Five w0 w' b1 b2 b3 b4 b5 x1 x2 x3 x4 x5 s1 s2 s3 s4 s5 :=
  ⟨h.d1.below hb h.d1.lt, h.d2.below hb h.d2.lt, h.d3.below hb h.d3.lt, h.d4.below hb h.d4.lt, h.d5.below hb h.d5.lt, h.bel.trans (hb.mono h.bel.size)⟩
theorem Five.drew (h : Five w0 w b1 b2 b3 b4 b5 x1 x2 x3 x4 x5 s1 s2 s3 s4 s5) : Five w0 w.drew b1 b2 b3 b4 b5 x1 x2 x3 x4 x5 s1 s2 s3 s4 s5 := ⟨h.d1, h.d2, h.d3, h.d4, h.d5, h.bel.drew⟩
theorem Five.cells (h : Five w0 w b1 b2 b3 b4 b5 x1 x2 x3 x4 x5 s1 s2 s3 s4 s5) :
    (w.cell? ⟨b1, 0, none⟩ = some (.bool x1) ∧ w.cell? ⟨b1, 1, none⟩ = some (.string s1)) ∧ (w.cell? ⟨b2, 0, none⟩ = some (.bool x2) ∧ w.cell? ⟨b2, 1, none⟩ = some (.string s2)) ∧
    (w.cell? ⟨b3, 0, none⟩ = some (.bool x3) ∧ w.cell? ⟨b3, 1, none⟩ = some (.string s3)) ∧ (w.cell? ⟨b4, 0, none⟩ = some (.bool x4) ∧ w.cell? ⟨b4, 1, none⟩ = some (.string s4)) ∧
    (w.cell? ⟨b5, 0, none⟩ = some (.bool x5) ∧ w.cell? ⟨b5, 1, none⟩ = some (.string s5)) :=
  ⟨⟨h.d1.cell0, h.d1.cell1⟩, ⟨h.d2.cell0, h.d2.cell1⟩, ⟨h.d3.cell0, h.d3.cell1⟩, ⟨h.d4.cell0, h.d4.cell1⟩, ⟨h.d5.cell0, h.d5.cell1⟩⟩
end
theorem rem_sign {a b : Int} (hb : b ≠ 0) : (a % b - ((b.natAbs : Nat) : Int)).sign = -1 ∧ 0 ≤ (a % b).sign := by
  have h1 := Int.emod_nonneg a hb
  have h2 := Int.emod_lt a hb
  refine ⟨Int.sign_eq_neg_one_of_neg (by omega), ?_⟩
  rcases sign_cases (a % b) with h | h | h <;> omega

set_option maxRecDepth 100000 in
set_option maxHeartbeats 4000000 in
theorem Remainders_any (n1 n2 : Bool) (A1 A2 : Option Addr) (l1 l2 c1 c2 : Nat) (z1 z2 : Int) (w : World) (h1 : Nm w A1 l1 c1 z1) (h2 : Nm w A2 l2 c2 z2) :
    Calls Tryd.prog 6 #[.agg #[.bool n1, .slice A1 l1 c1, .int .i64 z1], .agg #[.bool n2, .slice A2 l2 c2, .int .i64 z2]] w
      fun e w' => e = .returned (.bool true) ∧ Below w.heap.size w w' := by
  obtain ⟨W3, hW3⟩ : ∃ W3, W3 = (w.alloc (.cells #[.bool n1, .slice A1 l1 c1, .int .i64 z1] 24)).alloc (.cells #[.bool n2, .slice A2 l2 c2, .int .i64 z2] 24) := ⟨_, rfl⟩
  have hB3 : Below w.heap.size w W3 := by
    rw [hW3]
    exact ((Below.refl _ _).alloc (Nat.le_refl _) _).alloc (by simp) _
  have q1 : Nb W3 w.heap.size n1 A1 l1 c1 z1 := by rw [hW3]; exact (Nb.new w _ _ _ _ _).alloc _
  have q2 : Nb W3 (w.heap.size + 1) n2 A2 l2 c2 z2 := by
    rw [hW3]
    have := Nb.new (w.alloc (.cells #[.bool n1, .slice A1 l1 c1, .int .i64 z1] 24)) n2 A2 l2 c2 z2
    simpa using this
  have HW3 := Lib.hid hW3
  clear hW3
  go_enter Tryd.func6, Tryd.ntmps6
  go_wp2_with fail
  rw [← HW3.out]
  refine (sanity_true _).mono ?_
  rintro e w4 ⟨rfl, hb4⟩
  have hB4 : Below w.heap.size w w4 := hB3.trans (hb4.mono hB3.size)
  have r1 := q1.below hb4 q1.lt
  have r2 := q2.below hb4 q2.lt
  have a0 := r1.cell0
  have a1 := r1.cell1
  have a2 := r1.cell2
  clear q1 q2 hb4
  go_wp2_with fail
  refine ((h1.below hB4).call n1).mono ?_
  rintro e w5 ⟨S1, hS1, rfl, hb5⟩
  have hB5 : Below w.heap.size w w5 := hB4.trans (hb5.mono hB4.size)
  clear a0 a1 a2
  have v2 := (r2.below hb5 r2.lt).alloc (wbox n1 S1)
  have m1 := Wd.new w5 n1 S1
  have a0 := v2.cell0
  have a1 := v2.cell1
  have a2 := v2.cell2
  clear r1 r2 hb5
  go_wp2_with fail
  generalize hW6 : w5.alloc (wbox n1 S1) = W6 at *
  have hB6 : Below w.heap.size w W6 := by rw [← hW6]; exact hB5.alloc hB5.size _
  clear hW6
  refine ((h2.below hB6).call n2).mono ?_
  rintro e w7 ⟨S2, hS2, rfl, hb7⟩
  have hB7 : Below w.heap.size w w7 := hB6.trans (hb7.mono hB6.size)
  have u1 := (m1.below hb7 m1.lt).alloc (wbox n2 S2)
  have m2 := Wd.new w7 n2 S2
  have hT : Duo w (w7.alloc (wbox n2 S2)) w5.heap.size w7.heap.size n1 n2 S1 S2 := ⟨u1, m2, hB7.alloc hB7.size _⟩
  clear a0 a1 a2 v2 m1 hb7 hB5 u1 m2 hB3 hB4 hB6 hB7 h1 h2 HW3
  have N1 := NV.self n1 S1 40 hS1
  have N2 := NV.self n2 S2 40 hS2
  obtain ⟨d0, d1, d2, d3⟩ := hT.cells
  by_cases hb0 : wint n2 S2 = 0
  · have P1 := Lib.hid (fun W => Quo_zero n1 n2 S1 S2 W (by omega) hb0)
    have P2 := Lib.hid (fun W => sign_to N2 (by omega) 0 (by rw [hb0]; rfl) W)
    have E1 := eq_same false ⟨#[]⟩
    clear N1 N2 hS1 hS2 hb0
    go_wp2_with fail
    generalize hW8 : w7.alloc (wbox n2 S2) = W8 at *
    clear hW8
    with_reducible refine (P1.out _).mono ?_
    rintro e w9 ⟨rfl, hb9⟩
    clear d0 d1 d2 d3
    have hT2 := hT.step hb9
    have g1 := (Wd.new w9 false ⟨#[]⟩).alloc (wbox false ⟨#[]⟩)
    have g2 := Wd.new (w9.alloc (wbox false ⟨#[]⟩)) false ⟨#[]⟩
    have T3 : Five w ((w9.alloc (wbox false ⟨#[]⟩)).alloc (wbox false ⟨#[]⟩)) w5.heap.size w7.heap.size w9.heap.size (w9.alloc (wbox false ⟨#[]⟩)).heap.size w9.heap.size n1 n2 false false false S1 S2 ⟨#[]⟩ ⟨#[]⟩ ⟨#[]⟩ := ⟨(hT2.d1.alloc _).alloc _, (hT2.d2.alloc _).alloc _, g1, g2, g1, (hT2.bel.alloc hT2.bel.size _).alloc (by have := hT2.bel.size; simp; omega) _⟩
    rw [show (w9.alloc (wbox false ⟨#[]⟩)).heap.size = w9.heap.size + 1 from by simp] at T3
    clear g1 g2 hT hT2 hb9
    obtain ⟨⟨d0, d1⟩, ⟨d2, d3⟩, ⟨d4, d5⟩, ⟨d6, d7⟩, _⟩ := T3.cells
    go_wp2_with fail
    generalize hW10 : (w9.alloc (wbox false ⟨#[]⟩)).alloc (wbox false ⟨#[]⟩) = W10 at *
    clear hW10
    with_reducible refine (P2.out _).mono ?_
    rintro e w11 ⟨rfl, hb11⟩
    have T4 := T3.step hb11
    clear d0 d1 d2 d3 d4 d5 d6 d7 T3
    obtain ⟨⟨d0, d1⟩, ⟨d2, d3⟩, ⟨d4, d5⟩, ⟨d6, d7⟩, _⟩ := T4.cells
    go_wp2
    go_ret
    exact ⟨rfl, T4.bel⟩
  · have hrs := rem_sign (a := wint n1 S1) hb0
    have N3 : NV false S2 (((wint n2 S2).natAbs : Nat) : Int) 40 := by
      refine ⟨?_, hS2⟩
      cases n2
      · rw [wint_false, Int.natAbs_natCast]
      · rw [wint_false, wint_true, Int.natAbs_neg, Int.natAbs_natCast]
    obtain ⟨a, ha⟩ : ∃ a, wint n1 S1 = a := ⟨_, rfl⟩
    obtain ⟨b, hbe⟩ : ∃ b, wint n2 S2 = b := ⟨_, rfl⟩
    rw [ha] at N1 hrs
    rw [hbe] at N2 N3 hrs hb0
    obtain ⟨q, hq⟩ : ∃ q, a / b = q := ⟨_, rfl⟩
    obtain ⟨r, hr⟩ : ∃ r, a % b = r := ⟨_, rfl⟩
    have hqa : q * b + r = a := by rw [← hq, ← hr, Int.mul_comm]; exact Int.mul_ediv_add_emod a b
    have NQ := NV.of q 40 (by rw [← hq]; exact abs_quo N1.abs)
    have NR := NV.of r 40 (by rw [← hr]; exact abs_rem hb0 N2.abs)
    have NM := NV.of (q * b) 80 (abs_mul (k := 40) (l := 40) NQ.abs N2.abs)
    rw [hr] at hrs
    have P1 := Lib.hid (fun W => quo_to N1 N2 (by omega) (by omega) hb0 q r hq hr W)
    have P2 := Lib.hid (fun W => sign_to N2 (by omega) b.sign rfl W)
    have P3 := Lib.hid (fun W => mul_to NQ N2 (by omega) (by omega) (q * b) rfl W)
    have P4 := Lib.hid (fun W => add_to NM NR (by omega) (by omega) a hqa W)
    have NA := NV.of a 40 N1.abs
    have P5 := Lib.hid (fun W => cmp_to NA N1 (by omega) (by omega) 0 (by rw [Int.sub_self]; rfl) W)
    have P6 := Lib.hid (fun W => cmp_to NR N3 (by omega) (by omega) (-1) hrs.1 W)
    have P7 := Lib.hid (fun W => sign_to NR (by omega) r.sign rfl W)
    have hbs : (b.sign == 0) = false := by simpa using hb0
    have hrg : decide (r.sign ≥ 0) = true := by rw [decide_eq_true_iff]; exact hrs.2
    clear N1 N2 N3 NQ NR NM NA hS1 hS2 hb0 hrs hqa hq hr ha hbe
    generalize wneg (q * b) = xm at *
    generalize wmag (q * b) = sm at *
    generalize wneg q = xq at *
    generalize wmag q = sq at *
    generalize wneg a = xa at *
    generalize wmag a = sa at *
    generalize b.sign = bs at *
    generalize r.sign = rs at *
    generalize wneg r = xr at *
    generalize wmag r = sr at *
    go_wp2_with fail
    generalize hW8 : w7.alloc (wbox n2 S2) = W8 at *
    clear hW8
    with_reducible refine (P1.out _).mono ?_
    rintro e w9 ⟨rfl, hb9⟩
    clear d0 d1 d2 d3
    have hT2 := hT.step hb9
    have g1 := (Wd.new w9 xq sq).alloc (wbox xr sr)
    have g2 := Wd.new (w9.alloc (wbox xq sq)) xr sr
    have T3 : Five w ((w9.alloc (wbox xq sq)).alloc (wbox xr sr)) w5.heap.size w7.heap.size w9.heap.size (w9.alloc (wbox xq sq)).heap.size w9.heap.size n1 n2 xq xr xq S1 S2 sq sr sq := ⟨(hT2.d1.alloc _).alloc _, (hT2.d2.alloc _).alloc _, g1, g2, g1, (hT2.bel.alloc hT2.bel.size _).alloc (by have := hT2.bel.size; simp; omega) _⟩
    rw [show (w9.alloc (wbox xq sq)).heap.size = w9.heap.size + 1 from by simp] at T3
    clear g1 g2 hT hT2 hb9
    obtain ⟨⟨d0, d1⟩, ⟨d2, d3⟩, ⟨d4, d5⟩, ⟨d6, d7⟩, _⟩ := T3.cells
    go_wp2_with fail
    generalize hW10 : (w9.alloc (wbox xq sq)).alloc (wbox xr sr) = W10 at *
    clear hW10
    with_reducible refine (P2.out _).mono ?_
    rintro e w11 ⟨rfl, hb11⟩
    have T4 := T3.step hb11
    clear d0 d1 d2 d3 d4 d5 d6 d7 T3
    obtain ⟨⟨d0, d1⟩, ⟨d2, d3⟩, ⟨d4, d5⟩, ⟨d6, d7⟩, _⟩ := T4.cells
    generalize w5.heap.size = b1 at *
    generalize w7.heap.size = b2 at *
    generalize w9.heap.size = b3 at *
    go_wp2_with fail
    have T5 : Five w (w11.alloc (wbox false S2)) b1 b2 b3 (b3 + 1) w11.heap.size n1 n2 xq xr false S1 S2 sq sr S2 :=
      ⟨T4.d1.alloc _, T4.d2.alloc _, T4.d3.alloc _, T4.d4.alloc _, Wd.new w11 false S2, T4.bel.alloc T4.bel.size _⟩
    clear T4 d0 d1 d2 d3 d4 d5 d6 d7 hb11
    generalize w11.heap.size = b5 at *
    generalize hW12 : w11.alloc (wbox false S2) = W12 at *
    clear hW12
    obtain ⟨⟨d0, d1⟩, ⟨d2, d3⟩, ⟨d4, d5⟩, ⟨d6, d7⟩, ⟨d8, d9⟩⟩ := T5.cells
    go_region_held3 (fun w' => w'.cell? ⟨b1, 0, none⟩ = some (.bool n1) ∧ w'.cell? ⟨b1, 1, none⟩ = some (.string S1) ∧ w'.cell? ⟨b2, 0, none⟩ = some (.bool n2) ∧ w'.cell? ⟨b2, 1, none⟩ = some (.string S2) ∧ w'.cell? ⟨b3, 0, none⟩ = some (.bool xq) ∧ w'.cell? ⟨b3, 1, none⟩ = some (.string sq) ∧ w'.cell? ⟨b3 + 1, 0, none⟩ = some (.bool xr) ∧ w'.cell? ⟨b3 + 1, 1, none⟩ = some (.string sr) ∧ w'.cell? ⟨b5, 0, none⟩ = some (.bool false) ∧ w'.cell? ⟨b5, 1, none⟩ = some (.string S2)) (go_keep)
      (first
        | (go_at_call 24; (first | (with_reducible refine (P3.out _).mono ?_)); (rintro e w12 ⟨rfl, hbn⟩; (first | replace T5 := T5.step hbn | replace T5 := T5.drew.step hbn); clear hbn d0 d1 d2 d3 d4 d5 d6 d7 d8 d9; obtain ⟨⟨d0, d1⟩, ⟨d2, d3⟩, ⟨d4, d5⟩, ⟨d6, d7⟩, ⟨d8, d9⟩⟩ := T5.cells))
        | (go_at_call 14; (first | (with_reducible refine (P4.out _).mono ?_)); (rintro e w12 ⟨rfl, hbn⟩; (first | replace T5 := T5.step hbn | replace T5 := T5.drew.step hbn); clear hbn d0 d1 d2 d3 d4 d5 d6 d7 d8 d9; obtain ⟨⟨d0, d1⟩, ⟨d2, d3⟩, ⟨d4, d5⟩, ⟨d6, d7⟩, ⟨d8, d9⟩⟩ := T5.cells))
        | (go_at_call 22; (first | (with_reducible refine (P5.out _).mono ?_) | (with_reducible refine (P6.out _).mono ?_)); (rintro e w12 ⟨rfl, hbn⟩; (first | replace T5 := T5.step hbn | replace T5 := T5.drew.step hbn); clear hbn d0 d1 d2 d3 d4 d5 d6 d7 d8 d9; obtain ⟨⟨d0, d1⟩, ⟨d2, d3⟩, ⟨d4, d5⟩, ⟨d6, d7⟩, ⟨d8, d9⟩⟩ := T5.cells))
        | (go_at_call 20; (first | (with_reducible refine (P7.out _).mono ?_)); (rintro e w12 ⟨rfl, hbn⟩; (first | replace T5 := T5.step hbn | replace T5 := T5.drew.step hbn); clear hbn d0 d1 d2 d3 d4 d5 d6 d7 d8 d9; obtain ⟨⟨d0, d1⟩, ⟨d2, d3⟩, ⟨d4, d5⟩, ⟨d6, d7⟩, ⟨d8, d9⟩⟩ := T5.cells)))
    go_wp2
    go_ret
    exact ⟨rfl, T5.bel⟩
end Go.Proofs.YtgadnianjhaeiaaDoor
