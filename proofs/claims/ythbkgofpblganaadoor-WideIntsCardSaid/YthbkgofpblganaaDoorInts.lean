/-
  The contract of the statements' WideInts: it returns true, whatever two ints and one number come in.
-/
import Derived.Test.YthbkgofpblganaaDoorInt
import Derived.Test.YthbkgofpblganaaDoorSums
namespace Go.Proofs.YthbkgofpblganaaDoor
open Go.RowKit

theorem int_to {x : Bool} {s : ByteArray} {a : Int} {k : Nat} (hx : NV x s a k) (hk : k ≤ 1000) (W : World) :
    Calls Tryd.prog 30 #[.agg #[.bool x, .string s]] W fun e w' => e = .returned (.tuple #[.int .i64 (fitv a), .bool (fitb a)]) ∧ Below W.heap.size W w' := Int_any x s W (by have := hx.2; omega) a hx.1
theorem rint_to {x : Bool} {s : ByteArray} {a : Int} {k : Nat} (hx : NV x s a k) (hk : k ≤ 400) (W : World) :
    Calls Tryd.prog 31 #[.agg #[.bool x, .string s]] W fun e w' => e = .returned (.tuple #[.int .i64 (fitv a), .bool (fitb a)]) ∧ Below W.heap.size W w' := RInt_any x s W (by have := hx.2; omega) a hx.1
theorem from_to (n : Int) (h1 : -9223372036854775808 ≤ n) (h2 : n ≤ 9223372036854775807) (W : World) :
    Calls Tryd.prog 32 #[.int .i64 n] W fun e w' => e = .returned (.agg #[.bool (wneg n), .string (wmag n)]) ∧ Below W.heap.size W w' := From_any n W h1 h2
theorem nv_int (n : Int) (h1 : -9223372036854775809 ≤ n) (h2 : n ≤ 9223372036854775808) : NV (wneg n) (wmag n) n 8 := NV.of n 8 (by rw [pow8]; omega)
theorem fit_yes {n : Int} (h1 : -9223372036854775808 ≤ n) (h2 : n ≤ 9223372036854775807) : fitv n = n ∧ fitb n = true := by
  unfold fitv fitb
  rw [if_pos ⟨h1, h2⟩, decide_eq_true ⟨h1, h2⟩]
  exact ⟨rfl, rfl⟩
theorem fit_no {n : Int} (h : n < -9223372036854775808 ∨ 9223372036854775807 < n) : fitv n = 0 ∧ fitb n = false := by
  unfold fitv fitb
  rw [if_neg (by omega), decide_eq_false (by omega)]
  exact ⟨rfl, rfl⟩

set_option maxRecDepth 100000 in
set_option maxHeartbeats 8000000 in
theorem Ints_any (n m : Int) (n3 : Bool) (A3 : Option Addr) (l3 c3 : Nat) (z3 : Int) (w : World) (hn : -9223372036854775808 ≤ n ∧ n ≤ 9223372036854775807) (hm : -9223372036854775808 ≤ m ∧ m ≤ 9223372036854775807) (h3 : Nm w A3 l3 c3 z3) :
    Calls Tryd.prog 8 #[.int .i64 n, .int .i64 m, .agg #[.bool n3, .slice A3 l3 c3, .int .i64 z3]] w
      fun e w' => e = .returned (.bool true) ∧ Below w.heap.size w w' := by
  have q1 := Nb.new w n3 A3 l3 c3 z3
  have hB3 : Below w.heap.size w (w.alloc (.cells #[.bool n3, .slice A3 l3 c3, .int .i64 z3] 24)) := (Below.refl _ _).alloc (Nat.le_refl _) _
  generalize hW3 : w.alloc (.cells #[.bool n3, .slice A3 l3 c3, .int .i64 z3] 24) = W3 at *
  have HW3 := Lib.hid hW3
  clear hW3
  have M1 := nv_int n (by omega) (by omega)
  have M2 := nv_int m (by omega) (by omega)
  have F1 := Lib.hid (fun W => from_to n hn.1 hn.2 W)
  have F2 := Lib.hid (fun W => from_to m hm.1 hm.2 W)
  have F3 := Lib.hid (fun W => from_to 9223372036854775807 (by omega) (by omega) W)
  have F4 := Lib.hid (fun W => from_to 1 (by omega) (by omega) W)
  have F5 := Lib.hid (fun W => RFrom_any n W hn.1 hn.2)
  have I1 := Lib.hid (fun W => int_to M1 (by omega) W)
  rw [(fit_yes hn.1 hn.2).1, (fit_yes hn.1 hn.2).2] at I1
  have S1 := Lib.hid (fun W => add_to M1 M2 (by omega) (by omega) (n + m) rfl W)
  have I2 := Lib.hid (fun W => int_to (NV.of (n + m) 9 (abs_add M1.abs M2.abs)) (by omega) W)
  have M3 := nv_int 9223372036854775807 (by omega) (by omega)
  have M4 := nv_int 1 (by omega) (by omega)
  have M5 := nv_int (-9223372036854775807) (by omega) (by omega)
  have M6 := nv_int (-9223372036854775808) (by omega) (by omega)
  have M7 := nv_int 9223372036854775808 (by omega) (by omega)
  have M8 := nv_int (-9223372036854775809) (by omega) (by omega)
  have S2 := Lib.hid (fun W => neg_to M3 (by omega) (-9223372036854775807) (by omega) W)
  have S3 := Lib.hid (fun W => sub_to M5 M4 (by omega) (by omega) (-9223372036854775808) (by omega) W)
  have S4 := Lib.hid (fun W => add_to M3 M4 (by omega) (by omega) 9223372036854775808 (by omega) W)
  have S5 := Lib.hid (fun W => sub_to M6 M4 (by omega) (by omega) (-9223372036854775809) (by omega) W)
  have I3 := Lib.hid (fun W => int_to M7 (by omega) W)
  rw [(fit_no (.inr (by omega))).1, (fit_no (.inr (by omega))).2] at I3
  have I4 := Lib.hid (fun W => int_to M6 (by omega) W)
  rw [(fit_yes (by omega) (by omega)).1, (fit_yes (by omega) (by omega)).2] at I4
  have I5 := Lib.hid (fun W => int_to M8 (by omega) W)
  rw [(fit_no (.inl (by omega))).1, (fit_no (.inl (by omega))).2] at I5
  have E1 := eq_same (wneg n) (wmag n)
  clear M1 M2 M3 M4 M5 M6 M7 M8
  generalize wneg 9223372036854775807 = xa at *
  generalize wmag 9223372036854775807 = sa at *
  generalize wneg 9223372036854775808 = xb at *
  generalize wmag 9223372036854775808 = sb at *
  generalize wneg (-9223372036854775807) = xc at *
  generalize wmag (-9223372036854775807) = sc at *
  generalize wneg (-9223372036854775808) = xd at *
  generalize wmag (-9223372036854775808) = sd at *
  generalize wneg (-9223372036854775809) = xe at *
  generalize wmag (-9223372036854775809) = se at *
  generalize wneg 1 = xf at *
  generalize wmag 1 = sf at *
  generalize wneg n = xg at *
  generalize wmag n = sg at *
  generalize wneg m = xh at *
  generalize wmag m = sh at *
  generalize wneg (n + m) = xi at *
  generalize wmag (n + m) = si at *
  have key : (fitv (n + m) = n + m ∧ fitb (n + m) = true ∧ -9223372036854775808 ≤ n + m ∧ n + m ≤ 9223372036854775807) ∨ (fitv (n + m) = 0 ∧ fitb (n + m) = false ∧ 9223372036854775807 < n + m ∧ wrap64 (n + m) = n + m - 18446744073709551616) ∨ (fitv (n + m) = 0 ∧ fitb (n + m) = false ∧ n + m < -9223372036854775808 ∧ wrap64 (n + m) = n + m + 18446744073709551616) := by
    by_cases h1 : -9223372036854775808 ≤ n + m
    · by_cases h2 : n + m ≤ 9223372036854775807
      · exact .inl ⟨(fit_yes h1 h2).1, (fit_yes h1 h2).2, h1, h2⟩
      · exact .inr (.inl ⟨(fit_no (.inr (by omega))).1, (fit_no (.inr (by omega))).2, by omega, by unfold wrap64; omega⟩)
    · exact .inr (.inr ⟨(fit_no (.inl (by omega))).1, (fit_no (.inl (by omega))).2, by omega, by unfold wrap64; omega⟩)
  have three : 0 < n ∨ n = 0 ∨ n < 0 := by omega
  generalize fitv (n + m) = fv at *
  generalize fitb (n + m) = fb at *
  go_enter Tryd.func8, Tryd.ntmps8
  go_wp2_with fail
  rw [HW3.out]
  refine (sanity_true _).mono ?_
  rintro e w4 ⟨rfl, hb4⟩
  have hB4 : Below w.heap.size w w4 := hB3.trans (hb4.mono hB3.size)
  have r1 := q1.below hb4 q1.lt
  have a0 := r1.cell0
  have a1 := r1.cell1
  have a2 := r1.cell2
  clear q1 hb4
  go_wp2_with fail
  refine ((h3.below hB4).call n3).mono ?_
  rintro e w5 ⟨S, hS, rfl, hb5⟩
  have hB5 : Below w.heap.size w w5 := hB4.trans (hb5.mono hB4.size)
  clear a0 a1 a2
  have m1 := Wd.new w5 n3 S
  have hB6 : Below w.heap.size w (w5.alloc (wbox n3 S)) := hB5.alloc hB5.size _
  have N1 := NV.self n3 S 40 hS
  generalize wint n3 S = a at *
  have J1 := Lib.hid (fun W => int_to N1 (by omega) W)
  have J2 := Lib.hid (fun W => rint_to N1 (by omega) W)
  have C1 := cast_beq (fitv a)
  generalize fitv a = av at *
  generalize fitb a = ab at *
  clear r1 hb5 N1 hS
  have d0 := m1.cell0
  have d1 := m1.cell1
  generalize hW6 : w5.alloc (wbox n3 S) = W6 at *
  have HW6 := Lib.hid hW6
  have hB := hB6
  clear hB3 hB4 hB5 hB6 hW6 HW3 h3
  go_wp2_with fail
  try rw [HW6.out]
  with_reducible refine (J1.out _).mono ?_
  rintro e wn ⟨rfl, hbn⟩
  have m2 := m1.below hbn m1.lt
  replace hB := hB.trans (hbn.mono hB.size)
  clear d0 d1
  have d0 := m2.cell0
  have d1 := m2.cell1
  clear hbn
  go_wp2_with fail
  with_reducible refine (J2.out _).mono ?_
  rintro e wn ⟨rfl, hbn⟩
  replace hB := hB.trans (hbn.mono hB.size)
  clear d0 d1 m1 m2
  clear hbn
  go_wp2_with fail
  with_reducible refine (F1.out _).mono ?_
  rintro e wn ⟨rfl, hbn⟩
  replace hB := hB.trans (hbn.mono hB.size)
  clear hbn
  go_wp2_with fail
  with_reducible refine (I1.out _).mono ?_
  rintro e wn ⟨rfl, hbn⟩
  replace hB := hB.trans (hbn.mono hB.size)
  clear hbn
  go_wp2_with fail
  with_reducible refine (F1.out _).mono ?_
  rintro e wn ⟨rfl, hbn⟩
  replace hB := hB.trans (hbn.mono hB.size)
  clear hbn
  go_wp2_with fail
  with_reducible refine (F2.out _).mono ?_
  rintro e wn ⟨rfl, hbn⟩
  replace hB := hB.trans (hbn.mono hB.size)
  clear hbn
  go_wp2_with fail
  with_reducible refine (S1.out _).mono ?_
  rintro e wn ⟨rfl, hbn⟩
  replace hB := hB.trans (hbn.mono hB.size)
  clear hbn
  go_wp2_with fail
  with_reducible refine (I2.out _).mono ?_
  rintro e wn ⟨rfl, hbn⟩
  replace hB := hB.trans (hbn.mono hB.size)
  clear hbn
  rcases key with ⟨rfl, rfl, k1, k2⟩ | ⟨rfl, rfl, k1, k2⟩ | ⟨rfl, rfl, k1, k2⟩ <;> rcases three with h0 | h0 | h0
  all_goals try (exfalso; omega)
  all_goals
    try subst h0
    try have g1 : decide (n + m < m) = false := decide_eq_false (by omega)
    try have g2 : decide (m < n + m) = false := decide_eq_false (by omega)
    go_wp2_with fail
    with_reducible refine (F3.out _).mono ?_
    rintro e wn ⟨rfl, hbn⟩
    replace hB := hB.trans (hbn.mono hB.size)
    have hi := Wd.new wn xa sa
    replace hB := hB.alloc hB.size (wbox xa sa)
    have c0 := hi.cell0
    have c1 := hi.cell1
    clear hbn
    go_wp2_with fail
    generalize wn.heap.size = bh at *
    generalize wn.alloc (wbox xa sa) = Wh at *
    with_reducible refine (S2.out _).mono ?_
    rintro e wn ⟨rfl, hbn⟩
    replace hi := hi.below hbn hi.lt
    replace hB := hB.trans (hbn.mono hB.size)
    clear c0 c1
    clear hbn
    go_wp2_with fail
    with_reducible refine (F4.out _).mono ?_
    rintro e wn ⟨rfl, hbn⟩
    replace hi := hi.below hbn hi.lt
    replace hB := hB.trans (hbn.mono hB.size)
    clear hbn
    go_wp2_with fail
    with_reducible refine (S3.out _).mono ?_
    rintro e wn ⟨rfl, hbn⟩
    replace hi := hi.below hbn hi.lt
    replace hB := hB.trans (hbn.mono hB.size)
    have lo := Wd.new wn xd sd
    replace hB := hB.alloc hB.size (wbox xd sd)
    replace hi := hi.alloc (wbox xd sd)
    have c0 := hi.cell0
    have c1 := hi.cell1
    clear hbn
    go_wp2_with fail
    generalize wn.heap.size = bl at *
    generalize wn.alloc (wbox xd sd) = Wl at *
    have hD : Duo w Wl bh bl xa xd sa sd := ⟨hi, lo, hB⟩
    clear hi lo hB
    clear c0 c1
    obtain ⟨d0, d1, d2, d3⟩ := hD.cells
    go_region_held3 (fun w' => w'.cell? ⟨bh, 0, none⟩ = some (.bool xa) ∧ w'.cell? ⟨bh, 1, none⟩ = some (.string sa) ∧ w'.cell? ⟨bl, 0, none⟩ = some (.bool xd) ∧ w'.cell? ⟨bl, 1, none⟩ = some (.string sd)) (go_keep)
      (first
        | (go_at_call 32; (with_reducible refine (F4.out _).mono ?_); (rintro e w11 ⟨rfl, hbn⟩; (first | replace hD := hD.step hbn | replace hD := hD.drew.step hbn); clear hbn d0 d1 d2 d3; obtain ⟨d0, d1, d2, d3⟩ := hD.cells))
        | (go_at_call 14; (with_reducible refine (S4.out _).mono ?_); (rintro e w11 ⟨rfl, hbn⟩; (first | replace hD := hD.step hbn | replace hD := hD.drew.step hbn); clear hbn d0 d1 d2 d3; obtain ⟨d0, d1, d2, d3⟩ := hD.cells))
        | (go_at_call 30; (with_reducible refine (I3.out _).mono ?_); (rintro e w11 ⟨rfl, hbn⟩; (first | replace hD := hD.step hbn | replace hD := hD.drew.step hbn); clear hbn d0 d1 d2 d3; obtain ⟨d0, d1, d2, d3⟩ := hD.cells)))
    go_wp2_with fail
    with_reducible refine (I4.out _).mono ?_
    rintro e wn ⟨rfl, hbn⟩
    first | replace hD := hD.step hbn | replace hD := hD.drew.step hbn
    clear hbn d0 d1 d2 d3
    obtain ⟨d0, d1, d2, d3⟩ := hD.cells
    go_wp2_with fail
    go_region_held3 (fun w' => w'.cell? ⟨bh, 0, none⟩ = some (.bool xa) ∧ w'.cell? ⟨bh, 1, none⟩ = some (.string sa) ∧ w'.cell? ⟨bl, 0, none⟩ = some (.bool xd) ∧ w'.cell? ⟨bl, 1, none⟩ = some (.string sd)) (go_keep)
      (first
        | (go_at_call 32; (with_reducible refine (F4.out _).mono ?_); (rintro e w11 ⟨rfl, hbn⟩; (first | replace hD := hD.step hbn | replace hD := hD.drew.step hbn); clear hbn d0 d1 d2 d3; obtain ⟨d0, d1, d2, d3⟩ := hD.cells))
        | (go_at_call 16; (with_reducible refine (S5.out _).mono ?_); (rintro e w11 ⟨rfl, hbn⟩; (first | replace hD := hD.step hbn | replace hD := hD.drew.step hbn); clear hbn d0 d1 d2 d3; obtain ⟨d0, d1, d2, d3⟩ := hD.cells))
        | (go_at_call 30; (with_reducible refine (I5.out _).mono ?_); (rintro e w11 ⟨rfl, hbn⟩; (first | replace hD := hD.step hbn | replace hD := hD.drew.step hbn); clear hbn d0 d1 d2 d3; obtain ⟨d0, d1, d2, d3⟩ := hD.cells)))
    go_wp2_with fail
    with_reducible refine (F1.out _).mono ?_
    rintro e wn ⟨rfl, hbn⟩
    first | replace hD := hD.step hbn | replace hD := hD.drew.step hbn
    clear hbn d0 d1 d2 d3
    go_wp2_with fail
    with_reducible refine (F5.out _).mono ?_
    rintro e wn ⟨rfl, hbn⟩
    first | replace hD := hD.step hbn | replace hD := hD.drew.step hbn
    clear hbn
    go_wp2
    go_ret
    exact ⟨rfl, hD.bel⟩
end Go.Proofs.YthbkgofpblganaaDoor
