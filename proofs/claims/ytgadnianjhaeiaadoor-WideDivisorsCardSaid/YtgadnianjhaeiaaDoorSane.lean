/-
  The contract of the statements' helper sanity: the examples of the chapter hold.
-/
import Derived.Test.YtgadnianjhaeiaaDoorOver
namespace Go.Proofs.YtgadnianjhaeiaaDoor
open Go.RowKit

theorem canon_of (l : List UInt8) (n : Nat) (h : sig l = l) (hn : bval l = n) : canon n = l := by rw [← hn, ← sig_canon, h]
theorem wv_lit (z : Int) (sg : Bool) (l : List UInt8) (h1 : decide (z < 0) = sg) (h2 : sig l = l) (h3 : bval l = z.natAbs) : wv z = .agg #[.bool sg, .string ⟨l.toArray⟩] := by
  unfold wv
  rw [h1, canon_of l _ h2 h3]
  rfl
theorem wv_big : wv (1099511627776 * 1099511627776) = .agg #[.bool false, .string ⟨#[1, 0, 0, 0, 0, 0, 0, 0, 0, 0, 0]⟩] := wv_lit _ false [1, 0, 0, 0, 0, 0, 0, 0, 0, 0, 0] (by decide) (by rfl) (by rfl)
theorem wv_300 : wv (-300) = .agg #[.bool true, .string ⟨#[1, 44]⟩] := wv_lit _ true [1, 44] (by decide) (by rfl) (by rfl)
theorem wv_7 : wv (-7) = .agg #[.bool true, .string ⟨#[7]⟩] := wv_lit _ true [7] (by decide) (by rfl) (by rfl)
theorem parse_007 : parseS [45, 48, 48, 55] = (-7, true) := by rfl
theorem parse_none : parseS [] = (0, false) := by rfl
theorem parse_1x : parseS [49, 120] = (0, false) := by rfl
theorem gcd_a : gcdS (-12) 18 = (6, 1, 1) := by rfl
theorem gcd_b : gcdS 0 (-5) = (5, 0, -1) := by rfl
theorem gcd_c : gcdS (-4) 0 = (4, -1, 0) := by rfl

theorem From_big (W : World) : Calls Tryd.prog 32 #[.int .i64 1099511627776] W fun e W' => e = .returned (.agg #[.bool (wneg 1099511627776), .string (wmag 1099511627776)]) ∧ Below W.heap.size W W' := by
  have h := From_any 1099511627776 W (by omega) (by omega)
  rw [wv_def] at h
  exact h
theorem Mul_bigs (W : World) : Calls Tryd.prog 24 #[.agg #[.bool (wneg 1099511627776), .string (wmag 1099511627776)], .agg #[.bool (wneg 1099511627776), .string (wmag 1099511627776)]] W
    fun e W' => e = .returned (.agg #[.bool false, .string ⟨#[1, 0, 0, 0, 0, 0, 0, 0, 0, 0, 0]⟩]) ∧ Below W.heap.size W W' := by
  have hs := wmag_size 1099511627776 6 (by decide)
  have h := Mul_any (wneg 1099511627776) (wneg 1099511627776) (wmag 1099511627776) (wmag 1099511627776) W (by omega) (by omega)
  rw [wint_wv', wv_big] at h
  exact h
theorem From_300 (W : World) : Calls Tryd.prog 32 #[.int .i64 (-300)] W fun e W' => e = .returned (.agg #[.bool true, .string ⟨#[1, 44]⟩]) ∧ Below W.heap.size W W' := by
  have h := From_any (-300) W (by omega) (by omega)
  rw [wv_300] at h
  exact h
theorem From_7 (W : World) : Calls Tryd.prog 32 #[.int .i64 (-7)] W fun e W' => e = .returned (.agg #[.bool true, .string ⟨#[7]⟩]) ∧ Below W.heap.size W W' := by
  have h := From_any (-7) W (by omega) (by omega)
  rw [wv_7] at h
  exact h
theorem Parse_007 (W : World) : Calls Tryd.prog 35 #[.string ⟨#[45, 48, 48, 55]⟩] W fun e W' => e = .returned (.tuple #[.agg #[.bool true, .string ⟨#[7]⟩], .bool true]) ∧ Below W.heap.size W W' := by
  have h := Parse_any ⟨#[45, 48, 48, 55]⟩ W (by decide)
  rw [show parseS (ByteArray.mk #[45, 48, 48, 55]).data.toList = (-7, true) from parse_007] at h
  rw [wv_7] at h
  exact h
theorem Parse_none (W : World) : Calls Tryd.prog 35 #[.string ⟨#[]⟩] W fun e W' => e = .returned (.tuple #[.agg #[.bool false, .string ⟨#[]⟩], .bool false]) ∧ Below W.heap.size W W' := by
  have h := Parse_any ⟨#[]⟩ W (by decide)
  rw [show parseS (ByteArray.mk #[]).data.toList = (0, false) from parse_none] at h
  exact h
theorem Parse_1x (W : World) : Calls Tryd.prog 35 #[.string ⟨#[49, 120]⟩] W fun e W' => e = .returned (.tuple #[.agg #[.bool false, .string ⟨#[]⟩], .bool false]) ∧ Below W.heap.size W W' := by
  have h := Parse_any ⟨#[49, 120]⟩ W (by decide)
  rw [show parseS (ByteArray.mk #[49, 120]).data.toList = (0, false) from parse_1x] at h
  exact h

set_option maxRecDepth 100000 in
set_option maxHeartbeats 4000000 in
theorem sanity_true (w : World) : Calls Tryd.prog 12 #[] w fun e w' => e = .returned (.bool true) ∧ Below w.heap.size w w' := by
  have HF40 := Lib.hid From_big
  have HMU := Lib.hid Mul_bigs
  have HF3 := Lib.hid From_300
  have HF7 := Lib.hid From_7
  have HO1 := Lib.hid (fun W => over_true (-7) 2 W (by omega) (by omega) (by omega) (-4) 1 (by decide) (by decide))
  have HO2 := Lib.hid (fun W => over_true 7 (-2) W (by omega) (by omega) (by omega) (-3) 1 (by decide) (by decide))
  have HO3 := Lib.hid (fun W => over_true (-7) (-2) W (by omega) (by omega) (by omega) 4 1 (by decide) (by decide))
  have HC1 := Lib.hid (fun W => common_true (-12) 18 W (by omega) (by omega) 6 1 1 (by rw [gcd_a]) (by rw [gcd_a]) (by rw [gcd_a]) (by omega) (by omega) (by omega))
  have HC2 := Lib.hid (fun W => common_true 0 (-5) W (by omega) (by omega) 5 0 (-1) (by rw [gcd_b]) (by rw [gcd_b]) (by rw [gcd_b]) (by omega) (by omega) (by omega))
  have HC3 := Lib.hid (fun W => common_true (-4) 0 W (by omega) (by omega) 4 (-1) 0 (by rw [gcd_c]) (by rw [gcd_c]) (by rw [gcd_c]) (by omega) (by omega) (by omega))
  have HP1 := Lib.hid Parse_007
  have HP2 := Lib.hid Parse_none
  have HP3 := Lib.hid Parse_1x
  have eq1 := eq_same true ⟨#[1, 44]⟩
  have eq2 := eq_same false ⟨#[1, 0, 0, 0, 0, 0, 0, 0, 0, 0, 0]⟩
  have eq3 := eq_same true ⟨#[7]⟩
  generalize wneg 1099511627776 = s40 at *
  generalize wmag 1099511627776 = M40 at *
  go_enter Tryd.func12, Tryd.ntmps12
  go_wp2_with fail
  with_reducible refine (HF40.out _).mono ?_
  rintro e w1 ⟨rfl, hb1⟩
  go_wp2_with fail
  with_reducible refine (HF40.out _).mono ?_
  rintro e w2 ⟨rfl, hb2⟩
  have hB2 : Below w.heap.size w w2 := hb1.trans (hb2.mono hb1.size)
  go_wp2_with fail
  with_reducible refine (HMU.out _).mono ?_
  rintro e w3 ⟨rfl, hb3⟩
  have hB3 : Below w.heap.size w w3 := hB2.trans (hb3.mono hB2.size)
  clear hb1 hb2 hb3 hB2
  have hD1 := Wd.new w3 false ⟨#[1, 0, 0, 0, 0, 0, 0, 0, 0, 0, 0]⟩
  go_wp2_with fail
  generalize hW : w3.alloc (wbox false ⟨#[1, 0, 0, 0, 0, 0, 0, 0, 0, 0, 0]⟩) = W4 at *
  have hB4 : Below w.heap.size w W4 := by rw [← hW]; exact hB3.alloc hB3.size _
  clear hW
  with_reducible refine (HF3.out _).mono ?_
  rintro e w5 ⟨rfl, hb5⟩
  have hB5 : Below w.heap.size w w5 := hB4.trans (hb5.mono hB4.size)
  have hD5 := hD1.below hb5 hD1.lt
  have hc0 := hD5.cell0
  have hc1 := hD5.cell1
  clear hb5 hB4 hB3 hD1
  go_wp2_with fail
  with_reducible refine (HO1.out _).mono ?_
  rintro e w6 ⟨rfl, hb6⟩
  have hB6 : Below w.heap.size w w6 := hB5.trans (hb6.mono hB5.size)
  clear hb6 hB5
  go_wp2_with fail
  with_reducible refine (HO2.out _).mono ?_
  rintro e w7 ⟨rfl, hb7⟩
  have hB7 : Below w.heap.size w w7 := hB6.trans (hb7.mono hB6.size)
  clear hb7 hB6
  go_wp2_with fail
  with_reducible refine (HO3.out _).mono ?_
  rintro e w8 ⟨rfl, hb8⟩
  have hB8 : Below w.heap.size w w8 := hB7.trans (hb8.mono hB7.size)
  clear hb8 hB7
  go_wp2_with fail
  with_reducible refine (HC1.out _).mono ?_
  rintro e w9 ⟨rfl, hb9⟩
  have hB9 : Below w.heap.size w w9 := hB8.trans (hb9.mono hB8.size)
  clear hb9 hB8
  go_wp2_with fail
  with_reducible refine (HC2.out _).mono ?_
  rintro e w10 ⟨rfl, hb10⟩
  have hB10 : Below w.heap.size w w10 := hB9.trans (hb10.mono hB9.size)
  clear hb10 hB9
  go_wp2_with fail
  with_reducible refine (HC3.out _).mono ?_
  rintro e w11 ⟨rfl, hb11⟩
  have hB11 : Below w.heap.size w w11 := hB10.trans (hb11.mono hB10.size)
  clear hb11 hB10
  go_wp2_with fail
  clear hc0 hc1 hD5
  with_reducible refine (HP1.out _).mono ?_
  rintro e w12 ⟨rfl, hb12⟩
  have hB12 : Below w.heap.size w w12 := hB11.trans (hb12.mono hB11.size)
  have hD12 := Wd.new w12 true ⟨#[7]⟩
  go_wp2_with fail
  generalize hW : w12.alloc (wbox true ⟨#[7]⟩) = W13 at *
  have hB13 : Below w.heap.size w W13 := by rw [← hW]; exact hB12.alloc hB12.size _
  clear hW hB12 hb12 hB11
  with_reducible refine (HP2.out _).mono ?_
  rintro e w14 ⟨rfl, hb14⟩
  have hB14 : Below w.heap.size w w14 := hB13.trans (hb14.mono hB13.size)
  have hD14 := hD12.below hb14 hD12.lt
  go_wp2_with fail
  generalize hW : w14.alloc (wbox false ⟨#[]⟩) = W15 at *
  have hB15 : Below w.heap.size w W15 := by rw [← hW]; exact hB14.alloc hB14.size _
  have hD15 : Wd W15 w12.heap.size true ⟨#[7]⟩ := by rw [← hW]; exact hD14.alloc _
  clear hW hB14 hb14 hB13 hD14 hD12
  with_reducible refine (HP3.out _).mono ?_
  rintro e w16 ⟨rfl, hb16⟩
  have hB16 : Below w.heap.size w w16 := hB15.trans (hb16.mono hB15.size)
  have hD16 := hD15.below hb16 hD15.lt
  go_wp2_with fail
  generalize hW : w16.alloc (wbox false ⟨#[]⟩) = W17 at *
  have hB17 : Below w.heap.size w W17 := by rw [← hW]; exact hB16.alloc hB16.size _
  have hD17 : Wd W17 w12.heap.size true ⟨#[7]⟩ := by rw [← hW]; exact hD16.alloc _
  have hc0 := hD17.cell0
  have hc1 := hD17.cell1
  clear hW hB16 hb16 hB15 hD16 hD15
  go_region_held3 (fun w' => w'.cell? ⟨w12.heap.size, 0, none⟩ = some (.bool true) ∧ w'.cell? ⟨w12.heap.size, 1, none⟩ = some (.string ⟨#[7]⟩)) (go_keep)
    (first | (go_at_call 32; (with_reducible refine (HF7.out _).mono ?_); rintro e w18 ⟨rfl, hb18⟩; have hD18 := hD17.drew.below hb18 hD17.lt; have d0 := hD18.cell0; have d1 := hD18.cell1))
  go_wp2
  go_ret
  exact ⟨rfl, hB17.drew.trans (hb18.mono hB17.size)⟩
end Go.Proofs.YtgadnianjhaeiaaDoor
