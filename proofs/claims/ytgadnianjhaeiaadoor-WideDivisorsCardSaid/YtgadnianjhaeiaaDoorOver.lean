/-
  The contracts of the statements' helpers over and common, at the numbers where they return true.
-/
import Derived.Test.YtgadnianjhaeiaaDoorParse
import Derived.Laws.StructEq
namespace Go.Proofs.YtgadnianjhaeiaaDoor
open Go.RowKit

theorem bytes_refl (s : ByteArray) : (s.toList == s.toList) = true := by simp
set_option maxRecDepth 100000 in
theorem eq_same (x : Bool) (s : ByteArray) (w : World) : (binOp .eql 27 (.agg #[.bool x, .string s]) (.agg #[.bool x, .string s])).run Tryd.prog w = .ok (.bool true) w := by
  have h1 : Tryd.prog.underlying 27 = some (.struct (Tryd.prog.fieldsOf 27)) := by kernel_rfl
  have h2 : Tryd.prog.stoodInHeld 27 = false := by kernel_rfl
  have e0 : (Op.equalIn 9999 4 (.bool x) (.bool x)).run Tryd.prog w = .ok (x == x) w := run_equalIn_bool w 9998 4 x x Tryd.underlying4
  have e1 : (Op.equalIn 9999 9 (.string s) (.string s)).run Tryd.prog w = .ok (s.toList == s.toList) w := run_equalIn_string w 9998 9 s s Tryd.underlying9
  rw [run_eql_struct, show (10000 : Nat) = 9999 + 1 from rfl, run_equalIn_agg w 9999 27 _ _ h1 h2]
  simp only [Program.fieldsOf, Tryd.underlying27]
  go_simp

theorem wmag_small (z : Int) (h : -72057594037927936 < z ∧ z < 72057594037927936) : (wmag z).size ≤ 7 := wmag_size z 7 (by rw [pow7]; omega)

set_option maxHeartbeats 2000000 in
theorem over_true (a b : Int) (w : World) (ha : -1048576 < a ∧ a < 1048576) (hb : -1048576 < b ∧ b < 1048576) (hb0 : b ≠ 0) (q r : Int) (hq : a / b = q) (hr : a % b = r) :
    Calls Tryd.prog 39 #[.int .i64 a, .int .i64 b, .int .i64 q, .int .i64 r] w fun e w' => e = .returned (.bool true) ∧ Below w.heap.size w w' := by
  have q1 : (a / b).natAbs ≤ a.natAbs := Int.natAbs_ediv_le_natAbs a b
  have r1 := Int.emod_nonneg a hb0
  have r2 := Int.emod_lt a hb0
  have hQ := fun W => Quo_small (wneg a) (wneg b) (wmag a) (wmag b) W (wmag_small a (by omega)) (wmag_small b (by omega)) (by rw [wint_wv']; exact hb0)
  rw [wint_wv', wint_wv', hq, hr] at hQ
  rw [hq] at q1
  rw [hr] at r1 r2
  have hfa := fun W => From_any a W (by omega) (by omega)
  have hfb := fun W => From_any b W (by omega) (by omega)
  have hfq := fun W => From_any q W (by omega) (by omega)
  have hfr := fun W => From_any r W (by omega) (by omega)
  rw [wv_def] at hfa hfb hfq hfr
  rw [wv_def q, wv_def r] at hQ
  have eq1 := eq_same (wneg q) (wmag q)
  have eq2 := eq_same (wneg r) (wmag r)
  generalize wneg q = sq at *
  generalize wmag q = Q at *
  generalize wneg r = sr at *
  generalize wmag r = R at *
  generalize wneg a = sa at *
  generalize wmag a = A at *
  generalize wneg b = sb at *
  generalize wmag b = B at *
  have HA := Lib.hid hfa
  have HB := Lib.hid hfb
  have HFQ := Lib.hid hfq
  have HFR := Lib.hid hfr
  have HQ := Lib.hid hQ
  clear hfa hfb hfq hfr hQ hq hr hb0 q1 r1 r2 ha hb
  go_enter Tryd.func39, Tryd.ntmps39
  go_wp2_with fail
  with_reducible refine (HA.out _).mono ?_
  rintro e w1 ⟨rfl, hb1⟩
  go_wp2_with fail
  with_reducible refine (HB.out _).mono ?_
  rintro e w2 ⟨rfl, hb2⟩
  go_wp2_with fail
  with_reducible refine (HQ.out _).mono ?_
  rintro e w3 ⟨rfl, hb3⟩
  have hB3 : Below w.heap.size w w3 := (hb1.trans (hb2.mono hb1.size)).trans (hb3.mono (Nat.le_trans hb1.size hb2.size))
  have hV := Vars.start2 w3 sq sr Q R
  have hc0 := (hV.at_ 0 rfl).cell0
  have hc1 := (hV.at_ 0 rfl).cell1
  have hc2 := (hV.at_ 1 rfl).cell0
  have hc3 := (hV.at_ 1 rfl).cell1
  rw [Nat.add_zero] at hc0 hc1
  clear hb1 hb2 hb3
  go_wp2_with fail
  generalize hW : (w3.alloc (wbox sq Q)).alloc (wbox sr R) = W at *
  have hBW : Below w.heap.size w W := by rw [← hW]; exact hB3.trans ((below2 _ _ _).mono hB3.size)
  clear hW
  go_region_held3 (fun w' => w'.cell? ⟨w3.heap.size, 0, none⟩ = some (.bool sq) ∧ w'.cell? ⟨w3.heap.size, 1, none⟩ = some (.string Q) ∧ w'.cell? ⟨w3.heap.size + 1, 0, none⟩ = some (.bool sr) ∧ w'.cell? ⟨w3.heap.size + 1, 1, none⟩ = some (.string R)) (go_keep)
    (first
      | (go_at_call 32; (with_reducible refine (HFQ.out _).mono ?_); rintro e w5 ⟨rfl, hb5⟩; have hV5 := hV.drew.step hb5; have d0 := (hV5.at_ 0 rfl).cell0; have d1 := (hV5.at_ 0 rfl).cell1; have d2 := (hV5.at_ 1 rfl).cell0; have d3 := (hV5.at_ 1 rfl).cell1; rw [Nat.add_zero] at d0 d1)
      | (go_at_call 32; (with_reducible refine (HFR.out _).mono ?_); rintro e w6 ⟨rfl, hb6⟩; have hV6 := hV5.step hb6; have f0 := (hV6.at_ 0 rfl).cell0; have f1 := (hV6.at_ 0 rfl).cell1; have f2 := (hV6.at_ 1 rfl).cell0; have f3 := (hV6.at_ 1 rfl).cell1; rw [Nat.add_zero] at f0 f1))
  go_wp2
  go_ret
  exact ⟨rfl, (hBW.drew.trans (hb5.mono hBW.size)).trans (hb6.mono (Nat.le_trans hBW.size hb5.size))⟩

theorem pow3' (z : Int) (h : -1048576 < z ∧ z < 1048576) : (wmag z).size ≤ 3 := wmag_size z 3 (by rw [pow3]; omega)

set_option maxHeartbeats 2000000 in
theorem common_true (a b : Int) (w : World) (ha : -1048576 < a ∧ a < 1048576) (hb : -1048576 < b ∧ b < 1048576) (g x y : Int) (hg : (gcdS a b).1 = g) (hx : (gcdS a b).2.1 = x) (hy : (gcdS a b).2.2 = y)
    (bg : -1048576 < g ∧ g < 1048576) (bx : -1048576 < x ∧ x < 1048576) (by_ : -1048576 < y ∧ y < 1048576) :
    Calls Tryd.prog 40 #[.int .i64 a, .int .i64 b, .int .i64 g, .int .i64 x, .int .i64 y] w fun e w' => e = .returned (.bool true) ∧ Below w.heap.size w w' := by
  have hQ := fun W => Gcd_small (wneg a) (wneg b) (wmag a) (wmag b) W (pow3' a ha) (pow3' b hb)
  rw [wint_wv', wint_wv', hg, hx, hy] at hQ
  have hfa := fun W => From_any a W (by omega) (by omega)
  have hfb := fun W => From_any b W (by omega) (by omega)
  have hfg := fun W => From_any g W (by omega) (by omega)
  have hfx := fun W => From_any x W (by omega) (by omega)
  have hfy := fun W => From_any y W (by omega) (by omega)
  rw [wv_def] at hfa hfb hfg hfx hfy
  rw [wv_def g, wv_def x, wv_def y] at hQ
  have eq1 := eq_same (wneg g) (wmag g)
  have eq2 := eq_same (wneg x) (wmag x)
  have eq3 := eq_same (wneg y) (wmag y)
  generalize wneg g = sg at *
  generalize wmag g = G at *
  generalize wneg x = sx at *
  generalize wmag x = X at *
  generalize wneg y = sy at *
  generalize wmag y = Y at *
  generalize wneg a = sa at *
  generalize wmag a = A at *
  generalize wneg b = sb at *
  generalize wmag b = B at *
  have HA := Lib.hid hfa
  have HB := Lib.hid hfb
  have HFG := Lib.hid hfg
  have HFX := Lib.hid hfx
  have HFY := Lib.hid hfy
  have HQ := Lib.hid hQ
  clear hfa hfb hfg hfx hfy hQ hg hx hy ha hb bg bx by_
  go_enter Tryd.func40, Tryd.ntmps40
  go_wp2_with fail
  with_reducible refine (HA.out _).mono ?_
  rintro e w1 ⟨rfl, hb1⟩
  go_wp2_with fail
  with_reducible refine (HB.out _).mono ?_
  rintro e w2 ⟨rfl, hb2⟩
  go_wp2_with fail
  with_reducible refine (HQ.out _).mono ?_
  rintro e w3 ⟨rfl, hb3⟩
  have hB3 : Below w.heap.size w w3 := (hb1.trans (hb2.mono hb1.size)).trans (hb3.mono (Nat.le_trans hb1.size hb2.size))
  have hV := Vars.start3 w3 sg sx sy G X Y
  have hc0 := (hV.at_ 0 rfl).cell0
  have hc1 := (hV.at_ 0 rfl).cell1
  have hc2 := (hV.at_ 1 rfl).cell0
  have hc3 := (hV.at_ 1 rfl).cell1
  have hc4 := (hV.at_ 2 rfl).cell0
  have hc5 := (hV.at_ 2 rfl).cell1
  rw [Nat.add_zero] at hc0 hc1
  clear hb1 hb2 hb3
  go_wp2_with fail
  generalize hW : ((w3.alloc (wbox sg G)).alloc (wbox sx X)).alloc (wbox sy Y) = W at *
  have hBW : Below w.heap.size w W := by rw [← hW]; exact hB3.trans ((below3 _ _ _ _).mono hB3.size)
  clear hW
  go_region_held3 (fun w' => w'.cell? ⟨w3.heap.size, 0, none⟩ = some (.bool sg) ∧ w'.cell? ⟨w3.heap.size, 1, none⟩ = some (.string G) ∧ w'.cell? ⟨w3.heap.size + 1, 0, none⟩ = some (.bool sx) ∧ w'.cell? ⟨w3.heap.size + 1, 1, none⟩ = some (.string X) ∧ w'.cell? ⟨w3.heap.size + 2, 0, none⟩ = some (.bool sy) ∧ w'.cell? ⟨w3.heap.size + 2, 1, none⟩ = some (.string Y)) (go_keep)
    (first
      | (go_at_call 32; (with_reducible refine (HFG.out _).mono ?_); rintro e w5 ⟨rfl, hb5⟩; have hV5 := hV.drew.step hb5; have d0 := (hV5.at_ 0 rfl).cell0; have d1 := (hV5.at_ 0 rfl).cell1; have d2 := (hV5.at_ 1 rfl).cell0; have d3 := (hV5.at_ 1 rfl).cell1; have d4 := (hV5.at_ 2 rfl).cell0; have d5 := (hV5.at_ 2 rfl).cell1; rw [Nat.add_zero] at d0 d1)
      | (go_at_call 32; (with_reducible refine (HFX.out _).mono ?_); rintro e w6 ⟨rfl, hb6⟩; have hV6 := hV5.step hb6; have f0 := (hV6.at_ 0 rfl).cell0; have f1 := (hV6.at_ 0 rfl).cell1; have f2 := (hV6.at_ 1 rfl).cell0; have f3 := (hV6.at_ 1 rfl).cell1; have f4 := (hV6.at_ 2 rfl).cell0; have f5 := (hV6.at_ 2 rfl).cell1; rw [Nat.add_zero] at f0 f1)
      | (go_at_call 32; (with_reducible refine (HFY.out _).mono ?_); rintro e w7 ⟨rfl, hb7⟩; have hV7 := hV6.step hb7; have g0 := (hV7.at_ 0 rfl).cell0; have g1 := (hV7.at_ 0 rfl).cell1; have g2 := (hV7.at_ 1 rfl).cell0; have g3 := (hV7.at_ 1 rfl).cell1; have g4 := (hV7.at_ 2 rfl).cell0; have g5 := (hV7.at_ 2 rfl).cell1; rw [Nat.add_zero] at g0 g1))
  go_wp2
  go_ret
  exact ⟨rfl, ((hBW.drew.trans (hb5.mono hBW.size)).trans (hb6.mono (Nat.le_trans hBW.size hb5.size))).trans (hb7.mono (Nat.le_trans (Nat.le_trans hBW.size hb5.size) hb6.size))⟩
end Go.Proofs.YtgadnianjhaeiaaDoor
