import Derived.Test.YtknaghdoffigjaaGreatDoorZMInt
set_option linter.unusedSimpArgs false
set_option linter.unusedVariables false
set_option linter.unnecessarySimpa false
namespace Go.Proofs.YtknaghdoffigjaaGreatDoor
open Go.RowKit
theorem fit_small (z : Int) (h0 : 0 ≤ z) (h1 : z < 2147483648) : fitv z = z ∧ fitb z = true := by
 unfold fitv fitb
 rw [if_pos (by omega)]
 exact ⟨rfl, by rw [decide_eq_true_iff]; omega⟩
theorem Ob.put {w : World} {b c : Nat} {p q : Int} {x : Bool} {s : ByteArray} (h : Ob w b p q) (hw : Wd w c x s) (y : Bool) (t : ByteArray) : Ob ((w.setCell ⟨c, 0, none⟩ (.bool y)).setCell ⟨c, 1, none⟩ (.string t)) b p q := by
 have hne : b ≠ c := by
  rintro rfl
  have e := h.symm.trans hw
  simp at e
 exact (Below.heap_setCell _ _ _ _ hne).trans ((Below.heap_setCell _ _ _ _ hne).trans h)
set_option maxRecDepth 100000 in
set_option maxHeartbeats 8000000 in
theorem residue_any (p : Nat) (x : Bool) (s : ByteArray) (w : World) (hp : 0 < p) (hp2 : p < 2147483648) (hs : s.size ≤ 900) (a : Int) (ha : wint x s = a) :
  Calls Tryz.prog 70 #[mmod p, .agg #[.bool x, .string s]] w fun e w' => e = .returned (.int .u64 (a % (p : Int))) ∧ Below w.heap.size w w' := by
 unfold mmod
 generalize ((18446744073709551615 / p : Nat) : Int) = q at *
 have r0 := Int.emod_nonneg a (show (p : Int) ≠ 0 by omega)
 have r1 := Int.emod_lt_of_pos a (show (0 : Int) < (p : Int) by omega)
 have hf := fun W => From_any (p : Int) W (by omega) (by omega)
 rw [wv_def] at hf
 have sp := wmag_size (p : Int) 7 (by rw [pow7]; omega)
 have hq := fun W => Quo_any x (wneg (p : Int)) s (wmag (p : Int)) W (by omega) (by omega) (by rw [wint_wv']; omega)
 rw [wint_wv', ha, wv_def, wv_def] at hq
 have sr := wmag_size (a % (p : Int)) 7 (by rw [pow7]; omega)
 have hi := fun W => Int_any (wneg (a % (p : Int))) (wmag (a % (p : Int))) W (by omega) (a % (p : Int)) (wint_wv' _)
 have hfit := fit_small (a % (p : Int)) r0 (by omega)
 rw [hfit.1, hfit.2] at hi
 have w1 : IntKind.i64.wrap (p : Int) = p := IntWalk.i64_in _ (by omega)
 have w2 : IntKind.u64.wrap (a % (p : Int)) = a % (p : Int) := IntWalk.u64_in _ (by omega)
 generalize a % (p : Int) = r at *
 generalize a / (p : Int) = k at *
 have HF := Lib.hid hf
 have HQ := Lib.hid hq
 have HI := Lib.hid hi
 clear hf hq hi hfit sp sr ha r1
 have hO := Ob.new w (p : Int) q
 have hV : Bxs w ((w.alloc (.cells #[.int .u64 (p : Int), .int .u64 q] 82)).alloc (wbox x s)) [(w.heap.size + 1, x, s)] := by
  have h := ((Bxs.none_ w).alloc (.cells #[.int .u64 (p : Int), .int .u64 q] 82)).more x s
  simpa using h
 have hO1 : Ob ((w.alloc (.cells #[.int .u64 (p : Int), .int .u64 q] 82)).alloc (wbox x s)) w.heap.size (p : Int) q := (Below.heap_alloc _ _ _ (by simp)).trans hO
 clear hO
 go_enter Tryz.func70, Tryz.ntmps70
 have c0 := (hV.at_ 0 rfl).cell0
 have c1 := (hV.at_ 0 rfl).cell1
 have c2 := hO1.cell0
 generalize hW : (w.alloc (.cells #[.int .u64 (p : Int), .int .u64 q] 82)).alloc (wbox x s) = W1 at *
 go_wp2_with fail
 have hB := hV
 have hO := hO1
 clear hV hO1
 go_cut [5, 6] (fun s5 s6 wx => ∃ b6, s6 = .pointer (some ⟨b6, 0, none⟩) ∧ Wd wx b6 (wneg r) (wmag r) ∧ Below w.heap.size w wx)
 case first =>
  go_region_held3 (fun w' => w'.cell? ⟨w.heap.size + 1, 0, none⟩ = some (.bool x) ∧ w'.cell? ⟨w.heap.size + 1, 1, none⟩ = some (.string s) ∧ w'.cell? ⟨w.heap.size, 0, none⟩ = some (.int .u64 (p : Int))) (first | (refine ⟨?_, ?_, ?_⟩ <;> with_reducible assumption) | with_reducible exact ⟨((hB.alloc _).at_ 0 rfl).cell0, ((hB.alloc _).at_ 0 rfl).cell1, (hO.alloc _).cell0⟩ | with_reducible exact ⟨(((hB.alloc _).alloc _).at_ 0 rfl).cell0, (((hB.alloc _).alloc _).at_ 0 rfl).cell1, ((hO.alloc _).alloc _).cell0⟩ | with_reducible exact ⟨((hB.drew.alloc _).at_ 0 rfl).cell0, ((hB.drew.alloc _).at_ 0 rfl).cell1, (hO.drew.alloc _).cell0⟩ | with_reducible exact ⟨((hB.put 1 rfl _ _).at_ 0 rfl).cell0, ((hB.put 1 rfl _ _).at_ 0 rfl).cell1, (hO.put (hB.at_ 1 rfl) _ _).cell0⟩ | with_reducible exact ⟨(((hB.put 1 rfl _ _).put 2 rfl _ _).at_ 0 rfl).cell0, (((hB.put 1 rfl _ _).put 2 rfl _ _).at_ 0 rfl).cell1, ((hO.put (hB.at_ 1 rfl) _ _).put ((hB.put 1 rfl _ _).at_ 2 rfl) _ _).cell0⟩ | with_reducible exact ⟨((hB.put 2 rfl _ _).at_ 0 rfl).cell0, ((hB.put 2 rfl _ _).at_ 0 rfl).cell1, (hO.put (hB.at_ 2 rfl) _ _).cell0⟩ | with_reducible exact ⟨(((hB.put 2 rfl _ _).put 1 rfl _ _).at_ 0 rfl).cell0, (((hB.put 2 rfl _ _).put 1 rfl _ _).at_ 0 rfl).cell1, ((hO.put (hB.at_ 2 rfl) _ _).put ((hB.put 2 rfl _ _).at_ 1 rfl) _ _).cell0⟩ | with_reducible exact ⟨(((hB.more _ _).put 1 rfl _ _).at_ 0 rfl).cell0, (((hB.more _ _).put 1 rfl _ _).at_ 0 rfl).cell1, ((hO.alloc _).put ((hB.more _ _).at_ 1 rfl) _ _).cell0⟩ | with_reducible exact ⟨((((hB.more _ _).put 1 rfl _ _).put 2 rfl _ _).at_ 0 rfl).cell0, ((((hB.more _ _).put 1 rfl _ _).put 2 rfl _ _).at_ 0 rfl).cell1, (((hO.alloc _).put ((hB.more _ _).at_ 1 rfl) _ _).put (((hB.more _ _).put 1 rfl _ _).at_ 2 rfl) _ _).cell0⟩ | with_reducible exact ⟨(((hB.more _ _).put 2 rfl _ _).at_ 0 rfl).cell0, (((hB.more _ _).put 2 rfl _ _).at_ 0 rfl).cell1, ((hO.alloc _).put ((hB.more _ _).at_ 2 rfl) _ _).cell0⟩ | with_reducible exact ⟨((((hB.more _ _).put 2 rfl _ _).put 1 rfl _ _).at_ 0 rfl).cell0, ((((hB.more _ _).put 2 rfl _ _).put 1 rfl _ _).at_ 0 rfl).cell1, (((hO.alloc _).put ((hB.more _ _).at_ 2 rfl) _ _).put (((hB.more _ _).put 2 rfl _ _).at_ 1 rfl) _ _).cell0⟩ | go_keep)
   (first
    | (go_at_call 53; (with_reducible refine (HF.out _).mono ?_); rintro e w12 ⟨rfl, hbn⟩; (first | (replace hB := hB.step hbn; replace hO := hO.step hbn) | (replace hB := (hB).drew.step hbn; replace hO := (hO).drew.step hbn) | (replace hB := (hB.more false ⟨#[]⟩).step hbn; replace hO := (hO.alloc (wbox false ⟨#[]⟩)).step hbn) | (replace hB := (hB.more false ⟨#[]⟩).drew.step hbn; replace hO := (hO.alloc (wbox false ⟨#[]⟩)).drew.step hbn) | (replace hB := (hB.more2 false false ⟨#[]⟩ ⟨#[]⟩).step hbn; replace hO := ((hO.alloc (wbox false ⟨#[]⟩)).alloc (wbox false ⟨#[]⟩)).step hbn) | (replace hB := (hB.more2 false false ⟨#[]⟩ ⟨#[]⟩).drew.step hbn; replace hO := ((hO.alloc (wbox false ⟨#[]⟩)).alloc (wbox false ⟨#[]⟩)).drew.step hbn) | (replace hB := (hB.more2d false false ⟨#[]⟩ ⟨#[]⟩).step hbn; replace hO := (((hO.alloc (wbox false ⟨#[]⟩)).drew).alloc (wbox false ⟨#[]⟩)).step hbn) | (replace hB := (hB.more2d false false ⟨#[]⟩ ⟨#[]⟩).drew.step hbn; replace hO := (((hO.alloc (wbox false ⟨#[]⟩)).drew).alloc (wbox false ⟨#[]⟩)).drew.step hbn) | (replace hB := (hB.drew).step hbn; replace hO := (hO.drew).step hbn) | (replace hB := (hB.drew).drew.step hbn; replace hO := (hO.drew).drew.step hbn) | (replace hB := (hB.drew.more false ⟨#[]⟩).step hbn; replace hO := (hO.drew.alloc (wbox false ⟨#[]⟩)).step hbn) | (replace hB := (hB.drew.more false ⟨#[]⟩).drew.step hbn; replace hO := (hO.drew.alloc (wbox false ⟨#[]⟩)).drew.step hbn) | (replace hB := (hB.drew.more2 false false ⟨#[]⟩ ⟨#[]⟩).step hbn; replace hO := ((hO.drew.alloc (wbox false ⟨#[]⟩)).alloc (wbox false ⟨#[]⟩)).step hbn) | (replace hB := (hB.drew.more2 false false ⟨#[]⟩ ⟨#[]⟩).drew.step hbn; replace hO := ((hO.drew.alloc (wbox false ⟨#[]⟩)).alloc (wbox false ⟨#[]⟩)).drew.step hbn) | (replace hB := (hB.drew.more2d false false ⟨#[]⟩ ⟨#[]⟩).step hbn; replace hO := (((hO.drew.alloc (wbox false ⟨#[]⟩)).drew).alloc (wbox false ⟨#[]⟩)).step hbn) | (replace hB := (hB.drew.more2d false false ⟨#[]⟩ ⟨#[]⟩).drew.step hbn; replace hO := (((hO.drew.alloc (wbox false ⟨#[]⟩)).drew).alloc (wbox false ⟨#[]⟩)).drew.step hbn)); clear hbn c0 c1 c2; have c0 := (hB.at_ 0 rfl).cell0; have c1 := (hB.at_ 0 rfl).cell1; have c2 := hO.cell0; (try (have e10 := (hB.at_ 1 rfl).cell0; have e11 := (hB.at_ 1 rfl).cell1; have e12 := (hB.at_ 1 rfl).frozen 0; have e13 := (hB.at_ 1 rfl).frozen 1)); (try (have e20 := (hB.at_ 2 rfl).cell0; have e21 := (hB.at_ 2 rfl).cell1; have e22 := (hB.at_ 2 rfl).frozen 0; have e23 := (hB.at_ 2 rfl).frozen 1)); (try (have n3 := hB.ne 1 2 rfl rfl (by decide); have n4 := n3.symm)); (try (have n1 := Nat.ne_of_lt (hB.at_ 1 rfl).lt; have n2 := n1.symm)); (try (have g00 := ((hB.alloc (wbox false ⟨#[]⟩)).at_ 1 rfl).cell0; have g01 := ((hB.alloc (wbox false ⟨#[]⟩)).at_ 1 rfl).cell1; have g02 := ((hB.alloc (wbox false ⟨#[]⟩)).at_ 1 rfl).frozen 0; have g03 := ((hB.alloc (wbox false ⟨#[]⟩)).at_ 1 rfl).frozen 1)); (try (have g10 := ((hB.alloc (wbox (wneg k) (wmag k))).at_ 1 rfl).cell0; have g11 := ((hB.alloc (wbox (wneg k) (wmag k))).at_ 1 rfl).cell1; have g12 := ((hB.alloc (wbox (wneg k) (wmag k))).at_ 1 rfl).frozen 0; have g13 := ((hB.alloc (wbox (wneg k) (wmag k))).at_ 1 rfl).frozen 1)))
    | (go_at_call 73; (with_reducible refine (HQ.out _).mono ?_); rintro e w13 ⟨rfl, hbn⟩; (first | (replace hB := hB.step hbn; replace hO := hO.step hbn) | (replace hB := (hB).drew.step hbn; replace hO := (hO).drew.step hbn) | (replace hB := (hB.more false ⟨#[]⟩).step hbn; replace hO := (hO.alloc (wbox false ⟨#[]⟩)).step hbn) | (replace hB := (hB.more false ⟨#[]⟩).drew.step hbn; replace hO := (hO.alloc (wbox false ⟨#[]⟩)).drew.step hbn) | (replace hB := (hB.more2 false false ⟨#[]⟩ ⟨#[]⟩).step hbn; replace hO := ((hO.alloc (wbox false ⟨#[]⟩)).alloc (wbox false ⟨#[]⟩)).step hbn) | (replace hB := (hB.more2 false false ⟨#[]⟩ ⟨#[]⟩).drew.step hbn; replace hO := ((hO.alloc (wbox false ⟨#[]⟩)).alloc (wbox false ⟨#[]⟩)).drew.step hbn) | (replace hB := (hB.more2d false false ⟨#[]⟩ ⟨#[]⟩).step hbn; replace hO := (((hO.alloc (wbox false ⟨#[]⟩)).drew).alloc (wbox false ⟨#[]⟩)).step hbn) | (replace hB := (hB.more2d false false ⟨#[]⟩ ⟨#[]⟩).drew.step hbn; replace hO := (((hO.alloc (wbox false ⟨#[]⟩)).drew).alloc (wbox false ⟨#[]⟩)).drew.step hbn) | (replace hB := (hB.drew).step hbn; replace hO := (hO.drew).step hbn) | (replace hB := (hB.drew).drew.step hbn; replace hO := (hO.drew).drew.step hbn) | (replace hB := (hB.drew.more false ⟨#[]⟩).step hbn; replace hO := (hO.drew.alloc (wbox false ⟨#[]⟩)).step hbn) | (replace hB := (hB.drew.more false ⟨#[]⟩).drew.step hbn; replace hO := (hO.drew.alloc (wbox false ⟨#[]⟩)).drew.step hbn) | (replace hB := (hB.drew.more2 false false ⟨#[]⟩ ⟨#[]⟩).step hbn; replace hO := ((hO.drew.alloc (wbox false ⟨#[]⟩)).alloc (wbox false ⟨#[]⟩)).step hbn) | (replace hB := (hB.drew.more2 false false ⟨#[]⟩ ⟨#[]⟩).drew.step hbn; replace hO := ((hO.drew.alloc (wbox false ⟨#[]⟩)).alloc (wbox false ⟨#[]⟩)).drew.step hbn) | (replace hB := (hB.drew.more2d false false ⟨#[]⟩ ⟨#[]⟩).step hbn; replace hO := (((hO.drew.alloc (wbox false ⟨#[]⟩)).drew).alloc (wbox false ⟨#[]⟩)).step hbn) | (replace hB := (hB.drew.more2d false false ⟨#[]⟩ ⟨#[]⟩).drew.step hbn; replace hO := (((hO.drew.alloc (wbox false ⟨#[]⟩)).drew).alloc (wbox false ⟨#[]⟩)).drew.step hbn)); clear hbn c0 c1 c2; have c0 := (hB.at_ 0 rfl).cell0; have c1 := (hB.at_ 0 rfl).cell1; have c2 := hO.cell0; (try (have e10 := (hB.at_ 1 rfl).cell0; have e11 := (hB.at_ 1 rfl).cell1; have e12 := (hB.at_ 1 rfl).frozen 0; have e13 := (hB.at_ 1 rfl).frozen 1)); (try (have e20 := (hB.at_ 2 rfl).cell0; have e21 := (hB.at_ 2 rfl).cell1; have e22 := (hB.at_ 2 rfl).frozen 0; have e23 := (hB.at_ 2 rfl).frozen 1)); (try (have n3 := hB.ne 1 2 rfl rfl (by decide); have n4 := n3.symm)); (try (have n1 := Nat.ne_of_lt (hB.at_ 1 rfl).lt; have n2 := n1.symm)); (try (have g00 := ((hB.alloc (wbox false ⟨#[]⟩)).at_ 1 rfl).cell0; have g01 := ((hB.alloc (wbox false ⟨#[]⟩)).at_ 1 rfl).cell1; have g02 := ((hB.alloc (wbox false ⟨#[]⟩)).at_ 1 rfl).frozen 0; have g03 := ((hB.alloc (wbox false ⟨#[]⟩)).at_ 1 rfl).frozen 1)); (try (have g10 := ((hB.alloc (wbox (wneg k) (wmag k))).at_ 1 rfl).cell0; have g11 := ((hB.alloc (wbox (wneg k) (wmag k))).at_ 1 rfl).cell1; have g12 := ((hB.alloc (wbox (wneg k) (wmag k))).at_ 1 rfl).frozen 0; have g13 := ((hB.alloc (wbox (wneg k) (wmag k))).at_ 1 rfl).frozen 1))))
  ·go_wp2_with fail
   go_meet
   case rel => exact ⟨_, rfl, (hB.more2 (wneg k) (wneg r) (wmag k) (wmag r)).at_ 2 rfl, (hB.more2 (wneg k) (wneg r) (wmag k) (wmag r)).1⟩
  ·go_wp2_with fail
   go_meet
   case rel => exact ⟨_, rfl, (hB.more2 (wneg r) (wneg k) (wmag r) (wmag k)).at_ 1 rfl, (hB.more2 (wneg r) (wneg k) (wmag r) (wmag k)).1⟩
  ·go_wp2_with fail
   go_meet
   case rel => exact ⟨_, rfl, (((hB.more false ⟨#[]⟩).put 1 rfl (wneg k) (wmag k)).put 2 rfl (wneg r) (wmag r)).at_ 2 rfl, (((hB.more false ⟨#[]⟩).put 1 rfl (wneg k) (wmag k)).put 2 rfl (wneg r) (wmag r)).1⟩
  ·go_wp2_with fail
   go_meet
   case rel => exact ⟨_, rfl, ((hB.put 1 rfl (wneg k) (wmag k)).put 2 rfl (wneg r) (wmag r)).at_ 2 rfl, ((hB.put 1 rfl (wneg k) (wmag k)).put 2 rfl (wneg r) (wmag r)).1⟩
  ·go_wp2_with fail
   go_meet
   case rel => exact ⟨_, rfl, ((hB.more (wneg k) (wmag k)).put 1 rfl (wneg r) (wmag r)).at_ 1 rfl, ((hB.more (wneg k) (wmag k)).put 1 rfl (wneg r) (wmag r)).1⟩
  ·go_wp2_with fail
   go_meet
   case rel => exact ⟨_, rfl, ((hB.put 2 rfl (wneg k) (wmag k)).put 1 rfl (wneg r) (wmag r)).at_ 1 rfl, ((hB.put 2 rfl (wneg k) (wmag k)).put 1 rfl (wneg r) (wmag r)).1⟩
  ·go_wp2_with fail
   go_meet
   case rel => exact ⟨_, rfl, (((hB.more false ⟨#[]⟩).put 1 rfl (wneg k) (wmag k)).put 2 rfl (wneg r) (wmag r)).at_ 2 rfl, (((hB.more false ⟨#[]⟩).put 1 rfl (wneg k) (wmag k)).put 2 rfl (wneg r) (wmag r)).1⟩
  ·go_wp2_with fail
   go_meet
   case rel => exact ⟨_, rfl, ((hB.put 1 rfl (wneg k) (wmag k)).put 2 rfl (wneg r) (wmag r)).at_ 2 rfl, ((hB.put 1 rfl (wneg k) (wmag k)).put 2 rfl (wneg r) (wmag r)).1⟩
  ·go_wp2_with fail
   go_meet
   case rel => exact ⟨_, rfl, ((hB.put 1 rfl (wneg k) (wmag k)).put 2 rfl (wneg r) (wmag r)).at_ 2 rfl, ((hB.put 1 rfl (wneg k) (wmag k)).put 2 rfl (wneg r) (wmag r)).1⟩
  ·go_wp2_with fail
   go_meet
   case rel => exact ⟨_, rfl, ((hB.more (wneg k) (wmag k)).put 1 rfl (wneg r) (wmag r)).at_ 1 rfl, ((hB.more (wneg k) (wmag k)).put 1 rfl (wneg r) (wmag r)).1⟩
  ·go_wp2_with fail
   go_meet
   case rel => exact ⟨_, rfl, ((hB.put 2 rfl (wneg k) (wmag k)).put 1 rfl (wneg r) (wmag r)).at_ 1 rfl, ((hB.put 2 rfl (wneg k) (wmag k)).put 1 rfl (wneg r) (wmag r)).1⟩
  ·go_wp2_with fail
   go_meet
   case rel => exact ⟨_, rfl, ((hB.put 2 rfl (wneg k) (wmag k)).put 1 rfl (wneg r) (wmag r)).at_ 1 rfl, ((hB.put 2 rfl (wneg k) (wmag k)).put 1 rfl (wneg r) (wmag r)).1⟩
 case rest =>
  obtain ⟨b6, rfl, hW6, hbel⟩ := hcut
  clear hB hO c0 c1 c2
  have c0 := hW6.cell0
  have c1 := hW6.cell1
  go_wp2_with fail
  with_reducible refine (HI.out _).mono ?_
  rintro e w14 ⟨rfl, hb14⟩
  clear c0 c1
  go_wp2
  go_ret
  exact ⟨rfl, hbel.trans (hb14.mono hbel.size)⟩
end Go.Proofs.YtknaghdoffigjaaGreatDoor
