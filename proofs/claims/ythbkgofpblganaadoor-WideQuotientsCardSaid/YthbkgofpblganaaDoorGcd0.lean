/-
  The contract of wide.Gcd for b = 0, and for small numbers.
-/
import Derived.Test.YthbkgofpblganaaDoorGcd
namespace Go.Proofs.YthbkgofpblganaaDoor
open Go.RowKit

set_option maxHeartbeats 2000000 in
theorem Gcd_zero (x y : Bool) (s t : ByteArray) (w : World) (hs : s.size ≤ 2199023255552) (ht : t.size ≤ 2199023255552) (hb : wint y t = 0) :
    Calls Tryd.prog 28 #[.agg #[.bool x, .string s], .agg #[.bool y, .string t]] w fun e w' => e = .returned (.tuple #[wv (wint x s).natAbs, wv (wint x s).sign, wv 0]) ∧ Below w.heap.size w w' := by
  have hsi := fun W => Sign_any y t W (by unfold maxLen; omega)
  have hsx := fun W => Sign_any x s W (by unfold maxLen; omega)
  have hab := fun W => absolute_any x s W (by unfold maxLen; omega)
  have hsc := sign_cases (wint x s)
  have hf := fun W => From_any (wint x s).sign W (by omega) (by omega)
  have hsz : (wint y t).sign = 0 := by rw [hb]; rfl
  rw [hsz] at hsi
  obtain ⟨sg1, S1, r1⟩ := wv_agg (wint x s).natAbs
  obtain ⟨sg2, S2, r2⟩ := wv_agg (wint x s).sign
  have r3 : wv 0 = .agg #[.bool false, .string ⟨#[]⟩] := rfl
  rw [r1] at hab
  rw [r2] at hf
  rw [r1, r2, r3]
  clear r1 r2 r3 hsz hb hsc
  generalize (wint x s).sign = sgn at *
  have HSI := Lib.hid hsi
  have HSX := Lib.hid hsx
  have HAB := Lib.hid hab
  have HF := Lib.hid hf
  clear hsi hsx hab hf
  have HV := Lib.hid (Vars.start5 w x y false false false s t ⟨#[]⟩ ⟨#[]⟩ ⟨#[]⟩)
  go_enter Tryd.func28, Tryd.ntmps28
  go_wp2_with fail
  with_reducible refine (HSI.out _).mono ?_
  rintro e w1 ⟨rfl, hb1⟩
  have hV1 := HV.out.step hb1
  have hc0 := (hV1.at_ 0 rfl).cell0
  have hc1 := (hV1.at_ 0 rfl).cell1
  rw [Nat.add_zero] at hc0 hc1
  go_wp2_with fail
  go_region_held3 (fun w' => w'.cell? ⟨w.heap.size, 0, none⟩ = some (.bool x) ∧ w'.cell? ⟨w.heap.size, 1, none⟩ = some (.string s)) (first | (refine ⟨?_, ?_⟩ <;> ((iterate 3 (try ((refine (cell_two _ _ _ _ _ _ ?_).trans ?_); omega))); assumption)) | go_keep)
    (first
      | (go_at_call 59; (with_reducible refine (HAB.out _).mono ?_); rintro e w2 ⟨rfl, hb2⟩; have hV2 := hV1.drew.step hb2; have a0 := (hV2.at_ 0 rfl).cell0; have a1 := (hV2.at_ 0 rfl).cell1; rw [Nat.add_zero] at a0 a1)
      | (go_at_call 20; (with_reducible refine (HSX.out _).mono ?_); rintro e w3 ⟨rfl, hb3⟩; have hV3 := hV2.step hb3; have b0 := (hV3.at_ 0 rfl).cell0; have b1 := (hV3.at_ 0 rfl).cell1; rw [Nat.add_zero] at b0 b1)
      | (go_at_call 32; (with_reducible refine (HF.out _).mono ?_); rintro e w4 ⟨rfl, hb4⟩; have hV4 := hV3.step hb4; have c0 := (hV4.at_ 0 rfl).cell0; have c1 := (hV4.at_ 0 rfl).cell1; rw [Nat.add_zero] at c0 c1; have d0 := (hV4.at_ 2 rfl).cell0; have d1 := (hV4.at_ 2 rfl).cell1; have d2 := (hV4.at_ 3 rfl).cell0; have d3 := (hV4.at_ 3 rfl).cell1; have d4 := (hV4.at_ 4 rfl).cell0; have d5 := (hV4.at_ 4 rfl).cell1; have f0 := (hV4.at_ 2 rfl).frozen 0; have f1 := (hV4.at_ 2 rfl).frozen 1; have f2 := (hV4.at_ 3 rfl).frozen 0; have f3 := (hV4.at_ 3 rfl).frozen 1; have f4 := (hV4.at_ 4 rfl).frozen 0; have f5 := (hV4.at_ 4 rfl).frozen 1))
  have hV5 := ((hV4.put 2 rfl sg1 S1).put 3 rfl sg2 S2).put 4 rfl false ⟨#[]⟩
  go_wp2
  exact post_wide3 (b := w.heap.size + 2) (c := w.heap.size + 3) (d := w.heap.size + 4) rfl rfl rfl rfl (hV5.at_ 2 rfl) (hV5.at_ 3 rfl) (hV5.at_ 4 rfl) rfl ⟨rfl, hV5.1⟩
end Go.Proofs.YthbkgofpblganaaDoor
