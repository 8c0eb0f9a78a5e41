import Derived.Test.YtknaghdoffigjaaGreatDoorZRPlus
set_option linter.unusedSimpArgs false
set_option linter.unusedVariables false
set_option linter.unnecessarySimpa false
namespace Go.Proofs.YtknaghdoffigjaaGreatDoor
open Go.RowKit
theorem sgi_same (x : Bool) (N M : Nat) : sgi x (N + M) = sgi x N + sgi x M := by
 unfold sgi; cases x <;> simp <;> omega
theorem sgi_ge (x y : Bool) (N M : Nat) (hxy : x ≠ y) (h : M ≤ N) : sgi x (N - M) = sgi x N + sgi y M := by
 unfold sgi; cases x <;> cases y <;> simp_all <;> omega
theorem sgi_lt (x y : Bool) (N M : Nat) (hxy : x ≠ y) (h : N < M) : sgi y (M - N) = sgi x N + sgi y M := by
 unfold sgi; cases x <;> cases y <;> simp_all <;> omega
set_option maxRecDepth 100000 in
set_option maxHeartbeats 2000000 in
theorem RAdd_same (x : Bool) (s t : ByteArray) (w : World) (hs : s.size ≤ 400) (ht : t.size ≤ 400) (r : Int) (hr : wint x s + wint x t = r) :
  Calls Tryz.prog 90 #[.agg #[.bool x, .string s], .agg #[.bool x, .string t]] w fun e w' => e = .returned (.agg #[.bool (wneg r), .string (wmag r)]) ∧ Below w.heap.size w w' := by
 have hps := fun W => rdigits x s W (by omega)
 have hpt := fun W => rdigits x t W (by omega)
 rw [wint_sgi, wint_sgi, ← sgi_same] at hr
 generalize bval s.data.toList = N at *
 generalize bval t.data.toList = M at *
 have hwd := fun A n c W h hn => rwide x A n c (N + M) W h hn r hr
 generalize wneg r = sg at *
 generalize wmag r = S at *
 have HS := Lib.hid hps
 have HT := Lib.hid hpt
 have HG := Lib.hid hwd
 clear hps hpt hwd hr
 have HV := Lib.hid (Vars.start3 w x x false s t ⟨#[]⟩)
 have hxx : (x == x) = true := by simp
 go_enter Tryz.func90, Tryz.ntmps90
 go_wp2_with fail
 with_reducible refine (HS.out _).mono ?_
 rintro e w1 ⟨A1, n1, c1, rfl, hn1, hr1, hb1⟩
 have hV1 := HV.out.step hb1
 have hc0 := (hV1.at_ 1 rfl).cell0
 have hc1 := (hV1.at_ 1 rfl).cell1
 go_wp2_with fail
 with_reducible refine (HT.out _).mono ?_
 rintro e w2 ⟨A2, n2, c2, rfl, hn2, hr2, hb2⟩
 have hV2 := hV1.step hb2
 have hr1' := hr1.below hb2
 have hd0 := (hV2.at_ 0 rfl).cell0
 have hd1 := (hV2.at_ 1 rfl).cell0
 rw [Nat.add_zero] at hd0
 clear hc0 hc1 hr1 hV1 hb1 hb2
 go_wp2_with fail
 go_region_held3 (fun w' => w'.cell? ⟨w.heap.size, 0, none⟩ = some (.bool x)) (first | ((refine (cell_two _ _ _ _ _ _ ?_).trans ?_); omega; assumption) | go_keep)
  (first
   | (go_at_call 122; (with_reducible refine (rplus _ _ _ _ _ _ N M _ hr1'.drew.z hr2.drew.z (by omega) (by omega)).mono ?_); rotate_right; rintro e w3 ⟨A3, n3, c3, rfl, hn3, hr3, hb3⟩; have hV3 := hV2.drew.step hb3; have hd0' := (hV3.at_ 0 rfl).cell0; rw [Nat.add_zero] at hd0')
   | (go_at_call 103; (with_reducible refine (HG.out _ _ _ _ hr3 (by omega)).mono ?_); rintro e w4 ⟨rfl, hb4⟩; have hV4 := hV3.step hb4; have hd0'' := (hV4.at_ 0 rfl).cell0; rw [Nat.add_zero] at hd0''; have hz0 := (hV4.at_ 2 rfl).cell0; have hz1 := (hV4.at_ 2 rfl).cell1; have hzf0 := (hV4.at_ 2 rfl).frozen 0; have hzf1 := (hV4.at_ 2 rfl).frozen 1))
 go_wp2
 exact post_wide (b := w.heap.size + 2) rfl rfl (hV4.done 2 rfl).1 rfl ⟨rfl, (hV4.done 2 rfl).2⟩
-- GENERATED BELOW (gen/radd.py)
set_option maxRecDepth 100000 in
set_option maxHeartbeats 2000000 in
theorem RAdd_ge (x y : Bool) (s t : ByteArray) (w : World) (hxy : x ≠ y) (hs : s.size ≤ 400) (ht : t.size ≤ 400) (hle : bval t.data.toList ≤ bval s.data.toList) (r : Int) (hr : wint x s + wint y t = r) :
  Calls Tryz.prog 90 #[.agg #[.bool x, .string s], .agg #[.bool y, .string t]] w fun e w' => e = .returned (.agg #[.bool (wneg r), .string (wmag r)]) ∧ Below w.heap.size w w' := by
 have hps := fun W => rdigits x s W (by omega)
 have hpt := fun W => rdigits y t W (by omega)
 rw [wint_sgi, wint_sgi] at hr
 generalize bval s.data.toList = N at *
 generalize bval t.data.toList = M at *
 rw [← sgi_ge x y N M hxy hle] at hr
 have hwd := fun A n c W h hn => rwide x A n c (N - M) W h hn r hr
 generalize wneg r = sg at *
 generalize wmag r = S at *
 have HS := Lib.hid hps
 have HT := Lib.hid hpt
 have HG := Lib.hid hwd
 have hcmp := sgn2_ge hle
 have hcb := sgn2_bound N M
 have Hle := Lib.hid hle
 clear hps hpt hwd hr hle
 have HV := Lib.hid (Vars.start3 w x y false s t ⟨#[]⟩)
 have hxx : (x == y) = false := by simpa using hxy
 go_enter Tryz.func90, Tryz.ntmps90
 go_wp2_with fail
 with_reducible refine (HS.out _).mono ?_
 rintro e w1 ⟨A1, n1, c1, rfl, hn1, hr1, hb1⟩
 have hV1 := HV.out.step hb1
 have hc0 := (hV1.at_ 1 rfl).cell0
 have hc1 := (hV1.at_ 1 rfl).cell1
 go_wp2_with fail
 with_reducible refine (HT.out _).mono ?_
 rintro e w2 ⟨A2, n2, c2, rfl, hn2, hr2, hb2⟩
 have hV2 := hV1.step hb2
 have hr1' := hr1.below hb2
 have hd0 := (hV2.at_ 0 rfl).cell0
 have hd1 := (hV2.at_ 1 rfl).cell0
 rw [Nat.add_zero] at hd0
 clear hc0 hc1 hr1 hV1 hb1 hb2
 have hcp := Lib.hid (rcompare _ _ _ _ _ _ N M w2 hr1' hr2 (by omega) (by omega))
 generalize sgn2 N M = cm at *
 go_wp2_with fail
 with_reducible refine hcp.out.mono ?_
 rintro e w3 ⟨rfl, hb3⟩
 have hV3 := hV2.step hb3
 have hr1'' := hr1'.below hb3
 have hr2' := hr2.below hb3
 have he0 := (hV3.at_ 0 rfl).cell0
 have he1 := (hV3.at_ 1 rfl).cell0
 rw [Nat.add_zero] at he0
 clear hd0 hd1 hr1' hr2 hV2 hb3 hcp
 go_wp2_with fail
 go_region_held3 (fun w' => w'.cell? ⟨w.heap.size, 0, none⟩ = some (.bool x)) (first | ((refine (cell_two _ _ _ _ _ _ ?_).trans ?_); omega; assumption) | go_keep)
  (first
   | (go_at_call 123; (with_reducible refine (rminus _ _ _ _ _ _ N M _ hr1''.drew hr2'.drew (by omega) Hle.out).mono ?_); rotate_right; rintro e w4 ⟨A3, n3, c3, rfl, hn3, hr3, hb4⟩; have hV4 := hV3.drew.step hb4; have hd0' := (hV4.at_ 0 rfl).cell0; rw [Nat.add_zero] at hd0')
   | (go_at_call 103; (with_reducible refine (HG.out _ _ _ _ hr3.z (by omega)).mono ?_); rintro e w5 ⟨rfl, hb5⟩; have hV5 := hV4.step hb5; have hd0'' := (hV5.at_ 0 rfl).cell0; rw [Nat.add_zero] at hd0''; have hz0 := (hV5.at_ 2 rfl).cell0; have hz1 := (hV5.at_ 2 rfl).cell1; have hzf0 := (hV5.at_ 2 rfl).frozen 0; have hzf1 := (hV5.at_ 2 rfl).frozen 1))
 go_wp2
 exact post_wide (b := w.heap.size + 2) rfl rfl (hV5.done 2 rfl).1 rfl ⟨rfl, (hV5.done 2 rfl).2⟩
set_option maxRecDepth 100000 in
set_option maxHeartbeats 2000000 in
theorem RAdd_lt (x y : Bool) (s t : ByteArray) (w : World) (hxy : x ≠ y) (hs : s.size ≤ 400) (ht : t.size ≤ 400) (hle : bval s.data.toList < bval t.data.toList) (r : Int) (hr : wint x s + wint y t = r) :
  Calls Tryz.prog 90 #[.agg #[.bool x, .string s], .agg #[.bool y, .string t]] w fun e w' => e = .returned (.agg #[.bool (wneg r), .string (wmag r)]) ∧ Below w.heap.size w w' := by
 have hps := fun W => rdigits x s W (by omega)
 have hpt := fun W => rdigits y t W (by omega)
 rw [wint_sgi, wint_sgi] at hr
 generalize bval s.data.toList = N at *
 generalize bval t.data.toList = M at *
 rw [← sgi_lt x y N M hxy hle] at hr
 have hwd := fun A n c W h hn => rwide y A n c (M - N) W h hn r hr
 generalize wneg r = sg at *
 generalize wmag r = S at *
 have HS := Lib.hid hps
 have HT := Lib.hid hpt
 have HG := Lib.hid hwd
 have hcmp := sgn2_lt hle
 have hcb := sgn2_bound N M
 have Hle := Lib.hid hle
 clear hps hpt hwd hr hle
 have HV := Lib.hid (Vars.start3 w x y false s t ⟨#[]⟩)
 have hxx : (x == y) = false := by simpa using hxy
 go_enter Tryz.func90, Tryz.ntmps90
 go_wp2_with fail
 with_reducible refine (HS.out _).mono ?_
 rintro e w1 ⟨A1, n1, c1, rfl, hn1, hr1, hb1⟩
 have hV1 := HV.out.step hb1
 have hc0 := (hV1.at_ 1 rfl).cell0
 have hc1 := (hV1.at_ 1 rfl).cell1
 go_wp2_with fail
 with_reducible refine (HT.out _).mono ?_
 rintro e w2 ⟨A2, n2, c2, rfl, hn2, hr2, hb2⟩
 have hV2 := hV1.step hb2
 have hr1' := hr1.below hb2
 have hd0 := (hV2.at_ 0 rfl).cell0
 have hd1 := (hV2.at_ 1 rfl).cell0
 rw [Nat.add_zero] at hd0
 clear hc0 hc1 hr1 hV1 hb1 hb2
 have hcp := Lib.hid (rcompare _ _ _ _ _ _ N M w2 hr1' hr2 (by omega) (by omega))
 generalize sgn2 N M = cm at *
 go_wp2_with fail
 with_reducible refine hcp.out.mono ?_
 rintro e w3 ⟨rfl, hb3⟩
 have hV3 := hV2.step hb3
 have hr1'' := hr1'.below hb3
 have hr2' := hr2.below hb3
 have he0 := (hV3.at_ 0 rfl).cell0
 have he1 := (hV3.at_ 1 rfl).cell0
 rw [Nat.add_zero] at he0
 clear hd0 hd1 hr1' hr2 hV2 hb3 hcp
 go_wp2_with fail
 go_region_held3 (fun w' => w'.cell? ⟨w.heap.size + 1, 0, none⟩ = some (.bool y)) (first | ((refine (cell_two _ _ _ _ _ _ ?_).trans ?_); omega; assumption) | go_keep)
  (first
   | (go_at_call 123; (with_reducible refine (rminus _ _ _ _ _ _ M N _ hr2'.drew hr1''.drew (by omega) (Nat.le_of_lt Hle.out)).mono ?_); rotate_right; rintro e w4 ⟨A3, n3, c3, rfl, hn3, hr3, hb4⟩; have hV4 := hV3.drew.step hb4; have hd0' := (hV4.at_ 1 rfl).cell0)
   | (go_at_call 103; (with_reducible refine (HG.out _ _ _ _ hr3.z (by omega)).mono ?_); rintro e w5 ⟨rfl, hb5⟩; have hV5 := hV4.step hb5; have hd0'' := (hV5.at_ 1 rfl).cell0; have hz0 := (hV5.at_ 2 rfl).cell0; have hz1 := (hV5.at_ 2 rfl).cell1; have hzf0 := (hV5.at_ 2 rfl).frozen 0; have hzf1 := (hV5.at_ 2 rfl).frozen 1))
 go_wp2
 exact post_wide (b := w.heap.size + 2) rfl rfl (hV5.done 2 rfl).1 rfl ⟨rfl, (hV5.done 2 rfl).2⟩
theorem RAdd_any (x y : Bool) (s t : ByteArray) (w : World) (hs : s.size ≤ 400) (ht : t.size ≤ 400) (r : Int) (hr : wint x s + wint y t = r) :
  Calls Tryz.prog 90 #[.agg #[.bool x, .string s], .agg #[.bool y, .string t]] w fun e w' => e = .returned (.agg #[.bool (wneg r), .string (wmag r)]) ∧ Below w.heap.size w w' := by
 by_cases hxy : x = y
 ·subst hxy; exact RAdd_same x s t w hs ht r hr
 ·by_cases hle : bval t.data.toList ≤ bval s.data.toList
  ·exact RAdd_ge x y s t w hxy hs ht hle r hr
  ·exact RAdd_lt x y s t w hxy hs ht (by omega) r hr
theorem sgi_not (x : Bool) (N : Nat) : sgi (!x) N = -sgi x N := by
 unfold sgi; cases x <;> simp
set_option maxRecDepth 100000 in
set_option maxHeartbeats 2000000 in
theorem RNeg_any (x : Bool) (s : ByteArray) (w : World) (hs : s.size ≤ 400) (r : Int) (hr : -wint x s = r) :
  Calls Tryz.prog 78 #[.agg #[.bool x, .string s]] w fun e w' => e = .returned (.agg #[.bool (wneg r), .string (wmag r)]) ∧ Below w.heap.size w w' := by
 have hps := fun W => rdigits x s W (by omega)
 rw [wint_sgi, ← sgi_not] at hr
 generalize bval s.data.toList = N at *
 have hwd := fun A n c W h hn => rwide (!x) A n c N W h hn r hr
 generalize wneg r = sg at *
 generalize wmag r = S at *
 have HS := Lib.hid hps
 have HG := Lib.hid hwd
 clear hps hwd hr
 have hV0 := Vars.start2 w x false s ⟨#[]⟩
 have hd0 := (hV0.at_ 0 rfl).cell0
 have hd1 := (hV0.at_ 0 rfl).cell1
 rw [Nat.add_zero] at hd0 hd1
 generalize hW0 : (w.alloc (wbox x s)).alloc (wbox false ⟨#[]⟩) = W0 at *
 have HV := Lib.hid hV0
 have HW0 := Lib.hid hW0
 clear hV0 hW0
 go_enter Tryz.func78, Tryz.ntmps78
 go_wp2_with fail
 rw [HW0.out]
 go_region_held3 (fun w' => w'.cell? ⟨w.heap.size, 0, none⟩ = some (.bool x) ∧ w'.cell? ⟨w.heap.size, 1, none⟩ = some (.string s)) (first | (refine ⟨?_, ?_⟩ <;> ((refine (cell_two _ _ _ _ _ _ ?_).trans ?_); omega; assumption)) | go_keep)
  (first
   | (go_at_call 119; (with_reducible refine (HS.out _).mono ?_); rintro e w4 ⟨A3, n3, c3, rfl, hn3, hr3, hb4⟩; have hV4 := HV.out.drew.step hb4; have hd0' := (hV4.at_ 0 rfl).cell0; have hd1' := (hV4.at_ 0 rfl).cell1; rw [Nat.add_zero] at hd0' hd1')
   | (go_at_call 103; (with_reducible refine (HG.out _ _ _ _ hr3.z (by omega)).mono ?_); rintro e w5 ⟨rfl, hb5⟩; have hV5 := hV4.step hb5; have hd0'' := (hV5.at_ 0 rfl).cell0; have hd1'' := (hV5.at_ 0 rfl).cell1; rw [Nat.add_zero] at hd0'' hd1''; have hz0 := (hV5.at_ 1 rfl).cell0; have hz1 := (hV5.at_ 1 rfl).cell1; have hzf0 := (hV5.at_ 1 rfl).frozen 0; have hzf1 := (hV5.at_ 1 rfl).frozen 1))
 go_wp2
 exact post_wide (b := w.heap.size + 1) rfl rfl (hV5.done 1 rfl).1 rfl ⟨rfl, (hV5.done 1 rfl).2⟩
set_option maxRecDepth 100000 in
set_option maxHeartbeats 2000000 in
theorem RSub_any (x y : Bool) (s t : ByteArray) (w : World) (hs : s.size ≤ 400) (ht : t.size ≤ 400) (r : Int) (hr : wint x s - wint y t = r) :
  Calls Tryz.prog 77 #[.agg #[.bool x, .string s], .agg #[.bool y, .string t]] w fun e w' => e = .returned (.agg #[.bool (wneg r), .string (wmag r)]) ∧ Below w.heap.size w w' := by
 have hng := fun W => RNeg_any y t W ht _ rfl
 have hsz : (wmag (-wint y t)).size ≤ 400 := wmag_size _ _ (by rw [Int.natAbs_neg]; exact wint_abs_pow y t 400 ht)
 have had := fun W => RAdd_any x (wneg (-wint y t)) s (wmag (-wint y t)) W hs hsz r (by rw [wint_wv']; omega)
 generalize wneg (-wint y t) = ny at *
 generalize wmag (-wint y t) = tn at *
 generalize wneg r = sg at *
 generalize wmag r = S at *
 have HS := Lib.hid hng
 have HG := Lib.hid had
 clear hng had hr hsz
 have hV0 := Vars.start3 w x y false s t ⟨#[]⟩
 have hd0 := (hV0.at_ 0 rfl).cell0
 have hd1 := (hV0.at_ 0 rfl).cell1
 have hc0 := (hV0.at_ 1 rfl).cell0
 have hc1 := (hV0.at_ 1 rfl).cell1
 rw [Nat.add_zero] at hd0 hd1
 generalize hW0 : ((w.alloc (wbox x s)).alloc (wbox y t)).alloc (wbox false ⟨#[]⟩) = W0 at *
 have HV := Lib.hid hV0
 have HW0 := Lib.hid hW0
 clear hV0 hW0
 go_enter Tryz.func77, Tryz.ntmps77
 go_wp2_with fail
 rw [HW0.out]
 go_region_held3 (fun w' => w'.cell? ⟨w.heap.size, 0, none⟩ = some (.bool x) ∧ w'.cell? ⟨w.heap.size, 1, none⟩ = some (.string s) ∧ w'.cell? ⟨w.heap.size + 1, 0, none⟩ = some (.bool y) ∧ w'.cell? ⟨w.heap.size + 1, 1, none⟩ = some (.string t)) (first | (refine ⟨?_, ?_, ?_, ?_⟩ <;> ((refine (cell_two _ _ _ _ _ _ ?_).trans ?_); omega; assumption)) | go_keep)
  (first
   | (go_at_call 78; (with_reducible refine (HS.out _).mono ?_); rintro e w4 ⟨rfl, hb4⟩; have hV4 := HV.out.drew.step hb4; have hd0' := (hV4.at_ 0 rfl).cell0; have hd1' := (hV4.at_ 0 rfl).cell1; have hc0' := (hV4.at_ 1 rfl).cell0; have hc1' := (hV4.at_ 1 rfl).cell1; rw [Nat.add_zero] at hd0' hd1')
   | (go_at_call 90; (with_reducible refine (HG.out _).mono ?_); rintro e w5 ⟨rfl, hb5⟩; have hV5 := hV4.step hb5; have hd0'' := (hV5.at_ 0 rfl).cell0; have hd1'' := (hV5.at_ 0 rfl).cell1; have hc0'' := (hV5.at_ 1 rfl).cell0; have hc1'' := (hV5.at_ 1 rfl).cell1; rw [Nat.add_zero] at hd0'' hd1''; have hz0 := (hV5.at_ 2 rfl).cell0; have hz1 := (hV5.at_ 2 rfl).cell1; have hzf0 := (hV5.at_ 2 rfl).frozen 0; have hzf1 := (hV5.at_ 2 rfl).frozen 1))
 go_wp2
 exact post_wide (b := w.heap.size + 2) rfl rfl (hV5.done 2 rfl).1 rfl ⟨rfl, (hV5.done 2 rfl).2⟩
theorem sgi_mul (x y : Bool) (N M : Nat) : sgi (x != y) (N * M) = sgi x N * sgi y M := by
 unfold sgi; cases x <;> cases y <;> simp [Int.mul_neg, Int.neg_mul]
set_option maxRecDepth 100000 in
set_option maxHeartbeats 4000000 in
theorem RMul_any (x y : Bool) (s t : ByteArray) (w : World) (hs : s.size ≤ 400) (ht : t.size ≤ 400) (r : Int) (hr : wint x s * wint y t = r) :
  Calls Tryz.prog 75 #[.agg #[.bool x, .string s], .agg #[.bool y, .string t]] w fun e w' => e = .returned (.agg #[.bool (wneg r), .string (wmag r)]) ∧ Below w.heap.size w w' := by
 have hps := fun W => rdigits x s W (by omega)
 have hpt := fun W => rdigits y t W (by omega)
 rw [wint_sgi, wint_sgi, ← sgi_mul] at hr
 generalize bval s.data.toList = N at *
 generalize bval t.data.toList = M at *
 have hwd := fun A n c W h hn => rwide (x != y) A n c (N * M) W h hn r hr
 simp only [bne] at hwd
 generalize wneg r = sg at *
 generalize wmag r = S at *
 have HS := Lib.hid hps
 have HT := Lib.hid hpt
 have HG := Lib.hid hwd
 clear hps hpt hwd hr
 have hV0 := Vars.start3 w x y false s t ⟨#[]⟩
 have hd0 := (hV0.at_ 0 rfl).cell0
 have hd1 := (hV0.at_ 0 rfl).cell1
 have hc0 := (hV0.at_ 1 rfl).cell0
 have hc1 := (hV0.at_ 1 rfl).cell1
 rw [Nat.add_zero] at hd0 hd1
 generalize hW0 : ((w.alloc (wbox x s)).alloc (wbox y t)).alloc (wbox false ⟨#[]⟩) = W0 at *
 have HV := Lib.hid hV0
 have HW0 := Lib.hid hW0
 clear hV0 hW0
 go_enter Tryz.func75, Tryz.ntmps75
 go_wp2_with fail
 rw [HW0.out]
 go_region_held3 (fun w' => w'.cell? ⟨w.heap.size, 0, none⟩ = some (.bool x) ∧ w'.cell? ⟨w.heap.size, 1, none⟩ = some (.string s) ∧ w'.cell? ⟨w.heap.size + 1, 0, none⟩ = some (.bool y) ∧ w'.cell? ⟨w.heap.size + 1, 1, none⟩ = some (.string t)) (first | (refine ⟨?_, ?_, ?_, ?_⟩ <;> ((refine (cell_two _ _ _ _ _ _ ?_).trans ?_); omega; assumption)) | go_keep)
  (first
   | (go_at_call 119; (with_reducible refine (HS.out _).mono ?_); rintro e w1 ⟨A1, n1, c1, rfl, hn1, hr1, hb1⟩; have hV1 := HV.out.drew.step hb1; have hd0' := (hV1.at_ 0 rfl).cell0; have hd1' := (hV1.at_ 0 rfl).cell1; have hc0' := (hV1.at_ 1 rfl).cell0; have hc1' := (hV1.at_ 1 rfl).cell1; rw [Nat.add_zero] at hd0' hd1')
   | (go_at_call 119; (with_reducible refine (HT.out _).mono ?_); rintro e w2 ⟨A2, n2, c2, rfl, hn2, hr2, hb2⟩; have hV2 := hV1.step hb2; have hr1' := hr1.below hb2; have hd0'' := (hV2.at_ 0 rfl).cell0; have hd1'' := (hV2.at_ 0 rfl).cell1; have hc0'' := (hV2.at_ 1 rfl).cell0; have hc1'' := (hV2.at_ 1 rfl).cell1; rw [Nat.add_zero] at hd0'' hd1'')
   | (go_at_call 118; (with_reducible refine (rtimes _ _ _ _ _ _ N M _ hr1'.z hr2.z (by omega) (by omega)).mono ?_); rotate_right; rintro e w4 ⟨A3, n3, c3, rfl, hn3, hr3, hb4⟩; have hV4 := hV2.step hb4; have hd0x := (hV4.at_ 0 rfl).cell0; have hd1x := (hV4.at_ 0 rfl).cell1; have hc0x := (hV4.at_ 1 rfl).cell0; have hc1x := (hV4.at_ 1 rfl).cell1; rw [Nat.add_zero] at hd0x hd1x)
   | (go_at_call 103; (with_reducible refine (HG.out _ _ _ _ hr3.z (by omega)).mono ?_); rintro e w5 ⟨rfl, hb5⟩; have hV5 := hV4.step hb5; have hd0y := (hV5.at_ 0 rfl).cell0; have hd1y := (hV5.at_ 0 rfl).cell1; have hc0y := (hV5.at_ 1 rfl).cell0; have hc1y := (hV5.at_ 1 rfl).cell1; rw [Nat.add_zero] at hd0y hd1y; have hz0 := (hV5.at_ 2 rfl).cell0; have hz1 := (hV5.at_ 2 rfl).cell1; have hzf0 := (hV5.at_ 2 rfl).frozen 0; have hzf1 := (hV5.at_ 2 rfl).frozen 1))
 go_wp2
 exact post_wide (b := w.heap.size + 2) rfl rfl (hV5.done 2 rfl).1 rfl ⟨rfl, (hV5.done 2 rfl).2⟩
end Go.Proofs.YtknaghdoffigjaaGreatDoor
