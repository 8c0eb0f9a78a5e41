/-
  The contracts of the reference's Quo, the second number not 0, and of the statements' WideQuotients: it returns true, whatever three numbers come in.
-/
import Derived.Test.YtgadnianjhaeiaaDoorROver
import Derived.Test.YtgadnianjhaeiaaDoorQuo
import Derived.Test.YtgadnianjhaeiaaDoorSums
namespace Go.Proofs.YtgadnianjhaeiaaDoor
open Go.RowKit

set_option maxHeartbeats 2000000 in
theorem neg_any (x : Bool) (s : ByteArray) (N : Nat) (hN : bval s.data.toList = N) (f : Bool) (hf : (x && decide (N ≠ 0)) = f) (w : World) (hs : s.size ≤ 400) :
    Calls Tryd.prog 79 #[.agg #[.bool x, .string s]] w fun e w' => e = .returned (.bool f) ∧ Below w.heap.size w w' := by
  have hps := fun W => rdigits x s W (by omega)
  rw [hN] at hps
  have HS := Lib.hid hps
  have hV0 := Vars.start1 w x s
  have hd0 := (hV0.at_ 0 rfl).cell0
  have hd1 := (hV0.at_ 0 rfl).cell1
  rw [Nat.add_zero] at hd0 hd1
  cases x
  · obtain rfl : f = false := by rw [← hf]; rfl
    clear hps
    go_enter Tryd.func79, Tryd.ntmps79
    go_wp2
    go_ret
    exact ⟨rfl, hV0.1⟩
  · clear hps
    have HF := Lib.hid hf
    clear hf
    generalize hW0 : w.alloc (wbox true s) = W0 at *
    have HV := Lib.hid hV0
    have HW0 := Lib.hid hW0
    clear hV0 hW0
    go_enter Tryd.func79, Tryd.ntmps79
    go_wp2_with fail
    rw [HW0.out]
    with_reducible refine (HS.out _).mono ?_
    rintro e w1 ⟨A1, n1, c1, rfl, hn1, hr1, hb1⟩
    by_cases h0 : N = 0
    · have hn0 : n1 = 0 := hr1.zero.2 h0
      subst hn0
      obtain rfl : f = false := by rw [← HF.out, h0]; rfl
      go_wp2
      go_ret
      exact ⟨rfl, (HV.out.step hb1).1⟩
    · have hn0 : 0 < n1 := Nat.pos_of_ne_zero fun e => h0 (hr1.zero.1 e)
      obtain rfl : f = true := by rw [← HF.out, decide_eq_true h0]; rfl
      go_wp2
      go_ret
      exact ⟨rfl, (HV.out.step hb1).1⟩
theorem wint_flag (x : Bool) (s : ByteArray) (N : Nat) (hN : bval s.data.toList = N) (f : Bool) (hf : (x && decide (N ≠ 0)) = f) : wint x s = wint f s := by
  subst hf
  cases x
  · rfl
  · by_cases h : N = 0
    · rw [h, show (true && decide ((0:Nat) ≠ 0)) = false from rfl, wint_true, wint_false, hN, h]; rfl
    · rw [decide_eq_true h]; rfl
theorem sgi_if (f : Bool) (K : Nat) : sgi f K = if f = true then -(K : Int) else (K : Int) := rfl

set_option maxRecDepth 100000 in
set_option maxHeartbeats 4000000 in
theorem RQuo_pos (x y : Bool) (s t : ByteArray) (w : World) (hs : s.size ≤ 200) (ht : t.size ≤ 200) (N M : Nat) (hN : bval s.data.toList = N) (hM : bval t.data.toList = M) (hM0 : 0 < M) (hc : (x && decide (N ≠ 0)) = false) (q r : Int) (hq : wint x s / wint y t = q) (hr : wint x s % wint y t = r) :
    Calls Tryd.prog 56 #[.agg #[.bool x, .string s], .agg #[.bool y, .string t]] w fun e w' => e = .returned (.tuple #[.agg #[.bool (wneg q), .string (wmag q)], .agg #[.bool (wneg r), .string (wmag r)], .bool true]) ∧ Below w.heap.size w w' := by
  have hps := fun W => rdigits x s W (by omega)
  have hpt := fun W => rdigits y t W (by omega)
  rw [hN] at hps
  rw [hM] at hpt
  have hng := fun W => neg_any x s N hN false hc W (by omega)
  obtain ⟨K0, hK0⟩ : ∃ K, N / M = K := ⟨_, rfl⟩
  obtain ⟨R0, hR0⟩ : ∃ R, N % M = R := ⟨_, rfl⟩
  have hRM : R0 < M := by rw [← hR0]; exact Nat.mod_lt _ hM0
  rw [wint_flag x s N hN false hc] at hq hr
  have hv := quo_plain false y s t N M K0 R0 hN hM hM0 (.inl rfl) hK0 hR0
  rw [show (false != y) = (y) from by cases y <;> rfl] at hv
  rw [hv.1] at hq
  rw [hv.2] at hr
  have hw1 := fun A n c W h hn => rwide (y) A n c K0 W h hn q hq
  have hw2 := fun A n c W h hn => rwide false A n c R0 W h hn r hr
  generalize wneg q = sg1 at *
  generalize wmag q = S1 at *
  generalize wneg r = sg2 at *
  generalize wmag r = S2 at *
  have HS := Lib.hid hps
  have HT := Lib.hid hpt
  have HN := Lib.hid hng
  have HW1 := Lib.hid hw1
  have HW2 := Lib.hid hw2
  have HOV := Lib.hid (fun A B n m ca cb W h1 h2 nx ny => rover A B n m ca cb N M W h1 h2 hM0 nx ny)
  rw [hK0, hR0] at HOV
  have HR0 := Lib.hid (And.intro hR0 hc)
  clear hps hpt hng hw1 hw2 hv hq hr hK0 hR0 hc
  have HV := Lib.hid (Vars.start4 w x y false false s t ⟨#[]⟩ ⟨#[]⟩)
  go_enter Tryd.func56, Tryd.ntmps56
  have hc0 := (HV.out.at_ 1 rfl).cell0
  have hc1 := (HV.out.at_ 1 rfl).cell1
  go_wp2_with fail
  with_reducible refine (HT.out _).mono ?_
  rintro e w1 ⟨A1, n1, c1, rfl, hn1, hr1, hb1⟩
  have hV1 := Lib.hid (HV.out.step hb1)
  clear hc0 hc1
  have hc0 := (hV1.out.at_ 0 rfl).cell0
  have hc1 := (hV1.out.at_ 0 rfl).cell1
  rw [Nat.add_zero] at hc0 hc1
  have hn1p : 0 < n1 := Nat.pos_of_ne_zero fun e => by
    have := hr1.zero.1 e
    omega
  have hn1b : ((n1 : Int) == 0) = false := by rw [beq_eq_false_iff_ne]; omega
  go_wp2_with fail
  with_reducible refine (HS.out _).mono ?_
  rintro e w2 ⟨A2, n2, c2, rfl, hn2, hr2, hb2⟩
  have hV2 := Lib.hid (hV1.out.step hb2)
  have hr1' := hr1.below hb2
  clear hc0 hc1 hr1 hb1 hV1
  go_wp2_with fail
  with_reducible refine (HOV.out A2 A1 n2 n1 c2 c1 w2 hr2 hr1' (by omega) (by omega)).mono ?_
  rintro e w3 ⟨C, k, c, D, k', c', rfl, hk1, hk2, hrq, hrr, hb3⟩
  have hV3 := Lib.hid (hV2.out.step hb3)
  have hr1'' := hr1'.below hb3
  clear hr1' hr2 hb2 hV2
  have hc0 := (hV3.out.at_ 0 rfl).cell0
  have hc1 := (hV3.out.at_ 0 rfl).cell1
  rw [Nat.add_zero] at hc0 hc1
  go_wp2_with fail
  with_reducible refine (HN.out _).mono ?_
  rintro e w4 ⟨rfl, hb4⟩
  have hV4 := Lib.hid (hV3.out.step hb4)
  have hr14 := hr1''.below hb4
  have hrq4 := hrq.below hb4
  have hrr4 := hrr.below hb4
  clear hc0 hc1 hr1'' hrq hrr hb3 hb4 hV3
  have hc0 := (hV4.out.at_ 0 rfl).cell0
  have hc1 := (hV4.out.at_ 0 rfl).cell1
  have hd0 := (hV4.out.at_ 1 rfl).cell0
  rw [Nat.add_zero] at hc0 hc1
  go_wp2_with fail
  have hV := hV4.out
  have hQ := hrq4.z
  have hR := hrr4.z
  clear hV4 hc1 hc0 hd0
  have hc0 := (hV.at_ 0 rfl).cell0
  have hc1 := (hV.at_ 0 rfl).cell1
  have hd0 := (hV.at_ 1 rfl).cell0
  rw [Nat.add_zero] at hc0 hc1
  go_region_held3 (fun w' => w'.cell? ⟨w.heap.size, 0, none⟩ = some (.bool x) ∧ w'.cell? ⟨w.heap.size, 1, none⟩ = some (.string s) ∧ w'.cell? ⟨w.heap.size + 1, 0, none⟩ = some (.bool y)) (first | (refine ⟨?_, ?_, ?_⟩ <;> ((with_reducible refine (cell_two _ _ _ _ _ _ ?_).trans ?_); omega; with_reducible assumption)) | (refine ⟨?_, ?_, ?_⟩ <;> ((with_reducible refine (cell_two _ _ _ _ _ _ ?_).trans ((cell_two _ _ _ _ _ _ ?_).trans ?_)); omega; omega; with_reducible assumption)) | go_keep)
    (first
      | (go_at_call 79; (with_reducible refine (HN.out _).mono ?_); rintro e w11 ⟨rfl, hb11⟩; (first | replace hV := hV.step hb11 | replace hV := hV.drew.step hb11); (first | replace hQ := hQ.below hb11 | replace hQ := Rz.below (w := World.drew _) hQ hb11); (first | replace hR := hR.below hb11 | replace hR := Rz.below (w := World.drew _) hR hb11); clear hb11 hc0 hc1 hd0; have hc0 := (hV.at_ 0 rfl).cell0; have hc1 := (hV.at_ 0 rfl).cell1; have hd0 := (hV.at_ 1 rfl).cell0; rw [Nat.add_zero] at hc0 hc1)
      | (go_at_call 49; (first | (with_reducible refine (HW1.out _ _ _ _ hQ (by omega)).mono ?_) | (with_reducible refine (HW2.out _ _ _ _ hR (by omega)).mono ?_)); rintro e w11 ⟨rfl, hb11⟩; (first | replace hV := hV.step hb11 | replace hV := hV.drew.step hb11); (first | replace hR := hR.below hb11 | replace hR := Rz.below (w := World.drew _) hR hb11); clear hb11 hc0 hc1 hd0; have hc0 := (hV.at_ 0 rfl).cell0; have hc1 := (hV.at_ 0 rfl).cell1; have hd0 := (hV.at_ 1 rfl).cell0; rw [Nat.add_zero] at hc0 hc1; have hz0 := (hV.at_ 2 rfl).cell0; have hz1 := (hV.at_ 2 rfl).cell1; have hzf0 := (hV.at_ 2 rfl).frozen 0; have hzf1 := (hV.at_ 2 rfl).frozen 1; have hz2 := (hV.at_ 3 rfl).cell0; have hz3 := (hV.at_ 3 rfl).cell1; have hzf2 := (hV.at_ 3 rfl).frozen 0; have hzf3 := (hV.at_ 3 rfl).frozen 1))
  have hV10 := (hV.put 2 rfl sg1 S1).put 3 rfl sg2 S2
  go_wp2
  exact post_wide_wide_tmp (b := w.heap.size + 2) (c := w.heap.size + 3) rfl rfl rfl (hV10.at_ 2 rfl) (hV10.at_ 3 rfl) rfl ⟨rfl, hV10.1⟩

set_option maxRecDepth 100000 in
set_option maxHeartbeats 4000000 in
theorem RQuo_zero (x y : Bool) (s t : ByteArray) (w : World) (hs : s.size ≤ 200) (ht : t.size ≤ 200) (N M : Nat) (hN : bval s.data.toList = N) (hM : bval t.data.toList = M) (hM0 : 0 < M) (hc : (x && decide (N ≠ 0)) = true ∧ N % M = 0) (q r : Int) (hq : wint x s / wint y t = q) (hr : wint x s % wint y t = r) :
    Calls Tryd.prog 56 #[.agg #[.bool x, .string s], .agg #[.bool y, .string t]] w fun e w' => e = .returned (.tuple #[.agg #[.bool (wneg q), .string (wmag q)], .agg #[.bool (wneg r), .string (wmag r)], .bool true]) ∧ Below w.heap.size w w' := by
  have hps := fun W => rdigits x s W (by omega)
  have hpt := fun W => rdigits y t W (by omega)
  rw [hN] at hps
  rw [hM] at hpt
  have hng := fun W => neg_any x s N hN true hc.1 W (by omega)
  obtain ⟨K0, hK0⟩ : ∃ K, N / M = K := ⟨_, rfl⟩
  obtain ⟨R0, hR0⟩ : ∃ R, N % M = R := ⟨_, rfl⟩
  have hRM : R0 < M := by rw [← hR0]; exact Nat.mod_lt _ hM0
  rw [wint_flag x s N hN true hc.1] at hq hr
  have hv := quo_plain true y s t N M K0 R0 hN hM hM0 (.inr hc.2) hK0 hR0
  rw [show (true != y) = (!y) from by cases y <;> rfl] at hv
  rw [hv.1] at hq
  rw [hv.2] at hr
  have hw1 := fun A n c W h hn => rwide (!y) A n c K0 W h hn q hq
  have hw2 := fun A n c W h hn => rwide false A n c R0 W h hn r hr
  generalize wneg q = sg1 at *
  generalize wmag q = S1 at *
  generalize wneg r = sg2 at *
  generalize wmag r = S2 at *
  have HS := Lib.hid hps
  have HT := Lib.hid hpt
  have HN := Lib.hid hng
  have HW1 := Lib.hid hw1
  have HW2 := Lib.hid hw2
  have HOV := Lib.hid (fun A B n m ca cb W h1 h2 nx ny => rover A B n m ca cb N M W h1 h2 hM0 nx ny)
  rw [hK0, hR0] at HOV
  have HR0 := Lib.hid (And.intro hR0 hc)
  clear hps hpt hng hw1 hw2 hv hq hr hK0 hR0 hc
  have HV := Lib.hid (Vars.start4 w x y false false s t ⟨#[]⟩ ⟨#[]⟩)
  go_enter Tryd.func56, Tryd.ntmps56
  have hc0 := (HV.out.at_ 1 rfl).cell0
  have hc1 := (HV.out.at_ 1 rfl).cell1
  go_wp2_with fail
  with_reducible refine (HT.out _).mono ?_
  rintro e w1 ⟨A1, n1, c1, rfl, hn1, hr1, hb1⟩
  have hV1 := Lib.hid (HV.out.step hb1)
  clear hc0 hc1
  have hc0 := (hV1.out.at_ 0 rfl).cell0
  have hc1 := (hV1.out.at_ 0 rfl).cell1
  rw [Nat.add_zero] at hc0 hc1
  have hn1p : 0 < n1 := Nat.pos_of_ne_zero fun e => by
    have := hr1.zero.1 e
    omega
  have hn1b : ((n1 : Int) == 0) = false := by rw [beq_eq_false_iff_ne]; omega
  go_wp2_with fail
  with_reducible refine (HS.out _).mono ?_
  rintro e w2 ⟨A2, n2, c2, rfl, hn2, hr2, hb2⟩
  have hV2 := Lib.hid (hV1.out.step hb2)
  have hr1' := hr1.below hb2
  clear hc0 hc1 hr1 hb1 hV1
  go_wp2_with fail
  with_reducible refine (HOV.out A2 A1 n2 n1 c2 c1 w2 hr2 hr1' (by omega) (by omega)).mono ?_
  rintro e w3 ⟨C, k, c, D, k', c', rfl, hk1, hk2, hrq, hrr, hb3⟩
  have hV3 := Lib.hid (hV2.out.step hb3)
  have hr1'' := hr1'.below hb3
  clear hr1' hr2 hb2 hV2
  have hc0 := (hV3.out.at_ 0 rfl).cell0
  have hc1 := (hV3.out.at_ 0 rfl).cell1
  rw [Nat.add_zero] at hc0 hc1
  go_wp2_with fail
  with_reducible refine (HN.out _).mono ?_
  rintro e w4 ⟨rfl, hb4⟩
  have hV4 := Lib.hid (hV3.out.step hb4)
  have hr14 := hr1''.below hb4
  have hrq4 := hrq.below hb4
  have hrr4 := hrr.below hb4
  clear hc0 hc1 hr1'' hrq hrr hb3 hb4 hV3
  obtain rfl : k' = 0 := hrr4.zero.2 (HR0.out.1.symm.trans HR0.out.2.2)
  have hc0 := (hV4.out.at_ 0 rfl).cell0
  have hc1 := (hV4.out.at_ 0 rfl).cell1
  have hd0 := (hV4.out.at_ 1 rfl).cell0
  rw [Nat.add_zero] at hc0 hc1
  go_wp2_with fail
  have hV := hV4.out
  have hQ := hrq4.z
  have hR := hrr4.z
  clear hV4 hc1 hc0 hd0
  have hc0 := (hV.at_ 0 rfl).cell0
  have hc1 := (hV.at_ 0 rfl).cell1
  have hd0 := (hV.at_ 1 rfl).cell0
  rw [Nat.add_zero] at hc0 hc1
  go_region_held3 (fun w' => w'.cell? ⟨w.heap.size, 0, none⟩ = some (.bool x) ∧ w'.cell? ⟨w.heap.size, 1, none⟩ = some (.string s) ∧ w'.cell? ⟨w.heap.size + 1, 0, none⟩ = some (.bool y)) (first | (refine ⟨?_, ?_, ?_⟩ <;> ((with_reducible refine (cell_two _ _ _ _ _ _ ?_).trans ?_); omega; with_reducible assumption)) | (refine ⟨?_, ?_, ?_⟩ <;> ((with_reducible refine (cell_two _ _ _ _ _ _ ?_).trans ((cell_two _ _ _ _ _ _ ?_).trans ?_)); omega; omega; with_reducible assumption)) | go_keep)
    (first
      | (go_at_call 79; (with_reducible refine (HN.out _).mono ?_); rintro e w11 ⟨rfl, hb11⟩; (first | replace hV := hV.step hb11 | replace hV := hV.drew.step hb11); (first | replace hQ := hQ.below hb11 | replace hQ := Rz.below (w := World.drew _) hQ hb11); (first | replace hR := hR.below hb11 | replace hR := Rz.below (w := World.drew _) hR hb11); clear hb11 hc0 hc1 hd0; have hc0 := (hV.at_ 0 rfl).cell0; have hc1 := (hV.at_ 0 rfl).cell1; have hd0 := (hV.at_ 1 rfl).cell0; rw [Nat.add_zero] at hc0 hc1)
      | (go_at_call 49; (first | (with_reducible refine (HW1.out _ _ _ _ hQ (by omega)).mono ?_) | (with_reducible refine (HW2.out _ _ _ _ hR (by omega)).mono ?_)); rintro e w11 ⟨rfl, hb11⟩; (first | replace hV := hV.step hb11 | replace hV := hV.drew.step hb11); (first | replace hR := hR.below hb11 | replace hR := Rz.below (w := World.drew _) hR hb11); clear hb11 hc0 hc1 hd0; have hc0 := (hV.at_ 0 rfl).cell0; have hc1 := (hV.at_ 0 rfl).cell1; have hd0 := (hV.at_ 1 rfl).cell0; rw [Nat.add_zero] at hc0 hc1; have hz0 := (hV.at_ 2 rfl).cell0; have hz1 := (hV.at_ 2 rfl).cell1; have hzf0 := (hV.at_ 2 rfl).frozen 0; have hzf1 := (hV.at_ 2 rfl).frozen 1; have hz2 := (hV.at_ 3 rfl).cell0; have hz3 := (hV.at_ 3 rfl).cell1; have hzf2 := (hV.at_ 3 rfl).frozen 0; have hzf3 := (hV.at_ 3 rfl).frozen 1))
  have hV10 := (hV.put 2 rfl sg1 S1).put 3 rfl sg2 S2
  go_wp2
  exact post_wide_wide_tmp (b := w.heap.size + 2) (c := w.heap.size + 3) rfl rfl rfl (hV10.at_ 2 rfl) (hV10.at_ 3 rfl) rfl ⟨rfl, hV10.1⟩

set_option maxRecDepth 100000 in
set_option maxHeartbeats 4000000 in
theorem RQuo_more (x y : Bool) (s t : ByteArray) (w : World) (hs : s.size ≤ 200) (ht : t.size ≤ 200) (N M : Nat) (hN : bval s.data.toList = N) (hM : bval t.data.toList = M) (hM0 : 0 < M) (hc : (x && decide (N ≠ 0)) = true ∧ N % M ≠ 0) (q r : Int) (hq : wint x s / wint y t = q) (hr : wint x s % wint y t = r) :
    Calls Tryd.prog 56 #[.agg #[.bool x, .string s], .agg #[.bool y, .string t]] w fun e w' => e = .returned (.tuple #[.agg #[.bool (wneg q), .string (wmag q)], .agg #[.bool (wneg r), .string (wmag r)], .bool true]) ∧ Below w.heap.size w w' := by
  have hps := fun W => rdigits x s W (by omega)
  have hpt := fun W => rdigits y t W (by omega)
  rw [hN] at hps
  rw [hM] at hpt
  have hng := fun W => neg_any x s N hN true hc.1 W (by omega)
  obtain ⟨K0, hK0⟩ : ∃ K, N / M = K := ⟨_, rfl⟩
  obtain ⟨R0, hR0⟩ : ∃ R, N % M = R := ⟨_, rfl⟩
  have hRM : R0 < M := by rw [← hR0]; exact Nat.mod_lt _ hM0
  rw [wint_flag x s N hN true hc.1] at hq hr
  have hv := quo_more y s t N M (K0 + 1) (M - R0) hN hM hM0 hc.2 (by rw [hK0]) (by rw [hR0])
  rw [show (true != y) = (!y) from by cases y <;> rfl] at hv
  rw [hv.1] at hq
  rw [hv.2] at hr
  have hw1 := fun A n c W h hn => rwide (!y) A n c (K0 + 1) W h hn q hq
  have hw2 := fun A n c W h hn => rwide false A n c (M - R0) W h hn r hr
  generalize wneg q = sg1 at *
  generalize wmag q = S1 at *
  generalize wneg r = sg2 at *
  generalize wmag r = S2 at *
  have HS := Lib.hid hps
  have HT := Lib.hid hpt
  have HN := Lib.hid hng
  have HW1 := Lib.hid hw1
  have HW2 := Lib.hid hw2
  have HOV := Lib.hid (fun A B n m ca cb W h1 h2 nx ny => rover A B n m ca cb N M W h1 h2 hM0 nx ny)
  rw [hK0, hR0] at HOV
  have HR0 := Lib.hid (And.intro hR0 hc)
  clear hps hpt hng hw1 hw2 hv hq hr hK0 hR0 hc
  have HV := Lib.hid (Vars.start4 w x y false false s t ⟨#[]⟩ ⟨#[]⟩)
  go_enter Tryd.func56, Tryd.ntmps56
  have hc0 := (HV.out.at_ 1 rfl).cell0
  have hc1 := (HV.out.at_ 1 rfl).cell1
  go_wp2_with fail
  with_reducible refine (HT.out _).mono ?_
  rintro e w1 ⟨A1, n1, c1, rfl, hn1, hr1, hb1⟩
  have hV1 := Lib.hid (HV.out.step hb1)
  clear hc0 hc1
  have hc0 := (hV1.out.at_ 0 rfl).cell0
  have hc1 := (hV1.out.at_ 0 rfl).cell1
  rw [Nat.add_zero] at hc0 hc1
  have hn1p : 0 < n1 := Nat.pos_of_ne_zero fun e => by
    have := hr1.zero.1 e
    omega
  have hn1b : ((n1 : Int) == 0) = false := by rw [beq_eq_false_iff_ne]; omega
  go_wp2_with fail
  with_reducible refine (HS.out _).mono ?_
  rintro e w2 ⟨A2, n2, c2, rfl, hn2, hr2, hb2⟩
  have hV2 := Lib.hid (hV1.out.step hb2)
  have hr1' := hr1.below hb2
  clear hc0 hc1 hr1 hb1 hV1
  go_wp2_with fail
  with_reducible refine (HOV.out A2 A1 n2 n1 c2 c1 w2 hr2 hr1' (by omega) (by omega)).mono ?_
  rintro e w3 ⟨C, k, c, D, k', c', rfl, hk1, hk2, hrq, hrr, hb3⟩
  have hV3 := Lib.hid (hV2.out.step hb3)
  have hr1'' := hr1'.below hb3
  clear hr1' hr2 hb2 hV2
  have hc0 := (hV3.out.at_ 0 rfl).cell0
  have hc1 := (hV3.out.at_ 0 rfl).cell1
  rw [Nat.add_zero] at hc0 hc1
  go_wp2_with fail
  with_reducible refine (HN.out _).mono ?_
  rintro e w4 ⟨rfl, hb4⟩
  have hV4 := Lib.hid (hV3.out.step hb4)
  have hr14 := hr1''.below hb4
  have hrq4 := hrq.below hb4
  have hrr4 := hrr.below hb4
  clear hc0 hc1 hr1'' hrq hrr hb3 hb4 hV3
  have hk0 : 0 < k' := Nat.pos_of_ne_zero fun e => HR0.out.2.2 (HR0.out.1.trans (hrr4.zero.1 e))
  have hc0 := (hV4.out.at_ 0 rfl).cell0
  have hc1 := (hV4.out.at_ 0 rfl).cell1
  have hd0 := (hV4.out.at_ 1 rfl).cell0
  rw [Nat.add_zero] at hc0 hc1
  go_wp2_with fail
  have hL1 : Jst (w4.alloc (.cells #[.int .i64 1] 3)) w4.heap.size [1] := Jst.new w4 [1]
  have hB1 : Below w4.heap.size w4 (w4.alloc (.cells #[.int .i64 1] 3)) := (Below.refl _ _).alloc (Nat.le_refl _) _
  have hr1d : Rz (w4.alloc (.cells #[.int .i64 1] 3)) (some ⟨w4.heap.size, 0, none⟩) 1 1 1 := ⟨[1], hL1.rd, rfl, Nat.le_refl _, by unfold maxLen; omega, (by intro y hy; rw [List.mem_singleton] at hy; rw [hy]; decide), rfl⟩
  have hV5 := Lib.hid (hV4.out.step hB1)
  have hrqb := hrq4.below hB1
  have hrrb := hrr4.below hB1
  have hr1b := hr14.below hB1
  clear hrq4 hrr4 hr14 hV4 hL1 hB1 hc0 hc1 hd0
  generalize w4.alloc (.cells #[.int .i64 1] 3) = W4 at *
  with_reducible refine (rplus C (some ⟨w4.heap.size, 0, none⟩) k 1 c 1 K0 1 W4 hrqb.z hr1d (by omega) (by omega)).mono ?_
  rintro e w7 ⟨E, ke, ce, rfl, hke, hrq5, hb7⟩
  have hV7 := Lib.hid (hV5.out.step hb7)
  have hrr7 := hrrb.below hb7
  have hr17 := hr1b.below hb7
  clear hrqb hrrb hr1b hr1d hb7 hV5
  go_wp2_with fail
  with_reducible refine (rminus A1 D n1 k' c1 c' M R0 w7 hr17 hrr7 (by omega) (by omega)).mono ?_
  rintro e w8 ⟨F, kf, cf, rfl, hkf, hrr6, hb8⟩
  have hV6 := Lib.hid (hV7.out.step hb8)
  have hrq6 := hrq5.below hb8
  clear hrq5 hb8 hr17 hrr7 hV7
  have hc0 := (hV6.out.at_ 0 rfl).cell0
  have hc1 := (hV6.out.at_ 0 rfl).cell1
  have hd0 := (hV6.out.at_ 1 rfl).cell0
  rw [Nat.add_zero] at hc0 hc1
  go_wp2_with fail
  have hV := hV6.out
  have hQ := hrq6
  have hR := hrr6.z
  clear hV6 hc1 hc0 hd0
  have hc0 := (hV.at_ 0 rfl).cell0
  have hc1 := (hV.at_ 0 rfl).cell1
  have hd0 := (hV.at_ 1 rfl).cell0
  rw [Nat.add_zero] at hc0 hc1
  go_region_held3 (fun w' => w'.cell? ⟨w.heap.size, 0, none⟩ = some (.bool x) ∧ w'.cell? ⟨w.heap.size, 1, none⟩ = some (.string s) ∧ w'.cell? ⟨w.heap.size + 1, 0, none⟩ = some (.bool y)) (first | (refine ⟨?_, ?_, ?_⟩ <;> ((with_reducible refine (cell_two _ _ _ _ _ _ ?_).trans ?_); omega; with_reducible assumption)) | (refine ⟨?_, ?_, ?_⟩ <;> ((with_reducible refine (cell_two _ _ _ _ _ _ ?_).trans ((cell_two _ _ _ _ _ _ ?_).trans ?_)); omega; omega; with_reducible assumption)) | go_keep)
    (first
      | (go_at_call 79; (with_reducible refine (HN.out _).mono ?_); rintro e w11 ⟨rfl, hb11⟩; (first | replace hV := hV.step hb11 | replace hV := hV.drew.step hb11); (first | replace hQ := hQ.below hb11 | replace hQ := Rz.below (w := World.drew _) hQ hb11); (first | replace hR := hR.below hb11 | replace hR := Rz.below (w := World.drew _) hR hb11); clear hb11 hc0 hc1 hd0; have hc0 := (hV.at_ 0 rfl).cell0; have hc1 := (hV.at_ 0 rfl).cell1; have hd0 := (hV.at_ 1 rfl).cell0; rw [Nat.add_zero] at hc0 hc1)
      | (go_at_call 49; (first | (with_reducible refine (HW1.out _ _ _ _ hQ (by omega)).mono ?_) | (with_reducible refine (HW2.out _ _ _ _ hR (by omega)).mono ?_)); rintro e w11 ⟨rfl, hb11⟩; (first | replace hV := hV.step hb11 | replace hV := hV.drew.step hb11); (first | replace hR := hR.below hb11 | replace hR := Rz.below (w := World.drew _) hR hb11); clear hb11 hc0 hc1 hd0; have hc0 := (hV.at_ 0 rfl).cell0; have hc1 := (hV.at_ 0 rfl).cell1; have hd0 := (hV.at_ 1 rfl).cell0; rw [Nat.add_zero] at hc0 hc1; have hz0 := (hV.at_ 2 rfl).cell0; have hz1 := (hV.at_ 2 rfl).cell1; have hzf0 := (hV.at_ 2 rfl).frozen 0; have hzf1 := (hV.at_ 2 rfl).frozen 1; have hz2 := (hV.at_ 3 rfl).cell0; have hz3 := (hV.at_ 3 rfl).cell1; have hzf2 := (hV.at_ 3 rfl).frozen 0; have hzf3 := (hV.at_ 3 rfl).frozen 1))
  have hV10 := (hV.put 2 rfl sg1 S1).put 3 rfl sg2 S2
  go_wp2
  exact post_wide_wide_tmp (b := w.heap.size + 2) (c := w.heap.size + 3) rfl rfl rfl (hV10.at_ 2 rfl) (hV10.at_ 3 rfl) rfl ⟨rfl, hV10.1⟩

/-- The reference's Quo, the second number not 0. -/
theorem RQuo_any (x y : Bool) (s t : ByteArray) (w : World) (hs : s.size ≤ 200) (ht : t.size ≤ 200) (hb : wint y t ≠ 0) (q r : Int) (hq : wint x s / wint y t = q) (hr : wint x s % wint y t = r) :
    Calls Tryd.prog 56 #[.agg #[.bool x, .string s], .agg #[.bool y, .string t]] w fun e w' => e = .returned (.tuple #[.agg #[.bool (wneg q), .string (wmag q)], .agg #[.bool (wneg r), .string (wmag r)], .bool true]) ∧ Below w.heap.size w w' := by
  have hM0 : 0 < bval t.data.toList := by
    refine Nat.pos_of_ne_zero fun h => hb ?_
    cases y
    · rw [wint_false, h]; rfl
    · rw [wint_true, h]; rfl
  by_cases hc : (x && decide (bval s.data.toList ≠ 0)) = true
  · by_cases h : bval s.data.toList % bval t.data.toList = 0
    · exact RQuo_zero x y s t w hs ht _ _ rfl rfl hM0 ⟨hc, h⟩ q r hq hr
    · exact RQuo_more x y s t w hs ht _ _ rfl rfl hM0 ⟨hc, h⟩ q r hq hr
  · exact RQuo_pos x y s t w hs ht _ _ rfl rfl hM0 (by rw [Bool.not_eq_true] at hc; exact hc) q r hq hr

set_option maxHeartbeats 1000000 in
theorem Quo_none (x y : Bool) (s t : ByteArray) (w : World) (ht : t.size ≤ 4398046511104) (hb : wint y t = 0) :
    Calls Tryd.prog 27 #[.agg #[.bool x, .string s], .agg #[.bool y, .string t]] w fun e w' => e = .returned (.tuple #[.agg #[.bool false, .string ⟨#[]⟩], .agg #[.bool false, .string ⟨#[]⟩], .bool false]) ∧ Below w.heap.size w w' := by
  have hsi := fun W => Sign_any y t W (by unfold maxLen; omega)
  rw [hb, show (0 : Int).sign = 0 from rfl] at hsi
  have HSI := Lib.hid hsi
  clear hsi
  have HV := Lib.hid (Vars.start4 w x y false false s t ⟨#[]⟩ ⟨#[]⟩)
  go_enter Tryd.func27, Tryd.ntmps27
  go_wp2_with fail
  with_reducible refine (HSI.out _).mono ?_
  rintro e w1 ⟨rfl, hb1⟩
  have hV1 := HV.out.step hb1
  clear hb1
  have hz0 := (hV1.at_ 2 rfl).cell0
  have hz1 := (hV1.at_ 2 rfl).cell1
  have hzf0 := (hV1.at_ 2 rfl).frozen 0
  have hzf1 := (hV1.at_ 2 rfl).frozen 1
  have hz2 := (hV1.at_ 3 rfl).cell0
  have hz3 := (hV1.at_ 3 rfl).cell1
  have hzf2 := (hV1.at_ 3 rfl).frozen 0
  have hzf3 := (hV1.at_ 3 rfl).frozen 1
  have hV2 := (hV1.put 2 rfl false ⟨#[]⟩).put 3 rfl false ⟨#[]⟩
  go_wp2
  exact post_wide_wide_tmp (b := w.heap.size + 2) (c := w.heap.size + 3) rfl rfl rfl (hV2.at_ 2 rfl) (hV2.at_ 3 rfl) rfl ⟨rfl, hV2.1⟩
set_option maxHeartbeats 1000000 in
theorem RQuo_none (x y : Bool) (s t : ByteArray) (w : World) (ht : t.size ≤ 200) (hb : wint y t = 0) :
    Calls Tryd.prog 56 #[.agg #[.bool x, .string s], .agg #[.bool y, .string t]] w fun e w' => e = .returned (.tuple #[.agg #[.bool false, .string ⟨#[]⟩], .agg #[.bool false, .string ⟨#[]⟩], .bool false]) ∧ Below w.heap.size w w' := by
  have hpt := fun W => rdigits y t W (by omega)
  have hM : bval t.data.toList = 0 := by
    cases y
    · rw [wint_false] at hb; omega
    · rw [wint_true] at hb; omega
  rw [hM] at hpt
  have HT := Lib.hid hpt
  clear hpt
  have HV := Lib.hid (Vars.start4 w x y false false s t ⟨#[]⟩ ⟨#[]⟩)
  have hc0 := (HV.out.at_ 1 rfl).cell0
  have hc1 := (HV.out.at_ 1 rfl).cell1
  go_enter Tryd.func56, Tryd.ntmps56
  go_wp2_with fail
  with_reducible refine (HT.out _).mono ?_
  rintro e w1 ⟨A1, n1, c1, rfl, hn1, hr1, hb1⟩
  have hV1 := HV.out.step hb1
  obtain rfl : n1 = 0 := hr1.zero.2 rfl
  clear hb1 hc0 hc1
  have hz0 := (hV1.at_ 2 rfl).cell0
  have hz1 := (hV1.at_ 2 rfl).cell1
  have hzf0 := (hV1.at_ 2 rfl).frozen 0
  have hzf1 := (hV1.at_ 2 rfl).frozen 1
  have hz2 := (hV1.at_ 3 rfl).cell0
  have hz3 := (hV1.at_ 3 rfl).cell1
  have hzf2 := (hV1.at_ 3 rfl).frozen 0
  have hzf3 := (hV1.at_ 3 rfl).frozen 1
  have hV2 := (hV1.put 2 rfl false ⟨#[]⟩).put 3 rfl false ⟨#[]⟩
  go_wp2
  exact post_wide_wide_tmp (b := w.heap.size + 2) (c := w.heap.size + 3) rfl rfl rfl (hV2.at_ 2 rfl) (hV2.at_ 3 rfl) rfl ⟨rfl, hV2.1⟩

set_option maxHeartbeats 1000000 in
theorem divides_of (x y : Bool) (s t : ByteArray) (xq xr ok : Bool) (sq sr : ByteArray) (w : World)
    (P1 : ∀ W, Calls Tryd.prog 27 #[.agg #[.bool x, .string s], .agg #[.bool y, .string t]] W fun e w' => e = .returned (.tuple #[.agg #[.bool xq, .string sq], .agg #[.bool xr, .string sr], .bool ok]) ∧ Below W.heap.size W w')
    (P2 : ∀ W, Calls Tryd.prog 56 #[.agg #[.bool x, .string s], .agg #[.bool y, .string t]] W fun e w' => e = .returned (.tuple #[.agg #[.bool xq, .string sq], .agg #[.bool xr, .string sr], .bool ok]) ∧ Below W.heap.size W w') :
    Calls Tryd.prog 26 #[.agg #[.bool x, .string s], .agg #[.bool y, .string t]] w fun e w' => e = .returned (.bool true) ∧ Below w.heap.size w w' := by
  have E1 := eq_same xq sq
  have E2 := eq_same xr sr
  have Q1 := Lib.hid P1
  have Q2 := Lib.hid P2
  clear P1 P2
  have hV0 := Vars.start2 w x y s t
  have hc0 := (hV0.at_ 0 rfl).cell0
  have hc1 := (hV0.at_ 0 rfl).cell1
  have hd0 := (hV0.at_ 1 rfl).cell0
  have hd1 := (hV0.at_ 1 rfl).cell1
  rw [Nat.add_zero] at hc0 hc1
  go_enter Tryd.func26, Tryd.ntmps26
  go_wp2_with fail
  with_reducible refine (Q1.out _).mono ?_
  rintro e w1 ⟨rfl, hb1⟩
  have hV1 := ((hV0.step hb1).alloc (wbox xq sq)).alloc (wbox xr sr)
  have g1 := (Wd.new w1 xq sq).alloc (wbox xr sr)
  have g2 := Wd.new1 w1 (wbox xq sq) xr sr
  clear hc0 hc1 hd0 hd1 hV0 hb1
  have hc0 := (hV1.at_ 0 rfl).cell0
  have hc1 := (hV1.at_ 0 rfl).cell1
  have hd0 := (hV1.at_ 1 rfl).cell0
  have hd1 := (hV1.at_ 1 rfl).cell1
  rw [Nat.add_zero] at hc0 hc1
  go_wp2_with fail
  generalize hW2 : (w1.alloc (wbox xq sq)).alloc (wbox xr sr) = W2 at *
  clear hW2
  with_reducible refine (Q2.out _).mono ?_
  rintro e w3 ⟨rfl, hb3⟩
  have hV3 := ((hV1.step hb3).alloc (wbox xq sq)).alloc (wbox xr sr)
  have g3 := ((g1.below hb3 g1.lt).alloc (wbox xq sq)).alloc (wbox xr sr)
  have g4 := ((g2.below hb3 g2.lt).alloc (wbox xq sq)).alloc (wbox xr sr)
  have g5 := (Wd.new w3 xq sq).alloc (wbox xr sr)
  have g6 := Wd.new1 w3 (wbox xq sq) xr sr
  clear hc0 hc1 hd0 hd1 hV1 hb3 g1 g2
  have i0 := g3.cell0
  have i1 := g3.cell1
  have i2 := g4.cell0
  have i3 := g4.cell1
  have i4 := g5.cell0
  have i5 := g5.cell1
  have i6 := g6.cell0
  have i7 := g6.cell1
  have hB := hV3.1
  clear g3 g4 g5 g6 hV3
  cases ok
  all_goals
    go_wp2
    go_ret
    exact ⟨rfl, hB⟩
theorem divides_any {x y : Bool} {s t : ByteArray} {a b : Int} {k l : Nat} (hx : NV x s a k) (hy : NV y t b l) (hk : k ≤ 200) (hl : l ≤ 200) (w : World) :
    Calls Tryd.prog 26 #[.agg #[.bool x, .string s], .agg #[.bool y, .string t]] w fun e w' => e = .returned (.bool true) ∧ Below w.heap.size w w' := by
  obtain ⟨_, h1⟩ := hx
  obtain ⟨_, h2⟩ := hy
  by_cases hb : wint y t = 0
  · exact divides_of x y s t false false false ⟨#[]⟩ ⟨#[]⟩ w (fun W => Quo_none x y s t W (by omega) hb) (fun W => RQuo_none x y s t W (by omega) hb)
  · exact divides_of x y s t (wneg (wint x s / wint y t)) (wneg (wint x s % wint y t)) true (wmag (wint x s / wint y t)) (wmag (wint x s % wint y t)) w
      (fun W => Quo_any x y s t W (by omega) (by omega) hb) (fun W => RQuo_any x y s t W (by omega) (by omega) hb _ _ rfl rfl)

theorem Duo.alloc {w0 w : World} {b1 b2 : Nat} {x1 x2 : Bool} {s1 s2 : ByteArray} (h : Duo w0 w b1 b2 x1 x2 s1 s2) (o : Obj) : Duo w0 (w.alloc o) b1 b2 x1 x2 s1 s2 := ⟨h.d1.alloc o, h.d2.alloc o, h.bel.alloc h.bel.size o⟩
theorem Nb.drew {w : World} {b : Nat} {neg : Bool} {A : Option Addr} {n c : Nat} {z : Int} (h : Nb w b neg A n c z) : Nb w.drew b neg A n c z := h

theorem tri_early {w W : World} {b1 b2 bx : Nat} {x1 x2 xc : Bool} {s1 s2 sc : ByteArray} (hT : Duo w W b1 b2 x1 x2 s1 s2) (hX : Wd W bx false ⟨#[]⟩) (h0 : w.heap.size ≤ bx) (h1 : b1 < bx) (h2 : b2 < bx) :
    Tri w ((W.setCell ⟨bx, 0, none⟩ (.bool xc)).setCell ⟨bx, 1, none⟩ (.string sc)) b1 b2 bx x1 x2 xc s1 s2 sc :=
  ⟨(hT.d1.far (Nat.ne_of_lt h1) _).far (Nat.ne_of_lt h1) _, (hT.d2.far (Nat.ne_of_lt h2) _).far (Nat.ne_of_lt h2) _, (hX.set0 xc).set1 sc, (hT.bel.setCell h0 _).setCell h0 _⟩
theorem tri_late {w W : World} {b1 b2 : Nat} {x1 x2 xc : Bool} {s1 s2 sc : ByteArray} (hT : Duo w W b1 b2 x1 x2 s1 s2) : Tri w (W.alloc (wbox xc sc)) b1 b2 W.heap.size x1 x2 xc s1 s2 sc :=
  ⟨hT.d1.alloc _, hT.d2.alloc _, Wd.new W xc sc, hT.bel.alloc hT.bel.size _⟩

set_option maxRecDepth 100000 in
set_option maxHeartbeats 4000000 in
theorem Quotients_any (n1 n2 n3 : Bool) (A1 A2 A3 : Option Addr) (l1 l2 l3 c1 c2 c3 : Nat) (z1 z2 z3 : Int) (w : World) (h1 : Nm w A1 l1 c1 z1) (h2 : Nm w A2 l2 c2 z2) (h3 : Nm w A3 l3 c3 z3) :
    Calls Tryd.prog 5 #[.agg #[.bool n1, .slice A1 l1 c1, .int .i64 z1], .agg #[.bool n2, .slice A2 l2 c2, .int .i64 z2], .agg #[.bool n3, .slice A3 l3 c3, .int .i64 z3]] w
      fun e w' => e = .returned (.bool true) ∧ Below w.heap.size w w' := by
  obtain ⟨W3, hW3⟩ : ∃ W3, W3 = ((w.alloc (.cells #[.bool n1, .slice A1 l1 c1, .int .i64 z1] 24)).alloc (.cells #[.bool n2, .slice A2 l2 c2, .int .i64 z2] 24)).alloc (.cells #[.bool n3, .slice A3 l3 c3, .int .i64 z3] 24) := ⟨_, rfl⟩
  have hB3 : Below w.heap.size w W3 := by
    rw [hW3]
    exact (((Below.refl _ _).alloc (Nat.le_refl _) _).alloc (by simp) _).alloc (by simp; omega) _
  have hs3 : W3.heap.size = w.heap.size + 3 := by rw [hW3]; simp
  have q1 : Nb W3 w.heap.size n1 A1 l1 c1 z1 := by rw [hW3]; exact ((Nb.new w _ _ _ _ _).alloc _).alloc _
  have q2 : Nb W3 (w.heap.size + 1) n2 A2 l2 c2 z2 := by
    rw [hW3]
    have := (Nb.new (w.alloc (.cells #[.bool n1, .slice A1 l1 c1, .int .i64 z1] 24)) n2 A2 l2 c2 z2).alloc (.cells #[.bool n3, .slice A3 l3 c3, .int .i64 z3] 24)
    simpa using this
  have q3 : Nb W3 (w.heap.size + 1 + 1) n3 A3 l3 c3 z3 := by
    rw [hW3]
    have := (Nb.new ((w.alloc (.cells #[.bool n1, .slice A1 l1 c1, .int .i64 z1] 24)).alloc (.cells #[.bool n2, .slice A2 l2 c2, .int .i64 z2] 24)) n3 A3 l3 c3 z3)
    simpa using this
  have HW3 := Lib.hid hW3
  clear hW3
  go_enter Tryd.func5, Tryd.ntmps5
  go_wp2_with fail
  rw [← HW3.out]
  refine (sanity_true _).mono ?_
  rintro e w4 ⟨rfl, hb4⟩
  have hB4 : Below w.heap.size w w4 := hB3.trans (hb4.mono hB3.size)
  have hl1 := q1.lt
  have hl2 := q2.lt
  have hl3 := q3.lt
  have r1 := q1.below hb4 hl1
  have r2 := q2.below hb4 hl2
  have r3 := q3.below hb4 hl3
  have a0 := r1.cell0
  have a1 := r1.cell1
  have a2 := r1.cell2
  clear q1 q2 q3 hb4 hl1 hl2 hl3
  go_wp2_with fail
  refine ((h1.below hB4).call n1).mono ?_
  rintro e w5 ⟨S1, hS1, rfl, hb5⟩
  have hB5 : Below w.heap.size w w5 := hB4.trans (hb5.mono hB4.size)
  clear a0 a1 a2
  have v2 := (r2.below hb5 r2.lt).alloc (wbox n1 S1)
  have v3 := (r3.below hb5 r3.lt).alloc (wbox n1 S1)
  have m1 := Wd.new w5 n1 S1
  have a0 := v2.cell0
  have a1 := v2.cell1
  have a2 := v2.cell2
  clear r1 r2 r3 hb5
  go_wp2_with fail
  generalize hW6 : w5.alloc (wbox n1 S1) = W6 at *
  have hB6 : Below w.heap.size w W6 := by rw [← hW6]; exact hB5.alloc hB5.size _
  clear hW6
  refine ((h2.below hB6).call n2).mono ?_
  rintro e w7 ⟨S2, hS2, rfl, hb7⟩
  have hB7 : Below w.heap.size w w7 := hB6.trans (hb7.mono hB6.size)
  have u1 := (m1.below hb7 m1.lt).alloc (wbox n2 S2)
  have u3 := (v3.below hb7 v3.lt).alloc (wbox n2 S2)
  have m2 := Wd.new w7 n2 S2
  clear a0 a1 a2 v2 v3 m1 hb7 hB5
  have a0 := u3.cell0
  have a1 := u3.cell1
  have a2 := u3.cell2
  have hT : Duo w (w7.alloc (wbox n2 S2)) w5.heap.size w7.heap.size n1 n2 S1 S2 := ⟨u1, m2, hB7.alloc hB7.size _⟩
  have hZ := u3
  clear u1 u3 m2 hB3 hB4 hB6 h1 h2 HW3 hs3 a0 a1 a2
  go_wp2_with fail
  generalize hW8 : w7.alloc (wbox n2 S2) = W8 at *
  clear hW8
  have N1 := NV.self n1 S1 40 hS1
  have N2 := NV.self n2 S2 40 hS2
  obtain ⟨a, ha⟩ : ∃ a, wint n1 S1 = a := ⟨_, rfl⟩
  obtain ⟨b, hb⟩ : ∃ b, wint n2 S2 = b := ⟨_, rfl⟩
  rw [ha] at N1
  rw [hb] at N2
  have NM := NV.of (a * b) 80 (abs_mul (k := 40) (l := 40) N1.abs N2.abs)
  have P1 := Lib.hid (fun W => rmul_to N1 N2 (by omega) (by omega) (a * b) rfl W)
  have PH := Lib.hid h3
  clear h3 ha hb
  generalize w5.heap.size = b1 at *
  generalize w7.heap.size = b2 at *
  generalize w.heap.size + 1 + 1 = b3 at *
  obtain ⟨d0, d1, d2, d3⟩ := hT.cells
  have a0 := hZ.cell0
  have a1 := hZ.cell1
  have a2 := hZ.cell2
  go_region_held3 (fun w' => (w'.cell? ⟨b1, 0, none⟩ = some (.bool n1) ∧ w'.cell? ⟨b1, 1, none⟩ = some (.string S1) ∧ w'.cell? ⟨b2, 0, none⟩ = some (.bool n2) ∧ w'.cell? ⟨b2, 1, none⟩ = some (.string S2)) ∧ w'.cell? ⟨b3, 0, none⟩ = some (.bool n3) ∧ w'.cell? ⟨b3, 1, none⟩ = some (.slice A3 l3 c3) ∧ w'.cell? ⟨b3, 2, none⟩ = some (.int .i64 z3)) (first | (refine ⟨⟨?_, ?_, ?_, ?_⟩, ?_, ?_, ?_⟩ <;> with_reducible assumption) | with_reducible exact ⟨hT.cells, hZ.cell0, hZ.cell1, hZ.cell2⟩ | with_reducible exact ⟨hT.drew.cells, hZ.drew.cell0, hZ.drew.cell1, hZ.drew.cell2⟩ | with_reducible exact ⟨(hT.alloc _).cells, (hZ.alloc _).cell0, (hZ.alloc _).cell1, (hZ.alloc _).cell2⟩ | with_reducible exact ⟨(hT.alloc _).drew.cells, (hZ.alloc _).drew.cell0, (hZ.alloc _).drew.cell1, (hZ.alloc _).drew.cell2⟩ | with_reducible exact ⟨(hT.drew.alloc _).cells, (hZ.drew.alloc _).cell0, (hZ.drew.alloc _).cell1, (hZ.drew.alloc _).cell2⟩ | (refine ⟨⟨?_, ?_, ?_, ?_⟩, ?_, ?_, ?_⟩ <;> ((with_reducible refine (cell_two _ _ _ _ _ _ ?_).trans ?_); (simp at *; omega); with_reducible assumption)) | go_keep)
    (first
      | (go_at_call 25; (with_reducible refine (P1.out _).mono ?_); rintro e w11 ⟨rfl, hbn⟩; (first | (replace hT := hT.step hbn; replace hZ := hZ.below hbn hZ.lt; try (replace hX := hX.below hbn hX.lt)) | (replace hT := hT.drew.step hbn; replace hZ := hZ.drew.below hbn hZ.lt) | (have hx0 := hT.bel.size; have hx1 := hT.d1.lt; have hx2 := hT.d2.lt; have hx3 := hZ.lt; replace hT := (hT.alloc (wbox false ⟨#[]⟩)).drew.step hbn; replace hZ := (hZ.alloc (wbox false ⟨#[]⟩)).drew.below hbn (hZ.alloc (wbox false ⟨#[]⟩)).drew.lt; have hX := (Wd.new _ false ⟨#[]⟩).drew.below hbn (Wd.new _ false ⟨#[]⟩).drew.lt) | (have hx0 := hT.bel.size; have hx1 := hT.d1.lt; have hx2 := hT.d2.lt; have hx3 := hZ.lt; replace hT := (hT.alloc (wbox false ⟨#[]⟩)).step hbn; replace hZ := (hZ.alloc (wbox false ⟨#[]⟩)).below hbn (hZ.alloc (wbox false ⟨#[]⟩)).lt; have hX := (Wd.new _ false ⟨#[]⟩).below hbn (Wd.new _ false ⟨#[]⟩).lt) | (have hx0 := hT.bel.size; have hx1 := hT.d1.lt; have hx2 := hT.d2.lt; have hx3 := hZ.lt; replace hT := (hT.drew.alloc (wbox false ⟨#[]⟩)).step hbn; replace hZ := (hZ.drew.alloc (wbox false ⟨#[]⟩)).below hbn (hZ.drew.alloc (wbox false ⟨#[]⟩)).lt; have hX := (Wd.new _ false ⟨#[]⟩).below hbn (Wd.new _ false ⟨#[]⟩).lt)); (try (simp only [World.drew] at hX hx0 hx1 hx2 hx3)); (try (have hx4 := hX.cell0; have hx5 := hX.cell1; have hx6 := hX.frozen 0; have hx7 := hX.frozen 1)); clear hbn d0 d1 d2 d3 a0 a1 a2; have d0 := hT.cells; obtain ⟨d0, d1, d2, d3⟩ := d0; have a0 := hZ.cell0; have a1 := hZ.cell1; have a2 := hZ.cell2)
      | (go_at_call 13; (first | (with_reducible refine ((PH.out.below hT.bel).call n3).mono ?_) | (with_reducible refine ((PH.out.below (hT.alloc (wbox false ⟨#[]⟩)).bel).call n3).mono ?_)); rintro e w12 ⟨S3, hS3, rfl, hbn⟩; have HA := Lib.hid (fun W => radd_to NM (NV.self n3 S3 40 hS3) (Nat.le_of_ble_eq_true rfl) (Nat.le_of_ble_eq_true rfl) (a * b + wint n3 S3) rfl W); have NC := NV.of (a * b + wint n3 S3) 81 (abs_add (k := 80) NM.abs (NV.self n3 S3 80 (Nat.le_trans hS3 (Nat.le_of_ble_eq_true rfl))).abs); generalize a * b + wint n3 S3 = cc at NC HA; generalize wneg cc = xc at NC HA; generalize wmag cc = sc at NC HA; (first | (replace hT := hT.step hbn; replace hZ := hZ.below hbn hZ.lt; try (replace hX := hX.below hbn hX.lt)) | (replace hT := hT.drew.step hbn; replace hZ := hZ.drew.below hbn hZ.lt) | (have hx0 := hT.bel.size; have hx1 := hT.d1.lt; have hx2 := hT.d2.lt; have hx3 := hZ.lt; replace hT := (hT.alloc (wbox false ⟨#[]⟩)).drew.step hbn; replace hZ := (hZ.alloc (wbox false ⟨#[]⟩)).drew.below hbn (hZ.alloc (wbox false ⟨#[]⟩)).drew.lt; have hX := (Wd.new _ false ⟨#[]⟩).drew.below hbn (Wd.new _ false ⟨#[]⟩).drew.lt) | (have hx0 := hT.bel.size; have hx1 := hT.d1.lt; have hx2 := hT.d2.lt; have hx3 := hZ.lt; replace hT := (hT.alloc (wbox false ⟨#[]⟩)).step hbn; replace hZ := (hZ.alloc (wbox false ⟨#[]⟩)).below hbn (hZ.alloc (wbox false ⟨#[]⟩)).lt; have hX := (Wd.new _ false ⟨#[]⟩).below hbn (Wd.new _ false ⟨#[]⟩).lt) | (have hx0 := hT.bel.size; have hx1 := hT.d1.lt; have hx2 := hT.d2.lt; have hx3 := hZ.lt; replace hT := (hT.drew.alloc (wbox false ⟨#[]⟩)).step hbn; replace hZ := (hZ.drew.alloc (wbox false ⟨#[]⟩)).below hbn (hZ.drew.alloc (wbox false ⟨#[]⟩)).lt; have hX := (Wd.new _ false ⟨#[]⟩).below hbn (Wd.new _ false ⟨#[]⟩).lt)); (try (simp only [World.drew] at hX hx0 hx1 hx2 hx3)); (try (have hx4 := hX.cell0; have hx5 := hX.cell1; have hx6 := hX.frozen 0; have hx7 := hX.frozen 1)); clear hbn d0 d1 d2 d3 a0 a1 a2; have d0 := hT.cells; obtain ⟨d0, d1, d2, d3⟩ := d0; have a0 := hZ.cell0; have a1 := hZ.cell1; have a2 := hZ.cell2)
      | (go_at_call 15; (with_reducible refine (HA.out _).mono ?_); rintro e w13 ⟨rfl, hbn⟩; (first | (replace hT := hT.step hbn; replace hZ := hZ.below hbn hZ.lt; try (replace hX := hX.below hbn hX.lt)) | (replace hT := hT.drew.step hbn; replace hZ := hZ.drew.below hbn hZ.lt) | (have hx0 := hT.bel.size; have hx1 := hT.d1.lt; have hx2 := hT.d2.lt; have hx3 := hZ.lt; replace hT := (hT.alloc (wbox false ⟨#[]⟩)).drew.step hbn; replace hZ := (hZ.alloc (wbox false ⟨#[]⟩)).drew.below hbn (hZ.alloc (wbox false ⟨#[]⟩)).drew.lt; have hX := (Wd.new _ false ⟨#[]⟩).drew.below hbn (Wd.new _ false ⟨#[]⟩).drew.lt) | (have hx0 := hT.bel.size; have hx1 := hT.d1.lt; have hx2 := hT.d2.lt; have hx3 := hZ.lt; replace hT := (hT.alloc (wbox false ⟨#[]⟩)).step hbn; replace hZ := (hZ.alloc (wbox false ⟨#[]⟩)).below hbn (hZ.alloc (wbox false ⟨#[]⟩)).lt; have hX := (Wd.new _ false ⟨#[]⟩).below hbn (Wd.new _ false ⟨#[]⟩).lt) | (have hx0 := hT.bel.size; have hx1 := hT.d1.lt; have hx2 := hT.d2.lt; have hx3 := hZ.lt; replace hT := (hT.drew.alloc (wbox false ⟨#[]⟩)).step hbn; replace hZ := (hZ.drew.alloc (wbox false ⟨#[]⟩)).below hbn (hZ.drew.alloc (wbox false ⟨#[]⟩)).lt; have hX := (Wd.new _ false ⟨#[]⟩).below hbn (Wd.new _ false ⟨#[]⟩).lt)); (try (simp only [World.drew] at hX hx0 hx1 hx2 hx3)); (try (have hx4 := hX.cell0; have hx5 := hX.cell1; have hx6 := hX.frozen 0; have hx7 := hX.frozen 1)); clear hbn d0 d1 d2 d3 a0 a1 a2; have d0 := hT.cells; obtain ⟨d0, d1, d2, d3⟩ := d0; have a0 := hZ.cell0; have a1 := hZ.cell1; have a2 := hZ.cell2))
  all_goals
    have D1 := Lib.hid (fun W => divides_any N1 N2 (Nat.le_of_ble_eq_true rfl) (Nat.le_of_ble_eq_true rfl) W)
    have D2 := Lib.hid (fun W => divides_any NC N2 (Nat.le_of_ble_eq_true rfl) (Nat.le_of_ble_eq_true rfl) W)
    have D3 := Lib.hid (fun W => divides_any NC N1 (Nat.le_of_ble_eq_true rfl) (Nat.le_of_ble_eq_true rfl) W)
    first
      | have T := tri_early (xc := xc) (sc := sc) hT hX hx0 hx1 hx2
      | have T := tri_late (xc := xc) (sc := sc) hT
    clear hT hZ d0 d1 d2 d3 a0 a1 a2
    obtain ⟨t0, t1, t2, t3, t4, t5⟩ := T.cells
    go_wp2_with fail
    with_reducible refine (D1.out _).mono ?_
    rintro e w21 ⟨rfl, hbn⟩
    replace T := T.step hbn
    clear hbn t0 t1 t2 t3 t4 t5
    obtain ⟨t0, t1, t2, t3, t4, t5⟩ := T.cells
    go_wp2_with fail
    with_reducible refine (D2.out _).mono ?_
    rintro e w22 ⟨rfl, hbn⟩
    replace T := T.step hbn
    clear hbn t0 t1 t2 t3 t4 t5
    obtain ⟨t0, t1, t2, t3, t4, t5⟩ := T.cells
    go_wp2_with fail
    with_reducible refine (D3.out _).mono ?_
    rintro e w23 ⟨rfl, hbn⟩
    replace T := T.step hbn
    clear hbn t0 t1 t2 t3 t4 t5
    obtain ⟨t0, t1, t2, t3, t4, t5⟩ := T.cells
    go_wp2
    go_ret
    exact ⟨rfl, T.bel⟩
end Go.Proofs.YtgadnianjhaeiaaDoor
