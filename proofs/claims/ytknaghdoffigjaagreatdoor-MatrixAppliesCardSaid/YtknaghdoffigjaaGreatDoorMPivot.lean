import Derived.Test.YtknaghdoffigjaaGreatDoorZMEach
set_option linter.unusedSimpArgs false
set_option linter.unusedVariables false
set_option linter.unnecessarySimpa false
namespace Go.Proofs.YtknaghdoffigjaaGreatDoor
open Go.RowKit Go
theorem adN_lt (o1 o2 p f : Nat) (xs : List Nat) (k : Nat) (hp : 0 < p) (hx : ∀ j, xs.getD j 0 < p) (j : Nat) : (adN o1 o2 p f xs k).getD j 0 < p := by
 rw [adN_get]
 split
 ·exact Nat.mod_lt _ hp
 ·exact hx j
theorem grown_trans2 {a b c : World} {row : Option Nat} (h : a.grownBy b row) (k : b.grownBy c row) : a.grownBy c row :=
 ⟨k.os.trans h.os, k.tape.trans h.tape, k.output.trans h.output, Nat.le_trans h.size k.size, fun i hi hne => (k.block i (Nat.lt_of_lt_of_le hi h.size) hne).trans (h.block i hi hne)⟩
def fillP (c p k : Nat) : Nat → Nat → List Nat → List Nat
 | 0, _, xs => xs
 | m + 1, i, xs => if xs.getD (k * c + k) 0 = 0 then fillP c p k m (i + 1) (adN (k * c + k) (i * c + k) p (xs.getD (i * c + k) 0) xs (c - k)) else xs
theorem fillP_length (c p k m i : Nat) (xs : List Nat) : (fillP c p k m i xs).length = xs.length := by
 induction m generalizing i xs with
 | zero => rfl
 | succ m ih =>
  rw [fillP]
  split
  ·rw [ih, adN_length]
  ·rfl
theorem fillP_lt (c p k m i : Nat) (xs : List Nat) (hp : 0 < p) (hx : ∀ j, xs.getD j 0 < p) (j : Nat) : (fillP c p k m i xs).getD j 0 < p := by
 induction m generalizing i xs with
 | zero => exact hx j
 | succ m ih =>
  rw [fillP]
  split
  ·exact ih _ _ (fun j => adN_lt _ _ _ _ _ _ hp hx j)
  ·exact hx j
theorem slice_loQ (A : Option Addr) (n c lo : Nat) (h1 : lo ≤ n) (h2 : n ≤ c) (w : World) :
  (Instr.slice 84 (.slice A n c) (some (.int .i64 (lo : Int))) none none).run Tryz.prog w = .ok (.slice (if c = lo then A else A.map (·.add lo)) (n - lo) (c - lo)) w := by
 have h := run_slice_l (P := Tryz.prog) (w := w) 84 A n c (by kernel_rfl) .i64 (lo : Int) (by omega) (by omega)
 rw [h]
 have e : Tryz.prog.elem 84 = 80 := by kernel_rfl
 rw [e, Tryz.sizeOf80]
 simp [Result.andThen, sliced]
theorem row_at (g r c i n cap : Nat) (w : World) (hi : i < r) (hr : r ≤ 400) (hc0 : 0 < c) (hc : c ≤ 400) (hn : r * c ≤ cap) (hcap : cap ≤ maxLen) :
  Calls Tryz.prog 125 #[mat r c (some ⟨g, 0, none⟩) n cap, .int .i64 (i : Int)] w fun e w' =>
   e = .returned (.slice (some ⟨g, i * c, none⟩) c c) ∧ Below w.heap.size w w' := by
 have h := row_anyQ r c i (some ⟨g, 0, none⟩) n cap w hi hr hc hn hcap
 rw [if_neg (by omega), show (some (⟨g, 0, none⟩ : Addr)).map (·.add (i * c)) = some ⟨g, i * c, none⟩ from by simp [Addr.add]; omega] at h
 exact h
theorem cut_at (g o c k : Nat) (hk : k < c) (w : World) :
  (Instr.slice 84 (.slice (some ⟨g, o, none⟩) c c) (some (.int .i64 (k : Int))) none none).run Tryz.prog w = .ok (.slice (some ⟨g, o + k, none⟩) (c - k) (c - k)) w := by
 have h := slice_loQ (some ⟨g, o, none⟩) c c k (by omega) (Nat.le_refl _) w
 rw [if_neg (by omega), show (some (⟨g, o, none⟩ : Addr)).map (·.add k) = some ⟨g, o + k, none⟩ from by simp [Addr.add]] at h
 exact h
theorem TbQ.lt {w : World} {b : Nat} {r c : Int} {A : Option Addr} {n cap : Nat} (h : TbQ w b r c A n cap) : b < w.heap.size := (Array.getElem?_eq_some_iff.1 h).1
theorem TbQ.step {w w' : World} {b : Nat} {r c : Int} {A : Option Addr} {n cap : Nat} (h : TbQ w b r c A n cap) (hb : Below w.heap.size w w') : TbQ w' b r c A n cap := (hb.block b h.lt).trans h
theorem TbQ.drew {w : World} {b : Nat} {r c : Int} {A : Option Addr} {n cap : Nat} (h : TbQ w b r c A n cap) : TbQ w.drew b r c A n cap := h
theorem TbQ.grown {w w' : World} {b : Nat} {r c : Int} {A : Option Addr} {n cap : Nat} {row : Option Nat} (h : TbQ w b r c A n cap) (hb : w.grownBy w' row) (hne : some b ≠ row) : TbQ w' b r c A n cap := (hb.block b h.lt hne).trans h
theorem Ob.grown {w w' : World} {b : Nat} {p q : Int} {row : Option Nat} (h : Ob w b p q) (hb : w.grownBy w' row) (hne : some b ≠ row) : Ob w' b p q := (hb.block b h.lt hne).trans h
set_option maxRecDepth 100000 in
set_option maxHeartbeats 4000000 in
theorem fillPivot_any (g r c k p n cap : Nat) (xs : List Nat) (w : World) (hL : Lst w g xs) (hlen : xs.length = r * c) (hk : k < r) (hrc : r ≤ c) (hc : c ≤ 400) (hn : r * c ≤ cap) (hcap : cap ≤ maxLen) (hp : 0 < p) (hp2 : p < 2147483648) (hx : ∀ j, xs.getD j 0 < p) :
  Calls Tryz.prog 112 #[mmod p, mat r c (some ⟨g, 0, none⟩) n cap, .int .i64 (k : Int)] w fun e w' => e = .returned (.tuple #[]) ∧ Lst w' g (fillP c p k (r - (k + 1)) (k + 1) xs) ∧ w.grownBy w' (some g) := by
 have hrow := fun (i : Nat) (hi : i < r) W => row_at g r c i n cap W hi (by omega) (by omega) hc hn hcap
 have hmul := fun (i f : Nat) (ys : List Nat) (hi : k < i) (hir : i < r) (hy : ys.length = r * c) (hf : f < p) (hys : ∀ j, ys.getD j 0 < p) W (hW : Lst W g ys) =>
  addMul_any g (k * c + k) (i * c + k) (c - k) (c - k) (c - k) (c - k) p f ys W hW (Nat.le_refl _)
   (by have := Nat.mul_le_mul_right c (show k + 1 ≤ r by omega); rw [Nat.add_mul] at this; omega)
   (by have := Nat.mul_le_mul_right c (show i + 1 ≤ r by omega); rw [Nat.add_mul] at this; omega)
   (by have := Nat.mul_le_mul_right c (show k + 1 ≤ i by omega); rw [Nat.add_mul] at this; omega)
   hp hp2 hf hys (by rw [hy]; exact Nat.le_trans (Nat.mul_le_mul (show r ≤ 400 by omega) hc) (by omega))
 obtain ⟨kc, hkc⟩ : ∃ kc, kc = k * c := ⟨_, rfl⟩
 have hkc2 : kc + c ≤ r * c := by
  have := Nat.mul_le_mul_right c (show k + 1 ≤ r by omega)
  rw [Nat.add_mul] at this
  omega
 obtain ⟨fin, hfin⟩ : ∃ fin, fin = fillP c p k (r - (k + 1)) (k + 1) xs := ⟨_, rfl⟩
 rw [← hfin]
 unfold mmod mat at *
 generalize ((18446744073709551615 / p : Nat) : Int) = q at *
 have hrk := hrow k hk
 rw [← hkc] at hrk hmul
 have hcut := cut_at g kc c k (by omega)
 have hO0 := (Ob.new w (p : Int) q)
 have hO := hO0.alloc (.cells #[.int .i64 (r : Int), .int .i64 (c : Int), .slice (some ⟨g, 0, none⟩) n cap] 88)
 have hT := TbQ.new1 w (.cells #[.int .u64 (p : Int), .int .u64 q] 82) (r : Int) (c : Int) (some ⟨g, 0, none⟩) n cap
 have hgl := hL.lt
 have hLa := (hL.alloc (.cells #[.int .u64 (p : Int), .int .u64 q] 82)).alloc (.cells #[.int .i64 (r : Int), .int .i64 (c : Int), .slice (some ⟨g, 0, none⟩) n cap] 88)
 have hG := below2 w (.cells #[.int .u64 (p : Int), .int .u64 q] 82) (.cells #[.int .i64 (r : Int), .int .i64 (c : Int), .slice (some ⟨g, 0, none⟩) n cap] 88)
 have hne1 : w.heap.size ≠ g := by omega
 have hne2 : w.heap.size + 1 ≠ g := by omega
 have HK := Lib.hid hkc
 have HF := Lib.hid hfin
 clear hL hO0 hkc hfin
 have c0 := hT.cell0
 have c1 := hT.cell1
 have c2 := hT.cell2
 have wk : IntKind.i64.wrap ((k : Int) + 1) = (k : Int) + 1 := IntWalk.i64_in _ (by omega)
 go_enter Tryz.func112, Tryz.ntmps112
 go_wp2_with fail
 with_reducible refine (hrk _).mono ?_
 rintro e V1 ⟨rfl, hb1⟩
 have hO1 := hO.step hb1
 have hT1 := hT.step hb1
 have hL1 := hLa.below hb1 hLa.lt
 have hG1 : w.grownBy V1 (some g) := grown_below (grown_below (World.grownBy.refl _ _) hG) (hb1.mono (by simp))
 clear c0 c1 c2 hO hT hLa hG hb1 hrk
 generalize hb3 : w.heap.size = b3 at *
 clear hb3
 go_wp2_with fail
 go_loopw [7] (fun i wr => ∃ (m j : Nat) (ys : List Nat), i = .int .i64 j ∧ j + m = r ∧ k < j ∧ fillP c p k m j ys = fin ∧ ys.length = r * c ∧ (∀ a, ys.getD a 0 < p) ∧ Lst wr g ys ∧ Ob wr b3 (p : Int) q ∧ TbQ wr (b3 + 1) (r : Int) (c : Int) (some ⟨g, 0, none⟩) n cap ∧ w.grownBy wr (some g)) (fun i _ => r - (intOf i).toNat)
 case atStart => exact ⟨r - (k + 1), k + 1, xs, by simp, by omega, by omega, HF.out.symm, hlen, hx, hL1, hO1, hT1, hG1⟩
 case round =>
  obtain ⟨m, j, ys, rfl, hjm, hkj, hfp, hyl, hyp, hLk, hOk, hTk, hGk⟩ := hrel
  have hkk : kc + k < ys.length := by omega
  have ct := hLk.cell hkk
  have t0 := hTk.cell0
  have t1 := hTk.cell1
  have t2 := hTk.cell2
  have o0 := hOk.cell0
  have o1 := hOk.cell1
  have hkc3 : k < c := by omega
  clear hkk
  by_cases hz : ys.getD (kc + k) 0 = 0
  ·rw [hz] at ct
   by_cases hjr : j < r
   ·obtain ⟨m, rfl⟩ : ∃ m', m = m' + 1 := ⟨m - 1, by omega⟩
    rw [fillP, ← HK.out, if_pos hz] at hfp
    have hrj := hrow j hjr
    have hMj := fun (f : Nat) (hf : f < p) W hW => hmul j f ys hkj hjr hyl hf hyp W hW
    obtain ⟨jc, hjc⟩ : ∃ jc, jc = j * c := ⟨_, rfl⟩
    have hjc2 : jc + c ≤ r * c := by
     have := Nat.mul_le_mul_right c (show j + 1 ≤ r by omega)
     rw [Nat.add_mul] at this
     omega
    rw [← hjc] at hfp hrj hMj
    have hcutj := cut_at g jc c k hkc3
    obtain ⟨f, hf⟩ : ∃ f, f = ys.getD (jc + k) 0 := ⟨_, rfl⟩
    have hfp2 : f < p := by rw [hf]; exact hyp _
    have hM := hMj f hfp2
    have hcellf : ∀ W, Lst W g ys → W.cell? ⟨g, jc + k, none⟩ = some (.int .u64 (f : Int)) := fun W hW => by
     have := hW.cell (k := jc + k) (by omega)
     rw [← hf] at this
     exact this
    rw [← hf] at hfp
    have hzl : (adN (kc + k) (jc + k) p f ys (c - k)).length = r * c := by rw [adN_length]; exact hyl
    have hzp : ∀ a, (adN (kc + k) (jc + k) p f ys (c - k)).getD a 0 < p := fun a => adN_lt _ _ _ _ _ _ hp hyp a
    generalize adN (kc + k) (jc + k) p f ys (c - k) = zs at hfp hzl hzp hM
    have HR := Lib.hid hrj
    have HM := Lib.hid hM
    have HC := Lib.hid hcellf
    have HL := Lib.hid hLk
    have HO := Lib.hid hOk
    have HT := Lib.hid hTk
    have HG := Lib.hid hGk
    have hjr2 : decide ((j : Int) < (r : Int)) = true := by rw [decide_eq_true_iff]; omega
    have hjw : IntKind.i64.wrap ((j : Int) + 1) = (j : Int) + 1 := IntWalk.i64_in _ (by omega)
    clear hrj hM hMj hcellf hLk hOk hTk hGk hrow hmul hf hjc hyp hx hz hyl
    go_wp2_with fail
    go_region_with (first
     | (go_at_call 125; (with_reducible refine (HR.out _).mono ?_); rintro e v ⟨rfl, hb⟩; first
      | (have hLb := hLa.below hb hLa.lt; have hOb := hOa.step hb; have hTb := hTa.step hb; have hGb := grown_below hGa hb; have b0 := hOb.cell0; have b1 := hOb.cell1; have d0 := hTb.cell0; have d1 := hTb.cell1; have d2 := hTb.cell2; have hcb := HC.out _ hLb)
      | (have hLa := HL.out.drew.below hb HL.out.drew.lt; have hOa := HO.out.drew.step hb; have hTa := HT.out.drew.step hb; have hGa := grown_below (grown_drew HG.out) hb; have a0 := hOa.cell0; have a1 := hOa.cell1; have e0 := hTa.cell0; have e1 := hTa.cell1; have e2 := hTa.cell2; have hca := HC.out _ hLa))
     | (go_at_call 114; (with_reducible refine (HM.out _ hLb).mono ?_); rintro e v ⟨rfl, hLz, hGz⟩))
    all_goals
     have hO2 := hOb.grown hGz (by intro h; cases h; exact hne1 rfl)
     have hT2 := hTb.grown hGz (by intro h; cases h; exact hne2 rfl)
     have hG2 := grown_trans2 hGb hGz
     have HL2 := Lib.hid hLz
     have HO2 := Lib.hid hO2
     have HT2 := Lib.hid hT2
     have HG2 := Lib.hid hG2
     clear hO2 hT2 hG2 hLz hGz hLb hOb hTb hGb hLa hOa hTa hGa a0 a1 e0 e1 e2 hca b0 b1 d0 d1 d2 hcb
     go_wp2
     go_roundw
     case rel => exact ⟨m, j + 1, zs, by simp, by omega, by omega, hfp, hzl, hzp, HL2.out, HO2.out, HT2.out, HG2.out⟩
     case measure => simp [intOf]; omega
   ·obtain rfl : m = 0 := by omega
    rw [fillP] at hfp
    subst hfp
    have hjr2 : decide ((j : Int) < (r : Int)) = false := by rw [decide_eq_false_iff_not]; omega
    have HL := Lib.hid hLk
    have HG := Lib.hid hGk
    clear hLk hOk hTk hGk hrow hmul hyp hx hz hyl
    go_wp2
    go_end0
    exact ⟨rfl, HL.out, HG.out⟩
  ·have hfin2 : fin = ys := by
    cases m with
    | zero => rw [← hfp, fillP]
    | succ m => rw [← hfp, fillP, ← HK.out, if_neg hz]
   subst hfin2
   obtain ⟨y, hy⟩ : ∃ y, y = fin.getD (kc + k) 0 := ⟨_, rfl⟩
   rw [← hy] at ct hz
   have hz1 : ((y : Int) == 0) = false := by rw [beq_eq_false_iff_ne]; omega
   have hz2 : ¬ (y : Int) = 0 := by omega
   have HL := Lib.hid hLk
   have HG := Lib.hid hGk
   clear hLk hOk hTk hGk hrow hmul hyp hx hz hyl hfp HF hy
   go_wp2
   go_end0
   exact ⟨rfl, HL.out, HG.out⟩
end Go.Proofs.YtknaghdoffigjaaGreatDoor
