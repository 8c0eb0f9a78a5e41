import Derived.Test.YtknaghdoffigjaaGreatDoorZNum
import Derived.Deep.RegionWith
import Derived.Laws.ResultCell
import Derived.Laws.BytesArg
set_option linter.unusedSimpArgs false
set_option linter.unusedVariables false
set_option linter.unnecessarySimpa false
namespace Go.Proofs.YtknaghdoffigjaaGreatDoor
open Go.RowKit
def diffN (xs ys : List Nat) : Nat → List Nat × Nat
 | 0 => ([], 0)
 | i + 1 => ((diffN xs ys i).1 ++ [(xs.getD i 0 + B64 - ys.getD i 0 - (diffN xs ys i).2) % B64], if xs.getD i 0 < ys.getD i 0 + (diffN xs ys i).2 then 1 else 0)
theorem diffN_length (xs ys : List Nat) (i : Nat) : (diffN xs ys i).1.length = i := by
 induction i with
 | zero => rfl
 | succ i ih => simp [diffN, ih]
theorem diffN_borrow (xs ys : List Nat) (i : Nat) : (diffN xs ys i).2 ≤ 1 := by
 cases i with
 | zero => exact Nat.zero_le _
 | succ i => simp only [diffN]; split <;> omega
theorem diffN_limbs (xs ys : List Nat) (i : Nat) : Limbs (diffN xs ys i).1 := by
 induction i with
 | zero => exact Limbs.nil
 | succ i ih => exact ih.snoc (Nat.mod_lt _ B64_pos)
theorem diff_digit (x y b : Nat) (hx : x < B64) (hy : y < B64) (hb : b ≤ 1) : (x + B64 - y - b) % B64 + y + b = x + B64 * (if x < y + b then 1 else 0) := by
 rw [B64_eq] at *
 split <;> omega
theorem diffN_val (xs ys : List Nat) (hx : Limbs xs) (hy : Limbs ys) (i : Nat) : pval (diffN xs ys i).1 + pval (ys.take i) = pval (xs.take i) + B64 ^ i * (diffN xs ys i).2 := by
 induction i with
 | zero => simp [diffN, pval]
 | succ i ih =>
  have hd := diff_digit _ _ _ (hx.getD i) (hy.getD i) (diffN_borrow xs ys i)
  have hm := congrArg (fun n => B64 ^ i * n) hd
  simp only [Nat.mul_add] at hm
  rw [pval_take_succ, pval_take_succ, diffN, pval_snoc, diffN_length]
  simp only
  rw [Nat.pow_succ, Nat.mul_assoc]
  omega
theorem diffN_end (xs ys : List Nat) (hx : Limbs xs) (hy : Limbs ys) (hl : ys.length ≤ xs.length) (h : pval ys ≤ pval xs) : pval (diffN xs ys xs.length).1 = pval xs - pval ys := by
 have hv := diffN_val xs ys hx hy xs.length
 have hb := diffN_borrow xs ys xs.length
 have hlt := pval_lt (diffN_limbs xs ys xs.length)
 rw [diffN_length] at hlt
 rw [List.take_of_length_le hl, List.take_of_length_le (Nat.le_refl _)] at hv
 have : (diffN xs ys xs.length).2 = 0 ∨ (diffN xs ys xs.length).2 = 1 := by omega
 rcases this with e | e
 ·rw [e] at hv; omega
 ·rw [e] at hv; omega
set_option maxHeartbeats 1000000 in
theorem difference_any (A B : Option Addr) (na nb ca cb : Nat) (xs ys : List Nat) (w : World) (hna : xs.length = na) (hnb : ys.length = nb) (hx : RdA w A xs) (hy : RdA w B ys) (lx : Limbs xs) (ly : Limbs ys)
  (nx : na ≤ 1099511627776) (hl : nb ≤ na) (hle : pval ys ≤ pval xs) :
  Calls Tryz.prog 101 #[.slice A na ca, .slice B nb cb] w fun e w' => RetO w w' e (limbs (pval xs - pval ys)) := by
 have hmk := make_parts na (by omega)
 have Hna := Lib.hid hna
 have Hnb := Lib.hid hnb
 clear hna hnb
 go_enter Tryz.func101, Tryz.ntmps101
 go_wp2
 obtain ⟨g, hg⟩ : ∃ g, g = w.heap.size := ⟨_, rfl⟩
 have hL0 : Lst (w.alloc (.cells (U (List.replicate na 0)) 80)) g (List.replicate na 0) := by rw [hg]; exact Lst.new _ _
 have hB0 : Below g w (w.alloc (.cells (U (List.replicate na 0)) 80)) := (Below.refl _ _).alloc (by omega) _
 rw [← hg]
 have Hg := Lib.hid hg
 clear hg hmk
 go_loopw [6, 13] (fun c i wr => ∃ k : Nat, k ≤ na ∧ i = .int .i64 k ∧ c = .int .u64 ((diffN xs ys k).2 : Nat) ∧ Lst wr g ((diffN xs ys k).1 ++ List.replicate (na - k) 0) ∧ Below g w wr)
  (fun _ i _ => na - (intOf i).toNat)
 case atStart => exact ⟨0, Nat.zero_le _, rfl, rfl, hL0, hB0⟩
 case round =>
  obtain ⟨k, hk, rfl, rfl, hL, hB⟩ := hrel
  have hc := diffN_borrow xs ys k
  have hlen := diffN_length xs ys k
  by_cases hlt : k < na
  ·have hA := hx.below (w' := wr) (by rw [← Hg.out]; exact hB)
   have hA2 := hy.below (w' := wr) (by rw [← Hg.out]; exact hB)
   obtain ⟨a, rfl, hab, hac⟩ := hA k (by rw [Hna.out]; omega)
   have hcell := hL.cell (k := k) (by simp; omega)
   have hfr := hL.frozen k
   have hL2 := hL.set k ((xs.getD k 0 + B64 - ys.getD k 0 - (diffN xs ys k).2) % B64)
   have hset := set_mid (diffN xs ys k).1 (na - (k + 1)) ((xs.getD k 0 + B64 - ys.getD k 0 - (diffN xs ys k).2) % B64)
   rw [hlen, show na - (k + 1) + 1 = na - k from by omega] at hset
   rw [hset] at hL2
   have hadd := fun W => bits_Sub64 (xs.getD k 0) (ys.getD k 0) (diffN xs ys k).2 hc W
   have hL3 : Lst (wr.setCell ⟨g, k, none⟩ (.int .u64 (((xs.getD k 0 + B64 - ys.getD k 0 - (diffN xs ys k).2) % B64 : Nat) : Int))) g ((diffN xs ys (k + 1)).1 ++ List.replicate (na - (k + 1)) 0) := hL2
   have hc3 : (diffN xs ys (k + 1)).2 = if xs.getD k 0 < ys.getD k 0 + (diffN xs ys k).2 then 1 else 0 := rfl
   generalize hq' : (diffN xs ys (k + 1)).2 = q' at *
   have Hq' := Lib.hid hq'
   clear hq'
   have hB' := hB.setCell (p := ⟨g, k, none⟩) (Nat.le_refl g) (.int .u64 (((xs.getD k 0 + B64 - ys.getD k 0 - (diffN xs ys k).2) % B64 : Nat) : Int))
   have hy1 := Lib.hid (fun W (h : RdA W B ys) => at_any B nb cb ys k W Hnb.out h (by unfold maxLen; omega))
   rw [← hc3] at hadd
   clear hset hL hL2 hc3
   generalize (diffN xs ys k).2 = q at *
   generalize xs.getD k 0 = x at *
   generalize hy0 : ys.getD k 0 = y at *
   generalize (x + B64 - y - q) % B64 = z at *
   clear hlen
   go_wp2
   go_region_with (go_at_call 138; (with_reducible refine (hy1.out _ ?_).mono ?_); exact hA2; rintro e w' ⟨rfl, rfl⟩)
   all_goals go_wp2
   all_goals go_roundw
   all_goals first | (case rel => exact ⟨k + 1, by omega, by go_num, by rw [Hq'.out], hL3, hB'.drew⟩) | skip
   all_goals first | (case measure => simp [intOf]; omega) | skip
  ·obtain rfl : k = na := by omega
   have hval := diffN_end xs ys lx ly (by rw [Hna.out, Hnb.out]; exact hl) hle
   have hlim := diffN_limbs xs ys k
   rw [Hna.out] at hval
   rw [Nat.sub_self, List.replicate_zero, List.append_nil] at hL
   have Hvz := Lib.hid hval
   have Hlz := Lib.hid hlen
   clear hval hlen
   generalize (diffN xs ys k).1 = zs at *
   go_wp2_with fail
   with_reducible refine (trim_any _ _ _ zs _ Hlz.out hL.rd (Nat.le_refl _) (by unfold maxLen; omega)).mono ?_
   rintro e w' ⟨rfl, rfl⟩
   go_wp2
   go_ret
   have hr := RetO.trimmed Hg.out hL hlim hB (by rw [Hlz.out]; unfold maxLen; omega)
   rw [Hlz.out, Hvz.out] at hr
   exact hr
end Go.Proofs.YtknaghdoffigjaaGreatDoor
namespace Go.Proofs.YtknaghdoffigjaaGreatDoor
open Go.RowKit
theorem bits_Add64_0 (x y : Nat) (w : World) :
  (callFunc 137 #[.int .u64 (x : Int), .int .u64 (y : Int), .int .u64 0]).run Tryz.prog w =
   .ok (.value (.tuple #[.int .u64 (((x + y) % B64 : Nat) : Int), .int .u64 (((x + y) / B64 : Nat) : Int)])) w := by
 have := bits_Add64 x y 0 (Nat.zero_le _) w
 simpa using this
theorem bits_Mul64' (x y : Nat) (hx : x < B64) (hy : y < B64) (w : World) :
  Calls Tryz.prog 145 #[.int .u64 (x : Int), .int .u64 (y : Int)] w fun e w' => e = .returned (.tuple #[.int .u64 ((x * y / B64 : Nat) : Int), .int .u64 ((x * y % B64 : Nat) : Int)]) ∧ w = w' :=
 (Tryz.bits_Mul64 x y hx hy w).mono fun _ _ ⟨he, hw⟩ => ⟨he, hw.symm⟩
theorem grownBy_setRow {a w : World} {g : Nat} (h : a.grownBy w (some g)) {p : Addr} (hp : p.block = g) (u : Value) : a.grownBy (w.setCell p u) (some g) :=
 ⟨h.os, h.tape, h.output, by simpa [World.setCell] using h.size, fun i hi hne => (Below.heap_setCell w p u i (by rintro rfl; exact hne (by rw [hp]))).trans (h.block i hi hne)⟩
def amN (off : Nat) (ys : List Nat) (f : Nat) (ts : List Nat) : Nat → List Nat × Nat
 | 0 => (ts, 0)
 | k + 1 => ((amN off ys f ts k).1.set (off + k) (((amN off ys f ts k).1.getD (off + k) 0 + ys.getD k 0 * f + (amN off ys f ts k).2) % B64),
   ((amN off ys f ts k).1.getD (off + k) 0 + ys.getD k 0 * f + (amN off ys f ts k).2) / B64)
theorem amN_length (off : Nat) (ys : List Nat) (f : Nat) (ts : List Nat) (k : Nat) : (amN off ys f ts k).1.length = ts.length := by
 induction k with
 | zero => rfl
 | succ k ih => simp [amN, ih]
theorem Limbs.set {l : List Nat} (h : Limbs l) (k x : Nat) (hx : x < B64) : Limbs (l.set k x) := by
 intro y hy
 rcases List.mem_or_eq_of_mem_set hy with hy | rfl
 ·exact h y hy
 ·exact hx
theorem mulle (y f : Nat) (hy : y < B64) (hf : f < B64) : y * f ≤ 340282366920938463426481119284349108225 := by
 rw [B64_eq] at *
 have h1 : y ≤ 18446744073709551615 := by omega
 have h2 : f ≤ 18446744073709551615 := by omega
 exact Nat.mul_le_mul h1 h2
theorem amN_ok (off : Nat) (ys : List Nat) (f : Nat) (ts : List Nat) (hy : Limbs ys) (hf : f < B64) (ht : Limbs ts) (k : Nat) : Limbs (amN off ys f ts k).1 ∧ (amN off ys f ts k).2 < B64 := by
 induction k with
 | zero => exact ⟨ht, B64_pos⟩
 | succ k ih =>
  refine ⟨ih.1.set _ _ (Nat.mod_lt _ B64_pos), ?_⟩
  have h1 := mulle _ _ (hy.getD k) hf
  have h2 := ih.1.getD (off + k)
  have h3 := ih.2
  simp only [amN]
  rw [Nat.div_lt_iff_lt_mul B64_pos]
  rw [B64_eq] at *
  omega
theorem am_step (t y f c : Nat) (ht : t < B64) (hy : y < B64) (hf : f < B64) (hc : c < B64) :
  (t + (y * f % B64 + c) % B64) % B64 = (t + y * f + c) % B64 ∧ y * f / B64 + (y * f % B64 + c) / B64 ≤ 18446744073709551615 ∧
  y * f / B64 + (y * f % B64 + c) / B64 + (t + (y * f % B64 + c) % B64) / B64 = (t + y * f + c) / B64 ∧ (t + y * f + c) / B64 ≤ 18446744073709551615 := by
 have h := mulle y f hy hf
 generalize y * f = p at *
 rw [B64_eq] at *
 refine ⟨by omega, by omega, by omega, by omega⟩
set_option maxHeartbeats 1000000 in
theorem addMultiple_any (T B : Option Addr) (n ct cb g off f : Nat) (ts ys : List Nat) (w0 w : World) (hn : ys.length = n) (hT : 0 < n → T = some ⟨g, off, none⟩) (hL : Lst w g ts) (ht : off + n ≤ ts.length)
  (hy : RdA w0 B ys) (hw : Below w0.heap.size w0 w) (hg : w0.heap.size ≤ g) (ly : Limbs ys) (lt : Limbs ts) (hf : f < B64) (nn : n ≤ 1099511627776) :
  Calls Tryz.prog 135 #[.slice T n ct, .slice B n cb, .int .u64 (f : Int)] w fun e w' =>
   e = .returned (.int .u64 ((amN off ys f ts n).2 : Nat)) ∧ Lst w' g (amN off ys f ts n).1 ∧ w.grownBy w' (some g) := by
 have Hn := Lib.hid hn
 clear hn
 go_enter Tryz.func135, Tryz.ntmps135
 go_wp2
 go_loopw [7, 14] (fun c i wr => ∃ k : Nat, k ≤ n ∧ i = .int .i64 k ∧ c = .int .u64 ((amN off ys f ts k).2 : Nat) ∧ Lst wr g (amN off ys f ts k).1 ∧ w.grownBy wr (some g))
  (fun _ i _ => n - (intOf i).toNat)
 case atStart => exact ⟨0, Nat.zero_le _, rfl, rfl, hL, ⟨rfl, rfl, rfl, Nat.le_refl _, fun _ _ _ => rfl⟩⟩
 case round =>
  obtain ⟨k, hk, rfl, rfl, hLk, hG⟩ := hrel
  have hok := amN_ok off ys f ts ly hf lt k
  have hlen := amN_length off ys f ts k
  by_cases hlt : k < n
  ·have hwr : Below w0.heap.size w0 wr := hw.grown hG (Nat.le_trans hw.size (Nat.le_refl _)) (by intro j hj; cases hj; exact hg)
   obtain ⟨b, rfl, hbb, hbc⟩ := (hy.below hwr) k (by rw [Hn.out]; exact hlt)
   obtain rfl := hT (by omega)
   have hcell := hLk.cell (k := off + k) (by omega)
   have hfr := hLk.frozen (off + k)
   have hL2 := hLk.set (off + k) (((amN off ys f ts k).1.getD (off + k) 0 + ys.getD k 0 * f + (amN off ys f ts k).2) % B64)
   have hst := am_step ((amN off ys f ts k).1.getD (off + k) 0) (ys.getD k 0) f (amN off ys f ts k).2 (hok.1.getD _) (ly.getD k) hf hok.2
   have hL3 : Lst (wr.setCell ⟨g, off + k, none⟩ (.int .u64 ((((amN off ys f ts k).1.getD (off + k) 0 + ys.getD k 0 * f + (amN off ys f ts k).2) % B64 : Nat) : Int))) g (amN off ys f ts (k + 1)).1 := hL2
   have hc3 : (amN off ys f ts (k + 1)).2 = ((amN off ys f ts k).1.getD (off + k) 0 + ys.getD k 0 * f + (amN off ys f ts k).2) / B64 := rfl
   have hm := bits_Mul64' (ys.getD k 0) f (ly.getD k) hf wr
   clear hL2 hLk hlen
   generalize hq' : (amN off ys f ts (k + 1)).2 = q' at *
   have Hq' := Lib.hid hq'
   clear hq'
   generalize (amN off ys f ts k).1.getD (off + k) 0 = t at *
   generalize (amN off ys f ts k).2 = c at *
   generalize ys.getD k 0 = y at *
   rw [← hc3] at hst
   have HM := Lib.hid hm
   clear hm hc3
   generalize y * f % B64 = l at *
   generalize y * f / B64 = h at *
   have ha1 := bits_Add64_0 l c
   have ha2 := bits_Add64_0 t ((l + c) % B64)
   rw [hst.1] at ha2
   obtain ⟨hs1, hs2, hs3, hs4⟩ := hst
   clear hs1
   generalize (l + c) / B64 = c1 at *
   generalize (t + (l + c) % B64) / B64 = c2 at *
   generalize (l + c) % B64 = l2 at *
   generalize (t + y * f + c) % B64 = z at *
   subst hs3
   have hG' : w.grownBy (wr.setCell ⟨g, off + k, none⟩ (.int .u64 ((z : Nat) : Int))) (some g) := grownBy_setRow hG rfl _
   go_wp2_with fail
   with_reducible refine HM.out.mono ?_
   rintro e w' ⟨rfl, rfl⟩
   go_wp2
   go_roundw
   case rel => exact ⟨k + 1, by omega, by go_num, by rw [Hq'.out]; go_num, hL3, hG'⟩
   case measure => simp [intOf]; omega
  ·obtain rfl : k = n := by omega
   go_wp2
   go_ret
   exact ⟨rfl, hLk, hG⟩
theorem pval_set (l : List Nat) (j x : Nat) (h : j < l.length) : pval (l.set j x) + B64 ^ j * l.getD j 0 = pval l + B64 ^ j * x := by
 induction l generalizing j with
 | nil => exact absurd h (by simp)
 | cons y l ih =>
  cases j with
  | zero => simp [pval]; omega
  | succ j =>
   have := ih j (by simpa using h)
   have h2 := congrArg (fun n => B64 * n) this
   simp only [Nat.mul_add] at h2
   simp only [List.set_cons_succ, pval, List.getD_cons_succ]
   rw [Nat.pow_succ, Nat.mul_comm (B64 ^ j) B64, Nat.mul_assoc, Nat.mul_assoc]
   omega
theorem amN_getD (off : Nat) (ys : List Nat) (f : Nat) (ts : List Nat) (k j : Nat) (h : j < off ∨ off + k ≤ j) : (amN off ys f ts k).1.getD j 0 = ts.getD j 0 := by
 induction k with
 | zero => rfl
 | succ k ih =>
  have ih := ih (by omega)
  simp only [amN]
  rw [List.getD_eq_getElem?_getD, List.getElem?_set_ne (by omega), ← List.getD_eq_getElem?_getD, ih]
theorem amN_val (off : Nat) (ys : List Nat) (f : Nat) (ts : List Nat) (k : Nat) (h : off + k ≤ ts.length) :
  pval (amN off ys f ts k).1 + B64 ^ (off + k) * (amN off ys f ts k).2 = pval ts + B64 ^ off * (f * pval (ys.take k)) := by
 induction k with
 | zero => simp [amN, pval]
 | succ k ih =>
  have ih := ih (by omega)
  have hs := pval_set (amN off ys f ts k).1 (off + k) (((amN off ys f ts k).1.getD (off + k) 0 + ys.getD k 0 * f + (amN off ys f ts k).2) % B64) (by rw [amN_length]; omega)
  have hd := Nat.mod_add_div ((amN off ys f ts k).1.getD (off + k) 0 + ys.getD k 0 * f + (amN off ys f ts k).2) B64
  have h2 := congrArg (fun n => B64 ^ (off + k) * n) hd
  rw [pval_take_succ]
  simp only [amN]
  generalize (amN off ys f ts k).1.getD (off + k) 0 = t at *
  generalize (amN off ys f ts k).2 = c at *
  generalize ys.getD k 0 = y at *
  simp only [Nat.mul_add] at h2
  rw [show off + (k + 1) = (off + k) + 1 from by omega, Nat.pow_succ, Nat.mul_assoc]
  have e : B64 ^ off * (f * (pval (List.take k ys) + B64 ^ k * y)) = B64 ^ off * (f * pval (List.take k ys)) + B64 ^ (off + k) * (y * f) := by
   rw [Nat.mul_add, Nat.mul_add, Nat.pow_add, Nat.mul_left_comm f (B64 ^ k) y, Nat.mul_assoc, Nat.mul_comm f y]
  rw [e]
  omega
def prN (xs ys : List Nat) : Nat → List Nat
 | 0 => List.replicate (xs.length + ys.length) 0
 | i + 1 => (amN i ys (xs.getD i 0) (prN xs ys i) ys.length).1.set (i + ys.length) (amN i ys (xs.getD i 0) (prN xs ys i) ys.length).2
theorem prN_length (xs ys : List Nat) (i : Nat) : (prN xs ys i).length = xs.length + ys.length := by
 induction i with
 | zero => simp [prN]
 | succ i ih => simp [prN, amN_length, ih]
theorem prN_limbs (xs ys : List Nat) (hx : Limbs xs) (hy : Limbs ys) (i : Nat) : Limbs (prN xs ys i) := by
 induction i with
 | zero => intro x hx; rw [(List.mem_replicate.1 hx).2]; exact B64_pos
 | succ i ih =>
  have h := amN_ok i ys (xs.getD i 0) (prN xs ys i) hy (hx.getD i) ih ys.length
  exact h.1.set _ _ h.2
theorem prN_zero (xs ys : List Nat) (i j : Nat) (h : i + ys.length ≤ j) : (prN xs ys i).getD j 0 = 0 := by
 induction i with
 | zero =>
  simp only [prN]
  rw [List.getD_eq_getElem?_getD]
  by_cases hj : j < xs.length + ys.length
  ·rw [List.getElem?_replicate_of_lt hj]; rfl
  ·rw [List.getElem?_eq_none (by simp; omega)]; rfl
 | succ i ih =>
  simp only [prN]
  rw [List.getD_eq_getElem?_getD, List.getElem?_set_ne (by omega), ← List.getD_eq_getElem?_getD, amN_getD _ _ _ _ _ _ (by omega)]
  exact ih (by omega)
theorem prN_val (xs ys : List Nat) (i : Nat) (h : i ≤ xs.length) : pval (prN xs ys i) = pval (xs.take i) * pval ys := by
 induction i with
 | zero =>
  have : ∀ n, pval (List.replicate n 0) = 0 := fun n => by
   induction n with
   | zero => rfl
   | succ n ih => rw [List.replicate_succ, pval, ih]; simp
  simp [prN, this, pval]
 | succ i ih =>
  have ih := ih (by omega)
  have hz := prN_zero xs ys i (i + ys.length) (Nat.le_refl _)
  have hz2 := amN_getD i ys (xs.getD i 0) (prN xs ys i) ys.length (i + ys.length) (by omega)
  have hs := pval_set (amN i ys (xs.getD i 0) (prN xs ys i) ys.length).1 (i + ys.length) (amN i ys (xs.getD i 0) (prN xs ys i) ys.length).2 (by rw [amN_length, prN_length]; omega)
  have hv := amN_val i ys (xs.getD i 0) (prN xs ys i) ys.length (by rw [prN_length]; omega)
  rw [hz2, hz, Nat.mul_zero, Nat.add_zero] at hs
  rw [List.take_of_length_le (Nat.le_refl _)] at hv
  simp only [prN]
  rw [hs, hv, ih, pval_take_succ, Nat.add_mul, Nat.mul_assoc]
end Go.Proofs.YtknaghdoffigjaaGreatDoor
namespace Go.Proofs.YtknaghdoffigjaaGreatDoor
open Go.RowKit
theorem slice_parts (A : Option Addr) (n c lo hi : Nat) (h1 : lo ≤ hi) (h2 : hi ≤ c) (w : World) :
  (Instr.slice 109 (.slice A n c) (some (.int .i64 (lo : Int))) (some (.int .i64 (hi : Int))) none).run Tryz.prog w = .ok (.slice (if c = lo then A else A.map (·.add lo)) (hi - lo) (c - lo)) w := by
 have h := run_slice_lh (P := Tryz.prog) (w := w) 109 A n c (by kernel_rfl) .i64 .i64 (lo : Int) (hi : Int) (by omega) (by omega) (by omega)
 rw [h]
 have e : Tryz.prog.elem 109 = 80 := by kernel_rfl
 rw [e, Tryz.sizeOf80]
 simp [Result.andThen, sliced]
set_option maxHeartbeats 2000000 in
theorem product_any (A B : Option Addr) (na nb ca cb : Nat) (xs ys : List Nat) (w : World) (hna : xs.length = na) (hnb : ys.length = nb) (hx : RdA w A xs) (hy : RdA w B ys) (lx : Limbs xs) (ly : Limbs ys)
  (nx : na ≤ 1099511627776) (ny : nb ≤ 1099511627776) :
  Calls Tryz.prog 97 #[.slice A na ca, .slice B nb cb] w fun e w' => RetO w w' e (limbs (pval xs * pval ys)) := by
 have hmk := make_parts (na + nb) (by omega)
 have e1 : (((na + nb : Nat)) : Int) = (na : Int) + (nb : Int) := by omega
 rw [e1] at hmk
 have Hna := Lib.hid hna
 have Hnb := Lib.hid hnb
 clear hna hnb e1
 go_enter Tryz.func97, Tryz.ntmps97
 go_wp2
 obtain ⟨g, hg⟩ : ∃ g, g = w.heap.size := ⟨_, rfl⟩
 have hL0 : Lst (w.alloc (.cells (U (List.replicate (na + nb) 0)) 80)) g (List.replicate (na + nb) 0) := by rw [hg]; exact Lst.new _ _
 have hB0 : Below g w (w.alloc (.cells (U (List.replicate (na + nb) 0)) 80)) := (Below.refl _ _).alloc (by omega) _
 rw [← hg]
 have Hg := Lib.hid hg
 clear hg hmk
 go_loopw [15] (fun i wr => ∃ k : Nat, k ≤ na ∧ i = .int .i64 k ∧ Lst wr g (prN xs ys k) ∧ Below g w wr)
  (fun i _ => na - (intOf i).toNat)
 case atStart => exact ⟨0, Nat.zero_le _, rfl, by rw [show prN xs ys 0 = List.replicate (na + nb) 0 from by rw [← Hna.out, ← Hnb.out]; rfl]; exact hL0, hB0⟩
 case round =>
  obtain ⟨k, hk, rfl, hL, hB⟩ := hrel
  have hlen := prN_length xs ys k
  rw [Hna.out, Hnb.out] at hlen
  have hlim := prN_limbs xs ys lx ly k
  by_cases hlt : k < na
  ·have hBw : Below w.heap.size w wr := by rw [← Hg.out]; exact hB
   obtain ⟨a, rfl, hab, hac⟩ := hx.below hBw k (by rw [Hna.out]; omega)
   have HC := Lib.hid (fun T ct (hT : 0 < nb → T = some ⟨g, k, none⟩) (W : World) (h1 : Lst W g (prN xs ys k)) (h2 : Below w.heap.size w W) =>
    addMultiple_any T B nb ct cb g k (xs.getD k 0) (prN xs ys k) ys w W Hnb.out hT h1 (by omega) hy h2 (by rw [← Hg.out]; exact Nat.le_refl _) ly hlim (lx.getD k) (by omega))
   have hlen2 := amN_length k ys (xs.getD k 0) (prN xs ys k) nb
   have hok := amN_ok k ys (xs.getD k 0) (prN xs ys k) ly (lx.getD k) hlim nb
   have hpr : prN xs ys (k + 1) = (amN k ys (xs.getD k 0) (prN xs ys k) nb).1.set (k + nb) (amN k ys (xs.getD k 0) (prN xs ys k) nb).2 := by
    rw [← Hnb.out]; rfl
   have HPR := Lib.hid hpr
   clear hpr
   generalize xs.getD k 0 = x at *
   generalize hq : amN k ys x (prN xs ys k) nb = q at *
   have hlen3 : q.1.length = na + nb := by rw [hlen2, hlen]
   have HL3 := Lib.hid hlen3
   clear hlen2 hlen hq hlen3
   have hsl := slice_parts (some ⟨g, 0, none⟩) (na + nb) (na + nb) k (k + nb) (by omega) (by omega)
   rw [if_neg (by omega), show k + nb - k = nb from by omega, show (((k + nb : Nat)) : Int) = (k : Int) + nb from by omega, show (some (⟨g, 0, none⟩ : Addr)).map (·.add k) = some ⟨g, k, none⟩ from by simp [Addr.add]; omega] at hsl
   have hw1 : IntKind.i64.wrap ((k : Int) + nb) = (k : Int) + nb := IntWalk.i64_in _ (by omega)
   have hw2 : (0 : Int) ≤ (k : Int) + nb := by omega
   have hw3 : ((k : Int) + nb).toNat = k + nb := by omega
   have hw4 : (k : Int) + nb < ((na + nb : Nat) : Int) := by omega
   go_wp2
   go_region_with (go_at_call 135; (with_reducible refine (HC.out _ _ (fun _ => rfl) _ hL.drew hBw.drew).mono ?_); rintro e w' ⟨rfl, hL', hG'⟩; have hcell2 := hL'.cell (k := k + nb) (by rw [HL3.out]; omega); have hfr2 := hL'.frozen (k + nb))
   have hB2 : Below g w w' := hB.drew.grown hG' (Nat.le_of_lt hL.lt) (by intro j hj; cases hj; exact Nat.le_refl _)
   have hB3 := hB2.setCell (p := ⟨g, k + nb, none⟩) (Nat.le_refl g) (.int .u64 (q.2 : Int))
   have hL4 : Lst (w'.setCell ⟨g, k + nb, none⟩ (.int .u64 (q.2 : Int))) g (prN xs ys (k + 1)) := by rw [HPR.out]; exact hL'.set _ _
   go_wp2
   go_roundw
   case rel => exact ⟨k + 1, by omega, by go_num, hL4, hB3⟩
   case measure => simp [intOf]; omega
  ·obtain rfl : k = na := by omega
   have hval := prN_val xs ys k (by rw [Hna.out]; exact Nat.le_refl _)
   rw [List.take_of_length_le (by rw [Hna.out]; exact Nat.le_refl _)] at hval
   have Hvz := Lib.hid hval
   have Hlz := Lib.hid hlen
   clear hval hlen
   generalize prN xs ys k = zs at *
   go_wp2_with fail
   with_reducible refine (trim_any _ _ _ zs _ Hlz.out hL.rd (Nat.le_refl _) (by unfold maxLen; omega)).mono ?_
   rintro e w' ⟨rfl, rfl⟩
   go_wp2
   go_ret
   have hr := RetO.trimmed Hg.out hL hlim hB (by rw [Hlz.out]; unfold maxLen; omega)
   rw [Hlz.out, Hvz.out] at hr
   exact hr
end Go.Proofs.YtknaghdoffigjaaGreatDoor
namespace Go.Proofs.YtknaghdoffigjaaGreatDoor
open Go.RowKit
def Wd (w : World) (b : Nat) (x : Bool) (s : ByteArray) : Prop := w.heap[b]? = some (.cells #[.bool x, .string s] 32 (0, 0))
section
variable {w w' : World} {b : Nat} {x : Bool} {s : ByteArray}
theorem Wd.lt (h : Wd w b x s) : b < w.heap.size := by
 rcases Nat.lt_or_ge b w.heap.size with hlt | hge
 ·exact hlt
 ·unfold Wd at h; rw [Array.getElem?_eq_none hge] at h; cases h
theorem Wd.cell0 (h : Wd w b x s) : w.cell? ⟨b, 0, none⟩ = some (.bool x) := cell_of_row w b 0 _ _ _ h
theorem Wd.cell1 (h : Wd w b x s) : w.cell? ⟨b, 1, none⟩ = some (.string s) := cell_of_row w b 1 _ _ _ h
theorem Wd.frozen (h : Wd w b x s) (k : Nat) : w.frozen? ⟨b, k, none⟩ = false := by
 unfold Wd at h
 simp [World.frozen?, h]
theorem Wd.block (h : Wd w b x s) (hb : w'.heap[b]? = w.heap[b]?) : Wd w' b x s := hb.trans h
theorem Wd.below {B : Nat} (h : Wd w b x s) (hb : Below B w w') (hg : b < B) : Wd w' b x s := h.block (hb.block b hg)
theorem Wd.alloc (h : Wd w b x s) (o : Obj) : Wd (w.alloc o) b x s := h.block (Below.heap_alloc w o b h.lt)
theorem Wd.far (h : Wd w b x s) {p : Addr} (hp : b ≠ p.block) (u : Value) : Wd (w.setCell p u) b x s := h.block (Below.heap_setCell w p u b hp)
theorem Wd.new (w : World) (x : Bool) (s : ByteArray) : Wd (w.alloc (.cells #[.bool x, .string s] 32)) w.heap.size x s := heap_alloc_new w _
theorem Wd.set0 (h : Wd w b x s) (y : Bool) : Wd (w.setCell ⟨b, 0, none⟩ (.bool y)) b y s := by
 unfold Wd at h ⊢
 simp [World.setCell, Array.getElem?_modify, h]
theorem Wd.set1 (h : Wd w b x s) (t : ByteArray) : Wd (w.setCell ⟨b, 1, none⟩ (.string t)) b x t := by
 unfold Wd at h ⊢
 simp [World.setCell, Array.getElem?_modify, h]
theorem Wd.load (h : Wd w b x s) : (loadVar 32 ⟨b, 0, none⟩).run Tryz.prog w = .ok (.agg #[.bool x, .string s]) w := by
 have h0 := h.cell0
 have h1 := h.cell1
 simp [loadVar, go_sem, h0, h1]
end
theorem post_wide {fn : Func} {R : Ending → World → Prop} {a : Act} {w : World} {p : Tmp} {b : Nat} {x : Bool} {s : ByteArray} (h : fn.results = #[.cell p 32])
  (ht : a.tmps.getD p undef = .pointer (some ⟨b, 0, none⟩)) (hw : Wd w b x s) (hd : a.defers = []) (hR : R (.returned (.agg #[.bool x, .string s])) w) : bodyPost Tryz.prog fn R .ret a w := by
 refine bodyPost_ret (v := .agg #[.bool x, .string s]) ?_ hd hR
 have := hw.load
 rw [Array.getD_eq_getD_getElem?] at ht
 simp only [results, h]
 simp [Sem.run_bind, Result.andThen, ht, asAddr, this]
theorem post_wide_wide_tmp {fn : Func} {R : Ending → World → Prop} {a : Act} {w : World} {p q u : Tmp} {b c : Nat} {x y : Bool} {s t : ByteArray} (h : fn.results = #[.cell p 32, .cell q 32, .tmp u])
  (ht : a.tmps.getD p undef = .pointer (some ⟨b, 0, none⟩)) (hq : a.tmps.getD q undef = .pointer (some ⟨c, 0, none⟩)) (hw : Wd w b x s) (hv : Wd w c y t) (hd : a.defers = [])
  (hR : R (.returned (.tuple #[.agg #[.bool x, .string s], .agg #[.bool y, .string t], a.tmps.getD u undef])) w) : bodyPost Tryz.prog fn R .ret a w := by
 refine bodyPost_ret (v := .tuple #[.agg #[.bool x, .string s], .agg #[.bool y, .string t], a.tmps.getD u undef]) ?_ hd hR
 have h1 := hw.load
 have h2 := hv.load
 rw [Array.getD_eq_getD_getElem?] at ht hq
 simp only [results, h]
 simp [Sem.run_bind, Result.andThen, ht, hq, asAddr, h1, h2]
theorem post_wide2 {fn : Func} {R : Ending → World → Prop} {a : Act} {w : World} {p q : Tmp} {b c : Nat} {x y : Bool} {s t : ByteArray} (h : fn.results = #[.cell p 32, .cell q 32])
  (ht : a.tmps.getD p undef = .pointer (some ⟨b, 0, none⟩)) (hq : a.tmps.getD q undef = .pointer (some ⟨c, 0, none⟩)) (hw : Wd w b x s) (hv : Wd w c y t) (hd : a.defers = [])
  (hR : R (.returned (.tuple #[.agg #[.bool x, .string s], .agg #[.bool y, .string t]])) w) : bodyPost Tryz.prog fn R .ret a w := by
 refine bodyPost_ret (v := .tuple #[.agg #[.bool x, .string s], .agg #[.bool y, .string t]]) ?_ hd hR
 have h1 := hw.load
 have h2 := hv.load
 rw [Array.getD_eq_getD_getElem?] at ht hq
 simp only [results, h]
 simp [Sem.run_bind, Result.andThen, ht, hq, asAddr, h1, h2]
theorem post_wide3 {fn : Func} {R : Ending → World → Prop} {a : Act} {w : World} {p q r : Tmp} {b c d : Nat} {x y z : Bool} {s t v : ByteArray} (h : fn.results = #[.cell p 32, .cell q 32, .cell r 32])
  (ht : a.tmps.getD p undef = .pointer (some ⟨b, 0, none⟩)) (hq : a.tmps.getD q undef = .pointer (some ⟨c, 0, none⟩)) (hr : a.tmps.getD r undef = .pointer (some ⟨d, 0, none⟩)) (hw : Wd w b x s) (hv : Wd w c y t) (hu : Wd w d z v) (hd : a.defers = [])
  (hR : R (.returned (.tuple #[.agg #[.bool x, .string s], .agg #[.bool y, .string t], .agg #[.bool z, .string v]])) w) : bodyPost Tryz.prog fn R .ret a w := by
 refine bodyPost_ret (v := .tuple #[.agg #[.bool x, .string s], .agg #[.bool y, .string t], .agg #[.bool z, .string v]]) ?_ hd hR
 have h1 := hw.load
 have h2 := hv.load
 have h3 := hu.load
 rw [Array.getD_eq_getD_getElem?] at ht hq hr
 simp only [results, h]
 simp [Sem.run_bind, Result.andThen, ht, hq, hr, asAddr, h1, h2, h3]
end Go.Proofs.YtknaghdoffigjaaGreatDoor
namespace Go.Proofs.YtknaghdoffigjaaGreatDoor
open Go.RowKit
def Y (l : List UInt8) : Array Value := (l.map fun b : UInt8 => Value.int .u8 (b.toNat : Int)).toArray
def Bts (w : World) (g : Nat) (l : List UInt8) : Prop := w.heap[g]? = some (.cells (Y l) 5 (0, 0))
theorem Y_get (l : List UInt8) (k : Nat) (h : k < l.length) : (Y l)[k]? = some (.int .u8 ((l.getD k 0).toNat : Int)) := by
 simp [Y, List.getD_eq_getElem?_getD, List.getElem?_eq_getElem h]
theorem Y_set (l : List UInt8) (k : Nat) (x : UInt8) : (Y l).setIfInBounds k (.int .u8 (x.toNat : Int)) = Y (l.set k x) := by
 simp [Y, List.map_set]
section
variable {w w' : World} {g : Nat} {l : List UInt8}
theorem Bts.cell (h : Bts w g l) {k : Nat} (hk : k < l.length) : w.cell? ⟨g, k, none⟩ = some (.int .u8 ((l.getD k 0).toNat : Int)) :=
 (cell_of_row w g k (Y l) _ (0, 0) h).trans (Y_get l k hk)
theorem Bts.frozen (h : Bts w g l) (k : Nat) : w.frozen? ⟨g, k, none⟩ = false := by
 unfold Bts at h
 simp [World.frozen?, h]
theorem Bts.set (h : Bts w g l) (k : Nat) (x : UInt8) : Bts (w.setCell ⟨g, k, none⟩ (.int .u8 (x.toNat : Int))) g (l.set k x) := by
 unfold Bts at h ⊢
 rw [← Y_set]
 simp [World.setCell, Array.getElem?_modify, h]
theorem Bts.new (w : World) (l : List UInt8) : Bts (w.alloc (.cells (Y l) 5)) w.heap.size l := heap_alloc_new w _
theorem Bts.str (h : Bts w g l) (c : Nat) : (convert 114 9 (.slice (some ⟨g, 0, none⟩) l.length c)).run Tryz.prog w = .ok (.string (bstr l)) w := by
 have hr := run_convert_bytes_arg (P := Tryz.prog) w 114 5 Tryz.underlying114 Tryz.underlying5 g 0 l.length c (l.map fun b => (b.toNat : Int)) (by simp)
  (fun i hi => by
   rw [Nat.zero_add, h.cell hi]
   simp [List.getD_eq_getElem?_getD, List.getElem?_eq_getElem hi]) 9 Tryz.underlying9
 have e : strOfNums (l.map fun b => (b.toNat : Int)) = bstr l := by
  rw [← bstr_toList (strOfNums _), strOfNums_data, List.map_map]
  have : l.map ((fun n => UInt8.ofNat (Int.toNat n)) ∘ fun b => (b.toNat : Int)) = l.map id := List.map_congr_left fun b _ => by simp
  rw [this, List.map_id]
 rw [hr, e]
end
theorem madeY (n : Nat) : madeCells #[.int .u8 0] n = Y (List.replicate n 0) := by
 apply Array.ext
 ·simp [size_madeCells, Y]
 ·intro i h1 h2
  simp [madeCells, Y, Nat.mod_one]
theorem info_u8 : (Tryz.prog.info? 5).map (fun i => (i.zero, i.size, i.bytes)) = some (some (.int .u8 0), 1, 1) := by kernel_rfl
theorem make_bytes (n : Nat) (hn : n ≤ 140737488355328) (w : World) :
  (Instr.makeSlice 114 (.int .i64 (n : Int)) (.int .i64 (n : Int))).run Tryz.prog w = .ok (.slice (some ⟨w.heap.size, 0, none⟩) n n) (w.alloc (.cells (Y (List.replicate n 0)) 5)) := by
 obtain ⟨i0, hi, hz0, hz1, hz2⟩ := info_parts info_u8
 have hr := run_make (P := Tryz.prog) w 114 5 i0 (.int .u8 0) Tryz.underlying114 hi hz0 .i64 .i64 n n (by omega) (by omega) (by rw [hz2]; omega) (by omega)
 rw [hz1] at hr
 simp only [Int.toNat_natCast, Nat.mul_one] at hr
 rw [← madeY]
 exact hr
def lowB (N : Nat) : Nat → List UInt8
 | 0 => []
 | i + 1 => UInt8.ofNat (N / 256 ^ i % 256) :: lowB N i
theorem lowB_length (N i : Nat) : (lowB N i).length = i := by
 induction i with
 | zero => rfl
 | succ i ih => simp [lowB, ih]
theorem bval_cons (b : UInt8) (l : List UInt8) : bval (b :: l) = b.toNat * 256 ^ l.length + bval l := by
 have := bval_append [b] l
 rw [List.singleton_append] at this
 rw [this]; simp [bval]
theorem bstr_size (l : List UInt8) : (bstr l).size = l.length := by simp [bstr, ByteArray.size]
theorem bstr_data (l : List UInt8) : (bstr l).data.toList = l := rfl
theorem lt256 (n : Nat) : n % 256 < UInt8.size := by
 rw [show UInt8.size = 256 from rfl]
 omega
theorem bval_lowB (N i : Nat) : bval (lowB N i) = N % 256 ^ i := by
 induction i with
 | zero => simp [lowB, bval, Nat.mod_one]
 | succ i ih =>
  rw [lowB, bval_cons, ih, lowB_length, UInt8.toNat_ofNat_of_lt' (lt256 _), Nat.pow_succ, Nat.mod_mul]
  rw [Nat.mul_comm, Nat.add_comm]
theorem B64_pow : B64 = 256 ^ 8 := by rw [B64_eq]
theorem pval_digit (xs : List Nat) (h : Limbs xs) (j : Nat) : ∃ t, pval xs / B64 ^ j = xs.getD j 0 + B64 * t := by
 induction xs generalizing j with
 | nil => exact ⟨0, by simp [pval]⟩
 | cons x xs ih =>
  cases j with
  | zero => exact ⟨pval xs, by simp [pval]⟩
  | succ j =>
   obtain ⟨t, ht⟩ := ih h.tail j
   refine ⟨t, ?_⟩
   rw [pval, Nat.pow_succ, Nat.mul_comm (B64 ^ j), ← Nat.div_div_eq_div_mul, Nat.add_mul_div_left _ _ B64_pos, Nat.div_eq_of_lt h.head, Nat.zero_add, ht]
   simp
theorem byte_at (xs : List Nat) (h : Limbs xs) (i : Nat) : pval xs / 256 ^ i % 256 = xs.getD (i / 8) 0 / 256 ^ (i % 8) % 256 := by
 obtain ⟨t, ht⟩ := pval_digit xs h (i / 8)
 have e : 256 ^ i = B64 ^ (i / 8) * 256 ^ (i % 8) := by
  rw [B64_pow, ← Nat.pow_mul, ← Nat.pow_add, Nat.div_add_mod]
 rw [e, ← Nat.div_div_eq_div_mul, ht]
 have hr : i % 8 < 8 := Nat.mod_lt _ (by omega)
 generalize i % 8 = r at *
 generalize xs.getD (i / 8) 0 = x at *
 rw [B64_eq]
 match r, hr with
 | 0, _ => simp; omega
 | 1, _ => omega
 | 2, _ => omega
 | 3, _ => omega
 | 4, _ => omega
 | 5, _ => omega
 | 6, _ => omega
 | 7, _ => omega
theorem byte_val (N k : Nat) : ((((limbs N)[k / 8]?.getD 0 : Nat) : Int) / 2 ^ (8 * (k % 8)) % 256 : Int) = ((UInt8.ofNat (N / 256 ^ k % 256)).toNat : Int) := by
 have h := byte_at (limbs N) (limbs_limbs N) k
 rw [pval_limbs, List.getD_eq_getElem?_getD] at h
 rw [UInt8.toNat_ofNat_of_lt' (lt256 _), h, show (256 : Nat) = 2 ^ 8 from rfl, ← Nat.pow_mul]
 generalize (limbs N)[k / 8]?.getD 0 = x
 simp
theorem low_set (N m k : Nat) (h : k < m) : (List.replicate (m - k) 0 ++ lowB N k).set (m - 1 - k) (UInt8.ofNat (N / 256 ^ k % 256)) = List.replicate (m - (k + 1)) 0 ++ lowB N (k + 1) := by
 have e : List.replicate (m - k) (0 : UInt8) = List.replicate (m - (k + 1)) 0 ++ [0] := by
  rw [show m - k = (m - (k + 1)) + 1 from by omega, List.replicate_succ']
 rw [e, List.append_assoc, List.set_append_right _ _ (by simp; omega), List.length_replicate, show m - 1 - k - (m - (k + 1)) = 0 from by omega, List.singleton_append, List.set_cons_zero, lowB]
set_option maxRecDepth 100000 in
set_option maxHeartbeats 1000000 in
theorem signed_any (neg : Bool) (A : Option Addr) (n c : Nat) (N : Nat) (w : World) (hn : (limbs N).length = n) (hx : RdA w A (limbs N)) (nn : n ≤ 1099511627776) :
  Calls Tryz.prog 96 #[.bool neg, .slice A n c] w fun e w' => e = .returned (wv (if neg then -(N : Int) else N)) ∧ Below w.heap.size w w' := by
 have hmk := make_bytes (8 * n) (by omega)
 rw [show (((8 * n : Nat)) : Int) = 8 * (n : Int) from by omega] at hmk
 have Hn := Lib.hid hn
 clear hn
 go_enter Tryz.func96, Tryz.ntmps96
 go_wp2
 obtain ⟨w1, hw1⟩ : ∃ w1, w1 = w.alloc (.cells #[.bool false, .string ⟨#[]⟩] 32) := ⟨_, rfl⟩
 obtain ⟨g, hg⟩ : ∃ g, g = w.heap.size + 1 := ⟨_, rfl⟩
 have hsz : w1.heap.size = g := by rw [hw1, hg]; simp
 have hb1 : Below w.heap.size w w1 := by rw [hw1]; exact (Below.refl _ _).alloc (Nat.le_refl _) _
 have hres : w1.heap[w.heap.size]? = some (.cells #[.bool false, .string ⟨#[]⟩] 32 (0, 0)) := by rw [hw1]; exact heap_alloc_new w _
 have hY0 : Bts (w1.alloc (.cells (Y (List.replicate (8 * n) 0)) 5)) g (List.replicate (8 * n) 0) := by rw [← hsz]; exact Bts.new _ _
 have hB0 : Below g w1 (w1.alloc (.cells (Y (List.replicate (8 * n) 0)) 5)) := (Below.refl _ _).alloc (by omega) _
 rw [← hw1, ← hg]
 have Hg := Lib.hid hg
 have Hsz := Lib.hid hsz
 clear hg hmk hw1 hsz
 go_loopw [13] (fun i wr => ∃ k : Nat, k ≤ 8 * n ∧ i = .int .i64 k ∧ Bts wr g (List.replicate (8 * n - k) 0 ++ lowB N k) ∧ Below g w1 wr)
  (fun i _ => 8 * n - (intOf i).toNat)
 case atStart => exact ⟨0, Nat.zero_le _, rfl, by simpa [lowB] using hY0, hB0⟩
 case round =>
  obtain ⟨k, hk, rfl, hY, hB⟩ := hrel
  by_cases hlt : k < 8 * n
  ·have hB' : Below w.heap.size w wr := hb1.trans (hB.mono (by have := Hg.out; omega))
   obtain ⟨a, rfl, hab, hac⟩ := (hx.below hB') (k / 8) (by rw [Hn.out]; omega)
   have hcell := hY.cell (k := 8 * n - 1 - k) (by simp [lowB_length]; omega)
   have hfr := hY.frozen (8 * n - 1 - k)
   have hY2 := hY.set (8 * n - 1 - k) (UInt8.ofNat (N / 256 ^ k % 256))
   have hB3 := fun u => hB.setCell (p := ⟨g, 8 * n - 1 - k, none⟩) (Nat.le_refl g) u
   rw [low_set N (8 * n) k hlt] at hY2
   have HY2 := Lib.hid hY2
   clear hY2 hY
   go_wp2
   go_roundw
   case rel => exact ⟨k + 1, by omega, by go_num, by rw [byte_val]; exact HY2.out, hB3 _⟩
   case measure => simp [intOf]; omega
  ·obtain rfl : k = 8 * n := by omega
   rw [Nat.sub_self, List.replicate_zero, List.nil_append] at hY
   have hres2 : wr.heap[w.heap.size]? = some (.cells #[.bool false, .string ⟨#[]⟩] 32 (0, 0)) := (hB.block _ (by have := Hg.out; omega)).trans hres
   have hc0 : wr.cell? ⟨w.heap.size, 0, none⟩ = some (.bool false) := cell_of_row wr w.heap.size 0 _ _ _ hres2
   have hc1 : wr.cell? ⟨w.heap.size, 1, none⟩ = some (.string ⟨#[]⟩) := cell_of_row wr w.heap.size 1 _ _ _ hres2
   have hf0 : wr.frozen? ⟨w.heap.size, 0, none⟩ = false := by simp [World.frozen?, hres2]
   have hf1 : wr.frozen? ⟨w.heap.size, 1, none⟩ = false := by simp [World.frozen?, hres2]
   have hst := hY.str (8 * n)
   rw [lowB_length] at hst
   have hlt8 : N < 256 ^ (8 * n) := by
    have := pval_lt (limbs_limbs N)
    rwa [pval_limbs, Hn.out, B64_pow, ← Nat.pow_mul] at this
   have hbv : bval (lowB N (8 * n)) = N := by rw [bval_lowB, Nat.mod_eq_of_lt hlt8]
   have HRES' : Hid (Wd wr w.heap.size false ⟨#[]⟩) := Lib.hid hres2
   have hBw : Below w.heap.size w wr := hb1.trans (hB.mono (by have := Hg.out; omega))
   have HBV := Lib.hid hbv
   have hsig := Lib.hid (significant_any (bstr (lowB N (8 * n))) wr (by rw [bstr_size, lowB_length]; unfold maxLen; omega))
   clear hres2 hbv hlt8 hY hY0 hB0
   generalize lowB N (8 * n) = l at *
   have hdn : decide (-(N : Int) < 0) = decide (0 < n) := by
    have h1 := Hn.out
    have h2 := @limbs_eq_nil N
    by_cases h0 : N = 0
    ·subst h0
     simp [limbs_zero] at h1
     subst h1
     rfl
    ·have : (limbs N).length ≠ 0 := fun e => h0 (h2.1 (List.length_eq_zero_iff.1 e))
     have a1 : decide (-(N : Int) < 0) = true := by simp; omega
     have a2 : decide (0 < n) = true := by simp; omega
     rw [a1, a2]
   have hdf : decide ((N : Int) < 0) = false := by simp
   have HD := Lib.hid hdn
   have HF := Lib.hid hdf
   clear hdn hdf
   cases neg
   ·go_wp2_with fail
    with_reducible refine hsig.out.mono ?_
    rintro e w' ⟨rfl, rfl⟩
    go_wp2
    refine post_wide (b := w.heap.size) rfl rfl ((HRES'.out.set0 false).set1 _) rfl ⟨?_, (hBw.setCell (Nat.le_refl _) _).setCell (Nat.le_refl _) _⟩
    rw [bstr_data, HBV.out]
    simp [wv]
   ·go_wp2_with fail
    with_reducible refine hsig.out.mono ?_
    rintro e w' ⟨rfl, rfl⟩
    go_wp2
    refine post_wide (b := w.heap.size) rfl rfl ((HRES'.out.set0 _).set1 _) rfl ⟨?_, (hBw.setCell (Nat.le_refl _) _).setCell (Nat.le_refl _) _⟩
    rw [bstr_data, HBV.out]
    simp only [if_true, wv]
    rw [HD.out, Int.natAbs_neg, Int.natAbs_natCast]
end Go.Proofs.YtknaghdoffigjaaGreatDoor
