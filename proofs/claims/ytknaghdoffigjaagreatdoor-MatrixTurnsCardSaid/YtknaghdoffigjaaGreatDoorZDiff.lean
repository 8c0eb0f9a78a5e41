/-
  The contract of wide.difference. The contracts of wide.addMultiple and wide.product.
-/
import Derived.Test.YtknaghdoffigjaaGreatDoorZW1
import Derived.Deep.RegionWith
set_option linter.unusedSimpArgs false
set_option linter.unusedVariables false
set_option linter.unnecessarySimpa false
namespace Go.Proofs.YtknaghdoffigjaaGreatDoor
open Go.RowKit

/-- The digits and the borrow of the first n places of a difference. -/
def diffN (xs ys : List Nat) : Nat → List Nat × Nat
  | 0 => ([], 0)
  | i + 1 => ((diffN xs ys i).1 ++ [(xs.getD i 0 + B64 - ys.getD i 0 - (diffN xs ys i).2) % B64], if xs.getD i 0 < ys.getD i 0 + (diffN xs ys i).2 then 1 else 0)
theorem diffN_length (xs ys : List Nat) (i : Nat) : (diffN xs ys i).1.length = i := by
  induction i with
  | zero => rfl
  | succ i ih => simp [diffN, ih]
theorem diffN_borrow (xs ys : List Nat) (i : Nat) : (diffN xs ys i).2 ≤ 1 := by
  cases i with
  | zero => exact Nat.zero_le _
  | succ i => simp only [diffN]; split <;> omega
theorem diffN_limbs (xs ys : List Nat) (i : Nat) : Limbs (diffN xs ys i).1 := by
  induction i with
  | zero => exact Limbs.nil
  | succ i ih => exact ih.snoc (Nat.mod_lt _ B64_pos)
theorem diff_digit (x y b : Nat) (hx : x < B64) (hy : y < B64) (hb : b ≤ 1) : (x + B64 - y - b) % B64 + y + b = x + B64 * (if x < y + b then 1 else 0) := by
  rw [B64_eq] at *
  split <;> omega
theorem diffN_val (xs ys : List Nat) (hx : Limbs xs) (hy : Limbs ys) (i : Nat) : pval (diffN xs ys i).1 + pval (ys.take i) = pval (xs.take i) + B64 ^ i * (diffN xs ys i).2 := by
  induction i with
  | zero => simp [diffN, pval]
  | succ i ih =>
    have hd := diff_digit _ _ _ (hx.getD i) (hy.getD i) (diffN_borrow xs ys i)
    have hm := congrArg (fun n => B64 ^ i * n) hd
    simp only [Nat.mul_add] at hm
    rw [pval_take_succ, pval_take_succ, diffN, pval_snoc, diffN_length]
    simp only
    rw [Nat.pow_succ, Nat.mul_assoc]
    omega
theorem diffN_end (xs ys : List Nat) (hx : Limbs xs) (hy : Limbs ys) (hl : ys.length ≤ xs.length) (h : pval ys ≤ pval xs) : pval (diffN xs ys xs.length).1 = pval xs - pval ys := by
  have hv := diffN_val xs ys hx hy xs.length
  have hb := diffN_borrow xs ys xs.length
  have hlt := pval_lt (diffN_limbs xs ys xs.length)
  rw [diffN_length] at hlt
  rw [List.take_of_length_le hl, List.take_of_length_le (Nat.le_refl _)] at hv
  have : (diffN xs ys xs.length).2 = 0 ∨ (diffN xs ys xs.length).2 = 1 := by omega
  rcases this with e | e
  · rw [e] at hv; omega
  · rw [e] at hv; omega

set_option maxHeartbeats 1000000 in
theorem difference_any (A B : Option Addr) (na nb ca cb : Nat) (xs ys : List Nat) (w : World) (hna : xs.length = na) (hnb : ys.length = nb) (hx : RdA w A xs) (hy : RdA w B ys) (lx : Limbs xs) (ly : Limbs ys)
    (nx : na ≤ 1099511627776) (hl : nb ≤ na) (hle : pval ys ≤ pval xs) :
    Calls Tryz.prog 101 #[.slice A na ca, .slice B nb cb] w fun e w' => RetO w w' e (limbs (pval xs - pval ys)) := by
  have hmk := make_parts na (by omega)
  have Hna := Lib.hid hna
  have Hnb := Lib.hid hnb
  clear hna hnb
  go_enter Tryz.func101, Tryz.ntmps101
  go_wp2
  obtain ⟨g, hg⟩ : ∃ g, g = w.heap.size := ⟨_, rfl⟩
  have hL0 : Lst (w.alloc (.cells (U (List.replicate na 0)) 80)) g (List.replicate na 0) := by rw [hg]; exact Lst.new _ _
  have hB0 : Below g w (w.alloc (.cells (U (List.replicate na 0)) 80)) := (Below.refl _ _).alloc (by omega) _
  rw [← hg]
  have Hg := Lib.hid hg
  clear hg hmk
  go_loopw [6, 13] (fun c i wr => ∃ k : Nat, k ≤ na ∧ i = .int .i64 k ∧ c = .int .u64 ((diffN xs ys k).2 : Nat) ∧ Lst wr g ((diffN xs ys k).1 ++ List.replicate (na - k) 0) ∧ Below g w wr)
    (fun _ i _ => na - (intOf i).toNat)
  case atStart => exact ⟨0, Nat.zero_le _, rfl, rfl, hL0, hB0⟩
  case round =>
    obtain ⟨k, hk, rfl, rfl, hL, hB⟩ := hrel
    have hc := diffN_borrow xs ys k
    have hlen := diffN_length xs ys k
    by_cases hlt : k < na
    · have hA := hx.below (w' := wr) (by rw [← Hg.out]; exact hB)
      have hA2 := hy.below (w' := wr) (by rw [← Hg.out]; exact hB)
      obtain ⟨a, rfl, hab, hac⟩ := hA k (by rw [Hna.out]; omega)
      have hcell := hL.cell (k := k) (by simp; omega)
      have hfr := hL.frozen k
      have hL2 := hL.set k ((xs.getD k 0 + B64 - ys.getD k 0 - (diffN xs ys k).2) % B64)
      have hset := set_mid (diffN xs ys k).1 (na - (k + 1)) ((xs.getD k 0 + B64 - ys.getD k 0 - (diffN xs ys k).2) % B64)
      rw [hlen, show na - (k + 1) + 1 = na - k from by omega] at hset
      rw [hset] at hL2
      have hadd := fun W => bits_Sub64 (xs.getD k 0) (ys.getD k 0) (diffN xs ys k).2 hc W
      have hL3 : Lst (wr.setCell ⟨g, k, none⟩ (.int .u64 (((xs.getD k 0 + B64 - ys.getD k 0 - (diffN xs ys k).2) % B64 : Nat) : Int))) g ((diffN xs ys (k + 1)).1 ++ List.replicate (na - (k + 1)) 0) := hL2
      have hc3 : (diffN xs ys (k + 1)).2 = if xs.getD k 0 < ys.getD k 0 + (diffN xs ys k).2 then 1 else 0 := rfl
      generalize hq' : (diffN xs ys (k + 1)).2 = q' at *
      have Hq' := Lib.hid hq'
      clear hq'
      have hB' := hB.setCell (p := ⟨g, k, none⟩) (Nat.le_refl g) (.int .u64 (((xs.getD k 0 + B64 - ys.getD k 0 - (diffN xs ys k).2) % B64 : Nat) : Int))
      have hy1 := Lib.hid (fun W (h : RdA W B ys) => at_any B nb cb ys k W Hnb.out h (by unfold maxLen; omega))
      rw [← hc3] at hadd
      clear hset hL hL2 hc3
      generalize (diffN xs ys k).2 = q at *
      generalize xs.getD k 0 = x at *
      generalize hy0 : ys.getD k 0 = y at *
      generalize (x + B64 - y - q) % B64 = z at *
      clear hlen
      go_wp2
      go_region_with (go_at_call 138; (with_reducible refine (hy1.out _ ?_).mono ?_); exact hA2; rintro e w' ⟨rfl, rfl⟩)
      all_goals go_wp2
      all_goals go_roundw
      all_goals first | (case rel => exact ⟨k + 1, by omega, by go_num, by rw [Hq'.out], hL3, hB'.drew⟩) | skip
      all_goals first | (case measure => simp [intOf]; omega) | skip
    · obtain rfl : k = na := by omega
      have hval := diffN_end xs ys lx ly (by rw [Hna.out, Hnb.out]; exact hl) hle
      have hlim := diffN_limbs xs ys k
      rw [Hna.out] at hval
      rw [Nat.sub_self, List.replicate_zero, List.append_nil] at hL
      have Hvz := Lib.hid hval
      have Hlz := Lib.hid hlen
      clear hval hlen
      generalize (diffN xs ys k).1 = zs at *
      go_wp2_with fail
      with_reducible refine (trim_any _ _ _ zs _ Hlz.out hL.rd (Nat.le_refl _) (by unfold maxLen; omega)).mono ?_
      rintro e w' ⟨rfl, rfl⟩
      go_wp2
      go_ret
      have hr := RetO.trimmed Hg.out hL hlim hB (by rw [Hlz.out]; unfold maxLen; omega)
      rw [Hlz.out, Hvz.out] at hr
      exact hr
end Go.Proofs.YtknaghdoffigjaaGreatDoor
namespace Go.Proofs.YtknaghdoffigjaaGreatDoor
open Go.RowKit

theorem bits_Add64_0 (x y : Nat) (w : World) :
    (callFunc 137 #[.int .u64 (x : Int), .int .u64 (y : Int), .int .u64 0]).run Tryz.prog w =
      .ok (.value (.tuple #[.int .u64 (((x + y) % B64 : Nat) : Int), .int .u64 (((x + y) / B64 : Nat) : Int)])) w := by
  have := bits_Add64 x y 0 (Nat.zero_le _) w
  simpa using this

theorem bits_Mul64' (x y : Nat) (hx : x < B64) (hy : y < B64) (w : World) :
    Calls Tryz.prog 145 #[.int .u64 (x : Int), .int .u64 (y : Int)] w fun e w' => e = .returned (.tuple #[.int .u64 ((x * y / B64 : Nat) : Int), .int .u64 ((x * y % B64 : Nat) : Int)]) ∧ w = w' :=
  (Tryz.bits_Mul64 x y hx hy w).mono fun _ _ ⟨he, hw⟩ => ⟨he, hw.symm⟩

theorem grownBy_setRow {a w : World} {g : Nat} (h : a.grownBy w (some g)) {p : Addr} (hp : p.block = g) (u : Value) : a.grownBy (w.setCell p u) (some g) :=
  ⟨h.os, h.tape, h.output, by simpa [World.setCell] using h.size, fun i hi hne => (Below.heap_setCell w p u i (by rintro rfl; exact hne (by rw [hp]))).trans (h.block i hi hne)⟩

/-- Adding a multiple: the block and the carry after k places. -/
def amN (off : Nat) (ys : List Nat) (f : Nat) (ts : List Nat) : Nat → List Nat × Nat
  | 0 => (ts, 0)
  | k + 1 => ((amN off ys f ts k).1.set (off + k) (((amN off ys f ts k).1.getD (off + k) 0 + ys.getD k 0 * f + (amN off ys f ts k).2) % B64),
      ((amN off ys f ts k).1.getD (off + k) 0 + ys.getD k 0 * f + (amN off ys f ts k).2) / B64)
theorem amN_length (off : Nat) (ys : List Nat) (f : Nat) (ts : List Nat) (k : Nat) : (amN off ys f ts k).1.length = ts.length := by
  induction k with
  | zero => rfl
  | succ k ih => simp [amN, ih]
theorem Limbs.set {l : List Nat} (h : Limbs l) (k x : Nat) (hx : x < B64) : Limbs (l.set k x) := by
  intro y hy
  rcases List.mem_or_eq_of_mem_set hy with hy | rfl
  · exact h y hy
  · exact hx
theorem mulle (y f : Nat) (hy : y < B64) (hf : f < B64) : y * f ≤ 340282366920938463426481119284349108225 := by
  rw [B64_eq] at *
  have h1 : y ≤ 18446744073709551615 := by omega
  have h2 : f ≤ 18446744073709551615 := by omega
  exact Nat.mul_le_mul h1 h2
theorem amN_ok (off : Nat) (ys : List Nat) (f : Nat) (ts : List Nat) (hy : Limbs ys) (hf : f < B64) (ht : Limbs ts) (k : Nat) : Limbs (amN off ys f ts k).1 ∧ (amN off ys f ts k).2 < B64 := by
  induction k with
  | zero => exact ⟨ht, B64_pos⟩
  | succ k ih =>
    refine ⟨ih.1.set _ _ (Nat.mod_lt _ B64_pos), ?_⟩
    have h1 := mulle _ _ (hy.getD k) hf
    have h2 := ih.1.getD (off + k)
    have h3 := ih.2
    simp only [amN]
    rw [Nat.div_lt_iff_lt_mul B64_pos]
    rw [B64_eq] at *
    omega
theorem am_step (t y f c : Nat) (ht : t < B64) (hy : y < B64) (hf : f < B64) (hc : c < B64) :
    (t + (y * f % B64 + c) % B64) % B64 = (t + y * f + c) % B64 ∧ y * f / B64 + (y * f % B64 + c) / B64 ≤ 18446744073709551615 ∧
    y * f / B64 + (y * f % B64 + c) / B64 + (t + (y * f % B64 + c) % B64) / B64 = (t + y * f + c) / B64 ∧ (t + y * f + c) / B64 ≤ 18446744073709551615 := by
  have h := mulle y f hy hf
  generalize y * f = p at *
  rw [B64_eq] at *
  refine ⟨by omega, by omega, by omega, by omega⟩

set_option maxHeartbeats 1000000 in
theorem addMultiple_any (T B : Option Addr) (n ct cb g off f : Nat) (ts ys : List Nat) (w0 w : World) (hn : ys.length = n) (hT : 0 < n → T = some ⟨g, off, none⟩) (hL : Lst w g ts) (ht : off + n ≤ ts.length)
    (hy : RdA w0 B ys) (hw : Below w0.heap.size w0 w) (hg : w0.heap.size ≤ g) (ly : Limbs ys) (lt : Limbs ts) (hf : f < B64) (nn : n ≤ 1099511627776) :
    Calls Tryz.prog 135 #[.slice T n ct, .slice B n cb, .int .u64 (f : Int)] w fun e w' =>
      e = .returned (.int .u64 ((amN off ys f ts n).2 : Nat)) ∧ Lst w' g (amN off ys f ts n).1 ∧ w.grownBy w' (some g) := by
  have Hn := Lib.hid hn
  clear hn
  go_enter Tryz.func135, Tryz.ntmps135
  go_wp2
  go_loopw [7, 14] (fun c i wr => ∃ k : Nat, k ≤ n ∧ i = .int .i64 k ∧ c = .int .u64 ((amN off ys f ts k).2 : Nat) ∧ Lst wr g (amN off ys f ts k).1 ∧ w.grownBy wr (some g))
    (fun _ i _ => n - (intOf i).toNat)
  case atStart => exact ⟨0, Nat.zero_le _, rfl, rfl, hL, ⟨rfl, rfl, rfl, Nat.le_refl _, fun _ _ _ => rfl⟩⟩
  case round =>
    obtain ⟨k, hk, rfl, rfl, hLk, hG⟩ := hrel
    have hok := amN_ok off ys f ts ly hf lt k
    have hlen := amN_length off ys f ts k
    by_cases hlt : k < n
    · have hwr : Below w0.heap.size w0 wr := hw.grown hG (Nat.le_trans hw.size (Nat.le_refl _)) (by intro j hj; cases hj; exact hg)
      obtain ⟨b, rfl, hbb, hbc⟩ := (hy.below hwr) k (by rw [Hn.out]; exact hlt)
      obtain rfl := hT (by omega)
      have hcell := hLk.cell (k := off + k) (by omega)
      have hfr := hLk.frozen (off + k)
      have hL2 := hLk.set (off + k) (((amN off ys f ts k).1.getD (off + k) 0 + ys.getD k 0 * f + (amN off ys f ts k).2) % B64)
      have hst := am_step ((amN off ys f ts k).1.getD (off + k) 0) (ys.getD k 0) f (amN off ys f ts k).2 (hok.1.getD _) (ly.getD k) hf hok.2
      have hL3 : Lst (wr.setCell ⟨g, off + k, none⟩ (.int .u64 ((((amN off ys f ts k).1.getD (off + k) 0 + ys.getD k 0 * f + (amN off ys f ts k).2) % B64 : Nat) : Int))) g (amN off ys f ts (k + 1)).1 := hL2
      have hc3 : (amN off ys f ts (k + 1)).2 = ((amN off ys f ts k).1.getD (off + k) 0 + ys.getD k 0 * f + (amN off ys f ts k).2) / B64 := rfl
      have hm := bits_Mul64' (ys.getD k 0) f (ly.getD k) hf wr
      clear hL2 hLk hlen
      generalize hq' : (amN off ys f ts (k + 1)).2 = q' at *
      have Hq' := Lib.hid hq'
      clear hq'
      generalize (amN off ys f ts k).1.getD (off + k) 0 = t at *
      generalize (amN off ys f ts k).2 = c at *
      generalize ys.getD k 0 = y at *
      rw [← hc3] at hst
      have HM := Lib.hid hm
      clear hm hc3
      generalize y * f % B64 = l at *
      generalize y * f / B64 = h at *
      have ha1 := bits_Add64_0 l c
      have ha2 := bits_Add64_0 t ((l + c) % B64)
      rw [hst.1] at ha2
      obtain ⟨hs1, hs2, hs3, hs4⟩ := hst
      clear hs1
      generalize (l + c) / B64 = c1 at *
      generalize (t + (l + c) % B64) / B64 = c2 at *
      generalize (l + c) % B64 = l2 at *
      generalize (t + y * f + c) % B64 = z at *
      subst hs3
      have hG' : w.grownBy (wr.setCell ⟨g, off + k, none⟩ (.int .u64 ((z : Nat) : Int))) (some g) := grownBy_setRow hG rfl _
      go_wp2_with fail
      with_reducible refine HM.out.mono ?_
      rintro e w' ⟨rfl, rfl⟩
      go_wp2
      go_roundw
      case rel => exact ⟨k + 1, by omega, by go_num, by rw [Hq'.out]; go_num, hL3, hG'⟩
      case measure => simp [intOf]; omega
    · obtain rfl : k = n := by omega
      go_wp2
      go_ret
      exact ⟨rfl, hLk, hG⟩

theorem pval_set (l : List Nat) (j x : Nat) (h : j < l.length) : pval (l.set j x) + B64 ^ j * l.getD j 0 = pval l + B64 ^ j * x := by
  induction l generalizing j with
  | nil => exact absurd h (by simp)
  | cons y l ih =>
    cases j with
    | zero => simp [pval]; omega
    | succ j =>
      have := ih j (by simpa using h)
      have h2 := congrArg (fun n => B64 * n) this
      simp only [Nat.mul_add] at h2
      simp only [List.set_cons_succ, pval, List.getD_cons_succ]
      rw [Nat.pow_succ, Nat.mul_comm (B64 ^ j) B64, Nat.mul_assoc, Nat.mul_assoc]
      omega
theorem amN_getD (off : Nat) (ys : List Nat) (f : Nat) (ts : List Nat) (k j : Nat) (h : j < off ∨ off + k ≤ j) : (amN off ys f ts k).1.getD j 0 = ts.getD j 0 := by
  induction k with
  | zero => rfl
  | succ k ih =>
    have ih := ih (by omega)
    simp only [amN]
    rw [List.getD_eq_getElem?_getD, List.getElem?_set_ne (by omega), ← List.getD_eq_getElem?_getD, ih]
theorem amN_val (off : Nat) (ys : List Nat) (f : Nat) (ts : List Nat) (k : Nat) (h : off + k ≤ ts.length) :
    pval (amN off ys f ts k).1 + B64 ^ (off + k) * (amN off ys f ts k).2 = pval ts + B64 ^ off * (f * pval (ys.take k)) := by
  induction k with
  | zero => simp [amN, pval]
  | succ k ih =>
    have ih := ih (by omega)
    have hs := pval_set (amN off ys f ts k).1 (off + k) (((amN off ys f ts k).1.getD (off + k) 0 + ys.getD k 0 * f + (amN off ys f ts k).2) % B64) (by rw [amN_length]; omega)
    have hd := Nat.mod_add_div ((amN off ys f ts k).1.getD (off + k) 0 + ys.getD k 0 * f + (amN off ys f ts k).2) B64
    have h2 := congrArg (fun n => B64 ^ (off + k) * n) hd
    rw [pval_take_succ]
    simp only [amN]
    generalize (amN off ys f ts k).1.getD (off + k) 0 = t at *
    generalize (amN off ys f ts k).2 = c at *
    generalize ys.getD k 0 = y at *
    simp only [Nat.mul_add] at h2
    rw [show off + (k + 1) = (off + k) + 1 from by omega, Nat.pow_succ, Nat.mul_assoc]
    have e : B64 ^ off * (f * (pval (List.take k ys) + B64 ^ k * y)) = B64 ^ off * (f * pval (List.take k ys)) + B64 ^ (off + k) * (y * f) := by
      rw [Nat.mul_add, Nat.mul_add, Nat.pow_add, Nat.mul_left_comm f (B64 ^ k) y, Nat.mul_assoc, Nat.mul_comm f y]
    rw [e]
    omega

/-- The block of a product after i places of the first factor. -/
def prN (xs ys : List Nat) : Nat → List Nat
  | 0 => List.replicate (xs.length + ys.length) 0
  | i + 1 => (amN i ys (xs.getD i 0) (prN xs ys i) ys.length).1.set (i + ys.length) (amN i ys (xs.getD i 0) (prN xs ys i) ys.length).2
theorem prN_length (xs ys : List Nat) (i : Nat) : (prN xs ys i).length = xs.length + ys.length := by
  induction i with
  | zero => simp [prN]
  | succ i ih => simp [prN, amN_length, ih]
theorem prN_limbs (xs ys : List Nat) (hx : Limbs xs) (hy : Limbs ys) (i : Nat) : Limbs (prN xs ys i) := by
  induction i with
  | zero => intro x hx; rw [(List.mem_replicate.1 hx).2]; exact B64_pos
  | succ i ih =>
    have h := amN_ok i ys (xs.getD i 0) (prN xs ys i) hy (hx.getD i) ih ys.length
    exact h.1.set _ _ h.2
theorem prN_zero (xs ys : List Nat) (i j : Nat) (h : i + ys.length ≤ j) : (prN xs ys i).getD j 0 = 0 := by
  induction i with
  | zero =>
    simp only [prN]
    rw [List.getD_eq_getElem?_getD]
    by_cases hj : j < xs.length + ys.length
    · rw [List.getElem?_replicate_of_lt hj]; rfl
    · rw [List.getElem?_eq_none (by simp; omega)]; rfl
  | succ i ih =>
    simp only [prN]
    rw [List.getD_eq_getElem?_getD, List.getElem?_set_ne (by omega), ← List.getD_eq_getElem?_getD, amN_getD _ _ _ _ _ _ (by omega)]
    exact ih (by omega)
theorem prN_val (xs ys : List Nat) (i : Nat) (h : i ≤ xs.length) : pval (prN xs ys i) = pval (xs.take i) * pval ys := by
  induction i with
  | zero =>
    have : ∀ n, pval (List.replicate n 0) = 0 := fun n => by
      induction n with
      | zero => rfl
      | succ n ih => rw [List.replicate_succ, pval, ih]; simp
    simp [prN, this, pval]
  | succ i ih =>
    have ih := ih (by omega)
    have hz := prN_zero xs ys i (i + ys.length) (Nat.le_refl _)
    have hz2 := amN_getD i ys (xs.getD i 0) (prN xs ys i) ys.length (i + ys.length) (by omega)
    have hs := pval_set (amN i ys (xs.getD i 0) (prN xs ys i) ys.length).1 (i + ys.length) (amN i ys (xs.getD i 0) (prN xs ys i) ys.length).2 (by rw [amN_length, prN_length]; omega)
    have hv := amN_val i ys (xs.getD i 0) (prN xs ys i) ys.length (by rw [prN_length]; omega)
    rw [hz2, hz, Nat.mul_zero, Nat.add_zero] at hs
    rw [List.take_of_length_le (Nat.le_refl _)] at hv
    simp only [prN]
    rw [hs, hv, ih, pval_take_succ, Nat.add_mul, Nat.mul_assoc]
end Go.Proofs.YtknaghdoffigjaaGreatDoor
