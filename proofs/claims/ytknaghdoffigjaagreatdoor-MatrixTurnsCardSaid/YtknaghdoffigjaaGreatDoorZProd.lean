/-
  The contract of wide.product. Results that lie in memory: one, two or three Wides, as the program hands them back. The contract of wide.signed.
-/
import Derived.Test.YtknaghdoffigjaaGreatDoorZDiff
import Derived.Laws.ResultCell
import Derived.Laws.BytesArg
set_option linter.unusedSimpArgs false
set_option linter.unusedVariables false
set_option linter.unnecessarySimpa false
namespace Go.Proofs.YtknaghdoffigjaaGreatDoor
open Go.RowKit

theorem slice_parts (A : Option Addr) (n c lo hi : Nat) (h1 : lo ≤ hi) (h2 : hi ≤ c) (w : World) :
    (Instr.slice 109 (.slice A n c) (some (.int .i64 (lo : Int))) (some (.int .i64 (hi : Int))) none).run Tryz.prog w = .ok (.slice (if c = lo then A else A.map (·.add lo)) (hi - lo) (c - lo)) w := by
  have h := run_slice_lh (P := Tryz.prog) (w := w) 109 A n c (by kernel_rfl) .i64 .i64 (lo : Int) (hi : Int) (by omega) (by omega) (by omega)
  rw [h]
  have e : Tryz.prog.elem 109 = 80 := by kernel_rfl
  rw [e, Tryz.sizeOf80]
  simp [Result.andThen, sliced]

set_option maxHeartbeats 2000000 in
theorem product_any (A B : Option Addr) (na nb ca cb : Nat) (xs ys : List Nat) (w : World) (hna : xs.length = na) (hnb : ys.length = nb) (hx : RdA w A xs) (hy : RdA w B ys) (lx : Limbs xs) (ly : Limbs ys)
    (nx : na ≤ 1099511627776) (ny : nb ≤ 1099511627776) :
    Calls Tryz.prog 97 #[.slice A na ca, .slice B nb cb] w fun e w' => RetO w w' e (limbs (pval xs * pval ys)) := by
  have hmk := make_parts (na + nb) (by omega)
  have e1 : (((na + nb : Nat)) : Int) = (na : Int) + (nb : Int) := by omega
  rw [e1] at hmk
  have Hna := Lib.hid hna
  have Hnb := Lib.hid hnb
  clear hna hnb e1
  go_enter Tryz.func97, Tryz.ntmps97
  go_wp2
  obtain ⟨g, hg⟩ : ∃ g, g = w.heap.size := ⟨_, rfl⟩
  have hL0 : Lst (w.alloc (.cells (U (List.replicate (na + nb) 0)) 80)) g (List.replicate (na + nb) 0) := by rw [hg]; exact Lst.new _ _
  have hB0 : Below g w (w.alloc (.cells (U (List.replicate (na + nb) 0)) 80)) := (Below.refl _ _).alloc (by omega) _
  rw [← hg]
  have Hg := Lib.hid hg
  clear hg hmk
  go_loopw [15] (fun i wr => ∃ k : Nat, k ≤ na ∧ i = .int .i64 k ∧ Lst wr g (prN xs ys k) ∧ Below g w wr)
    (fun i _ => na - (intOf i).toNat)
  case atStart => exact ⟨0, Nat.zero_le _, rfl, by rw [show prN xs ys 0 = List.replicate (na + nb) 0 from by rw [← Hna.out, ← Hnb.out]; rfl]; exact hL0, hB0⟩
  case round =>
    obtain ⟨k, hk, rfl, hL, hB⟩ := hrel
    have hlen := prN_length xs ys k
    rw [Hna.out, Hnb.out] at hlen
    have hlim := prN_limbs xs ys lx ly k
    by_cases hlt : k < na
    · have hBw : Below w.heap.size w wr := by rw [← Hg.out]; exact hB
      obtain ⟨a, rfl, hab, hac⟩ := hx.below hBw k (by rw [Hna.out]; omega)
      have HC := Lib.hid (fun T ct (hT : 0 < nb → T = some ⟨g, k, none⟩) (W : World) (h1 : Lst W g (prN xs ys k)) (h2 : Below w.heap.size w W) =>
        addMultiple_any T B nb ct cb g k (xs.getD k 0) (prN xs ys k) ys w W Hnb.out hT h1 (by omega) hy h2 (by rw [← Hg.out]; exact Nat.le_refl _) ly hlim (lx.getD k) (by omega))
      have hlen2 := amN_length k ys (xs.getD k 0) (prN xs ys k) nb
      have hok := amN_ok k ys (xs.getD k 0) (prN xs ys k) ly (lx.getD k) hlim nb
      have hpr : prN xs ys (k + 1) = (amN k ys (xs.getD k 0) (prN xs ys k) nb).1.set (k + nb) (amN k ys (xs.getD k 0) (prN xs ys k) nb).2 := by
        rw [← Hnb.out]; rfl
      have HPR := Lib.hid hpr
      clear hpr
      generalize xs.getD k 0 = x at *
      generalize hq : amN k ys x (prN xs ys k) nb = q at *
      have hlen3 : q.1.length = na + nb := by rw [hlen2, hlen]
      have HL3 := Lib.hid hlen3
      clear hlen2 hlen hq hlen3
      have hsl := slice_parts (some ⟨g, 0, none⟩) (na + nb) (na + nb) k (k + nb) (by omega) (by omega)
      rw [if_neg (by omega), show k + nb - k = nb from by omega, show (((k + nb : Nat)) : Int) = (k : Int) + nb from by omega, show (some (⟨g, 0, none⟩ : Addr)).map (·.add k) = some ⟨g, k, none⟩ from by simp [Addr.add]; omega] at hsl
      have hw1 : IntKind.i64.wrap ((k : Int) + nb) = (k : Int) + nb := IntWalk.i64_in _ (by omega)
      have hw2 : (0 : Int) ≤ (k : Int) + nb := by omega
      have hw3 : ((k : Int) + nb).toNat = k + nb := by omega
      have hw4 : (k : Int) + nb < ((na + nb : Nat) : Int) := by omega
      go_wp2
      go_region_with (go_at_call 135; (with_reducible refine (HC.out _ _ (fun _ => rfl) _ hL.drew hBw.drew).mono ?_); rintro e w' ⟨rfl, hL', hG'⟩; have hcell2 := hL'.cell (k := k + nb) (by rw [HL3.out]; omega); have hfr2 := hL'.frozen (k + nb))
      have hB2 : Below g w w' := hB.drew.grown hG' (Nat.le_of_lt hL.lt) (by intro j hj; cases hj; exact Nat.le_refl _)
      have hB3 := hB2.setCell (p := ⟨g, k + nb, none⟩) (Nat.le_refl g) (.int .u64 (q.2 : Int))
      have hL4 : Lst (w'.setCell ⟨g, k + nb, none⟩ (.int .u64 (q.2 : Int))) g (prN xs ys (k + 1)) := by rw [HPR.out]; exact hL'.set _ _
      go_wp2
      go_roundw
      case rel => exact ⟨k + 1, by omega, by go_num, hL4, hB3⟩
      case measure => simp [intOf]; omega
    · obtain rfl : k = na := by omega
      have hval := prN_val xs ys k (by rw [Hna.out]; exact Nat.le_refl _)
      rw [List.take_of_length_le (by rw [Hna.out]; exact Nat.le_refl _)] at hval
      have Hvz := Lib.hid hval
      have Hlz := Lib.hid hlen
      clear hval hlen
      generalize prN xs ys k = zs at *
      go_wp2_with fail
      with_reducible refine (trim_any _ _ _ zs _ Hlz.out hL.rd (Nat.le_refl _) (by unfold maxLen; omega)).mono ?_
      rintro e w' ⟨rfl, rfl⟩
      go_wp2
      go_ret
      have hr := RetO.trimmed Hg.out hL hlim hB (by rw [Hlz.out]; unfold maxLen; omega)
      rw [Hlz.out, Hvz.out] at hr
      exact hr
end Go.Proofs.YtknaghdoffigjaaGreatDoor
namespace Go.Proofs.YtknaghdoffigjaaGreatDoor
open Go.RowKit

/-- Block b is a variable that holds this Wide. -/
def Wd (w : World) (b : Nat) (x : Bool) (s : ByteArray) : Prop := w.heap[b]? = some (.cells #[.bool x, .string s] 32 (0, 0))
section

variable {w w' : World} {b : Nat} {x : Bool} {s : ByteArray}

theorem Wd.lt (h : Wd w b x s) : b < w.heap.size := by
  rcases Nat.lt_or_ge b w.heap.size with hlt | hge
  · exact hlt
  · unfold Wd at h; rw [Array.getElem?_eq_none hge] at h; cases h
theorem Wd.cell0 (h : Wd w b x s) : w.cell? ⟨b, 0, none⟩ = some (.bool x) := cell_of_row w b 0 _ _ _ h
theorem Wd.cell1 (h : Wd w b x s) : w.cell? ⟨b, 1, none⟩ = some (.string s) := cell_of_row w b 1 _ _ _ h
theorem Wd.frozen (h : Wd w b x s) (k : Nat) : w.frozen? ⟨b, k, none⟩ = false := by
  unfold Wd at h
  simp [World.frozen?, h]
theorem Wd.block (h : Wd w b x s) (hb : w'.heap[b]? = w.heap[b]?) : Wd w' b x s := hb.trans h
theorem Wd.below {B : Nat} (h : Wd w b x s) (hb : Below B w w') (hg : b < B) : Wd w' b x s := h.block (hb.block b hg)
theorem Wd.drew (h : Wd w b x s) : Wd w.drew b x s := h
theorem Wd.alloc (h : Wd w b x s) (o : Obj) : Wd (w.alloc o) b x s := h.block (Below.heap_alloc w o b h.lt)
theorem Wd.far (h : Wd w b x s) {p : Addr} (hp : b ≠ p.block) (u : Value) : Wd (w.setCell p u) b x s := h.block (Below.heap_setCell w p u b hp)
theorem Wd.new (w : World) (x : Bool) (s : ByteArray) : Wd (w.alloc (.cells #[.bool x, .string s] 32)) w.heap.size x s := heap_alloc_new w _
theorem Wd.set0 (h : Wd w b x s) (y : Bool) : Wd (w.setCell ⟨b, 0, none⟩ (.bool y)) b y s := by
  unfold Wd at h ⊢
  simp [World.setCell, Array.getElem?_modify, h]
theorem Wd.set1 (h : Wd w b x s) (t : ByteArray) : Wd (w.setCell ⟨b, 1, none⟩ (.string t)) b x t := by
  unfold Wd at h ⊢
  simp [World.setCell, Array.getElem?_modify, h]
theorem Wd.load (h : Wd w b x s) : (loadVar 32 ⟨b, 0, none⟩).run Tryz.prog w = .ok (.agg #[.bool x, .string s]) w := by
  have h0 := h.cell0
  have h1 := h.cell1
  simp [loadVar, go_sem, h0, h1]
end

theorem post_wide {fn : Func} {R : Ending → World → Prop} {a : Act} {w : World} {p : Tmp} {b : Nat} {x : Bool} {s : ByteArray} (h : fn.results = #[.cell p 32])
    (ht : a.tmps.getD p undef = .pointer (some ⟨b, 0, none⟩)) (hw : Wd w b x s) (hd : a.defers = []) (hR : R (.returned (.agg #[.bool x, .string s])) w) : bodyPost Tryz.prog fn R .ret a w := by
  refine bodyPost_ret (v := .agg #[.bool x, .string s]) ?_ hd hR
  have := hw.load
  rw [Array.getD_eq_getD_getElem?] at ht
  simp only [results, h]
  simp [Sem.run_bind, Result.andThen, ht, asAddr, this]
theorem post_wide_wide_tmp {fn : Func} {R : Ending → World → Prop} {a : Act} {w : World} {p q u : Tmp} {b c : Nat} {x y : Bool} {s t : ByteArray} (h : fn.results = #[.cell p 32, .cell q 32, .tmp u])
    (ht : a.tmps.getD p undef = .pointer (some ⟨b, 0, none⟩)) (hq : a.tmps.getD q undef = .pointer (some ⟨c, 0, none⟩)) (hw : Wd w b x s) (hv : Wd w c y t) (hd : a.defers = [])
    (hR : R (.returned (.tuple #[.agg #[.bool x, .string s], .agg #[.bool y, .string t], a.tmps.getD u undef])) w) : bodyPost Tryz.prog fn R .ret a w := by
  refine bodyPost_ret (v := .tuple #[.agg #[.bool x, .string s], .agg #[.bool y, .string t], a.tmps.getD u undef]) ?_ hd hR
  have h1 := hw.load
  have h2 := hv.load
  rw [Array.getD_eq_getD_getElem?] at ht hq
  simp only [results, h]
  simp [Sem.run_bind, Result.andThen, ht, hq, asAddr, h1, h2]
theorem post_wide2 {fn : Func} {R : Ending → World → Prop} {a : Act} {w : World} {p q : Tmp} {b c : Nat} {x y : Bool} {s t : ByteArray} (h : fn.results = #[.cell p 32, .cell q 32])
    (ht : a.tmps.getD p undef = .pointer (some ⟨b, 0, none⟩)) (hq : a.tmps.getD q undef = .pointer (some ⟨c, 0, none⟩)) (hw : Wd w b x s) (hv : Wd w c y t) (hd : a.defers = [])
    (hR : R (.returned (.tuple #[.agg #[.bool x, .string s], .agg #[.bool y, .string t]])) w) : bodyPost Tryz.prog fn R .ret a w := by
  refine bodyPost_ret (v := .tuple #[.agg #[.bool x, .string s], .agg #[.bool y, .string t]]) ?_ hd hR
  have h1 := hw.load
  have h2 := hv.load
  rw [Array.getD_eq_getD_getElem?] at ht hq
  simp only [results, h]
  simp [Sem.run_bind, Result.andThen, ht, hq, asAddr, h1, h2]
theorem post_wide3 {fn : Func} {R : Ending → World → Prop} {a : Act} {w : World} {p q r : Tmp} {b c d : Nat} {x y z : Bool} {s t v : ByteArray} (h : fn.results = #[.cell p 32, .cell q 32, .cell r 32])
    (ht : a.tmps.getD p undef = .pointer (some ⟨b, 0, none⟩)) (hq : a.tmps.getD q undef = .pointer (some ⟨c, 0, none⟩)) (hr : a.tmps.getD r undef = .pointer (some ⟨d, 0, none⟩)) (hw : Wd w b x s) (hv : Wd w c y t) (hu : Wd w d z v) (hd : a.defers = [])
    (hR : R (.returned (.tuple #[.agg #[.bool x, .string s], .agg #[.bool y, .string t], .agg #[.bool z, .string v]])) w) : bodyPost Tryz.prog fn R .ret a w := by
  refine bodyPost_ret (v := .tuple #[.agg #[.bool x, .string s], .agg #[.bool y, .string t], .agg #[.bool z, .string v]]) ?_ hd hR
  have h1 := hw.load
  have h2 := hv.load
  have h3 := hu.load
  rw [Array.getD_eq_getD_getElem?] at ht hq hr
  simp only [results, h]
  simp [Sem.run_bind, Result.andThen, ht, hq, hr, asAddr, h1, h2, h3]
end Go.Proofs.YtknaghdoffigjaaGreatDoor
namespace Go.Proofs.YtknaghdoffigjaaGreatDoor
open Go.RowKit

/-- The cells of a list of bytes. -/
def Y (l : List UInt8) : Array Value := (l.map fun b : UInt8 => Value.int .u8 (b.toNat : Int)).toArray
/-- Block g is just these bytes, and may be written. -/
def Bts (w : World) (g : Nat) (l : List UInt8) : Prop := w.heap[g]? = some (.cells (Y l) 5 (0, 0))
theorem Y_get (l : List UInt8) (k : Nat) (h : k < l.length) : (Y l)[k]? = some (.int .u8 ((l.getD k 0).toNat : Int)) := by
  simp [Y, List.getD_eq_getElem?_getD, List.getElem?_eq_getElem h]
theorem Y_set (l : List UInt8) (k : Nat) (x : UInt8) : (Y l).setIfInBounds k (.int .u8 (x.toNat : Int)) = Y (l.set k x) := by
  simp [Y, List.map_set]
section

variable {w w' : World} {g : Nat} {l : List UInt8}

theorem Bts.lt (h : Bts w g l) : g < w.heap.size := by
  rcases Nat.lt_or_ge g w.heap.size with hlt | hge
  · exact hlt
  · unfold Bts at h; rw [Array.getElem?_eq_none hge] at h; cases h
theorem Bts.cell (h : Bts w g l) {k : Nat} (hk : k < l.length) : w.cell? ⟨g, k, none⟩ = some (.int .u8 ((l.getD k 0).toNat : Int)) :=
  (cell_of_row w g k (Y l) _ (0, 0) h).trans (Y_get l k hk)
theorem Bts.frozen (h : Bts w g l) (k : Nat) : w.frozen? ⟨g, k, none⟩ = false := by
  unfold Bts at h
  simp [World.frozen?, h]
theorem Bts.set (h : Bts w g l) (k : Nat) (x : UInt8) : Bts (w.setCell ⟨g, k, none⟩ (.int .u8 (x.toNat : Int))) g (l.set k x) := by
  unfold Bts at h ⊢
  rw [← Y_set]
  simp [World.setCell, Array.getElem?_modify, h]
theorem Bts.block (h : Bts w g l) (hb : w'.heap[g]? = w.heap[g]?) : Bts w' g l := hb.trans h
theorem Bts.drew (h : Bts w g l) : Bts w.drew g l := h
theorem Bts.alloc (h : Bts w g l) (o : Obj) : Bts (w.alloc o) g l := h.block (Below.heap_alloc w o g h.lt)
theorem Bts.new (w : World) (l : List UInt8) : Bts (w.alloc (.cells (Y l) 5)) w.heap.size l := heap_alloc_new w _
theorem Bts.str (h : Bts w g l) (c : Nat) : (convert 114 9 (.slice (some ⟨g, 0, none⟩) l.length c)).run Tryz.prog w = .ok (.string (bstr l)) w := by
  have hr := run_convert_bytes_arg (P := Tryz.prog) w 114 5 Tryz.underlying114 Tryz.underlying5 g 0 l.length c (l.map fun b => (b.toNat : Int)) (by simp)
    (fun i hi => by
      rw [Nat.zero_add, h.cell hi]
      simp [List.getD_eq_getElem?_getD, List.getElem?_eq_getElem hi]) 9 Tryz.underlying9
  have e : strOfNums (l.map fun b => (b.toNat : Int)) = bstr l := by
    rw [← bstr_toList (strOfNums _), strOfNums_data, List.map_map]
    have : l.map ((fun n => UInt8.ofNat (Int.toNat n)) ∘ fun b => (b.toNat : Int)) = l.map id := List.map_congr_left fun b _ => by simp
    rw [this, List.map_id]
  rw [hr, e]
end

theorem madeY (n : Nat) : madeCells #[.int .u8 0] n = Y (List.replicate n 0) := by
  apply Array.ext
  · simp [size_madeCells, Y]
  · intro i h1 h2
    simp [madeCells, Y, Nat.mod_one]
theorem info_u8 : (Tryz.prog.info? 5).map (fun i => (i.zero, i.size, i.bytes)) = some (some (.int .u8 0), 1, 1) := by kernel_rfl
theorem make_bytes (n : Nat) (hn : n ≤ 140737488355328) (w : World) :
    (Instr.makeSlice 114 (.int .i64 (n : Int)) (.int .i64 (n : Int))).run Tryz.prog w = .ok (.slice (some ⟨w.heap.size, 0, none⟩) n n) (w.alloc (.cells (Y (List.replicate n 0)) 5)) := by
  obtain ⟨i0, hi, hz0, hz1, hz2⟩ := info_parts info_u8
  have hr := run_make (P := Tryz.prog) w 114 5 i0 (.int .u8 0) Tryz.underlying114 hi hz0 .i64 .i64 n n (by omega) (by omega) (by rw [hz2]; omega) (by omega)
  rw [hz1] at hr
  simp only [Int.toNat_natCast, Nat.mul_one] at hr
  rw [← madeY]
  exact hr

/-- The low i bytes of N, the most significant one first. -/
def lowB (N : Nat) : Nat → List UInt8
  | 0 => []
  | i + 1 => UInt8.ofNat (N / 256 ^ i % 256) :: lowB N i
theorem lowB_length (N i : Nat) : (lowB N i).length = i := by
  induction i with
  | zero => rfl
  | succ i ih => simp [lowB, ih]
theorem bval_cons (b : UInt8) (l : List UInt8) : bval (b :: l) = b.toNat * 256 ^ l.length + bval l := by
  have := bval_append [b] l
  rw [List.singleton_append] at this
  rw [this]; simp [bval]
theorem bstr_size (l : List UInt8) : (bstr l).size = l.length := by simp [bstr, ByteArray.size]
theorem bstr_data (l : List UInt8) : (bstr l).data.toList = l := rfl
theorem lt256 (n : Nat) : n % 256 < UInt8.size := by
  rw [show UInt8.size = 256 from rfl]
  omega
theorem bval_lowB (N i : Nat) : bval (lowB N i) = N % 256 ^ i := by
  induction i with
  | zero => simp [lowB, bval, Nat.mod_one]
  | succ i ih =>
    rw [lowB, bval_cons, ih, lowB_length, UInt8.toNat_ofNat_of_lt' (lt256 _), Nat.pow_succ, Nat.mod_mul]
    rw [Nat.mul_comm, Nat.add_comm]
theorem B64_pow : B64 = 256 ^ 8 := by rw [B64_eq]
theorem pval_digit (xs : List Nat) (h : Limbs xs) (j : Nat) : ∃ t, pval xs / B64 ^ j = xs.getD j 0 + B64 * t := by
  induction xs generalizing j with
  | nil => exact ⟨0, by simp [pval]⟩
  | cons x xs ih =>
    cases j with
    | zero => exact ⟨pval xs, by simp [pval]⟩
    | succ j =>
      obtain ⟨t, ht⟩ := ih h.tail j
      refine ⟨t, ?_⟩
      rw [pval, Nat.pow_succ, Nat.mul_comm (B64 ^ j), ← Nat.div_div_eq_div_mul, Nat.add_mul_div_left _ _ B64_pos, Nat.div_eq_of_lt h.head, Nat.zero_add, ht]
      simp
theorem byte_at (xs : List Nat) (h : Limbs xs) (i : Nat) : pval xs / 256 ^ i % 256 = xs.getD (i / 8) 0 / 256 ^ (i % 8) % 256 := by
  obtain ⟨t, ht⟩ := pval_digit xs h (i / 8)
  have e : 256 ^ i = B64 ^ (i / 8) * 256 ^ (i % 8) := by
    rw [B64_pow, ← Nat.pow_mul, ← Nat.pow_add, Nat.div_add_mod]
  rw [e, ← Nat.div_div_eq_div_mul, ht]
  have hr : i % 8 < 8 := Nat.mod_lt _ (by omega)
  generalize i % 8 = r at *
  generalize xs.getD (i / 8) 0 = x at *
  rw [B64_eq]
  match r, hr with
  | 0, _ => simp; omega
  | 1, _ => omega
  | 2, _ => omega
  | 3, _ => omega
  | 4, _ => omega
  | 5, _ => omega
  | 6, _ => omega
  | 7, _ => omega

theorem byte_val (N k : Nat) : ((((limbs N)[k / 8]?.getD 0 : Nat) : Int) / 2 ^ (8 * (k % 8)) % 256 : Int) = ((UInt8.ofNat (N / 256 ^ k % 256)).toNat : Int) := by
  have h := byte_at (limbs N) (limbs_limbs N) k
  rw [pval_limbs, List.getD_eq_getElem?_getD] at h
  rw [UInt8.toNat_ofNat_of_lt' (lt256 _), h, show (256 : Nat) = 2 ^ 8 from rfl, ← Nat.pow_mul]
  generalize (limbs N)[k / 8]?.getD 0 = x
  simp
theorem low_set (N m k : Nat) (h : k < m) : (List.replicate (m - k) 0 ++ lowB N k).set (m - 1 - k) (UInt8.ofNat (N / 256 ^ k % 256)) = List.replicate (m - (k + 1)) 0 ++ lowB N (k + 1) := by
  have e : List.replicate (m - k) (0 : UInt8) = List.replicate (m - (k + 1)) 0 ++ [0] := by
    rw [show m - k = (m - (k + 1)) + 1 from by omega, List.replicate_succ']
  rw [e, List.append_assoc, List.set_append_right _ _ (by simp; omega), List.length_replicate, show m - 1 - k - (m - (k + 1)) = 0 from by omega, List.singleton_append, List.set_cons_zero, lowB]

set_option maxRecDepth 100000 in
set_option maxHeartbeats 1000000 in
theorem signed_any (neg : Bool) (A : Option Addr) (n c : Nat) (N : Nat) (w : World) (hn : (limbs N).length = n) (hx : RdA w A (limbs N)) (nn : n ≤ 1099511627776) :
    Calls Tryz.prog 96 #[.bool neg, .slice A n c] w fun e w' => e = .returned (wv (if neg then -(N : Int) else N)) ∧ Below w.heap.size w w' := by
  have hmk := make_bytes (8 * n) (by omega)
  rw [show (((8 * n : Nat)) : Int) = 8 * (n : Int) from by omega] at hmk
  have Hn := Lib.hid hn
  clear hn
  go_enter Tryz.func96, Tryz.ntmps96
  go_wp2
  obtain ⟨w1, hw1⟩ : ∃ w1, w1 = w.alloc (.cells #[.bool false, .string ⟨#[]⟩] 32) := ⟨_, rfl⟩
  obtain ⟨g, hg⟩ : ∃ g, g = w.heap.size + 1 := ⟨_, rfl⟩
  have hsz : w1.heap.size = g := by rw [hw1, hg]; simp
  have hb1 : Below w.heap.size w w1 := by rw [hw1]; exact (Below.refl _ _).alloc (Nat.le_refl _) _
  have hres : w1.heap[w.heap.size]? = some (.cells #[.bool false, .string ⟨#[]⟩] 32 (0, 0)) := by rw [hw1]; exact heap_alloc_new w _
  have hY0 : Bts (w1.alloc (.cells (Y (List.replicate (8 * n) 0)) 5)) g (List.replicate (8 * n) 0) := by rw [← hsz]; exact Bts.new _ _
  have hB0 : Below g w1 (w1.alloc (.cells (Y (List.replicate (8 * n) 0)) 5)) := (Below.refl _ _).alloc (by omega) _
  rw [← hw1, ← hg]
  have Hg := Lib.hid hg
  have Hsz := Lib.hid hsz
  clear hg hmk hw1 hsz
  go_loopw [13] (fun i wr => ∃ k : Nat, k ≤ 8 * n ∧ i = .int .i64 k ∧ Bts wr g (List.replicate (8 * n - k) 0 ++ lowB N k) ∧ Below g w1 wr)
    (fun i _ => 8 * n - (intOf i).toNat)
  case atStart => exact ⟨0, Nat.zero_le _, rfl, by simpa [lowB] using hY0, hB0⟩
  case round =>
    obtain ⟨k, hk, rfl, hY, hB⟩ := hrel
    by_cases hlt : k < 8 * n
    · have hB' : Below w.heap.size w wr := hb1.trans (hB.mono (by have := Hg.out; omega))
      obtain ⟨a, rfl, hab, hac⟩ := (hx.below hB') (k / 8) (by rw [Hn.out]; omega)
      have hcell := hY.cell (k := 8 * n - 1 - k) (by simp [lowB_length]; omega)
      have hfr := hY.frozen (8 * n - 1 - k)
      have hY2 := hY.set (8 * n - 1 - k) (UInt8.ofNat (N / 256 ^ k % 256))
      have hB3 := fun u => hB.setCell (p := ⟨g, 8 * n - 1 - k, none⟩) (Nat.le_refl g) u
      rw [low_set N (8 * n) k hlt] at hY2
      have HY2 := Lib.hid hY2
      clear hY2 hY
      go_wp2
      go_roundw
      case rel => exact ⟨k + 1, by omega, by go_num, by rw [byte_val]; exact HY2.out, hB3 _⟩
      case measure => simp [intOf]; omega
    · obtain rfl : k = 8 * n := by omega
      rw [Nat.sub_self, List.replicate_zero, List.nil_append] at hY
      have hres2 : wr.heap[w.heap.size]? = some (.cells #[.bool false, .string ⟨#[]⟩] 32 (0, 0)) := (hB.block _ (by have := Hg.out; omega)).trans hres
      have hc0 : wr.cell? ⟨w.heap.size, 0, none⟩ = some (.bool false) := cell_of_row wr w.heap.size 0 _ _ _ hres2
      have hc1 : wr.cell? ⟨w.heap.size, 1, none⟩ = some (.string ⟨#[]⟩) := cell_of_row wr w.heap.size 1 _ _ _ hres2
      have hf0 : wr.frozen? ⟨w.heap.size, 0, none⟩ = false := by simp [World.frozen?, hres2]
      have hf1 : wr.frozen? ⟨w.heap.size, 1, none⟩ = false := by simp [World.frozen?, hres2]
      have hst := hY.str (8 * n)
      rw [lowB_length] at hst
      have hlt8 : N < 256 ^ (8 * n) := by
        have := pval_lt (limbs_limbs N)
        rwa [pval_limbs, Hn.out, B64_pow, ← Nat.pow_mul] at this
      have hbv : bval (lowB N (8 * n)) = N := by rw [bval_lowB, Nat.mod_eq_of_lt hlt8]
      have HRES' : Hid (Wd wr w.heap.size false ⟨#[]⟩) := Lib.hid hres2
      have hBw : Below w.heap.size w wr := hb1.trans (hB.mono (by have := Hg.out; omega))
      have HBV := Lib.hid hbv
      have hsig := Lib.hid (significant_any (bstr (lowB N (8 * n))) wr (by rw [bstr_size, lowB_length]; unfold maxLen; omega))
      clear hres2 hbv hlt8 hY hY0 hB0
      generalize lowB N (8 * n) = l at *
      have hdn : decide (-(N : Int) < 0) = decide (0 < n) := by
        have h1 := Hn.out
        have h2 := @limbs_eq_nil N
        by_cases h0 : N = 0
        · subst h0
          simp [limbs_zero] at h1
          subst h1
          rfl
        · have : (limbs N).length ≠ 0 := fun e => h0 (h2.1 (List.length_eq_zero_iff.1 e))
          have a1 : decide (-(N : Int) < 0) = true := by simp; omega
          have a2 : decide (0 < n) = true := by simp; omega
          rw [a1, a2]
      have hdf : decide ((N : Int) < 0) = false := by simp
      have HD := Lib.hid hdn
      have HF := Lib.hid hdf
      clear hdn hdf
      cases neg
      · go_wp2_with fail
        with_reducible refine hsig.out.mono ?_
        rintro e w' ⟨rfl, rfl⟩
        go_wp2
        refine post_wide (b := w.heap.size) rfl rfl ((HRES'.out.set0 false).set1 _) rfl ⟨?_, (hBw.setCell (Nat.le_refl _) _).setCell (Nat.le_refl _) _⟩
        rw [bstr_data, HBV.out]
        simp [wv]
      · go_wp2_with fail
        with_reducible refine hsig.out.mono ?_
        rintro e w' ⟨rfl, rfl⟩
        go_wp2
        refine post_wide (b := w.heap.size) rfl rfl ((HRES'.out.set0 _).set1 _) rfl ⟨?_, (hBw.setCell (Nat.le_refl _) _).setCell (Nat.le_refl _) _⟩
        rw [bstr_data, HBV.out]
        simp only [if_true, wv]
        rw [HD.out, Int.natAbs_neg, Int.natAbs_natCast]
end Go.Proofs.YtknaghdoffigjaaGreatDoor
