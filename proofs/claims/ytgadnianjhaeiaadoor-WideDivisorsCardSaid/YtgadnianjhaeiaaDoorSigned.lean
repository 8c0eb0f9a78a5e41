/-
  The contract of wide.signed.
-/
import Derived.Test.YtgadnianjhaeiaaDoorRes
import Derived.Laws.BytesArg
namespace Go.Proofs.YtgadnianjhaeiaaDoor
open Go.RowKit

/-- The cells of a list of bytes. -/
def Y (l : List UInt8) : Array Value := (l.map fun b : UInt8 => Value.int .u8 (b.toNat : Int)).toArray
/-- Block g is just these bytes, and may be written. -/
def Bts (w : World) (g : Nat) (l : List UInt8) : Prop := w.heap[g]? = some (.cells (Y l) 5 (0, 0))
theorem Y_get (l : List UInt8) (k : Nat) (h : k < l.length) : (Y l)[k]? = some (.int .u8 ((l.getD k 0).toNat : Int)) := by
  simp [Y, List.getD_eq_getElem?_getD, List.getElem?_eq_getElem h]
theorem Y_set (l : List UInt8) (k : Nat) (x : UInt8) : (Y l).setIfInBounds k (.int .u8 (x.toNat : Int)) = Y (l.set k x) := by
  simp [Y, List.map_set]
section
variable {w w' : World} {g : Nat} {l : List UInt8}
theorem Bts.lt (h : Bts w g l) : g < w.heap.size := by
  rcases Nat.lt_or_ge g w.heap.size with hlt | hge
  · exact hlt
  · unfold Bts at h; rw [Array.getElem?_eq_none hge] at h; cases h
theorem Bts.cell (h : Bts w g l) {k : Nat} (hk : k < l.length) : w.cell? ⟨g, k, none⟩ = some (.int .u8 ((l.getD k 0).toNat : Int)) :=
  (cell_of_row w g k (Y l) _ (0, 0) h).trans (Y_get l k hk)
theorem Bts.frozen (h : Bts w g l) (k : Nat) : w.frozen? ⟨g, k, none⟩ = false := by
  unfold Bts at h
  simp [World.frozen?, h]
theorem Bts.set (h : Bts w g l) (k : Nat) (x : UInt8) : Bts (w.setCell ⟨g, k, none⟩ (.int .u8 (x.toNat : Int))) g (l.set k x) := by
  unfold Bts at h ⊢
  rw [← Y_set]
  simp [World.setCell, Array.getElem?_modify, h]
theorem Bts.block (h : Bts w g l) (hb : w'.heap[g]? = w.heap[g]?) : Bts w' g l := hb.trans h
theorem Bts.drew (h : Bts w g l) : Bts w.drew g l := h
theorem Bts.alloc (h : Bts w g l) (o : Obj) : Bts (w.alloc o) g l := h.block (Below.heap_alloc w o g h.lt)
theorem Bts.new (w : World) (l : List UInt8) : Bts (w.alloc (.cells (Y l) 5)) w.heap.size l := heap_alloc_new w _
theorem Bts.str (h : Bts w g l) (c : Nat) : (convert 22 9 (.slice (some ⟨g, 0, none⟩) l.length c)).run Tryd.prog w = .ok (.string (bstr l)) w := by
  have hr := run_convert_bytes_arg (P := Tryd.prog) w 22 5 Tryd.underlying22 Tryd.underlying5 g 0 l.length c (l.map fun b => (b.toNat : Int)) (by simp)
    (fun i hi => by
      rw [Nat.zero_add, h.cell hi]
      simp [List.getD_eq_getElem?_getD, List.getElem?_eq_getElem hi]) 9 Tryd.underlying9
  have e : strOfNums (l.map fun b => (b.toNat : Int)) = bstr l := by
    rw [← bstr_toList (strOfNums _), strOfNums_data, List.map_map]
    have : l.map ((fun n => UInt8.ofNat (Int.toNat n)) ∘ fun b => (b.toNat : Int)) = l.map id := List.map_congr_left fun b _ => by simp
    rw [this, List.map_id]
  rw [hr, e]
end
theorem madeY (n : Nat) : madeCells #[.int .u8 0] n = Y (List.replicate n 0) := by
  apply Array.ext
  · simp [size_madeCells, Y]
  · intro i h1 h2
    simp [madeCells, Y, Nat.mod_one]
theorem info_u8 : (Tryd.prog.info? 5).map (fun i => (i.zero, i.size, i.bytes)) = some (some (.int .u8 0), 1, 1) := by kernel_rfl
theorem make_bytes (n : Nat) (hn : n ≤ 140737488355328) (w : World) :
    (Instr.makeSlice 22 (.int .i64 (n : Int)) (.int .i64 (n : Int))).run Tryd.prog w = .ok (.slice (some ⟨w.heap.size, 0, none⟩) n n) (w.alloc (.cells (Y (List.replicate n 0)) 5)) := by
  obtain ⟨i0, hi, hz0, hz1, hz2⟩ := info_parts info_u8
  have hr := run_make (P := Tryd.prog) w 22 5 i0 (.int .u8 0) Tryd.underlying22 hi hz0 .i64 .i64 n n (by omega) (by omega) (by rw [hz2]; omega) (by omega)
  rw [hz1] at hr
  simp only [Int.toNat_natCast, Nat.mul_one] at hr
  rw [← madeY]
  exact hr

/-- The low i bytes of N, the most significant one first. -/
def lowB (N : Nat) : Nat → List UInt8
  | 0 => []
  | i + 1 => UInt8.ofNat (N / 256 ^ i % 256) :: lowB N i
theorem lowB_length (N i : Nat) : (lowB N i).length = i := by
  induction i with
  | zero => rfl
  | succ i ih => simp [lowB, ih]
theorem bval_cons (b : UInt8) (l : List UInt8) : bval (b :: l) = b.toNat * 256 ^ l.length + bval l := by
  have := bval_append [b] l
  rw [List.singleton_append] at this
  rw [this]; simp [bval]
theorem bstr_size (l : List UInt8) : (bstr l).size = l.length := by simp [bstr, ByteArray.size]
theorem bstr_data (l : List UInt8) : (bstr l).data.toList = l := rfl
theorem lt256 (n : Nat) : n % 256 < UInt8.size := by
  rw [show UInt8.size = 256 from rfl]
  omega
theorem bval_lowB (N i : Nat) : bval (lowB N i) = N % 256 ^ i := by
  induction i with
  | zero => simp [lowB, bval, Nat.mod_one]
  | succ i ih =>
    rw [lowB, bval_cons, ih, lowB_length, UInt8.toNat_ofNat_of_lt' (lt256 _), Nat.pow_succ, Nat.mod_mul]
    rw [Nat.mul_comm, Nat.add_comm]
theorem B64_pow : B64 = 256 ^ 8 := by rw [B64_eq]
theorem pval_digit (xs : List Nat) (h : Limbs xs) (j : Nat) : ∃ t, pval xs / B64 ^ j = xs.getD j 0 + B64 * t := by
  induction xs generalizing j with
  | nil => exact ⟨0, by simp [pval]⟩
  | cons x xs ih =>
    cases j with
    | zero => exact ⟨pval xs, by simp [pval]⟩
    | succ j =>
      obtain ⟨t, ht⟩ := ih h.tail j
      refine ⟨t, ?_⟩
      rw [pval, Nat.pow_succ, Nat.mul_comm (B64 ^ j), ← Nat.div_div_eq_div_mul, Nat.add_mul_div_left _ _ B64_pos, Nat.div_eq_of_lt h.head, Nat.zero_add, ht]
      simp
theorem byte_at (xs : List Nat) (h : Limbs xs) (i : Nat) : pval xs / 256 ^ i % 256 = xs.getD (i / 8) 0 / 256 ^ (i % 8) % 256 := by
  obtain ⟨t, ht⟩ := pval_digit xs h (i / 8)
  have e : 256 ^ i = B64 ^ (i / 8) * 256 ^ (i % 8) := by
    rw [B64_pow, ← Nat.pow_mul, ← Nat.pow_add, Nat.div_add_mod]
  rw [e, ← Nat.div_div_eq_div_mul, ht]
  have hr : i % 8 < 8 := Nat.mod_lt _ (by omega)
  generalize i % 8 = r at *
  generalize xs.getD (i / 8) 0 = x at *
  rw [B64_eq]
  match r, hr with
  | 0, _ => simp; omega
  | 1, _ => omega
  | 2, _ => omega
  | 3, _ => omega
  | 4, _ => omega
  | 5, _ => omega
  | 6, _ => omega
  | 7, _ => omega

theorem byte_val (N k : Nat) : ((((limbs N)[k / 8]?.getD 0 : Nat) : Int) / 2 ^ (8 * (k % 8)) % 256 : Int) = ((UInt8.ofNat (N / 256 ^ k % 256)).toNat : Int) := by
  have h := byte_at (limbs N) (limbs_limbs N) k
  rw [pval_limbs, List.getD_eq_getElem?_getD] at h
  rw [UInt8.toNat_ofNat_of_lt' (lt256 _), h, show (256 : Nat) = 2 ^ 8 from rfl, ← Nat.pow_mul]
  generalize (limbs N)[k / 8]?.getD 0 = x
  simp
theorem low_set (N m k : Nat) (h : k < m) : (List.replicate (m - k) 0 ++ lowB N k).set (m - 1 - k) (UInt8.ofNat (N / 256 ^ k % 256)) = List.replicate (m - (k + 1)) 0 ++ lowB N (k + 1) := by
  have e : List.replicate (m - k) (0 : UInt8) = List.replicate (m - (k + 1)) 0 ++ [0] := by
    rw [show m - k = (m - (k + 1)) + 1 from by omega, List.replicate_succ']
  rw [e, List.append_assoc, List.set_append_right _ _ (by simp; omega), List.length_replicate, show m - 1 - k - (m - (k + 1)) = 0 from by omega, List.singleton_append, List.set_cons_zero, lowB]

set_option maxRecDepth 100000 in
set_option maxHeartbeats 1000000 in
theorem signed_any (neg : Bool) (A : Option Addr) (n c : Nat) (N : Nat) (w : World) (hn : (limbs N).length = n) (hx : RdA w A (limbs N)) (nn : n ≤ 1099511627776) :
    Calls Tryd.prog 43 #[.bool neg, .slice A n c] w fun e w' => e = .returned (wv (if neg then -(N : Int) else N)) ∧ Below w.heap.size w w' := by
  have hmk := make_bytes (8 * n) (by omega)
  rw [show (((8 * n : Nat)) : Int) = 8 * (n : Int) from by omega] at hmk
  have Hn := Lib.hid hn
  clear hn
  go_enter Tryd.func43, Tryd.ntmps43
  go_wp2
  obtain ⟨w1, hw1⟩ : ∃ w1, w1 = w.alloc (.cells #[.bool false, .string ⟨#[]⟩] 27) := ⟨_, rfl⟩
  obtain ⟨g, hg⟩ : ∃ g, g = w.heap.size + 1 := ⟨_, rfl⟩
  have hsz : w1.heap.size = g := by rw [hw1, hg]; simp
  have hb1 : Below w.heap.size w w1 := by rw [hw1]; exact (Below.refl _ _).alloc (Nat.le_refl _) _
  have hres : w1.heap[w.heap.size]? = some (.cells #[.bool false, .string ⟨#[]⟩] 27 (0, 0)) := by rw [hw1]; exact heap_alloc_new w _
  have hY0 : Bts (w1.alloc (.cells (Y (List.replicate (8 * n) 0)) 5)) g (List.replicate (8 * n) 0) := by rw [← hsz]; exact Bts.new _ _
  have hB0 : Below g w1 (w1.alloc (.cells (Y (List.replicate (8 * n) 0)) 5)) := (Below.refl _ _).alloc (by omega) _
  rw [← hw1, ← hg]
  have Hg := Lib.hid hg
  have Hsz := Lib.hid hsz
  clear hg hmk hw1 hsz
  go_loopw [13] (fun i wr => ∃ k : Nat, k ≤ 8 * n ∧ i = .int .i64 k ∧ Bts wr g (List.replicate (8 * n - k) 0 ++ lowB N k) ∧ Below g w1 wr)
    (fun i _ => 8 * n - (intOf i).toNat)
  case atStart => exact ⟨0, Nat.zero_le _, rfl, by simpa [lowB] using hY0, hB0⟩
  case round =>
    obtain ⟨k, hk, rfl, hY, hB⟩ := hrel
    by_cases hlt : k < 8 * n
    · have hB' : Below w.heap.size w wr := hb1.trans (hB.mono (by have := Hg.out; omega))
      obtain ⟨a, rfl, hab, hac⟩ := (hx.below hB') (k / 8) (by rw [Hn.out]; omega)
      have hcell := hY.cell (k := 8 * n - 1 - k) (by simp [lowB_length]; omega)
      have hfr := hY.frozen (8 * n - 1 - k)
      have hY2 := hY.set (8 * n - 1 - k) (UInt8.ofNat (N / 256 ^ k % 256))
      have hB3 := fun u => hB.setCell (p := ⟨g, 8 * n - 1 - k, none⟩) (Nat.le_refl g) u
      rw [low_set N (8 * n) k hlt] at hY2
      have HY2 := Lib.hid hY2
      clear hY2 hY
      go_wp2
      go_roundw
      case rel => exact ⟨k + 1, by omega, by go_num, by rw [byte_val]; exact HY2.out, hB3 _⟩
      case measure => simp [intOf]; omega
    · obtain rfl : k = 8 * n := by omega
      rw [Nat.sub_self, List.replicate_zero, List.nil_append] at hY
      have hres2 : wr.heap[w.heap.size]? = some (.cells #[.bool false, .string ⟨#[]⟩] 27 (0, 0)) := (hB.block _ (by have := Hg.out; omega)).trans hres
      have hc0 : wr.cell? ⟨w.heap.size, 0, none⟩ = some (.bool false) := cell_of_row wr w.heap.size 0 _ _ _ hres2
      have hc1 : wr.cell? ⟨w.heap.size, 1, none⟩ = some (.string ⟨#[]⟩) := cell_of_row wr w.heap.size 1 _ _ _ hres2
      have hf0 : wr.frozen? ⟨w.heap.size, 0, none⟩ = false := by simp [World.frozen?, hres2]
      have hf1 : wr.frozen? ⟨w.heap.size, 1, none⟩ = false := by simp [World.frozen?, hres2]
      have hst := hY.str (8 * n)
      rw [lowB_length] at hst
      have hlt8 : N < 256 ^ (8 * n) := by
        have := pval_lt (limbs_limbs N)
        rwa [pval_limbs, Hn.out, B64_pow, ← Nat.pow_mul] at this
      have hbv : bval (lowB N (8 * n)) = N := by rw [bval_lowB, Nat.mod_eq_of_lt hlt8]
      have HRES' : Hid (Wd wr w.heap.size false ⟨#[]⟩) := Lib.hid hres2
      have hBw : Below w.heap.size w wr := hb1.trans (hB.mono (by have := Hg.out; omega))
      have HBV := Lib.hid hbv
      have hsig := Lib.hid (significant_any (bstr (lowB N (8 * n))) wr (by rw [bstr_size, lowB_length]; unfold maxLen; omega))
      clear hres2 hbv hlt8 hY hY0 hB0
      generalize lowB N (8 * n) = l at *
      have hdn : decide (-(N : Int) < 0) = decide (0 < n) := by
        have h1 := Hn.out
        have h2 := @limbs_eq_nil N
        by_cases h0 : N = 0
        · subst h0
          simp [limbs_zero] at h1
          subst h1
          rfl
        · have : (limbs N).length ≠ 0 := fun e => h0 (h2.1 (List.length_eq_zero_iff.1 e))
          have a1 : decide (-(N : Int) < 0) = true := by simp; omega
          have a2 : decide (0 < n) = true := by simp; omega
          rw [a1, a2]
      have hdf : decide ((N : Int) < 0) = false := by simp
      have HD := Lib.hid hdn
      have HF := Lib.hid hdf
      clear hdn hdf
      cases neg
      · go_wp2_with fail
        with_reducible refine hsig.out.mono ?_
        rintro e w' ⟨rfl, rfl⟩
        go_wp2
        refine post_wide (b := w.heap.size) rfl rfl ((HRES'.out.set0 false).set1 _) rfl ⟨?_, (hBw.setCell (Nat.le_refl _) _).setCell (Nat.le_refl _) _⟩
        rw [bstr_data, HBV.out]
        simp [wv]
      · go_wp2_with fail
        with_reducible refine hsig.out.mono ?_
        rintro e w' ⟨rfl, rfl⟩
        go_wp2
        refine post_wide (b := w.heap.size) rfl rfl ((HRES'.out.set0 _).set1 _) rfl ⟨?_, (hBw.setCell (Nat.le_refl _) _).setCell (Nat.le_refl _) _⟩
        rw [bstr_data, HBV.out]
        simp only [if_true, wv]
        rw [HD.out, Int.natAbs_neg, Int.natAbs_natCast]
end Go.Proofs.YtgadnianjhaeiaaDoor
