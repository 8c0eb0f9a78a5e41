/-
  The contract of wide.From, for every int.
-/
import Derived.Test.YtgadnianjhaeiaaDoorParts
namespace Go.Proofs.YtgadnianjhaeiaaDoor
open Go.RowKit

/-- The array variable at block b is just these bytes. -/
def Arr (w : World) (b : Nat) (l : List UInt8) : Prop := w.heap[b]? = some (.cells (Y l) 75 (0, 0))
section
variable {w w' : World} {g : Nat} {l : List UInt8}
theorem Arr.cell (h : Arr w g l) {k : Nat} (hk : k < l.length) : w.cell? ⟨g, k, none⟩ = some (.int .u8 ((l.getD k 0).toNat : Int)) :=
  (cell_of_row w g k (Y l) _ (0, 0) h).trans (Y_get l k hk)
theorem Arr.frozen (h : Arr w g l) (k : Nat) : w.frozen? ⟨g, k, none⟩ = false := by
  unfold Arr at h
  simp [World.frozen?, h]
theorem Arr.set (h : Arr w g l) (k : Nat) (x : UInt8) : Arr (w.setCell ⟨g, k, none⟩ (.int .u8 (x.toNat : Int))) g (l.set k x) := by
  unfold Arr at h ⊢
  rw [← Y_set]
  simp [World.setCell, Array.getElem?_modify, h]
theorem Arr.strFrom (h : Arr w g l) (lo : Nat) (hlo : lo ≤ l.length) (n c : Nat) (hn : l.length - lo = n) : (convert 22 9 (.slice (some ⟨g, lo, none⟩) n c)).run Tryd.prog w = .ok (.string (bstr (l.drop lo))) w := by
  have hr := run_convert_bytes_arg (P := Tryd.prog) w 22 5 Tryd.underlying22 Tryd.underlying5 g lo n c ((l.drop lo).map fun b => (b.toNat : Int)) (by simp; omega)
    (fun i hi => by
      rw [h.cell (by omega)]
      simp [List.getD_eq_getElem?_getD]
      rw [List.getElem?_eq_getElem (by omega)]; simp) 9 Tryd.underlying9
  have e : strOfNums ((l.drop lo).map fun b => (b.toNat : Int)) = bstr (l.drop lo) := by
    rw [← bstr_toList (strOfNums _), strOfNums_data, List.map_map]
    have : (l.drop lo).map ((fun n => UInt8.ofNat (Int.toNat n)) ∘ fun b => (b.toNat : Int)) = (l.drop lo).map id := List.map_congr_left fun b _ => by simp
    rw [this, List.map_id]
  rw [hr, e]
end
theorem lowB_drop (N m q : Nat) (h : q ≤ m) : (lowB N m).drop (m - q) = lowB N q := by
  induction m with
  | zero => obtain rfl : q = 0 := by omega
            rfl
  | succ m ih =>
    by_cases hq : q = m + 1
    · subst hq; simp
    · rw [show m + 1 - q = (m - q) + 1 from by omega, lowB, List.drop_succ_cons]; exact ih (by omega)
theorem lowB_canon (N q : Nat) (h1 : N < 256 ^ q) (h2 : 0 < q → 256 ^ (q - 1) ≤ N) : lowB N q = canon N := by
  have hv : bval (lowB N q) = N := by rw [bval_lowB, Nat.mod_eq_of_lt h1]
  have hs := sig_canon (lowB N q)
  rw [hv] at hs
  rw [← hs]
  cases q with
  | zero => rfl
  | succ q =>
    have h3 := h2 (by omega)
    rw [Nat.add_sub_cancel] at h3
    have hp : 0 < 256 ^ q := Nat.pow_pos (by omega)
    have h4 : 0 < N / 256 ^ q := Nat.div_pos h3 hp
    have h5 : N / 256 ^ q < 256 := by rw [Nat.div_lt_iff_lt_mul hp, Nat.mul_comm, ← Nat.pow_succ]; exact h1
    rw [lowB, sig_cons, if_neg]
    intro e
    have e2 := congrArg UInt8.toNat e
    rw [UInt8.toNat_ofNat_of_lt' (lt256 _)] at e2
    rw [Nat.mod_eq_of_lt h5] at e2
    simp at e2
    omega
theorem bitLen_bounds (f x : Nat) (h : x < 2 ^ f) : x < 2 ^ Lib.bitLenAux f x ∧ (0 < x → 2 ^ (Lib.bitLenAux f x - 1) ≤ x) ∧ Lib.bitLenAux f x ≤ f := by
  induction f generalizing x with
  | zero => simp at h; subst h; simp [Lib.bitLenAux]
  | succ f ih =>
    simp only [Lib.bitLenAux]
    by_cases h0 : x = 0
    · subst h0; simp
    · rw [if_neg h0]
      obtain ⟨a, b, c⟩ := ih (x / 2) (by rw [Nat.pow_succ] at h; omega)
      refine ⟨by rw [Nat.add_comm, Nat.pow_succ]; omega, fun _ => ?_, by omega⟩
      rw [Nat.add_sub_cancel_left]
      by_cases h1 : x / 2 = 0
      · have : x = 1 := by omega
        subst this
        cases f <;> simp [Lib.bitLenAux]
      · have hb := b (by omega)
        generalize hL : Lib.bitLenAux f (x / 2) = L at *
        cases L with
        | zero => simp at a; omega
        | succ L =>
          rw [Nat.add_sub_cancel] at hb
          rw [Nat.pow_succ]; omega
theorem drop_lead (N : Nat) (h : N < 18446744073709551616) : (lowB N 8).drop ((64 - Lib.bitLen N) / 8) = canon N := by
  by_cases h00 : N = 0
  · subst h00; rfl
  obtain ⟨a, b, c⟩ := bitLen_bounds 64 N (by omega)
  change N < 2 ^ Lib.bitLen N at a
  change 0 < N → 2 ^ (Lib.bitLen N - 1) ≤ N at b
  change Lib.bitLen N ≤ 64 at c
  generalize Lib.bitLen N = L at *
  have e : (64 - L) / 8 = 8 - (L + 7) / 8 := by omega
  rw [e, lowB_drop N 8 ((L + 7) / 8) (by omega)]
  refine lowB_canon N _ ?_ ?_
  · rw [show (256 : Nat) = 2 ^ 8 from rfl, ← Nat.pow_mul]
    exact Nat.lt_of_lt_of_le a (Nat.pow_le_pow_right (by omega) (by omega))
  · intro h0
    rw [show (256 : Nat) = 2 ^ 8 from rfl, ← Nat.pow_mul]
    exact Nat.le_trans (Nat.pow_le_pow_right (by omega) (by omega)) (b (Nat.pos_of_ne_zero h00))
theorem byte_val2 (N k : Nat) : ((N : Int) / 2 ^ (8 * k) % 256 : Int) = ((UInt8.ofNat (N / 256 ^ k % 256)).toNat : Int) := by
  rw [UInt8.toNat_ofNat_of_lt' (lt256 _), show (256 : Nat) = 2 ^ 8 from rfl, ← Nat.pow_mul]
  simp

theorem slice_arr (g lo : Nat) (h : lo ≤ 8) (w : World) :
    (Instr.sliceAt 75 (.pointer (some ⟨g, 0, none⟩)) (some (.int .i64 (lo : Int))) none none).run Tryd.prog w = .ok (.slice (some (if 8 = lo then ⟨g, 0, none⟩ else ⟨g, lo, none⟩)) (8 - lo) (8 - lo)) w := by
  have hl : Tryd.prog.arrayLen 75 = 8 := by kernel_rfl
  have he : Tryd.prog.elem 75 = 5 := by kernel_rfl
  have h := run_sliceAt_array_l (P := Tryd.prog) (w := w) 75 ⟨g, 0, none⟩ (by kernel_rfl) .i64 (lo : Int) (by omega) (by rw [hl]; omega)
  rw [h, he, Tryd.sizeOf5]
  simp [Result.andThen, hl, go_sem]

theorem conv_empty (g lo : Nat) (w : World) : (convert 22 9 (.slice (some ⟨g, lo, none⟩) 0 0)).run Tryd.prog w = .ok (.string (bstr [])) w := by
  have hr := run_convert_bytes_arg (P := Tryd.prog) w 22 5 Tryd.underlying22 Tryd.underlying5 g lo 0 0 [] rfl (fun i hi => absurd hi (by omega)) 9 Tryd.underlying9
  exact hr
theorem arr_key (g L N : Nat) (wr : World) (hY : Arr wr g (lowB N 8)) (hL : L ≤ 64) (hd : (lowB N 8).drop ((64 - L) / 8) = canon N) :
    ∃ ad n, (∀ W, (Instr.sliceAt 75 (.pointer (some ⟨g, 0, none⟩)) (some (.int .i64 ((64 - (L : Int)) / 8))) none none).run Tryd.prog W = .ok (.slice (some ad) n n) W) ∧
      (convert 22 9 (.slice (some ad) n n)).run Tryd.prog wr = .ok (.string (bstr (canon N))) wr := by
  have e : (64 - (L : Int)) / 8 = (((64 - L) / 8 : Nat) : Int) := by omega
  rw [e]
  by_cases h8 : 8 = (64 - L) / 8
  · refine ⟨⟨g, 0, none⟩, 0, fun W => ?_, ?_⟩
    · rw [slice_arr g _ (by omega) W, if_pos h8, show 8 - (64 - L) / 8 = 0 from by omega]
    · rw [conv_empty, ← hd, ← h8]
      rw [List.drop_of_length_le (by rw [lowB_length]; omega)]
  · refine ⟨⟨g, (64 - L) / 8, none⟩, 8 - (64 - L) / 8, fun W => ?_, ?_⟩
    · rw [slice_arr g _ (by omega) W, if_neg h8]
    · have hst := hY.strFrom ((64 - L) / 8) (by rw [lowB_length]; omega) (8 - (64 - L) / 8) (8 - (64 - L) / 8) (by rw [lowB_length])
      rw [hd] at hst
      exact hst

set_option maxRecDepth 100000 in
set_option maxHeartbeats 1000000 in
theorem From_any (n : Int) (w : World) (h1 : -9223372036854775808 ≤ n) (h2 : n ≤ 9223372036854775807) :
    Calls Tryd.prog 32 #[.int .i64 n] w fun e w' => e = .returned (wv n) ∧ Below w.heap.size w w' := by
  obtain ⟨N, hN⟩ : ∃ N, N = n.natAbs := ⟨_, rfl⟩
  have hNb : N ≤ 9223372036854775808 := by omega
  have hwv : wv n = .agg #[.bool (decide (n < 0)), .string (bstr (canon N))] := by rw [hN]; rfl
  have hu : n < 0 → IntKind.u64.wrap (-IntKind.u64.wrap n) = (N : Int) := fun h => by rw [IntKind.wrap_u64, IntKind.wrap_u64]; omega
  have hp : ¬ n < 0 → n = (N : Int) := fun h => by omega
  have HW := Lib.hid hwv
  have HU := Lib.hid hu
  have HP := Lib.hid hp
  clear hN hwv hu hp
  have hdl := drop_lead N (by omega)
  have hlz := Tryd.bits_LeadingZeros64 (N : Int) 
  rw [Int.toNat_natCast] at hlz
  have hbl : Lib.bitLen N ≤ 64 := (bitLen_bounds 64 N (by omega)).2.2
  have HLZ := Lib.hid hlz
  have HDL := Lib.hid hdl
  clear hlz hdl
  obtain ⟨L, hL⟩ : ∃ L, L = Lib.bitLen N := ⟨_, rfl⟩
  rw [← hL] at HLZ HDL hbl
  have HL := Lib.hid hL
  clear hL
  by_cases h0 : n < 0
  all_goals go_enter Tryd.func32, Tryd.ntmps32
  all_goals go_wp2
  all_goals first | rw [HU.out h0] | rw [HP.out h0]
  all_goals
    obtain ⟨w1, hw1⟩ : ∃ w1, w1 = w.alloc (.cells #[.bool false, .string ⟨#[]⟩] 27) := ⟨_, rfl⟩
    obtain ⟨g, hg⟩ : ∃ g, g = w.heap.size + 1 := ⟨_, rfl⟩
    have hsz : w1.heap.size = g := by rw [hw1, hg]; simp
    have hb1 : Below w.heap.size w w1 := by rw [hw1]; exact (Below.refl _ _).alloc (Nat.le_refl _) _
    have hres : Wd w1 w.heap.size false ⟨#[]⟩ := by rw [hw1]; exact Wd.new _ _ _
    have hY0 : Arr (w1.alloc (.cells #[.int .u8 0, .int .u8 0, .int .u8 0, .int .u8 0, .int .u8 0, .int .u8 0, .int .u8 0, .int .u8 0] 75)) g (List.replicate 8 0) := by rw [← hsz]; exact heap_alloc_new w1 _
    have hB0 : Below g w1 (w1.alloc (.cells #[.int .u8 0, .int .u8 0, .int .u8 0, .int .u8 0, .int .u8 0, .int .u8 0, .int .u8 0, .int .u8 0] 75)) := (Below.refl _ _).alloc (by omega) _
    rw [← hw1, ← hg]
    have Hg := Lib.hid hg
    have Hsz := Lib.hid hsz
    clear hg hw1 hsz
    go_loopw [12] (fun i wr => ∃ k : Nat, k ≤ 8 ∧ i = .int .i64 k ∧ Arr wr g (List.replicate (8 - k) 0 ++ lowB N k) ∧ Below g w1 wr)
      (fun i _ => 8 - (intOf i).toNat)
    case atStart => exact ⟨0, Nat.zero_le _, rfl, by simpa [lowB] using hY0, hB0⟩
    case round =>
      obtain ⟨k, hk, rfl, hY, hB⟩ := hrel
      by_cases hlt : k < 8
      · have hcell := hY.cell (k := 7 - k) (by simp [lowB_length]; omega)
        have hfr := hY.frozen (7 - k)
        have hY2 := hY.set (8 - 1 - k) (UInt8.ofNat (N / 256 ^ k % 256))
        rw [low_set N 8 k hlt, show 8 - 1 - k = 7 - k from by omega] at hY2
        have HY2 := Lib.hid hY2
        have hB3 := fun u => hB.setCell (p := ⟨g, 7 - k, none⟩) (Nat.le_refl g) u
        clear hY2 hY
        go_wp2
        go_roundw
        case rel => exact ⟨k + 1, by omega, by go_num, by rw [byte_val2]; exact HY2.out, hB3 _⟩
        case measure => simp [intOf]; omega
      · obtain rfl : k = 8 := by omega
        rw [Nat.sub_self, List.replicate_zero, List.nil_append] at hY
        have hres2 := hres.below hB (by have := Hg.out; omega)
        have hc0 := hres2.cell0
        have hc1 := hres2.cell1
        have hf0 := hres2.frozen 0
        have hf1 := hres2.frozen 1
        have HRES := Lib.hid hres2
        obtain ⟨ad, nn, hsa, hcv⟩ := arr_key g L N wr hY hbl HDL.out
        have hBw : Below w.heap.size w wr := hb1.trans (hB.mono (by have := Hg.out; omega))
        clear hres2 hY hY0 hB0
        go_wp2_with fail
        with_reducible refine (HLZ.out wr (by omega) (by omega)).mono ?_
        rintro e w' ⟨rfl, hw⟩
        rw [hw]
        clear hw
        go_wp2
        refine post_wide (b := w.heap.size) rfl rfl ((HRES.out.set0 _).set1 _) rfl ⟨?_, (hBw.setCell (Nat.le_refl _) _).setCell (Nat.le_refl _) _⟩
        rw [HW.out]
        first | (rw [HP.out h0]) | (have hd : decide (n < 0) = true := (by simpa using h0); rw [hd])
end Go.Proofs.YtgadnianjhaeiaaDoor
