import Derived.Test.YtknaghdoffigjaaGreatDoorZDiff
import Derived.Lib.Bytealg
import Derived.Deep.RegionHeld3
set_option linter.unusedSimpArgs false
set_option linter.unusedVariables false
set_option linter.unnecessarySimpa false
namespace Go.Proofs.YtknaghdoffigjaaGreatDoor
open Go.RowKit
def digs (N : Nat) : Nat → List Nat
 | 0 => []
 | i + 1 => digs N i ++ [N / B64 ^ i % B64]
theorem digs_length (N i : Nat) : (digs N i).length = i := by
 induction i with
 | zero => rfl
 | succ i ih => simp [digs, ih]
theorem digs_limbs (N i : Nat) : Limbs (digs N i) := by
 induction i with
 | zero => exact Limbs.nil
 | succ i ih => exact ih.snoc (Nat.mod_lt _ B64_pos)
theorem pval_digs (N i : Nat) : pval (digs N i) = N % B64 ^ i := by
 induction i with
 | zero => simp [digs, pval, Nat.mod_one]
 | succ i ih => rw [digs, pval_snoc, ih, digs_length, Nat.pow_succ, Nat.mod_mul]
theorem digs_eq_limbs (N n : Nat) (h1 : N < B64 ^ n) (h2 : 0 < n → B64 ^ (n - 1) ≤ N) : digs N n = limbs N := by
 have h := ptrim_limbs (digs_limbs N n)
 rw [pval_digs, Nat.mod_eq_of_lt h1] at h
 rw [← h]
 cases n with
 | zero => rfl
 | succ n =>
  have h3 := h2 (by omega)
  rw [Nat.add_sub_cancel] at h3
  rw [digs, ptrim_snoc, if_neg]
  have hpos : 0 < B64 ^ n := Nat.pow_pos B64_pos
  have h4 : 0 < N / B64 ^ n := Nat.div_pos h3 hpos
  have h5 : N / B64 ^ n < B64 := by rw [Nat.div_lt_iff_lt_mul hpos, Nat.mul_comm, ← Nat.pow_succ]; exact h1
  rw [Nat.mod_eq_of_lt h5]; omega
theorem canon_low (N : Nat) (h : 0 < (canon N).length) : 256 ^ ((canon N).length - 1) ≤ N := by
 refine Nat.le_of_not_lt fun hlt => ?_
 have := canon_length_le hlt
 omega
theorem bval_mid (l : List UInt8) (b e : Nat) (hb : b ≤ e) (he : e ≤ l.length) : bval ((l.drop b).take (e - b)) = bval l / 256 ^ (l.length - e) % 256 ^ (e - b) := by
 have h1 : l = l.take b ++ ((l.drop b).take (e - b) ++ l.drop e) := by
  have h2 : l.drop e = (l.drop b).drop (e - b) := by rw [List.drop_drop]; congr 1; omega
  rw [h2, List.take_append_drop, List.take_append_drop]
 have hm : ((l.drop b).take (e - b)).length = e - b := by rw [List.length_take, List.length_drop]; omega
 have hlt := bval_lt ((l.drop b).take (e - b))
 have hl3 := bval_lt (l.drop e)
 rw [hm] at hlt
 rw [List.length_drop] at hl3
 have hv : bval l = bval (l.take b) * 256 ^ (l.length - b) + (bval ((l.drop b).take (e - b)) * 256 ^ (l.length - e) + bval (l.drop e)) := by
  conv => lhs; rw [h1]
  rw [bval_append, bval_append, List.length_append, hm, List.length_drop, show e - b + (l.length - e) = l.length - b from by omega]
 generalize bval ((l.drop b).take (e - b)) = M at *
 have hp : 0 < 256 ^ (l.length - e) := Nat.pow_pos (by omega)
 have e2 : 256 ^ (l.length - b) = 256 ^ (l.length - e) * 256 ^ (e - b) := by rw [← Nat.pow_add]; congr 1; omega
 rw [hv, e2]
 have e3 : bval (l.take b) * (256 ^ (l.length - e) * 256 ^ (e - b)) + (M * 256 ^ (l.length - e) + bval (l.drop e)) = 256 ^ (l.length - e) * (256 ^ (e - b) * bval (l.take b) + M) + bval (l.drop e) := by
  rw [Nat.mul_add, Nat.mul_comm (bval (l.take b)), Nat.mul_assoc, Nat.mul_comm M, Nat.add_assoc]
 rw [e3, Nat.mul_add_div hp, Nat.div_eq_of_lt hl3, Nat.add_zero, Nat.mul_add_mod, Nat.mod_eq_of_lt hlt]
theorem part_value (N i : Nat) (h : 8 * i < (canon N).length) :
  bval (((canon N).drop ((canon N).length - 8 * i - 8)).take (((canon N).length - 8 * i) - ((canon N).length - 8 * i - 8))) = N / B64 ^ i % B64 := by
 have hm := bval_mid (canon N) ((canon N).length - 8 * i - 8) ((canon N).length - 8 * i) (by omega) (by omega)
 rw [bval_canon] at hm
 rw [hm, show (canon N).length - ((canon N).length - 8 * i) = 8 * i from by omega, B64_pow, ← Nat.pow_mul]
 have hN := bval_lt (canon N)
 rw [bval_canon] at hN
 by_cases h8 : 8 ≤ (canon N).length - 8 * i
 ·rw [show (canon N).length - 8 * i - ((canon N).length - 8 * i - 8) = 8 from by omega]
 ·rw [show (canon N).length - 8 * i - ((canon N).length - 8 * i - 8) = (canon N).length - 8 * i from by omega]
  have hlt : N / 256 ^ (8 * i) < 256 ^ ((canon N).length - 8 * i) := by
   rw [Nat.div_lt_iff_lt_mul (Nat.pow_pos (by omega)), ← Nat.pow_add, show (canon N).length - 8 * i + 8 * i = (canon N).length from by omega]
   exact hN
  have hle : 256 ^ ((canon N).length - 8 * i) ≤ 256 ^ 8 := Nat.pow_le_pow_right (by omega) (by omega)
  rw [Nat.mod_eq_of_lt hlt, Nat.mod_eq_of_lt (by omega)]
set_option maxRecDepth 100000 in
set_option maxHeartbeats 1000000 in
theorem partsOf_any (s : ByteArray) (w : World) (hs : s.size ≤ 8796093022208) :
  Calls Tryz.prog 98 #[.string s] w fun e w' => RetO w w' e (limbs (bval s.data.toList)) := by
 have hsig := significant_any s w (by unfold maxLen; omega)
 have hm : (canon (bval s.data.toList)).length ≤ 8796093022208 := by
  rw [← sig_canon]
  have := sig_length_le s.data.toList
  have e := Lib.size_eq s
  omega
 have hb1 := bval_lt (canon (bval s.data.toList))
 have hb2 := canon_low (bval s.data.toList)
 have hpv := part_value (bval s.data.toList)
 rw [bval_canon] at hb1
 generalize bval s.data.toList = N at *
 obtain ⟨m, hmm⟩ : ∃ m, m = (canon N).length := ⟨_, rfl⟩
 have hdg : digs N ((m + 7) / 8) = limbs N := by
  refine digs_eq_limbs N _ ?_ ?_
  ·rw [B64_pow, ← Nat.pow_mul]
   refine Nat.lt_of_lt_of_le hb1 (Nat.pow_le_pow_right (by omega) (by omega))
  ·intro h0
   rw [B64_pow, ← Nat.pow_mul]
   exact Nat.le_trans (Nat.pow_le_pow_right (by omega) (by omega)) (hb2 (by omega))
 rw [← hmm] at hpv hm
 obtain ⟨n, hn⟩ : ∃ n, n = (m + 7) / 8 := ⟨_, rfl⟩
 have hmk := make_parts n (by omega)
 rw [show ((n : Nat) : Int) = ((m : Int) + 8 - 1) / 8 from by omega] at hmk
 have hn1 : 8 * n ≤ m + 7 := by omega
 have hn2 : m ≤ 8 * n := by omega
 rw [← hn] at hdg
 have Hn := Lib.hid hn
 clear hn
 have hst : (bstr (canon N)).size = m := by rw [bstr_size, hmm]
 have Hsig := Lib.hid hsig
 have HPV := Lib.hid hpv
 have Hdg := Lib.hid hdg
 clear hsig hpv hdg hmm hb1 hb2
 generalize hS : bstr (canon N) = S at *
 have HS := Lib.hid hS
 clear hS
 have Hst := Lib.hid hst
 obtain ⟨S'⟩ : True := trivial
 go_enter Tryz.func98, Tryz.ntmps98
 go_wp2_with fail
 with_reducible refine Hsig.out.mono ?_
 rintro e w' ⟨rfl, rfl⟩
 go_wp2
 obtain ⟨g, hg⟩ : ∃ g, g = w.heap.size := ⟨_, rfl⟩
 have hL0 : Lst (w.alloc (.cells (U (List.replicate n 0)) 80)) g (List.replicate n 0) := by rw [hg]; exact Lst.new _ _
 have hB0 : Below g w (w.alloc (.cells (U (List.replicate n 0)) 80)) := (Below.refl _ _).alloc (by omega) _
 rw [← hg]
 have Hg := Lib.hid hg
 clear hg hmk
 go_loopw [16] (fun i wr => ∃ k : Nat, k ≤ n ∧ i = .int .i64 k ∧ Lst wr g (digs N k ++ List.replicate (n - k) 0) ∧ Below g w wr)
  (fun i _ => n - (intOf i).toNat)
 case atStart => exact ⟨0, Nat.zero_le _, rfl, hL0, hB0⟩
 case round =>
  obtain ⟨k, hk, rfl, hL, hB⟩ := hrel
  by_cases hlt : k < n
  ·have h8 : 8 * k < m := by omega
   have hcell := hL.cell (k := k) (by simp [digs_length]; omega)
   have hfr := hL.frozen k
   have hlow : (max ((m : Int) - 8 * k - 8) 0).toNat = m - 8 * k - 8 := by omega
   have hbs : bval (S.extract (max ((m : Int) - 8 * k - 8) 0).toNat (m - 8 * k)).data.toList = N / B64 ^ k % B64 := by
    rw [hlow, Lib.extract_data, ← HS.out, bstr_data]
    exact HPV.out k h8
   have hpo := partOf_any (S.extract (max ((m : Int) - 8 * k - 8) 0).toNat (m - 8 * k)) wr (by
    rw [Lib.size_eq, Lib.extract_data, hlow, List.length_take]; omega)
   rw [hbs] at hpo
   have HPO := Lib.hid hpo
   have hL2 := hL.set k (N / B64 ^ k % B64)
   have hset := set_mid (digs N k) (n - (k + 1)) (N / B64 ^ k % B64)
   rw [digs_length, show n - (k + 1) + 1 = n - k from by omega] at hset
   rw [hset] at hL2
   have HL2 : Hid (Lst (wr.setCell ⟨g, k, none⟩ (.int .u64 ((N / B64 ^ k % B64 : Nat) : Int))) g (digs N (k + 1) ++ List.replicate (n - (k + 1)) 0)) := Lib.hid hL2
   have hB' := hB.setCell (p := ⟨g, k, none⟩) (Nat.le_refl g) (.int .u64 ((N / B64 ^ k % B64 : Nat) : Int))
   clear hlow hbs hpo hset hL2 hL
   generalize N / B64 ^ k % B64 = z at *
   go_wp2_with fail
   with_reducible refine HPO.out.mono ?_
   rintro e w' ⟨rfl, rfl⟩
   go_wp2
   go_roundw
   case rel => exact ⟨k + 1, by omega, by go_num, HL2.out, hB'⟩
   case measure => simp [intOf]; omega
  ·obtain rfl : k = n := by omega
   rw [Nat.sub_self, List.replicate_zero, List.append_nil, Hdg.out] at hL
   have hlen := digs_length N k
   rw [Hdg.out] at hlen
   have Hlen := Lib.hid hlen
   clear hlen
   go_wp2
   go_ret
   exact ⟨g, [], by rw [List.append_nil, Hlen.out]; rfl, by rw [List.append_nil, Hlen.out]; unfold maxLen; omega, by have := Hg.out; omega, by rw [List.append_nil]; exact hL, Hg.out ▸ hB⟩
end Go.Proofs.YtknaghdoffigjaaGreatDoor
namespace Go.Proofs.YtknaghdoffigjaaGreatDoor
open Go.RowKit
def Arr (w : World) (b : Nat) (l : List UInt8) : Prop := w.heap[b]? = some (.cells (Y l) 113 (0, 0))
section
variable {w w' : World} {g : Nat} {l : List UInt8}
theorem Arr.cell (h : Arr w g l) {k : Nat} (hk : k < l.length) : w.cell? ⟨g, k, none⟩ = some (.int .u8 ((l.getD k 0).toNat : Int)) :=
 (cell_of_row w g k (Y l) _ (0, 0) h).trans (Y_get l k hk)
theorem Arr.frozen (h : Arr w g l) (k : Nat) : w.frozen? ⟨g, k, none⟩ = false := by
 unfold Arr at h
 simp [World.frozen?, h]
theorem Arr.set (h : Arr w g l) (k : Nat) (x : UInt8) : Arr (w.setCell ⟨g, k, none⟩ (.int .u8 (x.toNat : Int))) g (l.set k x) := by
 unfold Arr at h ⊢
 rw [← Y_set]
 simp [World.setCell, Array.getElem?_modify, h]
theorem Arr.strFrom (h : Arr w g l) (lo : Nat) (hlo : lo ≤ l.length) (n c : Nat) (hn : l.length - lo = n) : (convert 114 9 (.slice (some ⟨g, lo, none⟩) n c)).run Tryz.prog w = .ok (.string (bstr (l.drop lo))) w := by
 have hr := run_convert_bytes_arg (P := Tryz.prog) w 114 5 Tryz.underlying114 Tryz.underlying5 g lo n c ((l.drop lo).map fun b => (b.toNat : Int)) (by simp; omega)
  (fun i hi => by
   rw [h.cell (by omega)]
   simp [List.getD_eq_getElem?_getD]
   rw [List.getElem?_eq_getElem (by omega)]; simp) 9 Tryz.underlying9
 have e : strOfNums ((l.drop lo).map fun b => (b.toNat : Int)) = bstr (l.drop lo) := by
  rw [← bstr_toList (strOfNums _), strOfNums_data, List.map_map]
  have : (l.drop lo).map ((fun n => UInt8.ofNat (Int.toNat n)) ∘ fun b => (b.toNat : Int)) = (l.drop lo).map id := List.map_congr_left fun b _ => by simp
  rw [this, List.map_id]
 rw [hr, e]
end
theorem lowB_drop (N m q : Nat) (h : q ≤ m) : (lowB N m).drop (m - q) = lowB N q := by
 induction m with
 | zero =>
      obtain rfl : q = 0 := by omega
      rfl
 | succ m ih =>
  by_cases hq : q = m + 1
  ·subst hq; simp
  ·rw [show m + 1 - q = (m - q) + 1 from by omega, lowB, List.drop_succ_cons]; exact ih (by omega)
theorem lowB_canon (N q : Nat) (h1 : N < 256 ^ q) (h2 : 0 < q → 256 ^ (q - 1) ≤ N) : lowB N q = canon N := by
 have hv : bval (lowB N q) = N := by rw [bval_lowB, Nat.mod_eq_of_lt h1]
 have hs := sig_canon (lowB N q)
 rw [hv] at hs
 rw [← hs]
 cases q with
 | zero => rfl
 | succ q =>
  have h3 := h2 (by omega)
  rw [Nat.add_sub_cancel] at h3
  have hp : 0 < 256 ^ q := Nat.pow_pos (by omega)
  have h4 : 0 < N / 256 ^ q := Nat.div_pos h3 hp
  have h5 : N / 256 ^ q < 256 := by rw [Nat.div_lt_iff_lt_mul hp, Nat.mul_comm, ← Nat.pow_succ]; exact h1
  rw [lowB, sig_cons, if_neg]
  intro e
  have e2 := congrArg UInt8.toNat e
  rw [UInt8.toNat_ofNat_of_lt' (lt256 _)] at e2
  rw [Nat.mod_eq_of_lt h5] at e2
  simp at e2
  omega
theorem bitLen_bounds (f x : Nat) (h : x < 2 ^ f) : x < 2 ^ Lib.bitLenAux f x ∧ (0 < x → 2 ^ (Lib.bitLenAux f x - 1) ≤ x) ∧ Lib.bitLenAux f x ≤ f := by
 induction f generalizing x with
 | zero => simp at h; subst h; simp [Lib.bitLenAux]
 | succ f ih =>
  simp only [Lib.bitLenAux]
  by_cases h0 : x = 0
  ·subst h0; simp
  ·rw [if_neg h0]
   obtain ⟨a, b, c⟩ := ih (x / 2) (by rw [Nat.pow_succ] at h; omega)
   refine ⟨by rw [Nat.add_comm, Nat.pow_succ]; omega, fun _ => ?_, by omega⟩
   rw [Nat.add_sub_cancel_left]
   by_cases h1 : x / 2 = 0
   ·have : x = 1 := by omega
    subst this
    cases f <;> simp [Lib.bitLenAux]
   ·have hb := b (by omega)
    generalize hL : Lib.bitLenAux f (x / 2) = L at *
    cases L with
    | zero => simp at a; omega
    | succ L =>
     rw [Nat.add_sub_cancel] at hb
     rw [Nat.pow_succ]; omega
theorem drop_lead (N : Nat) (h : N < 18446744073709551616) : (lowB N 8).drop ((64 - Lib.bitLen N) / 8) = canon N := by
 by_cases h00 : N = 0
 ·subst h00; rfl
 obtain ⟨a, b, c⟩ := bitLen_bounds 64 N (by omega)
 change N < 2 ^ Lib.bitLen N at a
 change 0 < N → 2 ^ (Lib.bitLen N - 1) ≤ N at b
 change Lib.bitLen N ≤ 64 at c
 generalize Lib.bitLen N = L at *
 have e : (64 - L) / 8 = 8 - (L + 7) / 8 := by omega
 rw [e, lowB_drop N 8 ((L + 7) / 8) (by omega)]
 refine lowB_canon N _ ?_ ?_
 ·rw [show (256 : Nat) = 2 ^ 8 from rfl, ← Nat.pow_mul]
  exact Nat.lt_of_lt_of_le a (Nat.pow_le_pow_right (by omega) (by omega))
 ·intro h0
  rw [show (256 : Nat) = 2 ^ 8 from rfl, ← Nat.pow_mul]
  exact Nat.le_trans (Nat.pow_le_pow_right (by omega) (by omega)) (b (Nat.pos_of_ne_zero h00))
theorem byte_val2 (N k : Nat) : ((N : Int) / 2 ^ (8 * k) % 256 : Int) = ((UInt8.ofNat (N / 256 ^ k % 256)).toNat : Int) := by
 rw [UInt8.toNat_ofNat_of_lt' (lt256 _), show (256 : Nat) = 2 ^ 8 from rfl, ← Nat.pow_mul]
 simp
theorem slice_arr (g lo : Nat) (h : lo ≤ 8) (w : World) :
  (Instr.sliceAt 113 (.pointer (some ⟨g, 0, none⟩)) (some (.int .i64 (lo : Int))) none none).run Tryz.prog w = .ok (.slice (some (if 8 = lo then ⟨g, 0, none⟩ else ⟨g, lo, none⟩)) (8 - lo) (8 - lo)) w := by
 have hl : Tryz.prog.arrayLen 113 = 8 := by kernel_rfl
 have he : Tryz.prog.elem 113 = 5 := by kernel_rfl
 have h := run_sliceAt_array_l (P := Tryz.prog) (w := w) 113 ⟨g, 0, none⟩ (by kernel_rfl) .i64 (lo : Int) (by omega) (by rw [hl]; omega)
 rw [h, he, Tryz.sizeOf5]
 simp [Result.andThen, hl, go_sem]
theorem conv_empty (g lo : Nat) (w : World) : (convert 114 9 (.slice (some ⟨g, lo, none⟩) 0 0)).run Tryz.prog w = .ok (.string (bstr [])) w := by
 have hr := run_convert_bytes_arg (P := Tryz.prog) w 114 5 Tryz.underlying114 Tryz.underlying5 g lo 0 0 [] rfl (fun i hi => absurd hi (by omega)) 9 Tryz.underlying9
 exact hr
theorem arr_key (g L N : Nat) (wr : World) (hY : Arr wr g (lowB N 8)) (hL : L ≤ 64) (hd : (lowB N 8).drop ((64 - L) / 8) = canon N) :
  ∃ ad n, (∀ W, (Instr.sliceAt 113 (.pointer (some ⟨g, 0, none⟩)) (some (.int .i64 ((64 - (L : Int)) / 8))) none none).run Tryz.prog W = .ok (.slice (some ad) n n) W) ∧
   (convert 114 9 (.slice (some ad) n n)).run Tryz.prog wr = .ok (.string (bstr (canon N))) wr := by
 have e : (64 - (L : Int)) / 8 = (((64 - L) / 8 : Nat) : Int) := by omega
 rw [e]
 by_cases h8 : 8 = (64 - L) / 8
 ·refine ⟨⟨g, 0, none⟩, 0, fun W => ?_, ?_⟩
  ·rw [slice_arr g _ (by omega) W, if_pos h8, show 8 - (64 - L) / 8 = 0 from by omega]
  ·rw [conv_empty, ← hd, ← h8]
   rw [List.drop_of_length_le (by rw [lowB_length]; omega)]
 ·refine ⟨⟨g, (64 - L) / 8, none⟩, 8 - (64 - L) / 8, fun W => ?_, ?_⟩
  ·rw [slice_arr g _ (by omega) W, if_neg h8]
  ·have hst := hY.strFrom ((64 - L) / 8) (by rw [lowB_length]; omega) (8 - (64 - L) / 8) (8 - (64 - L) / 8) (by rw [lowB_length])
   rw [hd] at hst
   exact hst
set_option maxRecDepth 100000 in
set_option maxHeartbeats 1000000 in
theorem From_any (n : Int) (w : World) (h1 : -9223372036854775808 ≤ n) (h2 : n ≤ 9223372036854775807) :
  Calls Tryz.prog 53 #[.int .i64 n] w fun e w' => e = .returned (wv n) ∧ Below w.heap.size w w' := by
 obtain ⟨N, hN⟩ : ∃ N, N = n.natAbs := ⟨_, rfl⟩
 have hNb : N ≤ 9223372036854775808 := by omega
 have hwv : wv n = .agg #[.bool (decide (n < 0)), .string (bstr (canon N))] := by rw [hN]; rfl
 have hu : n < 0 → IntKind.u64.wrap (-IntKind.u64.wrap n) = (N : Int) := fun h => by rw [IntKind.wrap_u64, IntKind.wrap_u64]; omega
 have hp : ¬ n < 0 → n = (N : Int) := fun h => by omega
 have HW := Lib.hid hwv
 have HU := Lib.hid hu
 have HP := Lib.hid hp
 clear hN hwv hu hp
 have hdl := drop_lead N (by omega)
 have hlz := Tryz.bits_LeadingZeros64 (N : Int)
 rw [Int.toNat_natCast] at hlz
 have hbl : Lib.bitLen N ≤ 64 := (bitLen_bounds 64 N (by omega)).2.2
 have HLZ := Lib.hid hlz
 have HDL := Lib.hid hdl
 clear hlz hdl
 obtain ⟨L, hL⟩ : ∃ L, L = Lib.bitLen N := ⟨_, rfl⟩
 rw [← hL] at HLZ HDL hbl
 have HL := Lib.hid hL
 clear hL
 by_cases h0 : n < 0
 all_goals go_enter Tryz.func53, Tryz.ntmps53
 all_goals go_wp2
 all_goals first | rw [HU.out h0] | rw [HP.out h0]
 all_goals
  obtain ⟨w1, hw1⟩ : ∃ w1, w1 = w.alloc (.cells #[.bool false, .string ⟨#[]⟩] 32) := ⟨_, rfl⟩
  obtain ⟨g, hg⟩ : ∃ g, g = w.heap.size + 1 := ⟨_, rfl⟩
  have hsz : w1.heap.size = g := by rw [hw1, hg]; simp
  have hb1 : Below w.heap.size w w1 := by rw [hw1]; exact (Below.refl _ _).alloc (Nat.le_refl _) _
  have hres : Wd w1 w.heap.size false ⟨#[]⟩ := by rw [hw1]; exact Wd.new _ _ _
  have hY0 : Arr (w1.alloc (.cells #[.int .u8 0, .int .u8 0, .int .u8 0, .int .u8 0, .int .u8 0, .int .u8 0, .int .u8 0, .int .u8 0] 113)) g (List.replicate 8 0) := by rw [← hsz]; exact heap_alloc_new w1 _
  have hB0 : Below g w1 (w1.alloc (.cells #[.int .u8 0, .int .u8 0, .int .u8 0, .int .u8 0, .int .u8 0, .int .u8 0, .int .u8 0, .int .u8 0] 113)) := (Below.refl _ _).alloc (by omega) _
  rw [← hw1, ← hg]
  have Hg := Lib.hid hg
  have Hsz := Lib.hid hsz
  clear hg hw1 hsz
  go_loopw [12] (fun i wr => ∃ k : Nat, k ≤ 8 ∧ i = .int .i64 k ∧ Arr wr g (List.replicate (8 - k) 0 ++ lowB N k) ∧ Below g w1 wr)
   (fun i _ => 8 - (intOf i).toNat)
  case atStart => exact ⟨0, Nat.zero_le _, rfl, by simpa [lowB] using hY0, hB0⟩
  case round =>
   obtain ⟨k, hk, rfl, hY, hB⟩ := hrel
   by_cases hlt : k < 8
   ·have hcell := hY.cell (k := 7 - k) (by simp [lowB_length]; omega)
    have hfr := hY.frozen (7 - k)
    have hY2 := hY.set (8 - 1 - k) (UInt8.ofNat (N / 256 ^ k % 256))
    rw [low_set N 8 k hlt, show 8 - 1 - k = 7 - k from by omega] at hY2
    have HY2 := Lib.hid hY2
    have hB3 := fun u => hB.setCell (p := ⟨g, 7 - k, none⟩) (Nat.le_refl g) u
    clear hY2 hY
    go_wp2
    go_roundw
    case rel => exact ⟨k + 1, by omega, by go_num, by rw [byte_val2]; exact HY2.out, hB3 _⟩
    case measure => simp [intOf]; omega
   ·obtain rfl : k = 8 := by omega
    rw [Nat.sub_self, List.replicate_zero, List.nil_append] at hY
    have hres2 := hres.below hB (by have := Hg.out; omega)
    have hc0 := hres2.cell0
    have hc1 := hres2.cell1
    have hf0 := hres2.frozen 0
    have hf1 := hres2.frozen 1
    have HRES := Lib.hid hres2
    obtain ⟨ad, nn, hsa, hcv⟩ := arr_key g L N wr hY hbl HDL.out
    have hBw : Below w.heap.size w wr := hb1.trans (hB.mono (by have := Hg.out; omega))
    clear hres2 hY hY0 hB0
    go_wp2_with fail
    with_reducible refine (HLZ.out wr (by omega) (by omega)).mono ?_
    rintro e w' ⟨rfl, hw⟩
    rw [hw]
    clear hw
    go_wp2
    refine post_wide (b := w.heap.size) rfl rfl ((HRES.out.set0 _).set1 _) rfl ⟨?_, (hBw.setCell (Nat.le_refl _) _).setCell (Nat.le_refl _) _⟩
    rw [HW.out]
    first | (rw [HP.out h0]) | (have hd : decide (n < 0) = true := (by simpa using h0); rw [hd])
end Go.Proofs.YtknaghdoffigjaaGreatDoor
namespace Go.Proofs.YtknaghdoffigjaaGreatDoor
open Go.RowKit
theorem pow7 : (256 : Nat) ^ 7 = 72057594037927936 := by rfl
theorem bval_small (s : ByteArray) (h : s.size ≤ 7) : bval s.data.toList < 72057594037927936 := by
 have h1 := bval_lt s.data.toList
 have h2 : (256 : Nat) ^ s.data.toList.length ≤ 256 ^ 7 := Nat.pow_le_pow_right (by omega) (by rw [← Lib.size_eq]; exact h)
 rw [pow7] at h2
 omega
set_option maxHeartbeats 1000000 in
theorem small_yes (x : Bool) (s : ByteArray) (w : World) (hs : s.size ≤ 7) :
  Calls Tryz.prog 95 #[.agg #[.bool x, .string s]] w fun e w' => e = .returned (.tuple #[.int .i64 (wint x s), .bool true]) ∧ Below w.heap.size w w' := by
 have hp := partOf_any s (w.alloc (.cells #[.bool x, .string s] 32)) (by omega)
 have hb := bval_small s hs
 have hw : wint x s = if x then -(bval s.data.toList : Int) else bval s.data.toList := rfl
 generalize bval s.data.toList = N at *
 have HP := Lib.hid hp
 have HW := Lib.hid hw
 clear hp hw
 cases x
 all_goals
  go_enter Tryz.func95, Tryz.ntmps95
  go_wp2_with fail
  with_reducible refine HP.out.mono ?_
  rintro e w' ⟨rfl, rfl⟩
  go_wp2
  go_ret2
  exact ⟨by rw [HW.out]; rfl, (Below.refl _ _).alloc (Nat.le_refl _) _⟩
set_option maxHeartbeats 1000000 in
theorem small_no (x : Bool) (s : ByteArray) (w : World) (hs : 7 < s.size) (hm : s.size ≤ maxLen) :
  Calls Tryz.prog 95 #[.agg #[.bool x, .string s]] w fun e w' => e = .returned (.tuple #[.int .i64 0, .bool false]) ∧ Below w.heap.size w w' := by
 unfold maxLen at hm
 go_enter Tryz.func95, Tryz.ntmps95
 go_wp2
 go_ret2
 exact ⟨rfl, (Below.refl _ _).alloc (Nat.le_refl _) _⟩
theorem canon_empty (N : Nat) (h : N = 0) : bstr (canon N) = ⟨#[]⟩ := by subst h; rfl
theorem canon_full (N : Nat) (h : N ≠ 0) : (bstr (canon N)).toList.isEmpty = false := by
 rw [Lib.toList_data, bstr_data]
 cases hc : canon N with
 | nil => exact absurd (canon_eq_nil.1 hc) h
 | cons a l => rfl
set_option maxHeartbeats 1000000 in
theorem Sign_any (x : Bool) (s : ByteArray) (w : World) (hs : s.size ≤ maxLen) :
  Calls Tryz.prog 74 #[.agg #[.bool x, .string s]] w fun e w' => e = .returned (.int .i64 (wint x s).sign) ∧ Below w.heap.size w w' := by
 have hp := significant_any s (w.alloc (.cells #[.bool x, .string s] 32)) hs
 have hw : wint x s = if x then -(bval s.data.toList : Int) else bval s.data.toList := rfl
 generalize bval s.data.toList = N at *
 have HP := Lib.hid hp
 have HW := Lib.hid hw
 clear hp hw
 by_cases h0 : N = 0
 ·have hsg : (wint x s).sign = 0 := by rw [HW.out, h0]; cases x <;> rfl
  have HS := Lib.hid hsg
  have hc := Lib.hid (canon_empty N h0)
  clear h0 hsg
  rw [hc.out] at HP
  go_enter Tryz.func74, Tryz.ntmps74
  go_wp2_with fail
  with_reducible refine HP.out.mono ?_
  rintro e w' ⟨rfl, rfl⟩
  go_wp2
  go_ret
  exact ⟨by rw [HS.out]; rfl, (Below.refl _ _).alloc (Nat.le_refl _) _⟩
 ·have hf := canon_full N h0
  have hsg : (wint x s).sign = if x then -1 else 1 := by
   rw [HW.out]; cases x
   ·exact Int.sign_eq_one_of_pos (by simp; omega)
   ·exact Int.sign_eq_neg_one_of_neg (by simp; omega)
  have HS := Lib.hid hsg
  clear h0 hsg
  generalize bstr (canon N) = S at *
  cases x
  all_goals
   go_enter Tryz.func74, Tryz.ntmps74
   go_wp2_with fail
   with_reducible refine HP.out.mono ?_
   rintro e w' ⟨rfl, rfl⟩
   go_wp2
   go_ret
   exact ⟨by rw [HS.out]; rfl, (Below.refl _ _).alloc (Nat.le_refl _) _⟩
theorem Wd.new1 (w : World) (o : Obj) (x : Bool) (s : ByteArray) : Wd ((w.alloc o).alloc (.cells #[.bool x, .string s] 32)) (w.heap.size + 1) x s := by
 have := Wd.new (w.alloc o) x s
 simpa using this
theorem below2 (w : World) (o p : Obj) : Below w.heap.size w ((w.alloc o).alloc p) := ((Below.refl _ _).alloc (Nat.le_refl _) _).alloc (by simp) _
theorem wint_false (s : ByteArray) : wint false s = (bval s.data.toList : Int) := rfl
theorem wint_true (s : ByteArray) : wint true s = -(bval s.data.toList : Int) := rfl
theorem wv_nat (N : Nat) : wv (N : Int) = .agg #[.bool false, .string (bstr (canon N))] := by
 unfold wv
 have : decide ((N : Int) < 0) = false := by simp
 rw [this, Int.natAbs_natCast]
theorem wv_neg (N : Nat) : wv (-(N : Int)) = .agg #[.bool (decide (N ≠ 0)), .string (bstr (canon N))] := by
 unfold wv
 have : decide (-(N : Int) < 0) = decide (N ≠ 0) := by
  by_cases h : N = 0
  ·subst h; rfl
  ·have a1 : decide (-(N : Int) < 0) = true := by simp; omega
   have a2 : decide (N ≠ 0) = true := by simp; omega
   rw [a1, a2]
 rw [this, Int.natAbs_neg, Int.natAbs_natCast]
end Go.Proofs.YtknaghdoffigjaaGreatDoor
namespace Go.Proofs.YtknaghdoffigjaaGreatDoor
open Go.RowKit
theorem sub_same (q u v : Nat) : ((q + u : Nat) : Int) - ((q + v : Nat) : Int) = (u : Int) - v := by omega
theorem below_many {B : Nat} {a w : World} (h : Below B a w) (n : Nat) : Below B a (w.drewN n) := ⟨h.os, h.tape, h.output, h.size, h.block⟩
theorem compareBytes_sign (a b : List UInt8) (h : a.length = b.length) : Lib.compareBytes a b = ((bval a : Int) - bval b).sign := by
 induction a generalizing b with
 | nil =>
  cases b with
  | nil => rfl
  | cons y b => simp at h
 | cons x a ih =>
  cases b with
  | nil => simp at h
  | cons y b =>
   have hl : a.length = b.length := by simpa using h
   have ha := bval_lt a
   have hb := bval_lt b
   rw [Lib.compareBytes, bval_cons, bval_cons, ← hl]
   rw [← hl] at hb
   generalize hp : 256 ^ a.length = p at *
   have hx : x < y ↔ x.toNat < y.toNat := UInt8.lt_iff_toNat_lt
   have hy : y < x ↔ y.toNat < x.toNat := UInt8.lt_iff_toNat_lt
   by_cases h1 : x < y
   ·rw [if_pos h1]
    have h2 := hx.1 h1
    have h3 : x.toNat * p + p ≤ y.toNat * p := by
     have := Nat.mul_le_mul_right p (show x.toNat + 1 ≤ y.toNat from h2)
     rwa [Nat.add_mul, Nat.one_mul] at this
    exact (Int.sign_eq_neg_one_of_neg (by omega)).symm
   ·rw [if_neg h1]
    by_cases h1' : y < x
    ·rw [if_pos h1']
     have h2 := hy.1 h1'
     have h3 : y.toNat * p + p ≤ x.toNat * p := by
      have := Nat.mul_le_mul_right p (show y.toNat + 1 ≤ x.toNat from h2)
      rwa [Nat.add_mul, Nat.one_mul] at this
     exact (Int.sign_eq_one_of_pos (by omega)).symm
    ·have e : x.toNat = y.toNat := by
      have a1 : ¬ x.toNat < y.toNat := fun e => h1 (hx.2 e)
      have a2 : ¬ y.toNat < x.toNat := fun e => h1' (hy.2 e)
      omega
     rw [if_neg h1', ih b hl, e]
     generalize y.toNat * p = q
     rw [sub_same]
theorem canon_shorter {N M : Nat} (h : (canon N).length < (canon M).length) : N < M := by
 refine Nat.lt_of_not_le fun hle => ?_
 have := canon_length_mono hle
 omega
theorem significant_same (s : ByteArray) (w : World) (hs : s.size ≤ maxLen) :
  Calls Tryz.prog 117 #[.string s] w fun e w' => e = .returned (.string (bstr (canon (bval s.data.toList)))) ∧ w' = w :=
 (significant_any s w hs).mono fun _ _ h => ⟨h.1, h.2.symm⟩
set_option maxRecDepth 100000 in
set_option maxHeartbeats 1000000 in
theorem compareSizes_any (x y : Bool) (s t : ByteArray) (w : World) (hs : s.size ≤ maxLen) (ht : t.size ≤ maxLen) :
  Calls Tryz.prog 100 #[.agg #[.bool x, .string s], .agg #[.bool y, .string t]] w fun e w' =>
   e = .returned (.int .i64 ((bval s.data.toList : Int) - bval t.data.toList).sign) ∧ Below w.heap.size w w' := by
 have hp := fun W => significant_same s W hs
 have hq := fun W => significant_same t W ht
 have l1 : (canon (bval s.data.toList)).length ≤ maxLen := by
  rw [← sig_canon]; have := sig_length_le s.data.toList; have e := Lib.size_eq s; omega
 have l2 : (canon (bval t.data.toList)).length ≤ maxLen := by
  rw [← sig_canon]; have := sig_length_le t.data.toList; have e := Lib.size_eq t; omega
 unfold maxLen at l1 l2
 generalize bval s.data.toList = N at *
 generalize bval t.data.toList = M at *
 have HP := Lib.hid hp
 have HQ := Lib.hid hq
 clear hp hq
 have hl1 : (bstr (canon N)).size = (canon N).length := bstr_size _
 have hl2 : (bstr (canon M)).size = (canon M).length := bstr_size _
 have hc := Tryz.strings_Compare (bstr (canon N)) (bstr (canon M))
 rw [bstr_data, bstr_data] at hc
 have HC := Lib.hid hc
 clear hc
 go_enter Tryz.func100, Tryz.ntmps100
 go_wp2_with fail
 go_quiet ((go_at_call 117; first | (with_reducible exact Calls.quiet_of_same (HP.out _)) | (with_reducible exact Calls.quiet_of_same (HQ.out _))))
 by_cases h1 : (canon N).length < (canon M).length
 ·have hlt := canon_shorter h1
  have hsg := Int.sign_eq_neg_one_of_neg (a := (N : Int) - M) (by omega)
  have HS := Lib.hid hsg
  clear hsg hlt
  go_wp2
  go_ret
  exact ⟨by rw [HS.out]; rfl, below_many (below2 w _ _) _⟩
 ·by_cases h2 : (canon M).length < (canon N).length
  ·have hlt := canon_shorter h2
   have hsg := Int.sign_eq_one_of_pos (a := (N : Int) - M) (by omega)
   have HS := Lib.hid hsg
   clear hsg hlt
   go_wp2
   go_ret
   exact ⟨by rw [HS.out]; rfl, below_many (below2 w _ _) _⟩
  ·have hcs := compareBytes_sign (canon N) (canon M) (by omega)
   rw [bval_canon, bval_canon] at hcs
   have HS := Lib.hid hcs
   clear hcs
   go_wp2_with fail
   with_reducible refine (HC.out _).mono ?_
   rintro e w' ⟨rfl, hw⟩
   rw [hw]
   clear hw
   go_wp2
   go_ret
   exact ⟨by rw [← HS.out]; rfl, below_many (below2 w _ _) _⟩
def Vars (w0 w : World) (l : List (Bool × ByteArray)) : Prop :=
 Below w0.heap.size w0 w ∧ w0.heap.size + l.length ≤ w.heap.size ∧ ∀ i p, l[i]? = some p → Wd w (w0.heap.size + i) p.1 p.2
abbrev wbox (x : Bool) (s : ByteArray) : Obj := .cells #[.bool x, .string s] 32
section
variable {w0 w w' : World} {l : List (Bool × ByteArray)}
theorem Vars.none_ (w0 : World) : Vars w0 w0 [] := ⟨Below.refl _ _, by simp, fun i p h => by simp at h⟩
theorem Vars.more (h : Vars w0 w l) (hs : w.heap.size = w0.heap.size + l.length) (x : Bool) (s : ByteArray) : Vars w0 (w.alloc (wbox x s)) (l ++ [(x, s)]) := by
 refine ⟨h.1.alloc (by omega) _, by simp; omega, fun i p hi => ?_⟩
 by_cases hl : i < l.length
 ·rw [List.getElem?_append_left hl] at hi
  exact (h.2.2 i p hi).alloc _
 ·rw [List.getElem?_append_right (by omega)] at hi
  have hi0 : i - l.length = 0 := by
   refine Nat.eq_zero_of_not_pos fun hp => ?_
   rw [List.getElem?_eq_none (by simp; omega)] at hi
   cases hi
  rw [hi0] at hi
  simp at hi
  subst hi
  have : i = l.length := by omega
  subst this
  rw [← hs]
  exact Wd.new w x s
theorem Vars.start1 (w : World) (x : Bool) (s : ByteArray) : Vars w (w.alloc (wbox x s)) [(x, s)] := (Vars.none_ w).more (by simp) x s
theorem Vars.start2 (w : World) (x y : Bool) (s t : ByteArray) : Vars w ((w.alloc (wbox x s)).alloc (wbox y t)) [(x, s), (y, t)] := (Vars.start1 w x s).more (by simp) y t
theorem Vars.start3 (w : World) (x y z : Bool) (s t u : ByteArray) : Vars w (((w.alloc (wbox x s)).alloc (wbox y t)).alloc (wbox z u)) [(x, s), (y, t), (z, u)] := (Vars.start2 w x y s t).more (by simp) z u
theorem Vars.step (h : Vars w0 w l) (hb : Below w.heap.size w w') : Vars w0 w' l :=
 ⟨h.1.trans (hb.mono (by have := h.2.1; omega)), by have := h.2.1; have := hb.size; omega, fun i p hi => (h.2.2 i p hi).below hb (h.2.2 i p hi).lt⟩
theorem Vars.drew (h : Vars w0 w l) : Vars w0 w.drew l := ⟨h.1.drew, h.2.1, h.2.2⟩
theorem Vars.at_ (h : Vars w0 w l) (i : Nat) {x : Bool} {s : ByteArray} (hi : l[i]? = some (x, s)) : Wd w (w0.heap.size + i) x s := h.2.2 i _ hi
end
theorem sign_cases (z : Int) : (z < 0 ∧ z.sign = -1) ∨ (z = 0 ∧ z.sign = 0) ∨ (0 < z ∧ z.sign = 1) := by
 rcases Int.lt_trichotomy z 0 with h | h | h
 ·exact .inl ⟨h, Int.sign_eq_neg_one_of_neg h⟩
 ·subst h; exact .inr (.inl ⟨rfl, rfl⟩)
 ·exact .inr (.inr ⟨h, Int.sign_eq_one_of_pos h⟩)
end Go.Proofs.YtknaghdoffigjaaGreatDoor
namespace Go.Proofs.YtknaghdoffigjaaGreatDoor
open Go.RowKit
theorem limbs_length_le {n k : Nat} (h : n < B64 ^ k) : (limbs n).length ≤ k := by
 induction k generalizing n with
 | zero =>
      obtain rfl : n = 0 := by simp at h; omega
      simp [limbs_zero]
 | succ k ih =>
  by_cases h0 : n = 0
  ·subst h0; simp [limbs_zero]
  ·rw [limbs_step n h0, List.length_cons]
   have := ih (n := n / B64) (by rw [Nat.pow_succ] at h; rwa [Nat.div_lt_iff_lt_mul B64_pos])
   omega
theorem limbs_length_mono {m n : Nat} (h : m ≤ n) : (limbs m).length ≤ (limbs n).length := by
 refine limbs_length_le (Nat.lt_of_le_of_lt h ?_)
 have := pval_lt (limbs_limbs n)
 rwa [pval_limbs] at this
theorem bval_limbs_length (s : ByteArray) (k : Nat) (h : s.size ≤ 8 * k) : (limbs (bval s.data.toList)).length ≤ k := by
 refine limbs_length_le ?_
 have h1 := bval_lt s.data.toList
 rw [B64_pow, ← Nat.pow_mul]
 exact Nat.lt_of_lt_of_le h1 (Nat.pow_le_pow_right (by omega) (by rw [← Lib.size_eq]; exact h))
theorem limbs_add_length {m n k : Nat} (hm : (limbs m).length ≤ k) (hn : (limbs n).length ≤ k) : (limbs (m + n)).length ≤ k + 1 := by
 refine limbs_length_le ?_
 have h1 := pval_lt (limbs_limbs m)
 have h2 := pval_lt (limbs_limbs n)
 rw [pval_limbs] at h1 h2
 have e1 : B64 ^ (limbs m).length ≤ B64 ^ k := Nat.pow_le_pow_right B64_pos hm
 have e2 : B64 ^ (limbs n).length ≤ B64 ^ k := Nat.pow_le_pow_right B64_pos hn
 rw [Nat.pow_succ]
 have : B64 ^ k * 2 ≤ B64 ^ k * B64 := Nat.mul_le_mul_left _ (by rw [B64_eq]; omega)
 omega
theorem partsOf_rd (s : ByteArray) (w : World) (hs : s.size ≤ 4398046511104) :
  Calls Tryz.prog 98 #[.string s] w fun e w' => ∃ A n c, e = .returned (.slice A n c) ∧ (limbs (bval s.data.toList)).length = n ∧ n ≤ c ∧ RdA w' A (limbs (bval s.data.toList)) ∧ Below w.heap.size w w' :=
 (partsOf_any s w (by omega)).mono fun _ _ h => by
  obtain ⟨A, c, he, hc, _, hr, hb⟩ := h.toL
  exact ⟨A, _, c, he, rfl, hc, hr, hb⟩
theorem sum_rd (A B : Option Addr) (na nb ca cb : Nat) (N M : Nat) (w : World) (ha : (limbs N).length = na) (hb : (limbs M).length = nb) (hx : RdA w A (limbs N)) (hy : RdA w B (limbs M)) (nx : na ≤ 1099511627776) (ny : nb ≤ 1099511627776) :
  Calls Tryz.prog 99 #[.slice A na ca, .slice B nb cb] w fun e w' => ∃ C n c, e = .returned (.slice C n c) ∧ (limbs (N + M)).length = n ∧ n ≤ c ∧ RdA w' C (limbs (N + M)) ∧ Below w.heap.size w w' := by
 subst ha
 subst hb
 have h := sum_any A B ca cb (limbs N) (limbs M) w hx hy (limbs_limbs N) (limbs_limbs M) nx ny
 rw [pval_limbs, pval_limbs] at h
 exact h.mono fun _ _ h => by
  obtain ⟨A, c, he, hc, _, hr, hb⟩ := h.toL
  exact ⟨A, _, c, he, rfl, hc, hr, hb⟩
theorem difference_rd (A B : Option Addr) (na nb ca cb : Nat) (N M : Nat) (w : World) (ha : (limbs N).length = na) (hb : (limbs M).length = nb) (hx : RdA w A (limbs N)) (hy : RdA w B (limbs M)) (nx : na ≤ 1099511627776) (hle : M ≤ N) :
  Calls Tryz.prog 101 #[.slice A na ca, .slice B nb cb] w fun e w' => ∃ C n c, e = .returned (.slice C n c) ∧ (limbs (N - M)).length = n ∧ n ≤ c ∧ RdA w' C (limbs (N - M)) ∧ Below w.heap.size w w' := by
 have hlm := limbs_length_mono hle
 have h := difference_any A B na nb ca cb (limbs N) (limbs M) w ha hb hx hy (limbs_limbs N) (limbs_limbs M) nx (by omega) (by rw [pval_limbs, pval_limbs]; exact hle)
 rw [pval_limbs, pval_limbs] at h
 exact h.mono fun _ _ h => by
  obtain ⟨A, c, he, hc, _, hr, hb⟩ := h.toL
  exact ⟨A, _, c, he, rfl, hc, hr, hb⟩
theorem product_rd (A B : Option Addr) (na nb ca cb : Nat) (N M : Nat) (w : World) (ha : (limbs N).length = na) (hb : (limbs M).length = nb) (hx : RdA w A (limbs N)) (hy : RdA w B (limbs M)) (nx : na ≤ 1099511627776) (ny : nb ≤ 1099511627776) :
  Calls Tryz.prog 97 #[.slice A na ca, .slice B nb cb] w fun e w' => ∃ C n c, e = .returned (.slice C n c) ∧ (limbs (N * M)).length = n ∧ n ≤ c ∧ RdA w' C (limbs (N * M)) ∧ Below w.heap.size w w' := by
 have h := product_any A B na nb ca cb (limbs N) (limbs M) w ha hb hx hy (limbs_limbs N) (limbs_limbs M) nx ny
 rw [pval_limbs, pval_limbs] at h
 exact h.mono fun _ _ h => by
  obtain ⟨A, c, he, hc, _, hr, hb⟩ := h.toL
  exact ⟨A, _, c, he, rfl, hc, hr, hb⟩
theorem wint_bounds (x : Bool) (s : ByteArray) (h : s.size ≤ 7) : -72057594037927936 ≤ wint x s ∧ wint x s ≤ 72057594037927936 := by
 have := bval_small s h
 cases x <;> simp only [wint] <;> simp <;> omega
set_option maxHeartbeats 1000000 in
theorem Add_small (x y : Bool) (s t : ByteArray) (w : World) (hs : s.size ≤ 7) (ht : t.size ≤ 7) :
  Calls Tryz.prog 52 #[.agg #[.bool x, .string s], .agg #[.bool y, .string t]] w fun e w' => e = .returned (wv (wint x s + wint y t)) ∧ Below w.heap.size w w' := by
 have hp := fun W => small_yes x s W hs
 have hq := fun W => small_yes y t W ht
 have b1 := wint_bounds x s hs
 have b2 := wint_bounds y t ht
 have hf := fun W => From_any (wint x s + wint y t) W (by omega) (by omega)
 have hwv : wv (wint x s + wint y t) = .agg #[.bool (decide (wint x s + wint y t < 0)), .string (bstr (canon (wint x s + wint y t).natAbs))] := rfl
 generalize bstr (canon (wint x s + wint y t).natAbs) = S at *
 generalize decide (wint x s + wint y t < 0) = sg at *
 generalize hR : wv (wint x s + wint y t) = R at *
 generalize wint x s = a at *
 generalize wint y t = b at *
 have HP := Lib.hid hp
 have HQ := Lib.hid hq
 have HF := Lib.hid hf
 have HWV := Lib.hid hwv
 clear hp hq hf hR hwv
 have HV := Lib.hid (Vars.start3 w x y false s t ⟨#[]⟩)
 go_enter Tryz.func52, Tryz.ntmps52
 go_wp2_with fail
 with_reducible refine (HP.out _).mono ?_
 rintro e w1 ⟨rfl, hb1⟩
 have hV1 := Lib.hid (HV.out.step hb1)
 have hc0 := (hV1.out.at_ 1 rfl).cell0
 have hc1 := (hV1.out.at_ 1 rfl).cell1
 go_wp2_with fail
 with_reducible refine (HQ.out _).mono ?_
 rintro e w2 ⟨rfl, hb2⟩
 have hV2 := Lib.hid (hV1.out.step hb2)
 clear hc0 hc1 hb1 hb2
 go_wp2_with fail
 with_reducible refine (HF.out _).mono ?_
 rintro e w3 ⟨rfl, hb3⟩
 have hV3 := Lib.hid (hV2.out.step hb3)
 have hd0 := (hV3.out.at_ 2 rfl).cell0
 have hd1 := (hV3.out.at_ 2 rfl).cell1
 have hf0 := (hV3.out.at_ 2 rfl).frozen 0
 have hf1 := (hV3.out.at_ 2 rfl).frozen 1
 rw [HWV.out]
 go_wp2
 exact post_wide (b := w.heap.size + 1 + 1) rfl rfl (((hV3.out.at_ 2 rfl).set0 _).set1 _) rfl ⟨by rw [HWV.out], (hV3.out.1.setCell (by simp only []; omega) _).setCell (by simp only []; omega) _⟩
theorem cell_two (w : World) (b c i j k : Nat) (h : b ≠ c) {u v : Value} : ((w.setCell ⟨b, i, none⟩ u).setCell ⟨b, j, none⟩ v).cell? ⟨c, k, none⟩ = w.cell? ⟨c, k, none⟩ := by
 rw [World.cell?_setCell_other, World.cell?_setCell_other]
 ·intro e; injection e with e1; exact h e1
 ·intro e; injection e with e1; exact h e1
theorem Vars.done {w0 w : World} {l : List (Bool × ByteArray)} (h : Vars w0 w l) (i : Nat) {x y : Bool} {s t : ByteArray} (hi : l[i]? = some (x, s)) :
  Wd ((w.setCell ⟨w0.heap.size + i, 0, none⟩ (.bool y)).setCell ⟨w0.heap.size + i, 1, none⟩ (.string t)) (w0.heap.size + i) y t ∧
  Below w0.heap.size w0 ((w.setCell ⟨w0.heap.size + i, 0, none⟩ (.bool y)).setCell ⟨w0.heap.size + i, 1, none⟩ (.string t)) :=
 ⟨((h.at_ i hi).set0 y).set1 t, (h.1.setCell (by simp only []; omega) _).setCell (by simp only []; omega) _⟩
end Go.Proofs.YtknaghdoffigjaaGreatDoor
