/-
  The contract of wide.Text.
-/
import Derived.Test.YthbkgofpblganaaDoorBlock
namespace Go.Proofs.YthbkgofpblganaaDoor
open Go.RowKit

theorem text_room (N n : Nat) (h : N < B64 ^ n) : N < 10 ^ (19 * (n + n / 19 + 1)) := by
  refine Nat.lt_of_lt_of_le h ?_
  have h1 : B64 ^ n ≤ (10 ^ 20) ^ n := Nat.pow_le_pow_left (by rw [B64_eq]; omega) n
  rw [← Nat.pow_mul] at h1
  exact Nat.le_trans h1 (Nat.pow_le_pow_right (by omega) (by omega))
theorem drop_dec (a z : Nat) (l : List UInt8) : (List.replicate a 0 ++ (List.replicate z 48 ++ l)).drop (a + z) = l := by
  rw [← List.append_assoc, List.drop_left' (by simp)]
theorem set_drop (L : List UInt8) (i : Nat) (b : UInt8) (h : i < L.length) : (L.set i b).drop i = b :: L.drop (i + 1) := by
  rw [List.drop_eq_getElem_cons (by simpa using h), List.getElem_set_self, List.drop_set_of_lt (by omega)]
theorem Bts.strFrom {w : World} {g : Nat} {l : List UInt8} (h : Bts w g l) (off k c : Nat) (hk : off + k = l.length) : (convert 22 9 (.slice (some ⟨g, off, none⟩) k c)).run Tryd.prog w = .ok (.string (bstr (l.drop off))) w := by
  have hr := run_convert_bytes_arg (P := Tryd.prog) w 22 5 Tryd.underlying22 Tryd.underlying5 g off k c ((l.drop off).map fun b => (b.toNat : Int)) (by simp; omega)
    (fun i hi => by
      rw [h.cell (k := off + i) (by omega)]
      rw [List.getD_eq_getElem?_getD, List.getD_eq_getElem?_getD, List.getElem?_map, List.getElem?_drop, List.getElem?_eq_getElem (show off + i < l.length by omega)]
      rfl) 9 Tryd.underlying9
  have e : strOfNums ((l.drop off).map fun b => (b.toNat : Int)) = bstr (l.drop off) := by
    rw [← bstr_toList (strOfNums _), strOfNums_data, List.map_map]
    have : (l.drop off).map ((fun n => UInt8.ofNat (Int.toNat n)) ∘ fun b => (b.toNat : Int)) = (l.drop off).map id := List.map_congr_left fun b _ => by simp
    rw [this, List.map_id]
  rw [hr, e]
theorem slice_three (g L st : Nat) (h : st + 19 ≤ L) (h1 : 0 < st) (w : World) :
    (Instr.slice 22 (.slice (some ⟨g, 0, none⟩) L L) (some (.int .i64 (st : Int))) (some (.int .i64 ((st : Int) + 19))) (some (.int .i64 ((st : Int) + 19)))).run Tryd.prog w = .ok (.slice (some ⟨g, st, none⟩) 19 19) w := by
  have h := run_slice_lhm (P := Tryd.prog) (w := w) 22 (some ⟨g, 0, none⟩) L L (by kernel_rfl) .i64 .i64 .i64 (st : Int) ((st : Int) + 19) ((st : Int) + 19) (by omega) (by omega) (by omega) (by omega)
  rw [h]
  have e : Tryd.prog.elem 22 = 5 := by kernel_rfl
  rw [e, Tryd.sizeOf5]
  have e1 : ((st : Int) + 19).toNat = st + 19 := by omega
  have e2 : ¬ st + 19 = st := by omega
  simp [Result.andThen, sliced, e1, Addr.add]
  omega
theorem slice_from (g L st : Nat) (h : st < L) (w : World) :
    (Instr.slice 22 (.slice (some ⟨g, 0, none⟩) L L) (some (.int .i64 (st : Int))) none none).run Tryd.prog w = .ok (.slice (some ⟨g, st, none⟩) (L - st) (L - st)) w := by
  have h := run_slice_l (P := Tryd.prog) (w := w) 22 (some ⟨g, 0, none⟩) L L (by kernel_rfl) .i64 (st : Int) (by omega) (by omega)
  rw [h]
  have e : Tryd.prog.elem 22 = 5 := by kernel_rfl
  rw [e, Tryd.sizeOf5]
  have e2 : ¬ L = st := by omega
  by_cases e3 : st = 0
  · subst e3
    simp [Result.andThen, sliced, Addr.add, e2]
  · simp [Result.andThen, sliced, Addr.add, e2, e3]

theorem Vars.grown {w0 w w' : World} {l : List (Bool × ByteArray)} {row : Option Nat} (h : Vars w0 w l) (hg : w.grownBy w' row) (hr : ∀ k, row = some k → w0.heap.size + l.length ≤ k) : Vars w0 w' l := by
  refine ⟨h.1.grown hg h.1.size (fun k hk => by have := hr k hk; omega), Nat.le_trans h.2.1 hg.size, fun i p hi => ?_⟩
  have hd := h.2.2 i p hi
  refine hd.block (hg.block _ hd.lt fun e => ?_)
  have h1 := hr _ e.symm
  have h2 : i < l.length := (List.getElem?_eq_some_iff.1 hi).1
  omega
theorem rep_split (a : Nat) (R : List UInt8) : List.replicate (a + 19) (0 : UInt8) ++ R = List.replicate a 0 ++ List.replicate 19 0 ++ R := by
  rw [List.replicate_append_replicate]
theorem divideByPart_block (A : Option Addr) (n c g : Nat) (xs tl : List Nat) (w : World) (hn : xs.length = n) (hA : 0 < n → A = some ⟨g, 0, none⟩) (hL : 0 < n → Lst w g (xs ++ tl)) (lx : Limbs xs) (nn : n ≤ 1099511627776) :
    Calls Tryd.prog 63 #[.slice A n c, .int .u64 10000000000000000000] w fun e w' => e = .returned (.int .u64 ((pval xs % 10000000000000000000 : Nat) : Int)) ∧
      (∃ ds, ds.length = n ∧ Limbs ds ∧ pval ds = pval xs / 10000000000000000000 ∧ (0 < n → Lst w' g (ds ++ tl))) ∧ w.grownBy w' (some g) :=
  divideByPart_any A n c g 10000000000000000000 xs tl w hn hA hL lx (by omega) (by rw [B64_eq]; omega) nn
theorem limbs_drop_digit (N t X : Nat) (hX : X = N / 10 ^ (19 * t)) : X / 10000000000000000000 = N / 10 ^ (19 * (t + 1)) := by
  rw [hX, Nat.div_div_eq_div_mul, Nat.mul_add, Nat.pow_add]
theorem digits_step (N t X : Nat) (hX : X = N / 10 ^ (19 * t)) : lowD (X % 10000000000000000000) 19 ++ lowD N (19 * t) = lowD N (19 * (t + 1)) := by
  have h1 := lowD_mod X 19 19 (Nat.le_refl _)
  rw [show (10 : Nat) ^ 19 = 10000000000000000000 from rfl] at h1
  rw [h1, hX, Nat.mul_add, Nat.mul_one, Nat.add_comm (19 * t) 19, lowD_append]

set_option maxRecDepth 100000 in
set_option maxHeartbeats 4000000 in
theorem Text_any (x : Bool) (s : ByteArray) (w : World) (hs : s.size ≤ 300) :
    Calls Tryd.prog 34 #[.agg #[.bool x, .string s]] w fun e w' => e = .returned (.string (bstr (txt x (bval s.data.toList)))) ∧ Below w.heap.size w w' := by
  have hps := fun W => partsOf_any s W (by omega)
  have hnl := bval_limbs_length s 38 (by omega)
  generalize bval s.data.toList = N at *
  have HS := Lib.hid hps
  have HV := Lib.hid (Vars.start1 w x s)
  have hroom := text_room N (limbs N).length (by have := pval_lt (limbs_limbs N); rwa [pval_limbs] at this)
  clear hps
  by_cases h0 : N = 0
  · have HT := Lib.hid (show txt x N = [48] by unfold txt; rw [if_pos h0])
    have hl0 : (limbs N).length = 0 := by rw [h0]; rfl
    clear h0
    go_enter Tryd.func34, Tryd.ntmps34
    go_wp2_with fail
    with_reducible refine (HS.out _).mono ?_
    rintro e w1 ⟨g, tl, rfl, hcm, hg, hL, hb1⟩
    rw [hl0]
    go_wp2
    go_ret
    exact ⟨by rw [HT.out]; rfl, (HV.out.step hb1).1⟩
  · have HT := Lib.hid (show txt x N = if x then 45 :: dec N else dec N by unfold txt; rw [if_neg h0])
    have hl0 : (limbs N).length ≠ 0 := fun e => h0 (limbs_eq_nil.1 (List.length_eq_zero_iff.1 e))
    have H0 := Lib.hid h0
    clear h0
    have HLN := Lib.hid (show (limbs N).length = (limbs N).length from rfl)
    obtain ⟨n, hn⟩ : ∃ n, (limbs N).length = n := ⟨_, rfl⟩
    rw [hn] at hroom hnl hl0
    obtain ⟨bl, hbl⟩ : ∃ bl, n + n / 19 + 1 = bl := ⟨_, rfl⟩
    rw [hbl] at hroom
    have hblI : (n : Int) + (n : Int) / 19 + 1 = (bl : Int) := by omega
    obtain ⟨L, hL0⟩ : ∃ L, 1 + 19 * bl = L := ⟨_, rfl⟩
    have hLI : 1 + (bl : Int) * 19 = (L : Int) := by omega
    have hmk := make_bytes L (by omega)
    have Hn := Lib.hid hn
    have HRoom := Lib.hid hroom
    have hbl40 : bl ≤ 45 := by omega
    have HL0 := Lib.hid hL0
    have hL1 : L ≤ 900 := by omega
    clear hn hbl hL0
    have hnb : ((n : Int) == 0) = false := by rw [beq_eq_false_iff_ne]; omega
    go_enter Tryd.func34, Tryd.ntmps34
    go_wp2_with fail
    with_reducible refine (HS.out _).mono ?_
    rintro e w1 ⟨g, tl, rfl, hcm, hg, hLst, hb1⟩
    have hV1 := HV.out.step hb1
    rw [Hn.out]
    have hcap : n ≤ (limbs N ++ tl).length := by rw [List.length_append, Hn.out]; omega
    generalize (limbs N ++ tl).length = cp at *
    go_wp2_with fail
    obtain ⟨gb, hgb⟩ : ∃ gb, gb = w1.heap.size := ⟨_, rfl⟩
    have hY0 : Bts (w1.alloc (.cells (Y (List.replicate L 0)) 5)) gb (List.replicate L 0) := by rw [hgb]; exact Bts.new _ _
    have hgg : g < gb := by rw [hgb]; exact hLst.lt
    have hLst2 := hLst.alloc (.cells (Y (List.replicate L 0)) 5)
    have hV2 := Lib.hid (hV1.step ((Below.refl _ _).alloc (Nat.le_refl _) (.cells (Y (List.replicate L 0)) 5)))
    have HY0 := Lib.hid hY0
    have HLst2 := Lib.hid hLst2
    have hvg : w.heap.size + 1 ≤ g := by have := HV.out.2.1; have := hg; simp at *; omega
    rw [← hgb]
    clear hgb hLst hLst2 hY0 hV1 hb1 hg hmk
    generalize w1.alloc (.cells (Y (List.replicate L 0)) 5) = W2 at *
    go_loopw [3, 6, 7] (fun r st _ wr => ∃ (u t X k : Nat) (tl : List Nat), r = .slice (some ⟨g, 0, none⟩) k cp ∧ st = .int .i64 (1 + 19 * (u : Int)) ∧ u + t = bl ∧ X = N / 10 ^ (19 * t) ∧ (limbs X).length = k ∧ k ≤ cp ∧ k ≤ 38 ∧ Lst wr g (limbs X ++ tl) ∧ Bts wr gb (List.replicate (1 + 19 * u) 0 ++ lowD N (19 * t)) ∧ Vars w wr [(x, s)])
      (fun _ st _ _ => (intOf st).toNat)
    case atStart => exact ⟨bl, 0, N, n, tl, rfl, by rw [← HL0.out]; go_num, by omega, by simp, Hn.out, hcap, hnl, HLst2.out, by rw [Nat.mul_zero, lowD, List.append_nil, HL0.out]; exact HY0.out, hV2.out⟩
    case round =>
      obtain ⟨u, t, X, k, tl2, rfl, rfl, hut, hX, hk, hkc, hk38, hLs, hBs, hv⟩ := hrel
      have HLs := Lib.hid hLs
      have HBs := Lib.hid hBs
      have Hv := Lib.hid hv
      have HX := Lib.hid hX
      have Hk := Lib.hid hk
      clear hLs hBs hv hX hk
      by_cases hX0 : X = 0
      · have hk0 : k = 0 := by rw [← Hk.out, hX0]; rfl
        subst hk0
        have hNlt : N < 10 ^ (19 * t) := by
          refine Nat.lt_of_not_le fun hle => ?_
          have := Nat.div_pos hle (Nat.pow_pos (by omega))
          rw [← HX.out, hX0] at this
          omega
        have hld := lowD_dec (19 * t) N hNlt
        have hdl := dec_length hNlt
        obtain ⟨b0, l0, hb0, hb48⟩ := dec_head N H0.out
        obtain ⟨z, hz⟩ : ∃ z, 19 * t - (dec N).length = z := ⟨_, rfl⟩
        rw [hz] at hld
        obtain ⟨a, ha⟩ : ∃ a, 1 + 19 * u = a := ⟨_, rfl⟩
        have hlen : a + z + (dec N).length = L := by have := HL0.out; omega
        have hdn : 0 < (dec N).length := List.length_pos_iff.2 (dec_ne_nil H0.out)
        rw [hld, ha] at HBs
        have haI : 1 + 19 * (u : Int) = (a : Int) := by omega
        rw [haI]
        have HB0 := Lib.hid hb0
        have Hlen : (List.replicate a (0 : UInt8) ++ (List.replicate z 48 ++ dec N)).length = L := by simp; omega
        have HLen := Lib.hid Hlen
        have ha1 : 1 ≤ a := by omega
        have hzI : z ≤ 19 * t := by omega
        clear hX0 hNlt hld hb0 hz ha haI HX Hlen hLI hblI hnb hl0
        go_wp2_with fail
        go_loop [6] (fun st => ∃ j : Nat, j ≤ z ∧ st = .int .i64 ((a : Int) + (j : Int))) (fun st => L - (intOf st).toNat)
        case atStart => exact ⟨0, Nat.zero_le _, by simp⟩
        case round =>
          obtain ⟨j, hj, rfl⟩ := hrel
          have hcell := HBs.out.cell (k := a + j) (by rw [HLen.out]; omega)
          by_cases hjz : j < z
          · have hg1 : (List.replicate a (0 : UInt8) ++ (List.replicate z 48 ++ dec N)).getD (a + j) 0 = 48 := by
              rw [List.getD_eq_getElem?_getD, List.getElem?_append_right (by simp), List.length_replicate, Nat.add_sub_cancel_left, List.getElem?_append_left (by simpa using hjz), List.getElem?_replicate_of_lt hjz]
              rfl
            rw [hg1, show (((48 : UInt8).toNat : Nat) : Int) = 48 from rfl] at hcell
            clear hg1
            go_wp2
            go_round
            case rel => exact ⟨j + 1, by omega, by go_num⟩
            case measure => simp [intOf]; omega
          · obtain rfl : j = z := by omega
            have hg1 : (List.replicate a (0 : UInt8) ++ (List.replicate j 48 ++ dec N)).getD (a + j) 0 = b0 := by
              rw [List.getD_eq_getElem?_getD, List.getElem?_append_right (by simp), List.length_replicate, Nat.add_sub_cancel_left, List.getElem?_append_right (by simp), List.length_replicate, Nat.sub_self, HB0.out]
              rfl
            rw [hg1] at hcell
            have hbn : ((b0.toNat : Int) == 48) = false := by
              rw [beq_eq_false_iff_ne]
              intro e
              exact hb48 (UInt8.toNat_inj.1 (by rw [show (48 : UInt8).toNat = 48 from rfl]; omega))
            have c0 := (Hv.out.at_ 0 rfl).cell0
            rw [Nat.add_zero] at c0
            clear hg1 hjz
            cases x
            · have hsl := slice_from gb L (a + j) (by omega)
              rw [show ((a + j : Nat) : Int) = (a : Int) + (j : Int) from by omega] at hsl
              have hst := HBs.out.strFrom (a + j) (L - (a + j)) (L - (a + j)) (by rw [HLen.out]; omega)
              rw [drop_dec] at hst
              go_wp2
              go_ret
              exact ⟨by rw [HT.out]; rfl, Hv.out.1⟩
            · have hfr := HBs.out.frozen (a + j - 1)
              have hcell2 := HBs.out.cell (k := a + j - 1) (by rw [HLen.out]; omega)
              have hBs2 := HBs.out.set (a + j - 1) 45
              rw [show (((45 : UInt8).toNat : Nat) : Int) = 45 from rfl] at hBs2
              have hlen2 : ((List.replicate a (0 : UInt8) ++ (List.replicate j 48 ++ dec N)).set (a + j - 1) 45).length = L := by rw [List.length_set, HLen.out]
              have hst := hBs2.strFrom (a + j - 1) (L - (a + j - 1)) (L - (a + j - 1)) (by rw [hlen2]; omega)
              rw [set_drop _ _ _ (by rw [HLen.out]; omega), show a + j - 1 + 1 = a + j from by omega, drop_dec] at hst
              have hsl := slice_from gb L (a + j - 1) (by omega)
              have eI : ((a + j - 1 : Nat) : Int) = (a : Int) + (j : Int) - 1 := by omega
              rw [eI] at hsl
              have hVs := Lib.hid (Hv.out.1.setCell (p := ⟨gb, a + j - 1, none⟩) (by show w.heap.size ≤ gb; omega) (.int .u8 45))
              clear hBs2 hlen2
              generalize (List.replicate a (0 : UInt8) ++ (List.replicate j 48 ++ dec N)).getD (a + j - 1) 0 = z0 at *
              go_wp2
              go_ret
              exact ⟨by rw [HT.out]; rfl, hVs.out⟩
      · have hkp : 0 < k := by
          rw [← Hk.out]
          exact List.length_pos_iff.2 fun e => hX0 (limbs_eq_nil.1 e)
        have hu : 0 < u := by
          refine Nat.pos_of_ne_zero fun h => hX0 ?_
          rw [HX.out, show t = bl by omega]
          exact Nat.div_eq_of_lt HRoom.out
        obtain ⟨u, rfl⟩ : ∃ v, u = v + 1 := ⟨u - 1, by omega⟩
        have hdp := Lib.hid (divideByPart_block (some ⟨g, 0, none⟩) k cp g (limbs X) tl2 wr Hk.out (fun _ => rfl) (fun _ => HLs.out) (limbs_limbs X) (by omega))
        rw [pval_limbs] at hdp
        have hkI : (k : Int) > 0 := by omega
        go_wp2_with fail
        with_reducible refine hdp.out.mono ?_
        rintro e w3 ⟨rfl, ⟨ds, hdl, hdq, hdv, hds⟩, hG3⟩
        have hL3 := hds hkp
        have hB3 : Bts w3 gb (List.replicate (1 + 19 * (u + 1)) 0 ++ lowD N (19 * t)) := HBs.out.block (hG3.block gb HBs.out.lt (fun e => by injection e; omega))
        have hv3 := Hv.out.grown hG3 (fun k hk => by injection hk with hk; subst hk; exact hvg)
        have hrd3 : RdA w3 (some ⟨g, 0, none⟩) ds := by
          have := hL3.rd.take ds.length
          rwa [List.take_left' rfl] at this
        have htr := Lib.hid (trim_any (some ⟨g, 0, none⟩) k cp ds w3 hdl hrd3 hkc hcm)
        have hpt := ptrim_limbs hdq
        rw [hdv] at hpt
        have hX2 := limbs_drop_digit N t X HX.out
        have hdg := digits_step N t X HX.out
        have HL3 := Lib.hid hL3
        have HB3 := Lib.hid hB3
        have Hv3 := Lib.hid hv3
        have HX2 := Lib.hid hX2
        have HDG := Lib.hid hdg
        have HPT := Lib.hid hpt
        have Hdl := Lib.hid hdl
        have hml : X % 10000000000000000000 < 10000000000000000000 := Nat.mod_lt _ (by omega)
        clear hdp hds hG3 hL3 hB3 hv3 hrd3 hX2 hdg hpt hdl hdv
        generalize X % 10000000000000000000 = bk at *
        go_wp2_with fail
        with_reducible refine htr.out.mono ?_
        rintro e w' ⟨rfl, rfl⟩
        obtain ⟨st, hst⟩ : ∃ st, st = 1 + 19 * u := ⟨_, rfl⟩
        have hstI : 1 + 19 * ((u : Int) + 1) - 19 = (st : Int) := by omega
        have hstI2 : 1 + 19 * (((u + 1 : Nat)) : Int) - 19 = (st : Int) := by omega
        have hL19 : st + 19 ≤ L := by have := HL0.out; omega
        have hst1 : 0 < st := by omega
        have hsl := slice_three gb L st hL19 hst1
        have hB4 := HB3.out
        rw [show 1 + 19 * (u + 1) = st + 19 from by omega, rep_split] at hB4
        have hwb := Lib.hid (writeBlock_any gb st 19 19 bk (List.replicate st 0) (List.replicate 19 0) (lowD N (19 * t)) w3 (by simp) (by simp) hB4 (by rw [B64_eq]; omega) (by omega) (by omega))
        have Hst := Lib.hid hst
        clear hB4 hst htr
        go_wp2_with fail
        with_reducible refine hwb.out.mono ?_
        rintro e w5 ⟨rfl, hB5, hG5⟩
        have hlt3 : (ptrim ds).length ≤ k := by rw [← Hdl.out]; exact ptrim_length_le ds
        have hL5 : Lst w5 g (limbs (X / 10000000000000000000) ++ (ds.drop (ptrim ds).length ++ tl2)) := by
          have h1 : Lst w5 g (ds ++ tl2) := HL3.out.block (hG5.block g HL3.out.lt (fun e => by injection e; omega))
          have e : ptrim ds ++ ds.drop (ptrim ds).length = ds := by
            have := List.take_append_drop (ptrim ds).length ds
            rwa [← ptrim_eq_take] at this
          rw [← HPT.out, ← List.append_assoc, e]
          exact h1
        have hv5 := Hv3.out.grown hG5 (fun k hk => by injection hk with hk; subst hk; show w.heap.size + 1 ≤ gb; omega)
        have HL5 := Lib.hid hL5
        have Hv5 := Lib.hid hv5
        have HB5 := Lib.hid hB5
        clear hL5 hv5 hB5 hG5 hwb
        go_wp2
        go_roundw
        case rel => exact ⟨u, t + 1, X / 10000000000000000000, (ptrim ds).length, _, rfl, by have := Hst.out; go_num, by omega, HX2.out, by rw [HPT.out], by omega, by omega, HL5.out, by rw [← HDG.out, ← Hst.out, ← List.append_assoc]; exact HB5.out, Hv5.out⟩
        case measure => have := Hst.out; simp [intOf]; omega
end Go.Proofs.YthbkgofpblganaaDoor
