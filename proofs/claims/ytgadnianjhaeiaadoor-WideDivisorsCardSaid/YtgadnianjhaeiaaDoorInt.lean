/-
  The contracts of wide.Int and of the reference's Int and From.
-/
import Derived.Test.YtgadnianjhaeiaaDoorRAdd
namespace Go.Proofs.YtgadnianjhaeiaaDoor
open Go.RowKit

theorem pow8 : (256 : Nat) ^ 8 = 18446744073709551616 := by rfl
theorem canon_len8 (N : Nat) : 8 < (canon N).length ↔ 18446744073709551616 ≤ N := by
  rw [← pow8]
  constructor
  · intro h
    exact Nat.le_of_not_lt fun hl => by have := canon_length_le hl; omega
  · intro h
    refine Nat.lt_of_not_le fun hl => ?_
    have h1 := bval_lt (canon N)
    rw [bval_canon] at h1
    have h2 : (256 : Nat) ^ (canon N).length ≤ 256 ^ 8 := Nat.pow_le_pow_right (by omega) hl
    omega

/-- What Int returns. -/
def fitv (z : Int) : Int := if -9223372036854775808 ≤ z ∧ z ≤ 9223372036854775807 then z else 0
def fitb (z : Int) : Bool := decide (-9223372036854775808 ≤ z ∧ z ≤ 9223372036854775807)

set_option maxHeartbeats 2000000 in
theorem Int_any (x : Bool) (s : ByteArray) (w : World) (hs : s.size ≤ 1000) (z : Int) (hz : wint x s = z) :
    Calls Tryd.prog 30 #[.agg #[.bool x, .string s]] w fun e w' => e = .returned (.tuple #[.int .i64 (fitv z), .bool (fitb z)]) ∧ Below w.heap.size w w' := by
  have hp := fun W => significant_any s W (by unfold maxLen; omega)
  have hq := fun W => partOf_any (bstr (canon (bval s.data.toList))) W
  have hN : z = if x then -(bval s.data.toList : Int) else bval s.data.toList := hz.symm
  generalize bval s.data.toList = N at *
  have h8 := canon_len8 N
  rw [bstr_size] at hq
  have hbv : bval (bstr (canon N)).data.toList = N := by rw [bstr_data, bval_canon]
  rw [hbv] at hq
  have hbs := bstr_size (canon N)
  generalize bstr (canon N) = S at *
  generalize (canon N).length = L at *
  have HP := Lib.hid hp
  have HQ := Lib.hid hq
  have HZ := Lib.hid hN
  have HV := Lib.hid (Vars.start1 w x s)
  clear hp hq hN hbv
  by_cases hL : 8 < L
  · have hN2 := h8.1 hL
    clear h8
    go_enter Tryd.func30, Tryd.ntmps30
    go_wp2_with fail
    with_reducible refine (HP.out _).mono ?_
    rintro e w' ⟨rfl, rfl⟩
    go_wp2
    go_ret2
    have hf1 : fitv z = 0 := by unfold fitv; rw [if_neg (by rw [HZ.out]; split <;> omega)]
    have hf2 : fitb z = false := by unfold fitb; rw [decide_eq_false]; rw [HZ.out]; split <;> omega
    exact ⟨by rw [hf1, hf2]; rfl, HV.out.1⟩
  · have hN2 : N < 18446744073709551616 := by omega
    cases x
    · by_cases hm : N ≤ 9223372036854775807
      · have hz2 : z = (N : Int) := by rw [HZ.out]; rfl
        have hf1 : fitv z = (N : Int) := by unfold fitv; rw [if_pos (by omega), hz2]
        have hf2 : fitb z = true := by unfold fitb; rw [decide_eq_true]; omega
        have H1 := Lib.hid hf1
        have H2 := Lib.hid hf2
        clear hf1 hf2 hz2 h8
        go_enter Tryd.func30, Tryd.ntmps30
        go_wp2_with fail
        with_reducible refine (HP.out _).mono ?_
        rintro e w' ⟨rfl, rfl⟩
        go_wp2_with fail
        with_reducible refine (HQ.out _ (by omega)).mono ?_
        rintro e w' ⟨rfl, rfl⟩
        go_wp2
        go_ret2
        exact ⟨by rw [H1.out, H2.out]; rfl, HV.out.1⟩
      · have hf1 : fitv z = 0 := by unfold fitv; rw [if_neg (by rw [HZ.out]; simp; omega)]
        have hf2 : fitb z = false := by unfold fitb; rw [decide_eq_false]; rw [HZ.out]; simp; omega
        have H1 := Lib.hid hf1
        have H2 := Lib.hid hf2
        clear hf1 hf2 h8
        go_enter Tryd.func30, Tryd.ntmps30
        go_wp2_with fail
        with_reducible refine (HP.out _).mono ?_
        rintro e w' ⟨rfl, rfl⟩
        go_wp2_with fail
        with_reducible refine (HQ.out _ (by omega)).mono ?_
        rintro e w' ⟨rfl, rfl⟩
        go_wp2
        go_ret2
        exact ⟨by rw [H1.out, H2.out]; rfl, HV.out.1⟩
    · by_cases hm : N ≤ 9223372036854775808
      · have hz2 : z = -(N : Int) := by rw [HZ.out]; rfl
        have hf1 : fitv z = -(N : Int) := by unfold fitv; rw [if_pos (by omega), hz2]
        have hf2 : fitb z = true := by unfold fitb; rw [decide_eq_true]; omega
        have e1 : wrap64 (IntKind.u64.wrap (-(N : Int))) = -(N : Int) := by unfold wrap64; rw [IntKind.wrap_u64]; omega
        have H1 := Lib.hid hf1
        have H2 := Lib.hid hf2
        have E1 := Lib.hid e1
        clear hf1 hf2 hz2 h8 e1
        go_enter Tryd.func30, Tryd.ntmps30
        go_wp2_with fail
        with_reducible refine (HP.out _).mono ?_
        rintro e w' ⟨rfl, rfl⟩
        go_wp2_with fail
        with_reducible refine (HQ.out _ (by omega)).mono ?_
        rintro e w' ⟨rfl, rfl⟩
        go_wp2
        go_ret2
        exact ⟨by rw [H1.out, H2.out]; exact congrArg (fun v => Ending.returned (.tuple #[.int .i64 v, .bool true])) E1.out, HV.out.1⟩
      · have hf1 : fitv z = 0 := by unfold fitv; rw [if_neg (by rw [HZ.out]; simp; omega)]
        have hf2 : fitb z = false := by unfold fitb; rw [decide_eq_false]; rw [HZ.out]; simp; omega
        have H1 := Lib.hid hf1
        have H2 := Lib.hid hf2
        clear hf1 hf2 h8
        go_enter Tryd.func30, Tryd.ntmps30
        go_wp2_with fail
        with_reducible refine (HP.out _).mono ?_
        rintro e w' ⟨rfl, rfl⟩
        go_wp2_with fail
        with_reducible refine (HQ.out _ (by omega)).mono ?_
        rintro e w' ⟨rfl, rfl⟩
        go_wp2
        go_ret2
        exact ⟨by rw [H1.out, H2.out]; rfl, HV.out.1⟩

theorem qds_len4 (N : Nat) : 4 < (qds N).length ↔ 18446744073709551616 ≤ N := by
  have e4 : C16 ^ 4 = 18446744073709551616 := by rw [C16_eq]
  rw [← e4]
  constructor
  · intro h
    exact Nat.le_of_not_lt fun hl => by have := qds_length hl; omega
  · intro h
    refine Nat.lt_of_not_le fun hl => ?_
    have h1 := qval_lt (qds_qds N)
    rw [qval_qds] at h1
    have h2 : C16 ^ (qds N).length ≤ C16 ^ 4 := Nat.pow_le_pow_right C16_pos hl
    omega
theorem drop_small (D : List Nat) (h : Qds D) (j : Nat) (hl : D.length ≤ 4) (hj : 0 < j) : qval (D.drop j) < 281474976710656 := by
  have h1 := qval_lt (l := D.drop j) fun x hx => h x (List.mem_of_mem_drop hx)
  have h2 : C16 ^ (D.drop j).length ≤ C16 ^ 3 := Nat.pow_le_pow_right C16_pos (by rw [List.length_drop]; omega)
  have e3 : C16 ^ 3 = 281474976710656 := by rw [C16_eq]
  omega

set_option maxRecDepth 100000 in
set_option maxHeartbeats 4000000 in
theorem RInt_any (x : Bool) (s : ByteArray) (w : World) (hs : s.size ≤ 400) (z : Int) (hz : wint x s = z) :
    Calls Tryd.prog 31 #[.agg #[.bool x, .string s]] w fun e w' => e = .returned (.tuple #[.int .i64 (fitv z), .bool (fitb z)]) ∧ Below w.heap.size w w' := by
  have hps := fun W => rdigits x s W (by omega)
  have hN : z = if x then -(bval s.data.toList : Int) else bval s.data.toList := hz.symm
  generalize bval s.data.toList = N at *
  have h4 := qds_len4 N
  have HS := Lib.hid hps
  have HZ := Lib.hid hN
  have HV := Lib.hid (Vars.start1 w x s)
  clear hps hN hz
  by_cases hL : 18446744073709551616 ≤ N
  · have hf1 : fitv z = 0 := by unfold fitv; rw [if_neg (by rw [HZ.out]; split <;> omega)]
    have hf2 : fitb z = false := by unfold fitb; rw [decide_eq_false]; rw [HZ.out]; split <;> omega
    have H1 := Lib.hid hf1
    have H2 := Lib.hid hf2
    have H4 := Lib.hid (h4.2 hL)
    clear hf1 hf2 h4
    go_enter Tryd.func31, Tryd.ntmps31
    go_wp2_with fail
    with_reducible refine (HS.out _).mono ?_
    rintro e w1 ⟨A1, n1, c1, rfl, hn1, hr1, hb1⟩
    have hn4 : 4 < n1 := by rw [← hr1.2.1]; exact H4.out
    go_wp2
    go_ret2
    exact ⟨by rw [H1.out, H2.out]; rfl, (HV.out.step hb1).1⟩
  · have hln : (qds N).length ≤ 4 := by omega
    clear h4
    go_enter Tryd.func31, Tryd.ntmps31
    go_wp2_with fail
    with_reducible refine (HS.out _).mono ?_
    rintro e w1 ⟨A1, n1, c1, rfl, hn1, hr1, hb1⟩
    obtain ⟨hrd, hlen, hcc, hcm⟩ := hr1
    have hn4 : n1 ≤ 4 := by omega
    have hqd := qds_qds N
    have hqv := qval_qds N
    generalize qds N = D at *
    have Hrd := Lib.hid hrd
    have Hlen := Lib.hid hlen
    have Hqv := Lib.hid hqv
    have hd0 := ((HV.out.step hb1).at_ 0 rfl).cell0
    rw [Nat.add_zero] at hd0
    have HB := Lib.hid (HV.out.step hb1).1
    clear hrd hlen hqv hb1
    go_wp2_with fail
    go_loop [5, 6] (fun m i => ∃ j : Nat, i = .int .i64 ((j : Int) - 1) ∧ j ≤ n1 ∧ m = .int .u64 (qval (D.drop j) : Nat)) (fun _ i => (intOf i + 1).toNat)
    case atStart => exact ⟨n1, by go_num, Nat.le_refl _, by rw [List.drop_of_length_le (by rw [Hlen.out]; exact Nat.le_refl _)]; rfl⟩
    case round =>
      obtain ⟨j, rfl, hj, rfl⟩ := hrel
      cases j with
      | succ j =>
        obtain ⟨a, rfl, hab, hca⟩ := Hrd.out j (by rw [Hlen.out]; omega)
        have hsm := drop_small D hqd (j + 1) (by rw [Hlen.out]; exact hn4) (by omega)
        have hdx : D.getD j 0 < 65536 := hqd.getD j
        have hqd2 := Lib.hid (qval_drop D j (by rw [Hlen.out]; omega))
        have hij : ((j + 1 : Nat) : Int) - 1 = j := by omega
        rw [hij]
        generalize qval (D.drop (j + 1)) = V at *
        generalize D.getD j 0 = d at *
        clear hij
        go_wp2
        go_round
        case rel => exact ⟨j, by go_num, by omega, by rw [hqd2.out, C16_eq]; go_num⟩
        case measure => simp [intOf]
      | zero =>
        have hv : qval (D.drop 0) = N := by rw [List.drop_zero]; exact Hqv.out
        rw [hv]
        clear hv
        cases x
        · by_cases hm : N ≤ 9223372036854775807
          · have hz2 : z = (N : Int) := by rw [HZ.out]; rfl
            have H1 := Lib.hid (show fitv z = (N : Int) by unfold fitv; rw [if_pos (by omega), hz2])
            have H2 := Lib.hid (show fitb z = true by unfold fitb; rw [decide_eq_true]; omega)
            clear hz2
            have hge : decide ((N : Int) ≥ 9223372036854775808) = false := by rw [decide_eq_false]; omega
            go_wp2
            go_ret2
            exact ⟨by rw [H1.out, H2.out]; rfl, HB.out⟩
          · have H1 := Lib.hid (show fitv z = 0 by unfold fitv; rw [if_neg (by rw [HZ.out]; simp; omega)])
            have H2 := Lib.hid (show fitb z = false by unfold fitb; rw [decide_eq_false]; rw [HZ.out]; simp; omega)
            have hge : decide ((N : Int) ≥ 9223372036854775808) = true := by rw [decide_eq_true]; omega
            go_wp2
            go_ret2
            exact ⟨by rw [H1.out, H2.out]; rfl, HB.out⟩
        · by_cases hm : N ≤ 9223372036854775808
          · have hz2 : z = -(N : Int) := by rw [HZ.out]; rfl
            have H1 := Lib.hid (show fitv z = -(N : Int) by unfold fitv; rw [if_pos (by omega), hz2])
            have H2 := Lib.hid (show fitb z = true by unfold fitb; rw [decide_eq_true]; omega)
            have E1 := Lib.hid (show wrap64 (IntKind.u64.wrap (-(N : Int))) = -(N : Int) by unfold wrap64; rw [IntKind.wrap_u64]; omega)
            clear hz2
            go_wp2
            go_ret2
            exact ⟨by rw [H1.out, H2.out]; exact congrArg (fun v => Ending.returned (.tuple #[.int .i64 v, .bool true])) E1.out, HB.out⟩
          · have H1 := Lib.hid (show fitv z = 0 by unfold fitv; rw [if_neg (by rw [HZ.out]; simp; omega)])
            have H2 := Lib.hid (show fitb z = false by unfold fitb; rw [decide_eq_false]; rw [HZ.out]; simp; omega)
            have hge : decide ((N : Int) ≥ 9223372036854775808) = true := by rw [decide_eq_true]; omega
            go_wp2
            go_ret2
            exact ⟨by rw [H1.out, H2.out]; rfl, HB.out⟩

set_option maxRecDepth 100000 in
set_option maxHeartbeats 4000000 in
theorem RFrom_any (n : Int) (w : World) (h1 : -9223372036854775808 ≤ n) (h2 : n ≤ 9223372036854775807) :
    Calls Tryd.prog 33 #[.int .i64 n] w fun e w' => e = .returned (.agg #[.bool (wneg n), .string (wmag n)]) ∧ Below w.heap.size w w' := by
  obtain ⟨i0, hi, hz0, hz1, hz2⟩ := info_parts info_int
  obtain ⟨N, hN⟩ : ∃ N, N = n.natAbs := ⟨_, rfl⟩
  have hNb : N ≤ 9223372036854775808 := by omega
  have hu : n < 0 → IntKind.u64.wrap (-IntKind.u64.wrap n) = (N : Int) := fun h => by rw [IntKind.wrap_u64, IntKind.wrap_u64]; omega
  have hp : ¬ n < 0 → n = (N : Int) := fun h => by omega
  have hsg : ∀ b, b = decide (n < 0) → sgi b N = n := fun b e => by
    rw [e]; unfold sgi
    by_cases h : n < 0
    · rw [decide_eq_true h, if_pos rfl]; omega
    · rw [decide_eq_false h, if_neg (by decide)]; omega
  have hwd := fun b e A k c W h hn => rwide b A k c N W h hn n (hsg b e)
  generalize wneg n = sg at *
  generalize wmag n = S at *
  have HG := Lib.hid hwd
  have HU := Lib.hid hu
  have HP := Lib.hid hp
  have HD := Lib.hid (Wd.new w false ⟨#[]⟩)
  clear hN hu hp hsg hwd
  by_cases h0 : n < 0
  all_goals go_enter Tryd.func33, Tryd.ntmps33
  all_goals go_wp2
  all_goals first | rw [HU.out h0] | rw [HP.out h0]
  all_goals
    generalize hW1 : w.alloc (wbox false ⟨#[]⟩) = W1 at *
    have HW1 := Lib.hid hW1
    have HB1 := Lib.hid (show Below w.heap.size w W1 by rw [← hW1]; exact (Below.refl _ _).alloc (Nat.le_refl _) _)
    clear hW1
    go_loopw [3, 4] (fun v m wr => ∃ (D : List Nat) (r k : Nat), m = .int .u64 r ∧ D.length = k ∧ k ≤ 4 ∧ r < 65536 ^ (4 - k) ∧ Qds D ∧ qval D + C16 ^ k * r = N ∧ OwJ wr (w.heap.size + 1) v D ∧ Wd wr w.heap.size false ⟨#[]⟩ ∧ Below w.heap.size w wr)
      (fun _ m _ => (intOf m).toNat)
    case atStart => exact ⟨[], N, 0, rfl, rfl, by omega, by rw [show (65536 : Nat) ^ (4 - 0) = 18446744073709551616 from rfl]; omega, Qds.nil, by simp [qval], OwJ.nil _ _, HD.out, HB1.out⟩
    case round =>
      obtain ⟨D, r, k, rfl, hlen, hk, hr, hq, hval, hown, hwd, hbel⟩ := hrel
      have Hval := Lib.hid hval
      have Hown := Lib.hid hown
      have Hwd := Lib.hid hwd
      have Hbel := Lib.hid hbel
      clear hval hown hwd hbel
      have hbw : w.heap.size + 1 ≤ wr.heap.size := by have := Hwd.out.lt; omega
      by_cases hr0 : r = 0
      · subst hr0
        have hN : qval D = N := by have := Hval.out; simpa using this
        have HN := Lib.hid hN
        obtain ⟨A', c', rfl, hc', hm', hrd, _⟩ := Hown.out.rd
        have hwdd := Lib.hid (fun W hrd b e => HG.out b e A' k c' W ⟨D, hrd, hlen, by omega, hm', hq, HN.out⟩ (by omega))
        clear hN
        go_wp2_with fail
        first
          | with_reducible refine (hwdd.out _ hrd true (decide_eq_true h0).symm).mono ?_
          | with_reducible refine (hwdd.out _ hrd false (decide_eq_false h0).symm).mono ?_
          | with_reducible refine (hwdd.out _ hrd _ rfl).mono ?_
          | with_reducible refine (hwdd.out _ hrd (decide ((N : Int) < 0)) (by rw [HP.out h0])).mono ?_
        rintro e w5 ⟨rfl, hb5⟩
        have hW5 := Hwd.out.below hb5 Hwd.out.lt
        have hz0 := hW5.cell0
        have hz1 := hW5.cell1
        have hzf0 := hW5.frozen 0
        have hzf1 := hW5.frozen 1
        have hB5 := Hbel.out.trans (hb5.mono Hbel.out.size)
        go_wp2
        exact post_wide (b := w.heap.size) rfl rfl ((hW5.set0 _).set1 _) rfl ⟨rfl, (hB5.setCell (Nat.le_refl _) _).setCell (Nat.le_refl _) _⟩
      · have hk3 : k ≤ 3 := by
          refine Nat.le_of_not_lt fun h => ?_
          have : 4 - k = 0 := by omega
          rw [this] at hr
          omega
        have hrl : r < 18446744073709551616 := Nat.lt_of_lt_of_le hr (by
          have : (65536 : Nat) ^ (4 - k) ≤ 65536 ^ 4 := Nat.pow_le_pow_right (by omega) (by omega)
          simpa using this)
        have hr2 : r / 65536 < 65536 ^ (4 - (k + 1)) := by
          rw [Nat.div_lt_iff_lt_mul (by omega), ← Nat.pow_succ, show (4 - (k + 1)).succ = 4 - k from by omega]
          exact hr
        have hval2 : qval (D ++ [r % 65536]) + C16 ^ (k + 1) * (r / 65536) = N := by
          rw [qval_snoc, hlen, Nat.pow_succ, Nat.mul_assoc, Nat.add_assoc, ← Nat.mul_add, C16_eq, Nat.mod_add_div, ← C16_eq]
          exact Hval.out
        obtain ⟨d, hd⟩ : ∃ d : Nat, d = r % 65536 := ⟨_, rfl⟩
        obtain ⟨r2, hr2'⟩ : ∃ r2 : Nat, r2 = r / 65536 := ⟨_, rfl⟩
        have e1 : (r : Int) % 65536 = (d : Int) := by omega
        have e2 : (r : Int) / 65536 = (r2 : Int) := by omega
        have hdl : d < 65536 := by omega
        have hrr : r2 < r := by omega
        rw [← hd, ← hr2'] at hval2
        rw [← hr2'] at hr2
        have Hval2 := Lib.hid hval2
        have Hr2 := Lib.hid hr2
        clear hval2 hd hr2' hr2 hr
        go_wp2_with (at_builtin; refine wpList_append_own _ rfl (.tmp 13) (.tmp 17) 61 rfl (w.heap.size + 1) 3 i0 (.int .i64 0) 1 8 Tryd.underlying61 hi hz0 hz1 hz2 rfl (by decide) _ D.length (D.map fun x : Nat => Value.int .i64 (x : Int)) rfl (World.ownsRow.alloc Hown.out _) ⟨wr.heap.size, 0, none⟩ 1 1 [.int .i64 ((d : Nat) : Int)] rfl rfl (cell_one_new _ _ _) (fun x hx => by simp at hx; subst hx; rfl) (by unfold maxLen; omega) (by omega) (by simp; omega) ?_; intro v2 w2 hown2 hgrow2 _)
        go_roundw
        case rel => exact ⟨D ++ [d], r2, k + 1, by first | rfl | rw [e2], by simp [hlen], by omega, Hr2.out, hq.snoc (by rw [C16_eq]; exact hdl), Hval2.out, OwJ.push hown2, (Hwd.out.alloc _).grown hgrow2 Hown.out.own (by omega), (Hbel.out.alloc Hbel.out.size _).grown hgrow2 (by simp; omega) (fun k hk => by have := Hown.out.own k hk; omega)⟩
        case measure => simp [intOf]; omega
end Go.Proofs.YtgadnianjhaeiaaDoor
