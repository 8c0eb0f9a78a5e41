/-
  The contract of wide.Parse, for every string of at most 2^40 bytes.
-/
import Derived.Test.YtgadnianjhaeiaaDoorDec
namespace Go.Proofs.YtgadnianjhaeiaaDoor
open Go.RowKit

theorem dval_zeros (l : List UInt8) : dval (Lib.trimLeftB l 48) = dval l := by
  have h : ∀ l : List UInt8, ∀ n : Nat, (l.foldl (fun n c => n * 10 + (c.toNat - 48)) 0) = n → (Lib.trimLeftB l 48).foldl (fun n c => n * 10 + (c.toNat - 48)) 0 = n := by
    intro l
    induction l with
    | nil => intro n h; exact h
    | cons a l ih =>
      intro n h
      unfold Lib.trimLeftB at ih ⊢
      rw [List.dropWhile_cons]
      by_cases ha : a = 48
      · subst ha
        simp only [beq_self_eq_true, if_true]
        exact ih n (by simpa using h)
      · have : (a == 48) = false := by simpa using ha
        rw [this]
        exact h
  exact h l _ rfl
theorem trim_all (l : List UInt8) (h : l.all digit = true) : (Lib.trimLeftB l 48).all digit = true := by
  rw [List.all_eq_true] at h ⊢
  exact fun x hx => h x ((List.dropWhile_sublist _).subset hx)
theorem trim_length (l : List UInt8) : (Lib.trimLeftB l 48).length ≤ l.length := (List.dropWhile_sublist _).length_le
theorem cut_length (l p : List UInt8) : (Lib.trimPrefix l p).length ≤ l.length := by
  unfold Lib.trimPrefix
  split
  · simp
  · exact Nat.le_refl _
/-- What wide.Parse returns. -/
def parseS (l : List UInt8) : Int × Bool :=
  if isDec (Lib.trimPrefix l [45]) then (if Lib.hasPrefix l [45] then -(dval (Lib.trimPrefix l [45]) : Int) else dval (Lib.trimPrefix l [45]), true) else (0, false)

theorem digs_pval (l : List Nat) (h : Limbs l) : digs (pval l) l.length = l := by
  have key : ∀ n, n = l.length → digs (pval l) n = l := by
    revert h
    refine snoc_ind (p := fun l => Limbs l → ∀ n, n = l.length → digs (pval l) n = l) ?_ ?_ l
    · intro _ n hn; subst hn; rfl
    · intro l x ih hl n hn
      have hl1 : Limbs l := fun y hy => hl y (List.mem_append_left _ hy)
      have hx : x < B64 := hl x (by simp)
      rw [hn, List.length_append, List.length_singleton, digs]
      have hlt := pval_lt hl1
      have hpos : 0 < B64 ^ l.length := Nat.pow_pos B64_pos
      have e1 : digs (pval (l ++ [x])) l.length = digs (pval l) l.length := by
        have : ∀ (a b : Nat) (k : Nat), a % B64 ^ k = b % B64 ^ k → digs a k = digs b k := by
          intro a b k
          induction k with
          | zero => intro _; rfl
          | succ k ihk =>
            intro e
            have e0 : a % B64 ^ k = b % B64 ^ k := by
              have := congrArg (· % B64 ^ k) e
              simp only [Nat.pow_succ] at this
              rwa [Nat.mod_mul_right_mod, Nat.mod_mul_right_mod] at this
            have e2 : a / B64 ^ k % B64 = b / B64 ^ k % B64 := by
              rw [Nat.pow_succ] at e
              rw [← Nat.mod_mul_right_div_self, ← Nat.mod_mul_right_div_self, e]
            rw [digs, digs, ihk e0, e2]
        refine this _ _ _ ?_
        rw [pval_snoc, Nat.add_mul_mod_self_left]
      have e2 : pval (l ++ [x]) / B64 ^ l.length % B64 = x := by
        rw [pval_snoc, Nat.add_mul_div_left _ _ hpos, Nat.div_eq_of_lt hlt, Nat.zero_add, Nat.mod_eq_of_lt hx]
      rw [e1, e2, ih hl1 _ rfl]
  exact key _ rfl

theorem tenpow : (10 : Nat) ^ 19 = 10000000000000000000 := by rfl
theorem tenpow_lt : 10 ^ 19 < B64 := by rw [tenpow, B64_eq]; omega
theorem tenB (k : Nat) : 10 ^ (19 * k) ≤ B64 ^ k := by
  rw [Nat.pow_mul]
  exact Nat.pow_le_pow_left (Nat.le_of_lt tenpow_lt) k

/-- One more block of digits. -/
theorem parse_step (V c k : Nat) (hV : V < B64 ^ k) (hc : c < B64) (m : Nat) :
    (tpN (digs V k ++ List.replicate (m + 1) 0) (10 ^ 19) c k).1 ++ [(tpN (digs V k ++ List.replicate (m + 1) 0) (10 ^ 19) c k).2] = digs (V * 10 ^ 19 + c) (k + 1) := by
  have hl : Limbs (digs V k ++ List.replicate (m + 1) 0) := by
    intro x hx
    rcases List.mem_append.1 hx with hx | hx
    · exact digs_limbs V k x hx
    · rw [(List.mem_replicate.1 hx).2]; exact B64_pos
  have hok := tpN_ok _ (10 ^ 19) c k hl tenpow_lt hc
  have hv := tpN_val (digs V k ++ List.replicate (m + 1) 0) (10 ^ 19) c k
  rw [List.take_append_of_le_length (by rw [digs_length]; exact Nat.le_refl _), List.take_of_length_le (by rw [digs_length]; exact Nat.le_refl _), pval_digs, Nat.mod_eq_of_lt hV] at hv
  have hlen := tpN_length (digs V k ++ List.replicate (m + 1) 0) (10 ^ 19) c k
  generalize (tpN (digs V k ++ List.replicate (m + 1) 0) (10 ^ 19) c k) = q at *
  have h := digs_pval (q.1 ++ [q.2]) (hok.1.snoc hok.2)
  rw [pval_snoc, hlen, List.length_append, hlen, List.length_singleton, hv] at h
  exact h.symm
theorem block_value (E : List UInt8) (c d : Nat) (hcd : c ≤ d) (hd : d ≤ E.length) : dval (E.take d) = dval (E.take c) * 10 ^ (d - c) + dval ((E.drop c).take (d - c)) := by
  have e : E.take d = E.take c ++ (E.drop c).take (d - c) := by
    rw [← List.take_add, Nat.add_sub_cancel' hcd]
  rw [e, dval_append]
  congr 3
  rw [List.length_take, List.length_drop]; omega

set_option maxHeartbeats 2000000 in
theorem Parse_no (s : ByteArray) (w : World) (hs : s.size ≤ maxLen) (hd : isDec (Lib.trimPrefix s.data.toList [45]) = false) :
    Calls Tryd.prog 35 #[.string s] w fun e w' => e = .returned (.tuple #[wv 0, .bool false]) ∧ Below w.heap.size w w' := by
  have hc := Tryd.strings_CutPrefix s ⟨#[45]⟩
  change ∀ w, Calls Tryd.prog _ _ w fun e w' => e = .returned (.tuple #[.string (bstr (Lib.trimPrefix s.data.toList [45])), .bool (Lib.hasPrefix s.data.toList [45])]) ∧ w' = w at hc
  have hl := cut_length s.data.toList [45]
  have hi := fun W => isDecimal_any (bstr (Lib.trimPrefix s.data.toList [45])) W (by rw [bstr_size]; have := Lib.size_eq s; omega)
  rw [bstr_data, hd] at hi
  generalize Lib.hasPrefix s.data.toList [45] = neg at *
  generalize bstr (Lib.trimPrefix s.data.toList [45]) = D at *
  have HC := Lib.hid hc
  have HI := Lib.hid hi
  clear hc hi hd hl
  go_enter Tryd.func35, Tryd.ntmps35
  go_wp2_with fail
  with_reducible refine (HC.out _).mono ?_
  rintro e w1 ⟨rfl, hw1⟩
  rw [hw1]
  clear hw1
  go_wp2_with fail
  with_reducible refine (HI.out _).mono ?_
  rintro e w2 ⟨rfl, rfl⟩
  go_wp2
  exact post_wide_tmp (b := w.heap.size) rfl rfl (Wd.new w false ⟨#[]⟩) rfl ⟨rfl, (Below.refl _ _).alloc (Nat.le_refl _) _⟩

theorem slice_head (g n k : Nat) (hk : k < n) (w : World) :
    (Instr.slice 58 (.slice (some ⟨g, 0, none⟩) n n) none (some (.int .i64 (k : Int))) none).run Tryd.prog w = .ok (.slice (some ⟨g, 0, none⟩) k n) w := by
  have h := run_slice_h (P := Tryd.prog) (w := w) 58 (some ⟨g, 0, none⟩) n n (by kernel_rfl) .i64 (k : Int) (by omega) (by omega)
  rw [h]
  have e : Tryd.prog.elem 58 = 71 := by kernel_rfl
  rw [e, Tryd.sizeOf71]
  simp [Result.andThen, sliced, Addr.add]

set_option maxRecDepth 100000 in
set_option maxHeartbeats 4000000 in
theorem Parse_yes (s : ByteArray) (w : World) (hs : s.size ≤ 1099511627776) (hd : isDec (Lib.trimPrefix s.data.toList [45]) = true) :
    Calls Tryd.prog 35 #[.string s] w fun e w' =>
      e = .returned (.tuple #[wv (if Lib.hasPrefix s.data.toList [45] = true then -(dval (Lib.trimPrefix s.data.toList [45]) : Int) else dval (Lib.trimPrefix s.data.toList [45])), .bool true]) ∧ Below w.heap.size w w' := by
  have hc := Tryd.strings_CutPrefix s ⟨#[45]⟩
  change ∀ w, Calls Tryd.prog _ _ w fun e w' => e = .returned (.tuple #[.string (bstr (Lib.trimPrefix s.data.toList [45])), .bool (Lib.hasPrefix s.data.toList [45])]) ∧ w' = w at hc
  have hl := cut_length s.data.toList [45]
  have hi := fun W => isDecimal_any (bstr (Lib.trimPrefix s.data.toList [45])) W (by rw [bstr_size]; have := Lib.size_eq s; unfold maxLen; omega)
  rw [bstr_data, hd] at hi
  have ht := Tryd.strings_TrimLeft_one (bstr (Lib.trimPrefix s.data.toList [45])) 48 (by decide)
  change ∀ w, Calls Tryd.prog _ _ w fun e w' => e = .returned (.string (bstr (Lib.trimLeftB (Lib.trimPrefix s.data.toList [45]) 48))) ∧ w' = w at ht
  have hdz := dval_zeros (Lib.trimPrefix s.data.toList [45])
  have hall : (Lib.trimPrefix s.data.toList [45]).all digit = true := by
    unfold isDec at hd
    rw [Bool.and_eq_true] at hd
    exact hd.1
  have hE := trim_all _ hall
  have hEl := Nat.le_trans (trim_length (Lib.trimPrefix s.data.toList [45])) hl
  rw [← Lib.size_eq] at hEl
  rw [← hdz]
  generalize Lib.hasPrefix s.data.toList [45] = neg at *
  generalize Lib.trimLeftB (Lib.trimPrefix s.data.toList [45]) 48 = E at *
  generalize bstr (Lib.trimPrefix s.data.toList [45]) = D at *
  obtain ⟨L, hL⟩ : ∃ L, L = E.length := ⟨_, rfl⟩
  obtain ⟨n, hn⟩ : ∃ n, n = (L + 18) / 19 := ⟨_, rfl⟩
  have hn1 : 19 * n ≤ L + 18 := by omega
  have hn2 : L ≤ 19 * n := by omega
  have hLb : L ≤ 1099511627776 := by omega
  have hmk := make_parts n (by omega)
  rw [show ((n : Nat) : Int) = ((L : Int) + 19 - 1) / 19 from by omega] at hmk
  have hES : (bstr E).size = L := by rw [bstr_size, hL]
  have hVb : ∀ k, k ≤ n → dval (E.take (L - 19 * (n - k))) < B64 ^ k := fun k hk => by
    have h1 := dval_lt (E.take (L - 19 * (n - k))) (all_take_of _ _ hE)
    have h2 : (E.take (L - 19 * (n - k))).length ≤ 19 * k := by rw [List.length_take]; omega
    exact Nat.lt_of_lt_of_le (Nat.lt_of_lt_of_le h1 (Nat.pow_le_pow_right (by omega) h2)) (tenB k)
  obtain ⟨sg, S, hr⟩ := wv_agg (if neg = true then -(dval E : Int) else dval E)
  rw [hr]
  have hlimb : (limbs (dval E)).length ≤ n := by
    refine limbs_length_le ?_
    have := hVb n (Nat.le_refl _)
    rwa [Nat.sub_self, Nat.mul_zero, Nat.sub_zero, hL, List.take_of_length_le (Nat.le_refl _)] at this
  have HC := Lib.hid hc
  have HI := Lib.hid hi
  have HT := Lib.hid ht
  have HE := Lib.hid hE
  have HL := Lib.hid hL
  have HVB := Lib.hid hVb
  have HR := Lib.hid hr
  have HN := Lib.hid hn
  clear hc hi ht hE hL hVb hr hdz hall hEl hl hd hn
  generalize hSE : bstr E = SE at *
  have HSE := Lib.hid hSE
  clear hSE
  have Hst := Lib.hid hES
  go_enter Tryd.func35, Tryd.ntmps35
  go_wp2_with fail
  with_reducible refine (HC.out _).mono ?_
  rintro e w1 ⟨rfl, hw1⟩
  rw [hw1]
  clear hw1
  go_wp2_with fail
  with_reducible refine (HI.out _).mono ?_
  rintro e w2 ⟨rfl, rfl⟩
  go_wp2_with fail
  with_reducible refine (HT.out _).mono ?_
  rintro e w3 ⟨rfl, hw3⟩
  rw [hw3]
  clear hw3
  go_wp2
  obtain ⟨w1, hw1⟩ : ∃ w1, w1 = w.alloc (wbox false ⟨#[]⟩) := ⟨_, rfl⟩
  obtain ⟨g, hg⟩ : ∃ g, g = w.heap.size + 1 := ⟨_, rfl⟩
  have hsz : w1.heap.size = g := by rw [hw1, hg]; simp
  have hVs : Vars w w1 [(false, ⟨#[]⟩)] := by rw [hw1]; exact Vars.start1 w false ⟨#[]⟩
  have hL0 : Lst (w1.alloc (.cells (U (List.replicate n 0)) 71)) g (List.replicate n 0) := by rw [← hsz]; exact Lst.new _ _
  have hB0 : Below g w1 (w1.alloc (.cells (U (List.replicate n 0)) 71)) := (Below.refl _ _).alloc (by omega) _
  rw [← hw1, ← hg]
  have hbw : Below w.heap.size w w1 := hVs.1
  have Hg := Lib.hid hg
  have Hsz := Lib.hid hsz
  have HVs := Lib.hid hVs
  clear hg hmk hw1 hsz hVs
  go_loopw [4, 28] (fun d i wr => ∃ k : Nat, k ≤ n ∧ i = .int .i64 k ∧ d = .string (bstr (E.drop (L - 19 * (n - k)))) ∧ Lst wr g (digs (dval (E.take (L - 19 * (n - k)))) k ++ List.replicate (n - k) 0) ∧ Below g w1 wr)
    (fun _ i _ => n - (intOf i).toNat)
  case atStart => exact ⟨0, Nat.zero_le _, rfl, by rw [show L - 19 * (n - 0) = 0 from by omega, List.drop_zero, HSE.out], hL0, hB0⟩
  case round =>
    obtain ⟨k, hk, rfl, rfl, hLk, hB⟩ := hrel
    by_cases hlt : k < n
    · obtain ⟨c, hc⟩ : ∃ c, c = L - 19 * (n - k) := ⟨_, rfl⟩
      obtain ⟨c', hc'⟩ : ∃ c', c' = L - 19 * (n - (k + 1)) := ⟨_, rfl⟩
      have hnL : n = (L + 18) / 19 := HN.out
      have hcc : c < c' := by omega
      have hcL : c' ≤ L := by omega
      have hsize : ((L - c : Nat) : Int) - 1 = ((L - c - 1 : Nat) : Int) := by omega
      have hsz2 : (((L - c : Nat) : Int) - 1) % 19 + 1 = ((c' - c : Nat) : Int) := by omega
      have hc19 : c' - c ≤ 19 := by omega
      have hVk := HVB.out k hk
      have hstep : ∀ cc, dval (E.take c') = dval (E.take c) * 10 ^ 19 + cc ↔ dval (E.take c') = dval (E.take c) * 10 ^ 19 + cc := fun _ => Iff.rfl
      have hbv : dval (E.take c') = dval (E.take c) * 10 ^ 19 + dval ((E.drop c).take (c' - c)) := by
        have := block_value E c c' (by omega) (by rw [← HL.out]; exact hcL)
        rw [this]
        by_cases h0 : k = 0
        · have : c = 0 := by omega
          rw [this, List.take_zero]
          simp [dval]
        · rw [show c' - c = 19 from by omega]
      have hRs : (bstr (E.drop c)).size = L - c := by rw [bstr_size, List.length_drop, ← HL.out]
      rw [← hc] at hLk hVk
      rw [← hc]
      have hbl : (dval ((E.drop c).take (c' - c))) < B64 := by
        have h1 := dval_lt ((E.drop c).take (c' - c)) (all_take_of _ _ (all_drop_of _ _ HE.out))
        have h2 : ((E.drop c).take (c' - c)).length ≤ 19 := by rw [List.length_take]; omega
        exact Nat.lt_trans (Nat.lt_of_lt_of_le h1 (Nat.pow_le_pow_right (by omega) h2)) tenpow_lt
      have hps := parse_step (dval (E.take c)) (dval ((E.drop c).take (c' - c))) k hVk hbl (n - (k + 1))
      rw [← hbv, show n - (k + 1) + 1 = n - k from by omega] at hps
      have hlimk : Limbs (digs (dval (E.take c)) k ++ List.replicate (n - k) 0) := by
        intro x hx
        rcases List.mem_append.1 hx with hx | hx
        · exact digs_limbs _ _ x hx
        · rw [(List.mem_replicate.1 hx).2]; exact B64_pos
      have hrb : ∀ W, Calls Tryd.prog 70 #[.string ((bstr (E.drop c)).extract 0 (c' - c))] W fun e W' => e = .returned (.int .u64 (dval ((E.drop c).take (c' - c)) : Nat)) ∧ W = W' := fun W => by
        have e : ((bstr (E.drop c)).extract 0 (c' - c)).data.toList = (E.drop c).take (c' - c) := by rw [Lib.extract_data, bstr_data]; simp
        have h := readBlock_any ((bstr (E.drop c)).extract 0 (c' - c)) W (by rw [Lib.size_eq, e, List.length_take]; omega) (by rw [e]; exact all_take_of _ _ (all_drop_of _ _ HE.out))
        rw [e] at h
        exact h
      have hsl := slice_head g n k hlt
      have hdrop : (bstr (E.drop c)).extract (c' - c) (L - c) = bstr (E.drop c') := by
        rw [← hRs, extract_bstr, bstr_data, List.drop_drop]; congr 2; omega
      have htp := fun (T : Option Addr) ct (W : World) (hT : 0 < k → T = some ⟨g, 0, none⟩) (h1 : Lst W g (digs (dval (E.take c)) k ++ List.replicate (n - k) 0)) =>
        timesPlus_any T k ct g (10 ^ 19) (dval ((E.drop c).take (c' - c))) _ W hT h1 (by simp [digs_length]) hlimk tenpow_lt hbl (by omega)
      rw [tenpow] at htp hps
      rw [show ((10000000000000000000 : Nat) : Int) = 10000000000000000000 from rfl] at htp
      have hdr : (digs (dval (E.take c)) k ++ List.replicate (n - k) 0).drop k = List.replicate (n - k) 0 := by
        rw [List.drop_left' (digs_length _ _)]
      rw [hdr] at htp
      have htl := tpN_length (digs (dval (E.take c)) k ++ List.replicate (n - k) 0) 10000000000000000000 (dval ((E.drop c).take (c' - c))) k
      generalize tpN (digs (dval (E.take c)) k ++ List.replicate (n - k) 0) 10000000000000000000 (dval ((E.drop c).take (c' - c))) k = q at *
      generalize dval ((E.drop c).take (c' - c)) = bl at *
      generalize digs (dval (E.take c)) k ++ List.replicate (n - k) 0 = ts at *
      have HPS := Lib.hid hps
      have HTP := Lib.hid htp
      have HRB := Lib.hid hrb
      have HDR := Lib.hid hdrop
      have HTL := Lib.hid htl
      have HCC := Lib.hid hc'
      clear hps htp hrb hdr htl hbv hstep hVk hbl hlimk hc hdrop hnL hc' hsize
      have hss : ∀ W, (Instr.slice 9 (.string (bstr (E.drop c))) none (some (.int .i64 ((c' - c : Nat) : Int))) none).run Tryd.prog W = .ok (.string ((bstr (E.drop c)).extract 0 (c' - c))) W := fun W => by
        rw [run_slice_string_h (P := Tryd.prog) (w := W) 9 _ Tryd.underlying9 .i64 _ (by omega) (by rw [hRs]; omega)]
        rw [Int.toNat_natCast]
      generalize hS1 : bstr (E.drop c) = S1 at *
      have hkn : (k : Int) < (n : Int) := by omega
      go_wp2_with fail
      go_region_with (first
        | (go_at_call 70; (with_reducible refine (HRB.out _).mono ?_); rintro e w2 ⟨rfl, rfl⟩)
        | (go_at_call 69; (with_reducible refine (HTP.out _ _ _ (fun _ => rfl) hLk.drew).mono ?_); rintro e w2 ⟨rfl, hL2, hG2⟩; have hcell2 := hL2.cell (k := k) (by rw [List.length_append, HTL.out, List.length_replicate]; omega); have hfr2 := hL2.frozen k))
      have hB2 : Below g w1 w2 := hB.drew.grown hG2 (Nat.le_of_lt hLk.lt) (by intro j hj; cases hj; exact Nat.le_refl _)
      have hB3 := hB2.setCell (p := ⟨g, k, none⟩) (Nat.le_refl g) (.int .u64 (q.2 : Int))
      have hL3 := hL2.set k q.2
      have hset := set_mid q.1 (n - (k + 1)) q.2
      rw [HTL.out, show n - (k + 1) + 1 = n - k from by omega, HPS.out] at hset
      rw [hset] at hL3
      have HL3 := Lib.hid hL3
      clear hset hL3 hL2
      go_wp2
      go_roundw
      case rel => exact ⟨k + 1, by omega, by go_num, by rw [← HCC.out, ← HDR.out], by rw [← HCC.out]; exact HL3.out, hB3⟩
      case measure => simp [intOf]; omega
    · obtain rfl : k = n := by omega
      have hEE : E.take (L - 19 * (k - k)) = E := by
        rw [Nat.sub_self, Nat.mul_zero, Nat.sub_zero, HL.out, List.take_of_length_le (Nat.le_refl _)]
      rw [hEE, Nat.sub_self, List.replicate_zero, List.append_nil] at hLk
      have hV := HVB.out k (Nat.le_refl _)
      rw [hEE] at hV
      have hpt := ptrim_limbs (digs_limbs (dval E) k)
      rw [pval_digs, Nat.mod_eq_of_lt hV] at hpt
      have htr := fun ct hct hm => trim_any (some ⟨g, 0, none⟩) k ct (digs (dval E) k) wr (digs_length _ _) hLk.rd hct hm
      rw [hpt] at htr
      have hrd : RdA wr (some ⟨g, 0, none⟩) (limbs (dval E)) := by
        have := hLk.rd.take (limbs (dval E)).length
        rwa [← hpt, ← ptrim_eq_take, hpt] at this
      have hsg := fun ct => signed_any neg (some ⟨g, 0, none⟩) (limbs (dval E)).length ct (dval E) wr rfl hrd (by omega)
      rw [HR.out] at hsg
      have hVr := Lib.hid (HVs.out.step (w' := wr) (by rw [Hsz.out]; exact hB))
      have HTR := Lib.hid htr
      have HSG := Lib.hid hsg
      clear hLk hV hpt htr hrd hsg hEE
      generalize (limbs (dval E)).length = nz at *
      go_wp2_with fail
      with_reducible refine (HTR.out _ (Nat.le_refl _) (by unfold maxLen; omega)).mono ?_
      rintro e w4 ⟨rfl, rfl⟩
      go_wp2_with fail
      with_reducible refine (HSG.out _).mono ?_
      rintro e w5 ⟨rfl, hb5⟩
      have hV5 := hVr.out.step hb5
      have hz0 := (hV5.at_ 0 rfl).cell0
      have hz1 := (hV5.at_ 0 rfl).cell1
      have hzf0 := (hV5.at_ 0 rfl).frozen 0
      have hzf1 := (hV5.at_ 0 rfl).frozen 1
      rw [Nat.add_zero] at hz0 hz1 hzf0 hzf1
      have hV6 := hV5.put 0 rfl sg S
      go_wp2
      exact post_wide_tmp (b := w.heap.size) rfl rfl (hV6.at_ 0 rfl) rfl ⟨rfl, hV6.1⟩

/-- wide.Parse, for every string of at most 2^40 bytes. -/
theorem Parse_any (s : ByteArray) (w : World) (hs : s.size ≤ 1099511627776) :
    Calls Tryd.prog 35 #[.string s] w fun e w' => e = .returned (.tuple #[wv (parseS s.data.toList).1, .bool (parseS s.data.toList).2]) ∧ Below w.heap.size w w' := by
  unfold parseS
  cases hd : isDec (Lib.trimPrefix s.data.toList [45])
  · rw [if_neg (by decide)]
    exact Parse_no s w (by unfold maxLen; omega) hd
  · rw [if_pos rfl]
    exact Parse_yes s w hs hd
end Go.Proofs.YtgadnianjhaeiaaDoor
