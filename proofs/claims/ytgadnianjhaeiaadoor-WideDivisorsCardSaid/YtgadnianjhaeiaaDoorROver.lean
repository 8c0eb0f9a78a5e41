/-
  The contract of the reference's over: the quotient and the remainder of two numbers, the second one not 0.
-/
import Derived.Test.YtgadnianjhaeiaaDoorRBy
import Derived.Laws.AppendOwnNone
namespace Go.Proofs.YtgadnianjhaeiaaDoor
open Go.RowKit

theorem div_digit16 (H x d q r : Nat) (hd : 0 < d) (hq : (x + C16 * (H % d)) / d = q) (hr : (x + C16 * (H % d)) % d = r) : (x + C16 * H) / d = q + C16 * (H / d) ∧ (x + C16 * H) % d = r := by
  have h1 := Nat.div_add_mod H d
  have h2 := Nat.div_add_mod (x + C16 * (H % d)) d
  rw [hq, hr] at h2
  have h3 : x + C16 * H = d * (q + C16 * (H / d)) + r := by
    have e : C16 * H = d * (C16 * (H / d)) + C16 * (H % d) := by
      conv => lhs; rw [← h1, Nat.mul_add, Nat.mul_left_comm]
    rw [Nat.mul_add]
    omega
  have hlt : r < d := by rw [← hr]; exact Nat.mod_lt _ hd
  rw [h3]
  exact ⟨by rw [Nat.mul_add_div hd, Nat.div_eq_of_lt hlt, Nat.add_zero], by rw [Nat.mul_add_mod, Nat.mod_eq_of_lt hlt]⟩
theorem sgn2_le {N M : Nat} (h : N ≤ M) : sgn2 N M ≤ 0 := by unfold sgn2; split; omega; split <;> omega
theorem sgn2_gt {N M : Nat} (h : M < N) : sgn2 N M = 1 := by unfold sgn2; rw [if_neg (by omega), if_neg (by omega)]

/-- An append among the operations, out of its run. -/
theorem wpList_append_run {P : Program} {w w' : World} {ops : Array Oper} {rest : List Oper} {o : Oper} {a : Act} {Q : Exit → Act → World → Prop} (hgd : o.guard = none) (s x : Operand) (t : TypeId)
    (ho : o.op = .call { callee := .builtin .append, args := #[s, x], argTypes := #[t, t] }) (sv xv v : Value) (hs : a.eval s = sv) (hx : a.eval x = xv)
    (hrun : (Builtin.append_ #[t, t] o.type #[sv, xv]).run P w = .ok v w') (h : wpList P ops Q rest (a.put o.dst v) w') : wpList P ops Q (o :: rest) a w := by
  refine wpList_plain hgd fun K hK => ?_
  unfold Oper.wp
  simp [execOp, ho, resolve, invoke, builtin, hs, hx, hrun, Result.andThen]
  exact hK _ _ h
set_option maxRecDepth 100000 in
theorem prepend (W : World) (x : Nat) (A : Option Addr) (k c V : Nat) (h : Rq W A k c V) (hk : k ≤ 1000) : ∃ v2 w2, (Builtin.append_ #[61, 61] 61 #[.slice (some ⟨W.heap.size, 0, none⟩) 1 1, .slice A k c]).run Tryd.prog (W.alloc (.cells #[.int .i64 (x : Int)] 3)) = .ok v2 w2 ∧ OwJ w2 W.heap.size v2 (x :: qds V) ∧ Below W.heap.size W w2 := by
  obtain ⟨i0, hi, hz0, hz1, hz2⟩ := info_parts info_int
  obtain ⟨hrd, hlen, _, _, hA⟩ := h
  have hB1 : Below W.heap.size W (W.alloc (.cells #[.int .i64 (x : Int)] 3)) := (Below.refl _ _).alloc (Nat.le_refl _) _
  have hrd2 := hrd.below hB1
  have hown : (W.alloc (.cells #[.int .i64 (x : Int)] 3)).ownsRow W.heap.size 3 1 (.slice (some ⟨W.heap.size, 0, none⟩) 1 1) 1 [.int .i64 (x : Int)] := by
    refine ⟨by simp, .inr ⟨W.heap.size, 1, #[.int .i64 (x : Int)], rfl, Nat.le_refl _, heap_alloc_new W _, Nat.le_refl _, by unfold maxLen; omega, ?_, ?_⟩⟩ <;> simp
  cases A with
  | none =>
    obtain rfl := hA rfl
    have hV : qds V = [] := by
      cases hq : qds V with
      | nil => rfl
      | cons y l =>
        obtain ⟨a, e, _⟩ := hrd 0 (by rw [hq]; simp)
        cases e
    obtain rfl : k = 0 := by rw [← hlen, hV]; rfl
    rw [hV]
    exact ⟨_, _, run_append_owned_none (P := Tryd.prog) (w := W.alloc (.cells #[.int .i64 (x : Int)] 3)) W.heap.size 61 61 3 i0 1 Tryd.underlying61 hi _ _ _ hown, hown, hB1⟩
  | some a =>
    obtain ⟨v', w', hr, hown', hgr, hnil⟩ := run_append_own (P := Tryd.prog) (W.alloc (.cells #[.int .i64 (x : Int)] 3)) W.heap.size 61 61 3 i0 (.int .i64 0) 1 8 Tryd.underlying61 hi hz0 hz1 hz2 rfl (by decide) _ _ _ hown a k c ((qds V).map fun x : Nat => Value.int .i64 (x : Int)) (by simp [hlen])
      (fun j u hj => by
        have hjl : j < (qds V).length := by
          have := (List.getElem?_eq_some_iff.1 hj).1
          simpa using this
        obtain ⟨a', e, _, hc⟩ := hrd2 j hjl
        injection e with e
        subst e
        rw [hc]
        rw [List.getElem?_map, List.getElem?_eq_getElem hjl] at hj
        rw [List.getD_eq_getElem?_getD, List.getElem?_eq_getElem hjl]
        exact hj) (fun u hu => by obtain ⟨x, _, rfl⟩ := List.mem_map.1 hu; rfl) (by unfold maxLen; omega) (by omega) (by simp)
    refine ⟨v', w', hr, ?_, ?_⟩
    · unfold OwJ
      rw [List.length_cons, hlen, List.map_cons, Nat.add_comm k 1]
      exact hown'
    · exact hB1.grown hgr (by simp) (by intro k hk; simp [Value.ownBlock] at hk; omega)

theorem RdJ.far {w : World} {A : Option Addr} {xs : List Nat} (h : RdJ w A xs) (p : Addr) (hne : ∀ a, A = some a → a.block ≠ p.block) (u : Value) : RdJ (w.setCell p u) A xs := fun k hk => by
  obtain ⟨a, e, hb, hc⟩ := h k hk
  refine ⟨a, e, by simpa [World.setCell] using hb, ?_⟩
  rw [World.cell?_setCell_other]
  · exact hc
  · intro e2
    exact hne a e (by rw [e2, block_add])
theorem Rq.far {w : World} {A : Option Addr} {n c N : Nat} (h : Rq w A n c N) (p : Addr) (hne : ∀ a, A = some a → a.block ≠ p.block) (u : Value) : Rq (w.setCell p u) A n c N := ⟨h.1.far p hne u, h.2⟩
theorem set_digit (j q : Nat) (ds : List Nat) : (List.replicate (j + 1) 0 ++ ds).set j q = List.replicate j 0 ++ (q :: ds) := by
  rw [List.replicate_succ', List.append_assoc, List.set_append_right _ _ (by simp), List.length_replicate, Nat.sub_self, List.singleton_append, List.set_cons_zero]

set_option maxRecDepth 100000 in
set_option maxHeartbeats 8000000 in
theorem rover (A B : Option Addr) (n m ca cb N M : Nat) (w : World) (h1 : Rq w A n ca N) (h2 : Rq w B m cb M) (hM : 0 < M) (nx : n ≤ 400) (ny : m ≤ 400) :
    Calls Tryd.prog 71 #[.slice A n ca, .slice B m cb] w fun e w' => ∃ C k c C' k' c', e = .returned (.tuple #[.slice C k c, .slice C' k' c']) ∧ k ≤ n ∧ k' ≤ m ∧ Rq w' C k c (N / M) ∧ Rq w' C' k' c' (N % M) ∧ Below w.heap.size w w' := by
  have hmk := make_ints n (by omega)
  have hMm : M < C16 ^ m := by
    have := qval_lt (qds_qds M)
    rwa [qval_qds, h2.2.1] at this
  have hMm1 : C16 * M ≤ C16 ^ (m + 1) := by rw [Nat.pow_succ, Nat.mul_comm]; exact Nat.mul_le_mul_right _ (Nat.le_of_lt hMm)
  have hl1 := h1.2.1
  have hqd := qds_qds N
  have hqv := qval_qds N
  have hrd := h1.1
  generalize qds N = E at *
  have H2 := Lib.hid h2
  have Hl1 := Lib.hid hl1
  have Hqv := Lib.hid hqv
  have Hrd := Lib.hid hrd
  have HMm := Lib.hid hMm
  have HMm1 := Lib.hid hMm1
  have HMM := Lib.hid hM
  clear h1 h2 hl1 hqv hrd hMm hMm1
  go_enter Tryd.func71, Tryd.ntmps71
  go_wp2_with fail
  obtain ⟨g, hg⟩ : ∃ g, g = w.heap.size := ⟨_, rfl⟩
  have hL0 : Jst (w.alloc (.cells (J (List.replicate n 0)) 3)) g (List.replicate n 0) := by rw [hg]; exact Jst.new _ _
  have hB0 : Below g w (w.alloc (.cells (J (List.replicate n 0)) 3)) := (Below.refl _ _).alloc (by omega) _
  rw [← hg]
  have Hg := Lib.hid hg
  clear hg hmk
  go_loopw [7, 8, 9, 10, 11] (fun r i _ _ _ wr => ∃ (j : Nat) (ds : List Nat) (A' : Option Addr) (k c : Nat), i = .int .i64 ((j : Int) - 1) ∧ j ≤ n ∧ j + ds.length = n ∧ Qds ds ∧ qval ds = qval (E.drop j) / M ∧ Jst wr g (List.replicate j 0 ++ ds) ∧ r = .slice A' k c ∧ Rq wr A' k c (qval (E.drop j) % M) ∧ Below g w wr)
    (fun _ i _ _ _ _ => (intOf i + 1).toNat)
  case atStart =>
    refine ⟨n, [], none, 0, 0, by go_num, Nat.le_refl _, by simp, Qds.nil, ?_, by rw [List.append_nil]; exact hL0, rfl, ?_, hB0⟩
    · rw [List.drop_of_length_le (by rw [Hl1.out]; exact Nat.le_refl _)]; simp [qval]
    · rw [List.drop_of_length_le (by rw [Hl1.out]; exact Nat.le_refl _)]
      exact ⟨by simp [qval, qds_zero]; exact RdJ.nil _ _, by simp [qval, qds_zero], Nat.le_refl _, by unfold maxLen; omega, fun _ => rfl⟩
  case round =>
    obtain ⟨j, ds, A', k, c, rfl, hj, hdl, hdq, hdv, hJ, rfl, hr, hbel⟩ := hrel
    have Hdv := Lib.hid hdv
    have HJ := Lib.hid hJ
    have Hr := Lib.hid hr
    have Hbel := Lib.hid hbel
    clear hdv hJ hr hbel
    cases j with
    | zero =>
      rw [List.drop_zero, Hqv.out] at Hdv Hr
      rw [List.replicate_zero, List.nil_append] at HJ
      rw [Nat.zero_add] at hdl
      have hrd3 := HJ.out.rd
      have hpt := ptrim_qds hdq
      rw [Hdv.out] at hpt
      have htr := Lib.hid (reftrim_any _ n n ds wr hdl hrd3 (Nat.le_refl _) (by unfold maxLen; omega))
      have hres : Rq wr (some ⟨g, 0, none⟩) (ptrim ds).length n (N / M) := by
        have h3 := hrd3.take (ptrim ds).length
        rw [← ptrim_eq_take, hpt] at h3
        have h4 := ptrim_length_le ds
        rw [hpt] at h4 ⊢
        exact ⟨h3, rfl, by omega, by unfold maxLen; omega, fun e => by cases e⟩
      have HRES := Lib.hid hres
      have h5 := ptrim_length_le ds
      have hkm : k ≤ m := Hr.out.len (Nat.lt_trans (Nat.mod_lt _ HMM.out) HMm.out)
      clear hres hpt hrd3
      go_wp2_with fail
      with_reducible refine htr.out.mono ?_
      rintro e w' ⟨rfl, rfl⟩
      go_wp2
      go_ret2
      exact ⟨_, _, _, _, _, _, rfl, by omega, hkm, HRES.out, Hr.out, by rw [← Hg.out]; exact Hbel.out⟩
    | succ j =>
      obtain ⟨a, rfl, hab, hca0⟩ := Hrd.out j (by rw [Hl1.out]; omega)
      have hca := (Hbel.out.cell (p := a.add j) (by rw [block_add, Hg.out]; exact hab)).trans hca0
      have hx : E.getD j 0 < 65536 := hqd.getD j
      have hE := Lib.hid (qval_drop E j (by rw [Hl1.out]; omega))
      have hij : ((j + 1 : Nat) : Int) - 1 = j := by omega
      rw [hij]
      clear hca0 hij
      have hkm : k ≤ m := Hr.out.len (Nat.lt_trans (Nat.mod_lt _ HMM.out) HMm.out)
      generalize qval (E.drop (j + 1)) = H at *
      generalize E.getD j 0 = x at *
      obtain ⟨V, hV⟩ : ∃ V, x + C16 * (H % M) = V := ⟨_, rfl⟩
      have hVM : V < C16 * M := by
        have h1 := Nat.mod_lt H HMM.out
        have h2 : C16 * (H % M + 1) ≤ C16 * M := Nat.mul_le_mul_left _ h1
        rw [Nat.mul_add, Nat.mul_one] at h2
        have h3 : x < C16 := by rw [C16_eq]; exact hx
        omega
      obtain ⟨v2, w2, hrun, hown, hb2⟩ := prepend wr x A' k c (H % M) Hr.out (by omega)
      have HRUN := Lib.hid hrun
      have hB2 : Below g w w2 := Hbel.out.trans (hb2.mono (by have := HJ.out.lt; omega))
      have hJ2 : Jst w2 g (List.replicate (j + 1) 0 ++ ds) := HJ.out.below hb2 HJ.out.lt
      have hwrg : g < wr.heap.size := HJ.out.lt
      obtain ⟨A2, c2, rfl, hc2, hcm2, hrd2, hA2⟩ := hown.rd
      have hne2 : ∀ a, A2 = some a → a.block ≠ g := fun a e => by
        subst e
        have := hown.own a.block rfl
        omega
      have HNE := Lib.hid hne2
      clear hne2
      have hqx : Qds (x :: qds (H % M)) := Qds.cons (by rw [C16_eq]; exact hx) (qds_qds _)
      have hvx : qval (x :: qds (H % M)) = V := by rw [qval, qval_qds]; exact hV
      have hpt := ptrim_qds hqx
      rw [hvx] at hpt
      have htr := Lib.hid (reftrim_any A2 _ c2 _ w2 rfl hrd2 hc2 hcm2)
      have hlen2 : (x :: qds (H % M)).length = k + 1 := by rw [List.length_cons, Hr.out.2.1]
      have hr3 : Rq w2 A2 (ptrim (x :: qds (H % M))).length c2 V := by
        have h3 := hrd2.take (ptrim (x :: qds (H % M))).length
        rw [← ptrim_eq_take, hpt] at h3
        have h4 := ptrim_length_le (x :: qds (H % M))
        rw [hpt] at h4 ⊢
        exact ⟨h3, rfl, by omega, hcm2, hA2⟩
      have hk3 : (ptrim (x :: qds (H % M))).length ≤ m + 1 := hr3.len (Nat.lt_of_lt_of_le hVM HMm1.out)
      have hD1 : V / M < C16 := by rw [Nat.div_lt_iff_lt_mul HMM.out]; exact hVM
      obtain ⟨q, hq⟩ : ∃ q, V / M = q := ⟨_, rfl⟩
      obtain ⟨r1, hr1⟩ : ∃ r, V % M = r := ⟨_, rfl⟩
      have hdd := div_digit16 H x M q r1 HMM.out (by rw [hV]; exact hq) (by rw [hV]; exact hr1)
      have HDD := Lib.hid hdd
      have HVM := Lib.hid hVM
      have Hq := Lib.hid hq
      have Hr1 := Lib.hid hr1
      have HR3 := Lib.hid hr3
      have HJ2 := Lib.hid hJ2
      have HB2 := Lib.hid hB2
      have hcmp := Lib.hid (rcompare A2 B _ m c2 cb V M w2 hr3 (H2.out.below (by rw [← Hg.out]; exact hB2)) (by omega) (by omega))
      clear hdd hVM hq hr1 hr3 hJ2 hB2 hb2 hrun hown hrd2 hpt hvx hV hqx HJ Hr Hbel
      rw [hlen2] at htr
      generalize hkk : (ptrim (x :: qds (H % M))).length = kk at *
      clear hkk
      go_wp2_with (at_builtin; refine wpList_append_run rfl (.tmp 26) (.tmp 27) 61 rfl _ _ _ rfl rfl HRUN.out ?_)
      with_reducible refine htr.out.mono ?_
      rintro e w' ⟨rfl, rfl⟩
      have hcb := sgn2_bound V M
      have hs1 : V < M → sgn2 V M = -1 := fun h => sgn2_lt h
      have hs2 : ¬ V < M → 0 ≤ sgn2 V M := fun h => sgn2_ge (by omega)
      generalize sgn2 V M = cm at *
      go_wp2_with fail
      with_reducible refine hcmp.out.mono ?_
      rintro e w5 ⟨rfl, hb5⟩
      have hr5 := Lib.hid (HR3.out.below hb5)
      have hJ5 := Lib.hid (HJ2.out.below hb5 HJ2.out.lt)
      have hB5 := Lib.hid (HB2.out.trans (hb5.mono (Nat.le_of_lt HJ2.out.lt)))
      clear hb5 hcmp HRUN htr
      obtain ⟨wo, rfl⟩ : ∃ wo : World, wo = wr := ⟨_, rfl⟩
      obtain ⟨h0, hh0, hh1, hh2⟩ : ∃ h0 : Nat, (V < M → h0 = 1) ∧ (¬ V < M → h0 = 65536) ∧ V < h0 * M := by
        by_cases h : V < M
        · exact ⟨1, fun _ => rfl, fun h' => absurd h h', by omega⟩
        · exact ⟨65536, fun h' => absurd h' h, fun _ => rfl, by have := HVM.out; rw [C16_eq] at this; exact this⟩
      have Hh2 := Lib.hid hh2
      by_cases hVb : V < M
      all_goals
        first | have hcm := hs1 hVb | have hcm := hs2 hVb
        first | have hh := hh0 hVb | have hh := hh1 hVb
        have hhb : 0 < h0 ∧ h0 ≤ 65536 := by omega
        clear hs1 hs2 hh0 hh1 hVb hh2
        go_wp2_with fail
        go_loopw [9, 10, 11] (fun lo hi _ wr => ∃ l h : Nat, lo = .int .i64 l ∧ hi = .int .i64 h ∧ l < h ∧ h ≤ 65536 ∧ l * M ≤ V ∧ V < h * M ∧ Rq wr A2 kk c2 V ∧ Jst wr g (List.replicate (j + 1) 0 ++ ds) ∧ Below g w wr)
          (fun lo hi _ _ => (intOf hi - intOf lo).toNat)
        case atStart => exact ⟨0, h0, rfl, by rw [hh]; rfl, hhb.1, hhb.2, by omega, Hh2.out, hr5.out, hJ5.out, hB5.out⟩
        case round =>
          obtain ⟨l, h, rfl, rfl, hlh, hh6, hlM, hhM, hrq, hJ6, hb6⟩ := hrel
          have HlM := Lib.hid hlM
          have HhM := Lib.hid hhM
          have Hrq := Lib.hid hrq
          have HJ6 := Lib.hid hJ6
          have Hb6 := Lib.hid hb6
          clear hlM hhM hrq hJ6 hb6 hr5 hJ5 hB5
          have hBw : Below w.heap.size w wr := by rw [← Hg.out]; exact Hb6.out
          have hH2 := Lib.hid (H2.out.below hBw)
          clear hBw
          by_cases hgap : l + 1 < h
          · obtain ⟨mid, hmid⟩ : ∃ mid : Nat, mid = (l + h) / 2 := ⟨_, rfl⟩
            have e1 : ((l : Int) + (h : Int)) / 2 = (mid : Int) := by omega
            have hm1 : l < mid ∧ mid < h := by omega
            have hgi : (h : Int) - (l : Int) > 1 := by omega
            clear hmid
            have hby := Lib.hid (rby B m cb M mid wr hH2.out.z (by omega) (by omega))
            go_wp2_with fail
            with_reducible refine hby.out.mono ?_
            rintro e w6 ⟨C, k1, c1, rfl, hk1, hr6, hb6⟩
            have hrq6 := Hrq.out.below hb6
            have hcp := Lib.hid (rcompare C A2 k1 kk c1 c2 (M * mid) V w6 hr6 hrq6 (by omega) (by omega))
            have hJ7 := HJ6.out.below hb6 HJ6.out.lt
            have hB7 : Below g w w6 := Hb6.out.trans (hb6.mono (Nat.le_of_lt HJ6.out.lt))
            have HJ7 := Lib.hid hJ7
            have HB7 := Lib.hid hB7
            have HQ6 := Lib.hid hrq6
            have hs1 : M * mid ≤ V → sgn2 (M * mid) V ≤ 0 := fun h => sgn2_le h
            have hs2 : ¬ M * mid ≤ V → sgn2 (M * mid) V = 1 := fun h => sgn2_gt (by omega)
            have hcb2 := sgn2_bound (M * mid) V
            have hcase : M * mid ≤ V ∨ ¬ M * mid ≤ V := by omega
            generalize sgn2 (M * mid) V = cm2 at *
            clear hr6 hb6 hby hJ7 hB7 hrq6
            go_wp2_with fail
            with_reducible refine hcp.out.mono ?_
            rintro e w7 ⟨rfl, hb7⟩
            have HQ7 := Lib.hid (HQ6.out.below hb7)
            have HJ8 := Lib.hid (HJ7.out.below hb7 HJ7.out.lt)
            have HB8 := Lib.hid (HB7.out.trans (hb7.mono (Nat.le_of_lt HJ7.out.lt)))
            clear hb7 hcp
            rcases hcase with hc | hc
            · have hcm2 := hs1 hc
              have Hc := Lib.hid hc
              clear hs1 hs2 hc
              go_wp2
              go_roundw
              case rel => exact ⟨mid, h, rfl, rfl, hm1.2, hh6, by rw [Nat.mul_comm]; exact Hc.out, HhM.out, HQ7.out, HJ8.out, HB8.out⟩
              case measure => simp [intOf]; omega
            · have hcm2 := hs2 hc
              have Hc := Lib.hid hc
              clear hs1 hs2 hc
              go_wp2
              go_roundw
              case rel => exact ⟨l, mid, rfl, rfl, hm1.1, by omega, HlM.out, by have := Hc.out; rw [Nat.mul_comm]; omega, HQ7.out, HJ8.out, HB8.out⟩
              case measure => simp [intOf]; omega
          · have hgi : ¬ (h : Int) - (l : Int) > 1 := by omega
            obtain rfl : h = l + 1 := by omega
            have hql : q = l := by
              rw [← Hq.out]
              refine Nat.div_eq_of_lt_le HlM.out HhM.out
            have hcell := HJ6.out.cell (k := j) (by simp; omega)
            have hfr := HJ6.out.frozen j
            have hJ9 := HJ6.out.set j l
            rw [set_digit] at hJ9
            have hrq9 := Hrq.out.far ⟨g, j, none⟩ HNE.out (.int .i64 (l : Int))
            have hB9 := Hb6.out.setCell (p := ⟨g, j, none⟩) (Nat.le_refl g) (.int .i64 (l : Int))
            have hH9 := Lib.hid (H2.out.below (show Below w.heap.size w (wr.setCell ⟨g, j, none⟩ (.int .i64 (l : Int))) by rw [← Hg.out]; exact hB9))
            have hby := Lib.hid (rby B m cb M l _ hH9.out.z (by omega) (by omega))
            have HJ9 := Lib.hid hJ9
            have HR9 := Lib.hid hrq9
            have HB9 := Lib.hid hB9
            have hvv : V - M * l = r1 := by
              have := Nat.div_add_mod V M
              rw [Hq.out, Hr1.out, hql] at this
              omega
            have hle : M * l ≤ V := by rw [Nat.mul_comm]; exact HlM.out
            have HVV := Lib.hid hvv
            have HLE := Lib.hid hle
            have HQL := Lib.hid hql
            clear hJ9 hrq9 hB9 hvv hle hql
            generalize (List.replicate (j + 1) 0 ++ ds).getD j 0 = z0 at *
            go_wp2_with fail
            with_reducible refine hby.out.mono ?_
            rintro e w6 ⟨C, k1, c1, rfl, hk1, hr6, hb6⟩
            have hrq6 := HR9.out.below hb6
            have hmi := Lib.hid (rminus A2 C kk k1 c2 c1 V (M * l) w6 hrq6 hr6 (by omega) HLE.out)
            have HJ7 := Lib.hid (HJ9.out.below hb6 HJ9.out.lt)
            have HB7 := Lib.hid (HB9.out.trans (hb6.mono (Nat.le_of_lt HJ9.out.lt)))
            clear hr6 hb6 hby hrq6
            go_wp2_with fail
            with_reducible refine hmi.out.mono ?_
            rintro e w7 ⟨C2, k2, c3, rfl, hk2, hr7, hb7⟩
            rw [HVV.out] at hr7
            have HR7 := Lib.hid hr7
            have HJ8 := Lib.hid (HJ7.out.below hb7 HJ7.out.lt)
            have HB8 := Lib.hid (HB7.out.trans (hb7.mono (Nat.le_of_lt HJ7.out.lt)))
            clear hb7 hmi hr7
            go_wp2
            go_roundw
            case rel => exact ⟨j, l :: ds, C2, k2, c3, by go_num, by omega, by rw [List.length_cons]; omega, Qds.cons (by rw [C16_eq]; omega) hdq, by rw [qval, Hdv.out, hE.out, HDD.out.1, HQL.out], HJ8.out, rfl, by rw [hE.out, HDD.out.2]; exact HR7.out, HB8.out⟩
            case measure => simp [intOf]
end Go.Proofs.YtgadnianjhaeiaaDoor
