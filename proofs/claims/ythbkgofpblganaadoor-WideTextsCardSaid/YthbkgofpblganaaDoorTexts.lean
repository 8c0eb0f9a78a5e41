/-
  The contract of the statements' WideTexts: it returns true, whatever number and int come in.
-/
import Derived.Test.YthbkgofpblganaaDoorText
import Derived.Test.YthbkgofpblganaaDoorSums
namespace Go.Proofs.YthbkgofpblganaaDoor
open Go.RowKit

theorem dec_all (N : Nat) : (dec N).all digit = true := by
  induction N using Nat.strongRecOn with
  | ind N ih =>
    by_cases h : N = 0
    · subst h; rfl
    · rw [dec_step N h, List.all_append, ih _ (by omega)]
      have : digit (UInt8.ofNat (48 + N % 10)) = true := by
        unfold digit
        rw [digit_byte _ (Nat.mod_lt _ (by omega))]
        exact decide_eq_true (by omega)
      rw [List.all_cons, this, List.all_nil]; rfl
theorem dval_dec (N : Nat) : dval (dec N) = N := by
  induction N using Nat.strongRecOn with
  | ind N ih =>
    by_cases h : N = 0
    · subst h; rfl
    · rw [dec_step N h, dval_snoc, ih _ (by omega), digit_byte _ (Nat.mod_lt _ (by omega))]
      omega
theorem dval_noughts (m : Nat) (l : List UInt8) : dval (List.replicate m 48 ++ l) = dval l := by
  rw [dval_append]
  have : dval (List.replicate m 48) = 0 := by
    induction m with
    | zero => rfl
    | succ m ih => rw [List.replicate_succ', dval_snoc, ih]; rfl
  rw [this, Nat.zero_mul, Nat.zero_add]
theorem all_noughts (m : Nat) (l : List UInt8) (h : l.all digit = true) : (List.replicate m 48 ++ l).all digit = true := by
  rw [List.all_append, h, Bool.and_true]
  have h48 : digit 48 = true := by decide
  simp [List.all_replicate, h48]
/-- The digits of a number, as its text has them (0 for the number 0). -/
def dig0 (N : Nat) : List UInt8 := if N = 0 then [48] else dec N
theorem dig0_all (N : Nat) : (dig0 N).all digit = true := by
  unfold dig0
  split
  · decide
  · exact dec_all N
theorem dig0_val (N : Nat) : dval (dig0 N) = N := by
  unfold dig0
  split
  · rename_i h; rw [h]; rfl
  · exact dval_dec N
theorem dig0_ne (N : Nat) : dig0 N ≠ [] := by
  unfold dig0
  split
  · simp
  · rename_i h; exact dec_ne_nil h
theorem pT_zeros (neg : Bool) (m N : Nat) : pT neg (List.replicate m 48 ++ dig0 N) = (sgi neg N, true) := by
  have h1 : isDec (List.replicate m 48 ++ dig0 N) = true := by
    unfold isDec
    rw [all_noughts m _ (dig0_all N)]
    have : (List.replicate m (48 : UInt8) ++ dig0 N) ≠ [] := fun e => dig0_ne N (List.append_eq_nil_iff.1 e).2
    cases h : List.replicate m (48 : UInt8) ++ dig0 N with
    | nil => exact absurd h this
    | cons a l => rfl
  unfold pT
  rw [h1, if_pos rfl, dval_noughts, dig0_val]
theorem head_digit (m N : Nat) : ∃ c l, List.replicate m 48 ++ dig0 N = c :: l ∧ c ≠ 45 := by
  have h := all_noughts m _ (dig0_all N)
  cases hc : List.replicate m (48 : UInt8) ++ dig0 N with
  | nil => exact absurd (List.append_eq_nil_iff.1 hc).2 (dig0_ne N)
  | cons c l =>
    refine ⟨c, l, rfl, fun e => ?_⟩
    rw [hc, e, List.all_cons] at h
    have : digit 45 = false := by decide
    rw [this] at h
    cases h
theorem parse_plain (m N : Nat) : parseS (List.replicate m 48 ++ dig0 N) = ((N : Int), true) := by
  obtain ⟨c, l, e, hc⟩ := head_digit m N
  rw [e, parseS_plain c l hc, ← e, pT_zeros]
  rfl
theorem parse_minus (m N : Nat) : parseS (45 :: (List.replicate m 48 ++ dig0 N)) = (-(N : Int), true) := by
  rw [parseS_minus, pT_zeros]
  rfl
/-- The text begins with a minus. -/
def mns (neg : Bool) (N : Nat) : Bool := neg && decide (N ≠ 0)
theorem txt_mns (neg : Bool) (N : Nat) : txt neg N = if mns neg N then 45 :: dig0 N else dig0 N := by
  unfold txt mns dig0
  by_cases h : N = 0
  · simp [h]
  · simp [h]
theorem sgi_mns (neg : Bool) (N : Nat) : sgi neg N = if mns neg N then -(N : Int) else N := by
  unfold sgi mns
  by_cases h : N = 0
  · subst h; cases neg <;> rfl
  · simp [h]
theorem dig0_length (s : ByteArray) (k : Nat) (h : s.size ≤ k) : (dig0 (bval s.data.toList)).length ≤ 3 * k + 1 := by
  unfold dig0
  split
  · simp
  · have := bval_dec s k h; omega

set_option maxHeartbeats 1000000 in
theorem Mod30_any (z : Int) (w : World) (hz : -9223372036854775808 ≤ z ∧ z ≤ 9223372036854775807) :
    Calls Tryd.prog 36 #[.int .i64 z, .int .i64 30] w fun e w' => e = .returned (.int .i64 (z % 30)) ∧ w = w' := by
  obtain ⟨z1, z2⟩ := hz
  go_enter Tryd.func36, Tryd.ntmps36
  go_wp2
  go_ret
  have h1 := Int.tmod_add_mul_tdiv z 30
  have h2 : (z.tmod 30).natAbs < 30 := by
    rw [Int.natAbs_tmod]
    exact Nat.mod_lt _ (by decide)
  have h3 : wrap64 (z.tmod 30 + 30) = z.tmod 30 + 30 := IntWalk.wrap64_in _ (by omega)
  have h4 : (wrap64 (z.tmod 30 + 30)).tmod 30 = z % 30 := by
    rw [h3, Int.tmod_eq_emod_of_nonneg (by omega)]
    generalize z.tmod 30 = t at *
    generalize z.tdiv 30 = q at *
    omega
  exact ⟨ret_int h4, rfl⟩

theorem text_to {x : Bool} {s : ByteArray} (hs : s.size ≤ 40) (W : World) (l : List UInt8) (hl : txt x (bval s.data.toList) = l) :
    Calls Tryd.prog 34 #[.agg #[.bool x, .string s]] W fun e w' => e = .returned (.string (bstr l)) ∧ Below W.heap.size W w' := by
  have := Text_any x s W (by omega)
  rw [hl] at this
  exact this
theorem rtext_to {x : Bool} {s : ByteArray} (hs : s.size ≤ 40) (W : World) (l : List UInt8) (hl : txt x (bval s.data.toList) = l) :
    Calls Tryd.prog 37 #[.agg #[.bool x, .string s]] W fun e w' => e = .returned (.string (bstr l)) ∧ Below W.heap.size W w' := by
  have := RText_any x s W (by omega)
  rw [hl] at this
  exact this
theorem parse_to (l : List UInt8) (z : Int) (hl : parseS l = (z, true)) (hn : l.length ≤ 1000) (W : World) :
    Calls Tryd.prog 35 #[.string (bstr l)] W fun e w' => e = .returned (.tuple #[.agg #[.bool (wneg z), .string (wmag z)], .bool true]) ∧ Below W.heap.size W w' := by
  have := Parse_any (bstr l) W (by rw [bstr_size]; omega)
  rw [bstr_data, hl, wv_def] at this
  exact this

set_option maxRecDepth 100000 in
set_option maxHeartbeats 8000000 in
theorem Texts_any (n1 : Bool) (A1 : Option Addr) (l1 c1 : Nat) (z1 z2 : Int) (w : World) (h1 : Nm w A1 l1 c1 z1) (h2 : -9223372036854775808 ≤ z2 ∧ z2 ≤ 9223372036854775807) :
    Calls Tryd.prog 9 #[.agg #[.bool n1, .slice A1 l1 c1, .int .i64 z1], .int .i64 z2] w
      fun e w' => e = .returned (.bool true) ∧ Below w.heap.size w w' := by
  have q1 := Nb.new w n1 A1 l1 c1 z1
  have hB3 : Below w.heap.size w (w.alloc (.cells #[.bool n1, .slice A1 l1 c1, .int .i64 z1] 24)) := (Below.refl _ _).alloc (Nat.le_refl _) _
  generalize hW3 : w.alloc (.cells #[.bool n1, .slice A1 l1 c1, .int .i64 z1] 24) = W3 at *
  have HW3 := Lib.hid hW3
  clear hW3
  obtain ⟨m, hm⟩ : ∃ m : Nat, m = (z2 % 30).toNat := ⟨_, rfl⟩
  have hmI : z2 % 30 = (m : Int) := by omega
  have hm30 : m < 30 := by omega
  have hmo := fun W => Mod30_any z2 W h2
  rw [hmI] at hmo
  have HMO := Lib.hid hmo
  clear hmo hm hmI
  go_enter Tryd.func9, Tryd.ntmps9
  go_wp2_with fail
  rw [HW3.out]
  refine (sanity_true _).mono ?_
  rintro e w4 ⟨rfl, hb4⟩
  have hB4 : Below w.heap.size w w4 := hB3.trans (hb4.mono hB3.size)
  have r1 := q1.below hb4 q1.lt
  have a0 := r1.cell0
  have a1 := r1.cell1
  have a2 := r1.cell2
  clear q1 hb4
  go_wp2_with fail
  refine ((h1.below hB4).call n1).mono ?_
  rintro e w5 ⟨S, hS, rfl, hb5⟩
  have hB5 : Below w.heap.size w w5 := hB4.trans (hb5.mono hB4.size)
  clear a0 a1 a2
  have m1 := Wd.new w5 n1 S
  have hB6 : Below w.heap.size w (w5.alloc (wbox n1 S)) := hB5.alloc hB5.size _
  have N1 := NV.self n1 S 40 hS
  obtain ⟨N, hN⟩ : ∃ N, bval S.data.toList = N := ⟨_, rfl⟩
  have hdl := dig0_length S 40 hS
  obtain ⟨a, ha⟩ : ∃ a, wint n1 S = a := ⟨_, rfl⟩
  obtain ⟨lt, hlt⟩ : ∃ lt, txt n1 N = lt := ⟨_, rfl⟩
  have key : (lt = dig0 N ∧ a = (N : Int)) ∨ (lt = 45 :: dig0 N ∧ a = -(N : Int)) := by
    have htx := txt_mns n1 N
    have hsg := sgi_mns n1 N
    rw [← ha, wint_sgi, hN, hsg, ← hlt, htx]
    cases mns n1 N
    · exact .inl ⟨rfl, rfl⟩
    · exact .inr ⟨rfl, rfl⟩
  have PT := fun W => text_to hS W lt (by rw [hN]; exact hlt)
  have RT := fun W => rtext_to hS W lt (by rw [hN]; exact hlt)
  rw [hN] at hdl
  rw [ha] at N1
  have C1 := Lib.hid (fun W => cmp_to N1 (NV.of a 40 N1.abs) (by omega) (by omega) 0 (by rw [Int.sub_self]; rfl) W)
  have G1 := Lib.hid (fun W => neg_to N1 (by omega) (-a) rfl W)
  have G2 := Lib.hid (fun W => neg_to (NV.of (-a) 40 (by rw [Int.natAbs_neg]; exact N1.abs)) (by omega) a (by omega) W)
  have E1 := eq_same (wneg a) (wmag a)
  have hpm := parse_minus
  have hpp := parse_plain
  have HL := Lib.hid (show dig0 N = dig0 N from rfl)
  have hne := dig0_ne N
  obtain ⟨c0, t0, hct, hc45⟩ := head_digit 0 N
  rw [List.replicate_zero, List.nil_append] at hct
  clear r1 hb5 hS hN hlt ha
  have d0 := m1.cell0
  have d1 := m1.cell1
  rcases key with ⟨rfl, hwi⟩ | ⟨rfl, hwi⟩
  · skip
    have P1 := Lib.hid (fun W => parse_to (dig0 N) a (by rw [hwi]; exact (by have := hpp 0 N; rwa [List.replicate_zero, List.nil_append] at this)) (by omega) W)
    have P2 := Lib.hid (fun k hk W => parse_to (List.replicate k 48 ++ dig0 N) a (by rw [hwi]; exact hpp k N) (by simp; omega) W)
    obtain ⟨σ, hσ⟩ : ∃ σ, bstr (dig0 N) = σ := ⟨_, rfl⟩
    rw [hσ] at P1
    rw [hσ] at PT RT
    have hs1 : 0 < σ.size := by rw [← hσ, bstr_size, hct]; simp
    have hsM : σ.size ≤ 1000 := by rw [← hσ, bstr_size]; omega
    have hs0 : ((σ[0].toNat : Int) == 45) = false := by
      rw [beq_eq_false_iff_ne]
      intro e
      have h3 : σ[0] = σ.data.toList[0]'(by rw [← Lib.size_eq]; exact hs1) := rfl
      have h4 : σ[0] = c0 := by rw [h3]; simp [← hσ, bstr, hct]
      rw [h4] at e
      exact hc45 (UInt8.toNat_inj.1 (by rw [show (45 : UInt8).toNat = 45 from rfl]; omega))
    have HSG := Lib.hid hσ.symm
    have HP := Lib.hid PT
    have HR := Lib.hid RT
    have Hσ := Lib.hid hσ
    clear PT RT hpm hpp hwi hct hc45 hσ
    generalize wneg a = xa at *
    generalize wmag a = sa at *
    generalize wneg (-a) = xb at *
    generalize wmag (-a) = sb at *
    clear N1
    generalize hW6 : w5.alloc (wbox n1 S) = W6 at *
    have HW6 := Lib.hid hW6
    clear hW6
    go_wp2_with fail
    try rw [HW6.out]
    with_reducible refine (HP.out _).mono ?_
    rintro e w7 ⟨rfl, hb7⟩
    have hB7 := hB6.trans (hb7.mono hB6.size)
    have m2 := m1.below hb7 m1.lt
    clear d0 d1 hb7 HW6
    go_wp2_with fail
    with_reducible refine (P1.out _).mono ?_
    rintro e w8 ⟨rfl, hb8⟩
    have hB8 := hB7.trans (hb8.mono hB7.size)
    have m3 := (m2.below hb8 m2.lt).alloc (wbox xa sa)
    have k3 := Wd.new w8 xa sa
    have hT : Duo w (w8.alloc (wbox xa sa)) w5.heap.size w8.heap.size n1 xa S sa := ⟨m3, k3, hB8.alloc hB8.size _⟩
    clear hb8 m2 m3 k3 hB7 hB8 hB6 m1 hB5 hB4 hB3
    go_wp2_with fail
    generalize hW9 : w8.alloc (wbox xa sa) = W9 at *
    have HW9 := Lib.hid hW9
    clear hW9
    generalize w5.heap.size = b1 at *
    generalize w8.heap.size = b2 at *
    have HT := Lib.hid hT
    clear hT
    skip
    go_loopw [10, 12] (fun t i wr => ∃ k : Nat, k ≤ m ∧ i = .int .i64 k ∧ t = .string (bstr (List.replicate k 48 ++ dig0 N)) ∧ Duo w wr b1 b2 n1 xa S sa)
      (fun _ i _ => m - (intOf i).toNat)
    case atStart => exact ⟨0, Nat.zero_le _, rfl, by rw [List.replicate_zero, List.nil_append, ← HSG.out], HT.out⟩
    case round =>
      obtain ⟨k, hk, rfl, rfl, hT⟩ := hrel
      have HTr := Lib.hid hT
      clear hT HT
      have hsk : (bstr (List.replicate k 48 ++ dig0 N)).size ≤ 400 := by rw [bstr_size]; simp; omega
      go_wp2_with fail
      with_reducible refine (HMO.out _).mono ?_
      rintro e w' ⟨rfl, rfl⟩
      by_cases hkm : k < m
      · have hap := bstr_append [48] (List.replicate k 48 ++ dig0 N)
        have hov : ¬ 9223372036854775807 < (⟨#[48]⟩ : ByteArray).size + (bstr (List.replicate k 48 ++ dig0 N)).size := by rw [show (⟨#[48]⟩ : ByteArray).size = 1 from rfl]; omega
        have HAP := Lib.hid hap
        clear hap
        generalize hβ : bstr (List.replicate k 48 ++ dig0 N) = β at *
        go_wp2
        go_roundw
        case rel => exact ⟨k + 1, by omega, by go_num, by rw [List.replicate_succ, List.cons_append]; exact congrArg Value.string HAP.out, HTr.out⟩
        case measure => simp [intOf]; omega
      · obtain rfl : k = m := by omega
        have hap : (⟨#[]⟩ : ByteArray) ++ bstr (List.replicate k 48 ++ dig0 N) = bstr (List.replicate k 48 ++ dig0 N) := by exact bstr_append [] _
        have hov : ¬ 9223372036854775807 < (⟨#[]⟩ : ByteArray).size + (bstr (List.replicate k 48 ++ dig0 N)).size := by rw [show (⟨#[]⟩ : ByteArray).size = 0 from rfl]; omega
        have P3 := Lib.hid (P2.out k (by omega))
        have HAP := Lib.hid hap
        clear P2 P1
        generalize hβ : bstr (List.replicate k 48 ++ dig0 N) = β at *
        generalize hγ : bstr (List.replicate k 48 ++ dig0 N) = γ at *
        clear hβ hγ
        go_wp2_with fail
        try rw [HAP.out]
        with_reducible refine (P3.out _).mono ?_
        rintro e w10 ⟨rfl, hb10⟩
        have hD := HTr.out.step hb10
        have k1 := hD.d1.alloc (wbox xa sa)
        have k2 := hD.d2.alloc (wbox xa sa)
        have k3 := Wd.new w10 xa sa
        have hT : Tri w (w10.alloc (wbox xa sa)) b1 b2 w10.heap.size n1 xa xa S sa sa := ⟨k1, k2, k3, hD.bel.alloc hD.bel.size _⟩
        clear k1 k2 k3 hD hb10 hov HAP hap
        go_wp2_with fail
        generalize w10.alloc (wbox xa sa) = W10 at *
        generalize w10.heap.size = b3 at *
        obtain ⟨d0, d1, d2, d3, d4, d5⟩ := hT.cells
        have hσσ := bytes_refl σ
        go_region_held3 (fun w' => w'.cell? ⟨b1, 0, none⟩ = some (.bool n1) ∧ w'.cell? ⟨b1, 1, none⟩ = some (.string S) ∧ w'.cell? ⟨b2, 0, none⟩ = some (.bool xa) ∧ w'.cell? ⟨b2, 1, none⟩ = some (.string sa) ∧ w'.cell? ⟨b3, 0, none⟩ = some (.bool xa) ∧ w'.cell? ⟨b3, 1, none⟩ = some (.string sa)) (go_keep)
          (first
            | (go_at_call 37; (with_reducible refine (HR.out _).mono ?_); (rintro e w11 ⟨rfl, hbn⟩; (first | replace hT := hT.step hbn | replace hT := hT.drew.step hbn); clear hbn d0 d1 d2 d3 d4 d5; obtain ⟨d0, d1, d2, d3, d4, d5⟩ := hT.cells))
            | (go_at_call 22; (with_reducible refine (C1.out _).mono ?_); (rintro e w11 ⟨rfl, hbn⟩; (first | replace hT := hT.step hbn | replace hT := hT.drew.step hbn); clear hbn d0 d1 d2 d3 d4 d5; obtain ⟨d0, d1, d2, d3, d4, d5⟩ := hT.cells))
            | (go_at_call 18; (first | (with_reducible refine (G1.out _).mono ?_) | (with_reducible refine (G2.out _).mono ?_)); (rintro e w11 ⟨rfl, hbn⟩; (first | replace hT := hT.step hbn | replace hT := hT.drew.step hbn); clear hbn d0 d1 d2 d3 d4 d5; obtain ⟨d0, d1, d2, d3, d4, d5⟩ := hT.cells)))
        go_wp2
        go_ret
        exact ⟨rfl, hT.bel⟩
  · skip
    have P1 := Lib.hid (fun W => parse_to (45 :: dig0 N) a (by rw [hwi]; exact (by have := hpm 0 N; rwa [List.replicate_zero, List.nil_append] at this)) (by simp; omega) W)
    have P2 := Lib.hid (fun k hk W => parse_to (45 :: (List.replicate k 48 ++ dig0 N)) a (by rw [hwi]; exact hpm k N) (by simp; omega) W)
    obtain ⟨σ, hσ⟩ : ∃ σ, bstr (45 :: dig0 N) = σ := ⟨_, rfl⟩
    rw [hσ] at P1
    rw [hσ] at PT RT
    have hs1 : 0 < σ.size := by rw [← hσ, bstr_size]; simp
    have hsM : σ.size ≤ 1000 := by rw [← hσ, bstr_size]; simp; omega
    have hs0 : ((σ[0].toNat : Int) == 45) = true := by
      have e : σ[0] = 45 := by
        have h3 : σ[0] = σ.data.toList[0]'(by rw [← Lib.size_eq]; exact hs1) := rfl
        rw [h3]
        simp [← hσ, bstr]
      rw [e]; rfl
    have hex : σ.extract 1 σ.size = bstr (dig0 N) := by
      have h3 := Lib.extract_to_end σ 1
      rw [← bstr_toList (σ.extract 1 σ.size), h3, ← hσ]
      rfl
    have HP := Lib.hid PT
    have HR := Lib.hid RT
    have Hσ := Lib.hid hσ
    clear PT RT hpm hpp hwi hct hc45 hσ
    generalize wneg a = xa at *
    generalize wmag a = sa at *
    generalize wneg (-a) = xb at *
    generalize wmag (-a) = sb at *
    clear N1
    generalize hW6 : w5.alloc (wbox n1 S) = W6 at *
    have HW6 := Lib.hid hW6
    clear hW6
    go_wp2_with fail
    try rw [HW6.out]
    with_reducible refine (HP.out _).mono ?_
    rintro e w7 ⟨rfl, hb7⟩
    have hB7 := hB6.trans (hb7.mono hB6.size)
    have m2 := m1.below hb7 m1.lt
    clear d0 d1 hb7 HW6
    go_wp2_with fail
    with_reducible refine (P1.out _).mono ?_
    rintro e w8 ⟨rfl, hb8⟩
    have hB8 := hB7.trans (hb8.mono hB7.size)
    have m3 := (m2.below hb8 m2.lt).alloc (wbox xa sa)
    have k3 := Wd.new w8 xa sa
    have hT : Duo w (w8.alloc (wbox xa sa)) w5.heap.size w8.heap.size n1 xa S sa := ⟨m3, k3, hB8.alloc hB8.size _⟩
    clear hb8 m2 m3 k3 hB7 hB8 hB6 m1 hB5 hB4 hB3
    go_wp2_with fail
    generalize hW9 : w8.alloc (wbox xa sa) = W9 at *
    have HW9 := Lib.hid hW9
    clear hW9
    generalize w5.heap.size = b1 at *
    generalize w8.heap.size = b2 at *
    have HT := Lib.hid hT
    clear hT
    skip
    go_loopw [10, 12] (fun t i wr => ∃ k : Nat, k ≤ m ∧ i = .int .i64 k ∧ t = .string (bstr (List.replicate k 48 ++ dig0 N)) ∧ Duo w wr b1 b2 n1 xa S sa)
      (fun _ i _ => m - (intOf i).toNat)
    case atStart => exact ⟨0, Nat.zero_le _, rfl, by rw [List.replicate_zero, List.nil_append], HT.out⟩
    case round =>
      obtain ⟨k, hk, rfl, rfl, hT⟩ := hrel
      have HTr := Lib.hid hT
      clear hT HT
      have hsk : (bstr (List.replicate k 48 ++ dig0 N)).size ≤ 400 := by rw [bstr_size]; simp; omega
      go_wp2_with fail
      with_reducible refine (HMO.out _).mono ?_
      rintro e w' ⟨rfl, rfl⟩
      by_cases hkm : k < m
      · have hap := bstr_append [48] (List.replicate k 48 ++ dig0 N)
        have hov : ¬ 9223372036854775807 < (⟨#[48]⟩ : ByteArray).size + (bstr (List.replicate k 48 ++ dig0 N)).size := by rw [show (⟨#[48]⟩ : ByteArray).size = 1 from rfl]; omega
        have HAP := Lib.hid hap
        clear hap
        generalize hβ : bstr (List.replicate k 48 ++ dig0 N) = β at *
        go_wp2
        go_roundw
        case rel => exact ⟨k + 1, by omega, by go_num, by rw [List.replicate_succ, List.cons_append]; exact congrArg Value.string HAP.out, HTr.out⟩
        case measure => simp [intOf]; omega
      · obtain rfl : k = m := by omega
        have hap : (⟨#[45]⟩ : ByteArray) ++ bstr (List.replicate k 48 ++ dig0 N) = bstr (45 :: (List.replicate k 48 ++ dig0 N)) := by exact bstr_append [45] _
        have hov : ¬ 9223372036854775807 < (⟨#[45]⟩ : ByteArray).size + (bstr (List.replicate k 48 ++ dig0 N)).size := by rw [show (⟨#[45]⟩ : ByteArray).size = 1 from rfl]; omega
        have P3 := Lib.hid (P2.out k (by omega))
        have HAP := Lib.hid hap
        clear P2 P1
        generalize hβ : bstr (List.replicate k 48 ++ dig0 N) = β at *
        generalize hγ : bstr (45 :: (List.replicate k 48 ++ dig0 N)) = γ at *
        clear hβ hγ
        go_wp2_with fail
        try rw [HAP.out]
        with_reducible refine (P3.out _).mono ?_
        rintro e w10 ⟨rfl, hb10⟩
        have hD := HTr.out.step hb10
        have k1 := hD.d1.alloc (wbox xa sa)
        have k2 := hD.d2.alloc (wbox xa sa)
        have k3 := Wd.new w10 xa sa
        have hT : Tri w (w10.alloc (wbox xa sa)) b1 b2 w10.heap.size n1 xa xa S sa sa := ⟨k1, k2, k3, hD.bel.alloc hD.bel.size _⟩
        clear k1 k2 k3 hD hb10 hov HAP hap
        go_wp2_with fail
        generalize w10.alloc (wbox xa sa) = W10 at *
        generalize w10.heap.size = b3 at *
        obtain ⟨d0, d1, d2, d3, d4, d5⟩ := hT.cells
        have hσσ := bytes_refl σ
        go_region_held3 (fun w' => w'.cell? ⟨b1, 0, none⟩ = some (.bool n1) ∧ w'.cell? ⟨b1, 1, none⟩ = some (.string S) ∧ w'.cell? ⟨b2, 0, none⟩ = some (.bool xa) ∧ w'.cell? ⟨b2, 1, none⟩ = some (.string sa) ∧ w'.cell? ⟨b3, 0, none⟩ = some (.bool xa) ∧ w'.cell? ⟨b3, 1, none⟩ = some (.string sa)) (go_keep)
          (first
            | (go_at_call 37; (with_reducible refine (HR.out _).mono ?_); (rintro e w11 ⟨rfl, hbn⟩; (first | replace hT := hT.step hbn | replace hT := hT.drew.step hbn); clear hbn d0 d1 d2 d3 d4 d5; obtain ⟨d0, d1, d2, d3, d4, d5⟩ := hT.cells))
            | (go_at_call 22; (with_reducible refine (C1.out _).mono ?_); (rintro e w11 ⟨rfl, hbn⟩; (first | replace hT := hT.step hbn | replace hT := hT.drew.step hbn); clear hbn d0 d1 d2 d3 d4 d5; obtain ⟨d0, d1, d2, d3, d4, d5⟩ := hT.cells))
            | (go_at_call 18; (first | (with_reducible refine (G1.out _).mono ?_) | (with_reducible refine (G2.out _).mono ?_)); (rintro e w11 ⟨rfl, hbn⟩; (first | replace hT := hT.step hbn | replace hT := hT.drew.step hbn); clear hbn d0 d1 d2 d3 d4 d5; obtain ⟨d0, d1, d2, d3, d4, d5⟩ := hT.cells)))
        go_wp2
        go_ret
        exact ⟨rfl, hT.bel⟩
end Go.Proofs.YthbkgofpblganaaDoor
