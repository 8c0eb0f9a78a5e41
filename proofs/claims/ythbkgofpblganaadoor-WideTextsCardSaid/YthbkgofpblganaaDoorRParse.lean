/-
  The contract of the reference's Parse.
-/
import Derived.Test.YthbkgofpblganaaDoorRBy
import Derived.Test.YthbkgofpblganaaDoorParse
namespace Go.Proofs.YthbkgofpblganaaDoor
open Go.RowKit

/-- What Parse returns once the sign is off. -/
def pT (neg : Bool) (L : List UInt8) : Int × Bool := if isDec L then (sgi neg (dval L), true) else (0, false)
theorem parseS_nil : parseS [] = pT false [] := rfl
theorem parseS_minus (L : List UInt8) : parseS (45 :: L) = pT true L := by
  unfold parseS pT Lib.trimPrefix Lib.hasPrefix sgi
  simp
theorem parseS_plain (c : UInt8) (L : List UInt8) (h : c ≠ 45) : parseS (c :: L) = pT false (c :: L) := by
  unfold parseS pT Lib.trimPrefix Lib.hasPrefix sgi
  have : (45 == c) = false := by rw [beq_eq_false_iff_ne]; exact fun e => h e.symm
  have h2 : ¬ 45 = c := fun e => h e.symm
  simp [h2]
theorem Rz.drew {w : World} {A : Option Addr} {n c N : Nat} (h : Rz w A n c N) : Rz w.drew A n c N := h
theorem Rz.nil (w : World) (A : Option Addr) : Rz w A 0 0 0 := ⟨[], RdJ.nil w A, rfl, Nat.le_refl _, by unfold maxLen; omega, Qds.nil, rfl⟩
theorem Rz.trim1 {w : World} {d : Nat} {A : Option Addr} (h : RdJ w A [d]) (hd : d < 65536) : Rz w A (ptrim [d]).length 1 d := by
  by_cases h0 : d = 0
  · subst h0
    exact ⟨[], RdJ.nil w _, rfl, by simp [ptrim], by unfold maxLen; omega, Qds.nil, rfl⟩
  · have : ptrim [d] = [d] := by simp [ptrim, h0]
    rw [this]
    exact ⟨[d], h, rfl, Nat.le_refl _, by unfold maxLen; omega, Qds.cons (by rw [C16_eq]; exact hd) Qds.nil, by simp [qval]⟩
theorem trim1_le (d : Nat) : (ptrim [d]).length ≤ 1 := ptrim_length_le [d]

/-- What the loop of the reference's Parse leaves. -/
def PL (w : World) (T : ByteArray) (v i : Value) (wr : World) : Prop :=
  ∃ (k n c : Nat) (A : Option Addr), i = .int .i64 k ∧ k ≤ T.size ∧ v = .slice A n c ∧ n ≤ 2 * k ∧ Rz wr A n c (dval (T.data.toList.take k)) ∧ (T.data.toList.take k).all digit = true ∧ Wd wr w.heap.size false ⟨#[]⟩ ∧ Below w.heap.size w wr

set_option maxRecDepth 100000 in
set_option maxHeartbeats 4000000 in
theorem RParse_any (s : ByteArray) (w : World) (hs : s.size ≤ 400) :
    Calls Tryd.prog 38 #[.string s] w fun e w' => e = .returned (.tuple #[wv (parseS s.data.toList).1, .bool (parseS s.data.toList).2]) ∧ Below w.heap.size w w' := by
  have hW := Wd.new w false ⟨#[]⟩
  have hB0 : Below w.heap.size w (w.alloc (wbox false ⟨#[]⟩)) := (Below.refl _ _).alloc (Nat.le_refl _) _
  have HW := Lib.hid hW
  have HB0 := Lib.hid hB0
  clear hW hB0
  by_cases hne : s.size = 0
  · have hpS : parseS s.data.toList = pT false s.data.toList := by
      have he : s.data.toList = [] := List.length_eq_zero_iff.1 (by rw [← Lib.size_eq]; exact hne)
      rw [he]; rfl
    rw [hpS]
    clear hpS
    obtain ⟨T, rfl⟩ : ∃ T, T = s := ⟨_, rfl⟩
    go_enter Tryd.func38, Tryd.ntmps38
    go_wp2_with fail
    go_loopw [6, 7] (fun v i wr => PL w T v i wr) (fun _ i _ => T.size - (intOf i).toNat)
    case atStart => exact ⟨0, 0, 0, none, rfl, Nat.zero_le _, rfl, by omega, Rz.nil _ _, rfl, HW.out, HB0.out⟩
    case round =>
      obtain ⟨k, n, c, A, rfl, hk, rfl, hn, hz, ha, hwd, hbel⟩ := hrel
      have HZ := Lib.hid hz
      have HA := Lib.hid ha
      have HWd := Lib.hid hwd
      have Hbel := Lib.hid hbel
      clear hz ha hwd hbel
      have hlt : ¬ k < T.size := by omega
      have hte := hne
      have hall := HA.out
      have hzz := HZ.out
      rw [List.take_of_length_le (by rw [← Lib.size_eq]; omega)] at hall hzz
      have hTe : T = ⟨#[]⟩ := by
        have he : T.data.toList = [] := List.length_eq_zero_iff.1 (by rw [← Lib.size_eq]; exact hte)
        rw [← bstr_toList T, he]; rfl
      subst hTe
      have hwd := Lib.hid (rwide false A n c _ wr hzz (by omega) 0 (by unfold sgi dval; simp))
      clear hall hzz
      go_wp2_with fail
      with_reducible refine hwd.out.mono ?_
      rintro e w5 ⟨rfl, hb5⟩
      have hW5 := HWd.out.below hb5 HWd.out.lt
      have r0 := hW5.cell0
      have r1 := hW5.cell1
      have f0 := hW5.frozen 0
      have f1 := hW5.frozen 1
      have hB5 := Hbel.out.trans (hb5.mono Hbel.out.size)
      go_wp2
      refine post_wide_tmp (b := w.heap.size) rfl rfl ((hW5.set0 _).set1 _) rfl ⟨?_, (hB5.setCell (Nat.le_refl _) _).setCell (Nat.le_refl _) _⟩
      rfl
  · by_cases h45 : s[0].toNat = 45
    · have hl : s.data.toList = 45 :: (s.extract 1 s.size).data.toList := by
        rw [Lib.extract_to_end]
        have h1 : 0 < s.data.toList.length := by rw [← Lib.size_eq]; omega
        have h2 : s.data.toList[0] = 45 := by
          have : s[0] = 45 := UInt8.toNat_inj.1 h45
          exact this
        rw [← h2]
        exact (List.drop_eq_getElem_cons h1)
      have hpS : parseS s.data.toList = pT true (s.extract 1 s.size).data.toList := by rw [hl, parseS_minus]
      rw [hpS]
      have hsz : (s.extract 1 s.size).size ≤ 400 := by simp; omega
      clear hpS hl
      generalize hT : s.extract 1 s.size = T at *
      have hs0 : ((s[0].toNat : Int) == 45) = true := by rw [beq_iff_eq]; omega
      go_enter Tryd.func38, Tryd.ntmps38
      go_wp2_with fail
      go_loopw [6, 7] (fun v i wr => PL w T v i wr) (fun _ i _ => T.size - (intOf i).toNat)
      case atStart => exact ⟨0, 0, 0, none, rfl, Nat.zero_le _, rfl, by omega, Rz.nil _ _, rfl, HW.out, HB0.out⟩
      case round =>
        obtain ⟨k, n, c, A, rfl, hk, rfl, hn, hz, ha, hwd, hbel⟩ := hrel
        have HZ := Lib.hid hz
        have HA := Lib.hid ha
        have HWd := Lib.hid hwd
        have Hbel := Lib.hid hbel
        clear hz ha hwd hbel
        by_cases hlt : k < T.size
        · skip
          by_cases hd : 48 ≤ T[k].toNat ∧ T[k].toNat ≤ 57
          · have HA2 := Lib.hid (all_take T k hlt HA.out hd)
            have HD := Lib.hid (dval_take T k hlt)
            obtain ⟨d1, d2⟩ := hd
            obtain ⟨d, hd⟩ : ∃ d : Nat, d = T[k].toNat - 48 := ⟨_, rfl⟩
            rw [← hd] at HD
            have e1 : (T[k].toNat : Int) - 48 = (d : Int) := by omega
            have d3 : ¬ (T[k].toNat : Int) < 48 := by omega
            have d4 : ¬ (57 : Int) < (T[k].toNat : Int) := by omega
            have hd9 : d < 65536 := by omega
            have e2 : IntKind.i64.wrap (IntKind.u8.wrap (d : Int)) = (d : Int) := by rw [IntKind.wrap_u8, IntKind.wrap_i64]; omega
            clear hd
            have ht1 := trim1_le d
            go_wp2_with fail
            go_region_held3 (fun w' => True) (first | trivial)
              (first
                | (go_at_call 72; (with_reducible refine (rby10 A n c _ _ HZ.out.drew (by omega)).mono ?_); rintro e w2 ⟨C, k2, c2, rfl, hk2, hr2, hb2⟩; have hB2 := Lib.hid (Hbel.out.drew.trans (hb2.mono Hbel.out.size)); have hW2 := Lib.hid (HWd.out.drew.below hb2 HWd.out.drew.lt))
                | (go_at_call 72; (with_reducible refine (rby10 A n c _ _ (HZ.out.below ((Below.refl _ _).alloc (Nat.le_refl _) _)).drew (by omega)).mono ?_); rintro e w2 ⟨C, k2, c2, rfl, hk2, hr2, hb2⟩; have hB2 := Lib.hid ((Hbel.out.alloc Hbel.out.size _).drew.trans (hb2.mono (Hbel.out.alloc Hbel.out.size _).drew.size)); have hW2 := Lib.hid ((HWd.out.alloc _).drew.below hb2 (HWd.out.alloc _).drew.lt))
                | (go_at_call 73; (with_reducible refine (rtrim1 _ d _ (Jst.new1 _ d)).mono ?_); rintro e w3 ⟨rfl, rfl⟩)
                | (go_at_call 73; (with_reducible refine (rtrim1 _ d _ ((Jst.new1 _ d).drew.below hb2)).mono ?_); rintro e w3 ⟨rfl, rfl⟩)
                | (go_at_call 50; (with_reducible refine (rplus C _ k2 _ c2 1 _ d _ (hr2.below ((Below.refl _ _).alloc (Nat.le_refl _) _)).z (Rz.trim1 (Jst.new1 _ d) hd9) (by omega) (Nat.le_trans (trim1_le d) (by omega))).mono ?_); rintro e w4 ⟨E, k4, c4, rfl, hk4, hr4, hb4⟩; have hB4 := Lib.hid ((hB2.out.alloc hB2.out.size _).trans (hb4.mono (hB2.out.alloc hB2.out.size _).size)); have hW4 := Lib.hid ((hW2.out.alloc _).below hb4 (hW2.out.alloc _).lt))
                | (go_at_call 50; (with_reducible refine (rplus C _ k2 _ c2 1 _ d _ hr2.z (Rz.trim1 ((Jst.new1 _ d).drew.below hb2) hd9) (by omega) (Nat.le_trans (trim1_le d) (by omega))).mono ?_); rintro e w4 ⟨E, k4, c4, rfl, hk4, hr4, hb4⟩; have hB4 := Lib.hid (hB2.out.trans (hb4.mono hB2.out.size)); have hW4 := Lib.hid (hW2.out.below hb4 hW2.out.lt)))
            all_goals
              have hr5 := Lib.hid hr4
              have hk5 : k4 ≤ 2 * (k + 1) := by omega
              clear hr4 hb4 hb2 hr2
              go_wp2
              go_roundw
              case rel => exact ⟨k + 1, k4, c4, E, by go_num, by omega, rfl, hk5, by rw [HD.out]; exact hr5.out, HA2.out, hW4.out, hB4.out⟩
              case measure => simp [intOf]; omega
          · have hpt : pT true T.data.toList = (0, false) := by unfold pT; rw [not_all T k hlt hd]; rfl
            have HPT := Lib.hid hpt
            have r0 := HWd.out.cell0
            have r1 := HWd.out.cell1
            have f0 := HWd.out.frozen 0
            have f1 := HWd.out.frozen 1
            clear hpt
            by_cases hb : T[k].toNat < 48
            · have d3 : (T[k].toNat : Int) < 48 := by omega
              clear hd
              go_wp2
              refine post_wide_tmp (b := w.heap.size) rfl rfl ((HWd.out.set0 false).set1 ⟨#[]⟩) rfl ⟨?_, (Hbel.out.setCell (Nat.le_refl _) _).setCell (Nat.le_refl _) _⟩
              try simp only [HPT.out]
              rfl
            · have d3 : (48 : Int) ≤ (T[k].toNat : Int) := by omega
              have d4 : (57 : Int) < (T[k].toNat : Int) := by omega
              clear hd
              go_wp2
              refine post_wide_tmp (b := w.heap.size) rfl rfl ((HWd.out.set0 false).set1 ⟨#[]⟩) rfl ⟨?_, (Hbel.out.setCell (Nat.le_refl _) _).setCell (Nat.le_refl _) _⟩
              try simp only [HPT.out]
              rfl
        · skip
          have hall := HA.out
          have hzz := HZ.out
          rw [List.take_of_length_le (by rw [← Lib.size_eq]; omega)] at hall hzz
          by_cases hte : T.size = 0
          · skip
            have hTe : T = ⟨#[]⟩ := by
              have he : T.data.toList = [] := List.length_eq_zero_iff.1 (by rw [← Lib.size_eq]; exact hte)
              rw [← bstr_toList T, he]; rfl
            subst hTe
            have hwd := Lib.hid (rwide true A n c _ wr hzz (by omega) 0 (by unfold sgi dval; simp))
            clear hall hzz
            go_wp2_with fail
            with_reducible refine hwd.out.mono ?_
            rintro e w5 ⟨rfl, hb5⟩
            have hW5 := HWd.out.below hb5 HWd.out.lt
            have r0 := hW5.cell0
            have r1 := hW5.cell1
            have f0 := hW5.frozen 0
            have f1 := hW5.frozen 1
            have hB5 := Hbel.out.trans (hb5.mono Hbel.out.size)
            go_wp2
            refine post_wide_tmp (b := w.heap.size) rfl rfl ((hW5.set0 _).set1 _) rfl ⟨?_, (hB5.setCell (Nat.le_refl _) _).setCell (Nat.le_refl _) _⟩
            rfl
          · skip
            have hne2 : T.toList.isEmpty = false := by
              rw [Lib.toList_data]
              cases hc : T.data.toList with
              | nil => rw [Lib.size_eq, hc] at hte; exact absurd rfl hte
              | cons a l => rfl
            have hdec : isDec T.data.toList = true := by
              unfold isDec
              rw [hall, ← Lib.toList_data, hne2]; rfl
            have HPT := Lib.hid (show pT true T.data.toList = (sgi true (dval T.data.toList), true) by unfold pT; rw [hdec]; rfl)
            have hwd := Lib.hid (rwide true A n c _ wr hzz (by omega) _ rfl)
            clear hall hzz hdec
            go_wp2_with fail
            with_reducible refine hwd.out.mono ?_
            rintro e w5 ⟨rfl, hb5⟩
            have hW5 := HWd.out.below hb5 HWd.out.lt
            have r0 := hW5.cell0
            have r1 := hW5.cell1
            have f0 := hW5.frozen 0
            have f1 := hW5.frozen 1
            have hB5 := Hbel.out.trans (hb5.mono Hbel.out.size)
            go_wp2
            refine post_wide_tmp (b := w.heap.size) rfl rfl ((hW5.set0 _).set1 _) rfl ⟨?_, (hB5.setCell (Nat.le_refl _) _).setCell (Nat.le_refl _) _⟩
            try simp only [HPT.out]
            rfl
    · have hpS : parseS s.data.toList = pT false s.data.toList := by
        cases hc : s.data.toList with
        | nil => rfl
        | cons c L =>
          refine parseS_plain c L fun e => h45 ?_
          have h1 : 0 < s.data.toList.length := by rw [hc]; simp
          have h2 : s.data.toList[0] = c := by simp [hc]
          have h3 : s[0] = s.data.toList[0] := rfl
          rw [h3, h2, e]; rfl
      rw [hpS]
      clear hpS
      have hs0 : ((s[0].toNat : Int) == 45) = false := by rw [beq_eq_false_iff_ne]; omega
      obtain ⟨T, rfl⟩ : ∃ T, T = s := ⟨_, rfl⟩
      go_enter Tryd.func38, Tryd.ntmps38
      go_wp2_with fail
      go_loopw [6, 7] (fun v i wr => PL w T v i wr) (fun _ i _ => T.size - (intOf i).toNat)
      case atStart => exact ⟨0, 0, 0, none, rfl, Nat.zero_le _, rfl, by omega, Rz.nil _ _, rfl, HW.out, HB0.out⟩
      case round =>
        obtain ⟨k, n, c, A, rfl, hk, rfl, hn, hz, ha, hwd, hbel⟩ := hrel
        have HZ := Lib.hid hz
        have HA := Lib.hid ha
        have HWd := Lib.hid hwd
        have Hbel := Lib.hid hbel
        clear hz ha hwd hbel
        by_cases hlt : k < T.size
        · skip
          by_cases hd : 48 ≤ T[k].toNat ∧ T[k].toNat ≤ 57
          · have HA2 := Lib.hid (all_take T k hlt HA.out hd)
            have HD := Lib.hid (dval_take T k hlt)
            obtain ⟨d1, d2⟩ := hd
            obtain ⟨d, hd⟩ : ∃ d : Nat, d = T[k].toNat - 48 := ⟨_, rfl⟩
            rw [← hd] at HD
            have e1 : (T[k].toNat : Int) - 48 = (d : Int) := by omega
            have d3 : ¬ (T[k].toNat : Int) < 48 := by omega
            have d4 : ¬ (57 : Int) < (T[k].toNat : Int) := by omega
            have hd9 : d < 65536 := by omega
            have e2 : IntKind.i64.wrap (IntKind.u8.wrap (d : Int)) = (d : Int) := by rw [IntKind.wrap_u8, IntKind.wrap_i64]; omega
            clear hd
            have ht1 := trim1_le d
            go_wp2_with fail
            go_region_held3 (fun w' => True) (first | trivial)
              (first
                | (go_at_call 72; (with_reducible refine (rby10 A n c _ _ HZ.out.drew (by omega)).mono ?_); rintro e w2 ⟨C, k2, c2, rfl, hk2, hr2, hb2⟩; have hB2 := Lib.hid (Hbel.out.drew.trans (hb2.mono Hbel.out.size)); have hW2 := Lib.hid (HWd.out.drew.below hb2 HWd.out.drew.lt))
                | (go_at_call 72; (with_reducible refine (rby10 A n c _ _ (HZ.out.below ((Below.refl _ _).alloc (Nat.le_refl _) _)).drew (by omega)).mono ?_); rintro e w2 ⟨C, k2, c2, rfl, hk2, hr2, hb2⟩; have hB2 := Lib.hid ((Hbel.out.alloc Hbel.out.size _).drew.trans (hb2.mono (Hbel.out.alloc Hbel.out.size _).drew.size)); have hW2 := Lib.hid ((HWd.out.alloc _).drew.below hb2 (HWd.out.alloc _).drew.lt))
                | (go_at_call 73; (with_reducible refine (rtrim1 _ d _ (Jst.new1 _ d)).mono ?_); rintro e w3 ⟨rfl, rfl⟩)
                | (go_at_call 73; (with_reducible refine (rtrim1 _ d _ ((Jst.new1 _ d).drew.below hb2)).mono ?_); rintro e w3 ⟨rfl, rfl⟩)
                | (go_at_call 50; (with_reducible refine (rplus C _ k2 _ c2 1 _ d _ (hr2.below ((Below.refl _ _).alloc (Nat.le_refl _) _)).z (Rz.trim1 (Jst.new1 _ d) hd9) (by omega) (Nat.le_trans (trim1_le d) (by omega))).mono ?_); rintro e w4 ⟨E, k4, c4, rfl, hk4, hr4, hb4⟩; have hB4 := Lib.hid ((hB2.out.alloc hB2.out.size _).trans (hb4.mono (hB2.out.alloc hB2.out.size _).size)); have hW4 := Lib.hid ((hW2.out.alloc _).below hb4 (hW2.out.alloc _).lt))
                | (go_at_call 50; (with_reducible refine (rplus C _ k2 _ c2 1 _ d _ hr2.z (Rz.trim1 ((Jst.new1 _ d).drew.below hb2) hd9) (by omega) (Nat.le_trans (trim1_le d) (by omega))).mono ?_); rintro e w4 ⟨E, k4, c4, rfl, hk4, hr4, hb4⟩; have hB4 := Lib.hid (hB2.out.trans (hb4.mono hB2.out.size)); have hW4 := Lib.hid (hW2.out.below hb4 hW2.out.lt)))
            all_goals
              have hr5 := Lib.hid hr4
              have hk5 : k4 ≤ 2 * (k + 1) := by omega
              clear hr4 hb4 hb2 hr2
              go_wp2
              go_roundw
              case rel => exact ⟨k + 1, k4, c4, E, by go_num, by omega, rfl, hk5, by rw [HD.out]; exact hr5.out, HA2.out, hW4.out, hB4.out⟩
              case measure => simp [intOf]; omega
          · have hpt : pT false T.data.toList = (0, false) := by unfold pT; rw [not_all T k hlt hd]; rfl
            have HPT := Lib.hid hpt
            have r0 := HWd.out.cell0
            have r1 := HWd.out.cell1
            have f0 := HWd.out.frozen 0
            have f1 := HWd.out.frozen 1
            clear hpt
            by_cases hb : T[k].toNat < 48
            · have d3 : (T[k].toNat : Int) < 48 := by omega
              clear hd
              go_wp2
              refine post_wide_tmp (b := w.heap.size) rfl rfl ((HWd.out.set0 false).set1 ⟨#[]⟩) rfl ⟨?_, (Hbel.out.setCell (Nat.le_refl _) _).setCell (Nat.le_refl _) _⟩
              try simp only [HPT.out]
              rfl
            · have d3 : (48 : Int) ≤ (T[k].toNat : Int) := by omega
              have d4 : (57 : Int) < (T[k].toNat : Int) := by omega
              clear hd
              go_wp2
              refine post_wide_tmp (b := w.heap.size) rfl rfl ((HWd.out.set0 false).set1 ⟨#[]⟩) rfl ⟨?_, (Hbel.out.setCell (Nat.le_refl _) _).setCell (Nat.le_refl _) _⟩
              try simp only [HPT.out]
              rfl
        · skip
          have hall := HA.out
          have hzz := HZ.out
          rw [List.take_of_length_le (by rw [← Lib.size_eq]; omega)] at hall hzz
          have hte := hne
          have hne2 : T.toList.isEmpty = false := by
            rw [Lib.toList_data]
            cases hc : T.data.toList with
            | nil => rw [Lib.size_eq, hc] at hte; exact absurd rfl hte
            | cons a l => rfl
          have hdec : isDec T.data.toList = true := by
            unfold isDec
            rw [hall, ← Lib.toList_data, hne2]; rfl
          have HPT := Lib.hid (show pT false T.data.toList = (sgi false (dval T.data.toList), true) by unfold pT; rw [hdec]; rfl)
          have hwd := Lib.hid (rwide false A n c _ wr hzz (by omega) _ rfl)
          clear hall hzz hdec
          go_wp2_with fail
          with_reducible refine hwd.out.mono ?_
          rintro e w5 ⟨rfl, hb5⟩
          have hW5 := HWd.out.below hb5 HWd.out.lt
          have r0 := hW5.cell0
          have r1 := hW5.cell1
          have f0 := hW5.frozen 0
          have f1 := hW5.frozen 1
          have hB5 := Hbel.out.trans (hb5.mono Hbel.out.size)
          go_wp2
          refine post_wide_tmp (b := w.heap.size) rfl rfl ((hW5.set0 _).set1 _) rfl ⟨?_, (hB5.setCell (Nat.le_refl _) _).setCell (Nat.le_refl _) _⟩
          try simp only [HPT.out]
          rfl
end Go.Proofs.YthbkgofpblganaaDoor
