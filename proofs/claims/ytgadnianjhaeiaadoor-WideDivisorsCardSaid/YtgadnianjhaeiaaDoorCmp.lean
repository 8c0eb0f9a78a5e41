/-
  The contracts of wide.compareSizes, Cmp and Int.
-/
import Derived.Test.YtgadnianjhaeiaaDoorSmall
import Derived.Lib.Bytealg
namespace Go.Proofs.YtgadnianjhaeiaaDoor
open Go.RowKit

theorem sub_same (q u v : Nat) : ((q + u : Nat) : Int) - ((q + v : Nat) : Int) = (u : Int) - v := by omega
theorem below_many {B : Nat} {a w : World} (h : Below B a w) (n : Nat) : Below B a (w.drewN n) := ⟨h.os, h.tape, h.output, h.size, h.block⟩
theorem compareBytes_sign (a b : List UInt8) (h : a.length = b.length) : Lib.compareBytes a b = ((bval a : Int) - bval b).sign := by
  induction a generalizing b with
  | nil =>
    cases b with
    | nil => rfl
    | cons y b => simp at h
  | cons x a ih =>
    cases b with
    | nil => simp at h
    | cons y b =>
      have hl : a.length = b.length := by simpa using h
      have ha := bval_lt a
      have hb := bval_lt b
      rw [Lib.compareBytes, bval_cons, bval_cons, ← hl]
      rw [← hl] at hb
      generalize hp : 256 ^ a.length = p at *
      have hx : x < y ↔ x.toNat < y.toNat := UInt8.lt_iff_toNat_lt
      have hy : y < x ↔ y.toNat < x.toNat := UInt8.lt_iff_toNat_lt
      by_cases h1 : x < y
      · rw [if_pos h1]
        have h2 := hx.1 h1
        have h3 : x.toNat * p + p ≤ y.toNat * p := by
          have := Nat.mul_le_mul_right p (show x.toNat + 1 ≤ y.toNat from h2)
          rwa [Nat.add_mul, Nat.one_mul] at this
        exact (Int.sign_eq_neg_one_of_neg (by omega)).symm
      · rw [if_neg h1]
        by_cases h1' : y < x
        · rw [if_pos h1']
          have h2 := hy.1 h1'
          have h3 : y.toNat * p + p ≤ x.toNat * p := by
            have := Nat.mul_le_mul_right p (show y.toNat + 1 ≤ x.toNat from h2)
            rwa [Nat.add_mul, Nat.one_mul] at this
          exact (Int.sign_eq_one_of_pos (by omega)).symm
        · have e : x.toNat = y.toNat := by
            have a1 : ¬ x.toNat < y.toNat := fun e => h1 (hx.2 e)
            have a2 : ¬ y.toNat < x.toNat := fun e => h1' (hy.2 e)
            omega
          rw [if_neg h1', ih b hl, e]
          generalize y.toNat * p = q
          rw [sub_same]
theorem canon_shorter {N M : Nat} (h : (canon N).length < (canon M).length) : N < M := by
  refine Nat.lt_of_not_le fun hle => ?_
  have := canon_length_mono hle
  omega

theorem significant_same (s : ByteArray) (w : World) (hs : s.size ≤ maxLen) :
    Calls Tryd.prog 53 #[.string s] w fun e w' => e = .returned (.string (bstr (canon (bval s.data.toList)))) ∧ w' = w :=
  (significant_any s w hs).mono fun _ _ h => ⟨h.1, h.2.symm⟩

set_option maxRecDepth 100000 in
set_option maxHeartbeats 1000000 in
theorem compareSizes_any (x y : Bool) (s t : ByteArray) (w : World) (hs : s.size ≤ maxLen) (ht : t.size ≤ maxLen) :
    Calls Tryd.prog 46 #[.agg #[.bool x, .string s], .agg #[.bool y, .string t]] w fun e w' =>
      e = .returned (.int .i64 ((bval s.data.toList : Int) - bval t.data.toList).sign) ∧ Below w.heap.size w w' := by
  have hp := fun W => significant_same s W hs
  have hq := fun W => significant_same t W ht
  have l1 : (canon (bval s.data.toList)).length ≤ maxLen := by
    rw [← sig_canon]; have := sig_length_le s.data.toList; have e := Lib.size_eq s; omega
  have l2 : (canon (bval t.data.toList)).length ≤ maxLen := by
    rw [← sig_canon]; have := sig_length_le t.data.toList; have e := Lib.size_eq t; omega
  unfold maxLen at l1 l2
  generalize bval s.data.toList = N at *
  generalize bval t.data.toList = M at *
  have HP := Lib.hid hp
  have HQ := Lib.hid hq
  clear hp hq
  have hl1 : (bstr (canon N)).size = (canon N).length := bstr_size _
  have hl2 : (bstr (canon M)).size = (canon M).length := bstr_size _
  have hc := Tryd.strings_Compare (bstr (canon N)) (bstr (canon M))
  rw [bstr_data, bstr_data] at hc
  have HC := Lib.hid hc
  clear hc
  go_enter Tryd.func46, Tryd.ntmps46
  go_wp2_with fail
  go_quiet ((go_at_call 53; first | (with_reducible exact Calls.quiet_of_same (HP.out _)) | (with_reducible exact Calls.quiet_of_same (HQ.out _))))
  by_cases h1 : (canon N).length < (canon M).length
  · have hlt := canon_shorter h1
    have hsg := Int.sign_eq_neg_one_of_neg (a := (N : Int) - M) (by omega)
    have HS := Lib.hid hsg
    clear hsg hlt
    go_wp2
    go_ret
    exact ⟨by rw [HS.out]; rfl, below_many (below2 w _ _) _⟩
  · by_cases h2 : (canon M).length < (canon N).length
    · have hlt := canon_shorter h2
      have hsg := Int.sign_eq_one_of_pos (a := (N : Int) - M) (by omega)
      have HS := Lib.hid hsg
      clear hsg hlt
      go_wp2
      go_ret
      exact ⟨by rw [HS.out]; rfl, below_many (below2 w _ _) _⟩
    · have hcs := compareBytes_sign (canon N) (canon M) (by omega)
      rw [bval_canon, bval_canon] at hcs
      have HS := Lib.hid hcs
      clear hcs
      go_wp2_with fail
      with_reducible refine (HC.out _).mono ?_
      rintro e w' ⟨rfl, hw⟩
      rw [hw]
      clear hw
      go_wp2
      go_ret
      exact ⟨by rw [← HS.out]; rfl, below_many (below2 w _ _) _⟩

/-- The variables of a call that began in w0: these Wides, in the first blocks that it made; what was there before is as it was. -/
def Vars (w0 w : World) (l : List (Bool × ByteArray)) : Prop :=
  Below w0.heap.size w0 w ∧ w0.heap.size + l.length ≤ w.heap.size ∧ ∀ i p, l[i]? = some p → Wd w (w0.heap.size + i) p.1 p.2
/-- The box of a Wide. -/
abbrev wbox (x : Bool) (s : ByteArray) : Obj := .cells #[.bool x, .string s] 27
section
variable {w0 w w' : World} {l : List (Bool × ByteArray)}
theorem Vars.none_ (w0 : World) : Vars w0 w0 [] := ⟨Below.refl _ _, by simp, fun i p h => by simp at h⟩
theorem Vars.more (h : Vars w0 w l) (hs : w.heap.size = w0.heap.size + l.length) (x : Bool) (s : ByteArray) : Vars w0 (w.alloc (wbox x s)) (l ++ [(x, s)]) := by
  refine ⟨h.1.alloc (by omega) _, by simp; omega, fun i p hi => ?_⟩
  by_cases hl : i < l.length
  · rw [List.getElem?_append_left hl] at hi
    exact (h.2.2 i p hi).alloc _
  · rw [List.getElem?_append_right (by omega)] at hi
    have hi0 : i - l.length = 0 := by
      refine Nat.eq_zero_of_not_pos fun hp => ?_
      rw [List.getElem?_eq_none (by simp; omega)] at hi
      cases hi
    rw [hi0] at hi
    simp at hi
    subst hi
    have : i = l.length := by omega
    subst this
    rw [← hs]
    exact Wd.new w x s
theorem Vars.start1 (w : World) (x : Bool) (s : ByteArray) : Vars w (w.alloc (wbox x s)) [(x, s)] := (Vars.none_ w).more (by simp) x s
theorem Vars.start2 (w : World) (x y : Bool) (s t : ByteArray) : Vars w ((w.alloc (wbox x s)).alloc (wbox y t)) [(x, s), (y, t)] := (Vars.start1 w x s).more (by simp) y t
theorem Vars.start3 (w : World) (x y z : Bool) (s t u : ByteArray) : Vars w (((w.alloc (wbox x s)).alloc (wbox y t)).alloc (wbox z u)) [(x, s), (y, t), (z, u)] := (Vars.start2 w x y s t).more (by simp) z u
theorem Vars.step (h : Vars w0 w l) (hb : Below w.heap.size w w') : Vars w0 w' l :=
  ⟨h.1.trans (hb.mono (by have := h.2.1; omega)), by have := h.2.1; have := hb.size; omega, fun i p hi => (h.2.2 i p hi).below hb (h.2.2 i p hi).lt⟩
theorem Vars.drew (h : Vars w0 w l) : Vars w0 w.drew l := ⟨h.1.drew, h.2.1, h.2.2⟩
theorem Vars.drewN (h : Vars w0 w l) (n : Nat) : Vars w0 (w.drewN n) l := ⟨below_many h.1 n, h.2.1, h.2.2⟩
theorem Vars.at_ (h : Vars w0 w l) (i : Nat) {x : Bool} {s : ByteArray} (hi : l[i]? = some (x, s)) : Wd w (w0.heap.size + i) x s := h.2.2 i _ hi
end

theorem sign_cases (z : Int) : (z < 0 ∧ z.sign = -1) ∨ (z = 0 ∧ z.sign = 0) ∨ (0 < z ∧ z.sign = 1) := by
  rcases Int.lt_trichotomy z 0 with h | h | h
  · exact .inl ⟨h, Int.sign_eq_neg_one_of_neg h⟩
  · subst h; exact .inr (.inl ⟨rfl, rfl⟩)
  · exact .inr (.inr ⟨h, Int.sign_eq_one_of_pos h⟩)
theorem cmp_equal (x y : Bool) (s t : ByteArray) (h : (wint x s).sign = (wint y t).sign) :
    (wint x s).sign * ((bval s.data.toList : Int) - bval t.data.toList).sign = (wint x s - wint y t).sign := by
  rw [show (wint x s).sign * ((bval s.data.toList : Int) - bval t.data.toList).sign = ((wint x s).sign * ((bval s.data.toList : Int) - bval t.data.toList)).sign from by rw [Int.sign_mul, Int.sign_sign]]
  congr 1
  have h1 := sign_cases (wint x s)
  have h2 := sign_cases (wint y t)
  have e1 : wint x s = bval s.data.toList ∨ wint x s = -(bval s.data.toList : Int) := by cases x <;> simp [wint]
  have e2 : wint y t = bval t.data.toList ∨ wint y t = -(bval t.data.toList : Int) := by cases y <;> simp [wint]
  generalize bval s.data.toList = N at *
  generalize bval t.data.toList = M at *
  generalize wint x s = a at *
  generalize wint y t = b at *
  rcases h1 with h1 | h1 | h1 <;> rw [h1.2] <;> rw [h1.2] at h <;> omega

set_option maxHeartbeats 1000000 in
theorem Cmp_any (x y : Bool) (s t : ByteArray) (w : World) (hs : s.size ≤ maxLen) (ht : t.size ≤ maxLen) :
    Calls Tryd.prog 22 #[.agg #[.bool x, .string s], .agg #[.bool y, .string t]] w fun e w' =>
      e = .returned (.int .i64 (wint x s - wint y t).sign) ∧ Below w.heap.size w w' := by
  have hp := fun W => Sign_any x s W hs
  have hq := fun W => Sign_any y t W ht
  have hc := fun W => compareSizes_any x y s t W hs ht
  have HP := Lib.hid hp
  have HQ := Lib.hid hq
  have HC := Lib.hid hc
  clear hp hq hc
  have heq := cmp_equal x y s t
  have s1 := sign_cases (wint x s)
  have s2 := sign_cases (wint y t)
  have s3 := sign_cases (wint x s - wint y t)
  have s4 := sign_cases ((bval s.data.toList : Int) - bval t.data.toList)
  have hgt : (wint y t).sign < (wint x s).sign → (wint x s - wint y t).sign = 1 := by omega
  have hlt : (wint x s).sign < (wint y t).sign → (wint x s - wint y t).sign = -1 := by omega
  have ba : -1 ≤ (wint x s).sign ∧ (wint x s).sign ≤ 1 := by omega
  have bc : -1 ≤ ((bval s.data.toList : Int) - bval t.data.toList).sign ∧ ((bval s.data.toList : Int) - bval t.data.toList).sign ≤ 1 := by omega
  clear s1 s2 s3 s4
  generalize ((bval s.data.toList : Int) - bval t.data.toList).sign = C at *
  generalize hS : (wint x s - wint y t).sign = S at *
  have HS := Lib.hid hS
  clear hS
  generalize (wint x s).sign = A at *
  generalize (wint y t).sign = B at *
  have HE := Lib.hid heq
  have HG := Lib.hid hgt
  have HL := Lib.hid hlt
  clear heq hgt hlt
  have HV := Lib.hid (Vars.start2 w x y s t)
  by_cases hne : A = B
  · have hneb : (A != B) = false := by simp [hne]
    have HE2 := Lib.hid (HE.out hne)
    clear hne HE HG HL
    go_enter Tryd.func22, Tryd.ntmps22
    go_wp2_with fail
    with_reducible refine (HP.out _).mono ?_
    rintro e w1 ⟨rfl, hb1⟩
    have hV1 := Lib.hid (HV.out.step hb1)
    have hc0 := (hV1.out.at_ 1 rfl).cell0
    have hc1 := (hV1.out.at_ 1 rfl).cell1
    go_wp2_with fail
    with_reducible refine (HQ.out _).mono ?_
    rintro e w2 ⟨rfl, hb2⟩
    have hV2 := Lib.hid (hV1.out.step hb2)
    have hd0 := (hV2.out.at_ 0 rfl).cell0
    have hd1 := (hV2.out.at_ 0 rfl).cell1
    have hd2 := (hV2.out.at_ 1 rfl).cell0
    have hd3 := (hV2.out.at_ 1 rfl).cell1
    rw [Nat.add_zero] at hd0 hd1
    clear hc0 hc1 hb1 hb2
    go_wp2_with fail
    with_reducible refine (HC.out _).mono ?_
    rintro e w3 ⟨rfl, hb3⟩
    have hV3 := Lib.hid (hV2.out.step hb3)
    clear hb3 hd0 hd1 hd2 hd3
    have hwr : IntKind.i64.wrap (A * C) = A * C := IntWalk.i64_in _ (by
      have : A = -1 ∨ A = 0 ∨ A = 1 := by omega
      rcases this with h | h | h <;> subst h <;> omega)
    go_wp2
    go_ret
    exact ⟨by rw [← HE2.out]; rfl, hV3.out.1⟩
  · have hneb : (A != B) = true := by simp [hne]
    by_cases hg : B < A
    · have hS := Lib.hid (HG.out hg)
      clear hne HE HG HL
      go_enter Tryd.func22, Tryd.ntmps22
      go_wp2_with fail
      with_reducible refine (HP.out _).mono ?_
      rintro e w1 ⟨rfl, hb1⟩
      have hV1 := Lib.hid (HV.out.step hb1)
      have hc0 := (hV1.out.at_ 1 rfl).cell0
      have hc1 := (hV1.out.at_ 1 rfl).cell1
      go_wp2_with fail
      with_reducible refine (HQ.out _).mono ?_
      rintro e w2 ⟨rfl, hb2⟩
      have hV2 := Lib.hid (hV1.out.step hb2)
      have hd2 := (hV2.out.at_ 1 rfl).cell0
      have hd3 := (hV2.out.at_ 1 rfl).cell1
      clear hc0 hc1 hb1 hb2
      go_wp2_with fail
      with_reducible refine (HQ.out _).mono ?_
      rintro e w3 ⟨rfl, hb3⟩
      have hV3 := Lib.hid (hV2.out.step hb3)
      clear hb3 hd2 hd3
      go_wp2
      go_ret
      exact ⟨by rw [hS.out]; rfl, hV3.out.1⟩
    · have hg2 : A < B := by omega
      have hS := Lib.hid (HL.out hg2)
      clear hne HE HG HL
      go_enter Tryd.func22, Tryd.ntmps22
      go_wp2_with fail
      with_reducible refine (HP.out _).mono ?_
      rintro e w1 ⟨rfl, hb1⟩
      have hV1 := Lib.hid (HV.out.step hb1)
      have hc0 := (hV1.out.at_ 1 rfl).cell0
      have hc1 := (hV1.out.at_ 1 rfl).cell1
      go_wp2_with fail
      with_reducible refine (HQ.out _).mono ?_
      rintro e w2 ⟨rfl, hb2⟩
      have hV2 := Lib.hid (hV1.out.step hb2)
      have hd2 := (hV2.out.at_ 1 rfl).cell0
      have hd3 := (hV2.out.at_ 1 rfl).cell1
      clear hc0 hc1 hb1 hb2
      go_wp2_with fail
      with_reducible refine (HQ.out _).mono ?_
      rintro e w3 ⟨rfl, hb3⟩
      have hV3 := Lib.hid (hV2.out.step hb3)
      clear hb3 hd2 hd3
      go_wp2
      go_ret
      exact ⟨by rw [hS.out]; rfl, hV3.out.1⟩
end Go.Proofs.YtgadnianjhaeiaaDoor
