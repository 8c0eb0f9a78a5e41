/-
  The contract of the reference's Gcd.
-/
import Derived.Test.YtgadnianjhaeiaaDoorGcdS
import Derived.Test.YtgadnianjhaeiaaDoorInt
import Derived.Test.YtgadnianjhaeiaaDoorQuotients
import Derived.Deep.DeepCutAuto
namespace Go.Proofs.YtgadnianjhaeiaaDoor
open Go.RowKit

/-- The variables of a call that began in w0: each of these blocks holds its Wide; they are different, and what was there before is as it was. -/
def Bxs (w0 w : World) (l : List (Nat × Bool × ByteArray)) : Prop :=
  Below w0.heap.size w0 w ∧ (∀ (i : Nat) (p : Nat × Bool × ByteArray), l[i]? = some p → w0.heap.size ≤ p.1 ∧ Wd w p.1 p.2.1 p.2.2) ∧ ∀ (i j : Nat) (p q : Nat × Bool × ByteArray), l[i]? = some p → l[j]? = some q → i ≠ j → p.1 ≠ q.1
section
variable {w0 w w' : World} {l : List (Nat × Bool × ByteArray)}
theorem Bxs.at_ (h : Bxs w0 w l) (i : Nat) {b : Nat} {x : Bool} {s : ByteArray} (hi : l[i]? = some (b, x, s)) : Wd w b x s := (h.2.1 i _ hi).2
theorem Bxs.ne (h : Bxs w0 w l) (i j : Nat) {b c : Nat} {x y : Bool} {s t : ByteArray} (hi : l[i]? = some (b, x, s)) (hj : l[j]? = some (c, y, t)) (hij : i ≠ j) : b ≠ c := h.2.2 i j _ _ hi hj hij
theorem Bxs.step (h : Bxs w0 w l) (hb : Below w.heap.size w w') : Bxs w0 w' l :=
  ⟨h.1.trans (hb.mono h.1.size), fun i p hi => ⟨(h.2.1 i p hi).1, (h.2.1 i p hi).2.below hb (h.2.1 i p hi).2.lt⟩, h.2.2⟩
theorem Bxs.drew (h : Bxs w0 w l) : Bxs w0 w.drew l := ⟨h.1.drew, h.2.1, h.2.2⟩
theorem Bxs.alloc (h : Bxs w0 w l) (o : Obj) : Bxs w0 (w.alloc o) l := h.step ((Below.refl _ _).alloc (Nat.le_refl _) o)
theorem Bxs.take (h : Bxs w0 w l) (n : Nat) : Bxs w0 w (l.take n) := by
  have ht : ∀ (i : Nat) (p : Nat × Bool × ByteArray), (l.take n)[i]? = some p → l[i]? = some p := fun i p hi => by
    rw [List.getElem?_take] at hi
    split at hi
    · exact hi
    · cases hi
  exact ⟨h.1, fun i p hi => h.2.1 i p (ht i p hi), fun i j p q hi hj => h.2.2 i j p q (ht i p hi) (ht j q hj)⟩
theorem Bxs.pick (h : Bxs w0 w l) (n i : Nat) (hn : n ≤ i) {p : Nat × Bool × ByteArray} (hp : l[i]? = some p) : Bxs w0 w (l.take n ++ [p]) := by
  have hi : i < l.length := (List.getElem?_eq_some_iff.1 hp).1
  have hl : (l.take n).length = n := by rw [List.length_take]; omega
  have ht : ∀ (k : Nat) (q : Nat × Bool × ByteArray), (l.take n ++ [p])[k]? = some q → (k < n ∧ l[k]? = some q) ∨ (k = n ∧ l[i]? = some q) := fun k q hk => by
    by_cases hkn : k < n
    · rw [List.getElem?_append_left (by omega), List.getElem?_take, if_pos hkn] at hk
      exact .inl ⟨hkn, hk⟩
    · rw [List.getElem?_append_right (by omega), hl] at hk
      by_cases h0 : k - n = 0
      · rw [h0] at hk
        exact .inr ⟨by omega, hp.trans hk⟩
      · rw [List.getElem?_eq_none (by simp; omega)] at hk
        cases hk
  refine ⟨h.1, fun k q hk => ?_, fun j k q r hj hk hjk => ?_⟩
  · rcases ht k q hk with ⟨_, e⟩ | ⟨_, e⟩
    · exact h.2.1 k q e
    · exact h.2.1 i q e
  · rcases ht j q hj with ⟨h1, e⟩ | ⟨h1, e⟩
    · rcases ht k r hk with ⟨h2, e2⟩ | ⟨h2, e2⟩
      · exact h.2.2 j k q r e e2 hjk
      · exact h.2.2 j i q r e e2 (by omega)
    · rcases ht k r hk with ⟨h2, e2⟩ | ⟨h2, e2⟩
      · exact h.2.2 i k q r e e2 (by omega)
      · omega
/-- Another name for the world that a goal speaks of. -/
theorem at_world {K : Act → World → Prop} {a : Act} (T : Bxs w0 w l) (h : ∀ W, Bxs w0 W l → K a W) : K a w := h w T
theorem Bxs.none_ (w : World) : Bxs w w [] := ⟨Below.refl _ _, fun i p h => by simp at h, fun i j p q h => by simp at h⟩
theorem Bxs.more (h : Bxs w0 w l) (x : Bool) (s : ByteArray) : Bxs w0 (w.alloc (wbox x s)) (l ++ [(w.heap.size, x, s)]) := by
  have hs := h.1.size
  have ht : ∀ (i : Nat) (p : Nat × Bool × ByteArray), (l ++ [(w.heap.size, x, s)])[i]? = some p → (i < l.length ∧ l[i]? = some p) ∨ (i = l.length ∧ p = (w.heap.size, x, s)) := fun i p hi => by
    by_cases hl : i < l.length
    · rw [List.getElem?_append_left hl] at hi
      exact .inl ⟨hl, hi⟩
    · rw [List.getElem?_append_right (by omega)] at hi
      by_cases h0 : i - l.length = 0
      · rw [h0] at hi
        simp at hi
        exact .inr ⟨by omega, hi.symm⟩
      · rw [List.getElem?_eq_none (by simp; omega)] at hi
        cases hi
  refine ⟨h.1.alloc hs _, fun i p hi => ?_, fun i j p q hi hj hij => ?_⟩
  · rcases ht i p hi with ⟨_, e⟩ | ⟨_, rfl⟩
    · exact ⟨(h.2.1 i p e).1, (h.2.1 i p e).2.alloc _⟩
    · exact ⟨hs, Wd.new w x s⟩
  · rcases ht i p hi with ⟨h1, e⟩ | ⟨h1, rfl⟩
    · rcases ht j q hj with ⟨h2, e2⟩ | ⟨h2, rfl⟩
      · exact h.2.2 i j p q e e2 hij
      · have := (h.2.1 i p e).2.lt
        exact Nat.ne_of_lt this
    · rcases ht j q hj with ⟨h2, e2⟩ | ⟨h2, rfl⟩
      · have := (h.2.1 j q e2).2.lt
        exact Nat.ne_of_gt this
      · omega
theorem Bxs.more2 (h : Bxs w0 w l) (x y : Bool) (s t : ByteArray) : Bxs w0 ((w.alloc (wbox x s)).alloc (wbox y t)) (l ++ [(w.heap.size, x, s), (w.heap.size + 1, y, t)]) := by
  have h2 := (h.more x s).more y t
  rw [List.append_assoc] at h2
  simpa using h2
theorem Bxs.more2d (h : Bxs w0 w l) (x y : Bool) (s t : ByteArray) : Bxs w0 ((w.alloc (wbox x s)).drew.alloc (wbox y t)) (l ++ [(w.heap.size, x, s), (w.heap.size + 1, y, t)]) := by
  have h2 := (h.more x s).drew.more y t
  rw [List.append_assoc] at h2
  simpa [World.drew] using h2
/-- A variable takes another Wide. -/
theorem Bxs.put (h : Bxs w0 w l) (i : Nat) {b : Nat} {x : Bool} {s : ByteArray} (hi : l[i]? = some (b, x, s)) (y : Bool) (t : ByteArray) :
    Bxs w0 ((w.setCell ⟨b, 0, none⟩ (.bool y)).setCell ⟨b, 1, none⟩ (.string t)) (l.set i (b, y, t)) := by
  have hl : i < l.length := (List.getElem?_eq_some_iff.1 hi).1
  have hb := (h.2.1 i _ hi).1
  have ht : ∀ (j : Nat) (p : Nat × Bool × ByteArray), (l.set i (b, y, t))[j]? = some p → (j = i ∧ p = (b, y, t)) ∨ (j ≠ i ∧ l[j]? = some p) := fun j p hj => by
    by_cases hij : i = j
    · subst hij
      rw [List.getElem?_set_self hl] at hj
      exact .inl ⟨rfl, (Option.some.inj hj).symm⟩
    · rw [List.getElem?_set_ne hij] at hj
      exact .inr ⟨fun e => hij e.symm, hj⟩
  refine ⟨(h.1.setCell (by simp only []; exact hb) _).setCell (by simp only []; exact hb) _, fun j p hj => ?_, fun j k p q hj hk hjk => ?_⟩
  · rcases ht j p hj with ⟨rfl, rfl⟩ | ⟨hne, e⟩
    · exact ⟨hb, ((h.at_ j hi).set0 y).set1 t⟩
    · have hn := h.2.2 j i p _ e hi hne
      exact ⟨(h.2.1 j p e).1, ((h.2.1 j p e).2.far (by simpa using hn) _).far (by simpa using hn) _⟩
  · rcases ht j p hj with ⟨rfl, rfl⟩ | ⟨hne, e⟩
    · rcases ht k q hk with ⟨rfl, rfl⟩ | ⟨hne2, e2⟩
      · exact absurd rfl hjk
      · exact h.2.2 j k (b, x, s) q hi e2 hjk
    · rcases ht k q hk with ⟨rfl, rfl⟩ | ⟨hne2, e2⟩
      · exact h.2.2 j k p (b, x, s) e hi hjk
      · exact h.2.2 j k p q e e2 hjk
theorem Bxs.start5 (w : World) (x y z v u : Bool) (s t r q p : ByteArray) : Bxs w (((((w.alloc (wbox x s)).alloc (wbox y t)).alloc (wbox z r)).alloc (wbox v q)).alloc (wbox u p))
    [(w.heap.size, x, s), (w.heap.size + 1, y, t), (w.heap.size + 2, z, r), (w.heap.size + 3, v, q), (w.heap.size + 4, u, p)] := by
  have h := (((((Bxs.none_ w).more x s).more y t).more z r).more v q).more u p
  simpa using h
end
theorem wint_empty : wint false ⟨#[]⟩ = 0 := rfl
/-- The absolute value of the Wide in a variable. -/
def wat (w : World) (b : Nat) : Nat :=
  match w.cell? ⟨b, 0, none⟩, w.cell? ⟨b, 1, none⟩ with
  | some (.bool x), some (.string s) => (wint x s).natAbs
  | _, _ => 0
theorem Wd.wat {w : World} {b : Nat} {z : Int} (h : Wd w b (wneg z) (wmag z)) : wat w b = z.natAbs := by
  unfold Go.Proofs.YtgadnianjhaeiaaDoor.wat
  rw [h.cell0, h.cell1]
  simp only []
  rw [wint_wv']

/-- The variables of the reference's loop. -/
abbrev bx9 (H k8 k9 k10 k11 : Nat) (x y : Bool) (s t : ByteArray) (g h p u : Int) : List (Nat × Bool × ByteArray) :=
  [(H, x, s), (H + 1, y, t), (H + 2, false, ⟨#[]⟩), (H + 3, false, ⟨#[]⟩), (H + 4, false, ⟨#[]⟩), (k8, wneg g, wmag g), (k9, wneg h, wmag h), (k10, wneg p, wmag p), (k11, wneg u, wmag u)]
set_option maxRecDepth 100000 in
set_option maxHeartbeats 40000000 in
theorem RGcd_any (x y : Bool) (s t : ByteArray) (w : World) (hs : s.size ≤ 80) (ht : t.size ≤ 80) (hb : wint y t ≠ 0) (a b : Int) (ha : wint x s = a) (hbv : wint y t = b) :
    Calls Tryd.prog 29 #[.agg #[.bool x, .string s], .agg #[.bool y, .string t]] w fun e w' =>
      e = .returned (.tuple #[.agg #[.bool (wneg (gcdS a b).1), .string (wmag (gcdS a b).1)], .agg #[.bool (wneg (gcdS a b).2.1), .string (wmag (gcdS a b).2.1)], .agg #[.bool (wneg (gcdS a b).2.2), .string (wmag (gcdS a b).2.2)]]) ∧ Below w.heap.size w w' := by
  have hsi := fun W => RSign_any y t W (by omega)
  have hsz : ((wint y t).sign == 0) = false := by simpa using hb
  generalize (wint y t).sign = sgnb at *
  have had1 := fun W => RAdd_any x false s ⟨#[]⟩ W (by omega) (by decide) a (by rw [wint_empty, ha, Int.add_zero])
  have had2 := fun W => RAdd_any y false t ⟨#[]⟩ W (by omega) (by decide) b (by rw [wint_empty, hbv, Int.add_zero])
  have hf1 := fun W => RFrom_any 1 W (by omega) (by omega)
  have hf0 := fun W => RFrom_any 0 W (by omega) (by omega)
  have HSI := Lib.hid hsi
  have HA1 := Lib.hid had1
  have HA2 := Lib.hid had2
  have HF1 := Lib.hid hf1
  have HF0 := Lib.hid hf0
  clear hsi had1 had2 hf1 hf0
  rw [hbv] at hb
  have HV := Lib.hid (Bxs.start5 w x y false false false s t ⟨#[]⟩ ⟨#[]⟩ ⟨#[]⟩)
  go_enter Tryd.func29, Tryd.ntmps29
  go_wp2_with fail
  with_reducible refine (HSI.out _).mono ?_
  rintro e w1 ⟨rfl, hb1⟩
  have hV1 := Lib.hid (HV.out.step hb1)
  have u0 := (hV1.out.at_ 0 rfl).cell0
  have u1 := (hV1.out.at_ 0 rfl).cell1
  go_wp2_with fail
  with_reducible refine (HA1.out _).mono ?_
  rintro e w2 ⟨rfl, hb2⟩
  have hV2 := Lib.hid ((hV1.out.step hb2).more (wneg a) (wmag a))
  have v0 := (hV2.out.at_ 1 rfl).cell0
  have v1 := (hV2.out.at_ 1 rfl).cell1
  clear u0 u1 hb1
  go_wp2_with fail
  with_reducible refine (HA2.out _).mono ?_
  rintro e w3 ⟨rfl, hb3⟩
  have hV3 := Lib.hid ((hV2.out.step hb3).more (wneg b) (wmag b))
  clear v0 v1 hb2
  go_wp2_with fail
  with_reducible refine (HF1.out _).mono ?_
  rintro e w4 ⟨rfl, hb4⟩
  have hV4 := Lib.hid ((hV3.out.step hb4).more (wneg 1) (wmag 1))
  clear hb3
  go_wp2_with fail
  with_reducible refine (HF0.out _).mono ?_
  rintro e w5 ⟨rfl, hb5⟩
  have hV5 := Lib.hid ((hV4.out.step hb5).more (wneg 0) (wmag 0))
  clear hb4
  have hA := wint_abs_pow x s 80 hs
  have hB := wint_abs_pow y t 80 ht
  rw [ha] at hA
  rw [hbv] at hB
  go_wp2_with fail
  generalize w2.heap.size = k8 at *
  generalize w3.heap.size = k9 at *
  generalize w4.heap.size = k10 at *
  generalize w5.heap.size = k11 at *
  have HA := Lib.hid hA
  have HB := Lib.hid hB
  have HN := Lib.hid hb
  have Ha := Lib.hid ha
  have Hb := Lib.hid hbv
  clear hA hB hb hb5 ha hbv
  go_loopw [12, 13, 14, 15] (fun _ _ _ _ wr => ∃ g h p u : Int, RI a b g h p u ∧ Bxs w wr (bx9 w.heap.size k8 k9 k10 k11 x y s t g h p u))
    (fun _ _ _ _ wr => wat wr k9)
  case atStart => exact ⟨a, b, 1, 0, RI.start a b HN.out, hV5.out⟩
  case round =>
    obtain ⟨g, h, p, u, hR, hX⟩ := hrel
    have hsize := hR.size
    have hx := hR.2.2.2.1
    have hu := hR.2.2.2.2.1
    have sg := wmag_size g 80 (by have := HA.out; have := HB.out; omega)
    have sh := wmag_size h 80 (by have := HB.out; omega)
    have sp := wmag_size p 80 (by have := HB.out; omega)
    have su := wmag_size u 80 (by have := HB.out; omega)
    have hu80 : u.natAbs < 256 ^ 80 := by have := HB.out; omega
    have hg80 : g.natAbs < 256 ^ 80 := by have := HA.out; have := HB.out; omega
    have hsg := fun W => RSign_any (wneg h) (wmag h) W (by omega)
    rw [wint_wv'] at hsg
    have HX := Lib.hid hX
    have HR := Lib.hid hR
    have HSG := Lib.hid hsg
    clear hsg hR hx hu
    have c0 := (hX.at_ 6 rfl).cell0
    have c1 := (hX.at_ 6 rfl).cell1
    clear hX
    by_cases hh : h = 0
    · --TAIL
      obtain rfl : h = 0 := hh
      have hend := HR.out.end HN.out
      rw [show (0 : Int).sign = 0 from rfl] at HSG
      have hsgg := fun W => RSign_any (wneg g) (wmag g) W (by omega)
      rw [wint_wv'] at hsgg
      have HSGG := Lib.hid hsgg
      have HEND := Lib.hid hend
      clear hsgg hend hsize
      go_wp2_with fail
      with_reducible refine (HSG.out _).mono ?_
      rintro e w6 ⟨rfl, hb6⟩
      have hX6 := Lib.hid (HX.out.step hb6)
      clear hb6 c0 c1
      have c0 := (hX6.out.at_ 5 rfl).cell0
      have c1 := (hX6.out.at_ 5 rfl).cell1
      go_wp2_with fail
      with_reducible refine (HSGG.out _).mono ?_
      rintro e w7 ⟨rfl, hb7⟩
      have hX7 := Lib.hid (hX6.out.step hb7)
      clear hb7 c0 c1
      have hK : ∃ (G X : Int), 1 ≤ G ∧ G ∣ a ∧ G ∣ b ∧ b ∣ G - X * a ∧ G.natAbs < 256 ^ 80 ∧ X.natAbs < 256 ^ 80 ∧ ((g < 0 ∧ -g = G ∧ -p = X) ∨ (0 < g ∧ g = G ∧ p = X)) := by
        obtain ⟨h1, h2, h3, h4, h5, h6⟩ := HEND.out
        have hB8 := HB.out
        rcases Int.lt_or_le g 0 with hl | hl
        · refine ⟨-g, -p, by omega, Int.neg_dvd.2 h2, Int.neg_dvd.2 h3, ?_, by omega, by omega, .inl ⟨hl, rfl, rfl⟩⟩
          have := Int.dvd_neg.2 h4
          rwa [show -(g - p * a) = -g - -p * a from by grind] at this
        · exact ⟨g, p, by omega, h2, h3, h4, by omega, by omega, .inr ⟨by omega, rfl, rfl⟩⟩
      obtain ⟨G, X, g1, g2, g3, g4, g5, g6, hcase⟩ := hK
      have hres := ref_gcd HN.out g1 g2 g3 g4
      have sG := wmag_size G 80 g5
      have sX := wmag_size X 80 g6
      have hB8 := HB.out
      have hA8 := HA.out
      have hm0 : b / G ≠ 0 := by
        intro e
        have := Int.ediv_mul_cancel g3
        rw [e, Int.zero_mul] at this
        exact HN.out this.symm
      have sm : (b / G).natAbs < 256 ^ 80 := Nat.lt_of_le_of_lt (Int.natAbs_ediv_le_natAbs _ _) hB8
      have sm2 := wmag_size (b / G) 80 sm
      have sr : (X % (b / G)).natAbs < 256 ^ 80 := by
        have h1 := Int.emod_nonneg X hm0
        have h2 := Int.emod_lt X hm0
        omega
      have sr2 := wmag_size (X % (b / G)) 80 sr
      have sp1 : (X % (b / G) * a).natAbs < 256 ^ 160 := abs_mul (k := 80) (l := 80) sr hA8
      have sp2 := wmag_size (X % (b / G) * a) 160 sp1
      have sd1 : (G - X % (b / G) * a).natAbs < 256 ^ 161 := by
        have : (256 : Nat) ^ 161 = 256 * 256 ^ 160 := by rw [Nat.pow_succ, Nat.mul_comm]
        have h160 : (256 : Nat) ^ 80 ≤ 256 ^ 160 := Nat.pow_le_pow_right (by omega) (by omega)
        omega
      have sd2 := wmag_size (G - X % (b / G) * a) 161 sd1
      have HQ1 := Lib.hid (fun W => RQuo_any y (wneg G) t (wmag G) W (by omega) (by omega) (by rw [wint_wv']; omega) (b / G) (b % G) (by rw [wint_wv', Hb.out]) (by rw [wint_wv', Hb.out]))
      have HQ2 := Lib.hid (fun W => RQuo_any (wneg X) (wneg (b / G)) (wmag X) (wmag (b / G)) W (by omega) (by omega) (by rw [wint_wv']; exact hm0) (X / (b / G)) (X % (b / G)) (by rw [wint_wv', wint_wv']) (by rw [wint_wv', wint_wv']))
      have HMU := Lib.hid (fun W => RMul_any (wneg (X % (b / G))) x (wmag (X % (b / G))) s W (by omega) (by omega) (X % (b / G) * a) (by rw [wint_wv', Ha.out]))
      have HSU := Lib.hid (fun W => RSub_any (wneg G) (wneg (X % (b / G) * a)) (wmag G) (wmag (X % (b / G) * a)) W (by omega) (by omega) (G - X % (b / G) * a) (by rw [wint_wv', wint_wv']))
      have HQ3 := Lib.hid (fun W => RQuo_any (wneg (G - X % (b / G) * a)) y (wmag (G - X % (b / G) * a)) t W (by omega) (by omega) (by rw [Hb.out]; exact HN.out) ((G - X % (b / G) * a) / b) ((G - X % (b / G) * a) % b) (by rw [wint_wv', Hb.out]) (by rw [wint_wv', Hb.out]))
      have HRES := Lib.hid hres
      clear hres g1 g2 g3 g4 g5 g6 hm0 sm sm2 sr sr2 sp1 sp2 sd1 sd2 hB8 hA8 sG sX
      generalize (G - X % (b / G) * a) / b = Y at *
      generalize (G - X % (b / G) * a) % b = Yr at *
      generalize G - X % (b / G) * a = Dd at *
      generalize X % (b / G) * a = Pp at *
      generalize X / (b / G) = Xq at *
      generalize X % (b / G) = Xr at *
      generalize b / G = m at *
      generalize b % G = mr at *
      go_upto_if 63 with fail
      go_cut [] (fun wx => Bxs w wx (bx9 w.heap.size k8 k9 k10 k11 x y s t G 0 X u))
      case first =>
        rcases hcase with ⟨hl, hG, hXe⟩ | ⟨hl, hG, hXe⟩
        · have hsn : g.sign = -1 := Int.sign_eq_neg_one_of_neg hl
          have HNG := Lib.hid (fun W => RNeg_any (wneg g) (wmag g) W (by omega) G (by rw [wint_wv']; exact hG))
          have HNX := Lib.hid (fun W => RNeg_any (wneg p) (wmag p) W (by omega) X (by rw [wint_wv']; exact hXe))
          have hdn : decide (g < 0) = true := by simpa using hl
          have hdn2 : decide (g.sign < 0) = true := by rw [hsn]; rfl
          clear hG hXe
          have c0 := (hX7.out.at_ 5 rfl).cell0
          have c1 := (hX7.out.at_ 5 rfl).cell1
          go_wp2_with fail
          with_reducible refine (HNG.out _).mono ?_
          rintro e w8 ⟨rfl, hb8⟩
          have hX8 := Lib.hid (hX7.out.step hb8)
          clear c0 c1 hb8
          have c0 := (hX8.out.at_ 7 rfl).cell0
          have c1 := (hX8.out.at_ 7 rfl).cell1
          have z0 := (hX8.out.at_ 5 rfl).cell0
          have z1 := (hX8.out.at_ 5 rfl).cell1
          have f0 := (hX8.out.at_ 5 rfl).frozen 0
          have f1 := (hX8.out.at_ 5 rfl).frozen 1
          have n1 := hX8.out.ne 5 7 rfl rfl (by decide)
          have n2 := n1.symm
          have hX8b := Lib.hid (hX8.out.put 5 rfl (wneg G) (wmag G))
          go_wp2_with fail
          generalize hW : (w8.setCell ⟨k8, 0, none⟩ (.bool (wneg G))).setCell ⟨k8, 1, none⟩ (.string (wmag G)) = W8 at *
          with_reducible refine (HNX.out _).mono ?_
          rintro e w9 ⟨rfl, hb9⟩
          have hX9 := Lib.hid (hX8b.out.step hb9)
          clear c0 c1 z0 z1 f0 f1 n1 n2 hb9 hW
          have z0 := (hX9.out.at_ 7 rfl).cell0
          have z1 := (hX9.out.at_ 7 rfl).cell1
          have f0 := (hX9.out.at_ 7 rfl).frozen 0
          have f1 := (hX9.out.at_ 7 rfl).frozen 1
          have hT := Lib.hid (hX9.out.put 7 rfl (wneg X) (wmag X))
          go_wp2_with fail
          go_meet
          case rel => exact hT.out
        · subst hG hXe
          have hsn : g.sign = 1 := Int.sign_eq_one_of_pos hl
          have hnl : ¬ g < 0 := by omega
          have hdn : decide (g < 0) = false := by simpa using hnl
          have hdn2 : decide (g.sign < 0) = false := by rw [hsn]; rfl
          clear hl
          go_wp2_with fail
          go_meet
          case rel => exact hX7.out
      case rest =>
        clear hX7 hX6
        have hT := Lib.hid hcut
        have c0 := (hcut.at_ 5 rfl).cell0
        have c1 := (hcut.at_ 5 rfl).cell1
        have c2 := (hcut.at_ 1 rfl).cell0
        have c3 := (hcut.at_ 1 rfl).cell1
        clear hcut
        go_wp2_with fail
        clear c0 c1 c2 c3
        with_reducible refine (HQ1.out _).mono ?_
        rintro e w10 ⟨rfl, hb10⟩
        have hT1 := Lib.hid ((hT.out.step hb10).more2 (wneg m) (wneg mr) (wmag m) (wmag mr))
        clear hb10 hT
        have c0 := (hT1.out.at_ 7 rfl).cell0
        have c1 := (hT1.out.at_ 7 rfl).cell1
        have c2 := (hT1.out.at_ 9 rfl).cell0
        have c3 := (hT1.out.at_ 9 rfl).cell1
        go_wp2_with fail
        with_reducible refine (HQ2.out _).mono ?_
        rintro e w11 ⟨rfl, hb11⟩
        have hT2 := Lib.hid (hT1.out.step hb11)
        clear hb11 hT1 c0 c1 c2 c3
        have z0 := (hT2.out.at_ 7 rfl).cell0
        have z1 := (hT2.out.at_ 7 rfl).cell1
        have f0 := (hT2.out.at_ 7 rfl).frozen 0
        have f1 := (hT2.out.at_ 7 rfl).frozen 1
        have hB := hT2.out.put 7 rfl (wneg Xr) (wmag Xr)
        go_wp2_with fail
        generalize hW : (w11.setCell ⟨k10, 0, none⟩ (.bool (wneg Xr))).setCell ⟨k10, 1, none⟩ (.string (wmag Xr)) = WU at *
        replace hB : Bxs w WU (bx9 w.heap.size k8 k9 k10 k11 x y s t G 0 Xr u ++ [(w10.heap.size, wneg m, wmag m), (w10.heap.size + 1, wneg mr, wmag mr)]) := hB
        clear hW z0 z1 f0 f1 hT2
        have d0 := (hB.at_ 5 rfl).cell0
        have d1 := (hB.at_ 5 rfl).cell1
        have d2 := (hB.at_ 7 rfl).cell0
        have d3 := (hB.at_ 7 rfl).cell1
        have d4 := (hB.at_ 0 rfl).cell0
        have d5 := (hB.at_ 0 rfl).cell1
        have d6 := (hB.at_ 1 rfl).cell0
        have d7 := (hB.at_ 1 rfl).cell1
        go_upto_region 21 with fail
        go_cut [19, 20] (fun s19 s20 wx => ∃ b19, s19 = .pointer (some ⟨b19, 0, none⟩) ∧ Bxs w wx (bx9 w.heap.size k8 k9 k10 k11 x y s t G 0 Xr u ++ [(b19, wneg Y, wmag Y)]))
        case first =>
          go_region_held3 (fun w' => w'.cell? ⟨k8, 0, none⟩ = some (.bool (wneg G)) ∧ w'.cell? ⟨k8, 1, none⟩ = some (.string (wmag G)) ∧ w'.cell? ⟨k10, 0, none⟩ = some (.bool (wneg Xr)) ∧ w'.cell? ⟨k10, 1, none⟩ = some (.string (wmag Xr)) ∧ w'.cell? ⟨w.heap.size, 0, none⟩ = some (.bool x) ∧ w'.cell? ⟨w.heap.size, 1, none⟩ = some (.string s) ∧ w'.cell? ⟨w.heap.size + 1, 0, none⟩ = some (.bool y) ∧ w'.cell? ⟨w.heap.size + 1, 1, none⟩ = some (.string t)) (first | (refine ⟨?_, ?_, ?_, ?_, ?_, ?_, ?_, ?_⟩ <;> with_reducible assumption) | with_reducible exact ⟨((hB.alloc _).at_ 5 rfl).cell0, ((hB.alloc _).at_ 5 rfl).cell1, ((hB.alloc _).at_ 7 rfl).cell0, ((hB.alloc _).at_ 7 rfl).cell1, ((hB.alloc _).at_ 0 rfl).cell0, ((hB.alloc _).at_ 0 rfl).cell1, ((hB.alloc _).at_ 1 rfl).cell0, ((hB.alloc _).at_ 1 rfl).cell1⟩ | with_reducible exact ⟨((hB.put 11 rfl _ _).at_ 5 rfl).cell0, ((hB.put 11 rfl _ _).at_ 5 rfl).cell1, ((hB.put 11 rfl _ _).at_ 7 rfl).cell0, ((hB.put 11 rfl _ _).at_ 7 rfl).cell1, ((hB.put 11 rfl _ _).at_ 0 rfl).cell0, ((hB.put 11 rfl _ _).at_ 0 rfl).cell1, ((hB.put 11 rfl _ _).at_ 1 rfl).cell0, ((hB.put 11 rfl _ _).at_ 1 rfl).cell1⟩ | with_reducible exact ⟨((hB.put 12 rfl _ _).at_ 5 rfl).cell0, ((hB.put 12 rfl _ _).at_ 5 rfl).cell1, ((hB.put 12 rfl _ _).at_ 7 rfl).cell0, ((hB.put 12 rfl _ _).at_ 7 rfl).cell1, ((hB.put 12 rfl _ _).at_ 0 rfl).cell0, ((hB.put 12 rfl _ _).at_ 0 rfl).cell1, ((hB.put 12 rfl _ _).at_ 1 rfl).cell0, ((hB.put 12 rfl _ _).at_ 1 rfl).cell1⟩ | with_reducible exact ⟨(((hB.put 11 rfl _ _).put 12 rfl _ _).at_ 5 rfl).cell0, (((hB.put 11 rfl _ _).put 12 rfl _ _).at_ 5 rfl).cell1, (((hB.put 11 rfl _ _).put 12 rfl _ _).at_ 7 rfl).cell0, (((hB.put 11 rfl _ _).put 12 rfl _ _).at_ 7 rfl).cell1, (((hB.put 11 rfl _ _).put 12 rfl _ _).at_ 0 rfl).cell0, (((hB.put 11 rfl _ _).put 12 rfl _ _).at_ 0 rfl).cell1, (((hB.put 11 rfl _ _).put 12 rfl _ _).at_ 1 rfl).cell0, (((hB.put 11 rfl _ _).put 12 rfl _ _).at_ 1 rfl).cell1⟩ | with_reducible exact ⟨(((hB.put 12 rfl _ _).put 11 rfl _ _).at_ 5 rfl).cell0, (((hB.put 12 rfl _ _).put 11 rfl _ _).at_ 5 rfl).cell1, (((hB.put 12 rfl _ _).put 11 rfl _ _).at_ 7 rfl).cell0, (((hB.put 12 rfl _ _).put 11 rfl _ _).at_ 7 rfl).cell1, (((hB.put 12 rfl _ _).put 11 rfl _ _).at_ 0 rfl).cell0, (((hB.put 12 rfl _ _).put 11 rfl _ _).at_ 0 rfl).cell1, (((hB.put 12 rfl _ _).put 11 rfl _ _).at_ 1 rfl).cell0, (((hB.put 12 rfl _ _).put 11 rfl _ _).at_ 1 rfl).cell1⟩ | with_reducible exact ⟨(((hB.alloc _).alloc _).at_ 5 rfl).cell0, (((hB.alloc _).alloc _).at_ 5 rfl).cell1, (((hB.alloc _).alloc _).at_ 7 rfl).cell0, (((hB.alloc _).alloc _).at_ 7 rfl).cell1, (((hB.alloc _).alloc _).at_ 0 rfl).cell0, (((hB.alloc _).alloc _).at_ 0 rfl).cell1, (((hB.alloc _).alloc _).at_ 1 rfl).cell0, (((hB.alloc _).alloc _).at_ 1 rfl).cell1⟩ | with_reducible exact ⟨((hB.drew.alloc _).at_ 5 rfl).cell0, ((hB.drew.alloc _).at_ 5 rfl).cell1, ((hB.drew.alloc _).at_ 7 rfl).cell0, ((hB.drew.alloc _).at_ 7 rfl).cell1, ((hB.drew.alloc _).at_ 0 rfl).cell0, ((hB.drew.alloc _).at_ 0 rfl).cell1, ((hB.drew.alloc _).at_ 1 rfl).cell0, ((hB.drew.alloc _).at_ 1 rfl).cell1⟩ | with_reducible exact ⟨(((hB.alloc _).drew.alloc _).at_ 5 rfl).cell0, (((hB.alloc _).drew.alloc _).at_ 5 rfl).cell1, (((hB.alloc _).drew.alloc _).at_ 7 rfl).cell0, (((hB.alloc _).drew.alloc _).at_ 7 rfl).cell1, (((hB.alloc _).drew.alloc _).at_ 0 rfl).cell0, (((hB.alloc _).drew.alloc _).at_ 0 rfl).cell1, (((hB.alloc _).drew.alloc _).at_ 1 rfl).cell0, (((hB.alloc _).drew.alloc _).at_ 1 rfl).cell1⟩ | with_reducible exact ⟨(((hB.more _ _).put 11 rfl _ _).at_ 5 rfl).cell0, (((hB.more _ _).put 11 rfl _ _).at_ 5 rfl).cell1, (((hB.more _ _).put 11 rfl _ _).at_ 7 rfl).cell0, (((hB.more _ _).put 11 rfl _ _).at_ 7 rfl).cell1, (((hB.more _ _).put 11 rfl _ _).at_ 0 rfl).cell0, (((hB.more _ _).put 11 rfl _ _).at_ 0 rfl).cell1, (((hB.more _ _).put 11 rfl _ _).at_ 1 rfl).cell0, (((hB.more _ _).put 11 rfl _ _).at_ 1 rfl).cell1⟩ | with_reducible exact ⟨((((hB.more _ _).put 11 rfl _ _).put 12 rfl _ _).at_ 5 rfl).cell0, ((((hB.more _ _).put 11 rfl _ _).put 12 rfl _ _).at_ 5 rfl).cell1, ((((hB.more _ _).put 11 rfl _ _).put 12 rfl _ _).at_ 7 rfl).cell0, ((((hB.more _ _).put 11 rfl _ _).put 12 rfl _ _).at_ 7 rfl).cell1, ((((hB.more _ _).put 11 rfl _ _).put 12 rfl _ _).at_ 0 rfl).cell0, ((((hB.more _ _).put 11 rfl _ _).put 12 rfl _ _).at_ 0 rfl).cell1, ((((hB.more _ _).put 11 rfl _ _).put 12 rfl _ _).at_ 1 rfl).cell0, ((((hB.more _ _).put 11 rfl _ _).put 12 rfl _ _).at_ 1 rfl).cell1⟩ | with_reducible exact ⟨((((hB.more _ _).put 12 rfl _ _).put 11 rfl _ _).at_ 5 rfl).cell0, ((((hB.more _ _).put 12 rfl _ _).put 11 rfl _ _).at_ 5 rfl).cell1, ((((hB.more _ _).put 12 rfl _ _).put 11 rfl _ _).at_ 7 rfl).cell0, ((((hB.more _ _).put 12 rfl _ _).put 11 rfl _ _).at_ 7 rfl).cell1, ((((hB.more _ _).put 12 rfl _ _).put 11 rfl _ _).at_ 0 rfl).cell0, ((((hB.more _ _).put 12 rfl _ _).put 11 rfl _ _).at_ 0 rfl).cell1, ((((hB.more _ _).put 12 rfl _ _).put 11 rfl _ _).at_ 1 rfl).cell0, ((((hB.more _ _).put 12 rfl _ _).put 11 rfl _ _).at_ 1 rfl).cell1⟩ | with_reducible exact ⟨(((hB.more _ _).put 12 rfl _ _).at_ 5 rfl).cell0, (((hB.more _ _).put 12 rfl _ _).at_ 5 rfl).cell1, (((hB.more _ _).put 12 rfl _ _).at_ 7 rfl).cell0, (((hB.more _ _).put 12 rfl _ _).at_ 7 rfl).cell1, (((hB.more _ _).put 12 rfl _ _).at_ 0 rfl).cell0, (((hB.more _ _).put 12 rfl _ _).at_ 0 rfl).cell1, (((hB.more _ _).put 12 rfl _ _).at_ 1 rfl).cell0, (((hB.more _ _).put 12 rfl _ _).at_ 1 rfl).cell1⟩ | go_keep)
            (first
              | (go_at_call 25; (with_reducible refine (HMU.out _).mono ?_); rintro e w12 ⟨rfl, hbn⟩; (first | (replace hB := hB.step hbn) | (replace hB := (hB.more false ⟨#[]⟩).step hbn) | (replace hB := (hB.more false ⟨#[]⟩).drew.step hbn) | (replace hB := (hB.more2 false false ⟨#[]⟩ ⟨#[]⟩).step hbn) | (replace hB := (hB.more2 false false ⟨#[]⟩ ⟨#[]⟩).drew.step hbn) | (replace hB := (hB.more2d false false ⟨#[]⟩ ⟨#[]⟩).step hbn) | (replace hB := (hB.more2d false false ⟨#[]⟩ ⟨#[]⟩).drew.step hbn) | (replace hB := (hB.drew).step hbn) | (replace hB := (hB.drew.more false ⟨#[]⟩).step hbn) | (replace hB := (hB.drew.more false ⟨#[]⟩).drew.step hbn) | (replace hB := (hB.drew.more2 false false ⟨#[]⟩ ⟨#[]⟩).step hbn) | (replace hB := (hB.drew.more2 false false ⟨#[]⟩ ⟨#[]⟩).drew.step hbn) | (replace hB := (hB.drew.more2d false false ⟨#[]⟩ ⟨#[]⟩).step hbn) | (replace hB := (hB.drew.more2d false false ⟨#[]⟩ ⟨#[]⟩).drew.step hbn)); clear hbn d0 d1 d2 d3 d4 d5 d6 d7; have d0 := (hB.at_ 5 rfl).cell0; have d1 := (hB.at_ 5 rfl).cell1; have d2 := (hB.at_ 7 rfl).cell0; have d3 := (hB.at_ 7 rfl).cell1; have d4 := (hB.at_ 0 rfl).cell0; have d5 := (hB.at_ 0 rfl).cell1; have d6 := (hB.at_ 1 rfl).cell0; have d7 := (hB.at_ 1 rfl).cell1; (try (have e110 := (hB.at_ 11 rfl).cell0; have e111 := (hB.at_ 11 rfl).cell1; have e112 := (hB.at_ 11 rfl).frozen 0; have e113 := (hB.at_ 11 rfl).frozen 1)); (try (have e120 := (hB.at_ 12 rfl).cell0; have e121 := (hB.at_ 12 rfl).cell1; have e122 := (hB.at_ 12 rfl).frozen 0; have e123 := (hB.at_ 12 rfl).frozen 1)); (try (clear g0 g1 g2 g3 n1 n2)); (try (clear n3 n4)); (try (have g0 := ((hB.alloc (wbox false ⟨#[]⟩)).at_ 11 rfl).cell0; have g1 := ((hB.alloc (wbox false ⟨#[]⟩)).at_ 11 rfl).cell1; have g2 := ((hB.alloc (wbox false ⟨#[]⟩)).at_ 11 rfl).frozen 0; have g3 := ((hB.alloc (wbox false ⟨#[]⟩)).at_ 11 rfl).frozen 1; have n1 := Nat.ne_of_lt (hB.at_ 11 rfl).lt; have n2 := n1.symm)); (try (clear p0 p1 p2 p3)); (try (have p0 := ((hB.alloc (wbox (wneg Y) (wmag Y))).at_ 11 rfl).cell0; have p1 := ((hB.alloc (wbox (wneg Y) (wmag Y))).at_ 11 rfl).cell1; have p2 := ((hB.alloc (wbox (wneg Y) (wmag Y))).at_ 11 rfl).frozen 0; have p3 := ((hB.alloc (wbox (wneg Y) (wmag Y))).at_ 11 rfl).frozen 1)); (try (have n3 := hB.ne 11 12 rfl rfl (by decide); have n4 := n3.symm)))
              | (go_at_call 17; (with_reducible refine (HSU.out _).mono ?_); rintro e w13 ⟨rfl, hbn⟩; (first | (replace hB := hB.step hbn) | (replace hB := (hB.more false ⟨#[]⟩).step hbn) | (replace hB := (hB.more false ⟨#[]⟩).drew.step hbn) | (replace hB := (hB.more2 false false ⟨#[]⟩ ⟨#[]⟩).step hbn) | (replace hB := (hB.more2 false false ⟨#[]⟩ ⟨#[]⟩).drew.step hbn) | (replace hB := (hB.more2d false false ⟨#[]⟩ ⟨#[]⟩).step hbn) | (replace hB := (hB.more2d false false ⟨#[]⟩ ⟨#[]⟩).drew.step hbn) | (replace hB := (hB.drew).step hbn) | (replace hB := (hB.drew.more false ⟨#[]⟩).step hbn) | (replace hB := (hB.drew.more false ⟨#[]⟩).drew.step hbn) | (replace hB := (hB.drew.more2 false false ⟨#[]⟩ ⟨#[]⟩).step hbn) | (replace hB := (hB.drew.more2 false false ⟨#[]⟩ ⟨#[]⟩).drew.step hbn) | (replace hB := (hB.drew.more2d false false ⟨#[]⟩ ⟨#[]⟩).step hbn) | (replace hB := (hB.drew.more2d false false ⟨#[]⟩ ⟨#[]⟩).drew.step hbn)); clear hbn d0 d1 d2 d3 d4 d5 d6 d7; have d0 := (hB.at_ 5 rfl).cell0; have d1 := (hB.at_ 5 rfl).cell1; have d2 := (hB.at_ 7 rfl).cell0; have d3 := (hB.at_ 7 rfl).cell1; have d4 := (hB.at_ 0 rfl).cell0; have d5 := (hB.at_ 0 rfl).cell1; have d6 := (hB.at_ 1 rfl).cell0; have d7 := (hB.at_ 1 rfl).cell1; (try (have e110 := (hB.at_ 11 rfl).cell0; have e111 := (hB.at_ 11 rfl).cell1; have e112 := (hB.at_ 11 rfl).frozen 0; have e113 := (hB.at_ 11 rfl).frozen 1)); (try (have e120 := (hB.at_ 12 rfl).cell0; have e121 := (hB.at_ 12 rfl).cell1; have e122 := (hB.at_ 12 rfl).frozen 0; have e123 := (hB.at_ 12 rfl).frozen 1)); (try (clear g0 g1 g2 g3 n1 n2)); (try (clear n3 n4)); (try (have g0 := ((hB.alloc (wbox false ⟨#[]⟩)).at_ 11 rfl).cell0; have g1 := ((hB.alloc (wbox false ⟨#[]⟩)).at_ 11 rfl).cell1; have g2 := ((hB.alloc (wbox false ⟨#[]⟩)).at_ 11 rfl).frozen 0; have g3 := ((hB.alloc (wbox false ⟨#[]⟩)).at_ 11 rfl).frozen 1; have n1 := Nat.ne_of_lt (hB.at_ 11 rfl).lt; have n2 := n1.symm)); (try (clear p0 p1 p2 p3)); (try (have p0 := ((hB.alloc (wbox (wneg Y) (wmag Y))).at_ 11 rfl).cell0; have p1 := ((hB.alloc (wbox (wneg Y) (wmag Y))).at_ 11 rfl).cell1; have p2 := ((hB.alloc (wbox (wneg Y) (wmag Y))).at_ 11 rfl).frozen 0; have p3 := ((hB.alloc (wbox (wneg Y) (wmag Y))).at_ 11 rfl).frozen 1)); (try (have n3 := hB.ne 11 12 rfl rfl (by decide); have n4 := n3.symm)))
              | (go_at_call 56; (with_reducible refine (HQ3.out _).mono ?_); rintro e w14 ⟨rfl, hbn⟩; (first | (replace hB := hB.step hbn) | (replace hB := (hB.more false ⟨#[]⟩).step hbn) | (replace hB := (hB.more false ⟨#[]⟩).drew.step hbn) | (replace hB := (hB.more2 false false ⟨#[]⟩ ⟨#[]⟩).step hbn) | (replace hB := (hB.more2 false false ⟨#[]⟩ ⟨#[]⟩).drew.step hbn) | (replace hB := (hB.more2d false false ⟨#[]⟩ ⟨#[]⟩).step hbn) | (replace hB := (hB.more2d false false ⟨#[]⟩ ⟨#[]⟩).drew.step hbn) | (replace hB := (hB.drew).step hbn) | (replace hB := (hB.drew.more false ⟨#[]⟩).step hbn) | (replace hB := (hB.drew.more false ⟨#[]⟩).drew.step hbn) | (replace hB := (hB.drew.more2 false false ⟨#[]⟩ ⟨#[]⟩).step hbn) | (replace hB := (hB.drew.more2 false false ⟨#[]⟩ ⟨#[]⟩).drew.step hbn) | (replace hB := (hB.drew.more2d false false ⟨#[]⟩ ⟨#[]⟩).step hbn) | (replace hB := (hB.drew.more2d false false ⟨#[]⟩ ⟨#[]⟩).drew.step hbn)); clear hbn d0 d1 d2 d3 d4 d5 d6 d7; have d0 := (hB.at_ 5 rfl).cell0; have d1 := (hB.at_ 5 rfl).cell1; have d2 := (hB.at_ 7 rfl).cell0; have d3 := (hB.at_ 7 rfl).cell1; have d4 := (hB.at_ 0 rfl).cell0; have d5 := (hB.at_ 0 rfl).cell1; have d6 := (hB.at_ 1 rfl).cell0; have d7 := (hB.at_ 1 rfl).cell1; (try (have e110 := (hB.at_ 11 rfl).cell0; have e111 := (hB.at_ 11 rfl).cell1; have e112 := (hB.at_ 11 rfl).frozen 0; have e113 := (hB.at_ 11 rfl).frozen 1)); (try (have e120 := (hB.at_ 12 rfl).cell0; have e121 := (hB.at_ 12 rfl).cell1; have e122 := (hB.at_ 12 rfl).frozen 0; have e123 := (hB.at_ 12 rfl).frozen 1)); (try (clear g0 g1 g2 g3 n1 n2)); (try (clear n3 n4)); (try (have g0 := ((hB.alloc (wbox false ⟨#[]⟩)).at_ 11 rfl).cell0; have g1 := ((hB.alloc (wbox false ⟨#[]⟩)).at_ 11 rfl).cell1; have g2 := ((hB.alloc (wbox false ⟨#[]⟩)).at_ 11 rfl).frozen 0; have g3 := ((hB.alloc (wbox false ⟨#[]⟩)).at_ 11 rfl).frozen 1; have n1 := Nat.ne_of_lt (hB.at_ 11 rfl).lt; have n2 := n1.symm)); (try (clear p0 p1 p2 p3)); (try (have p0 := ((hB.alloc (wbox (wneg Y) (wmag Y))).at_ 11 rfl).cell0; have p1 := ((hB.alloc (wbox (wneg Y) (wmag Y))).at_ 11 rfl).cell1; have p2 := ((hB.alloc (wbox (wneg Y) (wmag Y))).at_ 11 rfl).frozen 0; have p3 := ((hB.alloc (wbox (wneg Y) (wmag Y))).at_ 11 rfl).frozen 1)); (try (have n3 := hB.ne 11 12 rfl rfl (by decide); have n4 := n3.symm))))
          · go_wp2_with fail
            go_meet
            case rel => exact ⟨_, rfl, (hB.more2 (wneg Y) (wneg Yr) (wmag Y) (wmag Yr)).pick 9 11 (by decide) rfl⟩
          · go_wp2_with fail
            go_meet
            case rel => exact ⟨_, rfl, (hB.more2 (wneg Yr) (wneg Y) (wmag Yr) (wmag Y)).pick 9 12 (by decide) rfl⟩
          · go_wp2_with fail
            go_meet
            case rel => exact ⟨_, rfl, (((hB.more false ⟨#[]⟩).put 11 rfl (wneg Y) (wmag Y)).put 12 rfl (wneg Yr) (wmag Yr)).pick 9 11 (by decide) rfl⟩
          · go_wp2_with fail
            go_meet
            case rel => exact ⟨_, rfl, ((hB.put 11 rfl (wneg Y) (wmag Y)).put 12 rfl (wneg Yr) (wmag Yr)).pick 9 11 (by decide) rfl⟩
          · go_wp2_with fail
            go_meet
            case rel => exact ⟨_, rfl, ((hB.more (wneg Y) (wmag Y)).put 11 rfl (wneg Yr) (wmag Yr)).pick 9 12 (by decide) rfl⟩
          · go_wp2_with fail
            go_meet
            case rel => exact ⟨_, rfl, ((hB.put 12 rfl (wneg Y) (wmag Y)).put 11 rfl (wneg Yr) (wmag Yr)).pick 9 12 (by decide) rfl⟩
          · go_wp2_with fail
            go_meet
            case rel => exact ⟨_, rfl, (((hB.more false ⟨#[]⟩).put 11 rfl (wneg Y) (wmag Y)).put 12 rfl (wneg Yr) (wmag Yr)).pick 9 11 (by decide) rfl⟩
          · go_wp2_with fail
            go_meet
            case rel => exact ⟨_, rfl, ((hB.put 11 rfl (wneg Y) (wmag Y)).put 12 rfl (wneg Yr) (wmag Yr)).pick 9 11 (by decide) rfl⟩
          · go_wp2_with fail
            go_meet
            case rel => exact ⟨_, rfl, ((hB.put 11 rfl (wneg Y) (wmag Y)).put 12 rfl (wneg Yr) (wmag Yr)).pick 9 11 (by decide) rfl⟩
          · go_wp2_with fail
            go_meet
            case rel => exact ⟨_, rfl, ((hB.more (wneg Y) (wmag Y)).put 11 rfl (wneg Yr) (wmag Yr)).pick 9 12 (by decide) rfl⟩
          · go_wp2_with fail
            go_meet
            case rel => exact ⟨_, rfl, ((hB.put 12 rfl (wneg Y) (wmag Y)).put 11 rfl (wneg Yr) (wmag Yr)).pick 9 12 (by decide) rfl⟩
          · go_wp2_with fail
            go_meet
            case rel => exact ⟨_, rfl, ((hB.put 12 rfl (wneg Y) (wmag Y)).put 11 rfl (wneg Yr) (wmag Yr)).pick 9 12 (by decide) rfl⟩
          · go_wp2_with fail
            go_meet
            case rel => exact ⟨_, rfl, (((hB.more false ⟨#[]⟩).put 11 rfl (wneg Y) (wmag Y)).put 12 rfl (wneg Yr) (wmag Yr)).pick 9 11 (by decide) rfl⟩
          · go_wp2_with fail
            go_meet
            case rel => exact ⟨_, rfl, ((hB.put 11 rfl (wneg Y) (wmag Y)).put 12 rfl (wneg Yr) (wmag Yr)).pick 9 11 (by decide) rfl⟩
          · go_wp2_with fail
            go_meet
            case rel => exact ⟨_, rfl, ((hB.put 11 rfl (wneg Y) (wmag Y)).put 12 rfl (wneg Yr) (wmag Yr)).pick 9 11 (by decide) rfl⟩
          · go_wp2_with fail
            go_meet
            case rel => exact ⟨_, rfl, ((hB.put 11 rfl (wneg Y) (wmag Y)).put 12 rfl (wneg Yr) (wmag Yr)).pick 9 11 (by decide) rfl⟩
          · go_wp2_with fail
            go_meet
            case rel => exact ⟨_, rfl, ((hB.more (wneg Y) (wmag Y)).put 11 rfl (wneg Yr) (wmag Yr)).pick 9 12 (by decide) rfl⟩
          · go_wp2_with fail
            go_meet
            case rel => exact ⟨_, rfl, ((hB.put 12 rfl (wneg Y) (wmag Y)).put 11 rfl (wneg Yr) (wmag Yr)).pick 9 12 (by decide) rfl⟩
          · go_wp2_with fail
            go_meet
            case rel => exact ⟨_, rfl, ((hB.put 12 rfl (wneg Y) (wmag Y)).put 11 rfl (wneg Yr) (wmag Yr)).pick 9 12 (by decide) rfl⟩
          · go_wp2_with fail
            go_meet
            case rel => exact ⟨_, rfl, ((hB.put 12 rfl (wneg Y) (wmag Y)).put 11 rfl (wneg Yr) (wmag Yr)).pick 9 12 (by decide) rfl⟩

        case rest =>
          obtain ⟨b19, rfl, hB⟩ := hcut
          have d0 := (hB.at_ 5 rfl).cell0
          have d1 := (hB.at_ 5 rfl).cell1
          have d2 := (hB.at_ 7 rfl).cell0
          have d3 := (hB.at_ 7 rfl).cell1
          have d4 := (hB.at_ 9 rfl).cell0
          have d5 := (hB.at_ 9 rfl).cell1
          have z0 : wc.cell? ⟨w.heap.size + 1 + 1, 0, none⟩ = some (.bool false) := (hB.at_ 2 rfl).cell0
          have z1 : wc.cell? ⟨w.heap.size + 1 + 1, 1, none⟩ = some (.string ⟨#[]⟩) := (hB.at_ 2 rfl).cell1
          have z2 : wc.cell? ⟨w.heap.size + 1 + 1 + 1, 0, none⟩ = some (.bool false) := (hB.at_ 3 rfl).cell0
          have z3 : wc.cell? ⟨w.heap.size + 1 + 1 + 1, 1, none⟩ = some (.string ⟨#[]⟩) := (hB.at_ 3 rfl).cell1
          have z4 : wc.cell? ⟨w.heap.size + 1 + 1 + 1 + 1, 0, none⟩ = some (.bool false) := (hB.at_ 4 rfl).cell0
          have z5 : wc.cell? ⟨w.heap.size + 1 + 1 + 1 + 1, 1, none⟩ = some (.string ⟨#[]⟩) := (hB.at_ 4 rfl).cell1
          have f0 : wc.frozen? ⟨w.heap.size + 1 + 1, 0, none⟩ = false := (hB.at_ 2 rfl).frozen 0
          have f1 : wc.frozen? ⟨w.heap.size + 1 + 1, 1, none⟩ = false := (hB.at_ 2 rfl).frozen 1
          have f2 : wc.frozen? ⟨w.heap.size + 1 + 1 + 1, 0, none⟩ = false := (hB.at_ 3 rfl).frozen 0
          have f3 : wc.frozen? ⟨w.heap.size + 1 + 1 + 1, 1, none⟩ = false := (hB.at_ 3 rfl).frozen 1
          have f4 : wc.frozen? ⟨w.heap.size + 1 + 1 + 1 + 1, 0, none⟩ = false := (hB.at_ 4 rfl).frozen 0
          have f5 : wc.frozen? ⟨w.heap.size + 1 + 1 + 1 + 1, 1, none⟩ = false := (hB.at_ 4 rfl).frozen 1
          go_wp2_with fail
          go_region_held3 (fun w' => w'.cell? ⟨k8, 0, none⟩ = some (.bool (wneg G)) ∧ w'.cell? ⟨k8, 1, none⟩ = some (.string (wmag G)) ∧ w'.cell? ⟨k10, 0, none⟩ = some (.bool (wneg Xr)) ∧ w'.cell? ⟨k10, 1, none⟩ = some (.string (wmag Xr)) ∧ w'.cell? ⟨b19, 0, none⟩ = some (.bool (wneg Y)) ∧ w'.cell? ⟨b19, 1, none⟩ = some (.string (wmag Y))) (first | (refine ⟨?_, ?_, ?_, ?_, ?_, ?_⟩ <;> with_reducible assumption) | with_reducible exact ⟨((hB.put 2 rfl (wneg G) (wmag G)).at_ 5 rfl).cell0, ((hB.put 2 rfl (wneg G) (wmag G)).at_ 5 rfl).cell1, ((hB.put 2 rfl (wneg G) (wmag G)).at_ 7 rfl).cell0, ((hB.put 2 rfl (wneg G) (wmag G)).at_ 7 rfl).cell1, ((hB.put 2 rfl (wneg G) (wmag G)).at_ 9 rfl).cell0, ((hB.put 2 rfl (wneg G) (wmag G)).at_ 9 rfl).cell1⟩ | with_reducible exact ⟨(((hB.put 2 rfl (wneg G) (wmag G)).put 3 rfl (wneg Xr) (wmag Xr)).at_ 5 rfl).cell0, (((hB.put 2 rfl (wneg G) (wmag G)).put 3 rfl (wneg Xr) (wmag Xr)).at_ 5 rfl).cell1, (((hB.put 2 rfl (wneg G) (wmag G)).put 3 rfl (wneg Xr) (wmag Xr)).at_ 7 rfl).cell0, (((hB.put 2 rfl (wneg G) (wmag G)).put 3 rfl (wneg Xr) (wmag Xr)).at_ 7 rfl).cell1, (((hB.put 2 rfl (wneg G) (wmag G)).put 3 rfl (wneg Xr) (wmag Xr)).at_ 9 rfl).cell0, (((hB.put 2 rfl (wneg G) (wmag G)).put 3 rfl (wneg Xr) (wmag Xr)).at_ 9 rfl).cell1⟩ | with_reducible exact ⟨((((hB.put 2 rfl (wneg G) (wmag G)).put 3 rfl (wneg Xr) (wmag Xr)).put 4 rfl (wneg Y) (wmag Y)).at_ 5 rfl).cell0, ((((hB.put 2 rfl (wneg G) (wmag G)).put 3 rfl (wneg Xr) (wmag Xr)).put 4 rfl (wneg Y) (wmag Y)).at_ 5 rfl).cell1, ((((hB.put 2 rfl (wneg G) (wmag G)).put 3 rfl (wneg Xr) (wmag Xr)).put 4 rfl (wneg Y) (wmag Y)).at_ 7 rfl).cell0, ((((hB.put 2 rfl (wneg G) (wmag G)).put 3 rfl (wneg Xr) (wmag Xr)).put 4 rfl (wneg Y) (wmag Y)).at_ 7 rfl).cell1, ((((hB.put 2 rfl (wneg G) (wmag G)).put 3 rfl (wneg Xr) (wmag Xr)).put 4 rfl (wneg Y) (wmag Y)).at_ 9 rfl).cell0, ((((hB.put 2 rfl (wneg G) (wmag G)).put 3 rfl (wneg Xr) (wmag Xr)).put 4 rfl (wneg Y) (wmag Y)).at_ 9 rfl).cell1⟩ | with_reducible exact ⟨(((hB.put 2 rfl (wneg G) (wmag G))).drew.at_ 5 rfl).cell0, (((hB.put 2 rfl (wneg G) (wmag G))).drew.at_ 5 rfl).cell1, (((hB.put 2 rfl (wneg G) (wmag G))).drew.at_ 7 rfl).cell0, (((hB.put 2 rfl (wneg G) (wmag G))).drew.at_ 7 rfl).cell1, (((hB.put 2 rfl (wneg G) (wmag G))).drew.at_ 9 rfl).cell0, (((hB.put 2 rfl (wneg G) (wmag G))).drew.at_ 9 rfl).cell1⟩ | with_reducible exact ⟨((((hB.put 2 rfl (wneg G) (wmag G)).put 3 rfl (wneg Xr) (wmag Xr))).drew.at_ 5 rfl).cell0, ((((hB.put 2 rfl (wneg G) (wmag G)).put 3 rfl (wneg Xr) (wmag Xr))).drew.at_ 5 rfl).cell1, ((((hB.put 2 rfl (wneg G) (wmag G)).put 3 rfl (wneg Xr) (wmag Xr))).drew.at_ 7 rfl).cell0, ((((hB.put 2 rfl (wneg G) (wmag G)).put 3 rfl (wneg Xr) (wmag Xr))).drew.at_ 7 rfl).cell1, ((((hB.put 2 rfl (wneg G) (wmag G)).put 3 rfl (wneg Xr) (wmag Xr))).drew.at_ 9 rfl).cell0, ((((hB.put 2 rfl (wneg G) (wmag G)).put 3 rfl (wneg Xr) (wmag Xr))).drew.at_ 9 rfl).cell1⟩ | with_reducible exact ⟨(((((hB.put 2 rfl (wneg G) (wmag G)).put 3 rfl (wneg Xr) (wmag Xr)).put 4 rfl (wneg Y) (wmag Y))).drew.at_ 5 rfl).cell0, (((((hB.put 2 rfl (wneg G) (wmag G)).put 3 rfl (wneg Xr) (wmag Xr)).put 4 rfl (wneg Y) (wmag Y))).drew.at_ 5 rfl).cell1, (((((hB.put 2 rfl (wneg G) (wmag G)).put 3 rfl (wneg Xr) (wmag Xr)).put 4 rfl (wneg Y) (wmag Y))).drew.at_ 7 rfl).cell0, (((((hB.put 2 rfl (wneg G) (wmag G)).put 3 rfl (wneg Xr) (wmag Xr)).put 4 rfl (wneg Y) (wmag Y))).drew.at_ 7 rfl).cell1, (((((hB.put 2 rfl (wneg G) (wmag G)).put 3 rfl (wneg Xr) (wmag Xr)).put 4 rfl (wneg Y) (wmag Y))).drew.at_ 9 rfl).cell0, (((((hB.put 2 rfl (wneg G) (wmag G)).put 3 rfl (wneg Xr) (wmag Xr)).put 4 rfl (wneg Y) (wmag Y))).drew.at_ 9 rfl).cell1⟩ | go_keep) (first | fail)
          all_goals
            have F := (((hB.put 2 rfl (wneg G) (wmag G)).put 3 rfl (wneg Xr) (wmag Xr)).put 4 rfl (wneg Y) (wmag Y)).drew
            first | (with_reducible refine at_world F ?_) | (with_reducible refine at_world (((hB.put 2 rfl (wneg G) (wmag G)).put 3 rfl (wneg Xr) (wmag Xr)).put 4 rfl (wneg Y) (wmag Y)) ?_)
            intro WZ T
            clear F d0 d1 d2 d3 d4 d5 z0 z1 z2 z3 z4 z5 f0 f1 f2 f3 f4 f5
            have F : Bxs w WZ [(w.heap.size, x, s), (w.heap.size + 1, y, t), (w.heap.size + 2, wneg G, wmag G), (w.heap.size + 3, wneg Xr, wmag Xr), (w.heap.size + 4, wneg Y, wmag Y)] := T.take 5
            go_wp2
            rw [← HRES.out.1, ← HRES.out.2.1, ← HRES.out.2.2]
            exact post_wide3 (b := w.heap.size + 2) (c := w.heap.size + 3) (d := w.heap.size + 4) rfl rfl rfl rfl (F.at_ 2 rfl) (F.at_ 3 rfl) (F.at_ 4 rfl) rfl ⟨rfl, F.1⟩
    · have hne : (h.sign == 0) = false := by simpa using hh
      have HH := Lib.hid hh
      clear hh
      go_wp2_with fail
      with_reducible refine (HSG.out _).mono ?_
      rintro e w6 ⟨rfl, hb6⟩
      have hX6 := Lib.hid (HX.out.step hb6)
      clear hb6 c0 c1
      have c0 := (hX6.out.at_ 5 rfl).cell0
      have c1 := (hX6.out.at_ 5 rfl).cell1
      have c2 := (hX6.out.at_ 6 rfl).cell0
      have c3 := (hX6.out.at_ 6 rfl).cell1
      go_wp2_with fail
      have hqu := fun W => RQuo_any (wneg g) (wneg h) (wmag g) (wmag h) W (by omega) (by omega) (by rw [wint_wv']; exact HH.out) (g / h) (g % h) (by rw [wint_wv', wint_wv']) (by rw [wint_wv', wint_wv'])
      with_reducible refine (hqu _).mono ?_
      rintro e w7 ⟨rfl, hb7⟩
      have hX7 := Lib.hid ((hX6.out.step hb7).more2 (wneg (g / h)) (wneg (g % h)) (wmag (g / h)) (wmag (g % h)))
      clear c0 c1 c2 c3 hb7 hqu
      have c0 := (hX7.out.at_ 6 rfl).cell0
      have c1 := (hX7.out.at_ 6 rfl).cell1
      have c2 := (hX7.out.at_ 10 rfl).cell0
      have c3 := (hX7.out.at_ 10 rfl).cell1
      have z0 := (hX7.out.at_ 5 rfl).cell0
      have z1 := (hX7.out.at_ 5 rfl).cell1
      have f0 := (hX7.out.at_ 5 rfl).frozen 0
      have f1 := (hX7.out.at_ 5 rfl).frozen 1
      have f2 := (hX7.out.at_ 6 rfl).frozen 0
      have f3 := (hX7.out.at_ 6 rfl).frozen 1
      have n1 := hX7.out.ne 5 6 rfl rfl (by decide)
      have n2 := hX7.out.ne 5 10 rfl rfl (by decide)
      have n3 := hX7.out.ne 6 10 rfl rfl (by decide)
      have n4 := n1.symm
      have n5 := n2.symm
      have n6 := n3.symm
      have hB := (hX7.out.put 5 rfl (wneg h) (wmag h)).put 6 rfl (wneg (g % h)) (wmag (g % h))
      have hq80 : (g / h).natAbs < 256 ^ 80 := Nat.lt_of_le_of_lt (Int.natAbs_ediv_le_natAbs g h) hg80
      have sqq := wmag_size (g / h) 80 hq80
      have squ := wmag_size (g / h * u) 160 (by rw [Int.natAbs_mul, show (256 : Nat) ^ 160 = 256 ^ 80 * 256 ^ 80 from by rw [← Nat.pow_add]]; exact Nat.mul_lt_mul'' hq80 hu80)
      have HMU := Lib.hid (fun W => RMul_any (wneg (g / h)) (wneg u) (wmag (g / h)) (wmag u) W (by omega) (by omega) (g / h * u) (by rw [wint_wv', wint_wv']))
      have HSU := Lib.hid (fun W => RSub_any (wneg p) (wneg (g / h * u)) (wmag p) (wmag (g / h * u)) W (by omega) (by omega) (p - g / h * u) (by rw [wint_wv', wint_wv']))
      clear hq80 hu80 sqq squ
      go_wp2_with fail
      generalize hW : (((((w7.alloc (wbox (wneg (g / h)) (wmag (g / h)))).alloc (wbox (wneg (g % h)) (wmag (g % h)))).setCell ⟨k8, 0, none⟩ (.bool (wneg h))).setCell ⟨k8, 1, none⟩ (.string (wmag h))).setCell ⟨k9, 0, none⟩ (.bool (wneg (g % h)))).setCell ⟨k9, 1, none⟩ (.string (wmag (g % h))) = W8 at *
      replace hB : Bxs w W8 (bx9 w.heap.size k8 k9 k10 k11 x y s t h (g % h) p u ++ [(w7.heap.size, wneg (g / h), wmag (g / h)), (w7.heap.size + 1, wneg (g % h), wmag (g % h))]) := hB
      clear hW c0 c1 c2 c3 z0 z1 f0 f1 f2 f3 n1 n2 n3 n4 n5 n6
      have d0 := (hB.at_ 7 rfl).cell0
      have d1 := (hB.at_ 7 rfl).cell1
      have d2 := (hB.at_ 8 rfl).cell0
      have d3 := (hB.at_ 8 rfl).cell1
      have d4 := (hB.at_ 9 rfl).cell0
      have d5 := (hB.at_ 9 rfl).cell1
      go_region_held3 (fun w' => w'.cell? ⟨k10, 0, none⟩ = some (.bool (wneg p)) ∧ w'.cell? ⟨k10, 1, none⟩ = some (.string (wmag p)) ∧ w'.cell? ⟨k11, 0, none⟩ = some (.bool (wneg u)) ∧ w'.cell? ⟨k11, 1, none⟩ = some (.string (wmag u)) ∧ w'.cell? ⟨w7.heap.size, 0, none⟩ = some (.bool (wneg (g / h))) ∧ w'.cell? ⟨w7.heap.size, 1, none⟩ = some (.string (wmag (g / h)))) (first | (refine ⟨?_, ?_, ?_, ?_, ?_, ?_⟩ <;> with_reducible assumption) | with_reducible exact ⟨((hB.put 11 rfl _ _).at_ 7 rfl).cell0, ((hB.put 11 rfl _ _).at_ 7 rfl).cell1, ((hB.put 11 rfl _ _).at_ 8 rfl).cell0, ((hB.put 11 rfl _ _).at_ 8 rfl).cell1, ((hB.put 11 rfl _ _).at_ 9 rfl).cell0, ((hB.put 11 rfl _ _).at_ 9 rfl).cell1⟩ | with_reducible exact ⟨((hB.alloc _).at_ 7 rfl).cell0, ((hB.alloc _).at_ 7 rfl).cell1, ((hB.alloc _).at_ 8 rfl).cell0, ((hB.alloc _).at_ 8 rfl).cell1, ((hB.alloc _).at_ 9 rfl).cell0, ((hB.alloc _).at_ 9 rfl).cell1⟩ | go_keep)
        (first
          | (go_at_call 25; (with_reducible refine (HMU.out _).mono ?_); rintro e w11 ⟨rfl, hbn⟩; (first | (replace hB := hB.step hbn) | (replace hB := hB.drew.step hbn) | (replace hB := (hB.more false ⟨#[]⟩).step hbn) | (replace hB := (hB.more false ⟨#[]⟩).drew.step hbn) | (replace hB := (hB.drew.more false ⟨#[]⟩).step hbn)); clear hbn d0 d1 d2 d3 d4 d5; have d0 := (hB.at_ 7 rfl).cell0; have d1 := (hB.at_ 7 rfl).cell1; have d2 := (hB.at_ 8 rfl).cell0; have d3 := (hB.at_ 8 rfl).cell1; have d4 := (hB.at_ 9 rfl).cell0; have d5 := (hB.at_ 9 rfl).cell1; (try (have e0 := (hB.at_ 11 rfl).cell0; have e1 := (hB.at_ 11 rfl).cell1; have e2 := (hB.at_ 11 rfl).frozen 0; have e3 := (hB.at_ 11 rfl).frozen 1)))
          | (go_at_call 17; (with_reducible refine (HSU.out _).mono ?_); rintro e w12 ⟨rfl, hbn⟩; (first | (replace hB := hB.step hbn) | (replace hB := hB.drew.step hbn) | (replace hB := (hB.more false ⟨#[]⟩).step hbn) | (replace hB := (hB.more false ⟨#[]⟩).drew.step hbn) | (replace hB := (hB.drew.more false ⟨#[]⟩).step hbn)); clear hbn d0 d1 d2 d3 d4 d5; have d0 := (hB.at_ 7 rfl).cell0; have d1 := (hB.at_ 7 rfl).cell1; have d2 := (hB.at_ 8 rfl).cell0; have d3 := (hB.at_ 8 rfl).cell1; have d4 := (hB.at_ 9 rfl).cell0; have d5 := (hB.at_ 9 rfl).cell1; (try (have e0 := (hB.at_ 11 rfl).cell0; have e1 := (hB.at_ 11 rfl).cell1; have e2 := (hB.at_ 11 rfl).frozen 0; have e3 := (hB.at_ 11 rfl).frozen 1))))
      all_goals
        first
          | have T := hB.put 11 rfl (wneg (p - g / h * u)) (wmag (p - g / h * u))
          | have T := hB.more (wneg (p - g / h * u)) (wmag (p - g / h * u))
        have T := Lib.hid T
        clear hB d0 d1 d2 d3 d4 d5
        (try clear e0 e1 e2 e3)
        have d0 := (T.out.at_ 8 rfl).cell0
        have d1 := (T.out.at_ 8 rfl).cell1
        have d2 := (T.out.at_ 11 rfl).cell0
        have d3 := (T.out.at_ 11 rfl).cell1
        have z0 := (T.out.at_ 7 rfl).cell0
        have z1 := (T.out.at_ 7 rfl).cell1
        have f0 := (T.out.at_ 7 rfl).frozen 0
        have f1 := (T.out.at_ 7 rfl).frozen 1
        have f2 := (T.out.at_ 8 rfl).frozen 0
        have f3 := (T.out.at_ 8 rfl).frozen 1
        have n1 := T.out.ne 7 8 rfl rfl (by decide)
        have n2 := T.out.ne 7 11 rfl rfl (by decide)
        have n3 := T.out.ne 8 11 rfl rfl (by decide)
        have n4 := n1.symm
        have n5 := n2.symm
        have n6 := n3.symm
        have F := Lib.hid ((T.out.put 7 rfl (wneg u) (wmag u)).put 8 rfl (wneg (p - g / h * u)) (wmag (p - g / h * u)))
        go_wp2
        go_roundw
        case rel => exact ⟨h, g % h, u, p - g / h * u, HR.out.next HN.out HH.out, F.out.take 9⟩
        case measure =>
          have m1 := (HX.out.at_ 6 rfl).wat
          have m2 := (F.out.at_ 6 rfl).wat
          have m3 := Int.emod_lt g HH.out
          have m4 := Int.emod_nonneg g HH.out
          refine Nat.lt_of_le_of_lt (Nat.le_of_eq m2) (Nat.lt_of_lt_of_le ?_ (Nat.le_of_eq m1.symm))
          omega

set_option maxRecDepth 100000 in
set_option maxHeartbeats 4000000 in
theorem RGcd_zero (x y : Bool) (s t : ByteArray) (w : World) (hs : s.size ≤ 80) (ht : t.size ≤ 80) (hb : wint y t = 0) (a : Int) (ha : wint x s = a) :
    Calls Tryd.prog 29 #[.agg #[.bool x, .string s], .agg #[.bool y, .string t]] w fun e w' =>
      e = .returned (.tuple #[.agg #[.bool (wneg a.natAbs), .string (wmag a.natAbs)], .agg #[.bool (wneg a.sign), .string (wmag a.sign)], .agg #[.bool false, .string ⟨#[]⟩]]) ∧ Below w.heap.size w w' := by
  have hsi := fun W => RSign_any y t W (by omega)
  rw [hb, show (0 : Int).sign = 0 from rfl] at hsi
  have hsx := fun W => RSign_any x s W (by omega)
  rw [ha] at hsx
  have hna : wint false s = (a.natAbs : Int) := by
    rw [wint_false, ← ha]
    cases x
    · rw [wint_false, Int.natAbs_natCast]
    · rw [wint_true, Int.natAbs_neg, Int.natAbs_natCast]
  have had := fun W => RAdd_any false false s ⟨#[]⟩ W (by omega) (by decide) (a.natAbs : Int) (by rw [wint_empty, hna, Int.add_zero])
  have hsc := sign_cases a
  have hf := fun W => RFrom_any a.sign W (by omega) (by omega)
  have HSI := Lib.hid hsi
  have HSX := Lib.hid hsx
  have HAD := Lib.hid had
  have HF := Lib.hid hf
  clear hsi hsx had hf hna hsc ha hb
  generalize a.sign = sg at *
  generalize (a.natAbs : Int) = na at *
  have HV := Lib.hid (Bxs.start5 w x y false false false s t ⟨#[]⟩ ⟨#[]⟩ ⟨#[]⟩)
  go_enter Tryd.func29, Tryd.ntmps29
  go_wp2_with fail
  with_reducible refine (HSI.out _).mono ?_
  rintro e w1 ⟨rfl, hb1⟩
  have hV1 := HV.out.step hb1
  have u0 := (hV1.at_ 0 rfl).cell0
  have u1 := (hV1.at_ 0 rfl).cell1
  have hB := Lib.hid (hV1.more false s)
  clear hb1
  go_wp2_with fail
  generalize w1.heap.size = k7 at *
  generalize hW : w1.alloc (wbox false s) = W2 at *
  clear hW hV1 u0 u1
  have hB := hB.out
  replace hB : Bxs w W2 [(w.heap.size, x, s), (w.heap.size + 1, y, t), (w.heap.size + 2, false, ⟨#[]⟩), (w.heap.size + 3, false, ⟨#[]⟩), (w.heap.size + 4, false, ⟨#[]⟩), (k7, false, s)] := hB
  have d0 := (hB.at_ 0 rfl).cell0
  have d1 := (hB.at_ 0 rfl).cell1
  have d2 := (hB.at_ 5 rfl).cell0
  have d3 := (hB.at_ 5 rfl).cell1
  go_region_held3 (fun w' => w'.cell? ⟨w.heap.size, 0, none⟩ = some (.bool x) ∧ w'.cell? ⟨w.heap.size, 1, none⟩ = some (.string s) ∧ w'.cell? ⟨k7, 0, none⟩ = some (.bool false) ∧ w'.cell? ⟨k7, 1, none⟩ = some (.string s)) (first | (refine ⟨?_, ?_, ?_, ?_⟩ <;> with_reducible assumption) | with_reducible exact ⟨((hB.put 2 rfl _ _).at_ 0 rfl).cell0, ((hB.put 2 rfl _ _).at_ 0 rfl).cell1, ((hB.put 2 rfl _ _).at_ 5 rfl).cell0, ((hB.put 2 rfl _ _).at_ 5 rfl).cell1⟩ | with_reducible exact ⟨(((hB.put 2 rfl _ _).put 3 rfl _ _).at_ 0 rfl).cell0, (((hB.put 2 rfl _ _).put 3 rfl _ _).at_ 0 rfl).cell1, (((hB.put 2 rfl _ _).put 3 rfl _ _).at_ 5 rfl).cell0, (((hB.put 2 rfl _ _).put 3 rfl _ _).at_ 5 rfl).cell1⟩ | with_reducible exact ⟨((((hB.put 2 rfl _ _).put 3 rfl _ _).put 4 rfl _ _).at_ 0 rfl).cell0, ((((hB.put 2 rfl _ _).put 3 rfl _ _).put 4 rfl _ _).at_ 0 rfl).cell1, ((((hB.put 2 rfl _ _).put 3 rfl _ _).put 4 rfl _ _).at_ 5 rfl).cell0, ((((hB.put 2 rfl _ _).put 3 rfl _ _).put 4 rfl _ _).at_ 5 rfl).cell1⟩ | go_keep)
    (first
      | (go_at_call 15; (with_reducible refine (HAD.out _).mono ?_); rintro e w7 ⟨rfl, hbn⟩; (first | replace hB := hB.step hbn | replace hB := hB.drew.step hbn); clear hbn d0 d1 d2 d3; have d0 := (hB.at_ 0 rfl).cell0; have d1 := (hB.at_ 0 rfl).cell1; have d2 := (hB.at_ 5 rfl).cell0; have d3 := (hB.at_ 5 rfl).cell1)
      | (go_at_call 21; (with_reducible refine (HSX.out _).mono ?_); rintro e w8 ⟨rfl, hbn⟩; (first | replace hB := hB.step hbn | replace hB := hB.drew.step hbn); clear hbn d0 d1 d2 d3; have d0 := (hB.at_ 0 rfl).cell0; have d1 := (hB.at_ 0 rfl).cell1; have d2 := (hB.at_ 5 rfl).cell0; have d3 := (hB.at_ 5 rfl).cell1)
      | (go_at_call 33; (with_reducible refine (HF.out _).mono ?_); rintro e w9 ⟨rfl, hbn⟩; (first | replace hB := hB.step hbn | replace hB := hB.drew.step hbn); clear hbn d0 d1 d2 d3; have d0 := (hB.at_ 0 rfl).cell0; have d1 := (hB.at_ 0 rfl).cell1; have d2 := (hB.at_ 5 rfl).cell0; have d3 := (hB.at_ 5 rfl).cell1; have z0 : w9.cell? ⟨w.heap.size + 1 + 1, 0, none⟩ = some (.bool false) := (hB.at_ 2 rfl).cell0; have f0 : w9.frozen? ⟨w.heap.size + 1 + 1, 0, none⟩ = false := (hB.at_ 2 rfl).frozen 0; have z1 : w9.cell? ⟨w.heap.size + 1 + 1, 1, none⟩ = some (.string ⟨#[]⟩) := (hB.at_ 2 rfl).cell1; have f1 : w9.frozen? ⟨w.heap.size + 1 + 1, 1, none⟩ = false := (hB.at_ 2 rfl).frozen 1; have z2 : w9.cell? ⟨w.heap.size + 1 + 1 + 1, 0, none⟩ = some (.bool false) := (hB.at_ 3 rfl).cell0; have f2 : w9.frozen? ⟨w.heap.size + 1 + 1 + 1, 0, none⟩ = false := (hB.at_ 3 rfl).frozen 0; have z3 : w9.cell? ⟨w.heap.size + 1 + 1 + 1, 1, none⟩ = some (.string ⟨#[]⟩) := (hB.at_ 3 rfl).cell1; have f3 : w9.frozen? ⟨w.heap.size + 1 + 1 + 1, 1, none⟩ = false := (hB.at_ 3 rfl).frozen 1; have z4 : w9.cell? ⟨w.heap.size + 1 + 1 + 1 + 1, 0, none⟩ = some (.bool false) := (hB.at_ 4 rfl).cell0; have f4 : w9.frozen? ⟨w.heap.size + 1 + 1 + 1 + 1, 0, none⟩ = false := (hB.at_ 4 rfl).frozen 0; have z5 : w9.cell? ⟨w.heap.size + 1 + 1 + 1 + 1, 1, none⟩ = some (.string ⟨#[]⟩) := (hB.at_ 4 rfl).cell1; have f5 : w9.frozen? ⟨w.heap.size + 1 + 1 + 1 + 1, 1, none⟩ = false := (hB.at_ 4 rfl).frozen 1))
  all_goals
    have F := ((hB.put 2 rfl (wneg na) (wmag na)).put 3 rfl (wneg sg) (wmag sg)).put 4 rfl false ⟨#[]⟩
    with_reducible refine at_world F ?_
    intro WZ T
    clear F d0 d1 d2 d3 z0 z1 z2 z3 z4 z5 f0 f1 f2 f3 f4 f5
    have F : Bxs w WZ [(w.heap.size, x, s), (w.heap.size + 1, y, t), (w.heap.size + 2, wneg na, wmag na), (w.heap.size + 3, wneg sg, wmag sg), (w.heap.size + 4, false, ⟨#[]⟩)] := T.take 5
    go_wp2
    exact post_wide3 (b := w.heap.size + 2) (c := w.heap.size + 3) (d := w.heap.size + 4) rfl rfl rfl rfl (F.at_ 2 rfl) (F.at_ 3 rfl) (F.at_ 4 rfl) rfl ⟨rfl, F.1⟩
end Go.Proofs.YtgadnianjhaeiaaDoor
