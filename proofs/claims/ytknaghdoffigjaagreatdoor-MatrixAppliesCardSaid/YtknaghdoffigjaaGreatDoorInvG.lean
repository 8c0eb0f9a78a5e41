import Derived.Test.YtknaghdoffigjaaGreatDoorGcdS
import Derived.Test.YtknaghdoffigjaaGreatDoorQuo
set_option linter.unusedSimpArgs false
set_option linter.unusedVariables false
set_option linter.unnecessarySimpa false
namespace Go.Proofs.YtknaghdoffigjaaGreatDoor
open Go.RowKit
def PP (w : World) (A : Option Addr) (n c v : Nat) : Prop := (limbs v).length = n ∧ n ≤ c ∧ c ≤ maxLen ∧ RdA w A (limbs v)
theorem PP.below {w w' : World} {A : Option Addr} {n c v : Nat} (h : PP w A n c v) (hb : Below w.heap.size w w') : PP w' A n c v := ⟨h.1, h.2.1, h.2.2.1, h.2.2.2.below hb⟩
theorem PP.zero {w : World} {A : Option Addr} {n c v : Nat} (h : PP w A n c v) : n = 0 ↔ v = 0 := by
 rw [← h.1, List.length_eq_zero_iff, limbs_eq_nil]
theorem PP.nil (w : World) : PP w none 0 0 0 := ⟨rfl, Nat.le_refl _, by unfold maxLen; omega, RdA.nil _ _⟩
theorem PP.one (w : World) : PP (w.alloc (.cells #[.int .u64 1] 80)) (some ⟨w.heap.size, 0, none⟩) 1 1 1 := by
 have h : Lst (w.alloc (.cells #[.int .u64 1] 80)) w.heap.size [1] := Lst.new w [1]
 refine ⟨rfl, Nat.le_refl _, by unfold maxLen; omega, ?_⟩
 rw [show limbs 1 = [1] from rfl]
 exact h.rd
theorem PP.other {w : World} {A : Option Addr} {n c v : Nat} (h : PP w A n c v) {q : Addr} {z u : Value} (hq : w.cell? q = some z) (hz : ∀ m : Nat, z ≠ .int .u64 m) : PP (w.setCell q u) A n c v := by
 refine ⟨h.1, h.2.1, h.2.2.1, fun k hk => ?_⟩
 obtain ⟨a, e, hb, hc⟩ := h.2.2.2 k hk
 refine ⟨a, e, by simpa [World.setCell] using hb, ?_⟩
 rw [World.cell?_setCell_other]
 ·exact hc
 ·rintro rfl
  rw [hq] at hc
  exact hz _ (Option.some.inj hc)
def rdv (w : World) : Value → Nat
 | .slice (some a) n _ => pval ((List.range n).map fun k => match w.cell? (a.add k) with | some (.int _ z) => z.toNat | _ => 0)
 | _ => 0
theorem PP.rdv {w : World} {A : Option Addr} {n c v : Nat} (h : PP w A n c v) : rdv w (.slice A n c) = v := by
 obtain ⟨h1, _, _, h4⟩ := h
 cases A with
 | none =>
  have : limbs v = [] := by
   refine List.eq_nil_iff_length_eq_zero.2 (Nat.eq_zero_of_not_pos fun hp => ?_)
   obtain ⟨a, e, _⟩ := h4 0 hp
   cases e
  exact (limbs_eq_nil.1 this).symm
 | some a =>
  unfold Go.Proofs.YtknaghdoffigjaaGreatDoor.rdv
  simp only []
  rw [← pval_limbs v]
  refine congrArg pval (List.ext_getElem (by simp [h1]) ?_)
  intro k k1 k2
  obtain ⟨a', e, _, hc⟩ := h4 k k2
  cases e
  simp only [List.getElem_map, List.getElem_range, hc, pval_limbs]
  rw [List.getD_eq_getElem?_getD, List.getElem?_eq_getElem k2]
  simp
theorem divide_pp (A B : Option Addr) (n m ca cb : Nat) (N M : Nat) (w : World) (hM : 0 < M) (hx : PP w A n ca N) (hy : PP w B m cb M) (nn : n ≤ 1099511627000) (K R : Nat) (hK : N / M = K) (hR : N % M = R) :
  Calls Tryz.prog 116 #[.slice A n ca, .slice B m cb] w fun e w' => ∃ C D nq nr cq cr, e = .returned (.tuple #[.slice C nq cq, .slice D nr cr]) ∧ PP w' C nq cq K ∧ PP w' D nr cr R ∧ Below w.heap.size w w' := by
 obtain ⟨a1, a2, a3, a4⟩ := hx
 obtain ⟨b1, b2, b3, b4⟩ := hy
 refine (divide_any A B n m ca cb N M w a1 b1 hM a4 b4 nn a2 a3 b2 b3).mono fun _ _ h => ?_
 obtain ⟨Q, S, cq, cr, he, h1, h2, h3, h4, h5, h6, h7⟩ := h
 rw [hK] at *
 rw [hR] at *
 exact ⟨Q, S, _, _, cq, cr, he, ⟨rfl, h1, h3, h5⟩, ⟨rfl, h2, h4, h6⟩, h7⟩
theorem product_pp (A B : Option Addr) (na nb ca cb : Nat) (N M : Nat) (w : World) (hx : PP w A na ca N) (hy : PP w B nb cb M) (nx : na ≤ 1099511627776) (ny : nb ≤ 1099511627776) (K : Nat) (hK : N * M = K) :
  Calls Tryz.prog 97 #[.slice A na ca, .slice B nb cb] w fun e w' => ∃ C n c, e = .returned (.slice C n c) ∧ PP w' C n c K ∧ Below w.heap.size w w' := by
 have h := product_any A B na nb ca cb (limbs N) (limbs M) w hx.1 hy.1 hx.2.2.2 hy.2.2.2 (limbs_limbs N) (limbs_limbs M) nx ny
 rw [pval_limbs, pval_limbs, hK] at h
 exact h.mono fun _ _ h => by
  obtain ⟨A, c, he, hc, hm, hr, hb⟩ := h.toL
  exact ⟨A, _, c, he, ⟨rfl, hc, hm, hr⟩, hb⟩
theorem sum_pp (A B : Option Addr) (na nb ca cb : Nat) (N M : Nat) (w : World) (hx : PP w A na ca N) (hy : PP w B nb cb M) (nx : na ≤ 1099511627776) (ny : nb ≤ 1099511627776) (K : Nat) (hK : N + M = K) :
  Calls Tryz.prog 99 #[.slice A na ca, .slice B nb cb] w fun e w' => ∃ C n c, e = .returned (.slice C n c) ∧ PP w' C n c K ∧ Below w.heap.size w w' := by
 obtain ⟨a1, a2, a3, a4⟩ := hx
 obtain ⟨b1, b2, b3, b4⟩ := hy
 subst a1
 subst b1
 have h := sum_any A B ca cb (limbs N) (limbs M) w a4 b4 (limbs_limbs N) (limbs_limbs M) nx ny
 rw [pval_limbs, pval_limbs, hK] at h
 exact h.mono fun _ _ h => by
  obtain ⟨A, c, he, hc, hm, hr, hb⟩ := h.toL
  exact ⟨A, _, c, he, ⟨rfl, hc, hm, hr⟩, hb⟩
theorem partsOf_pp (s : ByteArray) (w : World) (hs : s.size ≤ 4398046511104) (N : Nat) (hN : bval s.data.toList = N) :
  Calls Tryz.prog 98 #[.string s] w fun e w' => ∃ A n c, e = .returned (.slice A n c) ∧ PP w' A n c N ∧ Below w.heap.size w w' :=
 (partsOf_any s w (by omega)).mono fun _ _ h => by
  obtain ⟨A, c, he, hc, hm, hr, hb⟩ := h.toL
  rw [hN] at *
  exact ⟨A, _, c, he, ⟨rfl, hc, hm, hr⟩, hb⟩
def sgn (b : Bool) (n : Nat) : Int := if b then -(n : Int) else n
theorem signed_pp (neg : Bool) (A : Option Addr) (n c N : Nat) (w : World) (h : PP w A n c N) (nn : n ≤ 1099511627776) :
  Calls Tryz.prog 96 #[.bool neg, .slice A n c] w fun e w' => e = .returned (.agg #[.bool (wneg (sgn neg N)), .string (wmag (sgn neg N))]) ∧ Below w.heap.size w w' :=
 signed_any neg A n c N w h.1 h.2.2.2 nn
theorem eg_round (o r p q k R : Nat) (neg : Bool) (hr : 0 < r) (hk : o / r = k) (hR : o % r = R) :
  egF (r + 1) o r (sgn neg p) (sgn (!neg) q) = egF (R + 1) r R (sgn (!neg) q) (sgn (!!neg) (p + k * q)) := by
 have hm := Nat.mod_lt o hr
 have hd := Nat.div_add_mod o r
 rw [hk, hR] at hd
 rw [hR] at hm
 have e1 : (o : Int) / (r : Int) = (k : Int) := by rw [← hk]; rfl
 have e2 : (o : Int) - (k : Int) * (r : Int) = (R : Int) := by
  have : (o : Int) = (r : Int) * (k : Int) + (R : Int) := by rw [← Int.natCast_mul, ← Int.natCast_add, hd]
  rw [Int.mul_comm (k : Int)]; omega
 have e3 : sgn neg p - (k : Int) * sgn (!neg) q = sgn (!!neg) (p + k * q) := by
  cases neg
  ·simp [sgn]; grind
  ·simp [sgn]; grind
 have hf : egF (r + 1) o r (sgn neg p) (sgn (!neg) q) = egF r r R (sgn (!neg) q) (sgn (!!neg) (p + k * q)) := by
  rw [← e3, ← e2, ← e1]
  simp only [egF]
  rw [if_pos (by omega)]
 rw [hf]
 exact egF_fuel _ _ _ _ _ _ (by omega) (by omega) hr (by omega)
set_option maxRecDepth 100000 in
set_option maxHeartbeats 4000000 in
theorem invert_big (x y : Bool) (s t : ByteArray) (w : World) (hs : s.size ≤ 4398046511104) (ht7 : 7 < t.size) (ht : t.size ≤ 4398046511104) (N M : Nat) (hN : bval s.data.toList = N) (hM : bval t.data.toList = M) (hlt : N < M) (G X : Int)
  (hG : (eg N M).1 = G) (hX : (eg N M).2.1 % (eg N M).2.2 = X) :
  Calls Tryz.prog 157 #[.agg #[.bool x, .string s], .agg #[.bool y, .string t]] w fun e w' =>
   e = .returned (.tuple #[.agg #[.bool (wneg G), .string (wmag G)], .agg #[.bool (wneg X), .string (wmag X)]]) ∧ Below w.heap.size w w' := by
 have hsn := fun W => small_no y t W ht7 (by unfold maxLen; omega)
 have hps := fun W => partsOf_pp s W hs N hN
 have hpt := fun W => partsOf_pp t W ht M hM
 have hlen : ∀ v, v ≤ M → (limbs v).length ≤ 549755813888 := fun v hv => by
  have := bval_limbs_length t 549755813888 (by omega)
  rw [hM] at this
  exact Nat.le_trans (limbs_length_mono hv) this
 have hmag : ∀ z : Int, z.natAbs ≤ M → (wmag z).size ≤ 4398046511104 := fun z hz => by
  refine Nat.le_trans (wmag_size z t.size ?_) ht
  have := bval_pow t t.size (Nat.le_refl _)
  rw [hM] at this
  omega
 have HSN := Lib.hid hsn
 have HS := Lib.hid hps
 have HT := Lib.hid hpt
 have HLEN := Lib.hid hlen
 have HMAG := Lib.hid hmag
 have HG := Lib.hid hG
 have HX := Lib.hid hX
 clear hsn hps hpt hlen hmag hN hM hG hX
 have HV := Lib.hid (Vars.start4 w x y false false s t ⟨#[]⟩ ⟨#[]⟩)
 go_enter Tryz.func157, Tryz.ntmps157
 go_wp2_with fail
 with_reducible refine (HSN.out _).mono ?_
 rintro e w1 ⟨rfl, hb1⟩
 have hV1 := Lib.hid (HV.out.step hb1)
 have u0 := (hV1.out.at_ 0 rfl).cell1
 have u1 := (hV1.out.at_ 1 rfl).cell1
 rw [Nat.add_zero] at u0
 clear hb1
 go_wp2_with fail
 go_region_held3 (fun w' => w'.cell? ⟨w.heap.size, 1, none⟩ = some (.string s) ∧ w'.cell? ⟨w.heap.size + 1, 1, none⟩ = some (.string t)) (go_keep)
  (first
   | (go_at_call 98; (with_reducible refine (HT.out _).mono ?_); rintro e w2 ⟨A1, n1, c1, rfl, hr1, hb2⟩; have hV2 := hV1.out.drew.step hb2; have a0 := (hV2.at_ 0 rfl).cell1; have a1 := (hV2.at_ 1 rfl).cell1; rw [Nat.add_zero] at a0)
   | (go_at_call 98; (with_reducible refine (HS.out _).mono ?_); rintro e w3 ⟨A2, n2, c2, rfl, hr2, hb3⟩; have hV3 := hV2.step hb3; have b0 := (hV3.at_ 0 rfl).cell1; have b1 := (hV3.at_ 1 rfl).cell1; rw [Nat.add_zero] at b0))
 have HV3 := Lib.hid hV3
 have HR1 := Lib.hid (hr1.below hb3)
 have HR2 := Lib.hid hr2
 clear hV2 hV3 hr1 hr2 hb2 hb3 a0 a1 b0 b1 u0 u1
 go_wp2_with fail
 generalize hW : w3.alloc (.cells #[.int .u64 1] 80) = W4 at *
 have hB4 : Below w3.heap.size w3 W4 := by rw [← hW]; exact (Below.refl _ _).alloc (Nat.le_refl _) _
 have hO : PP W4 (some ⟨w3.heap.size, 0, none⟩) 1 1 1 := by rw [← hW]; exact PP.one w3
 have HO := Lib.hid hO
 have HV4 := Lib.hid (HV3.out.step hB4)
 have HR3 := Lib.hid (HR1.out.below hB4)
 have HR4 := Lib.hid (HR2.out.below hB4)
 have hst : egF (N + 1) M N (sgn true 0) (sgn (!true) 1) = eg N M := rfl
 have HST := Lib.hid hst
 have HLT := Lib.hid hlt
 clear hW hB4 hO HV3 HR1 HR2 hst hlt
 go_loopw [12, 13, 14, 15, 16, 17, 18] (fun so sr sp sq sn _ _ wr => ∃ (A B C D : Option Addr) (na nb nc nd ca cb cc cd o r p q : Nat) (neg : Bool), so = .slice A na ca ∧ sr = .slice B nb cb ∧ sp = .slice C nc cc ∧ sq = .slice D nd cd ∧ sn = .bool neg ∧
   PP wr A na ca o ∧ PP wr B nb cb r ∧ PP wr C nc cc p ∧ PP wr D nd cd q ∧ r < o ∧ o ≤ M ∧ p ≤ M ∧ o * q + r * p = M ∧ egF (r + 1) o r (sgn neg p) (sgn (!neg) q) = eg N M ∧ Vars w wr [(x, s), (y, t), (false, ⟨#[]⟩), (false, ⟨#[]⟩)])
  (fun _ sr _ _ _ _ _ wr => rdv wr sr)
 case atStart => exact ⟨_, _, _, _, _, _, _, _, _, _, _, _, M, N, 0, 1, true, rfl, rfl, rfl, rfl, rfl, HR3.out, HR4.out, PP.nil _, HO.out, HLT.out, Nat.le_refl _, Nat.zero_le _, by omega, HST.out, HV4.out⟩
 case round =>
  obtain ⟨A, B, C, D, na, nb, nc, nd, ca, cb, cc, cd, o, r, p, q, neg, rfl, rfl, rfl, rfl, rfl, hA, hB, hC, hD, hro, hoM, hpM, hid, heg, hV⟩ := hrel
  have ho1 : 1 ≤ o := by omega
  have hqM : q ≤ M := by
   have : 1 * q ≤ o * q := Nat.mul_le_mul_right q ho1
   omega
  have lA := HLEN.out o hoM
  have lB := HLEN.out r (by omega)
  have lC := HLEN.out p hpM
  have lD := HLEN.out q hqM
  rw [hA.1] at lA
  rw [hB.1] at lB
  rw [hC.1] at lC
  rw [hD.1] at lD
  have hz := hB.zero
  have HA := Lib.hid hA
  have HB := Lib.hid hB
  have HC := Lib.hid hC
  have HD := Lib.hid hD
  have HV := Lib.hid hV
  have HID := Lib.hid hid
  have HEG := Lib.hid heg
  clear hA hB hC hD hV hid heg
  by_cases hr : r = 0
  ·have hn0 : nb = 0 := hz.2 hr
   subst hn0
   subst hr
   have heg : ((o : Int), sgn neg p, sgn (!neg) q) = eg N M := by
    rw [← HEG.out]
    simp [egF]
   have hoq : o * q = M := by have := HID.out; omega
   have hq0 : q ≠ 0 := by
    rintro rfl
    rw [Nat.mul_zero] at hoq
    omega
   have eG : G = sgn false o := by rw [← HG.out, ← heg]; rfl
   have eX : sgn neg p % sgn false q = X := by
    rw [← HX.out, ← heg]
    cases neg
    ·simp only [sgn]; simp [Int.emod_neg]
    ·simp only [sgn]; simp
   have zq : sgn false q ≠ 0 := by simp [sgn]; omega
   have s1 := HMAG.out (sgn neg p) (by cases neg <;> simp [sgn] <;> omega)
   have s2 := HMAG.out (sgn false q) (by simp [sgn]; omega)
   have HS1 := Lib.hid (fun W h => signed_pp neg C nc cc p W h (by omega))
   have HS2 := Lib.hid (fun W h => signed_pp false D nd cd q W h (by omega))
   have HS3 := Lib.hid (fun W h => signed_pp false A na ca o W h (by omega))
   have hqu := fun W => Quo_any (wneg (sgn neg p)) (wneg (sgn false q)) (wmag (sgn neg p)) (wmag (sgn false q)) W s1 s2 (by rw [wint_wv']; exact zq)
   rw [wint_wv', wint_wv', eX, wv_def, wv_def] at hqu
   rw [← eG] at HS3
   have HQU := Lib.hid hqu
   clear heg hoq hq0 eG eX zq s1 s2 hqu hz HEG HID hro hoM hpM ho1 hqM
   generalize sgn neg p % sgn false q = rr at *
   generalize sgn neg p / sgn false q = qq at *
   generalize sgn neg p = P1 at *
   generalize sgn false q = Q1 at *
   go_wp2_with fail
   with_reducible refine (HS1.out _ HC.out).mono ?_
   rintro e w5 ⟨rfl, hb5⟩
   have HV5 := Lib.hid (HV.out.step hb5)
   have HA5 := Lib.hid (HA.out.below hb5)
   have HD5 := Lib.hid (HD.out.below hb5)
   clear hb5
   go_wp2_with fail
   with_reducible refine (HS2.out _ HD5.out).mono ?_
   rintro e w6 ⟨rfl, hb6⟩
   have HV6 := Lib.hid (HV5.out.step hb6)
   have HA6 := Lib.hid (HA5.out.below hb6)
   clear hb6
   go_wp2_with fail
   with_reducible refine (HQU.out _).mono ?_
   rintro e w7 ⟨rfl, hb7⟩
   have hV7 := HV6.out.step hb7
   have HA7 := Lib.hid (HA6.out.below hb7)
   clear hb7
   have z0 := (hV7.at_ 3 rfl).cell0
   have z1 := (hV7.at_ 3 rfl).cell1
   have f0 := (hV7.at_ 3 rfl).frozen 0
   have f1 := (hV7.at_ 3 rfl).frozen 1
   have HV8 := Lib.hid (hV7.put 3 rfl (wneg X) (wmag X))
   have HA78 := Lib.hid ((HA7.out.other (u := .bool (wneg X)) (hV7.at_ 3 rfl).cell0 (fun m e => by cases e)).other (u := .string (wmag X)) ((hV7.at_ 3 rfl).set0 (wneg X)).cell1 (fun m e => by cases e))
   clear hV7
   go_wp2_with fail
   generalize hW : (w7.setCell ⟨w.heap.size + 1 + 1 + 1, 0, none⟩ (.bool (wneg X))).setCell ⟨w.heap.size + 1 + 1 + 1, 1, none⟩ (.string (wmag X)) = W8 at *
   have hB : Vars w W8 [(x, s), (y, t), (false, ⟨#[]⟩), (wneg X, wmag X)] := HV8.out
   have hA8 : PP W8 A na ca o := HA78.out
   have hA8d : PP W8.drew A na ca o := hA8
   clear hW z0 z1 f0 f1 HV8
   have z0 : W8.cell? ⟨w.heap.size + 1 + 1 + 1, 0, none⟩ = some (.bool (wneg X)) := (hB.at_ 3 rfl).cell0
   have z1 : W8.cell? ⟨w.heap.size + 1 + 1 + 1, 1, none⟩ = some (.string (wmag X)) := (hB.at_ 3 rfl).cell1
   go_region_held3 (fun w' => w'.cell? ⟨w.heap.size + 1 + 1 + 1, 0, none⟩ = some (.bool (wneg X)) ∧ w'.cell? ⟨w.heap.size + 1 + 1 + 1, 1, none⟩ = some (.string (wmag X))) (first | (refine ⟨?_, ?_⟩ <;> with_reducible assumption) | with_reducible exact ⟨((hB.put 2 rfl (wneg G) (wmag G)).at_ 3 rfl).cell0, ((hB.put 2 rfl (wneg G) (wmag G)).at_ 3 rfl).cell1⟩ | with_reducible exact ⟨(((hB.put 2 rfl (wneg G) (wmag G)).put 3 rfl (wneg X) (wmag X)).at_ 3 rfl).cell0, (((hB.put 2 rfl (wneg G) (wmag G)).put 3 rfl (wneg X) (wmag X)).at_ 3 rfl).cell1⟩ | with_reducible exact ⟨(((hB.put 2 rfl (wneg G) (wmag G))).drew.at_ 3 rfl).cell0, (((hB.put 2 rfl (wneg G) (wmag G))).drew.at_ 3 rfl).cell1⟩ | with_reducible exact ⟨((((hB.put 2 rfl (wneg G) (wmag G)).put 3 rfl (wneg X) (wmag X))).drew.at_ 3 rfl).cell0, ((((hB.put 2 rfl (wneg G) (wmag G)).put 3 rfl (wneg X) (wmag X))).drew.at_ 3 rfl).cell1⟩ | go_keep)
    (first
     | (go_at_call 96; (first | (with_reducible refine (HS3.out _ hA8).mono ?_) | (with_reducible refine (HS3.out _ hA8d).mono ?_)); rintro e w9 ⟨rfl, hbn⟩; (first | replace hB := hB.step hbn | replace hB := hB.drew.step hbn); clear hbn z0 z1; have z0 : w9.cell? ⟨w.heap.size + 1 + 1 + 1, 0, none⟩ = some (.bool (wneg X)) := (hB.at_ 3 rfl).cell0; have z1 : w9.cell? ⟨w.heap.size + 1 + 1 + 1, 1, none⟩ = some (.string (wmag X)) := (hB.at_ 3 rfl).cell1; have f0 : w9.frozen? ⟨w.heap.size + 1 + 1 + 1, 0, none⟩ = false := (hB.at_ 3 rfl).frozen 0; have f1 : w9.frozen? ⟨w.heap.size + 1 + 1 + 1, 1, none⟩ = false := (hB.at_ 3 rfl).frozen 1; have y0 : w9.cell? ⟨w.heap.size + 1 + 1, 0, none⟩ = some (.bool false) := (hB.at_ 2 rfl).cell0; have y1 : w9.cell? ⟨w.heap.size + 1 + 1, 1, none⟩ = some (.string ⟨#[]⟩) := (hB.at_ 2 rfl).cell1; have g0 : w9.frozen? ⟨w.heap.size + 1 + 1, 0, none⟩ = false := (hB.at_ 2 rfl).frozen 0; have g1 : w9.frozen? ⟨w.heap.size + 1 + 1, 1, none⟩ = false := (hB.at_ 2 rfl).frozen 1))
   all_goals
    have F := (hB.put 2 rfl (wneg G) (wmag G)).put 3 rfl (wneg X) (wmag X)
    go_wp2
    exact post_wide2 (b := w.heap.size + 2) (c := w.heap.size + 3) rfl rfl rfl (F.at_ 2 rfl) (F.at_ 3 rfl) rfl ⟨rfl, F.1⟩
  ·have hn0 : nb ≠ 0 := fun e => hr (hz.1 e)
   have hnp : 0 < nb := by omega
   obtain ⟨k, hk⟩ : ∃ k, o / r = k := ⟨_, rfl⟩
   obtain ⟨R, hR⟩ : ∃ R, o % r = R := ⟨_, rfl⟩
   have hRr : R < r := by rw [← hR]; exact Nat.mod_lt _ (by omega)
   have hdm := Nat.div_add_mod o r
   rw [hk, hR] at hdm
   have hid2 : r * (p + k * q) + R * q = M := by
    have := HID.out
    subst hdm
    grind
   have hnew : p + k * q ≤ M := by
    have : 1 * (p + k * q) ≤ r * (p + k * q) := Nat.mul_le_mul_right _ (by omega)
    omega
   have hrd := eg_round o r p q k R neg (by omega) hk hR
   have hne : (neg == false) = !neg := by cases neg <;> rfl
   have HDV := Lib.hid (fun W h1 h2 => divide_pp A B na nb ca cb o r W (by omega) h1 h2 (by omega) k R hk hR)
   have HPR := Lib.hid (fun W E ne ce h1 h2 hl => product_pp E D ne nd ce cd k q W h1 h2 hl (by omega) (k * q) rfl)
   have HSU := Lib.hid (fun W E ne ce h1 h2 hl => sum_pp C E nc ne cc ce p (k * q) W h1 h2 (by omega) hl (p + k * q) rfl)
   have HK1 := Lib.hid (HLEN.out k (by rw [← hk]; exact Nat.le_trans (Nat.div_le_self _ _) hoM))
   have HK2 := Lib.hid (HLEN.out (k * q) (by omega))
   have HRD := Lib.hid hrd
   have HID2 := Lib.hid hid2
   have HFIN := Lib.hid (And.intro hRr (And.intro hnew (And.intro hro hoM)))
   clear hrd hid2 hk hR hdm hz hRr hnew hro hoM ho1
   go_wp2_with fail
   with_reducible refine (HDV.out _ HA.out HB.out).mono ?_
   rintro e w5 ⟨E, F, ne, nf, ce, cf, rfl, hE, hF, hb5⟩
   have HV5 := Lib.hid (HV.out.step hb5)
   have HB5 := Lib.hid (HB.out.below hb5)
   have HC5 := Lib.hid (HC.out.below hb5)
   have HD5 := Lib.hid (HD.out.below hb5)
   have HE5 := Lib.hid hE
   have HF5 := Lib.hid hF
   clear hE hF hb5
   go_wp2_with fail
   have lE := HK1.out
   rw [HE5.out.1] at lE
   with_reducible refine (HPR.out _ _ _ _ HE5.out HD5.out (by omega)).mono ?_
   rintro e w6 ⟨G6, n6, c6, rfl, hG6, hb6⟩
   have HV6 := Lib.hid (HV5.out.step hb6)
   have HB6 := Lib.hid (HB5.out.below hb6)
   have HC6 := Lib.hid (HC5.out.below hb6)
   have HD6 := Lib.hid (HD5.out.below hb6)
   have HF6 := Lib.hid (HF5.out.below hb6)
   have HG6 := Lib.hid hG6
   clear hG6 hb6
   go_wp2_with fail
   have lG := HK2.out
   rw [HG6.out.1] at lG
   with_reducible refine (HSU.out _ _ _ _ HC6.out HG6.out (by omega)).mono ?_
   rintro e w7 ⟨G7, n7, c7, rfl, hG7, hb7⟩
   have HV7 := Lib.hid (HV6.out.step hb7)
   have HB7 := Lib.hid (HB6.out.below hb7)
   have HD7 := Lib.hid (HD6.out.below hb7)
   have HF7 := Lib.hid (HF6.out.below hb7)
   have HG7 := Lib.hid hG7
   have HM := Lib.hid HB.out.rdv
   clear hG7 hb7
   go_wp2
   go_roundw
   case rel => exact ⟨_, _, _, _, _, _, _, _, _, _, _, _, r, R, q, p + k * q, !neg, rfl, rfl, rfl, rfl, rfl, HB7.out, HF7.out, HD7.out, HG7.out, HFIN.out.1, by have := HFIN.out; omega, hqM, HID2.out, by rw [← HRD.out]; exact HEG.out, HV7.out⟩
   case measure =>
    have m1 := HM.out
    have m2 := HF7.out.rdv
    have m3 := HFIN.out.1
    exact Nat.lt_of_le_of_lt (Nat.le_of_eq m2) (Nat.lt_of_lt_of_le m3 (Nat.le_of_eq m1.symm))
theorem invert_any (x y : Bool) (s t : ByteArray) (w : World) (hst : s.size ≤ t.size) (ht : t.size ≤ 4398046511104) (a m : Int) (ha : wint x s = a) (hm : wint y t = m) (h0 : 0 ≤ a) (h1 : a < m) (G X : Int) (hG : (inv a m).1 = G) (hX : (inv a m).2 = X) :
  Calls Tryz.prog 157 #[.agg #[.bool x, .string s], .agg #[.bool y, .string t]] w fun e w' =>
   e = .returned (.tuple #[.agg #[.bool (wneg G), .string (wmag G)], .agg #[.bool (wneg X), .string (wmag X)]]) ∧ Below w.heap.size w w' := by
 by_cases h7 : t.size ≤ 7
 ·have h := invert_small x y s t w (by omega) h7 (by omega) (by omega)
  rw [ha, hm, hG, hX] at h
  exact h
 ·have e1 : ((bval s.data.toList : Nat) : Int) = a := by
   cases x
   ·rw [wint_false] at ha; exact ha
   ·rw [wint_true] at ha; omega
  have e2 : ((bval t.data.toList : Nat) : Int) = m := by
   cases y
   ·rw [wint_false] at hm; exact hm
   ·rw [wint_true] at hm; omega
  exact invert_big x y s t w (by omega) (by omega) ht _ _ rfl rfl (by omega) G X (by rw [e1, e2]; exact hG) (by rw [e1, e2]; exact hX)
theorem Gcd_any (x y : Bool) (s t : ByteArray) (w : World) (hs : s.size ≤ 80) (ht : t.size ≤ 80) (a b : Int) (ha : wint x s = a) (hbv : wint y t = b) :
  Calls Tryz.prog 144 #[.agg #[.bool x, .string s], .agg #[.bool y, .string t]] w fun e w' =>
   e = .returned (.tuple #[.agg #[.bool (wneg (gcdS a b).1), .string (wmag (gcdS a b).1)], .agg #[.bool (wneg (gcdS a b).2.1), .string (wmag (gcdS a b).2.1)], .agg #[.bool (wneg (gcdS a b).2.2), .string (wmag (gcdS a b).2.2)]]) ∧ Below w.heap.size w w' := by
 by_cases hb : b = 0
 ·have h := Gcd_zero x y s t w (by omega) (by omega) (by rw [hbv]; exact hb)
  have e : gcdS a b = ((a.natAbs : Int), a.sign, 0) := by unfold gcdS; rw [if_pos hb]
  rw [e]
  rw [ha] at h
  exact h
 ·have hA := wint_abs_pow x s 80 hs
  have hB := wint_abs_pow y t 80 ht
  rw [ha] at hA
  rw [hbv] at hB
  have e : gcdS a b = ((inv (a % b.natAbs) b.natAbs).1, (inv (a % b.natAbs) b.natAbs).2, ((inv (a % b.natAbs) b.natAbs).1 - (inv (a % b.natAbs) b.natAbs).2 * a) / b) := by unfold gcdS; rw [if_neg hb]
  rw [e]
  have hm0 : ((b.natAbs : Nat) : Int) ≠ 0 := by omega
  have r0 := Int.emod_nonneg a hm0
  have r1 := Int.emod_lt a hm0
  obtain ⟨M, hM⟩ : ∃ M : Int, M = ((b.natAbs : Nat) : Int) := ⟨_, rfl⟩
  rw [← hM] at r0 r1 hm0 ⊢
  obtain ⟨R, hR⟩ : ∃ R : Int, R = a % M := ⟨_, rfl⟩
  rw [← hR] at r0 r1 ⊢
  have hok := eg_ok R M r0 (by omega)
  have g1 : 1 ≤ (inv R M).1 := hok.1
  have g2 : (inv R M).1 ≤ M := hok.2.1
  have x1 : 0 ≤ (inv R M).2 := hok.2.2.1
  have x2 : (inv R M).2 < M := hok.2.2.2
  obtain ⟨G, hG⟩ : ∃ G : Int, G = (inv R M).1 := ⟨_, rfl⟩
  obtain ⟨X, hX⟩ : ∃ X : Int, X = (inv R M).2 := ⟨_, rfl⟩
  rw [← hG] at g1 g2 ⊢
  rw [← hX] at x1 x2 ⊢
  have hMB : M.natAbs < 256 ^ 80 := by omega
  have hXB : X.natAbs < 256 ^ 80 := by omega
  have hP : (X * a).natAbs < 256 ^ 160 := by rw [Int.natAbs_mul, show (256 : Nat) ^ 160 = 256 ^ 80 * 256 ^ 80 from by rw [← Nat.pow_add]]; exact Nat.mul_lt_mul'' hXB hA
  have hD : (G - X * a).natAbs < 256 ^ 161 := by
   have h160 : (256 : Nat) ^ 80 ≤ 256 ^ 160 := Nat.pow_le_pow_right (by omega) (by omega)
   have : (256 : Nat) ^ 161 = 256 * 256 ^ 160 := by rw [Nat.pow_succ, Nat.mul_comm]
   generalize (256 : Nat) ^ 161 = p161 at *
   generalize (256 : Nat) ^ 160 = p160 at *
   generalize (256 : Nat) ^ 80 = p80 at *
   omega
  have sM := wmag_size M 80 hMB
  have sX := wmag_size X 80 hXB
  have sG := wmag_size G 80 (by omega)
  have sP := wmag_size (X * a) 160 hP
  have sD := wmag_size (G - X * a) 161 hD
  have sR : (wmag R).size ≤ (wmag M).size := by
   refine wmag_size R _ ?_
   have h1 := wint_abs_pow (wneg M) (wmag M) _ (Nat.le_refl _)
   rw [wint_wv'] at h1
   exact Nat.lt_trans (by omega) h1
  clear hA hB hMB hXB hP hD
  refine Gcd_of x y s t w (by omega) (by omega) (by rw [hbv]; exact hb) (wneg M) (wneg R) (wneg G) (wneg X) (wneg ((G - X * a) / b)) (wneg (X * a)) (wneg (G - X * a)) (wneg (a / M)) (wneg ((G - X * a) % b)) (wmag M) (wmag R) (wmag G) (wmag X) (wmag ((G - X * a) / b)) (wmag (X * a)) (wmag (G - X * a)) (wmag (a / M)) (wmag ((G - X * a) % b)) ?_ ?_ ?_ ?_ ?_ ?_
  ·rw [hbv, ← hM]; rfl
  ·intro W
   have h := Quo_any x (wneg M) s (wmag M) W (by omega) (by omega) (by rw [wint_wv']; exact hm0)
   rw [wint_wv', ha, ← hR] at h
   exact h
  ·intro W
   exact invert_any (wneg R) (wneg M) (wmag R) (wmag M) W sR (by omega) R M (wint_wv' R) (wint_wv' M) r0 (by omega) G X hG.symm hX.symm
  ·intro W
   have h := Mul_any (wneg X) x (wmag X) s W (by omega) (by omega)
   rw [wint_wv', ha] at h
   exact h
  ·intro W
   have h := Sub_any (wneg G) (wneg (X * a)) (wmag G) (wmag (X * a)) W (by omega) (by omega)
   rw [wint_wv', wint_wv'] at h
   exact h
  ·intro W
   have h := Quo_any (wneg (G - X * a)) y (wmag (G - X * a)) t W (by omega) (by omega) (by rw [hbv]; exact hb)
   rw [wint_wv', hbv] at h
   exact h
end Go.Proofs.YtknaghdoffigjaaGreatDoor
