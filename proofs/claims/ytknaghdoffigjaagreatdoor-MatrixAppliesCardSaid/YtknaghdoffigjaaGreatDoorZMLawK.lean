import Derived.Test.YtknaghdoffigjaaGreatDoorZMAlg
import Derived.Test.YtknaghdoffigjaaGreatDoorZMBoth
import Derived.Test.YtknaghdoffigjaaGreatDoorZMRefA
import Derived.Test.YtknaghdoffigjaaGreatDoorZMInvV
import Derived.Test.YtknaghdoffigjaaGreatDoorZMNumb
import Derived.Test.YtknaghdoffigjaaGreatDoorZRDig
set_option linter.unusedSimpArgs false
set_option linter.unusedVariables false
set_option linter.unnecessarySimpa false
namespace Go.Proofs.YtknaghdoffigjaaGreatDoor
open Go.RowKit Go
end Go.Proofs.YtknaghdoffigjaaGreatDoor
namespace Go.Proofs.YtknaghdoffigjaaGreatDoor
open Go.RowKit Go
attribute [local go_sem] Oper.semAt_some
def RetA (P : Program) (f : Nat) (args : Array Value) (ok : Bool) (N : Nat) (es : List (Bool × ByteArray)) (W : World) : Prop :=
 Calls P f args W fun e w' => ∃ A c, e = .returned (.tuple #[.slice A N c, .bool ok]) ∧ RdW w' A es ∧ Below W.heap.size W w'
theorem take_bounds (L : List Int) (m : Nat) (hb : ∀ j, -9223372036854775808 ≤ L.getD j 0 ∧ L.getD j 0 ≤ 9223372036854775807) (j : Nat) : -9223372036854775808 ≤ (L.take m).getD j 0 ∧ (L.take m).getD j 0 ≤ 9223372036854775807 := by
 rcases Nat.lt_or_ge j m with h | h
 ·rw [List.getD_eq_getElem?_getD, List.getElem?_take_of_lt h, ← List.getD_eq_getElem?_getD]
  exact hb j
 ·rw [List.getD_eq_getElem?_getD, List.getElem?_eq_none (by rw [List.length_take]; omega)]
  simp
theorem RdI.take {w : World} {A : Option Addr} {L : List Int} (h : RdI w A L) (m : Nat) : RdI w A (L.take m) := fun k hk => by
 have hk' : k < m ∧ k < L.length := by rw [List.length_take] at hk; omega
 obtain ⟨a, e, hb, hc⟩ := h k hk'.2
 refine ⟨a, e, hb, ?_⟩
 rw [List.getD_eq_getElem?_getD, List.getElem?_take_of_lt hk'.1, ← List.getD_eq_getElem?_getD]
 exact hc
theorem Numbers_ob (A : Option Addr) (n cap : Nat) (Ls : List Int) (w : World) (hR : RdI w A Ls) (hn : Ls.length = n) (hn2 : n ≤ 200) (hb : ∀ j, -9223372036854775808 ≤ Ls.getD j 0 ∧ Ls.getD j 0 ≤ 9223372036854775807) :
  Calls Tryz.prog 45 #[.slice A n cap] w fun e w' => ∃ B c, e = .returned (.slice B n c) ∧ n ≤ c ∧ c ≤ maxLen ∧ OB w' B (enc Ls) ∧ (∀ g, B = some ⟨g, 0, none⟩ → w.heap.size ≤ g) ∧ Below w.heap.size w w' := by
 refine (Numbers_any A n cap Ls w hR hn hn2 hb).mono ?_
 rintro e w' ⟨v, rfl, hO, hb⟩
 have hown := hO.own
 obtain ⟨B, c, rfl, h1, h2, h3⟩ := hO.ob
 rw [hn] at h1 hown ⊢
 exact ⟨B, c, rfl, h1, h2, h3, fun g e => hown g (by rw [e]; rfl), hb⟩
theorem ints_size (zs : List Int) (hb : ∀ j, -9223372036854775808 ≤ zs.getD j 0 ∧ zs.getD j 0 ≤ 9223372036854775807) (q : Nat) : (wmag (zs.getD q 0)).size ≤ 8 := by
 have := hb q
 exact wmag_size _ 8 (by rw [pow8]; omega)
theorem LwG.put1 {ext : List Value} {w : World} {g : Nat} {zs : List (Bool × ByteArray)} (h : LwG ext w g zs) (k : Nat) (hk : k < zs.length) (t : ByteArray) : LwG ext (w.setCell ⟨g, k * 2 + 1, none⟩ (.string t)) g (zs.set k ((zs[k]'hk).1, t)) := by
 have h1 : (flat zs).set (k * 2) (.bool (zs[k]'hk).1) = flat zs := by
  apply List.ext_getElem?
  intro i
  rw [List.getElem?_set]
  by_cases e : k * 2 = i
  ·subst e
   rw [if_pos rfl, if_pos (by rw [flat_length]; omega), (flat_get zs k hk).1]
  ·rw [if_neg e]
 unfold LwG at h ⊢
 rw [← flat_set, h1, show (flat zs).set (k * 2 + 1) (.string t) ++ ext = (flat zs ++ ext).set (k * 2 + 1) (.string t) from by
  rw [List.set_append_left _ _ (by rw [flat_length]; omega)]]
 simp [World.setCell, Array.getElem?_modify, h]
theorem enc_can (zs : List Int) : (enc zs).any (fun p => ncan p.1 p.2) = false := by
 have h := mright_ints 1 zs.length zs (by rw [Nat.one_mul])
 by_cases hl : zs.length ≤ 200
 ·have h := h (by omega) hl
  unfold mright at h
  simpa using (Bool.and_eq_true_iff.1 h).2
 ·rw [List.any_eq_false]
  intro p hp
  unfold enc at hp
  obtain ⟨z, _, rfl⟩ := List.mem_map.1 hp
  have h1 := mright_ints 1 1 [z] rfl (by omega) (by omega)
  unfold mright at h1
  have h2 := (Bool.and_eq_true_iff.1 h1).2
  simpa [enc] using h2
theorem bad_can (zs : List (Bool × ByteArray)) (k : Nat) (hk : k < zs.length) (b : Bool) (s : ByteArray) (hs : ncan b s = true) : (zs.set k (b, s)).any (fun p => ncan p.1 p.2) = true := by
 rw [List.any_eq_true]
 exact ⟨(b, s), List.mem_iff_getElem.2 ⟨k, by simpa using hk, by simp⟩, hs⟩
theorem App_good (r k n NA : Nat) (xs ys : List Int) (hlA : xs.length = r * k) (hNA : NA = r * k) (hmA : NA ≤ maxLen) (hlB : ys.length = n) (hr : r ≤ 200) (hk : k ≤ 200) (hn : n ≤ 200) (hsx : ∀ q, (wmag (xs.getD q 0)).size ≤ 8) (hsy : ∀ q, (wmag (ys.getD q 0)).size ≤ 8) :
  ∃ (ok : Bool) (rr cc : Int) (N : Nat) (es : List (Bool × ByteArray)), es.length = N ∧ N ≤ 40000 ∧ ok = decide (n = k) ∧
   (∀ gA B cap W, n ≤ cap → cap ≤ maxLen → Lw W gA (enc xs) → OB W B (enc ys) → RetA Tryz.prog 46 #[.agg #[.int .i64 (r : Int), .int .i64 (k : Int), .slice (some ⟨gA, 0, none⟩) NA NA], .slice B n cap] ok N es W) ∧
   (∀ gA B cap W, n ≤ cap → cap ≤ maxLen → Lw W gA (enc xs) → OB W B (enc ys) → RetA Tryz.prog 47 #[.agg #[.int .i64 (r : Int), .int .i64 (k : Int), .slice (some ⟨gA, 0, none⟩) NA NA], .slice B n cap] ok N es W) ∧
   (∀ gA B cap W, n ≤ cap → cap ≤ maxLen → Lw W gA (enc xs) → OB W B (enc ys) → RetP Tryz.prog 43 #[.agg #[.int .i64 (r : Int), .int .i64 (k : Int), .slice (some ⟨gA, 0, none⟩) NA NA], .agg #[.int .i64 (n : Int), .int .i64 1, .slice B n cap]] ok rr cc N es W) := by
 obtain ⟨ok, rr, cc, N, es, h1, h2, h3, h4, h5⟩ := MulB_both r k n NA xs ys hlA hNA hmA hlB hr hk hn hsx hsy
 refine ⟨ok, rr, cc, N, es, h1, h2, h3, fun gA B cap W hcap hcm hA hB => ?_, fun gA B cap W hcap hcm hA hB => ?_, h4⟩
 ·exact Apply_any B gA r k n NA cap ok rr cc N es W fun W' hb => h4 gA B cap W' hcap hcm (Lw.step hA hb) (hB.below hb)
 ·exact rApply_any B gA r k n NA cap (enc ys) ok rr cc N es W (enc_can ys) hB.rdw (by rw [enc_length, hlB]) hn fun W' hb => h5 gA B cap W' hcap hcm (Lw.step hA hb) (hB.below hb)
theorem App_bad (r k n NA : Nat) (xs : List Int) (zs : List (Bool × ByteArray)) (hlA : xs.length = r * k) (hNA : NA = r * k) (hmA : NA ≤ maxLen) (hlB : zs.length = n) (hr : r ≤ 200) (hk : k ≤ 200) (hn : n ≤ 200) (hbad : zs.any (fun p => ncan p.1 p.2) = true) :
  (∀ gA B cap W, Lw W gA (enc xs) → OB W B zs → RetA Tryz.prog 46 #[.agg #[.int .i64 (r : Int), .int .i64 (k : Int), .slice (some ⟨gA, 0, none⟩) NA NA], .slice B n cap] false 0 [] W) ∧
   (∀ gA B cap W, Lw W gA (enc xs) → OB W B zs → RetA Tryz.prog 47 #[.agg #[.int .i64 (r : Int), .int .i64 (k : Int), .slice (some ⟨gA, 0, none⟩) NA NA], .slice B n cap] false 0 [] W) := by
 refine ⟨fun gA B cap W hA hB => ?_, fun gA B cap W hA hB => ?_⟩
 ·refine Apply_any B gA r k n NA cap false 0 0 0 [] W fun W' hb => ?_
  refine (Mul_bad B gA r k n NA NA cap xs zs W' (Lw.step hA hb) (hB.below hb).rdw hlA hNA (Nat.le_refl _) hmA hlB (by unfold maxLen; omega) hr hk hbad).mono ?_
  rintro e w' ⟨rfl, hb⟩
  exact ⟨none, 0, rfl, RdW.nil _ _, hb⟩
 ·refine (rApply_bad B gA r k n NA cap zs W hbad hB.rdw hlB hn).mono ?_
  rintro e w' ⟨rfl, hb⟩
  exact ⟨none, 0, rfl, RdW.nil _ _, hb⟩
set_option maxRecDepth 100000 in
set_option maxHeartbeats 8000000 in
theorem applies_any (A1 : Option Addr) (n1 c1 R1 C1 : Nat) (L1 : List Int) (AL : Option Addr) (nL cL : Nat) (LL : List Int) (w : World) (hR1 : RdI w A1 L1) (hl1 : L1.length = n1) (hm1 : n1 ≤ maxLen) (hb1 : ∀ j, -9223372036854775808 ≤ L1.getD j 0 ∧ L1.getD j 0 ≤ 9223372036854775807) (hRL : RdI w AL LL) (hlL : LL.length = nL) (hcL : nL ≤ cL) (hmL : cL ≤ maxLen) (hbL : ∀ j, -9223372036854775808 ≤ LL.getD j 0 ∧ LL.getD j 0 ≤ 9223372036854775807) (hTz : Tz w) :
  Calls Tryz.prog 7 #[.agg #[.int .u8 (R1 : Int), .int .u8 (C1 : Int), .slice A1 n1 c1], .slice AL nL cL] w fun e w' => e = .returned (.bool true) ∧ Below w.heap.size w w' := by
 obtain ⟨r, hr⟩ : ∃ x, R1 % 7 = x := ⟨_, rfl⟩
 have hr6 : r ≤ 6 := by omega
 obtain ⟨k, hk⟩ : ∃ x, C1 % 7 = x := ⟨_, rfl⟩
 have hk6 : k ≤ 6 := by omega
 obtain ⟨Na, hNa⟩ : ∃ x, r * k = x := ⟨_, rfl⟩
 have bNa : Na ≤ 36 := by rw [← hNa]; exact Nat.mul_le_mul hr6 hk6
 have xNa : Na ≤ maxLen := by unfold maxLen; omega
 have hma := fun W h => Mat_any A1 n1 c1 L1 R1 C1 r k Na W h hl1 hm1 hr hk hNa hb1
 have sa := wth_size L1 Na hb1
 have la : (wth L1 Na).length = r * k := by rw [wth_length, hNa]
 obtain ⟨za, hza⟩ : ∃ x, x = wth L1 Na := ⟨_, rfl⟩
 rw [← hza] at hma sa la
 obtain ⟨nx, hnx⟩ : ∃ m, m = min nL 7 := ⟨_, rfl⟩
 have hxl : (LL.take nx).length = nx := by rw [List.length_take, hlL]; omega
 have hxb := take_bounds LL nx hbL
 have hslx := fun W => slice_hiI AL nL cL nx (by omega) W
 have hnxc := fun W (h : RdI W AL LL) => Numbers_ob AL nx cL (LL.take nx) W (h.take nx) hxl (by omega) hxb
 have hminx : min (nL : Int) 7 = (nx : Int) := by omega
 obtain ⟨ny, hny⟩ : ∃ m, m = min nL k := ⟨_, rfl⟩
 have hyl : (LL.take ny).length = ny := by rw [List.length_take, hlL]; omega
 have hyb := take_bounds LL ny hbL
 have hsly := fun W => slice_hiI AL nL cL ny (by omega) W
 have hnyc := fun W (h : RdI W AL LL) => Numbers_ob AL ny cL (LL.take ny) W (h.take ny) hyl (by omega) hyb
 have hminy : min (nL : Int) (k : Int) = (ny : Int) := by omega
 obtain ⟨xs, hxs⟩ : ∃ x, x = LL.take nx := ⟨_, rfl⟩
 obtain ⟨ys, hys⟩ : ∃ x, x = LL.take ny := ⟨_, rfl⟩
 rw [← hxs] at hxl hxb hnxc
 rw [← hys] at hyl hyb hnyc
 obtain ⟨okx, rx, cx_, Nx, ex, hx1, hx2, hx3, hax, hrx, _⟩ := App_good r k nx Na za xs la hNa.symm xNa hxl (by omega) (by omega) (by omega) sa (ints_size xs hxb)
 obtain ⟨oky, ry, cy_, Ny, ey, hy1, hy2, hy3, hay, _, hmy⟩ := App_good r k ny Na za ys la hNa.symm xNa hyl (by omega) (by omega) (by omega) sa (ints_size ys hyb)
 have hbx := fun (zs : List (Bool × ByteArray)) (hz : zs.length = nx) (hbad : zs.any (fun p => ncan p.1 p.2) = true) => App_bad r k nx Na za zs la hNa.symm xNa hz (by omega) (by omega) (by omega) hbad
 have hTs : ∀ W l, Kg none w W l → Tz W := fun W l h => hTz.of fun b hb => h.1.block b hb (by simp)
 have hR1k : ∀ W l, Kg none w W l → RdI W A1 L1 := fun W l h => hR1.below (Kg.below_ h)
 have hRLk : ∀ W l, Kg none w W l → RdI W AL LL := fun W l h => hRL.below (Kg.below_ h)
 have hn7 : nx ≤ 7 := by omega
 have hnk : ny ≤ k := by omega
 have hnL0 : 0 < nx → 0 < LL.length := by omega
 have hnL1 : 0 < nx → 0 < nL := by omega
 have hxz := ints_size xs hxb
 unfold mat RetA RetP at *
 have HMA := Lib.hid hma
 have HSLX := Lib.hid hslx
 have HSLY := Lib.hid hsly
 have HNXC := Lib.hid hnxc
 have HNYC := Lib.hid hnyc
 have HAX := Lib.hid hax
 have HRX := Lib.hid hrx
 have HAY := Lib.hid hay
 have HMY := Lib.hid hmy
 have HBX := Lib.hid hbx
 have HNL0 := Lib.hid hnL0
 have HNL1 := Lib.hid hnL1
 have HXZ := Lib.hid hxz
 have HXL := Lib.hid hxl
 have HMINX := Lib.hid hminx
 have HMINY := Lib.hid hminy
 have HLX := Lib.hid (show ∀ A B ca cb W, RdW W A ex → RdW W B ex → Calls Tryz.prog 48 #[.slice A Nx ca, .slice B Nx cb] W fun e w' => e = .returned (.bool true) ∧ Below W.heap.size W w' from fun A B ca cb W h1 h2 => by
  have h := rLists_any A B Nx Nx ca cb ex ex W h1 h2 hx1 hx1 (by omega) (by omega)
  rw [decide_eq_true rfl] at h
  exact h)
 have HLY := Lib.hid (show ∀ A B ca cb W, RdW W A ey → RdW W B ey → Calls Tryz.prog 48 #[.slice A Ny ca, .slice B Ny cb] W fun e w' => e = .returned (.bool true) ∧ Below W.heap.size W w' from fun A B ca cb W h1 h2 => by
  have h := rLists_any A B Ny Ny ca cb ey ey W h1 h2 hy1 hy1 (by omega) (by omega)
  rw [decide_eq_true rfl] at h
  exact h)
 have HY3 := Lib.hid hy3
 have HSA := Lib.hid (fun W hW => sanity_any W hW)
 have HTS := Lib.hid hTs
 have HRDA := Lib.hid hR1k
 have HRDL := Lib.hid hRLk
 have HK1 := Lib.hid (((Kg.none_ none w 0).more (.cells #[.int .u8 (R1 : Int), .int .u8 (C1 : Int), .slice A1 n1 c1] 38 (0, 0))).cast (l' := [some (w.heap.size, .cells #[.int .u8 (R1 : Int), .int .u8 (C1 : Int), .slice A1 n1 c1] 38 (0, 0))]) (by simp))
 clear hma hslx hsly hnxc hnyc hax hrx hay hmy hbx hnL0 hnL1 hxz hxl hminx hminy hx1 hx2 hx3 hy1 hy2 hy3 hyl hxb hyb hxs hys hnx hny hTs hR1k hRLk hza la sa hR1 hRL hl1 hm1 hb1 hTz hr hk hNa bNa xNa hlL hcL hmL hbL
 go_enter Tryz.func7, Tryz.ntmps7
 go_wp2_with fail
 change Calls _ _ _ (w.alloc (.cells #[.int .u8 (R1 : Int), .int .u8 (C1 : Int), .slice A1 n1 c1] 38 (0, 0))) _
 generalize w.alloc (.cells #[.int .u8 (R1 : Int), .int .u8 (C1 : Int), .slice A1 n1 c1] 38 (0, 0)) = W1 at *
 with_reducible refine (HSA.out _ (HTS.out _ _ HK1.out)).mono ?_
 rintro e V1 ⟨rfl, hb2⟩
 have HK2 := Lib.hid (HK1.out.step hb2)
 clear hb2 HK1
 have x0 := HK2.out.cell 0 0 rfl rfl
 have x1 := HK2.out.cell 0 1 rfl rfl
 have x2 := HK2.out.cell 0 2 rfl rfl
 go_wp2_with fail
 with_reducible refine (HMA.out _ (HRDA.out _ _ HK2.out)).mono ?_
 rintro e V3 ⟨g1, rfl, hg, hL, hb⟩
 have HK3 := Lib.hid (show Kg none w (V3.alloc (.cells #[.int .i64 (r : Int), .int .i64 (k : Int), .slice (some ⟨g1, 0, none⟩) Na Na] 28 (0, 0))) [some (w.heap.size, .cells #[.int .u8 (R1 : Int), .int .u8 (C1 : Int), .slice A1 n1 c1] 38 (0, 0)), some (g1, lwO (enc (za))), some (V3.heap.size, .cells #[.int .i64 (r : Int), .int .i64 (k : Int), .slice (some ⟨g1, 0, none⟩) Na Na] 28 (0, 0))] from (HK2.out.room.came 1 rfl hb hg (o := lwO (enc (za))) hL).more (.cells #[.int .i64 (r : Int), .int .i64 (k : Int), .slice (some ⟨g1, 0, none⟩) Na Na] 28 (0, 0)))
 clear hg hL hb x0 x1 x2 HK2
 have hslx := HSLX.out
 have hminx := HMINX.out
 go_wp2_with fail
 clear hslx hminx
 change Calls _ _ _ (V3.alloc (.cells #[.int .i64 (r : Int), .int .i64 (k : Int), .slice (some ⟨g1, 0, none⟩) Na Na] 28 (0, 0))) _
 generalize V3.alloc (.cells #[.int .i64 (r : Int), .int .i64 (k : Int), .slice (some ⟨g1, 0, none⟩) Na Na] 28 (0, 0)) = W4 at *
 generalize V3.heap.size = b3 at *
 with_reducible refine (HNXC.out _ (HRDL.out _ _ HK3.out)).mono ?_
 rintro e V4 ⟨Bx, cx, rfl, hcx1, hcx2, hob, hgx, hb⟩
 have HOB := Lib.hid hob
 have HGX := Lib.hid hgx
 have HB := Lib.hid hb
 clear hob hgx hb
 by_cases h7 : 0 < nx
 ·have d7 : decide ((nx : Int) > 0) = true := by rw [decide_eq_true_iff]; omega
  have HK4 := Lib.hid (HK3.out.step HB.out)
  obtain ⟨aL, hAL, hbL0, r0⟩ := HRDL.out _ _ HK4.out 0 (HNL0.out h7)
  clear hbL0
  have hnL := HNL1.out h7
  obtain ⟨t, ht⟩ : ∃ t, (LL.getD 0 0).tmod 8 = t := ⟨_, rfl⟩
  generalize LL.getD 0 0 = z0 at *
  subst hAL
  have r0' : V4.cell? aL = some (.int .i64 z0) := by rw [addr_zero] at r0; exact r0
  by_cases h5 : t = 5
  ·subst h5
   obtain ⟨g, ext, rfl, hLg⟩ : ∃ g ext, Bx = some ⟨g, 0, none⟩ ∧ LwG ext V4 g (enc xs) := by
    rcases HOB.out with ⟨_, hz⟩ | h
    ·have := congrArg List.length hz
     rw [enc_length, HXL.out] at this
     simp at this
     omega
    ·exact h
   obtain ⟨m1, hm1⟩ : ∃ m1, nx = m1 + 1 := ⟨nx - 1, by omega⟩
   have hmn : m1 < nx := by omega
   have hml : m1 < (enc xs).length := by rw [enc_length, HXL.out]; omega
   have w1 : IntKind.i64.wrap ((nx : Int) - 1) = (m1 : Int) := by rw [show (nx : Int) - 1 = (m1 : Int) from by omega]; exact IntWalk.i64_in _ (by omega)
   have hKx : Kg none w V4 [some (w.heap.size, .cells #[.int .u8 (R1 : Int), .int .u8 (C1 : Int), .slice A1 n1 c1] 38 (0, 0)), some (g1, lwO (enc (za))), some (b3, .cells #[.int .i64 (r : Int), .int .i64 (k : Int), .slice (some ⟨g1, 0, none⟩) Na Na] 28 (0, 0)), some (g, .cells (flat (enc xs) ++ ext).toArray 32 (0, 0))] := HK3.out.room.came 3 rfl HB.out (HGX.out g rfl) (o := .cells (flat (enc xs) ++ ext).toArray 32 (0, 0)) hLg
   have e1 := hLg.cell1 m1 hml
   have f1 := hKx.frozen 3 (m1 * 2 + 1) rfl
   have hsz : ((enc xs)[m1]'hml).2.size ≤ 8 := by rw [enc_get]; exact HXZ.out m1
   have hput := hLg.put1 m1 hml (⟨#[0]⟩ ++ ((enc xs)[m1]'hml).2)
   have hbad := bad_can (enc xs) m1 hml ((enc xs)[m1]'hml).1 (⟨#[0]⟩ ++ ((enc xs)[m1]'hml).2) (by
    unfold ncan
    rw [ByteArray.data_append, Array.toList_append]
    rfl)
   obtain ⟨haz, hrz⟩ := HBX.out ((enc xs).set m1 (((enc xs)[m1]'hml).1, ⟨#[0]⟩ ++ ((enc xs)[m1]'hml).2)) (by rw [List.length_set, enc_length, HXL.out]) hbad
   generalize (enc xs).set m1 (((enc xs)[m1]'hml).1, ⟨#[0]⟩ ++ ((enc xs)[m1]'hml).2) = zx at *
   obtain ⟨s1, hs1⟩ : ∃ s1, s1 = ((enc xs)[m1]'hml).2 := ⟨_, rfl⟩
   rw [← hs1] at e1 hsz hput
   clear hs1
   have hKs := hKx.put 3 (m1 * 2 + 1) rfl (.string (⟨#[0]⟩ ++ s1))
   have HK4 := Lib.hid (show Kg none w (V4.setCell ⟨g, m1 * 2 + 1, none⟩ (.string (⟨#[0]⟩ ++ s1))) [some (w.heap.size, .cells #[.int .u8 (R1 : Int), .int .u8 (C1 : Int), .slice A1 n1 c1] 38 (0, 0)), some (g1, lwO (enc (za))), some (b3, .cells #[.int .i64 (r : Int), .int .i64 (k : Int), .slice (some ⟨g1, 0, none⟩) Na Na] 28 (0, 0))] from hKs.take 3)
   have HOB := Lib.hid (show OB (V4.setCell ⟨g, m1 * 2 + 1, none⟩ (.string (⟨#[0]⟩ ++ s1))) (some ⟨g, 0, none⟩) zx from .inr ⟨g, ext, rfl, hput⟩)
   have HAZ := Lib.hid (show ∀ gA B cap W, nx ≤ cap → cap ≤ maxLen → Lw W gA (enc za) → OB W B zx → RetA Tryz.prog 46 #[.agg #[.int .i64 (r : Int), .int .i64 (k : Int), .slice (some ⟨gA, 0, none⟩) Na Na], .slice B nx cap] false 0 [] W from fun gA B cap W _ _ => haz gA B cap W)
   have HRZ := Lib.hid (show ∀ gA B cap W, nx ≤ cap → cap ≤ maxLen → Lw W gA (enc za) → OB W B zx → RetA Tryz.prog 47 #[.agg #[.int .i64 (r : Int), .int .i64 (k : Int), .slice (some ⟨gA, 0, none⟩) Na Na], .slice B nx cap] false 0 [] W from fun gA B cap W _ _ => hrz gA B cap W)
   unfold RetA at HAZ HRZ
   have HLN := Lib.hid (show ∀ A B ca cb W, RdW W A [] → RdW W B [] → Calls Tryz.prog 48 #[.slice A 0 ca, .slice B 0 cb] W fun e w' => e = .returned (.bool true) ∧ Below W.heap.size W w' from fun A B ca cb W h1 h2 => by
    have h := rLists_any A B 0 0 ca cb [] [] W h1 h2 rfl rfl (by omega) (by omega)
    rw [decide_eq_true rfl] at h
    exact h)
   clear hKx hKs hLg hm1 hput hbad haz hrz HB HK3
   have x0 := HK4.out.cell 2 1 rfl rfl
   have hsly := HSLY.out
   have hminy := HMINY.out
   go_wp2_with fail
   clear hsly hminy x0 e1 f1 r0 r0'
   change Calls _ _ _ (V4.setCell ⟨g, m1 * 2 + 1, none⟩ (.string (⟨#[0]⟩ ++ s1))) _
   generalize V4.setCell ⟨g, m1 * 2 + 1, none⟩ (.string (⟨#[0]⟩ ++ s1)) = W5 at *
   with_reducible refine (HNYC.out _ (HRDL.out _ _ HK4.out)).mono ?_
   rintro e V5 ⟨By, cy, rfl, hcy1, hcy2, hoy, _, hb⟩
   have HK5 := Lib.hid (HK4.out.step hb)
   have HOX := Lib.hid (OB.below HOB.out hb)
   have HOY := Lib.hid hoy
   clear hoy hb HOB HK4
   have x0 := HK5.out.cell 2 0 rfl rfl
   have x1 := HK5.out.cell 2 1 rfl rfl
   have x2 := HK5.out.cell 2 2 rfl rfl
   go_wp2_with fail
   have hxa : Lw V5 g1 (enc za) := HK5.out.at_ 1 rfl
   with_reducible refine (HAZ.out g1 (some ⟨g, 0, none⟩) cx _ hcx1 hcx2 hxa HOX.out).mono ?_
   rintro e V6 ⟨P1, cP1, rfl, hrd, hb⟩
   have HK6 := Lib.hid (HK5.out.step hb)
   have HOX6 := Lib.hid (OB.below HOX.out hb)
   have HOY6 := Lib.hid (OB.below HOY.out hb)
   have HP1 := Lib.hid hrd
   clear HOX HOY
   have HOX := HOX6
   have HOY := HOY6
   clear hrd hb hxa x0 x1 x2 HK5 HOX6 HOY6
   have x0 := HK6.out.cell 2 0 rfl rfl
   have x1 := HK6.out.cell 2 1 rfl rfl
   have x2 := HK6.out.cell 2 2 rfl rfl
   go_wp2_with fail
   have hxa : Lw V6 g1 (enc za) := HK6.out.at_ 1 rfl
   with_reducible refine (HRZ.out g1 (some ⟨g, 0, none⟩) cx _ hcx1 hcx2 hxa HOX.out).mono ?_
   rintro e V7 ⟨P2, cP2, rfl, hrd, hb⟩
   have HK7 := Lib.hid (HK6.out.step hb)
   have HOX7 := Lib.hid (OB.below HOX.out hb)
   have HOY7 := Lib.hid (OB.below HOY.out hb)
   have HP2 := Lib.hid hrd
   have HP1b := Lib.hid (HP1.out.below hb)
   clear HP1
   clear HOX HOY
   have HOX := HOX7
   have HOY := HOY7
   clear hrd hb hxa x0 x1 x2 HK6 HOX7 HOY7
   have x0 := HK7.out.cell 2 0 rfl rfl
   have x1 := HK7.out.cell 2 1 rfl rfl
   have x2 := HK7.out.cell 2 2 rfl rfl
   go_wp2_with fail
   have hxa : Lw V7 g1 (enc za) := HK7.out.at_ 1 rfl
   with_reducible refine (HAY.out g1 By cy _ hcy1 hcy2 hxa HOY.out).mono ?_
   rintro e V8 ⟨P3, cP3, rfl, hrd, hb⟩
   have HK8 := Lib.hid (HK7.out.step hb)
   have HOX8 := Lib.hid (OB.below HOX.out hb)
   have HOY8 := Lib.hid (OB.below HOY.out hb)
   have HP3 := Lib.hid hrd
   have HP2b := Lib.hid (HP2.out.below hb)
   have HP1c := Lib.hid (HP1b.out.below hb)
   clear HP2 HP1b
   clear HOX HOY
   have HOX := HOX8
   have HOY := HOY8
   clear hrd hb hxa x0 x1 x2 HK7 HOX8 HOY8
   have x0 := HK8.out.cell 2 0 rfl rfl
   have x1 := HK8.out.cell 2 1 rfl rfl
   have x2 := HK8.out.cell 2 2 rfl rfl
   go_wp2_with fail
   have hxa : Lw V8 g1 (enc za) := HK8.out.at_ 1 rfl
   with_reducible refine (HMY.out g1 By cy _ hcy1 hcy2 hxa HOY.out).mono ?_
   rintro e V9 ⟨P4, cP4, rfl, hrd, hb⟩
   have HK9 := Lib.hid (show Kg none w (V9.alloc (mrow ry cy_ P4 Ny cP4)) [some (w.heap.size, .cells #[.int .u8 (R1 : Int), .int .u8 (C1 : Int), .slice A1 n1 c1] 38 (0, 0)), some (g1, lwO (enc (za))), some (b3, .cells #[.int .i64 (r : Int), .int .i64 (k : Int), .slice (some ⟨g1, 0, none⟩) Na Na] 28 (0, 0)), some (V9.heap.size, mrow ry cy_ P4 Ny cP4)] from (HK8.out.step hb).more (mrow ry cy_ P4 Ny cP4))
   have HQ1 := Lib.hid ((HP1c.out.below hb).below ((Below.refl _ _).alloc (Nat.le_refl _) (mrow ry cy_ P4 Ny cP4)))
   have HQ2 := Lib.hid ((HP2b.out.below hb).below ((Below.refl _ _).alloc (Nat.le_refl _) (mrow ry cy_ P4 Ny cP4)))
   have HQ3 := Lib.hid ((HP3.out.below hb).below ((Below.refl _ _).alloc (Nat.le_refl _) (mrow ry cy_ P4 Ny cP4)))
   have HQ4 := Lib.hid (RdW.below hrd ((Below.refl _ _).alloc (Nat.le_refl _) (mrow ry cy_ P4 Ny cP4)))
   clear hrd hb hxa x0 x1 x2 HK8 HP1c HP2b HP3 HOX HOY
   go_wp2_with fail
   change Calls _ _ _ (V9.alloc (mrow ry cy_ P4 Ny cP4)) _
   generalize V9.alloc (mrow ry cy_ P4 Ny cP4) = W10 at *
   generalize V9.heap.size = b10 at *
   with_reducible refine (HLN.out P1 P2 cP1 cP2 _ HQ1.out HQ2.out).mono ?_
   rintro e V10 ⟨rfl, hb⟩
   have HK10 := Lib.hid (HK9.out.step hb)
   have HR3 := Lib.hid (HQ3.out.below hb)
   have HR4 := Lib.hid (HQ4.out.below hb)
   clear hb HQ1 HQ2 HQ3 HQ4 HK9
   have x0 := HK10.out.cell 3 2 rfl rfl
   go_wp2_with fail
   with_reducible refine (HLY.out P3 P4 cP3 cP4 _ HR3.out HR4.out).mono ?_
   rintro e V11 ⟨rfl, hb⟩
   have HK11 := Lib.hid (HK10.out.step hb)
   clear hb HR3 HR4 HK10 x0
   have x0 := HK11.out.cell 2 1 rfl rfl
   have hy3 := HY3.out
   by_cases hk9 : ny = k
   ·have e9 : ((ny : Int) == (k : Int)) = true := by rw [beq_iff_eq]; omega
    rw [decide_eq_true hk9] at hy3
    subst hy3
    go_wp2
    go_ret
    exact ⟨by simp, Kg.below_ HK11.out⟩
   ·have e9 : ((ny : Int) == (k : Int)) = false := by rw [beq_eq_false_iff_ne]; omega
    rw [decide_eq_false hk9] at hy3
    subst hy3
    go_wp2
    go_ret
    exact ⟨by simp, Kg.below_ HK11.out⟩
  ·have q5 : (t == 5) = false := by rw [beq_eq_false_iff_ne]; exact h5
   clear HK3 HGX
   have x0 := HK4.out.cell 2 1 rfl rfl
   have hsly := HSLY.out
   have hminy := HMINY.out
   go_wp2_with fail
   clear hsly hminy x0
   with_reducible refine (HNYC.out _ (HRDL.out _ _ HK4.out)).mono ?_
   rintro e V5 ⟨By, cy, rfl, hcy1, hcy2, hoy, _, hb⟩
   have HK5 := Lib.hid (HK4.out.step hb)
   have HOX := Lib.hid (OB.below HOB.out hb)
   have HOY := Lib.hid hoy
   clear hoy hb HOB HK4 HB
   have x0 := HK5.out.cell 2 0 rfl rfl
   have x1 := HK5.out.cell 2 1 rfl rfl
   have x2 := HK5.out.cell 2 2 rfl rfl
   go_wp2_with fail
   have hxa : Lw V5 g1 (enc za) := HK5.out.at_ 1 rfl
   with_reducible refine (HAX.out g1 Bx cx _ hcx1 hcx2 hxa HOX.out).mono ?_
   rintro e V6 ⟨P1, cP1, rfl, hrd, hb⟩
   have HK6 := Lib.hid (HK5.out.step hb)
   have HOX6 := Lib.hid (OB.below HOX.out hb)
   have HOY6 := Lib.hid (OB.below HOY.out hb)
   have HP1 := Lib.hid hrd
   clear HOX HOY
   have HOX := HOX6
   have HOY := HOY6
   clear hrd hb hxa x0 x1 x2 HK5 HOX6 HOY6
   have x0 := HK6.out.cell 2 0 rfl rfl
   have x1 := HK6.out.cell 2 1 rfl rfl
   have x2 := HK6.out.cell 2 2 rfl rfl
   go_wp2_with fail
   have hxa : Lw V6 g1 (enc za) := HK6.out.at_ 1 rfl
   with_reducible refine (HRX.out g1 Bx cx _ hcx1 hcx2 hxa HOX.out).mono ?_
   rintro e V7 ⟨P2, cP2, rfl, hrd, hb⟩
   have HK7 := Lib.hid (HK6.out.step hb)
   have HOX7 := Lib.hid (OB.below HOX.out hb)
   have HOY7 := Lib.hid (OB.below HOY.out hb)
   have HP2 := Lib.hid hrd
   have HP1b := Lib.hid (HP1.out.below hb)
   clear HP1
   clear HOX HOY
   have HOX := HOX7
   have HOY := HOY7
   clear hrd hb hxa x0 x1 x2 HK6 HOX7 HOY7
   have x0 := HK7.out.cell 2 0 rfl rfl
   have x1 := HK7.out.cell 2 1 rfl rfl
   have x2 := HK7.out.cell 2 2 rfl rfl
   go_wp2_with fail
   have hxa : Lw V7 g1 (enc za) := HK7.out.at_ 1 rfl
   with_reducible refine (HAY.out g1 By cy _ hcy1 hcy2 hxa HOY.out).mono ?_
   rintro e V8 ⟨P3, cP3, rfl, hrd, hb⟩
   have HK8 := Lib.hid (HK7.out.step hb)
   have HOX8 := Lib.hid (OB.below HOX.out hb)
   have HOY8 := Lib.hid (OB.below HOY.out hb)
   have HP3 := Lib.hid hrd
   have HP2b := Lib.hid (HP2.out.below hb)
   have HP1c := Lib.hid (HP1b.out.below hb)
   clear HP2 HP1b
   clear HOX HOY
   have HOX := HOX8
   have HOY := HOY8
   clear hrd hb hxa x0 x1 x2 HK7 HOX8 HOY8
   have x0 := HK8.out.cell 2 0 rfl rfl
   have x1 := HK8.out.cell 2 1 rfl rfl
   have x2 := HK8.out.cell 2 2 rfl rfl
   go_wp2_with fail
   have hxa : Lw V8 g1 (enc za) := HK8.out.at_ 1 rfl
   with_reducible refine (HMY.out g1 By cy _ hcy1 hcy2 hxa HOY.out).mono ?_
   rintro e V9 ⟨P4, cP4, rfl, hrd, hb⟩
   have HK9 := Lib.hid (show Kg none w (V9.alloc (mrow ry cy_ P4 Ny cP4)) [some (w.heap.size, .cells #[.int .u8 (R1 : Int), .int .u8 (C1 : Int), .slice A1 n1 c1] 38 (0, 0)), some (g1, lwO (enc (za))), some (b3, .cells #[.int .i64 (r : Int), .int .i64 (k : Int), .slice (some ⟨g1, 0, none⟩) Na Na] 28 (0, 0)), some (V9.heap.size, mrow ry cy_ P4 Ny cP4)] from (HK8.out.step hb).more (mrow ry cy_ P4 Ny cP4))
   have HQ1 := Lib.hid ((HP1c.out.below hb).below ((Below.refl _ _).alloc (Nat.le_refl _) (mrow ry cy_ P4 Ny cP4)))
   have HQ2 := Lib.hid ((HP2b.out.below hb).below ((Below.refl _ _).alloc (Nat.le_refl _) (mrow ry cy_ P4 Ny cP4)))
   have HQ3 := Lib.hid ((HP3.out.below hb).below ((Below.refl _ _).alloc (Nat.le_refl _) (mrow ry cy_ P4 Ny cP4)))
   have HQ4 := Lib.hid (RdW.below hrd ((Below.refl _ _).alloc (Nat.le_refl _) (mrow ry cy_ P4 Ny cP4)))
   clear hrd hb hxa x0 x1 x2 HK8 HP1c HP2b HP3 HOX HOY
   go_wp2_with fail
   change Calls _ _ _ (V9.alloc (mrow ry cy_ P4 Ny cP4)) _
   generalize V9.alloc (mrow ry cy_ P4 Ny cP4) = W10 at *
   generalize V9.heap.size = b10 at *
   with_reducible refine (HLX.out P1 P2 cP1 cP2 _ HQ1.out HQ2.out).mono ?_
   rintro e V10 ⟨rfl, hb⟩
   have HK10 := Lib.hid (HK9.out.step hb)
   have HR3 := Lib.hid (HQ3.out.below hb)
   have HR4 := Lib.hid (HQ4.out.below hb)
   clear hb HQ1 HQ2 HQ3 HQ4 HK9
   have x0 := HK10.out.cell 3 2 rfl rfl
   go_wp2_with fail
   with_reducible refine (HLY.out P3 P4 cP3 cP4 _ HR3.out HR4.out).mono ?_
   rintro e V11 ⟨rfl, hb⟩
   have HK11 := Lib.hid (HK10.out.step hb)
   clear hb HR3 HR4 HK10 x0
   have x0 := HK11.out.cell 2 1 rfl rfl
   have hy3 := HY3.out
   by_cases hk9 : ny = k
   ·have e9 : ((ny : Int) == (k : Int)) = true := by rw [beq_iff_eq]; omega
    rw [decide_eq_true hk9] at hy3
    subst hy3
    go_wp2
    go_ret
    exact ⟨by simp, Kg.below_ HK11.out⟩
   ·have e9 : ((ny : Int) == (k : Int)) = false := by rw [beq_eq_false_iff_ne]; omega
    rw [decide_eq_false hk9] at hy3
    subst hy3
    go_wp2
    go_ret
    exact ⟨by simp, Kg.below_ HK11.out⟩
 ·have d7 : decide ((nx : Int) > 0) = false := by rw [decide_eq_false_iff_not]; omega
  have HK4 := Lib.hid (HK3.out.step HB.out)
  clear HK3 HGX
  have x0 := HK4.out.cell 2 1 rfl rfl
  have hsly := HSLY.out
  have hminy := HMINY.out
  go_wp2_with fail
  clear hsly hminy x0
  with_reducible refine (HNYC.out _ (HRDL.out _ _ HK4.out)).mono ?_
  rintro e V5 ⟨By, cy, rfl, hcy1, hcy2, hoy, _, hb⟩
  have HK5 := Lib.hid (HK4.out.step hb)
  have HOX := Lib.hid (OB.below HOB.out hb)
  have HOY := Lib.hid hoy
  clear hoy hb HOB HK4 HB
  have x0 := HK5.out.cell 2 0 rfl rfl
  have x1 := HK5.out.cell 2 1 rfl rfl
  have x2 := HK5.out.cell 2 2 rfl rfl
  go_wp2_with fail
  have hxa : Lw V5 g1 (enc za) := HK5.out.at_ 1 rfl
  with_reducible refine (HAX.out g1 Bx cx _ hcx1 hcx2 hxa HOX.out).mono ?_
  rintro e V6 ⟨P1, cP1, rfl, hrd, hb⟩
  have HK6 := Lib.hid (HK5.out.step hb)
  have HOX6 := Lib.hid (OB.below HOX.out hb)
  have HOY6 := Lib.hid (OB.below HOY.out hb)
  have HP1 := Lib.hid hrd
  clear HOX HOY
  have HOX := HOX6
  have HOY := HOY6
  clear hrd hb hxa x0 x1 x2 HK5 HOX6 HOY6
  have x0 := HK6.out.cell 2 0 rfl rfl
  have x1 := HK6.out.cell 2 1 rfl rfl
  have x2 := HK6.out.cell 2 2 rfl rfl
  go_wp2_with fail
  have hxa : Lw V6 g1 (enc za) := HK6.out.at_ 1 rfl
  with_reducible refine (HRX.out g1 Bx cx _ hcx1 hcx2 hxa HOX.out).mono ?_
  rintro e V7 ⟨P2, cP2, rfl, hrd, hb⟩
  have HK7 := Lib.hid (HK6.out.step hb)
  have HOX7 := Lib.hid (OB.below HOX.out hb)
  have HOY7 := Lib.hid (OB.below HOY.out hb)
  have HP2 := Lib.hid hrd
  have HP1b := Lib.hid (HP1.out.below hb)
  clear HP1
  clear HOX HOY
  have HOX := HOX7
  have HOY := HOY7
  clear hrd hb hxa x0 x1 x2 HK6 HOX7 HOY7
  have x0 := HK7.out.cell 2 0 rfl rfl
  have x1 := HK7.out.cell 2 1 rfl rfl
  have x2 := HK7.out.cell 2 2 rfl rfl
  go_wp2_with fail
  have hxa : Lw V7 g1 (enc za) := HK7.out.at_ 1 rfl
  with_reducible refine (HAY.out g1 By cy _ hcy1 hcy2 hxa HOY.out).mono ?_
  rintro e V8 ⟨P3, cP3, rfl, hrd, hb⟩
  have HK8 := Lib.hid (HK7.out.step hb)
  have HOX8 := Lib.hid (OB.below HOX.out hb)
  have HOY8 := Lib.hid (OB.below HOY.out hb)
  have HP3 := Lib.hid hrd
  have HP2b := Lib.hid (HP2.out.below hb)
  have HP1c := Lib.hid (HP1b.out.below hb)
  clear HP2 HP1b
  clear HOX HOY
  have HOX := HOX8
  have HOY := HOY8
  clear hrd hb hxa x0 x1 x2 HK7 HOX8 HOY8
  have x0 := HK8.out.cell 2 0 rfl rfl
  have x1 := HK8.out.cell 2 1 rfl rfl
  have x2 := HK8.out.cell 2 2 rfl rfl
  go_wp2_with fail
  have hxa : Lw V8 g1 (enc za) := HK8.out.at_ 1 rfl
  with_reducible refine (HMY.out g1 By cy _ hcy1 hcy2 hxa HOY.out).mono ?_
  rintro e V9 ⟨P4, cP4, rfl, hrd, hb⟩
  have HK9 := Lib.hid (show Kg none w (V9.alloc (mrow ry cy_ P4 Ny cP4)) [some (w.heap.size, .cells #[.int .u8 (R1 : Int), .int .u8 (C1 : Int), .slice A1 n1 c1] 38 (0, 0)), some (g1, lwO (enc (za))), some (b3, .cells #[.int .i64 (r : Int), .int .i64 (k : Int), .slice (some ⟨g1, 0, none⟩) Na Na] 28 (0, 0)), some (V9.heap.size, mrow ry cy_ P4 Ny cP4)] from (HK8.out.step hb).more (mrow ry cy_ P4 Ny cP4))
  have HQ1 := Lib.hid ((HP1c.out.below hb).below ((Below.refl _ _).alloc (Nat.le_refl _) (mrow ry cy_ P4 Ny cP4)))
  have HQ2 := Lib.hid ((HP2b.out.below hb).below ((Below.refl _ _).alloc (Nat.le_refl _) (mrow ry cy_ P4 Ny cP4)))
  have HQ3 := Lib.hid ((HP3.out.below hb).below ((Below.refl _ _).alloc (Nat.le_refl _) (mrow ry cy_ P4 Ny cP4)))
  have HQ4 := Lib.hid (RdW.below hrd ((Below.refl _ _).alloc (Nat.le_refl _) (mrow ry cy_ P4 Ny cP4)))
  clear hrd hb hxa x0 x1 x2 HK8 HP1c HP2b HP3 HOX HOY
  go_wp2_with fail
  change Calls _ _ _ (V9.alloc (mrow ry cy_ P4 Ny cP4)) _
  generalize V9.alloc (mrow ry cy_ P4 Ny cP4) = W10 at *
  generalize V9.heap.size = b10 at *
  with_reducible refine (HLX.out P1 P2 cP1 cP2 _ HQ1.out HQ2.out).mono ?_
  rintro e V10 ⟨rfl, hb⟩
  have HK10 := Lib.hid (HK9.out.step hb)
  have HR3 := Lib.hid (HQ3.out.below hb)
  have HR4 := Lib.hid (HQ4.out.below hb)
  clear hb HQ1 HQ2 HQ3 HQ4 HK9
  have x0 := HK10.out.cell 3 2 rfl rfl
  go_wp2_with fail
  with_reducible refine (HLY.out P3 P4 cP3 cP4 _ HR3.out HR4.out).mono ?_
  rintro e V11 ⟨rfl, hb⟩
  have HK11 := Lib.hid (HK10.out.step hb)
  clear hb HR3 HR4 HK10 x0
  have x0 := HK11.out.cell 2 1 rfl rfl
  have hy3 := HY3.out
  by_cases hk9 : ny = k
  ·have e9 : ((ny : Int) == (k : Int)) = true := by rw [beq_iff_eq]; omega
   rw [decide_eq_true hk9] at hy3
   subst hy3
   go_wp2
   go_ret
   exact ⟨by simp, Kg.below_ HK11.out⟩
  ·have e9 : ((ny : Int) == (k : Int)) = false := by rw [beq_eq_false_iff_ne]; omega
   rw [decide_eq_false hk9] at hy3
   subst hy3
   go_wp2
   go_ret
   exact ⟨by simp, Kg.below_ HK11.out⟩
end Go.Proofs.YtknaghdoffigjaaGreatDoor
