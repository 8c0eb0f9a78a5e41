import Derived.Test.YtknaghdoffigjaaGreatDoorZMPrimes
set_option linter.unusedSimpArgs false
set_option linter.unusedVariables false
set_option linter.unnecessarySimpa false
namespace Go.Proofs.YtknaghdoffigjaaGreatDoor
open Go.RowKit Go
attribute [local go_sem] Oper.semAt_some
theorem results_wide_tmp {fn : Func} {tmps : Array Value} {w : World} {p u : Tmp} {b : Nat} {x : Bool} {s : ByteArray} (h : fn.results = #[.cell p 32, .tmp u])
  (ht : tmps.getD p undef = .pointer (some ⟨b, 0, none⟩)) (hw : Wd w b x s) : (results fn tmps).run Tryz.prog w = .ok (.tuple #[.agg #[.bool x, .string s], tmps.getD u undef]) w := by
 have := hw.load
 rw [Array.getD_eq_getD_getElem?] at ht
 simp only [results, h]
 simp [Sem.run_bind, Result.andThen, ht, asAddr, this]
theorem refL_one (p iv : Nat) (M v : Int) (d : Nat) : refL p iv M [v] [d] = [refV p iv M v d] := rfl
set_option maxRecDepth 100000 in
set_option maxHeartbeats 4000000 in
theorem Det_any (gA NN n cap S K : Nat) (pl : List Nat) (zs : List Int) (w : World) (hpl : PL pl) (hA : Lw w gA (enc zs)) (hlen : zs.length = n * n) (hn : n ≤ 200) (hN : NN = n * n) (hcap : NN ≤ cap) (hcapm : cap ≤ maxLen) (hS : S ≤ 800) (hz : ∀ j, (zs.getD j 0).natAbs < 256 ^ S)
  (hr : mright n n (enc zs) = true) (hK1 : 1 ≤ K) (hK2 : K ≤ 200) (hKl : K ≤ pl.length) (hlim : ∀ j, 0 < j → j < K → limV pl (4 * bnd zs n n) j ≠ 0) (hlimK : limV pl (4 * bnd zs n n) K = 0) (hTz : Tz w) :
  Calls Tryz.prog 26 #[mat n n (some ⟨gA, 0, none⟩) NN cap] w fun e w' => e = .returned (.tuple #[.agg #[.bool (wneg (detV pl n zs K)), .string (wmag (detV pl n zs K))], .bool true]) ∧ Below w.heap.size w w' := by
 have hn2 : n * n ≤ 40000 := Nat.le_trans (Nat.mul_le_mul hn hn) (by omega)
 have hisq := fun W hW => isSquare_any (n : Int) (n : Int) (some ⟨gA, 0, none⟩) NN cap (enc zs) W hW (by rw [enc_length, hlen, hN]) (by omega)
 have hf4 := fun W => From_any 4 W (by omega) (by omega)
 rw [wv_def] at hf4
 have hsq := fun W hW => squareOfBound_any gA NN n cap S zs W hW hlen hn hN hcap hcapm (by omega) hz
 have szb := wmag_size (bnd zs n n) ((S + S + 2) * n + 1) (pow_le_lt (bnd_pow zs n S hz (by omega) n) (by omega))
 have hszn : (S + S + 2) * n ≤ 1602 * 200 := Nat.mul_le_mul (by omega) hn
 have hmul4 := fun W => Mul_any (wneg 4) (wneg (bnd zs n n)) (wmag 4) (wmag (bnd zs n n)) W (by have := wmag_size 4 7 (by rw [pow7]; decide); omega) (by omega)
 rw [wint_wv', wint_wv', wv_def] at hmul4
 have hl0 : 0 ≤ 4 * bnd zs n n := Int.mul_nonneg (by omega) (bnd_nonneg zs n n)
 have szl : ∀ k, (wmag (limV pl (4 * bnd zs n n) k)).size ≤ (S + S + 2) * n + 1 + 7 := fun k => by
  have h1 := limV_bounds pl _ hl0 k
  refine wmag_size _ _ (Nat.lt_of_le_of_lt (show (limV pl (4 * bnd zs n n) k).natAbs ≤ (4 * bnd zs n n).natAbs by omega) ?_)
  rw [Int.natAbs_mul, Nat.mul_comm, Nat.pow_add]
  exact Nat.mul_lt_mul'' (pow_le_lt (bnd_pow zs n S hz (by omega) n) (by omega)) (by rw [pow7]; decide)
 have hprm := fun k (hk : k < K) => hpl.prm k (by omega)
 have hest := fun W => (show Calls Tryz.prog 66 #[.int .i64 1] W _ from newEstimate_any 1 W (by omega))
 have hlimlen : (resid 0 zs).length = zs.length := resid_length 0 zs
 generalize hl0e : 4 * bnd zs n n = l0 at *
 -- the calls of round k
 have hmod := fun (k : Nat) (hk : k < K) W => newModulus_any (pl.getD k 0) W (by have := hprm k hk; omega) (hprm k hk).2
 have hconv := fun (k : Nat) (hk : k < K) W hW => convert_residue (some ⟨gA, 0, none⟩) NN cap (pl.getD k 0) zs W hW (by rw [hlen, hN]) (by omega) (by have := hprm k hk; omega) (hprm k hk).2 (fun j _ => Nat.le_trans (wmag_size _ _ (hz j)) (by omega))
 have hred := fun (k : Nat) (hk : k < K) g W hW => mreduce_any g n n (pl.getD k 0) NN NN (resid (pl.getD k 0) zs) W hW (by rw [resid_length]; exact hlen) (Nat.le_refl _) (by omega) (by omega) (by omega) (by have := hprm k hk; omega) (hprm k hk).2 (resid_lt _ zs (by have := hprm k hk; omega))
 have hrefi := fun (k : Nat) (hk : k < K) bs gV gs W hE hV hR => refine_any bs gV (pl.getD k 0) 1 1 1 1 (some ⟨gs, 0, none⟩) [detV pl n zs k] [detR n n (pl.getD k 0) (resid (pl.getD k 0) zs)] (estM pl k) W hE hV rfl hR rfl (Nat.le_refl _) (by omega) (by have := hprm k hk; omega) (hprm k hk).2
  (fun j => by
   have h1 := detR_lt n n (pl.getD k 0) (resid (pl.getD k 0) zs) (by have := hprm k hk; omega)
   match j with
   | 0 => exact h1
   | j + 1 => exact (show 0 < pl.getD k 0 by have := hprm k hk; omega))
  (fun j hj => by
   have h1 := detV_size pl n zs k (by omega) (fun i hi => by have := hprm i (by omega); omega)
   match j, hj with
   | 0, _ => exact Nat.le_trans h1 (by omega))
  (Nat.le_trans (estM_size pl k (fun i hi => (hprm i (by omega)).2)) (by omega))
 have hpp : ∀ k, k < K → 0 < (pl.getD k 0) * (pl.getD k 0) ∧ (pl.getD k 0) * (pl.getD k 0) ≤ 2147483648 * 2147483648 := fun k hk => by
  have := hprm k hk
  exact ⟨Nat.mul_pos (by omega) (by omega), Nat.mul_le_mul (by omega) (by omega)⟩
 have hfp := fun (k : Nat) (hk : k < K) W => From_any (((pl.getD k 0) * (pl.getD k 0) : Nat) : Int) W (by omega) (by have := hpp k hk; omega)
 have hquo := fun (k : Nat) (hk : k < K) W => Quo_any (wneg (limV pl l0 k)) (wneg (((pl.getD k 0) * (pl.getD k 0) : Nat) : Int)) (wmag (limV pl l0 k)) (wmag (((pl.getD k 0) * (pl.getD k 0) : Nat) : Int)) W (by have := szl k; omega)
  (by have := wmag_size (((pl.getD k 0) * (pl.getD k 0) : Nat) : Int) 8 (by have := hpp k hk; rw [show (256 : Nat) ^ 8 = 18446744073709551616 from rfl]; omega); omega)
  (by rw [wint_wv']; have := hpp k hk; omega)
 have hsgn := fun (k : Nat) W => Sign_any (wneg (limV pl l0 k)) (wmag (limV pl l0 k)) W (by have := szl k; unfold maxLen; omega)
 simp only [wint_wv', wv_def] at hfp hquo hsgn
 have hbv : 0 < NN → 0 < NN := fun h => h
 unfold mat mmod at *
 have HPL := Lib.hid hpl
 have HISQ := Lib.hid hisq
 have HF4 := Lib.hid hf4
 have HSQ := Lib.hid hsq
 have HM4 := Lib.hid hmul4
 have HEST := Lib.hid hest
 have HMOD := Lib.hid hmod
 have HCONV := Lib.hid hconv
 have HRED := Lib.hid hred
 have HREF := Lib.hid hrefi
 have HFP := Lib.hid hfp
 have HQUO := Lib.hid hquo
 have HSGN := Lib.hid hsgn
 have HPP := Lib.hid hpp
 have HPRM := Lib.hid hprm
 have HA := Lib.hid hA
 have HN := Lib.hid hN
 have HLEN := Lib.hid hlen
 have HR := Lib.hid hr
 have HLIM := Lib.hid hlim
 have HLIMK := Lib.hid hlimK
 have HL0 := Lib.hid hl0e
 have hgA := heap_lt hA
 clear hpl hisq hf4 hsq hmul4 hest hmod hconv hred hrefi hfp hquo hsgn hpp hprm hA hN hlen hr hlim hlimK hl0e szb hszn hl0 szl hlimlen hbv hz
 obtain ⟨res, hres⟩ : ∃ res, res = detV pl n zs K := ⟨_, rfl⟩
 rw [← hres]
 have HRES := Lib.hid hres
 clear hres
 refine (callsIn_wide (n := 0)).1 ?_
 refine callsIn_of_wp_marks Tryz.func26 rfl trivial ?_ rfl
 simp only [Tryz.ntmps26, List.size_toArray, List.length_cons, List.length_nil, Nat.reduceAdd, Nat.reduceSub, Array.replicate_succ, Array.replicate_zero, List.push_toArray, List.append_toArray, List.nil_append, List.cons_append]
 have hK1' := (Kg.none_ none w 2).new 0 (mrow n n (some ⟨gA, 0, none⟩) NN cap) rfl
 have hK2' := (hK1'.new 1 (wbox false ⟨#[]⟩) rfl).cast (l' := [some (w.heap.size, mrow n n (some ⟨gA, 0, none⟩) NN cap), some (w.heap.size + 1, wbox false ⟨#[]⟩)]) (by simp)
 have hAs : ∀ W l, Kg none w W l → Lw W gA (enc zs) := fun W l h => (h.1.block gA hgA (by simp)).trans HA.out
 have HAS := Lib.hid hAs
 have HK2 := Lib.hid hK2'
 have c0 := hK2'.cell 0 0 rfl rfl
 have c1 := hK2'.cell 0 1 rfl rfl
 have c2 := hK2'.cell 0 2 rfl rfl
 clear hK1' hK2' hAs
 gi_wp2_with fail
 change _ ∧ _ ∧ CallsIn _ _ _ _ _ ((w.alloc (mrow n n (some ⟨gA, 0, none⟩) NN cap)).alloc (wbox false ⟨#[]⟩)) _
 generalize (w.alloc (mrow n n (some ⟨gA, 0, none⟩) NN cap)).alloc (wbox false ⟨#[]⟩) = W2 at *
 refine ⟨trivial, rfl, ?_⟩
 with_reducible refine (callsIn_wide.2 (HISQ.out _ (HAS.out _ _ HK2.out).rdw)).mono ?_
 rintro e w1 ⟨rfl, hb1⟩
 have HK3 := Lib.hid (HK2.out.step hb1)
 clear c0 c1 c2 hb1
 rw [HR.out]
 have hsqt : (true && (n : Int) == (n : Int)) = true := by simp
 rw [hsqt]
 gi_wp2_with fail
 refine wpIn_region_facts (X := Nat) (fun x => [(0, 13, .agg #[.bool (wneg 4), .string (wmag 4)]), (1, 14, .agg #[.int .i64 (n : Int), .int .i64 (n : Int), .slice (some ⟨gA, 0, none⟩) NN cap]), (2, 15, .agg #[.bool (wneg (bnd zs n n)), .string (wmag (bnd zs n n))]), (3, 16, .agg #[.bool (wneg l0), .string (wmag l0)]), (4, 4, .pointer (some ⟨x, 0, none⟩))])
  (fun x L W => Kg none w W [some (w.heap.size, mrow n n (some ⟨gA, 0, none⟩) NN cap), some (w.heap.size + 1, wbox false ⟨#[]⟩), entW (L 5) (L 4) x (wneg l0) (wmag l0)]) (by kernel_rfl) (by kernel_rfl) 0 HK3.out.drew.room (by kernel_rfl) ?_ ?_
 ·repeat' (first | exact FactStepsIn.nil | refine FactStepsIn.cons ?_ ?_)
  all_goals
   intro L x wx hJ hl hd hs K hK
   (try simp [Region.binds] at hd)
   have e0 := hJ.cell 0 0 rfl rfl
   have e1 := hJ.cell 0 1 rfl rfl
   have e2 := hJ.cell 0 2 rfl rfl
   simp only [selA, selT_cons, selT_nil, List.set_cons_zero, List.set_cons_succ, List.getD_cons_zero, List.getD_cons_succ, hd, hl, selV_true, selV_false]
  ·go_simp
   refine ⟨trivial, rfl, ?_⟩
   with_reducible refine (callsIn_wide.2 (HF4.out _)).mono ?_
   rintro e v ⟨rfl, hb⟩
   refine hK.out x _ _ ?_ ?_
   ·simp [selA, selT_cons, selT_nil, hl, hd, selV_true, selV_false]
   ·simpa [hl] using hJ.step hb
  ·go_simp
   refine hK.out x _ _ ?_ ?_
   ·simp [selA, selT_cons, selT_nil, hl, hd, selV_true, selV_false]
   ·simpa [hl] using hJ
  ·go_simp
   refine ⟨trivial, rfl, ?_⟩
   with_reducible refine (callsIn_wide.2 (HSQ.out _ (HAS.out _ _ hJ))).mono ?_
   rintro e v ⟨rfl, hb⟩
   refine hK.out x _ _ ?_ ?_
   ·simp [selA, selT_cons, selT_nil, hl, hd, selV_true, selV_false]
   ·simpa [hl] using hJ.step hb
  ·go_simp
   refine ⟨trivial, rfl, ?_⟩
   with_reducible refine (callsIn_wide.2 (HM4.out _)).mono ?_
   rintro e v ⟨rfl, hb⟩
   refine hK.out x _ _ ?_ ?_
   ·simp [selA, selT_cons, selT_nil, hl, hd, selV_true, selV_false]
   ·simpa [hl] using hJ.step hb
  ·have hn := hs 5 _ rfl (by simp [Region.binds])
   go_simp
   refine hK.out wx.heap.size _ _ ?_ ?_
   ·simp [selA, selT_cons, selT_nil, hl, hd, hn, selV_true, selV_false]
   ·refine Kg.cast (hJ.new 2 (wbox false ⟨#[]⟩) (by simp [hl, entW_no])) ?_
    simp [hn, entW_new]
  ·have hJ2 := hJ
   simp only [hl, hd, entW_new] at hJ2
   have f0 := hJ2.frozen 2 0 rfl
   have f1 := hJ2.frozen 2 1 rfl
   have d0 := hJ2.cell 2 0 rfl rfl
   have d1 := hJ2.cell 2 1 rfl rfl
   go_simp
   refine hK.out x _ _ ?_ ?_
   ·simp [selA, selT_cons, selT_nil, hl, hd, selV_true, selV_false]
   ·refine Kg.cast ((hJ2.put 2 0 rfl _).put 2 1 rfl _) ?_
    simp [hd, entW_full, wbox]
 ·rintro b4 W4 hK4
  simp only [selA, selT_cons, selT_nil, List.set_cons_zero, List.set_cons_succ, List.getD_cons_zero, List.getD_cons_succ, selV_true]
  simp only [entW_full] at hK4
  have HK4 := Lib.hid hK4
  clear hK4 HK3 HK2
  gi_wp2_with fail
  refine ⟨trivial, rfl, ?_⟩
  with_reducible refine (callsIn_wide.2 (HEST.out _)).mono ?_
  rintro e w5 ⟨gk0, rfl, hgk, hLk, hb5⟩
  unfold estV
  have hK5 := (((HK4.out.room).came 3 rfl hb5 hgk (o := lwO (enc [0])) hLk).more (estO 1 (some ⟨gk0, 0, none⟩) 1 1)).sel [0, 1, 2, 4, 3] (by decide)
  have HK5 := Lib.hid hK5
  clear hK5 hb5 hLk hgk HK4
  gi_wp2_with fail
  generalize hb5 : w5.heap.size = b5 at *
  change Code.wpIn _ _ _ _ _ _ (w5.alloc (estO 1 (some ⟨gk0, 0, none⟩) 1 1))
  generalize w5.alloc (estO 1 (some ⟨gk0, 0, none⟩) 1 1) = W6 at *
  have hK6 : Kg none w W6 [some (w.heap.size, mrow n n (some ⟨gA, 0, none⟩) NN cap), some (w.heap.size + 1, wbox false ⟨#[]⟩), some (b4, wbox (wneg l0) (wmag l0)), some (b5, estO 1 (some ⟨gk0, 0, none⟩) 1 1), some (gk0, lwO (enc [0]))] := HK5.out
  have HK6 := Lib.hid hK6
  clear hK6 HK5 hb5
  refine range_boxedIf (T := Tz) (a := ?A) (ps := #[18]) (gf := 67) (first := #[]) ?hg1 (enters_of Tryz.func67 (by kernel_rfl) rfl)
   (primes_visits pl HPL.out) ?hps1
   (fun k V => k < K ∧ ∃ gk, Kg none w V [some (w.heap.size, mrow n n (some ⟨gA, 0, none⟩) NN cap), some (w.heap.size + 1, wbox false ⟨#[]⟩), some (b4, wbox (wneg (limV pl l0 k)) (wmag (limV pl l0 k))), some (b5, estO (estM pl k) (some ⟨gk, 0, none⟩) 1 1), some (gk, lwO (enc [detV pl n zs k]))])
   (fun co V => co = .exit 0 ∧ ∃ gk, Kg none w V [some (w.heap.size, mrow n n (some ⟨gA, 0, none⟩) NN cap), some (w.heap.size + 1, wbox false ⟨#[]⟩), some (b4, wbox (wneg (limV pl l0 K)) (wmag (limV pl l0 K))), some (b5, estO (estM pl K) (some ⟨gk, 0, none⟩) 1 1), some (gk, lwO (enc [detV pl n zs K]))]) ?own ?ownx ?tz ⟨by omega, gk0, HK6.out⟩
   (fun k a' V => a' = { tmps := ((?A).tmps.setIfInBounds 18 (.int .u64 (pl.getD k 0 : Nat))).setIfInBounds 6 (.int .u64 (pl.getD k 0 : Nat)), defers := [] })
   (fun _ _ _ _ h _ => h) ?assign ?body ?done ?stop
  case hg1 => rfl
  case hps1 => exact fun k => rfl
  case own =>
   rintro k V V' ⟨h0, gk, h2⟩ hl
   exact ⟨h0, gk, h2.later' hl (by have := HK6.out.1.size; omega) rfl⟩
  case ownx =>
   rintro _ V V' ⟨rfl, gk, h2⟩ hl
   exact ⟨rfl, gk, h2.later' hl (by have := HK6.out.1.size; omega) rfl⟩
  case tz =>
   rintro k V ⟨_, gk, h2⟩
   exact hTz.of fun b hb => h2.1.block b hb (by simp)
  case assign =>
   intro l k V K' hk hz hI hK'
   unfold primeArgs
   clear hI hk
   generalize pl.getD k 0 = p at *
   gi_wp2
   exact hK' _ _ rfl (Below.refl _ _)
  case body =>
   rintro l k a' V hk hz hl0 hl1 ⟨hkK, gk, hKV⟩ rfl
   simp only [List.setIfInBounds_toArray, List.set_cons_succ, List.set_cons_zero]
   have hmod := fun W => HMOD.out k hkK W
   have hconv := fun W hW => HCONV.out k hkK W hW
   have hred := fun g W hW => HRED.out k hkK g W hW
   have href := fun gV gs W hE hV hR => HREF.out k hkK b5 gV gs W hE hV hR
   have hfp := fun W => HFP.out k hkK W
   have hquo := fun W => HQUO.out k hkK W
   have hsgn := fun W => HSGN.out (k + 1) W
   have hpp := HPP.out k hkK
   have hprm := HPRM.out k hkK
   have hlim0 : k + 1 < K → limV pl l0 (k + 1) ≠ 0 := fun h => HLIM.out (k + 1) (by omega) h
   have hv1 : detV pl n zs (k + 1) = refV (pl.getD k 0) (refI (pl.getD k 0) (estM pl k)) (estM pl k) (detV pl n zs k) (detR n n (pl.getD k 0) (resid (pl.getD k 0) zs)) := rfl
   have hm1 : estM pl (k + 1) = estM pl k * ((pl.getD k 0 : Nat) : Int) := rfl
   have hl1' : limV pl l0 (k + 1) = limV pl l0 k / (((pl.getD k 0) * (pl.getD k 0) : Nat) : Int) := by rw [Int.natCast_mul]; rfl
   rw [← hl1'] at hquo
   simp only [refL_one] at href
   rw [← hv1, ← hm1] at href
   have hxs : (List.range NN).map (fun j => (zs.getD j 0 % ((pl.getD k 0 : Nat) : Int)).toNat) = resid (pl.getD k 0) zs := by unfold resid; rw [HLEN.out, HN.out]
   rw [hxs] at hconv
   have hdet := fun ys d (h : RedEnd n n (pl.getD k 0) (resid (pl.getD k 0) zs) ys d) => h.det
   have HD := Lib.hid hdet
   have HLI := Lib.hid hlim0
   have HKV := Lib.hid hKV
   clear hxs hv1 hm1 hl1' hdet hlim0 hKV
   generalize hdd : detR n n (pl.getD k 0) (resid (pl.getD k 0) zs) = d at *
   generalize hch : refC (pl.getD k 0) (refI (pl.getD k 0) (estM pl k)) [detV pl n zs k] [d] false 1 = ch at *
   generalize resid (pl.getD k 0) zs = xs at *
   generalize hm1 : estM pl (k + 1) = M1 at *
   generalize estM pl k = M0 at *
   generalize hv1 : detV pl n zs (k + 1) = v1 at *
   generalize detV pl n zs k = v0 at *
   generalize pl.getD k 0 = p at *
   generalize hlm1 : limV pl l0 (k + 1) = lm1 at *
   generalize limV pl l0 k = lm0 at *
   obtain ⟨pp, hpe⟩ : ∃ pp, pp = p * p := ⟨_, rfl⟩
   rw [← hpe] at hfp hquo hpp
   have wp1 : IntKind.u64.wrap ((p : Int) * (p : Int)) = (pp : Int) := by rw [← Int.natCast_mul, ← hpe]; exact IntWalk.u64_in _ (by omega)
   have wp2 : IntKind.i64.wrap (pp : Int) = pp := IntWalk.i64_in _ (by omega)
   generalize lm0 % (pp : Int) = rm at *
   generalize hq : ((18446744073709551615 / p : Nat) : Int) = q at *
   have HMk := Lib.hid hmod
   have HCk := Lib.hid hconv
   have HDk := Lib.hid hred
   have HFk := Lib.hid href
   have HPk := Lib.hid hfp
   have HQk := Lib.hid hquo
   have HSk := Lib.hid hsgn
   have HV1 := Lib.hid hv1
   have HM1 := Lib.hid hm1
   have HLM1 := Lib.hid hlm1
   clear hmod hconv hred href hfp hquo hsgn hv1 hm1 hlm1 hdd hch hpe hpp hq hl1 hprm
   gi_wp2_with fail
   refine ⟨trivial, rfl, ?_⟩
   with_reducible refine (CallsIn.inRound l (callsIn_wide.2 (HMk.out _))).mono ?_
   rintro e V1 ⟨rfl, hb1⟩
   have hK1 : Kg none w (V1.alloc (.cells #[.int .u64 (p : Int), .int .u64 q] 82 (0, 0))) [some (w.heap.size, mrow n n (some ⟨gA, 0, none⟩) NN cap), some (w.heap.size + 1, wbox false ⟨#[]⟩), some (b4, wbox (wneg lm0) (wmag lm0)), some (b5, estO M0 (some ⟨gk, 0, none⟩) 1 1), some (gk, lwO (enc [v0])), some (V1.heap.size, .cells #[.int .u64 (p : Int), .int .u64 q] 82 (0, 0))] := (HKV.out.step hb1).more (.cells #[.int .u64 (p : Int), .int .u64 q] 82 (0, 0))
   have HK1 := Lib.hid hK1.room.room
   have Hk1 := Lib.hid (((Kept.refl W6.heap.size V).below hb1).below ((Below.refl _ _).alloc (Nat.le_refl _) (.cells #[.int .u64 (p : Int), .int .u64 q] 82 (0, 0))))
   clear hb1 HKV hK1
   gi_wp2_with fail
   change Code.wpIn _ _ _ _ _ _ (V1.alloc (.cells #[.int .u64 (p : Int), .int .u64 q] 82 (0, 0)))
   generalize V1.alloc (.cells #[.int .u64 (p : Int), .int .u64 q] 82 (0, 0)) = V2 at *
   generalize V1.heap.size = b7 at *
   refine wpIn_region_facts (X := Nat × Nat) (fun x => [(0, 21, .pointer (some ⟨w.heap.size, 0, none⟩)), (1, 22, .int .i64 (n : Int)), (2, 23, .pointer (some ⟨w.heap.size, 1, none⟩)), (3, 24, .int .i64 (n : Int)), (4, 25, .pointer (some ⟨w.heap.size, 2, none⟩)), (5, 26, .slice (some ⟨gA, 0, none⟩) NN cap), (6, 27, .agg #[.int .u64 (p : Int), .int .u64 q]), (7, 28, .func (.func 70) #[.agg #[.int .u64 (p : Int), .int .u64 q]] #[]), (8, 29, .slice (some ⟨x.1, 0, none⟩) NN NN), (9, 30, .agg #[.int .i64 (n : Int), .int .i64 (n : Int), .slice (some ⟨x.1, 0, none⟩) NN NN]), (10, 8, .pointer (some ⟨x.2, 0, none⟩))])
    (fun x L W => Kg none w W [some (w.heap.size, mrow n n (some ⟨gA, 0, none⟩) NN cap), some (w.heap.size + 1, wbox false ⟨#[]⟩), some (b4, wbox (wneg lm0) (wmag lm0)), some (b5, estO M0 (some ⟨gk, 0, none⟩) 1 1), some (gk, lwO (enc [v0])), some (b7, .cells #[.int .u64 (p : Int), .int .u64 q] 82 (0, 0)), entO (L 8) x.1 (lsO xs), entO (L 10) x.2 (if L 11 = true then tabO n n (some ⟨x.1, 0, none⟩) NN NN else tabO 0 0 none 0 0)] ∧ Kept W6.heap.size V W ∧ (L 8 = true → V.heap.size ≤ x.1) ∧ (L 10 = true → V.heap.size ≤ x.2)) (by kernel_rfl) (by kernel_rfl) (0, 0) (by refine ⟨HK1.out.drew, Hk1.out.drew, fun h => ?_, fun h => ?_⟩ <;> simp at h) (by kernel_rfl) ?_ ?_
   ·repeat' (first | exact FactStepsIn.nil | refine FactStepsIn.cons ?_ ?_)
    all_goals
     intro L x wx hJ hl hd hs K hK
     (try simp [Region.binds] at hd)
     have e0 := hJ.1.cell 0 0 rfl rfl
     have e1 := hJ.1.cell 0 1 rfl rfl
     have e2 := hJ.1.cell 0 2 rfl rfl
     have e3 := hJ.1.cell 5 0 rfl rfl
     have e4 := hJ.1.cell 5 1 rfl rfl
     simp only [selA, selT_cons, selT_nil, List.set_cons_zero, List.set_cons_succ, List.getD_cons_zero, List.getD_cons_succ, hd, hl, selV_true, selV_false]
    ·go_simp
     refine hK.out x _ _ ?_ ?_
     ·simp [selA, selT_cons, selT_nil, hl, hd, selV_true, selV_false]
     ·exact ⟨by simpa [hl] using hJ.1, hJ.2.1, by simpa [hl] using hJ.2.2.1, by simpa [hl] using hJ.2.2.2⟩
    ·go_simp
     refine hK.out x _ _ ?_ ?_
     ·simp [selA, selT_cons, selT_nil, hl, hd, selV_true, selV_false]
     ·exact ⟨by simpa [hl] using hJ.1, hJ.2.1, by simpa [hl] using hJ.2.2.1, by simpa [hl] using hJ.2.2.2⟩
    ·go_simp
     refine hK.out x _ _ ?_ ?_
     ·simp [selA, selT_cons, selT_nil, hl, hd, selV_true, selV_false]
     ·exact ⟨by simpa [hl] using hJ.1, hJ.2.1, by simpa [hl] using hJ.2.2.1, by simpa [hl] using hJ.2.2.2⟩
    ·go_simp
     refine hK.out x _ _ ?_ ?_
     ·simp [selA, selT_cons, selT_nil, hl, hd, selV_true, selV_false]
     ·exact ⟨by simpa [hl] using hJ.1, hJ.2.1, by simpa [hl] using hJ.2.2.1, by simpa [hl] using hJ.2.2.2⟩
    ·go_simp
     refine hK.out x _ _ ?_ ?_
     ·simp [selA, selT_cons, selT_nil, hl, hd, selV_true, selV_false]
     ·exact ⟨by simpa [hl] using hJ.1, hJ.2.1, by simpa [hl] using hJ.2.2.1, by simpa [hl] using hJ.2.2.2⟩
    ·go_simp
     refine hK.out x _ _ ?_ ?_
     ·simp [selA, selT_cons, selT_nil, hl, hd, selV_true, selV_false]
     ·exact ⟨by simpa [hl] using hJ.1, hJ.2.1, by simpa [hl] using hJ.2.2.1, by simpa [hl] using hJ.2.2.2⟩
    ·go_simp
     refine hK.out x _ _ ?_ ?_
     ·simp [selA, selT_cons, selT_nil, hl, hd, selV_true, selV_false]
     ·exact ⟨by simpa [hl] using hJ.1, hJ.2.1, by simpa [hl] using hJ.2.2.1, by simpa [hl] using hJ.2.2.2⟩
    ·go_simp
     refine hK.out x _ _ ?_ ?_
     ·simp [selA, selT_cons, selT_nil, hl, hd, selV_true, selV_false]
     ·exact ⟨by simpa [hl] using hJ.1, hJ.2.1, by simpa [hl] using hJ.2.2.1, by simpa [hl] using hJ.2.2.2⟩
    ·have hn := hs 9 _ rfl (by simp [Region.binds])
     go_simp
     refine ⟨trivial, rfl, ?_⟩
     with_reducible refine (CallsIn.inRound l (callsIn_wide.2 (HCk.out _ (HAS.out _ _ hJ.1).rdw))).mono ?_
     rintro e v ⟨g, rfl, hg, hLg, hb⟩
     refine hK.out (g, x.2) _ _ ?_ ?_
     ·simp [selA, selT_cons, selT_nil, hl, hd, hn, hs 11 _ rfl (by simp [Region.binds]), selV_true, selV_false]
     ·refine ⟨Kg.cast (hJ.1.came 6 (by simp [hl, entO_no]) hb hg (o := lsO xs) hLg) ?_, hJ.2.1.below hb, fun _ => Nat.le_trans hJ.2.1.1 hg, by simpa [hl] using hJ.2.2.2⟩
      simp [entO_yes, hs 11 _ rfl (by simp [Region.binds])]
    ·go_simp
     refine hK.out x _ _ ?_ ?_
     ·simp [selA, selT_cons, selT_nil, hl, hd, selV_true, selV_false]
     ·exact ⟨by simpa [hl] using hJ.1, hJ.2.1, by simpa [hl] using hJ.2.2.1, by simpa [hl] using hJ.2.2.2⟩
    ·have hn := hs 11 _ rfl (by simp [Region.binds])
     go_simp
     refine hK.out (x.1, wx.heap.size) _ _ ?_ ?_
     ·simp [selA, selT_cons, selT_nil, hl, hd, hn, selV_true, selV_false]
     ·refine ⟨Kg.cast (hJ.1.new 7 (tabO 0 0 none 0 0) (by simp [hl, entO_no])) ?_, hJ.2.1.below ((Below.refl _ _).alloc (Nat.le_refl _) _), by simpa using hJ.2.2.1, fun _ => hJ.2.1.1⟩
      simp [entO_yes, hn]
    ·have hJ2 := hJ.1
     simp only [hl, hd, entO_yes, Bool.false_eq_true, if_false] at hJ2
     have hge := hJ.2.2.2 (by simp [hd])
     have f0 := hJ2.frozen 7 0 rfl
     have f1 := hJ2.frozen 7 1 rfl
     have f2 := hJ2.frozen 7 2 rfl
     have d0 := hJ2.cell 7 0 rfl rfl
     have d1 := hJ2.cell 7 1 rfl rfl
     have d2 := hJ2.cell 7 2 rfl rfl
     go_simp
     refine hK.out x _ _ ?_ ?_
     ·simp [selA, selT_cons, selT_nil, hl, hd, selV_true, selV_false]
     ·refine ⟨Kg.cast (((hJ2.put 7 0 rfl _).put 7 1 rfl _).put 7 2 rfl _) ?_, ((hJ.2.1.putNew (p := ⟨x.2, 0, none⟩) hge _).putNew (p := ⟨x.2, 1, none⟩) hge _).putNew (p := ⟨x.2, 2, none⟩) hge _, hJ.2.2.1, hJ.2.2.2⟩
      simp [hd, entO_yes, tabO]
   ·rintro ⟨g1, b8⟩ V3 ⟨hK3, hk3, hg1, hb8⟩
    simp only [selA, selT_cons, selT_nil, List.set_cons_zero, List.set_cons_succ, List.getD_cons_zero, List.getD_cons_succ, selV_true]
    have hg1v := hg1 (by trivial)
    clear hg1
    have HK3 := Lib.hid (show Kg none w V3 [some (w.heap.size, mrow n n (some ⟨gA, 0, none⟩) NN cap), some (w.heap.size + 1, wbox false ⟨#[]⟩), some (b4, wbox (wneg lm0) (wmag lm0)), some (b5, estO M0 (some ⟨gk, 0, none⟩) 1 1), some (gk, lwO (enc [v0])), some (b7, .cells #[.int .u64 (p : Int), .int .u64 q] 82 (0, 0)), some (g1, lsO xs), some (b8, tabO n n (some ⟨g1, 0, none⟩) NN NN), none, none] from hK3.room.room)
    have Hk3 := Lib.hid hk3
    have hb5l : b5 < W6.heap.size := HK6.out.lt 3 rfl
    have hb4l : b4 < W6.heap.size := HK6.out.lt 2 rfl
    clear hK3 hk3 HK1 Hk1 hb8
    gi_wp2_with fail
    refine wpIn_region_facts (X := Nat × Nat × List Nat) (fun x => [(0, 31, .agg #[.int .u64 (p : Int), .int .u64 q]), (1, 32, .agg #[.int .u64 (p : Int), .int .u64 q]), (2, 33, .agg #[.int .i64 (n : Int), .int .i64 (n : Int), .slice (some ⟨g1, 0, none⟩) NN NN]), (3, 34, .int .u64 (d : Int)), (4, 35, .slice (some ⟨x.1, 0, none⟩) 1 1), (5, 36, .bool ch)])
     (fun x L W => Kg none w W [some (w.heap.size, mrow n n (some ⟨gA, 0, none⟩) NN cap), some (w.heap.size + 1, wbox false ⟨#[]⟩), some (b4, wbox (wneg lm0) (wmag lm0)), some (b5, if L 5 = true then estO M1 (some ⟨x.2.1, 0, none⟩) 1 1 else estO M0 (some ⟨gk, 0, none⟩) 1 1), some (gk, lwO (enc [v0])), some (b7, .cells #[.int .u64 (p : Int), .int .u64 q] 82 (0, 0)), some (g1, lsO (if L 3 = true then x.2.2 else xs)), some (b8, tabO n n (some ⟨g1, 0, none⟩) NN NN), entO (L 4) x.1 (lsO [d]), entO (L 5) x.2.1 (lwO (enc [v1]))] ∧ Kept W6.heap.size V W) (by kernel_rfl) (by kernel_rfl) (0, 0, []) ⟨HK3.out.drew, Hk3.out.drew⟩ (by kernel_rfl) ?_ ?_
    ·repeat' (first | exact FactStepsIn.nil | refine FactStepsIn.cons ?_ ?_)
     all_goals
      intro L x wx hJ hl hd hs K hK
      (try simp [Region.binds] at hd)
      have e0 := hJ.1.cell 5 0 rfl rfl
      have e1 := hJ.1.cell 5 1 rfl rfl
      have e2 := hJ.1.cell 7 0 rfl rfl
      have e3 := hJ.1.cell 7 1 rfl rfl
      have e4 := hJ.1.cell 7 2 rfl rfl
      simp only [selA, selT_cons, selT_nil, List.set_cons_zero, List.set_cons_succ, List.getD_cons_zero, List.getD_cons_succ, hd, hl, selV_true, selV_false]
     ·go_simp
      refine hK.out x _ _ ?_ ?_
      ·simp [selA, selT_cons, selT_nil, hl, hd, selV_true, selV_false]
      ·exact ⟨by simpa [hl] using hJ.1, hJ.2⟩
     ·go_simp
      refine hK.out x _ _ ?_ ?_
      ·simp [selA, selT_cons, selT_nil, hl, hd, selV_true, selV_false]
      ·exact ⟨by simpa [hl] using hJ.1, hJ.2⟩
     ·go_simp
      refine hK.out x _ _ ?_ ?_
      ·simp [selA, selT_cons, selT_nil, hl, hd, selV_true, selV_false]
      ·exact ⟨by simpa [hl] using hJ.1, hJ.2⟩
     ·have hJ2 := hJ.1
      simp only [hl, Bool.false_eq_true, if_false] at hJ2
      have hx1 : Lst wx g1 xs := hJ2.at_ 6 rfl
      go_simp
      refine ⟨trivial, rfl, ?_⟩
      with_reducible refine (CallsIn.inRound l (callsIn_wide.2 (HDk.out g1 wx hx1))).mono ?_
      rintro e v ⟨ys, dd, hre, rfl, hLg, hb⟩
      obtain rfl := HD.out ys dd hre
      refine hK.out (x.1, x.2.1, ys) _ _ ?_ ?_
      ·simp [selA, selT_cons, selT_nil, hl, hd, selV_true, selV_false]
      ·refine ⟨Kg.cast (hJ2.change 6 rfl hb (o' := lsO ys) hLg) ?_, hJ.2.grownNew hb hg1v⟩
       simp
     ·have hn := hs 5 _ rfl (by simp [Region.binds])
      go_simp
      refine hK.out (wx.heap.size, x.2) _ _ ?_ ?_
      ·simp [selA, selT_cons, selT_nil, hl, hd, hn, selV_true, selV_false]
      ·refine ⟨Kg.cast (hJ.1.new 8 (lsO [d]) (by simp [hl, entO_no])) ?_, hJ.2.below ((Below.refl _ _).alloc (Nat.le_refl _) _)⟩
       simp [entO_yes, hn]
     ·have hJ2 := hJ.1
      simp only [hl, hd, entO_yes, entO_no, Bool.false_eq_true, if_false] at hJ2
      have hx3 : Est wx b5 M0 (some ⟨gk, 0, none⟩) 1 1 := hJ2.at_ 3 rfl
      have hx4 : Lw wx gk (enc [v0]) := hJ2.at_ 4 rfl
      have hx8 : Lst wx x.1 [d] := hJ2.at_ 8 rfl
      go_simp
      refine ⟨trivial, rfl, ?_⟩
      with_reducible refine (CallsIn.inRound l (callsIn_wide.2 (HFk.out gk x.1 wx hx3 hx4 hx8.rd))).mono ?_
      rintro e v ⟨g, rfl, hg, hLg, hEg, hb⟩
      refine hK.out (x.1, g, x.2.2) _ _ ?_ ?_
      ·simp [selA, selT_cons, selT_nil, hl, hd, selV_true, selV_false]
      ·refine ⟨Kg.cast (hJ2.cameG 9 3 rfl rfl hb (o' := estO M1 (some ⟨g, 0, none⟩) 1 1) hEg hg (o := lwO (enc [v1])) hLg) ?_, hJ.2.grown hb (by omega)⟩
       simp [hd, entO_yes]
    ·rintro ⟨gs, g2, ys⟩ V4 ⟨hK4', hk4⟩
     simp only [selA, selT_cons, selT_nil, List.set_cons_zero, List.set_cons_succ, List.getD_cons_zero, List.getD_cons_succ, selV_true]
     simp only [entO_yes, if_true] at hK4'
     have HK4' := Lib.hid (show Kg none w V4 [some (w.heap.size, mrow n n (some ⟨gA, 0, none⟩) NN cap), some (w.heap.size + 1, wbox false ⟨#[]⟩), some (b4, wbox (wneg lm0) (wmag lm0)), some (b5, estO M1 (some ⟨g2, 0, none⟩) 1 1), some (g2, lwO (enc [v1]))] from hK4'.sel [0, 1, 2, 3, 9] (by decide))
     have Hk4 := Lib.hid hk4
     clear hK4' hk4 HK3 Hk3
     gi_wp2_with fail
     refine wpIn_region_facts (X := Unit) (fun x => [(0, 38, .agg #[.bool (wneg lm0), .string (wmag lm0)]), (1, 39, .int .u64 (p : Int)), (2, 40, .int .u64 (p : Int)), (3, 41, .int .u64 (pp : Int)), (4, 42, .int .i64 (pp : Int)), (5, 43, .agg #[.bool (wneg (pp : Int)), .string (wmag (pp : Int))]), (6, 44, .tuple #[.agg #[.bool (wneg lm1), .string (wmag lm1)], .agg #[.bool (wneg rm), .string (wmag rm)], .bool true]), (7, 37, .tuple #[.agg #[.bool (wneg lm1), .string (wmag lm1)], .agg #[.bool (wneg rm), .string (wmag rm)], .bool true]), (8, 45, .agg #[.bool (wneg lm1), .string (wmag lm1)]), (9, 46, .agg #[.bool (wneg rm), .string (wmag rm)]), (10, 47, .bool true)])
      (fun _ L W => Kg none w W [some (w.heap.size, mrow n n (some ⟨gA, 0, none⟩) NN cap), some (w.heap.size + 1, wbox false ⟨#[]⟩), some (b4, if L 11 = true then wbox (wneg lm1) (wmag lm1) else wbox (wneg lm0) (wmag lm0)), some (b5, estO M1 (some ⟨g2, 0, none⟩) 1 1), some (g2, lwO (enc [v1]))] ∧ Kept W6.heap.size V W) (by kernel_rfl) (by kernel_rfl) () ⟨HK4'.out.drew, Hk4.out.drew⟩ (by kernel_rfl) ?_ ?_
     ·repeat' (first | exact FactStepsIn.nil | refine FactStepsIn.cons ?_ ?_)
      all_goals
       intro L x wx hJ hl hd hs K hK
       (try simp [Region.binds] at hd)
       simp only [selA, selT_cons, selT_nil, List.set_cons_zero, List.set_cons_succ, List.getD_cons_zero, List.getD_cons_succ, hd, hl, selV_true, selV_false]
      ·have hn := hs 11 _ rfl (by simp [Region.binds])
       have hJ2 := hJ.1
       simp only [hn, Bool.false_eq_true, if_false] at hJ2
       have e0 := hJ2.cell 2 0 rfl rfl
       have e1 := hJ2.cell 2 1 rfl rfl
       go_simp
       refine hK.out x _ _ ?_ ?_
       ·simp [selA, selT_cons, selT_nil, hl, hd, hn, selV_true, selV_false]
       ·exact ⟨by simpa [hl] using hJ.1, hJ.2⟩
      ·go_simp
       refine hK.out x _ _ ?_ ?_
       ·simp [selA, selT_cons, selT_nil, hl, hd, selV_true, selV_false]
       ·exact ⟨by simpa [hl] using hJ.1, hJ.2⟩
      ·go_simp
       refine hK.out x _ _ ?_ ?_
       ·simp [selA, selT_cons, selT_nil, hl, hd, selV_true, selV_false]
       ·exact ⟨by simpa [hl] using hJ.1, hJ.2⟩
      ·go_simp
       refine hK.out x _ _ ?_ ?_
       ·simp [selA, selT_cons, selT_nil, hl, hd, selV_true, selV_false]
       ·exact ⟨by simpa [hl] using hJ.1, hJ.2⟩
      ·go_simp
       refine hK.out x _ _ ?_ ?_
       ·simp [selA, selT_cons, selT_nil, hl, hd, selV_true, selV_false]
       ·exact ⟨by simpa [hl] using hJ.1, hJ.2⟩
      ·go_simp
       refine ⟨trivial, rfl, ?_⟩
       with_reducible refine (CallsIn.inRound l (callsIn_wide.2 (HPk.out _))).mono ?_
       rintro e v ⟨rfl, hb⟩
       refine hK.out x _ _ ?_ ?_
       ·simp [selA, selT_cons, selT_nil, hl, hd, selV_true, selV_false]
       ·exact ⟨by simpa using hJ.1.step hb, hJ.2.below hb⟩
      ·go_simp
       refine ⟨trivial, rfl, ?_⟩
       with_reducible refine (CallsIn.inRound l (callsIn_wide.2 (HQk.out _))).mono ?_
       rintro e v ⟨rfl, hb⟩
       refine hK.out x _ _ ?_ ?_
       ·simp [selA, selT_cons, selT_nil, hl, hd, selV_true, selV_false]
       ·exact ⟨by simpa using hJ.1.step hb, hJ.2.below hb⟩
      ·go_simp
       refine hK.out x _ _ ?_ ?_
       ·simp [selA, selT_cons, selT_nil, hl, hd, selV_true, selV_false]
       ·exact ⟨by simpa [hl] using hJ.1, hJ.2⟩
      ·go_simp
       refine hK.out x _ _ ?_ ?_
       ·simp [selA, selT_cons, selT_nil, hl, hd, selV_true, selV_false]
       ·exact ⟨by simpa [hl] using hJ.1, hJ.2⟩
      ·go_simp
       refine hK.out x _ _ ?_ ?_
       ·simp [selA, selT_cons, selT_nil, hl, hd, selV_true, selV_false]
       ·exact ⟨by simpa [hl] using hJ.1, hJ.2⟩
      ·go_simp
       refine hK.out x _ _ ?_ ?_
       ·simp [selA, selT_cons, selT_nil, hl, hd, selV_true, selV_false]
       ·exact ⟨by simpa [hl] using hJ.1, hJ.2⟩
      ·have hJ2 := hJ.1
       simp only [hl, Bool.false_eq_true, if_false] at hJ2
       have f0 := hJ2.frozen 2 0 rfl
       have f1 := hJ2.frozen 2 1 rfl
       have d0 := hJ2.cell 2 0 rfl rfl
       have d1 := hJ2.cell 2 1 rfl rfl
       go_simp
       refine hK.out x _ _ ?_ ?_
       ·simp [selA, selT_cons, selT_nil, hl, hd, selV_true, selV_false]
       ·refine ⟨Kg.cast ((hJ2.put 2 0 rfl _).put 2 1 rfl _) ?_, (hJ.2.put (p := ⟨b4, 0, none⟩) (by simp only []; omega) _).put (p := ⟨b4, 1, none⟩) (by simp only []; omega) _⟩
        simp [wbox]
     ·rintro _ V5 ⟨hK5, hk5⟩
      simp only [selA, selT_cons, selT_nil, List.set_cons_zero, List.set_cons_succ, List.getD_cons_zero, List.getD_cons_succ, selV_true]
      simp only [if_true] at hK5
      have c0 := hK5.cell 2 0 rfl rfl
      have c1 := hK5.cell 2 1 rfl rfl
      have HK5' := Lib.hid hK5
      have Hk5 := Lib.hid hk5
      clear hK5 hk5
      gi_wp2_with fail
      refine ⟨trivial, rfl, ?_⟩
      with_reducible refine (CallsIn.inRound l (callsIn_wide.2 (HSk.out _))).mono ?_
      rintro e V6 ⟨rfl, hb6⟩
      have HK6' := Lib.hid (HK5'.out.step hb6)
      have Hk6 := Lib.hid (Hk5.out.below hb6)
      clear hb6 c0 c1 HK5' Hk5
      by_cases hz0 : lm1 = 0
      ·subst hz0
       have hKe : K = k + 1 := by
        rcases Nat.lt_or_ge (k + 1) K with h | h
        ·exact absurd rfl (HLI.out h)
        ·omega
       gi_wp2_with fail
       subst hKe
       refine ⟨Hk6.out, rfl, g2, ?_⟩
       rw [HLM1.out, HM1.out, HV1.out]
       exact HK6'.out
      ·have hs1 : (lm1.sign == 0) = false := by rw [beq_eq_false_iff_ne]; rwa [ne_eq, Int.sign_eq_zero_iff_zero]
       have hKl2 : k + 1 < K := by
        rcases Nat.lt_or_ge (k + 1) K with h | h
        ·exact h
        ·rw [show K = k + 1 by omega] at HLIMK
         exact absurd (HLM1.out.symm.trans HLIMK.out) hz0
       gi_wp2_with fail
       refine ⟨Hk6.out, hKl2, g2, ?_⟩
       rw [HLM1.out, HM1.out, HV1.out]
       exact HK6'.out
  case done =>
   rintro D V hD ⟨h0, _⟩ hd
   omega
  case stop =>
   rintro D _ V hD ⟨rfl, gk, h2⟩ hd
   rw [← HRES.out] at h2
   have c0 := h2.cell 3 2 rfl rfl
   have hL : Lw V gk [(wneg res, wmag res)] := h2.at_ 4 rfl
   have c1 : V.cell? ⟨gk, 0, none⟩ = some (.bool (wneg res)) := hL.cell0 0 (by simp)
   have c2 : V.cell? ⟨gk, 1, none⟩ = some (.string (wmag res)) := hL.cell1 0 (by simp)
   have f0 := h2.frozen 1 0 rfl
   have f1 := h2.frozen 1 1 rfl
   have d0 := h2.cell 1 0 rfl rfl
   have d1 := h2.cell 1 1 rfl rfl
   have HK := Lib.hid h2
   clear h2 hL
   gi_wp2_with fail
   have hl1 := HK6.out.lt 1 rfl
   have hK' := (HK.out.put 1 0 rfl (.bool (wneg res))).put 1 1 rfl (.string (wmag res))
   have hd2 : ((V.setCell ⟨w.heap.size + 1, 0, none⟩ (.bool (wneg res))).setCell ⟨w.heap.size + 1, 1, none⟩ (.string (wmag res))).heap[D]? = some (.deferred (some [])) :=
    (Below.heap_setCell _ _ _ _ (by simp only []; omega)).trans ((Below.heap_setCell _ _ _ _ (by simp only []; omega)).trans hd)
   have hlp := later_put (B := W6.heap.size) (.deferred none) hD hd2 rfl
   have hK2 := hK'.later' hlp (by have := HK6.out.1.size; omega) rfl
   refine ⟨by simp, .inl ⟨_, _, rfl, run_takeDeferred hd2, ?_⟩⟩
   exact ⟨_, results_wide_tmp (b := w.heap.size + 1) rfl rfl (hK2.at_ 1 rfl), rfl, ⟨hK2.1.os, hK2.1.tape, hK2.1.output, hK2.1.size, fun i hi => hK2.1.block i hi (by simp)⟩⟩
end Go.Proofs.YtknaghdoffigjaaGreatDoor
