import Derived.Test.YtknaghdoffigjaaGreatDoorZMNewE
set_option linter.unusedSimpArgs false
set_option linter.unusedVariables false
set_option linter.unnecessarySimpa false
namespace Go.Proofs.YtknaghdoffigjaaGreatDoor
open Go.RowKit Go
attribute [local go_sem] Oper.semAt_some
def primesF : Nat → List Nat
 | 0 => []
 | f + 1 => if sprp (2 * f + 3) = true then (2 * f + 3) :: primesF f else primesF f
def PL (pl : List Nat) : Prop := ∃ f, 2 * f + 1 = 2147483645 ∧ pl = 2147483647 :: primesF f
theorem PL_ex : ∃ pl, PL pl := by
 have : ∃ f, 2 * f + 1 = 2147483645 := ⟨1073741822, rfl⟩
 obtain ⟨f, hf⟩ := this
 exact ⟨_, f, hf, rfl⟩
theorem primesF_lt : ∀ (f : Nat) (x : Nat), x ∈ primesF f → 3 ≤ x ∧ x ≤ 2 * f + 1
 | 0, x, h => by cases h
 | f + 1, x, h => by
  rw [primesF] at h
  split at h
  ·rcases List.mem_cons.1 h with rfl | h
   ·omega
   ·have := primesF_lt f x h
    omega
  ·have := primesF_lt f x h
   omega
theorem PL.bounds {pl : List Nat} (hpl : PL pl) (x : Nat) (h : x ∈ pl) : 3 ≤ x ∧ x < 2147483648 := by
 obtain ⟨f, hf, rfl⟩ := hpl
 rcases List.mem_cons.1 h with rfl | h
 ·omega
 ·have := primesF_lt _ _ h
  omega
theorem PL.prm {pl : List Nat} (hpl : PL pl) (k : Nat) (h : k < pl.length) : 3 ≤ pl.getD k 0 ∧ pl.getD k 0 < 2147483648 := by
 refine hpl.bounds _ ?_
 rw [List.getD_eq_getElem?_getD, List.getElem?_eq_getElem h]
 exact List.getElem_mem h
def primeArgs (pl : List Nat) (k : Nat) : Array Value := #[.int .u64 (pl.getD k 0 : Nat)]
set_option maxRecDepth 100000 in
set_option maxHeartbeats 400000 in
theorem primes_visits (pl : List Nat) (hpl : PL pl) : VisitsIf Tz Tryz.prog 67 #[] (primeArgs pl) pl.length := by
 have hp0 : primeArgs pl 0 = #[.int .u64 2147483647] := by
  obtain ⟨f, hf, rfl⟩ := hpl
  unfold primeArgs
  rw [List.getD_cons_zero]
  simp
 obtain ⟨fu, hfu, hplc⟩ := hpl
 have hN : 0 < pl.length := by rw [hplc]; simp
 have hdrop : pl.drop 1 = primesF fu := by rw [hplc]; rfl
 have hget : ∀ k x l, pl.drop k = x :: l → primeArgs pl k = #[.int .u64 (x : Int)] ∧ k < pl.length ∧ pl.drop (k + 1) = l := fun k x l h => by
  have hk : k < pl.length := by
   rcases Nat.lt_or_ge k pl.length with h1 | h1
   ·exact h1
   ·rw [List.drop_eq_nil_of_le h1] at h
    cases h
  rw [List.drop_eq_getElem_cons hk] at h
  refine ⟨?_, hk, (List.cons.inj h).2⟩
  unfold primeArgs
  rw [List.getD_eq_getElem?_getD, List.getElem?_eq_getElem hk, Option.getD_some, (List.cons.inj h).1]
 have hend : ∀ k, k ≤ pl.length → pl.drop k = [] → k = pl.length := fun k hk h => by
  have := congrArg List.length h
  rw [List.length_drop] at this
  simp at this
  omega
 clear hplc
 generalize primeArgs pl = pa at *
 intro l J Jx W hJ hJx hTz hY h0
 have hpr := fun (n : Nat) (hn3 : 2 < n) (hn : n < 2147483648) V (hV : Tz V) => isPrime_any n V hn3 hn hV
 refine callsIn_of_wp Tryz.func67 rfl trivial ?_ rfl
 simp only [Tryz.ntmps67, List.size_toArray, List.length_cons, List.length_nil, Nat.reduceAdd, Nat.reduceSub, Array.replicate_succ, Array.replicate_zero, List.push_toArray, List.append_toArray, List.nil_append, List.cons_append]
 have hY0 := hY 0 hN
 rw [hp0] at hY0
 obtain ⟨fn, tmps, assign, body, hy, hR⟩ := hY0 W h0
 have HD := Lib.hid hdrop
 have HG := Lib.hid hget
 have HE := Lib.hid hend
 have HPR := Lib.hid hpr
 have HY := Lib.hid hY
 have HTZ := Lib.hid hTz
 have HFU := Lib.hid hfu
 clear hdrop hget hend hpr hY hp0 hY0 hfu hTz
 gi_wp2_with fail
 refine ⟨rfl, hR.mono ?_⟩
 rintro e V1 (⟨rfl, hj1, hk1⟩ | ⟨rfl, hx1⟩)
 ·clear hy hR h0
  gi_wp2
  gi_loopw [2] (fun n wr => ∃ f k : Nat, n = .int .u64 ((2 * f + 1 : Nat) : Int) ∧ f ≤ fu ∧ k ≤ pl.length ∧ pl.drop k = primesF f ∧ J k wr) (fun n _ => (intOf n).toNat)
  case atStart => exact ⟨fu, 1, congrArg (Value.int .u64) (by have := HFU.out; omega), Nat.le_refl _, hN, HD.out, hj1⟩
  case round =>
   obtain ⟨f, k, rfl, hf, hk, hdk, hj⟩ := hrel
   clear hj1 hk1
   cases f with
   | zero =>
    obtain rfl := HE.out k hk hdk
    have hd : decide (((2 * 0 + 1 : Nat) : Int) > 2) = false := by simp
    gi_wp2
    go_end0
    exact ⟨⟨_, rfl⟩, .inl hj⟩
   | succ f =>
    obtain ⟨m, hm⟩ : ∃ m, m = 2 * (f + 1) + 1 := ⟨_, rfl⟩
    rw [← hm]
    have HM0 := Lib.hid hm
    have hm2 : m < 2147483648 := by have := HFU.out; omega
    have hd : decide ((m : Int) > 2) = true := by rw [decide_eq_true_iff]; omega
    have hw : IntKind.u64.wrap ((m : Int) - 2) = ((2 * f + 1 : Nat) : Int) := by rw [show (m : Int) - 2 = ((2 * f + 1 : Nat) : Int) from by omega]; exact IntWalk.u64_in _ (by omega)
    obtain ⟨m', hm'⟩ : ∃ m', m' = 2 * f + 1 := ⟨_, rfl⟩
    rw [← hm'] at hw
    have hprm := fun V hV => HPR.out m (by have := HM0.out; omega) hm2 V hV
    have hpf : primesF (f + 1) = if sprp m = true then m :: primesF f else primesF f := by rw [primesF, hm, show 2 * (f + 1) + 1 = 2 * f + 3 from by omega]
    rw [hpf] at hdk
    have HM := Lib.hid hm
    have HM' := Lib.hid hm'
    clear hm hm' hpf
    cases hb : sprp m with
    | false =>
     rw [hb] at hprm
     rw [hb, if_neg (by simp)] at hdk
     clear hb
     gi_wp2_with fail
     refine ⟨trivial, rfl, ?_⟩
     with_reducible refine (callsIn_wide.2 (hprm _ (HTZ.out _ _ hj))).mono ?_
     rintro e V2 ⟨rfl, rfl⟩
     gi_wp2
     refine ⟨(fun f h => by cases h), ?_⟩
     gi_wp2
     go_roundw
     case rel => exact ⟨f, k, congrArg (fun x : Nat => Value.int .u64 (x : Int)) HM'.out, by omega, hk, hdk, hj⟩
     case measure => have := HM.out; have := HM'.out; simp [intOf]; omega
    | true =>
     rw [hb] at hprm
     rw [hb, if_pos rfl] at hdk
     obtain ⟨hpk, hkl, hdk2⟩ := HG.out k _ _ hdk
     have hYk := HY.out k hkl
     rw [hpk] at hYk
     clear hb hdk hpk
     gi_wp2_with fail
     refine ⟨trivial, rfl, ?_⟩
     with_reducible refine (callsIn_wide.2 (hprm _ (HTZ.out _ _ hj))).mono ?_
     rintro e V2 ⟨rfl, rfl⟩
     obtain ⟨fn, tmps, assign, body, hy, hR⟩ := hYk _ hj
     clear hYk
     gi_wp2_with fail
     refine ⟨rfl, hR.mono ?_⟩
     rintro e V3 (⟨rfl, hj3, hk3⟩ | ⟨rfl, hx3⟩)
     ·clear hy hR
      gi_wp2
      go_roundw
      case rel => exact ⟨f, k + 1, congrArg (fun x : Nat => Value.int .u64 (x : Int)) HM'.out, by omega, hkl, hdk2, hj3⟩
      case measure => have := HM.out; have := HM'.out; simp [intOf]; omega
     ·gi_wp2
      refine bodyPost_ret (results_none rfl _ _ _) rfl ?_
      exact ⟨⟨_, rfl⟩, .inr hx3⟩
 ·gi_wp2
  refine bodyPost_ret (results_none rfl _ _ _) rfl ?_
  exact ⟨⟨_, rfl⟩, .inr hx1⟩
end Go.Proofs.YtknaghdoffigjaaGreatDoor
namespace Go.Proofs.YtknaghdoffigjaaGreatDoor
open Go.RowKit Go
attribute [local go_sem] Oper.semAt_some
def rsq (zs : List Int) (c k : Nat) : Nat → Int
 | 0 => 0
 | m + 1 => rsq zs c k m + zs.getD (k * c + m) 0 * zs.getD (k * c + m) 0
def bnd (zs : List Int) (c : Nat) : Nat → Int
 | 0 => 1
 | k + 1 => bnd zs c k * rsq zs c k c
theorem rsq_abs (zs : List Int) (c k S : Nat) (hz : ∀ j, (zs.getD j 0).natAbs < 256 ^ S) (m : Nat) : (rsq zs c k m).natAbs ≤ m * (256 ^ S * 256 ^ S) := by
 induction m with
 | zero => simp [rsq]
 | succ m ih =>
  rw [rsq, Nat.succ_mul]
  refine Nat.le_trans (Int.natAbs_add_le _ _) (Nat.add_le_add ih ?_)
  rw [Int.natAbs_mul]
  have := hz (k * c + m)
  exact Nat.mul_le_mul (by omega) (by omega)
theorem rsq_pow (zs : List Int) (c k S : Nat) (hz : ∀ j, (zs.getD j 0).natAbs < 256 ^ S) (m : Nat) (hm : m ≤ 400) : (rsq zs c k m).natAbs < 256 ^ (S + S + 2) := by
 refine Nat.lt_of_le_of_lt (rsq_abs zs c k S hz m) ?_
 rw [Nat.pow_add, Nat.pow_add]
 have hp : 0 < 256 ^ S * 256 ^ S := Nat.mul_pos (Nat.pow_pos (by omega)) (Nat.pow_pos (by omega))
 rw [Nat.mul_comm]
 exact (Nat.mul_lt_mul_left hp).2 (by omega)
theorem bnd_pow (zs : List Int) (c S : Nat) (hz : ∀ j, (zs.getD j 0).natAbs < 256 ^ S) (hc : c ≤ 400) (k : Nat) : (bnd zs c k).natAbs ≤ 256 ^ ((S + S + 2) * k) := by
 induction k with
 | zero => simp [bnd]
 | succ k ih =>
  rw [bnd, Int.natAbs_mul, Nat.mul_succ, Nat.pow_add]
  exact Nat.mul_le_mul ih (Nat.le_of_lt (rsq_pow zs c k S hz c hc))
theorem pow_le_lt {a n k : Nat} (h : a ≤ 256 ^ n) (hk : n < k) : a < 256 ^ k := Nat.lt_of_le_of_lt h (Nat.pow_lt_pow_right (by omega) hk)
theorem results_wide1 {fn : Func} {tmps : Array Value} {w : World} {p : Tmp} {b : Nat} {x : Bool} {s : ByteArray} (h : fn.results = #[.cell p 32])
  (ht : tmps.getD p undef = .pointer (some ⟨b, 0, none⟩)) (hw : Wd w b x s) : (results fn tmps).run Tryz.prog w = .ok (.agg #[.bool x, .string s]) w := by
 have := hw.load
 rw [Array.getD_eq_getD_getElem?] at ht
 simp only [results, h]
 simp [Sem.run_bind, Result.andThen, ht, asAddr, this]
theorem Kg.more {row : Option Nat} {w0 w : World} {l : List (Option (Nat × Obj))} (h : Kg row w0 w l) (o : Obj) : Kg row w0 (w.alloc o) (l ++ [some (w.heap.size, o)]) :=
 (h.alloc o).add (heap_alloc_new w o) h.1.size (fun i c p hi => Nat.ne_of_lt (h.lt i hi))
theorem Kept.putNew {B : Nat} {V W : World} (h : Kept B V W) {p : Addr} (hp : V.heap.size ≤ p.block) (v : Value) : Kept B V (W.setCell p v) :=
 ⟨by have := h.1; simpa [World.setCell] using this, fun i h1 h2 => (Below.heap_setCell W p v i (by omega)).trans (h.2 i h1 h2)⟩
def mrow (r c : Int) (A : Option Addr) (n cap : Nat) : Obj := .cells #[.int .i64 r, .int .i64 c, .slice A n cap] 28 (0, 0)
set_option maxRecDepth 100000 in
set_option maxHeartbeats 4000000 in
theorem squareOfBound_any (gA N n cap S : Nat) (zs : List Int) (w : World) (hA : Lw w gA (enc zs)) (hlen : zs.length = n * n) (hn : n ≤ 200) (hN : N = n * n) (hcap : N ≤ cap) (hcapm : cap ≤ maxLen) (hS : S ≤ 1000) (hz : ∀ j, (zs.getD j 0).natAbs < 256 ^ S) :
  Calls Tryz.prog 65 #[mat n n (some ⟨gA, 0, none⟩) N cap] w fun e w' => e = .returned (.agg #[.bool (wneg (bnd zs n n)), .string (wmag (bnd zs n n))]) ∧ Below w.heap.size w w' := by
 have hto := fun W => tableOf_any (n : Int) (n : Int) (some ⟨gA, 0, none⟩) N cap W
 have hf1 := fun W => From_any 1 W (by omega) (by omega)
 rw [wv_def] at hf1
 have szz : ∀ j, (wmag (zs.getD j 0)).size ≤ S := fun j => wmag_size _ _ (hz j)
 have hmul1 := fun (j : Nat) W => Mul_any (wneg (zs.getD j 0)) (wneg (zs.getD j 0)) (wmag (zs.getD j 0)) (wmag (zs.getD j 0)) W (by have := szz j; omega) (by have := szz j; omega)
 have szq : ∀ j, (wmag (zs.getD j 0 * zs.getD j 0)).size ≤ S + S := fun j => wmag_size _ _ (by
  rw [Int.natAbs_mul, Nat.pow_add]
  exact Nat.mul_lt_mul'' (hz j) (hz j))
 have szr : ∀ k m, m ≤ n → (wmag (rsq zs n k m)).size ≤ S + S + 2 := fun k m hm => wmag_size _ _ (rsq_pow zs n k S hz m (by omega))
 have hadd1 := fun (k m j : Nat) (hm : m ≤ n) W => Add_any (wneg (rsq zs n k m)) (wneg (zs.getD j 0 * zs.getD j 0)) (wmag (rsq zs n k m)) (wmag (zs.getD j 0 * zs.getD j 0)) W (by have := szr k m hm; omega) (by have := szq j; omega)
 have szb : ∀ k, k ≤ n → (wmag (bnd zs n k)).size ≤ (S + S + 2) * k + 1 := fun k hk => wmag_size _ _ (pow_le_lt (bnd_pow zs n S hz (by omega) k) (by omega))
 have hmulb := fun (k : Nat) (hk : k ≤ n) W => Mul_any (wneg (bnd zs n k)) (wneg (rsq zs n k n)) (wmag (bnd zs n k)) (wmag (rsq zs n k n)) W (by
  have h1 := szb k hk
  have h2 : (S + S + 2) * k ≤ 2002 * 200 := Nat.mul_le_mul (by omega) (by omega)
  omega) (by have := szr k n (Nat.le_refl _); omega)
 simp only [wint_wv', wv_def] at hmul1 hadd1 hmulb
 unfold mat at *
 have HNN := Lib.hid hN
 have hNr : n * n ≤ cap := by omega
 clear hN
 have HTO := Lib.hid hto
 have HF := Lib.hid hf1
 have HM := Lib.hid hmul1
 have HAD := Lib.hid hadd1
 have HMB := Lib.hid hmulb
 have HA := Lib.hid hA
 have hgA := heap_lt hA
 clear hto hf1 hmul1 hadd1 hmulb szz szq szr szb hA hz
 refine (callsIn_wide (n := 0)).1 ?_
 refine callsIn_of_wp_marks Tryz.func65 rfl trivial ?_ rfl
 simp only [Tryz.ntmps65, List.size_toArray, List.length_cons, List.length_nil, Nat.reduceAdd, Nat.reduceSub, Array.replicate_succ, Array.replicate_zero, List.push_toArray, List.append_toArray, List.nil_append, List.cons_append]
 have hK1 := (Kg.none_ none w 3).new 0 (mrow n n (some ⟨gA, 0, none⟩) N cap) rfl
 have HK2 := Lib.hid (hK1.new 1 (wbox false ⟨#[]⟩) rfl)
 clear hK1
 gi_wp2_with fail
 refine ⟨trivial, rfl, ?_⟩
 with_reducible refine (callsIn_wide.2 (HF.out _)).mono ?_
 rintro e w1 ⟨rfl, hb1⟩
 have HK3 := Lib.hid (((HK2.out.step hb1).new 2 (wbox (wneg 1) (wmag 1)) rfl).cast (l' := [some (w.heap.size, mrow n n (some ⟨gA, 0, none⟩) N cap), some (w.heap.size + 1, wbox false ⟨#[]⟩), some (w1.heap.size, wbox (wneg 1) (wmag 1))]) (by simp))
 have hw1 := (HK2.out.step hb1).1.size
 clear HK2 hb1
 have c0 := HK3.out.cell 0 0 rfl rfl
 have c1 := HK3.out.cell 0 1 rfl rfl
 have c2 := HK3.out.cell 0 2 rfl rfl
 gi_wp2_with fail
 refine ⟨trivial, rfl, ?_⟩
 with_reducible refine (callsIn_wide.2 (HTO.out _)).mono ?_
 rintro e w2 ⟨rfl, hb2⟩
 clear c0 c1 c2
 have HK4 := Lib.hid (HK3.out.step hb2)
 have HA4 := Lib.hid (show Lw w2 gA (enc zs) from (HK4.out.1.block gA hgA (by simp)).trans HA.out)
 generalize hb3 : w1.heap.size = b3 at *
 have hb3l : b3 < w2.heap.size := HK4.out.lt 2 rfl
 clear hb3 hb2 HK3
 gi_wp2_with fail
 refine range_boxed (a := ?A) (ps := #[13, 14]) (gf := 59) (first := #[.agg #[.int .i64 (n : Int), .int .i64 (n : Int), .slice (some ⟨gA, 0, none⟩) N cap]]) ?hg1 (enters_of Tryz.func59 (by kernel_rfl) rfl)
  (each_visits n n (some ⟨gA, 0, none⟩) N cap (by omega) (by omega) hNr hcapm) ?hps1
  (fun k V => Lw V gA (enc zs) ∧ Kg none w V [some (w.heap.size, mrow n n (some ⟨gA, 0, none⟩) N cap), some (w.heap.size + 1, wbox false ⟨#[]⟩), some (b3, wbox (wneg (bnd zs n k)) (wmag (bnd zs n k)))])
  (fun _ _ => False) ?own ?ownx ⟨HA4.out, HK4.out⟩
  (fun k a' V => a' = { tmps := (((?A).tmps.setIfInBounds 13 (.int .i64 (k : Int))).setIfInBounds 14 (.slice (some ⟨gA, k * n * 2, none⟩) n n)).setIfInBounds 5 (.slice (some ⟨gA, k * n * 2, none⟩) n n), defers := [] })
  (fun _ _ _ _ h _ => h) ?assign ?body ?done (fun _ _ _ _ h => h.elim)
 case hg1 => rfl
 case hps1 => exact fun k => rfl
 case own =>
  rintro k V V' ⟨h1, h2⟩ hl
  exact ⟨hl.2 _ _ h1 rfl, h2.later' hl (by have := HK4.out.1.size; omega) rfl⟩
 case ownx => exact fun _ _ _ h _ => h.elim
 case assign =>
  intro l k V K hk hz hI hK
  have hn0 : n ≠ 0 := by omega
  unfold rowArgs
  simp only [if_neg hn0, Option.map_some, add_from0]
  clear hI
  gi_wp2
  exact hK _ _ rfl (Below.refl _ _)
 case body =>
  rintro l k a' V hk hz hl0 hl1 ⟨hLV, hKV⟩ rfl
  simp only [List.setIfInBounds_toArray, List.set_cons_succ, List.set_cons_zero]
  have hK6 := hKV.more (wbox false ⟨#[]⟩)
  have hk6 := (Kept.refl w2.heap.size V).below ((Below.refl _ _).alloc (Nat.le_refl _) (wbox false ⟨#[]⟩))
  have hL6 := hLV.step ((Below.refl _ _).alloc (Nat.le_refl _) (wbox false ⟨#[]⟩))
  have HK6 := Lib.hid (hK6.cast (l' := [some (w.heap.size, mrow n n (some ⟨gA, 0, none⟩) N cap), some (w.heap.size + 1, wbox false ⟨#[]⟩), some (b3, wbox (wneg (bnd zs n k)) (wmag (bnd zs n k))), some (V.heap.size, wbox (wneg (rsq zs n k 0)) (wmag (rsq zs n k 0)))]) rfl)
  have Hk6 := Lib.hid hk6
  have HL6 := Lib.hid hL6
  clear hK6 hk6 hL6 hLV hKV hl1
  gi_wp2_with fail
  change Code.wpIn _ _ _ _ _ _ (V.alloc (wbox false ⟨#[]⟩))
  have hV6 : V.heap.size < (V.alloc (wbox false ⟨#[]⟩)).heap.size := by simp
  generalize V.alloc (wbox false ⟨#[]⟩) = V6 at *
  generalize hb6 : V.heap.size = b6 at *
  gi_loopw [8, 17] (fun _ i wr => ∃ j : Nat, i = .int .i64 j ∧ j ≤ n ∧ Lw wr gA (enc zs) ∧ Kg none w wr [some (w.heap.size, mrow n n (some ⟨gA, 0, none⟩) N cap), some (w.heap.size + 1, wbox false ⟨#[]⟩), some (b3, wbox (wneg (bnd zs n k)) (wmag (bnd zs n k))), some (b6, wbox (wneg (rsq zs n k j)) (wmag (rsq zs n k j)))] ∧ Kept w2.heap.size V wr) (fun _ i _ => n - (intOf i).toNat)
  case atStart => exact ⟨0, rfl, Nat.zero_le _, HL6.out, HK6.out, Hk6.out⟩
  case round =>
   obtain ⟨j, rfl, hj, hL, hK, hkk⟩ := hrel
   by_cases hlt : j < n
   ·have hin : k * n + j < zs.length := by
     rw [hlen]
     have := Nat.mul_le_mul_right n (show k + 1 ≤ n by omega)
     rw [Nat.add_mul] at this
     omega
    have c0 := hL.cell0 (k * n + j) (by rw [enc_length]; exact hin)
    have c1 := hL.cell1 (k * n + j) (by rw [enc_length]; exact hin)
    rw [enc_get] at c0 c1
    rw [Nat.add_mul] at c0 c1
    dsimp only at c0 c1
    have hm := fun W => HM.out (k * n + j) W
    have ha := fun W => HAD.out k j (k * n + j) (by omega) W
    have hnx : rsq zs n k (j + 1) = rsq zs n k j + zs.getD (k * n + j) 0 * zs.getD (k * n + j) 0 := rfl
    rw [← hnx] at ha
    clear hnx
    generalize hr1 : rsq zs n k (j + 1) = r1 at *
    have HR1 := Lib.hid hr1
    clear hr1
    generalize rsq zs n k j = r0 at *
    generalize zs.getD (k * n + j) 0 * zs.getD (k * n + j) 0 = zq at *
    generalize wneg (zs.getD (k * n + j) 0) = zx at *
    generalize wmag (zs.getD (k * n + j) 0) = zm at *
    have HMJ := Lib.hid hm
    have HAJ := Lib.hid ha
    have hKa := hK.more (wbox zx zm)
    have hbw : Below wr.heap.size wr (wr.alloc (wbox zx zm)) := (Below.refl _ _).alloc (Nat.le_refl _) _
    have HLa := Lib.hid (hL.step hbw)
    have Hka := Lib.hid (hkk.below hbw)
    have HKa := Lib.hid (hKa.cast (l' := [some (w.heap.size, mrow n n (some ⟨gA, 0, none⟩) N cap), some (w.heap.size + 1, wbox false ⟨#[]⟩), some (b3, wbox (wneg (bnd zs n k)) (wmag (bnd zs n k))), some (b6, wbox (wneg r0) (wmag r0)), some (wr.heap.size, wbox zx zm)]) rfl)
    clear hm ha hKa hbw hL hK hkk HK6 Hk6 HL6
    gi_wp2_with fail
    clear c0 c1
    change Code.wpIn _ _ _ _ _ _ (wr.alloc (wbox zx zm))
    generalize wr.alloc (wbox zx zm) = W8 at *
    generalize wr.heap.size = b8 at *
    refine wpIn_region_facts (X := Unit) (fun x => [(0, 21, .agg #[.bool (wneg r0), .string (wmag r0)]), (1, 22, .agg #[.bool zx, .string zm]), (2, 23, .agg #[.bool zx, .string zm]), (3, 24, .agg #[.bool (wneg zq), .string (wmag zq)]), (4, 25, .agg #[.bool (wneg r1), .string (wmag r1)])])
     (fun _ L W => Lw W gA (enc zs) ∧ Kg none w W [some (w.heap.size, mrow n n (some ⟨gA, 0, none⟩) N cap), some (w.heap.size + 1, wbox false ⟨#[]⟩), some (b3, wbox (wneg (bnd zs n k)) (wmag (bnd zs n k))), some (b6, if L 5 = true then wbox (wneg r1) (wmag r1) else wbox (wneg r0) (wmag r0)), some (b8, wbox zx zm)] ∧ Kept w2.heap.size V W) (by kernel_rfl) (by kernel_rfl) () ⟨HLa.out, HKa.out.drew, Hka.out.drew⟩ (by kernel_rfl) ?_ ?_
    ·repeat' (first | exact FactStepsIn.nil | refine FactStepsIn.cons ?_ ?_)
     all_goals
      intro L x wx hJ hl hd hs K hK
      (try simp [Region.binds] at hd)
      have e0 := hJ.2.1.cell 4 0 rfl rfl
      have e1 := hJ.2.1.cell 4 1 rfl rfl
      simp only [selA, selT_cons, selT_nil, List.set_cons_zero, List.set_cons_succ, List.getD_cons_zero, List.getD_cons_succ, hd, hl, selV_true, selV_false]
     ·have hn := hs 5 _ rfl (by simp [Region.binds])
      have hB := hJ.2.1
      simp only [hn, Bool.false_eq_true, if_false] at hB
      have e2 := hB.cell 3 0 rfl rfl
      have e3 := hB.cell 3 1 rfl rfl
      go_simp
      refine hK.out x _ _ ?_ ?_
      ·simp [selA, selT_cons, selT_nil, hl, hd, hn, selV_true, selV_false]
      ·simpa [hl] using hJ
     ·go_simp
      refine hK.out x _ _ ?_ ?_
      ·simp [selA, selT_cons, selT_nil, hl, hd, selV_true, selV_false]
      ·simpa [hl] using hJ
     ·go_simp
      refine hK.out x _ _ ?_ ?_
      ·simp [selA, selT_cons, selT_nil, hl, hd, selV_true, selV_false]
      ·simpa [hl] using hJ
     ·go_simp
      refine ⟨trivial, rfl, ?_⟩
      with_reducible refine (CallsIn.inRound l (callsIn_wide.2 (HMJ.out _))).mono ?_
      rintro e v ⟨rfl, hb⟩
      refine hK.out x _ _ ?_ ?_
      ·simp [selA, selT_cons, selT_nil, hl, hd, selV_true, selV_false]
      ·exact ⟨hJ.1.step hb, by simpa using hJ.2.1.step hb, hJ.2.2.below hb⟩
     ·go_simp
      refine ⟨trivial, rfl, ?_⟩
      with_reducible refine (CallsIn.inRound l (callsIn_wide.2 (HAJ.out _))).mono ?_
      rintro e v ⟨rfl, hb⟩
      refine hK.out x _ _ ?_ ?_
      ·simp [selA, selT_cons, selT_nil, hl, hd, selV_true, selV_false]
      ·exact ⟨hJ.1.step hb, by simpa using hJ.2.1.step hb, hJ.2.2.below hb⟩
     ·have hB := hJ.2.1
      simp only [hl, Bool.false_eq_true, if_false] at hB
      have d0 := hB.cell 3 0 rfl rfl
      have d1 := hB.cell 3 1 rfl rfl
      have f0 := hB.frozen 3 0 rfl
      have f1 := hB.frozen 3 1 rfl
      have hge := hB.ge 3 rfl
      go_simp
      refine hK.out x _ _ ?_ ?_
      ·simp [selA, selT_cons, selT_nil, hl, hd, selV_true, selV_false]
      ·refine ⟨(Below.heap_setCell _ _ _ _ (by simp only []; omega)).trans ((Below.heap_setCell _ _ _ _ (by simp only []; omega)).trans hJ.1), (hB.put 3 0 rfl _).put 3 1 rfl _, (hJ.2.2.putNew (p := ⟨b6, 0, none⟩) (by simp only []; omega) _).putNew (p := ⟨b6, 1, none⟩) (by simp only []; omega) _⟩
    ·rintro _ Wx ⟨hLx, hKx, hkx⟩
     simp only [selA, selT_cons, selT_nil, List.set_cons_zero, List.set_cons_succ, List.getD_cons_zero, List.getD_cons_succ, selV_true]
     simp only [if_true] at hKx
     gi_wp2
     go_roundw
     case rel => exact ⟨j + 1, rfl, by omega, hLx, by rw [HR1.out]; exact hKx.take 4, hkx⟩
     case measure => simp [intOf]; omega
   ·obtain rfl : j = n := by omega
    have d0 := hK.cell 2 0 rfl rfl
    have d1 := hK.cell 2 1 rfl rfl
    have d2 := hK.cell 3 0 rfl rfl
    have d3 := hK.cell 3 1 rfl rfl
    have hm := fun W => HMB.out k (by omega) W
    have hnx : bnd zs j (k + 1) = bnd zs j k * rsq zs j k j := rfl
    rw [← hnx] at hm
    have HNX := Lib.hid hnx
    have HMJ := Lib.hid hm
    have HL := Lib.hid hL
    have HK := Lib.hid hK
    have HKK := Lib.hid hkk
    clear hm hL hK hkk hnx HK6 Hk6 HL6 hj
    gi_wp2_with fail
    refine ⟨trivial, rfl, ?_⟩
    with_reducible refine (CallsIn.inRound l (callsIn_wide.2 (HMJ.out _))).mono ?_
    rintro e w9 ⟨rfl, hb9⟩
    clear d0 d1 d2 d3
    have hK9 := HK.out.step hb9
    have d0 := hK9.cell 2 0 rfl rfl
    have d1 := hK9.cell 2 1 rfl rfl
    have f0 := hK9.frozen 2 0 rfl
    have f1 := hK9.frozen 2 1 rfl
    have HK9 := Lib.hid hK9
    have HL9 := Lib.hid (HL.out.step hb9)
    have HKK9 := Lib.hid (HKK.out.below hb9)
    clear hK9 hb9 HK HL HKK
    gi_wp2_with fail
    refine ⟨(HKK9.out.put (p := ⟨b3, 0, none⟩) (by simp only []; omega) _).put (p := ⟨b3, 1, none⟩) (by simp only []; omega) _, (Below.heap_setCell _ _ _ _ ?_).trans ((Below.heap_setCell _ _ _ _ ?_).trans HL9.out), ((HK9.out.put 2 0 rfl _).put 2 1 rfl _).take 3⟩
    ·have := HK9.out.ge 2 rfl
     simp only []
     omega
    ·have := HK9.out.ge 2 rfl
     simp only []
     omega
 case done =>
  rintro D V hD ⟨h1, h2⟩ hd
  have c0 := h2.cell 2 0 rfl rfl
  have c1 := h2.cell 2 1 rfl rfl
  have d0 := h2.cell 1 0 rfl rfl
  have d1 := h2.cell 1 1 rfl rfl
  have f0 := h2.frozen 1 0 rfl
  have f1 := h2.frozen 1 1 rfl
  have HK := Lib.hid h2
  clear h2
  gi_wp2_with fail
  have hb1l := HK.out.lt 1 rfl
  have hK' := (HK.out.put 1 0 rfl (.bool (wneg (bnd zs n n)))).put 1 1 rfl (.string (wmag (bnd zs n n)))
  have hd2 : ((V.setCell ⟨w.heap.size + 1, 0, none⟩ (.bool (wneg (bnd zs n n)))).setCell ⟨w.heap.size + 1, 1, none⟩ (.string (wmag (bnd zs n n)))).heap[D]? = some (.deferred (some [])) :=
   (Below.heap_setCell _ _ _ _ (by have := HK4.out.lt 1 rfl; simp only []; omega)).trans ((Below.heap_setCell _ _ _ _ (by have := HK4.out.lt 1 rfl; simp only []; omega)).trans hd)
  have hlp := later_put (B := w2.heap.size) (.deferred none) hD hd2 rfl
  have hK2 := hK'.later' hlp (by have := HK4.out.1.size; omega) rfl
  refine ⟨by simp, .inl ⟨_, _, rfl, run_takeDeferred hd2, ?_⟩⟩
  exact ⟨_, results_wide1 (b := w.heap.size + 1) rfl rfl (hK2.at_ 1 rfl), rfl, ⟨hK2.1.os, hK2.1.tape, hK2.1.output, hK2.1.size, fun i hi => hK2.1.block i hi (by simp)⟩⟩
end Go.Proofs.YtknaghdoffigjaaGreatDoor
namespace Go.Proofs.YtknaghdoffigjaaGreatDoor
open Go.RowKit Go
def redZ (r c p : Nat) (xs : List Nat) : Nat → Bool
 | 0 => false
 | k + 1 => redZ r c p xs k || decide (redP r c p xs k = 0)
theorem redZ_true (r c p : Nat) (xs : List Nat) (k j : Nat) (hj : j < k) (h : redP r c p xs j = 0) : redZ r c p xs k = true := by
 induction k with
 | zero => omega
 | succ k ih =>
  rw [redZ]
  rcases Nat.lt_or_ge j k with h1 | h1
  ·rw [ih h1, Bool.true_or]
  ·rw [show k = j by omega, h]; simp
theorem redZ_false (r c p : Nat) (xs : List Nat) (k : Nat) (h : ∀ j, j < k → redP r c p xs j ≠ 0) : redZ r c p xs k = false := by
 induction k with
 | zero => rfl
 | succ k ih => rw [redZ, ih (fun j hj => h j (by omega)), Bool.false_or]; simpa using h k (by omega)
def detR (r c p : Nat) (xs : List Nat) : Nat := if redZ r c p xs r = true then 0 else redD r c p xs r
theorem RedEnd.det {r c p : Nat} {xs ys : List Nat} {d : Nat} (h : RedEnd r c p xs ys d) : d = detR r c p xs := by
 rcases h with ⟨k, hk, _, h0, _, rfl⟩ | ⟨h, _, rfl⟩
 ·rw [detR, redZ_true r c p xs r k hk h0, if_pos rfl]
 ·rw [detR, redZ_false r c p xs r h, if_neg (by simp)]
theorem detR_lt (r c p : Nat) (xs : List Nat) (hp : 1 < p) : detR r c p xs < p := by
 unfold detR
 split
 ·omega
 ·exact redD_lt r c p xs hp r
def resid (p : Nat) (zs : List Int) : List Nat := (List.range zs.length).map fun j => (zs.getD j 0 % (p : Int)).toNat
theorem resid_length (p : Nat) (zs : List Int) : (resid p zs).length = zs.length := by simp [resid]
theorem resid_lt (p : Nat) (zs : List Int) (hp : 0 < p) (j : Nat) : (resid p zs).getD j 0 < p := by
 unfold resid
 rw [List.getD_eq_getElem?_getD, List.getElem?_map]
 cases h : (List.range zs.length)[j]? with
 | none => simpa using hp
 | some i =>
  simp only [Option.map_some, Option.getD_some]
  have h0 := Int.emod_nonneg (zs.getD i 0) (show (p : Int) ≠ 0 by omega)
  have h1 := Int.emod_lt_of_pos (zs.getD i 0) (show (0 : Int) < (p : Int) by omega)
  omega
def estM (pl : List Nat) : Nat → Int
 | 0 => 1
 | k + 1 => estM pl k * ((pl.getD k 0 : Nat) : Int)
def detV (pl : List Nat) (n : Nat) (zs : List Int) : Nat → Int
 | 0 => 0
 | k + 1 => refV (pl.getD k 0) (refI (pl.getD k 0) (estM pl k)) (estM pl k) (detV pl n zs k) (detR n n (pl.getD k 0) (resid (pl.getD k 0) zs))
def limV (pl : List Nat) (l0 : Int) : Nat → Int
 | 0 => l0
 | k + 1 => limV pl l0 k / (((pl.getD k 0 : Nat) : Int) * ((pl.getD k 0 : Nat) : Int))
theorem estM_abs (pl : List Nat) (k : Nat) (h : ∀ j, j < k → pl.getD j 0 < 2147483648) : (estM pl k).natAbs ≤ 2147483648 ^ k := by
 induction k with
 | zero => simp [estM]
 | succ k ih =>
  rw [estM, Int.natAbs_mul, Nat.pow_succ]
  have := h k (by omega)
  exact Nat.mul_le_mul (ih fun j hj => h j (by omega)) (by omega)
theorem balZ_le (p n : Nat) (hn : n < p) : (balZ p n).natAbs ≤ p := by
 unfold balZ
 split <;> omega
theorem refG_lt (p iv : Nat) (v : Int) (rs : Nat) (hp : 0 < p) : refG p iv v rs < p := Nat.mod_lt _ hp
theorem detV_abs (pl : List Nat) (n : Nat) (zs : List Int) (k : Nat) (h : ∀ j, j < k → 0 < pl.getD j 0 ∧ pl.getD j 0 < 2147483648) : (detV pl n zs k).natAbs ≤ k * 2147483648 ^ k := by
 induction k with
 | zero => simp [detV]
 | succ k ih =>
  have ih := ih fun j hj => h j (by omega)
  have hm := estM_abs pl k fun j hj => (h j (by omega)).2
  have hp := h k (by omega)
  have h1 : 2147483648 ^ k ≤ 2147483648 ^ (k + 1) := Nat.pow_le_pow_right (by omega) (by omega)
  have h2 : k * 2147483648 ^ k ≤ k * 2147483648 ^ (k + 1) := Nat.mul_le_mul_left _ h1
  rw [detV, refV, Nat.succ_mul]
  split
  ·omega
  ·refine Nat.le_trans (Int.natAbs_add_le _ _) (Nat.add_le_add (by omega) ?_)
   rw [Int.natAbs_mul, Nat.pow_succ, Nat.mul_comm]
   refine Nat.mul_le_mul hm ?_
   have := balZ_le (pl.getD k 0) _ (refG_lt (pl.getD k 0) (refI (pl.getD k 0) (estM pl k)) (detV pl n zs k) (detR n n (pl.getD k 0) (resid (pl.getD k 0) zs)) hp.1)
   omega
theorem pow31 (k : Nat) : 2147483648 ^ k ≤ 256 ^ (4 * k) := by
 rw [Nat.pow_mul]
 exact Nat.pow_le_pow_left (by decide) k
theorem estM_size (pl : List Nat) (k : Nat) (h : ∀ j, j < k → pl.getD j 0 < 2147483648) : (wmag (estM pl k)).size ≤ 4 * k + 1 :=
 wmag_size _ _ (pow_le_lt (Nat.le_trans (estM_abs pl k h) (pow31 k)) (by omega))
theorem detV_size (pl : List Nat) (n : Nat) (zs : List Int) (k : Nat) (hk : k ≤ 200) (h : ∀ j, j < k → 0 < pl.getD j 0 ∧ pl.getD j 0 < 2147483648) : (wmag (detV pl n zs k)).size ≤ 4 * k + 1 := by
 refine wmag_size _ _ (Nat.lt_of_le_of_lt (detV_abs pl n zs k h) ?_)
 rw [Nat.pow_succ, Nat.mul_comm]
 have h1 := pow31 k
 have h2 : 0 < 256 ^ (4 * k) := Nat.pow_pos (by omega)
 calc 2147483648 ^ k * k ≤ 256 ^ (4 * k) * k := Nat.mul_le_mul_right _ h1
  _ < 256 ^ (4 * k) * 256 := (Nat.mul_lt_mul_left h2).2 (by omega)
theorem rsq_nonneg (zs : List Int) (c k m : Nat) : 0 ≤ rsq zs c k m := by
 induction m with
 | zero => exact Int.le_refl _
 | succ m ih => rw [rsq]; exact Int.add_nonneg ih (by
  rcases Int.le_total 0 (zs.getD (k * c + m) 0) with h | h
  ·exact Int.mul_nonneg h h
  ·exact Int.mul_nonneg_of_nonpos_of_nonpos h h)
theorem bnd_nonneg (zs : List Int) (c k : Nat) : 0 ≤ bnd zs c k := by
 induction k with
 | zero => exact (by decide : (0 : Int) ≤ 1)
 | succ k ih => rw [bnd]; exact Int.mul_nonneg ih (rsq_nonneg zs c k c)
theorem limV_bounds (pl : List Nat) (l0 : Int) (h0 : 0 ≤ l0) (k : Nat) : 0 ≤ limV pl l0 k ∧ limV pl l0 k ≤ l0 := by
 induction k with
 | zero => exact ⟨h0, Int.le_refl _⟩
 | succ k ih =>
  rw [limV]
  have hp : 0 ≤ ((pl.getD k 0 : Nat) : Int) * ((pl.getD k 0 : Nat) : Int) := Int.mul_nonneg (by omega) (by omega)
  exact ⟨Int.ediv_nonneg ih.1 hp, Int.le_trans (Int.ediv_le_self _ ih.1) ih.2⟩
def lwO (l : List (Bool × ByteArray)) : Obj := .cells (flat l).toArray 32 (0, 0)
def lsO (xs : List Nat) : Obj := .cells (U xs) 80 (0, 0)
def estO (M : Int) (A : Option Addr) (n cap : Nat) : Obj := .cells #[.bool (wneg M), .string (wmag M), .slice A n cap] 77 (0, 0)
def entO (a : Bool) (b : Nat) (o : Obj) : Option (Nat × Obj) := if a = true then some (b, o) else none
theorem entO_no (b : Nat) (o : Obj) : entO false b o = none := rfl
theorem entO_yes (b : Nat) (o : Obj) : entO true b o = some (b, o) := rfl
def tabO (r c : Int) (A : Option Addr) (n cap : Nat) : Obj := .cells #[.int .i64 r, .int .i64 c, .slice A n cap] 88 (0, 0)
section
variable {row : Option Nat} {w0 w w' : World} {l : List (Option (Nat × Obj))}
theorem Kg.room (h : Kg row w0 w l) : Kg row w0 w (l ++ [none]) := by
 have ht : ∀ (i b : Nat) (o : Obj), (l ++ [none])[i]? = some (some (b, o)) → l[i]? = some (some (b, o)) := fun i b o hi => by
  by_cases hl : i < l.length
  ·rwa [List.getElem?_append_left hl] at hi
  ·rw [List.getElem?_append_right (by omega)] at hi
   by_cases h0 : i - l.length = 0
   ·rw [h0] at hi; simp at hi
   ·rw [List.getElem?_eq_none (by simp; omega)] at hi; cases hi
 exact ⟨h.1, fun i b o hi => h.2.1 i b o (ht i b o hi), fun i j b c o p hi hj => h.2.2 i j b c o p (ht i b o hi) (ht j c p hj)⟩
theorem Kg.came (h : Kg row w0 w l) (i : Nat) (hi : l[i]? = some none) {g : Nat} {o : Obj} (hb : Below w.heap.size w w') (hg : w.heap.size ≤ g) (ho : w'.heap[g]? = some o) : Kg row w0 w' (l.set i (some (g, o))) := by
 have hl : i < l.length := (List.getElem?_eq_some_iff.1 hi).1
 have ht : ∀ (j b : Nat) (p : Obj), (l.set i (some (g, o)))[j]? = some (some (b, p)) → (j = i ∧ b = g ∧ p = o) ∨ (j ≠ i ∧ l[j]? = some (some (b, p))) := fun j b p hj => by
  by_cases hij : i = j
  ·subst hij
   rw [List.getElem?_set_self hl] at hj
   simp at hj
   exact .inl ⟨rfl, hj.1.symm, hj.2.symm⟩
  ·rw [List.getElem?_set_ne hij] at hj
   exact .inr ⟨fun e => hij e.symm, hj⟩
 refine ⟨grown_below h.1 hb, fun j b p hj => ?_, fun j k b c p q hj hk hjk => ?_⟩
 ·rcases ht j b p hj with ⟨_, rfl, rfl⟩ | ⟨_, e⟩
  ·exact ⟨Nat.le_trans h.1.size hg, ho⟩
  ·exact ⟨h.ge j e, (hb.block b (h.lt j e)).trans (h.at_ j e)⟩
 ·rcases ht j b p hj with ⟨rfl, rfl, rfl⟩ | ⟨hne, e⟩
  ·rcases ht k c q hk with ⟨rfl, rfl, rfl⟩ | ⟨hne2, e2⟩
   ·exact absurd rfl hjk
   ·have := h.lt k e2; omega
  ·rcases ht k c q hk with ⟨rfl, rfl, rfl⟩ | ⟨hne2, e2⟩
   ·have := h.lt j e; omega
   ·exact h.2.2 j k b c p q e e2 hjk
theorem Kg.change (h : Kg row w0 w l) (i : Nat) {b : Nat} {o o' : Obj} (hi : l[i]? = some (some (b, o))) (hb : w.grownBy w' (some b)) (ho : w'.heap[b]? = some o') : Kg row w0 w' (l.set i (some (b, o'))) := by
 have hl : i < l.length := (List.getElem?_eq_some_iff.1 hi).1
 have ht : ∀ (j c : Nat) (p : Obj), (l.set i (some (b, o')))[j]? = some (some (c, p)) → (j = i ∧ c = b ∧ p = o') ∨ (j ≠ i ∧ l[j]? = some (some (c, p))) := fun j c p hj => by
  by_cases hij : i = j
  ·subst hij
   rw [List.getElem?_set_self hl] at hj
   simp at hj
   exact .inl ⟨rfl, hj.1.symm, hj.2.symm⟩
  ·rw [List.getElem?_set_ne hij] at hj
   exact .inr ⟨fun e => hij e.symm, hj⟩
 refine ⟨grown_past h.1 hb (h.ge i hi), fun j c p hj => ?_, fun j k c d p q hj hk hjk => ?_⟩
 ·rcases ht j c p hj with ⟨rfl, rfl, rfl⟩ | ⟨hne, e⟩
  ·exact ⟨h.ge j hi, ho⟩
  ·exact ⟨h.ge j e, (hb.block c (h.lt j e) (by have := h.ne j i e hi hne; simpa using this)).trans (h.at_ j e)⟩
 ·rcases ht j c p hj with ⟨rfl, rfl, rfl⟩ | ⟨hne, e⟩
  ·rcases ht k d q hk with ⟨rfl, rfl, rfl⟩ | ⟨hne2, e2⟩
   ·exact absurd rfl hjk
   ·exact h.ne _ _ hi e2 hjk
  ·rcases ht k d q hk with ⟨rfl, rfl, rfl⟩ | ⟨hne2, e2⟩
   ·exact h.ne _ _ e hi hjk
   ·exact h.ne _ _ e e2 hjk
theorem Kg.fill (h : Kg row w0 w l) (i : Nat) (hi : l[i]? = some none) {g : Nat} {o : Obj} (hg : w0.heap.size ≤ g) (ho : w.heap[g]? = some o) (hne : ∀ (j c : Nat) (p : Obj), l[j]? = some (some (c, p)) → c ≠ g) : Kg row w0 w (l.set i (some (g, o))) := by
 have hl : i < l.length := (List.getElem?_eq_some_iff.1 hi).1
 have ht : ∀ (j b : Nat) (p : Obj), (l.set i (some (g, o)))[j]? = some (some (b, p)) → (j = i ∧ b = g ∧ p = o) ∨ (j ≠ i ∧ l[j]? = some (some (b, p))) := fun j b p hj => by
  by_cases hij : i = j
  ·subst hij
   rw [List.getElem?_set_self hl] at hj
   simp at hj
   exact .inl ⟨rfl, hj.1.symm, hj.2.symm⟩
  ·rw [List.getElem?_set_ne hij] at hj
   exact .inr ⟨fun e => hij e.symm, hj⟩
 refine ⟨h.1, fun j b p hj => ?_, fun j k b c p q hj hk hjk => ?_⟩
 ·rcases ht j b p hj with ⟨_, rfl, rfl⟩ | ⟨_, e⟩
  ·exact ⟨hg, ho⟩
  ·exact ⟨h.ge j e, h.at_ j e⟩
 ·rcases ht j b p hj with ⟨rfl, rfl, rfl⟩ | ⟨hne', e⟩
  ·rcases ht k c q hk with ⟨rfl, rfl, rfl⟩ | ⟨hne2, e2⟩
   ·exact absurd rfl hjk
   ·exact (hne k c q e2).symm
  ·rcases ht k c q hk with ⟨rfl, rfl, rfl⟩ | ⟨hne2, e2⟩
   ·exact hne j b p e
   ·exact h.2.2 j k b c p q e e2 hjk
theorem Kg.cameG (h : Kg row w0 w l) (i ib : Nat) {b g : Nat} {ob o' o : Obj} (hib : l[ib]? = some (some (b, ob))) (hi : (l.set ib (some (b, o')))[i]? = some none) (hb : w.grownBy w' (some b)) (ho' : w'.heap[b]? = some o') (hg : w.heap.size ≤ g) (ho : w'.heap[g]? = some o) :
  Kg row w0 w' ((l.set ib (some (b, o'))).set i (some (g, o))) := by
 refine (h.change ib hib hb ho').fill i hi (Nat.le_trans h.1.size hg) ho fun j c p hj => ?_
 have hl : ib < l.length := (List.getElem?_eq_some_iff.1 hib).1
 by_cases hij : ib = j
 ·subst hij
  rw [List.getElem?_set_self hl] at hj
  simp at hj
  have := h.lt _ hib
  omega
 ·rw [List.getElem?_set_ne hij] at hj
  have := h.lt _ hj
  omega
theorem Kg.sel (h : Kg row w0 w l) (idx : List Nat) (hn : idx.Nodup) : Kg row w0 w (idx.map fun i => (l[i]?).getD none) := by
 have ht : ∀ (i b : Nat) (o : Obj), (idx.map fun i => (l[i]?).getD none)[i]? = some (some (b, o)) → ∃ j, idx[i]? = some j ∧ l[j]? = some (some (b, o)) := fun i b o hi => by
  rw [List.getElem?_map] at hi
  cases hx : idx[i]? with
  | none => rw [hx] at hi; cases hi
  | some j =>
   rw [hx] at hi
   simp only [Option.map_some, Option.some.injEq] at hi
   refine ⟨j, rfl, ?_⟩
   cases hy : l[j]? with
   | none => rw [hy] at hi; cases hi
   | some z => rw [hy] at hi; simp only [Option.getD_some] at hi; rw [hi]
 refine ⟨h.1, fun i b o hi => ?_, fun i j b c o p hi hj hij => ?_⟩
 ·obtain ⟨k, _, hk⟩ := ht i b o hi
  exact h.2.1 k b o hk
 ·obtain ⟨k, hk1, hk⟩ := ht i b o hi
  obtain ⟨m, hm1, hm⟩ := ht j c p hj
  refine h.2.2 k m b c o p hk hm ?_
  rintro rfl
  obtain ⟨l1, e1⟩ := List.getElem?_eq_some_iff.1 hk1
  obtain ⟨l2, e2⟩ := List.getElem?_eq_some_iff.1 hm1
  rcases Nat.lt_or_gt_of_ne hij with h3 | h3
  ·exact List.pairwise_iff_getElem.1 hn i j l1 l2 h3 (e1.trans e2.symm)
  ·exact List.pairwise_iff_getElem.1 hn j i l2 l1 h3 (e2.trans e1.symm)
end
theorem Kept.grownNew {B : Nat} {V W X : World} {g : Nat} (h : Kept B V W) (hb : W.grownBy X (some g)) (hg : V.heap.size ≤ g) : Kept B V X :=
 ⟨Nat.le_trans h.1 hb.size, fun i h1 h2 => (hb.block i (Nat.lt_of_lt_of_le h2 h.1) (fun e => by cases e; omega)).trans (h.2 i h1 h2)⟩
theorem Lw.rdw {w : World} {g : Nat} {zs : List (Bool × ByteArray)} (h : Lw w g zs) : RdW w (some ⟨g, 0, none⟩) zs := fun k hk =>
 ⟨_, rfl, heap_lt h, by rw [add_from0]; exact h.cell0 k hk, by rw [add_from0]; exact h.cell1 k hk⟩
theorem isSquare_any (r c : Int) (A : Option Addr) (n cap : Nat) (zs : List (Bool × ByteArray)) (w : World) (hr : RdW w A zs) (hn : zs.length = n) (hm : n ≤ maxLen) :
  Calls Tryz.prog 64 #[mat r c A n cap] w fun e w' => e = .returned (.bool (mright r c zs && r == c)) ∧ Below w.heap.size w w' := by
 have hbel : Below w.heap.size w (w.alloc (mrow r c A n cap)) := (Below.refl _ _).alloc (Nat.le_refl _) _
 have hR := Right_any r c A n cap zs (w.alloc (mrow r c A n cap)) (hr.below hbel) hn hm
 have hB : Mb (w.alloc (mrow r c A n cap)) w.heap.size r c A n cap := Mb.new _ _ _ _ _ _
 have c0 := hB.cell0
 have c1 := hB.cell1
 have c2 := hB.cell2
 unfold mat at *
 generalize mright r c zs = b at *
 have HR := Lib.hid hR
 clear hR hr
 go_enter Tryz.func64, Tryz.ntmps64
 go_wp2_with fail
 change Calls _ _ _ (w.alloc (mrow r c A n cap)) _
 with_reducible refine HR.out.mono ?_
 rintro e w1 ⟨rfl, hb1⟩
 have hB1 := hB.below hb1 hB.lt
 clear c0 c1 c2
 have c0 := hB1.cell0
 have c1 := hB1.cell1
 have hbe := hbel.trans (hb1.mono (by simp))
 cases b with
 | false =>
  go_wp2
  go_ret
  exact ⟨rfl, hbe⟩
 | true =>
  go_wp2
  go_ret
  exact ⟨by simp, hbe⟩
end Go.Proofs.YtknaghdoffigjaaGreatDoor
