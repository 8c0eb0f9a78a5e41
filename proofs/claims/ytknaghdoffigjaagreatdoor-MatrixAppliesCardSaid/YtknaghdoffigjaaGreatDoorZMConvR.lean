import Derived.Test.YtknaghdoffigjaaGreatDoorMRed
set_option linter.unusedSimpArgs false
set_option linter.unusedVariables false
set_option linter.unnecessarySimpa false
namespace Go.Proofs.YtknaghdoffigjaaGreatDoor
open Go.RowKit Go
def enc (zs : List Int) : List (Bool × ByteArray) := zs.map fun z => (wneg z, wmag z)
theorem enc_length (zs : List Int) : (enc zs).length = zs.length := by simp [enc]
theorem enc_get (zs : List Int) (k : Nat) (h : k < (enc zs).length) : (enc zs)[k] = (wneg (zs.getD k 0), wmag (zs.getD k 0)) := by
 have hk : k < zs.length := by rw [enc_length] at h; exact h
 simp [enc, hk]
def cvQ (f : Nat → Nat) (n k : Nat) : List Nat := (List.range n).map fun j => if j < k then f j else 0
theorem cvQ_zero (f : Nat → Nat) (n : Nat) : cvQ f n 0 = List.replicate n 0 := by
 unfold cvQ
 apply List.ext_getElem
 ·simp
 ·intro i h1 h2
  simp
theorem cvQ_next (f : Nat → Nat) (n k : Nat) : (cvQ f n k).set k (f k) = cvQ f n (k + 1) := by
 unfold cvQ
 apply List.ext_getElem
 ·simp
 ·intro i h1 h2
  rw [List.getElem_set]
  simp only [List.getElem_map, List.getElem_range]
  by_cases h : k = i
  ·subst h
   rw [if_pos rfl, if_pos (by omega)]
  ·rw [if_neg h]
   by_cases hl : i < k
   ·rw [if_pos hl, if_pos (by omega)]
   ·rw [if_neg hl, if_neg (by omega)]
theorem cvQ_length (f : Nat → Nat) (n k : Nat) : (cvQ f n k).length = n := by simp [cvQ]
theorem cvQ_full (f : Nat → Nat) (n : Nat) : cvQ f n n = (List.range n).map f := by
 unfold cvQ
 apply List.ext_getElem
 ·simp
 ·intro i h1 h2
  have : i < n := by simpa using h1
  simp [this]
set_option maxRecDepth 100000 in
set_option maxHeartbeats 4000000 in
theorem convert_residue (A : Option Addr) (n c p : Nat) (zs : List Int) (w : World) (hx : RdW w A (enc zs)) (hn : zs.length = n) (hn2 : n ≤ 40000) (hp : 0 < p) (hp2 : p < 2147483648) (hb : ∀ k, k < n → (wmag (zs.getD k 0)).size ≤ 900) :
  Calls Tryz.prog 69 #[.slice A n c, .func (.func 70) #[mmod p] #[]] w fun e w' =>
   ∃ g, e = .returned (.slice (some ⟨g, 0, none⟩) n n) ∧ w.heap.size ≤ g ∧ Lst w' g ((List.range n).map fun j => (zs.getD j 0 % (p : Int)).toNat) ∧ Below w.heap.size w w' := by
 rw [← cvQ_full]
 obtain ⟨f, hf⟩ : ∃ f : Nat → Nat, f = fun j => (zs.getD j 0 % (p : Int)).toNat := ⟨_, rfl⟩
 rw [← hf]
 have hmk := make_words n (by omega)
 have hres := fun (k : Nat) (hk : k < n) W => residue_any p (wneg (zs.getD k 0)) (wmag (zs.getD k 0)) W hp hp2 (hb k hk) (zs.getD k 0) (wint_wv' _)
 unfold mmod at *
 generalize ((18446744073709551615 / p : Nat) : Int) = q at *
 have HX := Lib.hid hx
 have HN := Lib.hid hn
 have HR := Lib.hid hres
 clear hx hn hb hres
 obtain ⟨g, hg⟩ : ∃ g, g = w.heap.size := ⟨_, rfl⟩
 have hL0 : Lst (w.alloc (.cells (U (List.replicate n 0)) 80)) g (cvQ f n 0) := by
  rw [cvQ_zero, hg]
  exact Lst.new w _
 have hB0 : Below g w (w.alloc (.cells (U (List.replicate n 0)) 80)) := (Below.refl _ _).alloc (by omega) _
 go_enter Tryz.func69, Tryz.ntmps69
 go_wp2_with fail
 rw [← hg]
 have HG := Lib.hid hg
 clear hg hmk
 go_loopw [6, 7, 13] (fun _ _ i wr => ∃ k : Nat, i = .int .i64 k ∧ k ≤ n ∧ Lst wr g (cvQ f n k) ∧ Below g w wr) (fun _ _ i _ => n - (intOf i).toNat)
 case atStart => exact ⟨0, rfl, Nat.zero_le _, hL0, hB0⟩
 case round =>
  clear hL0 hB0
  obtain ⟨k, rfl, hk, hL, hBe⟩ := hrel
  have hB' : Below w.heap.size w wr := by rw [← HG.out]; exact hBe
  by_cases hlt : k < n
  ·obtain ⟨a, rfl, ha, c0, c1⟩ := (HX.out.below hB') k (by rw [enc_length, HN.out]; exact hlt)
   rw [enc_get] at c0 c1
   have hr := fun W => HR.out k hlt W
   have hfk : f k = (zs.getD k 0 % (p : Int)).toNat := by rw [hf]
   have hfi : ((f k : Nat) : Int) = zs.getD k 0 % (p : Int) := by rw [hfk]; exact Int.toNat_of_nonneg (Int.emod_nonneg _ (by omega))
   rw [← hfi] at hr
   dsimp only at c0 c1
   generalize wneg (zs.getD k 0) = x at *
   generalize wmag (zs.getD k 0) = s at *
   obtain ⟨fk, hfk2⟩ : ∃ fk, fk = f k := ⟨_, rfl⟩
   rw [← hfk2] at hr
   have HRK := Lib.hid hr
   have HFK := Lib.hid hfk2
   have HL := Lib.hid hL
   have HBE := Lib.hid hBe
   have hgs := hL.lt
   clear hr hfk hfi hfk2 hL hBe hB'
   go_wp2_with fail
   with_reducible refine (HRK.out _).mono ?_
   rintro e w1 ⟨rfl, hb1⟩
   have hL1 := (HL.out.alloc (.cells #[.bool x, .string s] 32 (0, 0))).below hb1 (by simp; omega)
   have d0 := hL1.cell (k := k) (by rw [cvQ_length]; exact hlt)
   have f0 := hL1.frozen k
   generalize (cvQ f n k).getD k 0 = u0 at d0
   have hP := hL1.set k fk
   rw [HFK.out, cvQ_next, ← HFK.out] at hP
   have HP := Lib.hid hP
   have hB1 := HBE.out.trans (((Below.refl _ _).alloc (Nat.le_refl _) (.cells #[.bool x, .string s] 32 (0, 0))).mono (by rw [HG.out]; exact HBE.out.size))
   have HB1 := Lib.hid (hB1.trans (hb1.mono (by rw [HG.out]; exact hB1.size)))
   clear hP hb1 hL1 hB1 c0 c1
   go_wp2
   go_roundw
   case rel => exact ⟨k + 1, rfl, by omega, HP.out, HB1.out.setCell (by simp only []; omega) _⟩
   case measure => simp [intOf]; omega
  ·obtain rfl : k = n := by omega
   have HL := Lib.hid hL
   have HB1 := Lib.hid hB'
   clear hL hBe hB' hk
   go_wp2
   go_ret
   exact ⟨g, rfl, by have := HG.out; omega, HL.out, HB1.out⟩
end Go.Proofs.YtknaghdoffigjaaGreatDoor
namespace Go.Proofs.YtknaghdoffigjaaGreatDoor
open Go.RowKit Go
def refG (p iv : Nat) (v : Int) (rs : Nat) : Nat := (rs + p - (v % (p : Int)).toNat) * iv % p
def balZ (p n : Nat) : Int := if p / 2 < n then (n : Int) - p else n
def refV (p iv : Nat) (M v : Int) (rs : Nat) : Int := if refG p iv v rs = 0 then v else v + balZ p (refG p iv v rs) * M
theorem mul_size (a b : Int) (k : Nat) (ha : a.natAbs < 256 ^ 7) (hb : (wmag b).size ≤ k) : (wmag (a * b)).size ≤ k + 7 := by
 have h := wint_abs_pow (wneg b) (wmag b) k hb
 rw [wint_wv'] at h
 refine wmag_size _ _ ?_
 rw [Int.natAbs_mul, Nat.pow_add, Nat.mul_comm]
 exact Nat.mul_lt_mul'' h ha
theorem balZ_abs (p n : Nat) (hn : n < p) (hp2 : p < 2147483648) : (balZ p n).natAbs < 256 ^ 7 := by
 rw [pow7]
 unfold balZ
 split <;> omega
structure RefBox (w : World) (bm bi bc be bs p iv : Nat) (ch : Bool) (M : Int) (A : Option Addr) (n cap : Nat) : Prop where
 m : w.heap[bm]? = some (.cells #[.int .u64 (p : Int), .int .u64 ((18446744073709551615 / p : Nat) : Int)] 82 (0, 0))
 i : w.heap[bi]? = some (.cells #[.int .u64 (iv : Int)] 80 (0, 0))
 c : w.heap[bc]? = some (.cells #[.bool ch] 4 (0, 0))
 e : w.heap[be]? = some (.cells #[.pointer (some ⟨bs, 0, none⟩)] 119 (0, 0))
 s : w.heap[bs]? = some (.cells #[.bool (wneg M), .string (wmag M), .slice A n cap] 77 (0, 0))
section
variable {w w' : World} {bm bi bc be bs p iv : Nat} {ch : Bool} {M : Int} {A : Option Addr} {n cap : Nat}
theorem RefBox.step (h : RefBox w bm bi bc be bs p iv ch M A n cap) (hb : Below w.heap.size w w') : RefBox w' bm bi bc be bs p iv ch M A n cap :=
 ⟨(hb.block _ (heap_lt h.m)).trans h.m, (hb.block _ (heap_lt h.i)).trans h.i, (hb.block _ (heap_lt h.c)).trans h.c, (hb.block _ (heap_lt h.e)).trans h.e, (hb.block _ (heap_lt h.s)).trans h.s⟩
theorem RefBox.drew (h : RefBox w bm bi bc be bs p iv ch M A n cap) : RefBox w.drew bm bi bc be bs p iv ch M A n cap := ⟨h.m, h.i, h.c, h.e, h.s⟩
theorem RefBox.ne (h : RefBox w bm bi bc be bs p iv ch M A n cap) : bm ≠ bc ∧ bi ≠ bc ∧ be ≠ bc ∧ bs ≠ bc := by
 refine ⟨?_, ?_, ?_, ?_⟩
 ·rintro rfl; have e := h.m.symm.trans h.c; simp at e
 ·rintro rfl; have e := h.i.symm.trans h.c; simp at e
 ·rintro rfl; have e := h.e.symm.trans h.c; simp at e
 ·rintro rfl; have e := h.s.symm.trans h.c; simp at e
theorem RefBox.put (h : RefBox w bm bi bc be bs p iv ch M A n cap) (x : Bool) : RefBox (w.setCell ⟨bc, 0, none⟩ (.bool x)) bm bi bc be bs p iv x M A n cap := by
 obtain ⟨h1, h2, h3, h4⟩ := h.ne
 refine ⟨(Below.heap_setCell _ _ _ _ h1).trans h.m, (Below.heap_setCell _ _ _ _ h2).trans h.i, ?_, (Below.heap_setCell _ _ _ _ h3).trans h.e, (Below.heap_setCell _ _ _ _ h4).trans h.s⟩
 simp [World.setCell, Array.getElem?_modify, h.c]
theorem RefBox.far (h : RefBox w bm bi bc be bs p iv ch M A n cap) {a : Addr} (hm : bm ≠ a.block) (hi : bi ≠ a.block) (hc : bc ≠ a.block) (he : be ≠ a.block) (hs : bs ≠ a.block) (v : Value) : RefBox (w.setCell a v) bm bi bc be bs p iv ch M A n cap :=
 ⟨(Below.heap_setCell _ _ _ _ hm).trans h.m, (Below.heap_setCell _ _ _ _ hi).trans h.i, (Below.heap_setCell _ _ _ _ hc).trans h.c, (Below.heap_setCell _ _ _ _ he).trans h.e, (Below.heap_setCell _ _ _ _ hs).trans h.s⟩
theorem RefBox.cm0 (h : RefBox w bm bi bc be bs p iv ch M A n cap) : w.cell? ⟨bm, 0, none⟩ = some (.int .u64 (p : Int)) := cell_of_row w bm 0 _ _ _ h.m
theorem RefBox.cm1 (h : RefBox w bm bi bc be bs p iv ch M A n cap) : w.cell? ⟨bm, 1, none⟩ = some (.int .u64 ((18446744073709551615 / p : Nat) : Int)) := cell_of_row w bm 1 _ _ _ h.m
theorem RefBox.ci (h : RefBox w bm bi bc be bs p iv ch M A n cap) : w.cell? ⟨bi, 0, none⟩ = some (.int .u64 (iv : Int)) := cell_of_row w bi 0 _ _ _ h.i
theorem RefBox.cc (h : RefBox w bm bi bc be bs p iv ch M A n cap) : w.cell? ⟨bc, 0, none⟩ = some (.bool ch) := cell_of_row w bc 0 _ _ _ h.c
theorem RefBox.ce (h : RefBox w bm bi bc be bs p iv ch M A n cap) : w.cell? ⟨be, 0, none⟩ = some (.pointer (some ⟨bs, 0, none⟩)) := cell_of_row w be 0 _ _ _ h.e
theorem RefBox.cs0 (h : RefBox w bm bi bc be bs p iv ch M A n cap) : w.cell? ⟨bs, 0, none⟩ = some (.bool (wneg M)) := cell_of_row w bs 0 _ _ _ h.s
theorem RefBox.cs1 (h : RefBox w bm bi bc be bs p iv ch M A n cap) : w.cell? ⟨bs, 1, none⟩ = some (.string (wmag M)) := cell_of_row w bs 1 _ _ _ h.s
theorem RefBox.cs2 (h : RefBox w bm bi bc be bs p iv ch M A n cap) : w.cell? ⟨bs, 2, none⟩ = some (.slice A n cap) := cell_of_row w bs 2 _ _ _ h.s
theorem RefBox.fc (h : RefBox w bm bi bc be bs p iv ch M A n cap) : w.frozen? ⟨bc, 0, none⟩ = false := by simp [World.frozen?, h.c]
end
theorem Kg.setRow {w0 w : World} {l : List (Option (Nat × Obj))} {g : Nat} (h : Kg (some g) w0 w l) (a : Addr) (ha : a.block = g) (hg : g < w0.heap.size) (v : Value) : Kg (some g) w0 (w.setCell a v) l :=
 h.grown (grownBy_setRow (World.grownBy.refl w (some g)) ha v) (fun k e => by cases e; exact hg)
set_option maxRecDepth 100000 in
set_option maxHeartbeats 4000000 in
theorem refine1_any (bm bi bc be bs p iv rs : Nat) (ch : Bool) (v M : Int) (A : Option Addr) (n cap : Nat) (w : World) (hB : RefBox w bm bi bc be bs p iv ch M A n cap) (hp : 1 < p) (hp2 : p < 2147483648) (hiv : iv < p) (hrs : rs < p) (hv : (wmag v).size ≤ 900) (hM : (wmag M).size ≤ 100000) :
  Calls Tryz.prog 108 #[.agg #[.bool (wneg v), .string (wmag v)], .int .u64 (rs : Int), .pointer (some ⟨bm, 0, none⟩), .pointer (some ⟨bi, 0, none⟩), .pointer (some ⟨bc, 0, none⟩), .pointer (some ⟨be, 0, none⟩)] w fun e w' =>
   e = .returned (.agg #[.bool (wneg (refV p iv M v rs)), .string (wmag (refV p iv M v rs))]) ∧ RefBox w' bm bi bc be bs p iv (ch || decide (refG p iv v rs ≠ 0)) M A n cap ∧ w.grownBy w' (some bc) := by
 have hres := fun W => residue_any p (wneg v) (wmag v) W (by omega) hp2 hv v (wint_wv' v)
 have hvr0 := Int.emod_nonneg v (show (p : Int) ≠ 0 by omega)
 have hvr1 := Int.emod_lt_of_pos v (show (0 : Int) < (p : Int) by omega)
 obtain ⟨vr, hvr⟩ : ∃ vr : Nat, (vr : Int) = v % (p : Int) := ⟨(v % (p : Int)).toNat, Int.toNat_of_nonneg hvr0⟩
 have hG : refG p iv v rs = (rs + p - vr) * iv % p := by unfold refG; rw [← hvr]; rfl
 have hV : refV p iv M v rs = if refG p iv v rs = 0 then v else v + balZ p (refG p iv v rs) * M := rfl
 rw [← hvr] at hres hvr1
 have hm1 : (rs + p - vr) * iv ≤ 4294967296 * 2147483648 := Nat.mul_le_mul (by omega) (by omega)
 have hrest := fun W => rest_any p ((rs + p - vr) * iv) W (by omega) hp2 (by omega)
 rw [← hG] at hrest
 have hGlt : refG p iv v rs < p := by rw [hG]; exact Nat.mod_lt _ (by omega)
 obtain ⟨s1, hs1⟩ : ∃ s1, s1 = rs + p := ⟨_, rfl⟩
 obtain ⟨s2, hs2⟩ : ∃ s2, s2 = s1 - vr := ⟨_, rfl⟩
 obtain ⟨s3, hs3⟩ : ∃ s3, s3 = s2 * iv := ⟨_, rfl⟩
 have w1 : IntKind.u64.wrap ((rs : Int) + (p : Int)) = (s1 : Int) := by rw [hs1, Int.natCast_add]; exact IntWalk.u64_in _ (by omega)
 have w2 : IntKind.u64.wrap ((s1 : Int) - (vr : Int)) = (s2 : Int) := by rw [show (s1 : Int) - (vr : Int) = (s2 : Int) from by omega]; exact IntWalk.u64_in _ (by omega)
 rw [← hs1, ← hs2, ← hs3] at hrest hm1
 have w3 : IntKind.u64.wrap ((s2 : Int) * (iv : Int)) = (s3 : Int) := by rw [← Int.natCast_mul, ← hs3]; exact IntWalk.u64_in _ (by omega)
 generalize refG p iv v rs = G at *
 have hbalz := balZ_abs p G hGlt hp2
 have hbal := fun W => balance_any p G W (by omega) hp2 hGlt (balZ p G) rfl
 have sz := mul_size (balZ p G) M 100000 hbalz hM
 have szb := wmag_size (balZ p G) 7 hbalz
 have hmul := fun W => Mul_any (wneg (balZ p G)) (wneg M) (wmag (balZ p G)) (wmag M) W (by omega) (by omega)
 have hadd := fun W => Add_any (wneg v) (wneg (balZ p G * M)) (wmag v) (wmag (balZ p G * M)) W (by omega) (by omega)
 rw [wint_wv', wint_wv', wv_def] at hmul hadd
 unfold mmod at *
 have HRES := Lib.hid hres
 have HREST := Lib.hid hrest
 have HBAL := Lib.hid hbal
 have HMUL := Lib.hid hmul
 have HADD := Lib.hid hadd
 have HV := Lib.hid hV
 have HB := Lib.hid hB
 have hlm := heap_lt hB.m
 have hli := heap_lt hB.i
 have hlc := heap_lt hB.c
 have hle := heap_lt hB.e
 have hls := heap_lt hB.s
 clear hres hrest hbal hmul hadd hV hvr hvr0 hvr1 hm1 hG hGlt hs1 hs2 hs3 sz szb hbalz hB
 have hK1 := (Kg.none_ (some bc) w 2).new 0 (wbox (wneg v) (wmag v)) rfl
 have hK2 := hK1.new 1 (wbox false ⟨#[]⟩) rfl
 have HK2 := Lib.hid (hK2.cast (l' := [some (w.heap.size, wbox (wneg v) (wmag v)), some (w.heap.size + 1, wbox false ⟨#[]⟩)]) (by simp))
 have HB2 := Lib.hid ((HB.out.step (below2 w (wbox (wneg v) (wmag v)) (wbox false ⟨#[]⟩))))
 clear hK1 hK2
 generalize hvx : wneg v = vx at *
 generalize hvs : wmag v = vs at *
 have HVX := Lib.hid hvx
 have HVS := Lib.hid hvs
 clear hvx hvs
 go_enter Tryz.func108, Tryz.ntmps108
 go_wp2_with fail
 have HZ : Hid (∃ W2, W2 = (w.alloc (wbox vx vs)).alloc (wbox false ⟨#[]⟩)) := ⟨_, rfl⟩
 obtain ⟨W2, hW2⟩ := HZ.out
 change Hid (Kg _ _ ((w.alloc (wbox vx vs)).alloc (wbox false ⟨#[]⟩)) _) at HK2
 change Hid (RefBox ((w.alloc (wbox vx vs)).alloc (wbox false ⟨#[]⟩)) _ _ _ _ _ _ _ _ _ _ _ _) at HB2
 have hcells : ∀ a b : World, a = b → a = b := fun _ _ h => h
 change Code.wp _ _ _ _ ((w.alloc (wbox vx vs)).alloc (wbox false ⟨#[]⟩))
 rw [← hW2] at HK2 HB2 ⊢
 clear HZ hW2 hcells
 obtain ⟨b6, hb6⟩ : ∃ b6, b6 = w.heap.size := ⟨_, rfl⟩
 generalize hq : ((18446744073709551615 / p : Nat) : Int) = q at *
 refine wp_region_facts (X := Unit) (fun x => [(0, 10, .agg #[.int .u64 (p : Int), .int .u64 q]), (1, 11, .int .u64 (rs : Int)), (2, 12, .pointer (some ⟨bm, 0, none⟩)), (3, 13, .int .u64 (p : Int)), (4, 14, .int .u64 (s1 : Int)), (5, 15, .agg #[.int .u64 (p : Int), .int .u64 q]), (6, 16, .agg #[.bool vx, .string vs]), (7, 17, .int .u64 (vr : Int)), (8, 18, .int .u64 (s2 : Int)), (9, 19, .int .u64 (iv : Int)), (10, 20, .int .u64 (s3 : Int)), (11, 21, .int .u64 (G : Int)), (12, 9, .int .u64 (G : Int))])
  (fun _ L W => Kg (some bc) w W [some (w.heap.size, wbox vx vs), some (w.heap.size + 1, wbox false ⟨#[]⟩)] ∧ RefBox W bm bi bc be bs p iv ch M A n cap) (by kernel_rfl) (by kernel_rfl) () ⟨HK2.out.drew, HB2.out.drew⟩ (by kernel_rfl) ?_ ?_
 ·repeat' (first | exact FactSteps.nil | refine FactSteps.cons ?_ ?_)
  all_goals
   intro L x wx hJ hl hd hs K hK
   (try simp [Region.binds] at hd)
   have e0 := hJ.1.cell 0 0 rfl rfl
   have e1 := hJ.1.cell 0 1 rfl rfl
   have e2 := hJ.2.cm0
   have e3 := hJ.2.cm1
   rw [hq] at e3
   have e4 := hJ.2.ci
   simp only [selA, selT_cons, selT_nil, List.set_cons_zero, List.set_cons_succ, List.getD_cons_zero, List.getD_cons_succ, hd, hl, selV_true, selV_false]
  ·go_simp
   refine hK.out x _ _ ?_ ?_
   ·simp [selA, selT_cons, selT_nil, hl, hd, selV_true, selV_false]
   ·simpa [hl] using hJ
  ·go_simp
   refine hK.out x _ _ ?_ ?_
   ·simp [selA, selT_cons, selT_nil, hl, hd, selV_true, selV_false]
   ·simpa [hl] using hJ
  ·go_simp
   refine hK.out x _ _ ?_ ?_
   ·simp [selA, selT_cons, selT_nil, hl, hd, selV_true, selV_false]
   ·simpa [hl] using hJ
  ·go_simp
   refine hK.out x _ _ ?_ ?_
   ·simp [selA, selT_cons, selT_nil, hl, hd, selV_true, selV_false]
   ·simpa [hl] using hJ
  ·go_simp
   refine hK.out x _ _ ?_ ?_
   ·simp [selA, selT_cons, selT_nil, hl, hd, selV_true, selV_false]
   ·simpa [hl] using hJ
  ·go_simp
   refine hK.out x _ _ ?_ ?_
   ·simp [selA, selT_cons, selT_nil, hl, hd, selV_true, selV_false]
   ·simpa [hl] using hJ
  ·go_simp
   refine hK.out x _ _ ?_ ?_
   ·simp [selA, selT_cons, selT_nil, hl, hd, selV_true, selV_false]
   ·simpa [hl] using hJ
  ·go_simp
   with_reducible refine (HRES.out _).mono ?_
   rintro e v ⟨rfl, hb⟩
   refine hK.out x _ _ ?_ ?_
   ·simp [selA, selT_cons, selT_nil, hl, hd, selV_true, selV_false]
   ·exact ⟨hJ.1.step hb, hJ.2.step hb⟩
  ·go_simp
   refine hK.out x _ _ ?_ ?_
   ·simp [selA, selT_cons, selT_nil, hl, hd, selV_true, selV_false]
   ·simpa [hl] using hJ
  ·go_simp
   refine hK.out x _ _ ?_ ?_
   ·simp [selA, selT_cons, selT_nil, hl, hd, selV_true, selV_false]
   ·simpa [hl] using hJ
  ·go_simp
   refine hK.out x _ _ ?_ ?_
   ·simp [selA, selT_cons, selT_nil, hl, hd, selV_true, selV_false]
   ·simpa [hl] using hJ
  ·go_simp
   with_reducible refine (HREST.out _).mono ?_
   rintro e v ⟨rfl, hb⟩
   refine hK.out x _ _ ?_ ?_
   ·simp [selA, selT_cons, selT_nil, hl, hd, selV_true, selV_false]
   ·exact ⟨hJ.1.step hb, hJ.2.step hb⟩
  ·go_simp
   refine hK.out x _ _ ?_ ?_
   ·simp [selA, selT_cons, selT_nil, hl, hd, selV_true, selV_false]
   ·simpa [hl] using hJ
 ·rintro _ W3 ⟨hK3, hB3⟩
  simp only [selA, selT_cons, selT_nil, List.set_cons_zero, List.set_cons_succ, List.getD_cons_zero, List.getD_cons_succ, selV_true]
  clear HK2 HB2
  by_cases hG0 : G = 0
  ·subst hG0
   have e0 := hK3.cell 0 0 rfl rfl
   have e1 := hK3.cell 0 1 rfl rfl
   have f0 := hK3.frozen 1 0 rfl
   have f1 := hK3.frozen 1 1 rfl
   have d0 := hK3.cell 1 0 rfl rfl
   have d1 := hK3.cell 1 1 rfl rfl
   go_wp2_with fail
   have hK4 := (hK3.put 1 0 rfl (.bool vx)).put 1 1 rfl (.string vs)
   refine post_wide (b := w.heap.size + 1) rfl rfl (hK4.at_ 1 rfl) rfl ⟨?_, ?_, hK4.1⟩
   ·rw [HV.out, if_pos (by simp), HVX.out, HVS.out]
   ·exact (hB3.far (by simp only []; omega) (by simp only []; omega) (by simp only []; omega) (by simp only []; omega) (by simp only []; omega) _).far (by simp only []; omega) (by simp only []; omega) (by simp only []; omega) (by simp only []; omega) (by simp only []; omega) _
  ·have hz1 : ((G : Int) == 0) = false := by rw [beq_eq_false_iff_ne]; omega
   have hz2 : ¬ (G : Int) = 0 := by omega
   have f0 := hB3.fc
   have d0 := hB3.cc
   have hn := hB3.ne
   have hB4 := Lib.hid (hB3.put true)
   have hK4 := Lib.hid (hK3.setRow ⟨bc, 0, none⟩ rfl (by omega) (.bool true))
   go_wp2_with fail
   generalize W3.setCell ⟨bc, 0, none⟩ (.bool true) = W4 at *
   clear f0 d0 hB3 hK3
   have hdec : decide (G = 0) = false := by rw [decide_eq_false_iff_not]; exact hG0
   refine wp_region_facts (X := Unit) (fun x => [(0, 25, .agg #[.bool vx, .string vs]), (1, 26, .agg #[.int .u64 (p : Int), .int .u64 q]), (2, 27, .int .u64 (G : Int)), (3, 28, .agg #[.bool (wneg (balZ p G)), .string (wmag (balZ p G))]), (4, 29, .pointer (some ⟨bs, 0, none⟩)), (5, 30, .pointer (some ⟨bs, 0, none⟩)), (6, 31, .pointer (some ⟨bs, 0, none⟩)), (7, 32, .agg #[.bool (wneg M), .string (wmag M)]), (8, 33, .agg #[.bool (wneg (balZ p G * M)), .string (wmag (balZ p G * M))]), (9, 34, .agg #[.bool (wneg (v + balZ p G * M)), .string (wmag (v + balZ p G * M))])])
    (fun _ L W => Kg (some bc) w W [some (w.heap.size, wbox vx vs), some (w.heap.size + 1, if L 10 = true then wbox (wneg (v + balZ p G * M)) (wmag (v + balZ p G * M)) else wbox false ⟨#[]⟩)] ∧ RefBox W bm bi bc be bs p iv true M A n cap) (by kernel_rfl) (by kernel_rfl) () ⟨hK4.out.drew, hB4.out.drew⟩ (by kernel_rfl) ?_ ?_
   ·repeat' (first | exact FactSteps.nil | refine FactSteps.cons ?_ ?_)
    all_goals
     intro L x wx hJ hl hd hs K hK
     (try simp [Region.binds] at hd)
     have e0 := hJ.1.cell 0 0 rfl rfl
     have e1 := hJ.1.cell 0 1 rfl rfl
     have e2 := hJ.2.cm0
     have e3 := hJ.2.cm1
     rw [hq] at e3
     have e5 := hJ.2.ce
     have e6 := hJ.2.cs0
     have e7 := hJ.2.cs1
     simp only [selA, selT_cons, selT_nil, List.set_cons_zero, List.set_cons_succ, List.getD_cons_zero, List.getD_cons_succ, hd, hl, selV_true, selV_false]
    ·go_simp
     refine hK.out x _ _ ?_ ?_
     ·simp [selA, selT_cons, selT_nil, hl, hd, selV_true, selV_false]
     ·simpa [hl] using hJ
    ·go_simp
     refine hK.out x _ _ ?_ ?_
     ·simp [selA, selT_cons, selT_nil, hl, hd, selV_true, selV_false]
     ·simpa [hl] using hJ
    ·go_simp
     refine hK.out x _ _ ?_ ?_
     ·simp [selA, selT_cons, selT_nil, hl, hd, selV_true, selV_false]
     ·simpa [hl] using hJ
    ·go_simp
     with_reducible refine (HBAL.out _).mono ?_
     rintro e v ⟨rfl, hb⟩
     refine hK.out x _ _ ?_ ?_
     ·simp [selA, selT_cons, selT_nil, hl, hd, selV_true, selV_false]
     ·exact ⟨by simpa using hJ.1.step hb, hJ.2.step hb⟩
    ·go_simp
     refine hK.out x _ _ ?_ ?_
     ·simp [selA, selT_cons, selT_nil, hl, hd, selV_true, selV_false]
     ·simpa [hl] using hJ
    ·go_simp
     refine hK.out x _ _ ?_ ?_
     ·simp [selA, selT_cons, selT_nil, hl, hd, selV_true, selV_false]
     ·simpa [hl] using hJ
    ·go_simp
     refine hK.out x _ _ ?_ ?_
     ·simp [selA, selT_cons, selT_nil, hl, hd, selV_true, selV_false]
     ·simpa [hl] using hJ
    ·go_simp
     refine hK.out x _ _ ?_ ?_
     ·simp [selA, selT_cons, selT_nil, hl, hd, selV_true, selV_false]
     ·simpa [hl] using hJ
    ·go_simp
     with_reducible refine (HMUL.out _).mono ?_
     rintro e v ⟨rfl, hb⟩
     refine hK.out x _ _ ?_ ?_
     ·simp [selA, selT_cons, selT_nil, hl, hd, selV_true, selV_false]
     ·exact ⟨by simpa using hJ.1.step hb, hJ.2.step hb⟩
    ·go_simp
     with_reducible refine (HADD.out _).mono ?_
     rintro e v ⟨rfl, hb⟩
     refine hK.out x _ _ ?_ ?_
     ·simp [selA, selT_cons, selT_nil, hl, hd, selV_true, selV_false]
     ·exact ⟨by simpa using hJ.1.step hb, hJ.2.step hb⟩
    ·have hJ1 : Kg (some bc) w wx [some (w.heap.size, wbox vx vs), some (w.heap.size + 1, wbox false ⟨#[]⟩)] := by simpa [hl] using hJ.1
     have f0 := hJ1.frozen 1 0 rfl
     have f1 := hJ1.frozen 1 1 rfl
     have d0 := hJ1.cell 1 0 rfl rfl
     have d1 := hJ1.cell 1 1 rfl rfl
     go_simp
     refine hK.out x _ _ ?_ ?_
     ·simp [selA, selT_cons, selT_nil, hl, hd, selV_true, selV_false]
     ·refine ⟨?_, (hJ.2.far (by simp only []; omega) (by simp only []; omega) (by simp only []; omega) (by simp only []; omega) (by simp only []; omega) _).far (by simp only []; omega) (by simp only []; omega) (by simp only []; omega) (by simp only []; omega) (by simp only []; omega) _⟩
      exact (hJ1.put 1 0 rfl _).put 1 1 rfl _
   ·rintro _ W5 ⟨hK5, hB5⟩
    simp only [selA, selT_cons, selT_nil, List.set_cons_zero, List.set_cons_succ, List.getD_cons_zero, List.getD_cons_succ, selV_true]
    go_wp2_with fail
    refine post_wide (b := w.heap.size + 1) rfl rfl (hK5.at_ 1 rfl) rfl ⟨?_, ?_, hK5.1⟩
    ·rw [HV.out, if_neg hG0]
    ·simpa [hG0] using hB5
end Go.Proofs.YtknaghdoffigjaaGreatDoor
