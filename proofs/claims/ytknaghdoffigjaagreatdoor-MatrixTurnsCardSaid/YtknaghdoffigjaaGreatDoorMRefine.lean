/-
  The contract of matrix.estimate.refine.
-/
import Derived.Test.YtknaghdoffigjaaGreatDoorZMConv
set_option linter.unusedSimpArgs false
set_option linter.unusedVariables false
set_option linter.unnecessarySimpa false
namespace Go.Proofs.YtknaghdoffigjaaGreatDoor
open Go.RowKit Go

/-- An estimate in memory. -/
def Est (w : World) (b : Nat) (M : Int) (A : Option Addr) (n cap : Nat) : Prop := w.heap[b]? = some (.cells #[.bool (wneg M), .string (wmag M), .slice A n cap] 77 (0, 0))
/-- The inverse of the modulus so far, modulo the next prime. -/
def refI (p : Nat) (M : Int) : Nat := (invM p (M % (p : Int)).toNat).toNat
theorem refI_lt (p : Nat) (M : Int) (hp : 0 < p) : refI p M < p := by
  have h0 : 0 ≤ invM p (M % (p : Int)).toNat := Int.emod_nonneg _ (by omega)
  have h1 : invM p (M % (p : Int)).toNat < p := Int.emod_lt_of_pos _ (by omega)
  unfold refI
  omega
/-- A word's box that is not made, made, filled. -/
def entQ (s a : Bool) (b : Nat) (x : Int) : Option (Nat × Obj) := if a = true then some (b, .cells #[.int .u64 (if s = true then x else 0)] 80 (0, 0)) else none
theorem entQ_no (s : Bool) (b : Nat) (x : Int) : entQ s false b x = none := rfl
theorem entQ_new (b : Nat) (x : Int) : entQ false true b x = some (b, .cells #[.int .u64 0] 80 (0, 0)) := rfl
theorem entQ_full (b : Nat) (x : Int) : entQ true true b x = some (b, .cells #[.int .u64 x] 80 (0, 0)) := rfl
theorem grown_past {a b c : World} {row : Option Nat} {g : Nat} (h : a.grownBy b row) (k : b.grownBy c (some g)) (hg : a.heap.size ≤ g) : a.grownBy c row :=
  ⟨k.os.trans h.os, k.tape.trans h.tape, k.output.trans h.output, Nat.le_trans h.size k.size, fun i hi hne => (k.block i (Nat.lt_of_lt_of_le hi h.size) (fun e => by cases e; omega)).trans (h.block i hi hne)⟩
theorem results_bool {fn : Func} {tmps : Array Value} {w : World} {p : Tmp} {b : Nat} {x : Bool} (h : fn.results = #[.cell p 4])
    (ht : tmps.getD p undef = .pointer (some ⟨b, 0, none⟩)) (hc : w.cell? ⟨b, 0, none⟩ = some (.bool x)) : (results fn tmps).run Tryz.prog w = .ok (.bool x) w := by
  have : (loadVar 4 ⟨b, 0, none⟩).run Tryz.prog w = .ok (.bool x) w := by simp [loadVar, go_sem, hc]
  rw [Array.getD_eq_getD_getElem?] at ht
  simp only [results, h]
  simp [Sem.run_bind, Result.andThen, ht, asAddr, this]
theorem RefBox.values {w : World} {bm bi bc be bs p iv : Nat} {ch : Bool} {M : Int} {A A' : Option Addr} {n cap n' cap' : Nat} (h : RefBox w bm bi bc be bs p iv ch M A n cap) (h1 : bm ≠ bs) (h2 : bi ≠ bs) (h3 : bc ≠ bs) (h4 : be ≠ bs) :
    RefBox (w.setCell ⟨bs, 2, none⟩ (.slice A' n' cap')) bm bi bc be bs p iv ch M A' n' cap' := by
  refine ⟨(Below.heap_setCell _ _ _ _ h1).trans h.m, (Below.heap_setCell _ _ _ _ h2).trans h.i, (Below.heap_setCell _ _ _ _ h3).trans h.c, (Below.heap_setCell _ _ _ _ h4).trans h.e, ?_⟩
  simp [World.setCell, Array.getElem?_modify, h.s]
theorem RefBox.modulus {w : World} {bm bi bc be bs p iv : Nat} {ch : Bool} {M M' : Int} {A : Option Addr} {n cap : Nat} (h : RefBox w bm bi bc be bs p iv ch M A n cap) (h1 : bm ≠ bs) (h2 : bi ≠ bs) (h3 : bc ≠ bs) (h4 : be ≠ bs) :
    RefBox ((w.setCell ⟨bs, 0, none⟩ (.bool (wneg M'))).setCell ⟨bs, 1, none⟩ (.string (wmag M'))) bm bi bc be bs p iv ch M' A n cap := by
  refine ⟨(Below.heap_setCell _ _ _ _ h1).trans ((Below.heap_setCell _ _ _ _ h1).trans h.m), (Below.heap_setCell _ _ _ _ h2).trans ((Below.heap_setCell _ _ _ _ h2).trans h.i), (Below.heap_setCell _ _ _ _ h3).trans ((Below.heap_setCell _ _ _ _ h3).trans h.c), (Below.heap_setCell _ _ _ _ h4).trans ((Below.heap_setCell _ _ _ _ h4).trans h.e), ?_⟩
  simp [World.setCell, Array.getElem?_modify, h.s]

set_option maxRecDepth 100000 in
set_option maxHeartbeats 4000000 in
theorem refine_any (bs gV p n cap nr cr : Nat) (Br : Option Addr) (vs : List Int) (rs : List Nat) (M : Int) (w : World) (hE : Est w bs M (some ⟨gV, 0, none⟩) n cap) (hA : Lw w gV (enc vs)) (hn : vs.length = n) (hr : RdA w Br rs) (hrn : rs.length = n) (hnr : n ≤ nr) (hn2 : n ≤ 40000)
    (hp : 1 < p) (hp2 : p < 2147483648) (hrs : ∀ k, rs.getD k 0 < p) (hv : ∀ k, k < n → (wmag (vs.getD k 0)).size ≤ 900) (hM : (wmag M).size ≤ 900) :
    Calls Tryz.prog 71 #[.pointer (some ⟨bs, 0, none⟩), mmod p, .slice Br nr cr] w fun e w' =>
      ∃ g, e = .returned (.bool (refC p (refI p M) vs rs false n)) ∧ w.heap.size ≤ g ∧ Lw w' g (enc (refL p (refI p M) M vs rs)) ∧ Est w' bs (M * (p : Int)) (some ⟨g, 0, none⟩) n n ∧ w.grownBy w' (some bs) := by
  have hres := fun W => residue_any p (wneg M) (wmag M) W (by omega) hp2 hM M (wint_wv' M)
  have hM0 := Int.emod_nonneg M (show (p : Int) ≠ 0 by omega)
  have hM1 := Int.emod_lt_of_pos M (show (0 : Int) < (p : Int) by omega)
  obtain ⟨mr, hmr⟩ : ∃ mr : Nat, (mr : Int) = M % (p : Int) := ⟨(M % (p : Int)).toNat, Int.toNat_of_nonneg hM0⟩
  have hinv := fun W => inverse_any p mr W (by omega) hp2 (by omega)
  have hiv0 : (refI p M : Int) = invM p mr := by
    have h0 : 0 ≤ invM p mr := Int.emod_nonneg _ (by omega)
    unfold refI
    rw [← hmr]
    simp only [Int.toNat_natCast]
    exact Int.toNat_of_nonneg h0
  rw [← hiv0] at hinv
  rw [← hmr] at hres
  have hiv := refI_lt p M (by omega)
  generalize refI p M = iv at *
  have hfrom := fun W => From_any (p : Int) W (by omega) (by omega)
  rw [wv_def] at hfrom
  have szp := wmag_size (p : Int) 7 (by rw [pow7]; omega)
  have hmul := fun W => Mul_any (wneg M) (wneg (p : Int)) (wmag M) (wmag (p : Int)) W (by omega) (by omega)
  rw [wint_wv', wint_wv', wv_def] at hmul
  have hcomb := fun bm bi bc be W hL hR hB => combine_refine gV bm bi bc be bs p iv n cap nr cr Br false vs rs M (some ⟨gV, 0, none⟩) n cap W hL hn hR hrn hnr hn2 hB hp hp2 hiv hrs hv (by omega)
  have wp : IntKind.i64.wrap (p : Int) = p := IntWalk.i64_in _ (by omega)
  have hbs := heap_lt hE
  have hgV := heap_lt hA
  have hneV : gV ≠ bs := by
    rintro rfl
    have e := hA.symm.trans hE
    simp at e
  unfold mmod at *
  have HRES := Lib.hid hres
  have HINV := Lib.hid hinv
  have HFROM := Lib.hid hfrom
  have HMUL := Lib.hid hmul
  have HCOMB := Lib.hid hcomb
  have HE := Lib.hid hE
  have HA := Lib.hid hA
  have HR := Lib.hid hr
  obtain ⟨chf, hchf⟩ : ∃ chf, chf = refC p iv vs rs false n := ⟨_, rfl⟩
  rw [← hchf] at HCOMB ⊢
  obtain ⟨ul, hul⟩ : ∃ ul, ul = enc (refL p iv M vs rs) := ⟨_, rfl⟩
  rw [← hul] at HCOMB ⊢
  clear hchf hul
  clear hres hinv hfrom hmul hcomb hE hA hr hM0 hM1 hmr hiv0 szp hM hv hrs hn hrn hnr hn2
  generalize hq : ((18446744073709551615 / p : Nat) : Int) = q at *
  have hK1 := (Kg.none_ none w 4).new 0 (.cells #[.pointer (some ⟨bs, 0, none⟩)] 119 (0, 0)) rfl
  have hK2 := hK1.new 1 (.cells #[.int .u64 (p : Int), .int .u64 q] 82 (0, 0)) rfl
  have hK3 := hK2.new 2 (.cells #[.bool false] 4 (0, 0)) rfl
  have HK3 := Lib.hid (hK3.cast (l' := [some (w.heap.size, .cells #[.pointer (some ⟨bs, 0, none⟩)] 119 (0, 0)), some (w.heap.size + 1, .cells #[.int .u64 (p : Int), .int .u64 q] 82 (0, 0)), some (w.heap.size + 1 + 1, .cells #[.bool false] 4 (0, 0)), none]) (by simp))
  clear hK1 hK2 hK3
  go_enter Tryz.func71, Tryz.ntmps71
  go_wp2_with fail
  generalize ((w.alloc (.cells #[.pointer (some ⟨bs, 0, none⟩)] 119 (0, 0))).alloc (.cells #[.int .u64 (p : Int), .int .u64 q] 82 (0, 0))).alloc (.cells #[.bool false] 4 (0, 0)) = W3 at *
  obtain ⟨b3, hb3⟩ : ∃ b3, b3 = w.heap.size := ⟨_, rfl⟩
  refine wp_region_facts (X := Nat) (fun x => [(0, 8, .agg #[.int .u64 (p : Int), .int .u64 q]), (1, 9, .agg #[.int .u64 (p : Int), .int .u64 q]), (2, 10, .pointer (some ⟨bs, 0, none⟩)), (3, 11, .pointer (some ⟨bs, 0, none⟩)), (4, 12, .pointer (some ⟨bs, 0, none⟩)), (5, 13, .agg #[.bool (wneg M), .string (wmag M)]), (6, 14, .int .u64 (mr : Int)), (7, 15, .int .u64 (iv : Int)), (8, 7, .pointer (some ⟨x, 0, none⟩))])
    (fun x L W => Kg none w W [some (w.heap.size, .cells #[.pointer (some ⟨bs, 0, none⟩)] 119 (0, 0)), some (w.heap.size + 1, .cells #[.int .u64 (p : Int), .int .u64 q] 82 (0, 0)), some (w.heap.size + 1 + 1, .cells #[.bool false] 4 (0, 0)), entQ (L 9) (L 8) x (iv : Int)]) (by kernel_rfl) (by kernel_rfl) 0 HK3.out.drew (by kernel_rfl) ?_ ?_
  · repeat' (first | exact FactSteps.nil | refine FactSteps.cons ?_ ?_)
    all_goals
      intro L x wx hJ hl hd hs K hK
      (try simp [Region.binds] at hd)
      have e0 := hJ.cell 0 0 rfl rfl
      have e1 := hJ.cell 1 0 rfl rfl
      have e2 := hJ.cell 1 1 rfl rfl
      have hE1 : Est wx bs M (some ⟨gV, 0, none⟩) n cap := (hJ.1.block bs hbs (by simp)).trans HE.out
      have e3 := cell_of_row wx bs 0 _ _ _ hE1
      have e4 := cell_of_row wx bs 1 _ _ _ hE1
      simp only [selA, selT_cons, selT_nil, List.set_cons_zero, List.set_cons_succ, List.getD_cons_zero, List.getD_cons_succ, hd, hl, selV_true, selV_false]
    · go_simp
      refine hK.out x _ _ ?_ ?_
      · simp [selA, selT_cons, selT_nil, hl, hd, selV_true, selV_false]
      · simpa [hl] using hJ
    · go_simp
      refine hK.out x _ _ ?_ ?_
      · simp [selA, selT_cons, selT_nil, hl, hd, selV_true, selV_false]
      · simpa [hl] using hJ
    · go_simp
      refine hK.out x _ _ ?_ ?_
      · simp [selA, selT_cons, selT_nil, hl, hd, selV_true, selV_false]
      · simpa [hl] using hJ
    · go_simp
      refine hK.out x _ _ ?_ ?_
      · simp [selA, selT_cons, selT_nil, hl, hd, selV_true, selV_false]
      · simpa [hl] using hJ
    · go_simp
      refine hK.out x _ _ ?_ ?_
      · simp [selA, selT_cons, selT_nil, hl, hd, selV_true, selV_false]
      · simpa [hl] using hJ
    · go_simp
      refine hK.out x _ _ ?_ ?_
      · simp [selA, selT_cons, selT_nil, hl, hd, selV_true, selV_false]
      · simpa [hl] using hJ
    · go_simp
      with_reducible refine (HRES.out _).mono ?_
      rintro e v ⟨rfl, hb⟩
      refine hK.out x _ _ ?_ ?_
      · simp [selA, selT_cons, selT_nil, hl, hd, selV_true, selV_false]
      · simpa [hl] using hJ.step hb
    · go_simp
      with_reducible refine (HINV.out _).mono ?_
      rintro e v ⟨rfl, hb⟩
      refine hK.out x _ _ ?_ ?_
      · simp [selA, selT_cons, selT_nil, hl, hd, selV_true, selV_false]
      · simpa [hl] using hJ.step hb
    · have hn := hs 9 _ rfl (by simp [Region.binds])
      go_simp
      refine hK.out wx.heap.size _ _ ?_ ?_
      · simp [selA, selT_cons, selT_nil, hl, hd, hn, selV_true, selV_false]
      · refine Kg.cast (hJ.new 3 (.cells #[.int .u64 0] 80 (0, 0)) (by simp [hl, entQ_no])) ?_
        simp [hn, entQ_new]
    · have hJ2 := hJ
      simp only [hl, hd, entQ_new] at hJ2
      have f0 := hJ2.frozen 3 0 rfl
      have d0 := hJ2.cell 3 0 rfl rfl
      go_simp
      refine hK.out x _ _ ?_ ?_
      · simp [selA, selT_cons, selT_nil, hl, hd, selV_true, selV_false]
      · refine Kg.cast (hJ2.put 3 0 rfl _) ?_
        simp [hd, entQ_full]
  · rintro bi W4 hK4
    simp only [selA, selT_cons, selT_nil, List.set_cons_zero, List.set_cons_succ, List.getD_cons_zero, List.getD_cons_succ, selV_true]
    simp only [entQ_full] at hK4
    have hB4 : RefBox W4 (w.heap.size + 1) bi (w.heap.size + 1 + 1) w.heap.size bs p iv false M (some ⟨gV, 0, none⟩) n cap :=
      ⟨by rw [hq]; exact hK4.at_ 1 rfl, hK4.at_ 3 rfl, hK4.at_ 2 rfl, hK4.at_ 0 rfl, (hK4.1.block bs hbs (by simp)).trans HE.out⟩
    have hbi := hK4.ge 3 rfl
    have hW4 := heap_lt hB4.c
    have hW4b := heap_lt hB4.i
    have hW4w := hK4.1.size
    have HB4 := Lib.hid hB4
    have HG4 := Lib.hid (show w.grownBy W4 (some bs) from ⟨hK4.1.os, hK4.1.tape, hK4.1.output, hK4.1.size, fun i hi _ => hK4.1.block i hi (by simp)⟩)
    have HA4 := Lib.hid (show Lw W4 gV (enc vs) from (hK4.1.block gV hgV (by simp)).trans HA.out)
    have HR4 := Lib.hid (show RdA W4 Br rs from fun k hk => by
      obtain ⟨a, e, hl, h1⟩ := HR.out k hk
      exact ⟨a, e, Nat.lt_of_lt_of_le hl hK4.1.size, (World.cell?_of_block (by rw [block_add]; exact hK4.1.block _ hl (by simp))).trans h1⟩)
    have hcombk := HCOMB.out (w.heap.size + 1) bi (w.heap.size + 1 + 1) w.heap.size
    have HCK := Lib.hid hcombk
    clear hK4 hB4 hcombk HK3
    go_wp2_with fail
    refine wp_region_facts (X := Nat) (fun x => [(0, 16, .pointer (some ⟨bs, 0, none⟩)), (1, 17, .pointer (some ⟨bs, 0, none⟩)), (2, 18, .pointer (some ⟨bs, 0, none⟩)), (3, 19, .pointer (some ⟨bs, 2, none⟩)), (4, 20, .slice (some ⟨gV, 0, none⟩) n cap), (5, 21, .slice Br nr cr), (6, 22, .func (.func 108) #[] #[.pointer (some ⟨w.heap.size + 1, 0, none⟩), .pointer (some ⟨bi, 0, none⟩), .pointer (some ⟨w.heap.size + 1 + 1, 0, none⟩), .pointer (some ⟨w.heap.size, 0, none⟩)]), (7, 23, .slice (some ⟨x, 0, none⟩) n n), (8, 24, .pointer (some ⟨bs, 0, none⟩)), (9, 25, .pointer (some ⟨bs, 2, none⟩))])
      (fun x L W => RefBox W (w.heap.size + 1) bi (w.heap.size + 1 + 1) w.heap.size bs p iv (if L 7 = true then chf else false) M (if L 10 = true then some ⟨x, 0, none⟩ else some ⟨gV, 0, none⟩) n (if L 10 = true then n else cap) ∧ w.grownBy W (some bs) ∧ (L 7 = true → W4.heap.size ≤ x ∧ Lw W x ul) ∧ (L 7 = false → Lw W gV (enc vs) ∧ RdA W Br rs) ∧ W4.heap.size ≤ W.heap.size) (by kernel_rfl) (by kernel_rfl) 0 (by refine ⟨HB4.out.drew, grown_drew HG4.out, fun h => ?_, fun _ => ⟨HA4.out, HR4.out⟩, Nat.le_refl _⟩; simp at h) (by kernel_rfl) ?_ ?_
    · repeat' (first | exact FactSteps.nil | refine FactSteps.cons ?_ ?_)
      all_goals
        intro L x wx hJ hl hd hs K hK
        (try simp [Region.binds] at hd)
        have e0 := hJ.1.ce
        simp only [selA, selT_cons, selT_nil, List.set_cons_zero, List.set_cons_succ, List.getD_cons_zero, List.getD_cons_succ, hd, hl, selV_true, selV_false]
      · go_simp
        refine hK.out x _ _ ?_ ?_
        · simp [selA, selT_cons, selT_nil, hl, hd, selV_true, selV_false]
        · simpa [hl] using hJ
      · go_simp
        refine hK.out x _ _ ?_ ?_
        · simp [selA, selT_cons, selT_nil, hl, hd, selV_true, selV_false]
        · simpa [hl] using hJ
      · go_simp
        refine hK.out x _ _ ?_ ?_
        · simp [selA, selT_cons, selT_nil, hl, hd, selV_true, selV_false]
        · simpa [hl] using hJ
      · go_simp
        refine hK.out x _ _ ?_ ?_
        · simp [selA, selT_cons, selT_nil, hl, hd, selV_true, selV_false]
        · simpa [hl] using hJ
      · have hn := hs 10 _ rfl (by simp [Region.binds])
        have hB := hJ.1
        simp only [hn, Bool.false_eq_true, if_false, if_true] at hB
        have e5 := hB.cs2
        go_simp
        refine hK.out x _ _ ?_ ?_
        · simp [selA, selT_cons, selT_nil, hl, hd, hn, selV_true, selV_false]
        · simpa [hl] using hJ
      · go_simp
        refine hK.out x _ _ ?_ ?_
        · simp [selA, selT_cons, selT_nil, hl, hd, selV_true, selV_false]
        · simpa [hl] using hJ
      · go_simp
        refine hK.out x _ _ ?_ ?_
        · simp [selA, selT_cons, selT_nil, hl, hd, selV_true, selV_false]
        · simpa [hl] using hJ
      · have hn := hs 10 _ rfl (by simp [Region.binds])
        have hB := hJ.1
        simp only [hn, hl, Bool.false_eq_true, if_false, if_true] at hB
        obtain ⟨hLV, hRV⟩ := hJ.2.2.2.1 hl
        go_simp
        go_at_call 107
        with_reducible refine (HCK.out _ hLV hRV hB).mono ?_
        rintro e v ⟨g, rfl, hg, hLg, hBg, hGg⟩
        refine hK.out g _ _ ?_ ?_
        · simp [selA, selT_cons, selT_nil, hl, hd, hn, selV_true, selV_false]
        · exact ⟨by simpa [hn] using hBg, grown_past hJ.2.1 hGg (by omega), fun _ => ⟨Nat.le_trans hJ.2.2.2.2 hg, hLg⟩, fun h => by simp at h, Nat.le_trans hJ.2.2.2.2 hGg.size⟩
      · go_simp
        refine hK.out x _ _ ?_ ?_
        · simp [selA, selT_cons, selT_nil, hl, hd, selV_true, selV_false]
        · simpa [hl] using hJ
      · go_simp
        refine hK.out x _ _ ?_ ?_
        · simp [selA, selT_cons, selT_nil, hl, hd, selV_true, selV_false]
        · simpa [hl] using hJ
      · have hB := hJ.1
        simp only [hd, hl, Bool.false_eq_true, if_false, if_true] at hB
        obtain ⟨hg, hLg⟩ := hJ.2.2.1 (by simp [hd])
        have d0 := hB.cs2
        have f0 : wx.frozen? ⟨bs, 2, none⟩ = false := by simp [World.frozen?, hB.s]
        go_simp
        refine hK.out x _ _ ?_ ?_
        · simp [selA, selT_cons, selT_nil, hl, hd, selV_true, selV_false]
        · refine ⟨?_, grown_trans2 hJ.2.1 (grownBy_setRow (World.grownBy.refl _ _) rfl _), fun _ => ⟨hg, (Below.heap_setCell _ _ _ _ (by simp only []; omega)).trans hLg⟩, fun h => by simp [hd] at h, by simpa [World.setCell] using hJ.2.2.2.2⟩
          simpa [hd] using hB.values (A' := some ⟨x, 0, none⟩) (n' := n) (cap' := n) (by omega) (by omega) (by omega) (by omega)
    · rintro g W5 ⟨hB5, hG5, hL5, _, _⟩
      simp only [selA, selT_cons, selT_nil, List.set_cons_zero, List.set_cons_succ, List.getD_cons_zero, List.getD_cons_succ, selV_true]
      simp only [if_true] at hB5
      obtain ⟨hg, hLg⟩ := hL5 rfl
      have HB5 := Lib.hid hB5
      have HG5 := Lib.hid hG5
      have HL5 := Lib.hid hLg
      clear hB5 hG5 hL5 hLg HB4 HG4 HA4 HR4 HCK
      go_wp2_with fail
      refine wp_region_facts (X := Unit) (fun x => [(0, 26, .pointer (some ⟨bs, 0, none⟩)), (1, 27, .pointer (some ⟨bs, 0, none⟩)), (2, 28, .pointer (some ⟨bs, 0, none⟩)), (3, 29, .pointer (some ⟨bs, 0, none⟩)), (4, 30, .agg #[.bool (wneg M), .string (wmag M)]), (5, 31, .pointer (some ⟨w.heap.size + 1, 0, none⟩)), (6, 32, .int .u64 (p : Int)), (7, 33, .int .i64 (p : Int)), (8, 34, .agg #[.bool (wneg (p : Int)), .string (wmag (p : Int))]), (9, 35, .agg #[.bool (wneg (M * (p : Int))), .string (wmag (M * (p : Int)))]), (10, 36, .pointer (some ⟨bs, 0, none⟩)), (11, 37, .pointer (some ⟨bs, 0, none⟩))])
        (fun _ L W => RefBox W (w.heap.size + 1) bi (w.heap.size + 1 + 1) w.heap.size bs p iv chf (if L 12 = true then M * (p : Int) else M) (some ⟨g, 0, none⟩) n n ∧ w.grownBy W (some bs) ∧ Lw W g ul) (by kernel_rfl) (by kernel_rfl) () ⟨HB5.out.drew, grown_drew HG5.out, HL5.out⟩ (by kernel_rfl) ?_ ?_
      · repeat' (first | exact FactSteps.nil | refine FactSteps.cons ?_ ?_)
        all_goals
          intro L x wx hJ hl hd hs K hK
          (try simp [Region.binds] at hd)
          have e0 := hJ.1.ce
          have e1 := hJ.1.cm0
          simp only [selA, selT_cons, selT_nil, List.set_cons_zero, List.set_cons_succ, List.getD_cons_zero, List.getD_cons_succ, hd, hl, selV_true, selV_false]
        · go_simp
          refine hK.out x _ _ ?_ ?_
          · simp [selA, selT_cons, selT_nil, hl, hd, selV_true, selV_false]
          · simpa [hl] using hJ
        · go_simp
          refine hK.out x _ _ ?_ ?_
          · simp [selA, selT_cons, selT_nil, hl, hd, selV_true, selV_false]
          · simpa [hl] using hJ
        · go_simp
          refine hK.out x _ _ ?_ ?_
          · simp [selA, selT_cons, selT_nil, hl, hd, selV_true, selV_false]
          · simpa [hl] using hJ
        · go_simp
          refine hK.out x _ _ ?_ ?_
          · simp [selA, selT_cons, selT_nil, hl, hd, selV_true, selV_false]
          · simpa [hl] using hJ
        · have hn := hs 12 _ rfl (by simp [Region.binds])
          have hB := hJ.1
          simp only [hn, Bool.false_eq_true, if_false, if_true] at hB
          have e5 := hB.cs0
          have e6 := hB.cs1
          go_simp
          refine hK.out x _ _ ?_ ?_
          · simp [selA, selT_cons, selT_nil, hl, hd, hn, selV_true, selV_false]
          · simpa [hl] using hJ
        · go_simp
          refine hK.out x _ _ ?_ ?_
          · simp [selA, selT_cons, selT_nil, hl, hd, selV_true, selV_false]
          · simpa [hl] using hJ
        · go_simp
          refine hK.out x _ _ ?_ ?_
          · simp [selA, selT_cons, selT_nil, hl, hd, selV_true, selV_false]
          · simpa [hl] using hJ
        · go_simp
          refine hK.out x _ _ ?_ ?_
          · simp [selA, selT_cons, selT_nil, hl, hd, selV_true, selV_false]
          · simpa [hl] using hJ
        · go_simp
          with_reducible refine (HFROM.out _).mono ?_
          rintro e v ⟨rfl, hb⟩
          refine hK.out x _ _ ?_ ?_
          · simp [selA, selT_cons, selT_nil, hl, hd, selV_true, selV_false]
          · exact ⟨by simpa using hJ.1.step hb, grown_below hJ.2.1 hb, hJ.2.2.step hb⟩
        · go_simp
          with_reducible refine (HMUL.out _).mono ?_
          rintro e v ⟨rfl, hb⟩
          refine hK.out x _ _ ?_ ?_
          · simp [selA, selT_cons, selT_nil, hl, hd, selV_true, selV_false]
          · exact ⟨by simpa using hJ.1.step hb, grown_below hJ.2.1 hb, hJ.2.2.step hb⟩
        · go_simp
          refine hK.out x _ _ ?_ ?_
          · simp [selA, selT_cons, selT_nil, hl, hd, selV_true, selV_false]
          · simpa [hl] using hJ
        · go_simp
          refine hK.out x _ _ ?_ ?_
          · simp [selA, selT_cons, selT_nil, hl, hd, selV_true, selV_false]
          · simpa [hl] using hJ
        · have hB := hJ.1
          simp only [hl, Bool.false_eq_true, if_false, if_true] at hB
          have d0 := hB.cs0
          have d1 := hB.cs1
          have f0 : wx.frozen? ⟨bs, 0, none⟩ = false := by simp [World.frozen?, hB.s]
          have f1 : wx.frozen? ⟨bs, 1, none⟩ = false := by simp [World.frozen?, hB.s]
          go_simp
          refine hK.out x _ _ ?_ ?_
          · simp [selA, selT_cons, selT_nil, hl, hd, selV_true, selV_false]
          · refine ⟨?_, grown_trans2 (grown_trans2 hJ.2.1 (grownBy_setRow (World.grownBy.refl _ _) rfl _)) (grownBy_setRow (World.grownBy.refl _ _) rfl _), (Below.heap_setCell _ _ _ _ (by simp only []; omega)).trans ((Below.heap_setCell _ _ _ _ (by simp only []; omega)).trans hJ.2.2)⟩
            simpa using hB.modulus (M' := M * (p : Int)) (by omega) (by omega) (by omega) (by omega)
      · rintro _ W6 ⟨hB6, hG6, hL6⟩
        simp only [selA, selT_cons, selT_nil, List.set_cons_zero, List.set_cons_succ, List.getD_cons_zero, List.getD_cons_succ, selV_true]
        simp only [if_true] at hB6
        have c0 := hB6.cc
        have f0 := hB6.fc
        have HB6 := Lib.hid hB6
        go_wp2_with fail
        have hB7 := HB6.out.put chf
        have hG7 := grown_past hG6 (grownBy_setRow (g := w.heap.size + 1 + 1) (p := ⟨w.heap.size + 1 + 1, 0, none⟩) (World.grownBy.refl W6 _) rfl (.bool chf)) (by omega)
        refine bodyPost_ret (v := .bool chf) (results_bool (b := w.heap.size + 1 + 1) rfl rfl hB7.cc) rfl ?_
        exact ⟨g, rfl, Nat.le_trans hW4w hg, (Below.heap_setCell _ _ _ _ (by simp only []; omega)).trans hL6, hB7.s, hG7⟩
end Go.Proofs.YtknaghdoffigjaaGreatDoor
