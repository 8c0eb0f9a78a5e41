import Derived.Test.YtknaghdoffigjaaGreatDoorZMEach
import Derived.Test.YtknaghdoffigjaaGreatDoorZMConvR
set_option linter.unusedSimpArgs false
set_option linter.unusedVariables false
set_option linter.unnecessarySimpa false
namespace Go.Proofs.YtknaghdoffigjaaGreatDoor
open Go.RowKit Go
def RdI (w : World) (A : Option Addr) (xs : List Int) : Prop :=
 ∀ k, k < xs.length → ∃ a, A = some a ∧ a.block < w.heap.size ∧ w.cell? (a.add k) = some (.int .i64 (xs.getD k 0))
theorem RdI.below {w w' : World} {A : Option Addr} {xs : List Int} (h : RdI w A xs) (hb : Below w.heap.size w w') : RdI w' A xs := fun k hx => by
 obtain ⟨a, e, hlt, hc⟩ := h k hx
 exact ⟨a, e, by have := hb.size; omega, (hb.cell (by rw [block_add]; exact hlt)).trans hc⟩
def cvL (f : Nat → Bool × ByteArray) (n k : Nat) : List (Bool × ByteArray) := (List.range n).map fun j => if j < k then f j else (false, ⟨#[]⟩)
theorem cvL_zero (f : Nat → Bool × ByteArray) (n : Nat) : cvL f n 0 = List.replicate n (false, ⟨#[]⟩) := by
 unfold cvL
 apply List.ext_getElem
 ·simp
 ·intro i h1 h2
  simp
theorem cvL_next (f : Nat → Bool × ByteArray) (n k : Nat) : (cvL f n k).set k (f k) = cvL f n (k + 1) := by
 unfold cvL
 apply List.ext_getElem
 ·simp
 ·intro i h1 h2
  rw [List.getElem_set]
  simp only [List.getElem_map, List.getElem_range]
  by_cases h : k = i
  ·subst h
   rw [if_pos rfl, if_pos (by omega)]
  ·rw [if_neg h]
   by_cases hl : i < k
   ·rw [if_pos hl, if_pos (by omega)]
   ·rw [if_neg hl, if_neg (by omega)]
theorem cvL_length (f : Nat → Bool × ByteArray) (n k : Nat) : (cvL f n k).length = n := by simp [cvL]
theorem cvL_full (f : Nat → Bool × ByteArray) (n : Nat) : cvL f n n = (List.range n).map f := by
 unfold cvL
 apply List.ext_getElem
 ·simp
 ·intro i h1 h2
  have : i < n := by simpa using h1
  simp [this]
set_option maxRecDepth 100000 in
set_option maxHeartbeats 4000000 in
theorem convert_from (A : Option Addr) (n c : Nat) (xs : List Int) (w : World) (hx : RdI w A xs) (hn : xs.length = n) (hn2 : n ≤ 40000) (hb : ∀ k, k < n → -9223372036854775808 ≤ xs.getD k 0 ∧ xs.getD k 0 ≤ 9223372036854775807) :
  Calls Tryz.prog 60 #[.slice A n c, .func (.func 53) #[] #[]] w fun e w' =>
   ∃ g, e = .returned (.slice (some ⟨g, 0, none⟩) n n) ∧ w.heap.size ≤ g ∧ Lw w' g ((List.range n).map fun j => (wneg (xs.getD j 0), wmag (xs.getD j 0))) ∧ Below w.heap.size w w' := by
 rw [← cvL_full]
 obtain ⟨f, hf⟩ : ∃ f : Nat → Bool × ByteArray, f = fun j => (wneg (xs.getD j 0), wmag (xs.getD j 0)) := ⟨_, rfl⟩
 rw [← hf]
 have hmk := make_wides n hn2
 have HX := Lib.hid hx
 have HN := Lib.hid hn
 have HB := Lib.hid hb
 clear hx hn hb
 obtain ⟨g, hg⟩ : ∃ g, g = w.heap.size := ⟨_, rfl⟩
 have hL0 : Lw (w.alloc (.cells (flat (List.replicate n (false, ⟨#[]⟩))).toArray 32)) g (cvL f n 0) := by
  rw [cvL_zero, hg]
  exact Lw.new w _
 have hB0 : Below g w (w.alloc (.cells (flat (List.replicate n (false, ⟨#[]⟩))).toArray 32)) := (Below.refl _ _).alloc (by omega) _
 go_enter Tryz.func60, Tryz.ntmps60
 go_wp2_with fail
 rw [← hg]
 have HG := Lib.hid hg
 clear hg hmk
 go_loopw [6, 7, 13] (fun _ _ i wr => ∃ k : Nat, i = .int .i64 k ∧ k ≤ n ∧ Lw wr g (cvL f n k) ∧ Below g w wr) (fun _ _ i _ => n - (intOf i).toNat)
 case atStart => exact ⟨0, rfl, Nat.zero_le _, hL0, hB0⟩
 case round =>
  clear hL0 hB0
  obtain ⟨k, rfl, hk, hL, hBe⟩ := hrel
  have hB' : Below w.heap.size w wr := by rw [← HG.out]; exact hBe
  by_cases hlt : k < n
  ·obtain ⟨a, rfl, ha, c0⟩ := (HX.out.below hB') k (by rw [HN.out]; exact hlt)
   obtain ⟨z, hz⟩ : ∃ z, z = xs.getD k 0 := ⟨_, rfl⟩
   rw [← hz] at c0
   have hzb := HB.out k hlt
   rw [← hz] at hzb
   have hfr := fun W => From_any z W hzb.1 hzb.2
   rw [wv_def] at hfr
   have hfk : f k = (wneg z, wmag z) := by rw [hf, hz]
   have HFR := Lib.hid hfr
   have HFK := Lib.hid hfk
   have HL := Lib.hid hL
   have HBE := Lib.hid hBe
   clear hz hzb hfr hfk hL hBe hB'
   go_wp2_with fail
   with_reducible refine (HFR.out _).mono ?_
   rintro e w1 ⟨rfl, hb1⟩
   have hL1 := HL.out.step hb1
   have d0 := hL1.cell0 k (by rw [cvL_length]; exact hlt)
   have d1 := hL1.cell1 k (by rw [cvL_length]; exact hlt)
   have f0 : w1.frozen? ⟨g, k * 2, none⟩ = false := by
    unfold Lw at hL1
    simp [World.frozen?, hL1]
   have f1 : w1.frozen? ⟨g, k * 2 + 1, none⟩ = false := by
    unfold Lw at hL1
    simp [World.frozen?, hL1]
   generalize ((cvL f n k)[k]'(by rw [cvL_length]; exact hlt)).1 = u0 at d0
   generalize ((cvL f n k)[k]'(by rw [cvL_length]; exact hlt)).2 = u1 at d1
   have hP := hL1.put k (wneg z) (wmag z)
   rw [← HFK.out, cvL_next] at hP
   have HP := Lib.hid hP
   have HB1 := Lib.hid (HBE.out.trans (hb1.mono (by rw [HG.out]; exact HBE.out.size)))
   clear hP hb1 hL1 c0
   go_wp2
   go_roundw
   case rel => exact ⟨k + 1, rfl, by omega, HP.out, (HB1.out.setCell (by simp only []; omega) _).setCell (by simp only []; omega) _⟩
   case measure => simp [intOf]; omega
  ·obtain rfl : k = n := by omega
   have HL := Lib.hid hL
   have HB1 := Lib.hid hB'
   clear hL hBe hB' hk
   go_wp2
   go_ret
   exact ⟨g, rfl, by have := HG.out; omega, HL.out, HB1.out⟩
end Go.Proofs.YtknaghdoffigjaaGreatDoor
namespace Go.Proofs.YtknaghdoffigjaaGreatDoor
open Go.RowKit Go
theorem no_int_cell {w : World} {a : Addr} {ch : Bool} {ty : TypeId} {fr : Nat × Nat} {k : IntKind} {i : Int} (hc : w.heap[a.block]? = some (.cells #[.bool ch] ty fr)) (h : w.cell? a = some (.int k i)) : False := by
 simp only [World.cell?, hc] at h
 split at h
 ·cases h
 ·match ho : a.off, h with
  | 0, h => simp [ho] at h
  | j + 1, h => simp [ho] at h
theorem RdA.grownC {w w' : World} {A : Option Addr} {xs : List Nat} {bc : Nat} {ch : Bool} {ty : TypeId} {fr : Nat × Nat} (h : RdA w A xs) (hb : w.grownBy w' (some bc)) (hc : w.heap[bc]? = some (.cells #[.bool ch] ty fr)) : RdA w' A xs := fun k hk => by
 obtain ⟨a, e, hl, h1⟩ := h k hk
 refine ⟨a, e, Nat.lt_of_lt_of_le hl hb.size, ?_⟩
 rw [← h1]
 refine World.cell?_of_block ?_
 rw [block_add]
 refine hb.block _ hl ?_
 intro he
 cases he
 exact no_int_cell (a := a.add k) (by rw [block_add]; exact hc) h1
theorem Lw.grown {w w' : World} {g : Nat} {l : List (Bool × ByteArray)} {row : Option Nat} (h : Lw w g l) (hb : w.grownBy w' row) (hne : some g ≠ row) : Lw w' g l := (hb.block g (heap_lt h) hne).trans h
def refC (p iv : Nat) (vs : List Int) (rs : List Nat) (ch : Bool) : Nat → Bool
 | 0 => ch
 | k + 1 => refC p iv vs rs ch k || decide (refG p iv (vs.getD k 0) (rs.getD k 0) ≠ 0)
def refL (p iv : Nat) (M : Int) (vs : List Int) (rs : List Nat) : List Int := (List.range vs.length).map fun j => refV p iv M (vs.getD j 0) (rs.getD j 0)
theorem refL_enc (p iv : Nat) (M : Int) (vs : List Int) (rs : List Nat) : enc (refL p iv M vs rs) = (List.range vs.length).map fun j => (wneg (refV p iv M (vs.getD j 0) (rs.getD j 0)), wmag (refV p iv M (vs.getD j 0) (rs.getD j 0))) := by
 simp [enc, refL]
set_option maxRecDepth 100000 in
set_option maxHeartbeats 4000000 in
theorem combine_refine (gA bm bi bc be bs p iv n c nr cr : Nat) (Br : Option Addr) (ch : Bool) (vs : List Int) (rs : List Nat) (M : Int) (A : Option Addr) (na capa : Nat) (w : World) (hA : Lw w gA (enc vs)) (hn : vs.length = n) (hr : RdA w Br rs) (hrn : rs.length = n) (hnr : n ≤ nr) (hn2 : n ≤ 40000)
  (hB : RefBox w bm bi bc be bs p iv ch M A na capa) (hp : 1 < p) (hp2 : p < 2147483648) (hiv : iv < p) (hrs : ∀ k, rs.getD k 0 < p) (hv : ∀ k, k < n → (wmag (vs.getD k 0)).size ≤ 900) (hM : (wmag M).size ≤ 100000) :
  Calls Tryz.prog 107 #[.slice (some ⟨gA, 0, none⟩) n c, .slice Br nr cr, .func (.func 108) #[] #[.pointer (some ⟨bm, 0, none⟩), .pointer (some ⟨bi, 0, none⟩), .pointer (some ⟨bc, 0, none⟩), .pointer (some ⟨be, 0, none⟩)]] w fun e w' =>
   ∃ g, e = .returned (.slice (some ⟨g, 0, none⟩) n n) ∧ w.heap.size ≤ g ∧ Lw w' g (enc (refL p iv M vs rs)) ∧ RefBox w' bm bi bc be bs p iv (refC p iv vs rs ch n) M A na capa ∧ w.grownBy w' (some bc) := by
 rw [refL_enc, hn, ← cvL_full]
 obtain ⟨f, hf⟩ : ∃ f : Nat → Bool × ByteArray, f = fun j => (wneg (refV p iv M (vs.getD j 0) (rs.getD j 0)), wmag (refV p iv M (vs.getD j 0) (rs.getD j 0))) := ⟨_, rfl⟩
 rw [← hf]
 have hmk := make_wides n hn2
 have hone := fun (k : Nat) (hk : k < n) W hW => refine1_any bm bi bc be bs p iv (rs.getD k 0) (refC p iv vs rs ch k) (vs.getD k 0) M A na capa W hW hp hp2 hiv (hrs k) (hv k hk) hM
 have hneA : gA ≠ bc := by
  rintro rfl
  have e := hA.symm.trans hB.c
  simp at e
 have HA := Lib.hid hA
 have HN := Lib.hid hn
 have HR := Lib.hid hr
 have HRN := Lib.hid hrn
 have HB := Lib.hid hB
 have HONE := Lib.hid hone
 have hbcl := heap_lt hB.c
 have hgal := heap_lt hA
 clear hA hn hr hrn hB hone hrs hv
 obtain ⟨g, hg⟩ : ∃ g, g = w.heap.size := ⟨_, rfl⟩
 have hb1 : Below w.heap.size w (w.alloc (.cells (flat (List.replicate n (false, ⟨#[]⟩))).toArray 32)) := (Below.refl _ _).alloc (Nat.le_refl _) _
 have hL0 : Lw (w.alloc (.cells (flat (List.replicate n (false, ⟨#[]⟩))).toArray 32)) g (cvL f n 0) := by
  rw [cvL_zero, hg]
  exact Lw.new w _
 have hG0 : w.grownBy (w.alloc (.cells (flat (List.replicate n (false, ⟨#[]⟩))).toArray 32)) (some bc) := grown_below (World.grownBy.refl _ _) hb1
 have hB0 := HB.out.step hb1
 go_enter Tryz.func107, Tryz.ntmps107
 go_wp2_with fail
 rw [← hg]
 have HG := Lib.hid hg
 clear hg hmk hb1
 go_loopw [8, 9, 15] (fun _ _ i wr => ∃ k : Nat, i = .int .i64 k ∧ k ≤ n ∧ Lw wr g (cvL f n k) ∧ RefBox wr bm bi bc be bs p iv (refC p iv vs rs ch k) M A na capa ∧ w.grownBy wr (some bc)) (fun _ _ i _ => n - (intOf i).toNat)
 case atStart => exact ⟨0, rfl, Nat.zero_le _, hL0, hB0, hG0⟩
 case round =>
  clear hL0 hB0 hG0
  obtain ⟨k, rfl, hk, hL, hBk, hGk⟩ := hrel
  by_cases hlt : k < n
  ·have hAk := HA.out.grown hGk (by simp [hneA])
   have c0 := hAk.cell0 k (by rw [enc_length, HN.out]; exact hlt)
   have c1 := hAk.cell1 k (by rw [enc_length, HN.out]; exact hlt)
   rw [enc_get] at c0 c1
   have hRk := HR.out.grownC hGk HB.out.c
   obtain ⟨a, rfl, ha, r0⟩ := hRk k (by rw [HRN.out]; exact hlt)
   have ho := fun W hW => HONE.out k hlt W hW
   have hfk : f k = (wneg (refV p iv M (vs.getD k 0) (rs.getD k 0)), wmag (refV p iv M (vs.getD k 0) (rs.getD k 0))) := by rw [hf]
   have hck : refC p iv vs rs ch (k + 1) = (refC p iv vs rs ch k || decide (refG p iv (vs.getD k 0) (rs.getD k 0) ≠ 0)) := rfl
   rw [← hck] at ho
   clear hck
   dsimp only at c0 c1
   generalize wneg (refV p iv M (vs.getD k 0) (rs.getD k 0)) = zx at *
   generalize wmag (refV p iv M (vs.getD k 0) (rs.getD k 0)) = zs at *
   generalize wneg (vs.getD k 0) = vx at *
   generalize wmag (vs.getD k 0) = vm at *
   generalize rs.getD k 0 = rk at *
   have hnx := cvL_next f n k
   rw [hfk] at hnx
   have hlk := cvL_length f n k
   have hgl := heap_lt hL
   have hgw : w.heap.size ≤ g := Nat.le_of_eq HG.out.symm
   have hknr : k < nr := by omega
   have hlm := heap_lt HB.out.m
   have hli := heap_lt HB.out.i
   have hle := heap_lt HB.out.e
   have hls := heap_lt HB.out.s
   have HO := Lib.hid ho
   have HNX := Lib.hid hnx
   have HLK := Lib.hid hlk
   have HL := Lib.hid hL
   have HBK := Lib.hid hBk
   have HGK := Lib.hid hGk
   have HC := Lib.hid r0
   have hbw : Below wr.heap.size wr (wr.alloc (wbox vx vm)) := (Below.refl _ _).alloc (Nat.le_refl _) _
   have HBW := Lib.hid hbw
   have HX := Lib.hid (heap_alloc_new wr (wbox vx vm))
   have HL1 := Lib.hid (hL.step hbw)
   have HB1 := Lib.hid (hBk.step hbw)
   have HG1 := Lib.hid (grown_below hGk hbw)
   have HC1 := Lib.hid ((hbw.cell (p := a.add k) (by rw [block_add]; omega)).trans r0)
   clear ho hfk hnx hlk hL hBk hGk hAk hRk hbw r0
   go_wp2_with fail
   clear c0 c1
   change Code.wp _ _ _ _ (wr.alloc (wbox vx vm))
   generalize wr.alloc (wbox vx vm) = W1 at *
   generalize hb9 : wr.heap.size = b9 at *
   refine wp_region_facts (X := Unit) (fun x => [(0, 20, .slice (some ⟨g, 0, none⟩) n n), (1, 21, .int .i64 (k : Int)), (2, 22, .func (.func 108) #[] #[.pointer (some ⟨bm, 0, none⟩), .pointer (some ⟨bi, 0, none⟩), .pointer (some ⟨bc, 0, none⟩), .pointer (some ⟨be, 0, none⟩)]), (3, 23, .agg #[.bool vx, .string vm]), (4, 24, .slice (some a) nr cr), (5, 25, .int .i64 (k : Int)), (6, 26, .pointer (some (a.add k))), (7, 27, .int .u64 (rk : Int)), (8, 28, .agg #[.bool zx, .string zs]), (9, 29, .pointer (some ⟨g, k * 2, none⟩))])
    (fun _ L W => Lw W g (if L 10 = true then cvL f n (k + 1) else cvL f n k) ∧ RefBox W bm bi bc be bs p iv (if L 8 = true then refC p iv vs rs ch (k + 1) else refC p iv vs rs ch k) M A na capa ∧ w.grownBy W (some bc) ∧ W.heap[b9]? = some (wbox vx vm) ∧ (L 8 = false → W.cell? (a.add k) = some (.int .u64 (rk : Int)))) (by kernel_rfl) (by kernel_rfl) () ⟨HL1.out, HB1.out.drew, grown_drew HG1.out, HX.out, fun _ => HC1.out⟩ (by kernel_rfl) ?_ ?_
   ·repeat' (first | exact FactSteps.nil | refine FactSteps.cons ?_ ?_)
    all_goals
     intro L x wx hJ hl hd hs K hK
     (try simp [Region.binds] at hd)
     have e0 := (show Wd wx b9 vx vm from hJ.2.2.2.1).cell0
     have e1 := (show Wd wx b9 vx vm from hJ.2.2.2.1).cell1
     simp only [selA, selT_cons, selT_nil, List.set_cons_zero, List.set_cons_succ, List.getD_cons_zero, List.getD_cons_succ, hd, hl, selV_true, selV_false]
    ·go_simp
     refine hK.out x _ _ ?_ ?_
     ·simp [selA, selT_cons, selT_nil, hl, hd, selV_true, selV_false]
     ·simpa [hl] using hJ
    ·go_simp
     refine hK.out x _ _ ?_ ?_
     ·simp [selA, selT_cons, selT_nil, hl, hd, selV_true, selV_false]
     ·simpa [hl] using hJ
    ·go_simp
     refine hK.out x _ _ ?_ ?_
     ·simp [selA, selT_cons, selT_nil, hl, hd, selV_true, selV_false]
     ·simpa [hl] using hJ
    ·go_simp
     refine hK.out x _ _ ?_ ?_
     ·simp [selA, selT_cons, selT_nil, hl, hd, selV_true, selV_false]
     ·simpa [hl] using hJ
    ·go_simp
     refine hK.out x _ _ ?_ ?_
     ·simp [selA, selT_cons, selT_nil, hl, hd, selV_true, selV_false]
     ·simpa [hl] using hJ
    ·go_simp
     refine hK.out x _ _ ?_ ?_
     ·simp [selA, selT_cons, selT_nil, hl, hd, selV_true, selV_false]
     ·simpa [hl] using hJ
    ·go_simp
     refine hK.out x _ _ ?_ ?_
     ·simp [selA, selT_cons, selT_nil, hl, hd, selV_true, selV_false]
     ·simpa [hl] using hJ
    ·have h8 : L 8 = false := hs 8 _ rfl (by simp [Region.binds])
     have e4 := hJ.2.2.2.2 h8
     go_simp
     refine hK.out x _ _ ?_ ?_
     ·simp [selA, selT_cons, selT_nil, hl, hd, h8, selV_true, selV_false]
     ·simpa [hl] using hJ
    ·have h10 : L 10 = false := hs 10 _ rfl (by simp [Region.binds])
     have hB1 : RefBox wx bm bi bc be bs p iv (refC p iv vs rs ch k) M A na capa := by simpa [hl] using hJ.2.1
     have hL1 : Lw wx g (cvL f n k) := by simpa [h10] using hJ.1
     go_simp
     go_at_call 108
     with_reducible refine (HO.out _ hB1).mono ?_
     rintro e v ⟨rfl, hB2, hG2⟩
     refine hK.out x _ _ ?_ ?_
     ·simp [selA, selT_cons, selT_nil, hl, hd, h10, selV_true, selV_false]
     ·refine ⟨by simpa [h10] using hL1.grown hG2 (by simp; omega), by simpa using hB2, grown_trans2 hJ.2.2.1 hG2, (hG2.block b9 (heap_lt hJ.2.2.2.1) (by simp; omega)).trans hJ.2.2.2.1, fun h => by simp at h⟩
    ·go_simp
     refine hK.out x _ _ ?_ ?_
     ·simp [selA, selT_cons, selT_nil, hl, hd, selV_true, selV_false]
     ·simpa [hl] using hJ
    ·have hL1 : Lw wx g (cvL f n k) := by simpa [hl] using hJ.1
     have f0 : wx.frozen? ⟨g, k * 2, none⟩ = false := by
      unfold Lw at hL1
      simp [World.frozen?, hL1]
     have f1 : wx.frozen? ⟨g, k * 2 + 1, none⟩ = false := by
      unfold Lw at hL1
      simp [World.frozen?, hL1]
     have d0 := hL1.cell0 k (by rw [HLK.out]; exact hlt)
     have d1 := hL1.cell1 k (by rw [HLK.out]; exact hlt)
     generalize ((cvL f n k)[k]'(by rw [HLK.out]; exact hlt)).1 = u0 at d0
     generalize ((cvL f n k)[k]'(by rw [HLK.out]; exact hlt)).2 = u1 at d1
     have hP := hL1.put k zx zs
     rw [HNX.out] at hP
     have hB2 : RefBox wx bm bi bc be bs p iv (refC p iv vs rs ch (k + 1)) M A na capa := by simpa [hd] using hJ.2.1
     have HP := Lib.hid hP
     have HB2 := Lib.hid hB2
     clear hP hB2 hL1
     go_simp
     refine hK.out x _ _ ?_ ?_
     ·simp [selA, selT_cons, selT_nil, hl, hd, selV_true, selV_false]
     ·have hq := HBK.out
      refine ⟨HP.out, ?_, grown_set (grown_set hJ.2.2.1 (by simp only []; omega) _) (by simp only []; omega) _, ?_, fun h => by simp [hd] at h⟩
      ·have h3 := (HB2.out.far (a := ⟨g, k * 2, none⟩) (by simp only []; omega) (by simp only []; omega) (by simp only []; omega) (by simp only []; omega) (by simp only []; omega) (.bool zx)).far (a := ⟨g, k * 2 + 1, none⟩) (by simp only []; omega) (by simp only []; omega) (by simp only []; omega) (by simp only []; omega) (by simp only []; omega) (.string zs)
       simpa [hd] using h3
      ·exact (Below.heap_setCell _ _ _ _ (by simp only []; omega)).trans ((Below.heap_setCell _ _ _ _ (by simp only []; omega)).trans hJ.2.2.2.1)
   ·rintro _ W5 ⟨hL5, hB5, hG5, _, _⟩
    simp only [selA, selT_cons, selT_nil, List.set_cons_zero, List.set_cons_succ, List.getD_cons_zero, List.getD_cons_succ, selV_true]
    go_wp2_with fail
    go_roundw
    case rel => exact ⟨k + 1, rfl, by omega, hL5, hB5, hG5⟩
    case measure => simp [intOf]; omega
  ·obtain rfl : k = n := by omega
   have HL := Lib.hid hL
   have HBK := Lib.hid hBk
   have HGK := Lib.hid hGk
   clear hL hBk hGk hk
   go_wp2
   go_ret
   exact ⟨g, rfl, by have := HG.out; omega, HL.out, HBK.out, HGK.out⟩
end Go.Proofs.YtknaghdoffigjaaGreatDoor
namespace Go.Proofs.YtknaghdoffigjaaGreatDoor
open Go.RowKit Go
def Est (w : World) (b : Nat) (M : Int) (A : Option Addr) (n cap : Nat) : Prop := w.heap[b]? = some (.cells #[.bool (wneg M), .string (wmag M), .slice A n cap] 77 (0, 0))
def refI (p : Nat) (M : Int) : Nat := (invM p (M % (p : Int)).toNat).toNat
theorem refI_lt (p : Nat) (M : Int) (hp : 0 < p) : refI p M < p := by
 have h0 : 0 ≤ invM p (M % (p : Int)).toNat := Int.emod_nonneg _ (by omega)
 have h1 : invM p (M % (p : Int)).toNat < p := Int.emod_lt_of_pos _ (by omega)
 unfold refI
 omega
def entQ (s a : Bool) (b : Nat) (x : Int) : Option (Nat × Obj) := if a = true then some (b, .cells #[.int .u64 (if s = true then x else 0)] 80 (0, 0)) else none
theorem entQ_no (s : Bool) (b : Nat) (x : Int) : entQ s false b x = none := rfl
theorem entQ_new (b : Nat) (x : Int) : entQ false true b x = some (b, .cells #[.int .u64 0] 80 (0, 0)) := rfl
theorem entQ_full (b : Nat) (x : Int) : entQ true true b x = some (b, .cells #[.int .u64 x] 80 (0, 0)) := rfl
theorem grown_past {a b c : World} {row : Option Nat} {g : Nat} (h : a.grownBy b row) (k : b.grownBy c (some g)) (hg : a.heap.size ≤ g) : a.grownBy c row :=
 ⟨k.os.trans h.os, k.tape.trans h.tape, k.output.trans h.output, Nat.le_trans h.size k.size, fun i hi hne => (k.block i (Nat.lt_of_lt_of_le hi h.size) (fun e => by cases e; omega)).trans (h.block i hi hne)⟩
theorem results_bool {fn : Func} {tmps : Array Value} {w : World} {p : Tmp} {b : Nat} {x : Bool} (h : fn.results = #[.cell p 4])
  (ht : tmps.getD p undef = .pointer (some ⟨b, 0, none⟩)) (hc : w.cell? ⟨b, 0, none⟩ = some (.bool x)) : (results fn tmps).run Tryz.prog w = .ok (.bool x) w := by
 have : (loadVar 4 ⟨b, 0, none⟩).run Tryz.prog w = .ok (.bool x) w := by simp [loadVar, go_sem, hc]
 rw [Array.getD_eq_getD_getElem?] at ht
 simp only [results, h]
 simp [Sem.run_bind, Result.andThen, ht, asAddr, this]
theorem RefBox.values {w : World} {bm bi bc be bs p iv : Nat} {ch : Bool} {M : Int} {A A' : Option Addr} {n cap n' cap' : Nat} (h : RefBox w bm bi bc be bs p iv ch M A n cap) (h1 : bm ≠ bs) (h2 : bi ≠ bs) (h3 : bc ≠ bs) (h4 : be ≠ bs) :
  RefBox (w.setCell ⟨bs, 2, none⟩ (.slice A' n' cap')) bm bi bc be bs p iv ch M A' n' cap' := by
 refine ⟨(Below.heap_setCell _ _ _ _ h1).trans h.m, (Below.heap_setCell _ _ _ _ h2).trans h.i, (Below.heap_setCell _ _ _ _ h3).trans h.c, (Below.heap_setCell _ _ _ _ h4).trans h.e, ?_⟩
 simp [World.setCell, Array.getElem?_modify, h.s]
theorem RefBox.modulus {w : World} {bm bi bc be bs p iv : Nat} {ch : Bool} {M M' : Int} {A : Option Addr} {n cap : Nat} (h : RefBox w bm bi bc be bs p iv ch M A n cap) (h1 : bm ≠ bs) (h2 : bi ≠ bs) (h3 : bc ≠ bs) (h4 : be ≠ bs) :
  RefBox ((w.setCell ⟨bs, 0, none⟩ (.bool (wneg M'))).setCell ⟨bs, 1, none⟩ (.string (wmag M'))) bm bi bc be bs p iv ch M' A n cap := by
 refine ⟨(Below.heap_setCell _ _ _ _ h1).trans ((Below.heap_setCell _ _ _ _ h1).trans h.m), (Below.heap_setCell _ _ _ _ h2).trans ((Below.heap_setCell _ _ _ _ h2).trans h.i), (Below.heap_setCell _ _ _ _ h3).trans ((Below.heap_setCell _ _ _ _ h3).trans h.c), (Below.heap_setCell _ _ _ _ h4).trans ((Below.heap_setCell _ _ _ _ h4).trans h.e), ?_⟩
 simp [World.setCell, Array.getElem?_modify, h.s]
set_option maxRecDepth 100000 in
set_option maxHeartbeats 4000000 in
theorem refine_any (bs gV p n cap nr cr : Nat) (Br : Option Addr) (vs : List Int) (rs : List Nat) (M : Int) (w : World) (hE : Est w bs M (some ⟨gV, 0, none⟩) n cap) (hA : Lw w gV (enc vs)) (hn : vs.length = n) (hr : RdA w Br rs) (hrn : rs.length = n) (hnr : n ≤ nr) (hn2 : n ≤ 40000)
  (hp : 1 < p) (hp2 : p < 2147483648) (hrs : ∀ k, rs.getD k 0 < p) (hv : ∀ k, k < n → (wmag (vs.getD k 0)).size ≤ 900) (hM : (wmag M).size ≤ 900) :
  Calls Tryz.prog 71 #[.pointer (some ⟨bs, 0, none⟩), mmod p, .slice Br nr cr] w fun e w' =>
   ∃ g, e = .returned (.bool (refC p (refI p M) vs rs false n)) ∧ w.heap.size ≤ g ∧ Lw w' g (enc (refL p (refI p M) M vs rs)) ∧ Est w' bs (M * (p : Int)) (some ⟨g, 0, none⟩) n n ∧ w.grownBy w' (some bs) := by
 have hres := fun W => residue_any p (wneg M) (wmag M) W (by omega) hp2 hM M (wint_wv' M)
 have hM0 := Int.emod_nonneg M (show (p : Int) ≠ 0 by omega)
 have hM1 := Int.emod_lt_of_pos M (show (0 : Int) < (p : Int) by omega)
 obtain ⟨mr, hmr⟩ : ∃ mr : Nat, (mr : Int) = M % (p : Int) := ⟨(M % (p : Int)).toNat, Int.toNat_of_nonneg hM0⟩
 have hinv := fun W => inverse_any p mr W (by omega) hp2 (by omega)
 have hiv0 : (refI p M : Int) = invM p mr := by
  have h0 : 0 ≤ invM p mr := Int.emod_nonneg _ (by omega)
  unfold refI
  rw [← hmr]
  simp only [Int.toNat_natCast]
  exact Int.toNat_of_nonneg h0
 rw [← hiv0] at hinv
 rw [← hmr] at hres
 have hiv := refI_lt p M (by omega)
 generalize refI p M = iv at *
 have hfrom := fun W => From_any (p : Int) W (by omega) (by omega)
 rw [wv_def] at hfrom
 have szp := wmag_size (p : Int) 7 (by rw [pow7]; omega)
 have hmul := fun W => Mul_any (wneg M) (wneg (p : Int)) (wmag M) (wmag (p : Int)) W (by omega) (by omega)
 rw [wint_wv', wint_wv', wv_def] at hmul
 have hcomb := fun bm bi bc be W hL hR hB => combine_refine gV bm bi bc be bs p iv n cap nr cr Br false vs rs M (some ⟨gV, 0, none⟩) n cap W hL hn hR hrn hnr hn2 hB hp hp2 hiv hrs hv (by omega)
 have wp : IntKind.i64.wrap (p : Int) = p := IntWalk.i64_in _ (by omega)
 have hbs := heap_lt hE
 have hgV := heap_lt hA
 have hneV : gV ≠ bs := by
  rintro rfl
  have e := hA.symm.trans hE
  simp at e
 unfold mmod at *
 have HRES := Lib.hid hres
 have HINV := Lib.hid hinv
 have HFROM := Lib.hid hfrom
 have HMUL := Lib.hid hmul
 have HCOMB := Lib.hid hcomb
 have HE := Lib.hid hE
 have HA := Lib.hid hA
 have HR := Lib.hid hr
 obtain ⟨chf, hchf⟩ : ∃ chf, chf = refC p iv vs rs false n := ⟨_, rfl⟩
 rw [← hchf] at HCOMB ⊢
 obtain ⟨ul, hul⟩ : ∃ ul, ul = enc (refL p iv M vs rs) := ⟨_, rfl⟩
 rw [← hul] at HCOMB ⊢
 clear hchf hul
 clear hres hinv hfrom hmul hcomb hE hA hr hM0 hM1 hmr hiv0 szp hM hv hrs hn hrn hnr hn2
 generalize hq : ((18446744073709551615 / p : Nat) : Int) = q at *
 have hK1 := (Kg.none_ none w 4).new 0 (.cells #[.pointer (some ⟨bs, 0, none⟩)] 119 (0, 0)) rfl
 have hK2 := hK1.new 1 (.cells #[.int .u64 (p : Int), .int .u64 q] 82 (0, 0)) rfl
 have hK3 := hK2.new 2 (.cells #[.bool false] 4 (0, 0)) rfl
 have HK3 := Lib.hid (hK3.cast (l' := [some (w.heap.size, .cells #[.pointer (some ⟨bs, 0, none⟩)] 119 (0, 0)), some (w.heap.size + 1, .cells #[.int .u64 (p : Int), .int .u64 q] 82 (0, 0)), some (w.heap.size + 1 + 1, .cells #[.bool false] 4 (0, 0)), none]) (by simp))
 clear hK1 hK2 hK3
 go_enter Tryz.func71, Tryz.ntmps71
 go_wp2_with fail
 generalize ((w.alloc (.cells #[.pointer (some ⟨bs, 0, none⟩)] 119 (0, 0))).alloc (.cells #[.int .u64 (p : Int), .int .u64 q] 82 (0, 0))).alloc (.cells #[.bool false] 4 (0, 0)) = W3 at *
 obtain ⟨b3, hb3⟩ : ∃ b3, b3 = w.heap.size := ⟨_, rfl⟩
 refine wp_region_facts (X := Nat) (fun x => [(0, 8, .agg #[.int .u64 (p : Int), .int .u64 q]), (1, 9, .agg #[.int .u64 (p : Int), .int .u64 q]), (2, 10, .pointer (some ⟨bs, 0, none⟩)), (3, 11, .pointer (some ⟨bs, 0, none⟩)), (4, 12, .pointer (some ⟨bs, 0, none⟩)), (5, 13, .agg #[.bool (wneg M), .string (wmag M)]), (6, 14, .int .u64 (mr : Int)), (7, 15, .int .u64 (iv : Int)), (8, 7, .pointer (some ⟨x, 0, none⟩))])
  (fun x L W => Kg none w W [some (w.heap.size, .cells #[.pointer (some ⟨bs, 0, none⟩)] 119 (0, 0)), some (w.heap.size + 1, .cells #[.int .u64 (p : Int), .int .u64 q] 82 (0, 0)), some (w.heap.size + 1 + 1, .cells #[.bool false] 4 (0, 0)), entQ (L 9) (L 8) x (iv : Int)]) (by kernel_rfl) (by kernel_rfl) 0 HK3.out.drew (by kernel_rfl) ?_ ?_
 ·repeat' (first | exact FactSteps.nil | refine FactSteps.cons ?_ ?_)
  all_goals
   intro L x wx hJ hl hd hs K hK
   (try simp [Region.binds] at hd)
   have e0 := hJ.cell 0 0 rfl rfl
   have e1 := hJ.cell 1 0 rfl rfl
   have e2 := hJ.cell 1 1 rfl rfl
   have hE1 : Est wx bs M (some ⟨gV, 0, none⟩) n cap := (hJ.1.block bs hbs (by simp)).trans HE.out
   have e3 := cell_of_row wx bs 0 _ _ _ hE1
   have e4 := cell_of_row wx bs 1 _ _ _ hE1
   simp only [selA, selT_cons, selT_nil, List.set_cons_zero, List.set_cons_succ, List.getD_cons_zero, List.getD_cons_succ, hd, hl, selV_true, selV_false]
  ·go_simp
   refine hK.out x _ _ ?_ ?_
   ·simp [selA, selT_cons, selT_nil, hl, hd, selV_true, selV_false]
   ·simpa [hl] using hJ
  ·go_simp
   refine hK.out x _ _ ?_ ?_
   ·simp [selA, selT_cons, selT_nil, hl, hd, selV_true, selV_false]
   ·simpa [hl] using hJ
  ·go_simp
   refine hK.out x _ _ ?_ ?_
   ·simp [selA, selT_cons, selT_nil, hl, hd, selV_true, selV_false]
   ·simpa [hl] using hJ
  ·go_simp
   refine hK.out x _ _ ?_ ?_
   ·simp [selA, selT_cons, selT_nil, hl, hd, selV_true, selV_false]
   ·simpa [hl] using hJ
  ·go_simp
   refine hK.out x _ _ ?_ ?_
   ·simp [selA, selT_cons, selT_nil, hl, hd, selV_true, selV_false]
   ·simpa [hl] using hJ
  ·go_simp
   refine hK.out x _ _ ?_ ?_
   ·simp [selA, selT_cons, selT_nil, hl, hd, selV_true, selV_false]
   ·simpa [hl] using hJ
  ·go_simp
   with_reducible refine (HRES.out _).mono ?_
   rintro e v ⟨rfl, hb⟩
   refine hK.out x _ _ ?_ ?_
   ·simp [selA, selT_cons, selT_nil, hl, hd, selV_true, selV_false]
   ·simpa [hl] using hJ.step hb
  ·go_simp
   with_reducible refine (HINV.out _).mono ?_
   rintro e v ⟨rfl, hb⟩
   refine hK.out x _ _ ?_ ?_
   ·simp [selA, selT_cons, selT_nil, hl, hd, selV_true, selV_false]
   ·simpa [hl] using hJ.step hb
  ·have hn := hs 9 _ rfl (by simp [Region.binds])
   go_simp
   refine hK.out wx.heap.size _ _ ?_ ?_
   ·simp [selA, selT_cons, selT_nil, hl, hd, hn, selV_true, selV_false]
   ·refine Kg.cast (hJ.new 3 (.cells #[.int .u64 0] 80 (0, 0)) (by simp [hl, entQ_no])) ?_
    simp [hn, entQ_new]
  ·have hJ2 := hJ
   simp only [hl, hd, entQ_new] at hJ2
   have f0 := hJ2.frozen 3 0 rfl
   have d0 := hJ2.cell 3 0 rfl rfl
   go_simp
   refine hK.out x _ _ ?_ ?_
   ·simp [selA, selT_cons, selT_nil, hl, hd, selV_true, selV_false]
   ·refine Kg.cast (hJ2.put 3 0 rfl _) ?_
    simp [hd, entQ_full]
 ·rintro bi W4 hK4
  simp only [selA, selT_cons, selT_nil, List.set_cons_zero, List.set_cons_succ, List.getD_cons_zero, List.getD_cons_succ, selV_true]
  simp only [entQ_full] at hK4
  have hB4 : RefBox W4 (w.heap.size + 1) bi (w.heap.size + 1 + 1) w.heap.size bs p iv false M (some ⟨gV, 0, none⟩) n cap :=
   ⟨by rw [hq]; exact hK4.at_ 1 rfl, hK4.at_ 3 rfl, hK4.at_ 2 rfl, hK4.at_ 0 rfl, (hK4.1.block bs hbs (by simp)).trans HE.out⟩
  have hbi := hK4.ge 3 rfl
  have hW4 := heap_lt hB4.c
  have hW4b := heap_lt hB4.i
  have hW4w := hK4.1.size
  have HB4 := Lib.hid hB4
  have HG4 := Lib.hid (show w.grownBy W4 (some bs) from ⟨hK4.1.os, hK4.1.tape, hK4.1.output, hK4.1.size, fun i hi _ => hK4.1.block i hi (by simp)⟩)
  have HA4 := Lib.hid (show Lw W4 gV (enc vs) from (hK4.1.block gV hgV (by simp)).trans HA.out)
  have HR4 := Lib.hid (show RdA W4 Br rs from fun k hk => by
   obtain ⟨a, e, hl, h1⟩ := HR.out k hk
   exact ⟨a, e, Nat.lt_of_lt_of_le hl hK4.1.size, (World.cell?_of_block (by rw [block_add]; exact hK4.1.block _ hl (by simp))).trans h1⟩)
  have hcombk := HCOMB.out (w.heap.size + 1) bi (w.heap.size + 1 + 1) w.heap.size
  have HCK := Lib.hid hcombk
  clear hK4 hB4 hcombk HK3
  go_wp2_with fail
  refine wp_region_facts (X := Nat) (fun x => [(0, 16, .pointer (some ⟨bs, 0, none⟩)), (1, 17, .pointer (some ⟨bs, 0, none⟩)), (2, 18, .pointer (some ⟨bs, 0, none⟩)), (3, 19, .pointer (some ⟨bs, 2, none⟩)), (4, 20, .slice (some ⟨gV, 0, none⟩) n cap), (5, 21, .slice Br nr cr), (6, 22, .func (.func 108) #[] #[.pointer (some ⟨w.heap.size + 1, 0, none⟩), .pointer (some ⟨bi, 0, none⟩), .pointer (some ⟨w.heap.size + 1 + 1, 0, none⟩), .pointer (some ⟨w.heap.size, 0, none⟩)]), (7, 23, .slice (some ⟨x, 0, none⟩) n n), (8, 24, .pointer (some ⟨bs, 0, none⟩)), (9, 25, .pointer (some ⟨bs, 2, none⟩))])
   (fun x L W => RefBox W (w.heap.size + 1) bi (w.heap.size + 1 + 1) w.heap.size bs p iv (if L 7 = true then chf else false) M (if L 10 = true then some ⟨x, 0, none⟩ else some ⟨gV, 0, none⟩) n (if L 10 = true then n else cap) ∧ w.grownBy W (some bs) ∧ (L 7 = true → W4.heap.size ≤ x ∧ Lw W x ul) ∧ (L 7 = false → Lw W gV (enc vs) ∧ RdA W Br rs) ∧ W4.heap.size ≤ W.heap.size) (by kernel_rfl) (by kernel_rfl) 0 (by refine ⟨HB4.out.drew, grown_drew HG4.out, fun h => ?_, fun _ => ⟨HA4.out, HR4.out⟩, Nat.le_refl _⟩; simp at h) (by kernel_rfl) ?_ ?_
  ·repeat' (first | exact FactSteps.nil | refine FactSteps.cons ?_ ?_)
   all_goals
    intro L x wx hJ hl hd hs K hK
    (try simp [Region.binds] at hd)
    have e0 := hJ.1.ce
    simp only [selA, selT_cons, selT_nil, List.set_cons_zero, List.set_cons_succ, List.getD_cons_zero, List.getD_cons_succ, hd, hl, selV_true, selV_false]
   ·go_simp
    refine hK.out x _ _ ?_ ?_
    ·simp [selA, selT_cons, selT_nil, hl, hd, selV_true, selV_false]
    ·simpa [hl] using hJ
   ·go_simp
    refine hK.out x _ _ ?_ ?_
    ·simp [selA, selT_cons, selT_nil, hl, hd, selV_true, selV_false]
    ·simpa [hl] using hJ
   ·go_simp
    refine hK.out x _ _ ?_ ?_
    ·simp [selA, selT_cons, selT_nil, hl, hd, selV_true, selV_false]
    ·simpa [hl] using hJ
   ·go_simp
    refine hK.out x _ _ ?_ ?_
    ·simp [selA, selT_cons, selT_nil, hl, hd, selV_true, selV_false]
    ·simpa [hl] using hJ
   ·have hn := hs 10 _ rfl (by simp [Region.binds])
    have hB := hJ.1
    simp only [hn, Bool.false_eq_true, if_false, if_true] at hB
    have e5 := hB.cs2
    go_simp
    refine hK.out x _ _ ?_ ?_
    ·simp [selA, selT_cons, selT_nil, hl, hd, hn, selV_true, selV_false]
    ·simpa [hl] using hJ
   ·go_simp
    refine hK.out x _ _ ?_ ?_
    ·simp [selA, selT_cons, selT_nil, hl, hd, selV_true, selV_false]
    ·simpa [hl] using hJ
   ·go_simp
    refine hK.out x _ _ ?_ ?_
    ·simp [selA, selT_cons, selT_nil, hl, hd, selV_true, selV_false]
    ·simpa [hl] using hJ
   ·have hn := hs 10 _ rfl (by simp [Region.binds])
    have hB := hJ.1
    simp only [hn, hl, Bool.false_eq_true, if_false, if_true] at hB
    obtain ⟨hLV, hRV⟩ := hJ.2.2.2.1 hl
    go_simp
    go_at_call 107
    with_reducible refine (HCK.out _ hLV hRV hB).mono ?_
    rintro e v ⟨g, rfl, hg, hLg, hBg, hGg⟩
    refine hK.out g _ _ ?_ ?_
    ·simp [selA, selT_cons, selT_nil, hl, hd, hn, selV_true, selV_false]
    ·exact ⟨by simpa [hn] using hBg, grown_past hJ.2.1 hGg (by omega), fun _ => ⟨Nat.le_trans hJ.2.2.2.2 hg, hLg⟩, fun h => by simp at h, Nat.le_trans hJ.2.2.2.2 hGg.size⟩
   ·go_simp
    refine hK.out x _ _ ?_ ?_
    ·simp [selA, selT_cons, selT_nil, hl, hd, selV_true, selV_false]
    ·simpa [hl] using hJ
   ·go_simp
    refine hK.out x _ _ ?_ ?_
    ·simp [selA, selT_cons, selT_nil, hl, hd, selV_true, selV_false]
    ·simpa [hl] using hJ
   ·have hB := hJ.1
    simp only [hd, hl, Bool.false_eq_true, if_false, if_true] at hB
    obtain ⟨hg, hLg⟩ := hJ.2.2.1 (by simp [hd])
    have d0 := hB.cs2
    have f0 : wx.frozen? ⟨bs, 2, none⟩ = false := by simp [World.frozen?, hB.s]
    go_simp
    refine hK.out x _ _ ?_ ?_
    ·simp [selA, selT_cons, selT_nil, hl, hd, selV_true, selV_false]
    ·refine ⟨?_, grown_trans2 hJ.2.1 (grownBy_setRow (World.grownBy.refl _ _) rfl _), fun _ => ⟨hg, (Below.heap_setCell _ _ _ _ (by simp only []; omega)).trans hLg⟩, fun h => by simp [hd] at h, by simpa [World.setCell] using hJ.2.2.2.2⟩
     simpa [hd] using hB.values (A' := some ⟨x, 0, none⟩) (n' := n) (cap' := n) (by omega) (by omega) (by omega) (by omega)
  ·rintro g W5 ⟨hB5, hG5, hL5, _, _⟩
   simp only [selA, selT_cons, selT_nil, List.set_cons_zero, List.set_cons_succ, List.getD_cons_zero, List.getD_cons_succ, selV_true]
   simp only [if_true] at hB5
   obtain ⟨hg, hLg⟩ := hL5 rfl
   have HB5 := Lib.hid hB5
   have HG5 := Lib.hid hG5
   have HL5 := Lib.hid hLg
   clear hB5 hG5 hL5 hLg HB4 HG4 HA4 HR4 HCK
   go_wp2_with fail
   refine wp_region_facts (X := Unit) (fun x => [(0, 26, .pointer (some ⟨bs, 0, none⟩)), (1, 27, .pointer (some ⟨bs, 0, none⟩)), (2, 28, .pointer (some ⟨bs, 0, none⟩)), (3, 29, .pointer (some ⟨bs, 0, none⟩)), (4, 30, .agg #[.bool (wneg M), .string (wmag M)]), (5, 31, .pointer (some ⟨w.heap.size + 1, 0, none⟩)), (6, 32, .int .u64 (p : Int)), (7, 33, .int .i64 (p : Int)), (8, 34, .agg #[.bool (wneg (p : Int)), .string (wmag (p : Int))]), (9, 35, .agg #[.bool (wneg (M * (p : Int))), .string (wmag (M * (p : Int)))]), (10, 36, .pointer (some ⟨bs, 0, none⟩)), (11, 37, .pointer (some ⟨bs, 0, none⟩))])
    (fun _ L W => RefBox W (w.heap.size + 1) bi (w.heap.size + 1 + 1) w.heap.size bs p iv chf (if L 12 = true then M * (p : Int) else M) (some ⟨g, 0, none⟩) n n ∧ w.grownBy W (some bs) ∧ Lw W g ul) (by kernel_rfl) (by kernel_rfl) () ⟨HB5.out.drew, grown_drew HG5.out, HL5.out⟩ (by kernel_rfl) ?_ ?_
   ·repeat' (first | exact FactSteps.nil | refine FactSteps.cons ?_ ?_)
    all_goals
     intro L x wx hJ hl hd hs K hK
     (try simp [Region.binds] at hd)
     have e0 := hJ.1.ce
     have e1 := hJ.1.cm0
     simp only [selA, selT_cons, selT_nil, List.set_cons_zero, List.set_cons_succ, List.getD_cons_zero, List.getD_cons_succ, hd, hl, selV_true, selV_false]
    ·go_simp
     refine hK.out x _ _ ?_ ?_
     ·simp [selA, selT_cons, selT_nil, hl, hd, selV_true, selV_false]
     ·simpa [hl] using hJ
    ·go_simp
     refine hK.out x _ _ ?_ ?_
     ·simp [selA, selT_cons, selT_nil, hl, hd, selV_true, selV_false]
     ·simpa [hl] using hJ
    ·go_simp
     refine hK.out x _ _ ?_ ?_
     ·simp [selA, selT_cons, selT_nil, hl, hd, selV_true, selV_false]
     ·simpa [hl] using hJ
    ·go_simp
     refine hK.out x _ _ ?_ ?_
     ·simp [selA, selT_cons, selT_nil, hl, hd, selV_true, selV_false]
     ·simpa [hl] using hJ
    ·have hn := hs 12 _ rfl (by simp [Region.binds])
     have hB := hJ.1
     simp only [hn, Bool.false_eq_true, if_false, if_true] at hB
     have e5 := hB.cs0
     have e6 := hB.cs1
     go_simp
     refine hK.out x _ _ ?_ ?_
     ·simp [selA, selT_cons, selT_nil, hl, hd, hn, selV_true, selV_false]
     ·simpa [hl] using hJ
    ·go_simp
     refine hK.out x _ _ ?_ ?_
     ·simp [selA, selT_cons, selT_nil, hl, hd, selV_true, selV_false]
     ·simpa [hl] using hJ
    ·go_simp
     refine hK.out x _ _ ?_ ?_
     ·simp [selA, selT_cons, selT_nil, hl, hd, selV_true, selV_false]
     ·simpa [hl] using hJ
    ·go_simp
     refine hK.out x _ _ ?_ ?_
     ·simp [selA, selT_cons, selT_nil, hl, hd, selV_true, selV_false]
     ·simpa [hl] using hJ
    ·go_simp
     with_reducible refine (HFROM.out _).mono ?_
     rintro e v ⟨rfl, hb⟩
     refine hK.out x _ _ ?_ ?_
     ·simp [selA, selT_cons, selT_nil, hl, hd, selV_true, selV_false]
     ·exact ⟨by simpa using hJ.1.step hb, grown_below hJ.2.1 hb, hJ.2.2.step hb⟩
    ·go_simp
     with_reducible refine (HMUL.out _).mono ?_
     rintro e v ⟨rfl, hb⟩
     refine hK.out x _ _ ?_ ?_
     ·simp [selA, selT_cons, selT_nil, hl, hd, selV_true, selV_false]
     ·exact ⟨by simpa using hJ.1.step hb, grown_below hJ.2.1 hb, hJ.2.2.step hb⟩
    ·go_simp
     refine hK.out x _ _ ?_ ?_
     ·simp [selA, selT_cons, selT_nil, hl, hd, selV_true, selV_false]
     ·simpa [hl] using hJ
    ·go_simp
     refine hK.out x _ _ ?_ ?_
     ·simp [selA, selT_cons, selT_nil, hl, hd, selV_true, selV_false]
     ·simpa [hl] using hJ
    ·have hB := hJ.1
     simp only [hl, Bool.false_eq_true, if_false, if_true] at hB
     have d0 := hB.cs0
     have d1 := hB.cs1
     have f0 : wx.frozen? ⟨bs, 0, none⟩ = false := by simp [World.frozen?, hB.s]
     have f1 : wx.frozen? ⟨bs, 1, none⟩ = false := by simp [World.frozen?, hB.s]
     go_simp
     refine hK.out x _ _ ?_ ?_
     ·simp [selA, selT_cons, selT_nil, hl, hd, selV_true, selV_false]
     ·refine ⟨?_, grown_trans2 (grown_trans2 hJ.2.1 (grownBy_setRow (World.grownBy.refl _ _) rfl _)) (grownBy_setRow (World.grownBy.refl _ _) rfl _), (Below.heap_setCell _ _ _ _ (by simp only []; omega)).trans ((Below.heap_setCell _ _ _ _ (by simp only []; omega)).trans hJ.2.2)⟩
      simpa using hB.modulus (M' := M * (p : Int)) (by omega) (by omega) (by omega) (by omega)
   ·rintro _ W6 ⟨hB6, hG6, hL6⟩
    simp only [selA, selT_cons, selT_nil, List.set_cons_zero, List.set_cons_succ, List.getD_cons_zero, List.getD_cons_succ, selV_true]
    simp only [if_true] at hB6
    have c0 := hB6.cc
    have f0 := hB6.fc
    have HB6 := Lib.hid hB6
    go_wp2_with fail
    have hB7 := HB6.out.put chf
    have hG7 := grown_past hG6 (grownBy_setRow (g := w.heap.size + 1 + 1) (p := ⟨w.heap.size + 1 + 1, 0, none⟩) (World.grownBy.refl W6 _) rfl (.bool chf)) (by omega)
    refine bodyPost_ret (v := .bool chf) (results_bool (b := w.heap.size + 1 + 1) rfl rfl hB7.cc) rfl ?_
    exact ⟨g, rfl, Nat.le_trans hW4w hg, (Below.heap_setCell _ _ _ _ (by simp only []; omega)).trans hL6, hB7.s, hG7⟩
end Go.Proofs.YtknaghdoffigjaaGreatDoor
