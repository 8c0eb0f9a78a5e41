import Derived.Test.YtknaghdoffigjaaGreatDoorZMTabI
set_option linter.unusedSimpArgs false
set_option linter.unusedVariables false
set_option linter.unnecessarySimpa false
namespace Go.Proofs.YtknaghdoffigjaaGreatDoor
open Go.RowKit Go
attribute [local go_sem] Oper.semAt_some
def lsI (xs : List Int) : Obj := .cells (Ii xs) 3 (0, 0)
theorem results_tableI {fn : Func} {tmps : Array Value} {w : World} {p : Tmp} {b : Nat} {r c : Int} {A : Option Addr} {n cap : Nat} (h : fn.results = #[.cell p 147])
  (ht : tmps.getD p undef = .pointer (some ⟨b, 0, none⟩)) (hw : TbI w b r c A n cap) : (results fn tmps).run Tryz.prog w = .ok (mat r c A n cap) w := by
 have := hw.load
 rw [Array.getD_eq_getD_getElem?] at ht
 simp only [results, h]
 simp [Sem.run_bind, Result.andThen, ht, asAddr, this]
def FitM (xs ys : List Int) (r m c : Nat) : Prop := ∀ i j k, i < r → j < c → k < m → fitI (xs.getD (i * m + k) 0 * ys.getD (k * c + j) 0) ∧ fitI (dotI xs ys m c i j (k + 1))
set_option maxRecDepth 100000 in
set_option maxHeartbeats 4000000 in
theorem multiply_int (ga gb r m c na nb capa capb NN : Nat) (xs ys : List Int) (w : World) (hA : LsI w ga xs) (hB : LsI w gb ys) (hxl : xs.length = r * m) (hyl : ys.length = m * c) (hr : r ≤ 200) (hm : m ≤ 200) (hc : c ≤ 200) (hna : r * m ≤ capa) (hnb : m * c ≤ capb) (hcapa : capa ≤ maxLen) (hcapb : capb ≤ maxLen) (hNN : r * c = NN) (hfit : FitM xs ys r m c) :
  Calls Tryz.prog 133 #[mat r m (some ⟨ga, 0, none⟩) na capa, mat m c (some ⟨gb, 0, none⟩) nb capb, .func (.func 131) #[] #[], .func (.func 132) #[] #[]] w fun e w' => ∃ g, e = .returned (mat r c (some ⟨g, 0, none⟩) NN NN) ∧ w.heap.size ≤ g ∧ LsI w' g (mulL xs ys r m c) ∧ Below w.heap.size w w' := by
 have hNN2 : NN ≤ 40000 := by rw [← hNN]; exact Nat.le_trans (Nat.mul_le_mul hr hc) (by omega)
 have hnt := fun W => newTable_anyI r c NN W (by omega) (by omega) hNN hNN2
 have hrp := fun g (i : Nat) (hi : i < r) W => row_anyI r c i (some ⟨g, 0, none⟩) NN NN W hi (by omega) (by omega) (Nat.le_of_eq hNN) (by unfold maxLen; omega)
 have hrb := fun (k : Nat) (hk : k < m) W => row_anyI m c k (some ⟨gb, 0, none⟩) nb capb W hk (by omega) (by omega) hnb hcapb
 have hro : ∀ (g i n : Nat), (if n = 0 then some (⟨g, 0, none⟩ : Addr) else (some (⟨g, 0, none⟩ : Addr)).map (·.add (i * n))) = some ⟨g, i * n, none⟩ := fun g i n => by
  simp only [Option.map_some, add_from0]
  by_cases h : n = 0
  ·rw [if_pos h, h]; simp
  ·rw [if_neg h]
 simp only [hro] at hrp hrb
 unfold mat at *
 have HNT := Lib.hid hnt
 have HRP := Lib.hid hrp
 have HRB := Lib.hid hrb
 have HRO := Lib.hid hro
 have HA := Lib.hid hA
 have HB := Lib.hid hB
 have HXL := Lib.hid hxl
 have HYL := Lib.hid hyl
 have HNN := Lib.hid hNN
 have HFIT := Lib.hid hfit
 have hga := heap_lt hA
 have hgb := heap_lt hB
 clear hnt hrp hrb hro hA hB hxl hyl hNN hfit
 have hK1 := (((((Kg.none_ none w 6).new 0 (.cells #[.int .i64 (r : Int), .int .i64 (m : Int), .slice (some ⟨ga, 0, none⟩) na capa] 147 (0, 0)) rfl).new 1 (.cells #[.int .i64 (m : Int), .int .i64 (c : Int), .slice (some ⟨gb, 0, none⟩) nb capb] 147 (0, 0)) rfl).new 2 (.cells #[.func (.func 131) #[] #[]] 74 (0, 0)) rfl).new 3 (.cells #[.func (.func 132) #[] #[]] 74 (0, 0)) rfl).new 4 (.cells #[.int .i64 0, .int .i64 0, .slice none 0 0] 147 (0, 0)) rfl
 have HK2 := Lib.hid ((hK1.new 5 (.cells #[.int .i64 0] 3 (0, 0)) rfl).cast (l' := [some (w.heap.size, .cells #[.int .i64 (r : Int), .int .i64 (m : Int), .slice (some ⟨ga, 0, none⟩) na capa] 147 (0, 0)), some (w.heap.size + 1, .cells #[.int .i64 (m : Int), .int .i64 (c : Int), .slice (some ⟨gb, 0, none⟩) nb capb] 147 (0, 0)), some (w.heap.size + 1 + 1, .cells #[.func (.func 131) #[] #[]] 74 (0, 0)), some (w.heap.size + 1 + 1 + 1, .cells #[.func (.func 132) #[] #[]] 74 (0, 0)), some (w.heap.size + 1 + 1 + 1 + 1, .cells #[.int .i64 0, .int .i64 0, .slice none 0 0] 147 (0, 0)), some (w.heap.size + 1 + 1 + 1 + 1 + 1, .cells #[.int .i64 0] 3 (0, 0))]) (by simp))
 have hAs : ∀ W l, Kg none w W l → LsI W ga xs ∧ LsI W gb ys := fun W l h => ⟨(h.1.block ga hga (by simp)).trans HA.out, (h.1.block gb hgb (by simp)).trans HB.out⟩
 have HAS := Lib.hid hAs
 have c0 := HK2.out.cell 0 0 rfl rfl
 have c1 := HK2.out.cell 1 1 rfl rfl
 clear hK1 hAs
 refine (callsIn_wide (n := 0)).1 ?_
 refine callsIn_of_wp_marks Tryz.func133 rfl trivial ?_ rfl
 simp only [Tryz.ntmps133, List.size_toArray, List.length_cons, List.length_nil, Nat.reduceAdd, Nat.reduceSub, Array.replicate_succ, Array.replicate_zero, List.push_toArray, List.append_toArray, List.nil_append, List.cons_append]
 gi_wp2_with fail
 change _ ∧ _ ∧ CallsIn _ _ _ _ _ ((((((w.alloc (.cells #[.int .i64 (r : Int), .int .i64 (m : Int), .slice (some ⟨ga, 0, none⟩) na capa] 147 (0, 0))).alloc (.cells #[.int .i64 (m : Int), .int .i64 (c : Int), .slice (some ⟨gb, 0, none⟩) nb capb] 147 (0, 0))).alloc (.cells #[.func (.func 131) #[] #[]] 74 (0, 0))).alloc (.cells #[.func (.func 132) #[] #[]] 74 (0, 0))).alloc (.cells #[.int .i64 0, .int .i64 0, .slice none 0 0] 147 (0, 0))).alloc (.cells #[.int .i64 0] 3 (0, 0))) _
 generalize (((((w.alloc (.cells #[.int .i64 (r : Int), .int .i64 (m : Int), .slice (some ⟨ga, 0, none⟩) na capa] 147 (0, 0))).alloc (.cells #[.int .i64 (m : Int), .int .i64 (c : Int), .slice (some ⟨gb, 0, none⟩) nb capb] 147 (0, 0))).alloc (.cells #[.func (.func 131) #[] #[]] 74 (0, 0))).alloc (.cells #[.func (.func 132) #[] #[]] 74 (0, 0))).alloc (.cells #[.int .i64 0, .int .i64 0, .slice none 0 0] 147 (0, 0))).alloc (.cells #[.int .i64 0] 3 (0, 0)) = W2 at *
 refine ⟨trivial, rfl, ?_⟩
 with_reducible refine (callsIn_wide.2 (HNT.out _)).mono ?_
 rintro e w3 ⟨g, rfl, hg, hLg, hb3⟩
 have HK3 := Lib.hid ((HK2.out.room.came 6 rfl hb3 hg (o := lsI (prS xs ys r m c 0 0 0)) (by rw [prS_zero, HNN.out]; exact hLg)).more (.cells #[.int .i64 (r : Int), .int .i64 (c : Int), .slice (some ⟨g, 0, none⟩) NN NN] 147 (0, 0)))
 have hW2 := HK2.out.1.size
 clear hLg hb3 c0 c1
 have c0 := HK3.out.cell 0 0 rfl rfl
 have c1 := HK3.out.cell 0 1 rfl rfl
 have c2 := HK3.out.cell 0 2 rfl rfl
 gi_wp2_with fail
 clear c0 c1 c2
 change Code.wpIn _ _ _ _ _ _ (w3.alloc (.cells #[.int .i64 (r : Int), .int .i64 (c : Int), .slice (some ⟨g, 0, none⟩) NN NN] 147 (0, 0)))
 generalize w3.alloc (.cells #[.int .i64 (r : Int), .int .i64 (c : Int), .slice (some ⟨g, 0, none⟩) NN NN] 147 (0, 0)) = W4 at *
 generalize w3.heap.size = b10 at *
 have hK4 : Kg none w W4 [some (w.heap.size, .cells #[.int .i64 (r : Int), .int .i64 (m : Int), .slice (some ⟨ga, 0, none⟩) na capa] 147 (0, 0)), some (w.heap.size + 1, .cells #[.int .i64 (m : Int), .int .i64 (c : Int), .slice (some ⟨gb, 0, none⟩) nb capb] 147 (0, 0)), some (w.heap.size + 1 + 1, .cells #[.func (.func 131) #[] #[]] 74 (0, 0)), some (w.heap.size + 1 + 1 + 1, .cells #[.func (.func 132) #[] #[]] 74 (0, 0)), some (w.heap.size + 1 + 1 + 1 + 1, .cells #[.int .i64 0, .int .i64 0, .slice none 0 0] 147 (0, 0)), some (w.heap.size + 1 + 1 + 1 + 1 + 1, .cells #[.int .i64 0] 3 (0, 0)), some (g, lsI (prS xs ys r m c 0 0 0)), some (b10, .cells #[.int .i64 (r : Int), .int .i64 (c : Int), .slice (some ⟨g, 0, none⟩) NN NN] 147 (0, 0))] := HK3.out
 have HK4 := Lib.hid hK4
 clear HK3 hK4
 refine range_boxed (a := ?A) (ps := #[25, 26]) (gf := 151) (first := #[.agg #[.int .i64 (r : Int), .int .i64 (m : Int), .slice (some ⟨ga, 0, none⟩) na capa]]) ?hg1 (enters_of Tryz.func151 (by kernel_rfl) rfl)
  (each_visitsI r m (some ⟨ga, 0, none⟩) na capa (by omega) (by omega) hna hcapa) ?hps1
  (fun i V => Kg none w V [some (w.heap.size, .cells #[.int .i64 (r : Int), .int .i64 (m : Int), .slice (some ⟨ga, 0, none⟩) na capa] 147 (0, 0)), some (w.heap.size + 1, .cells #[.int .i64 (m : Int), .int .i64 (c : Int), .slice (some ⟨gb, 0, none⟩) nb capb] 147 (0, 0)), some (w.heap.size + 1 + 1, .cells #[.func (.func 131) #[] #[]] 74 (0, 0)), some (w.heap.size + 1 + 1 + 1, .cells #[.func (.func 132) #[] #[]] 74 (0, 0)), some (w.heap.size + 1 + 1 + 1 + 1, .cells #[.int .i64 0, .int .i64 0, .slice none 0 0] 147 (0, 0)), some (w.heap.size + 1 + 1 + 1 + 1 + 1, .cells #[.int .i64 0] 3 (0, 0)), some (g, lsI (prS xs ys r m c i 0 0)), some (b10, .cells #[.int .i64 (r : Int), .int .i64 (c : Int), .slice (some ⟨g, 0, none⟩) NN NN] 147 (0, 0))])
  (fun _ _ => False) ?own ?ownx HK4.out
  (fun i a' V => a' = { tmps := ((((?A).tmps.setIfInBounds 25 (.int .i64 (i : Int))).setIfInBounds 26 (.slice (some ⟨ga, i * m, none⟩) m m)).setIfInBounds 11 (.int .i64 (i : Int))).setIfInBounds 12 (.slice (some ⟨ga, i * m, none⟩) m m), defers := [] })
  (fun _ _ _ _ h _ => h) ?assign ?body ?done (fun _ _ _ _ h => h.elim)
 case hg1 => rfl
 case hps1 => exact fun k => rfl
 case own => exact fun i V V' h hl => h.later' hl HK4.out.1.size rfl
 case ownx => exact fun _ _ _ h _ => h.elim
 case assign =>
  intro l i V K' hi hz hI hK'
  unfold rowArgsI
  rw [HRO.out]
  clear hI
  gi_wp2
  exact hK' _ _ rfl (Below.refl _ _)
 case body =>
  rintro l i a' V hi hz hl0 hl1 hKV rfl
  simp only [List.setIfInBounds_toArray, List.set_cons_succ, List.set_cons_zero]
  have hrp := fun W => HRP.out g i hi W
  have c0 := hKV.cell 7 0 rfl rfl
  have c1 := hKV.cell 7 1 rfl rfl
  have c2 := hKV.cell 7 2 rfl rfl
  have HKV := Lib.hid hKV
  have HRPi := Lib.hid hrp
  clear hKV hrp
  gi_wp2_with fail
  refine ⟨trivial, rfl, ?_⟩
  with_reducible refine (CallsIn.inRound l (callsIn_wide.2 (HRPi.out _))).mono ?_
  rintro e V1 ⟨rfl, hb1⟩
  have HK1 := Lib.hid (HKV.out.step hb1)
  have Hk1 := Lib.hid ((Kept.refl W4.heap.size V).below hb1)
  have hgl := HK4.out.lt 6 rfl
  clear c0 c1 c2 hb1 HKV hl1 hz
  gi_wp2_with fail
  gi_loopw [32] (fun ii wr => ∃ k : Nat, ii = .int .i64 k ∧ k ≤ m ∧ Kg none w wr [some (w.heap.size, .cells #[.int .i64 (r : Int), .int .i64 (m : Int), .slice (some ⟨ga, 0, none⟩) na capa] 147 (0, 0)), some (w.heap.size + 1, .cells #[.int .i64 (m : Int), .int .i64 (c : Int), .slice (some ⟨gb, 0, none⟩) nb capb] 147 (0, 0)), some (w.heap.size + 1 + 1, .cells #[.func (.func 131) #[] #[]] 74 (0, 0)), some (w.heap.size + 1 + 1 + 1, .cells #[.func (.func 132) #[] #[]] 74 (0, 0)), some (w.heap.size + 1 + 1 + 1 + 1, .cells #[.int .i64 0, .int .i64 0, .slice none 0 0] 147 (0, 0)), some (w.heap.size + 1 + 1 + 1 + 1 + 1, .cells #[.int .i64 0] 3 (0, 0)), some (g, lsI (prS xs ys r m c i k 0)), some (b10, .cells #[.int .i64 (r : Int), .int .i64 (c : Int), .slice (some ⟨g, 0, none⟩) NN NN] 147 (0, 0))] ∧ Kept W4.heap.size V wr) (fun ii _ => m - (intOf ii).toNat)
  case atStart => exact ⟨0, rfl, Nat.zero_le _, HK1.out, Hk1.out⟩
  case round =>
   obtain ⟨k, rfl, hk, hKk, hkk⟩ := hrel
   by_cases hlt : k < m
   ·obtain ⟨hLa, hLb⟩ := HAS.out _ _ hKk
    have c0 := hLa.cell (k := i * m + k) (by rw [HXL.out]; exact in_table hi hlt)
    have c1 := hKk.cell 5 0 rfl rfl
    obtain ⟨x, hx⟩ : ∃ x, x = xs.getD (i * m + k) 0 := ⟨_, rfl⟩
    rw [← hx] at c0
    have HX := Lib.hid hx
    have HKk := Lib.hid hKk
    have Hkk := Lib.hid hkk
    clear hx hKk hkk hLa hLb HK1 Hk1
    by_cases hx0 : x = 0
    ·subst hx0
     have hsk := prS_skipRow xs ys r m c i k HX.out.symm
     have HSK := Lib.hid hsk
     clear hsk
     gi_wp2_with fail
     exact ⟨⟨k + 1, by simp, by omega, HSK.out ▸ HKk.out, Hkk.out⟩, by simp [intOf]; omega⟩
    ·have hxb : (x == 0) = false := by rw [beq_eq_false_iff_ne]; exact hx0
     have hrb := fun W => HRB.out k hlt W
     have HRBk := Lib.hid hrb
     clear hrb
     have c2 := HKk.out.cell 1 0 rfl rfl
     have c3 := HKk.out.cell 1 1 rfl rfl
     have c4 := HKk.out.cell 1 2 rfl rfl
     gi_wp2_with fail
     refine ⟨trivial, rfl, ?_⟩
     with_reducible refine (CallsIn.inRound l (callsIn_wide.2 (HRBk.out _))).mono ?_
     rintro e V2 ⟨rfl, hb2⟩
     have HK2' := Lib.hid (HKk.out.step hb2)
     have Hk2 := Lib.hid (Hkk.out.below hb2)
     clear c0 c1 c2 c3 c4 hb2 HKk Hkk
     gi_wp2_with fail
     gi_loopw [44] (fun ii wr => ∃ j : Nat, ii = .int .i64 j ∧ j ≤ c ∧ Kg none w wr [some (w.heap.size, .cells #[.int .i64 (r : Int), .int .i64 (m : Int), .slice (some ⟨ga, 0, none⟩) na capa] 147 (0, 0)), some (w.heap.size + 1, .cells #[.int .i64 (m : Int), .int .i64 (c : Int), .slice (some ⟨gb, 0, none⟩) nb capb] 147 (0, 0)), some (w.heap.size + 1 + 1, .cells #[.func (.func 131) #[] #[]] 74 (0, 0)), some (w.heap.size + 1 + 1 + 1, .cells #[.func (.func 132) #[] #[]] 74 (0, 0)), some (w.heap.size + 1 + 1 + 1 + 1, .cells #[.int .i64 0, .int .i64 0, .slice none 0 0] 147 (0, 0)), some (w.heap.size + 1 + 1 + 1 + 1 + 1, .cells #[.int .i64 0] 3 (0, 0)), some (g, lsI (prS xs ys r m c i k j)), some (b10, .cells #[.int .i64 (r : Int), .int .i64 (c : Int), .slice (some ⟨g, 0, none⟩) NN NN] 147 (0, 0))] ∧ Kept W4.heap.size V wr) (fun ii _ => c - (intOf ii).toNat)
     case atStart => exact ⟨0, rfl, Nat.zero_le _, HK2'.out, Hk2.out⟩
     case round =>
      obtain ⟨j, rfl, hj, hKj, hkj⟩ := hrel
      by_cases hltj : j < c
      ·obtain ⟨hLa, hLb⟩ := HAS.out _ _ hKj
       have c0 := hLb.cell (k := k * c + j) (by rw [HYL.out]; exact in_table hlt hltj)
       have c1 := hKj.cell 5 0 rfl rfl
       obtain ⟨y, hy⟩ : ∃ y, y = ys.getD (k * c + j) 0 := ⟨_, rfl⟩
       rw [← hy] at c0
       have HY := Lib.hid hy
       have HKj := Lib.hid hKj
       have Hkj := Lib.hid hkj
       clear hy hKj hkj hLa hLb HK2' Hk2
       by_cases hy0 : y = 0
       ·subst hy0
        have hsk := prS_skip xs ys r m c i k j HY.out.symm
        have HSK := Lib.hid hsk
        clear hsk
        gi_wp2_with fail
        exact ⟨⟨j + 1, by simp, by omega, HSK.out ▸ HKj.out, Hkj.out⟩, by simp [intOf]; omega⟩
       ·have hyb : (y != 0) = true := by rw [bne_iff_ne]; exact hy0
        obtain ⟨hf1, hf2⟩ := HFIT.out i j k hi hltj hlt
        have hd1 : dotI xs ys m c i j (k + 1) = dotI xs ys m c i j k + x * y := by rw [HX.out, HY.out]; rfl
        rw [hd1] at hf2
        rw [← HX.out, ← HY.out] at hf1
        have hat := prS_at xs ys r m c i k j hi hltj
        have hset := prS_set xs ys r m c i k j hi hltj
        rw [hd1] at hset
        generalize dotI xs ys m c i j k = s0 at *
        have htm := fun W => times_any x y (x * y) W rfl hf1
        have hpl := fun W => plus_any s0 (x * y) (s0 + x * y) W rfl hf2
        obtain ⟨xy, hxy⟩ : ∃ xy, xy = x * y := ⟨_, rfl⟩
        obtain ⟨s1, hs1⟩ : ∃ s1, s1 = s0 + xy := ⟨_, rfl⟩
        rw [← hxy] at htm hpl hset
        rw [← hs1] at hpl hset
        have hlen := prS_length xs ys r m c i k j
        have hij := in_table hi hltj
        have HTM := Lib.hid htm
        have HPL := Lib.hid hpl
        have HAT := Lib.hid hat
        have HSET := Lib.hid hset
        have HLEN := Lib.hid hlen
        have HIJ := Lib.hid hij
        clear htm hpl hat hset hlen hij hxy hs1 hd1 hf1 hf2
        gi_wp2_with fail
        clear c0 c1
        refine wpIn_region_facts (X := Unit) (fun _ => [(0, 52, .slice (some ⟨g, i * c, none⟩) c c), (1, 53, .int .i64 (j : Int)), (2, 54, .func (.func 132) #[] #[]), (3, 55, .slice (some ⟨g, i * c, none⟩) c c), (4, 56, .int .i64 (j : Int)), (5, 57, .pointer (some ⟨g, i * c + j, none⟩)), (6, 58, .int .i64 s0), (7, 59, .func (.func 131) #[] #[]), (8, 60, .int .i64 x), (9, 61, .int .i64 y), (10, 62, .int .i64 xy), (11, 63, .int .i64 s1), (12, 64, .pointer (some ⟨g, i * c + j, none⟩))])
         (fun _ L W => Kg none w W [some (w.heap.size, .cells #[.int .i64 (r : Int), .int .i64 (m : Int), .slice (some ⟨ga, 0, none⟩) na capa] 147 (0, 0)), some (w.heap.size + 1, .cells #[.int .i64 (m : Int), .int .i64 (c : Int), .slice (some ⟨gb, 0, none⟩) nb capb] 147 (0, 0)), some (w.heap.size + 1 + 1, .cells #[.func (.func 131) #[] #[]] 74 (0, 0)), some (w.heap.size + 1 + 1 + 1, .cells #[.func (.func 132) #[] #[]] 74 (0, 0)), some (w.heap.size + 1 + 1 + 1 + 1, .cells #[.int .i64 0, .int .i64 0, .slice none 0 0] 147 (0, 0)), some (w.heap.size + 1 + 1 + 1 + 1 + 1, .cells #[.int .i64 0] 3 (0, 0)), some (g, lsI (if L 13 = true then prS xs ys r m c i k (j + 1) else prS xs ys r m c i k j)), some (b10, .cells #[.int .i64 (r : Int), .int .i64 (c : Int), .slice (some ⟨g, 0, none⟩) NN NN] 147 (0, 0))] ∧ Kept W4.heap.size V W) (by kernel_rfl) (by kernel_rfl) () ?st (by kernel_rfl) ?_ ?_
        case st => exact ⟨by simpa using HKj.out.drew, Hkj.out.drew⟩
        ·repeat' (first | exact FactStepsIn.nil | refine FactStepsIn.cons ?_ ?_)
         all_goals
          intro L xx wx hJ hl hd hs K hK
          (try simp [Region.binds] at hd)
          have e0 := hJ.1.cell 3 0 rfl rfl
          have e1 := hJ.1.cell 2 0 rfl rfl
          simp only [selA, selT_cons, selT_nil, List.set_cons_zero, List.set_cons_succ, List.getD_cons_zero, List.getD_cons_succ, hd, hl, selV_true, selV_false]
         ·go_simp
          refine hK.out () _ _ ?_ ?_
          ·simp [selA, selT_cons, selT_nil, hl, hd, selV_true, selV_false]
          ·exact ⟨by simpa [hl] using hJ.1, hJ.2⟩
         ·go_simp
          refine hK.out () _ _ ?_ ?_
          ·simp [selA, selT_cons, selT_nil, hl, hd, selV_true, selV_false]
          ·exact ⟨by simpa [hl] using hJ.1, hJ.2⟩
         ·go_simp
          refine hK.out () _ _ ?_ ?_
          ·simp [selA, selT_cons, selT_nil, hl, hd, selV_true, selV_false]
          ·exact ⟨by simpa [hl] using hJ.1, hJ.2⟩
         ·go_simp
          refine hK.out () _ _ ?_ ?_
          ·simp [selA, selT_cons, selT_nil, hl, hd, selV_true, selV_false]
          ·exact ⟨by simpa [hl] using hJ.1, hJ.2⟩
         ·go_simp
          refine hK.out () _ _ ?_ ?_
          ·simp [selA, selT_cons, selT_nil, hl, hd, selV_true, selV_false]
          ·exact ⟨by simpa [hl] using hJ.1, hJ.2⟩
         ·go_simp
          refine hK.out () _ _ ?_ ?_
          ·simp [selA, selT_cons, selT_nil, hl, hd, selV_true, selV_false]
          ·exact ⟨by simpa [hl] using hJ.1, hJ.2⟩
         ·have hn := hs 13 _ rfl (by simp [Region.binds])
          have hB := hJ.1
          simp only [hn, Bool.false_eq_true, if_false] at hB
          have hLg : LsI wx g (prS xs ys r m c i k j) := hB.at_ 6 rfl
          have e4 := hLg.cell (k := i * c + j) (by rw [HLEN.out]; exact HIJ.out)
          rw [HAT.out] at e4
          go_simp
          refine hK.out () _ _ ?_ ?_
          ·simp [selA, selT_cons, selT_nil, hl, hd, hn, selV_true, selV_false]
          ·exact ⟨by simpa [hl] using hJ.1, hJ.2⟩
         ·go_simp
          refine hK.out () _ _ ?_ ?_
          ·simp [selA, selT_cons, selT_nil, hl, hd, selV_true, selV_false]
          ·exact ⟨by simpa [hl] using hJ.1, hJ.2⟩
         ·go_simp
          refine hK.out () _ _ ?_ ?_
          ·simp [selA, selT_cons, selT_nil, hl, hd, selV_true, selV_false]
          ·exact ⟨by simpa [hl] using hJ.1, hJ.2⟩
         ·go_simp
          refine hK.out () _ _ ?_ ?_
          ·simp [selA, selT_cons, selT_nil, hl, hd, selV_true, selV_false]
          ·exact ⟨by simpa [hl] using hJ.1, hJ.2⟩
         ·go_simp
          refine ⟨trivial, rfl, ?_⟩
          with_reducible refine (CallsIn.inRound l (callsIn_wide.2 (HTM.out _))).mono ?_
          rintro e v ⟨rfl, rfl⟩
          refine hK.out () _ _ ?_ ?_
          ·simp [selA, selT_cons, selT_nil, hl, hd, selV_true, selV_false]
          ·exact ⟨by simpa [hl] using hJ.1, hJ.2⟩
         ·go_simp
          refine ⟨trivial, rfl, ?_⟩
          with_reducible refine (CallsIn.inRound l (callsIn_wide.2 (HPL.out _))).mono ?_
          rintro e v ⟨rfl, rfl⟩
          refine hK.out () _ _ ?_ ?_
          ·simp [selA, selT_cons, selT_nil, hl, hd, selV_true, selV_false]
          ·exact ⟨by simpa [hl] using hJ.1, hJ.2⟩
         ·go_simp
          refine hK.out () _ _ ?_ ?_
          ·simp [selA, selT_cons, selT_nil, hl, hd, selV_true, selV_false]
          ·exact ⟨by simpa [hl] using hJ.1, hJ.2⟩
         ·have hB := hJ.1
          simp only [hl, Bool.false_eq_true, if_false] at hB
          have hLg : LsI wx g (prS xs ys r m c i k j) := hB.at_ 6 rfl
          have d0 := hLg.cell (k := i * c + j) (by rw [HLEN.out]; exact HIJ.out)
          have f0 := hLg.frozen (i * c + j)
          have hP := hLg.set (i * c + j) s1
          rw [HSET.out] at hP
          have HP := Lib.hid hP
          clear hP hLg hB
          go_simp
          refine hK.out () _ _ ?_ ?_
          ·simp [selA, selT_cons, selT_nil, hl, hd, selV_true, selV_false]
          ·have hB := hJ.1
           simp only [hl, Bool.false_eq_true, if_false] at hB
           have hGr := grownBy_setRow (g := g) (p := ⟨g, i * c + j, none⟩) (World.grownBy.refl wx _) rfl (.int .i64 s1)
           exact ⟨by simpa using hB.change 6 rfl hGr (o' := lsI (prS xs ys r m c i k (j + 1))) HP.out, hJ.2.grown hGr hgl⟩
        ·rintro _ Wx ⟨hKx, hkx⟩
         simp only [selA, selT_cons, selT_nil, List.set_cons_zero, List.set_cons_succ, List.getD_cons_zero, List.getD_cons_succ, selV_true]
         simp only [if_true] at hKx
         gi_wp2_with fail
         exact ⟨⟨j + 1, by simp, by omega, hKx, hkx⟩, by simp [intOf]; omega⟩
      ·obtain rfl : j = c := by omega
       have hrw2 := prS_row xs ys r m j i k
       have HRW := Lib.hid hrw2
       have HKj := Lib.hid hKj
       have Hkj := Lib.hid hkj
       clear hrw2 hKj hkj HK2' Hk2 hj
       gi_wp2_with fail
       exact ⟨⟨k + 1, by simp, by omega, HRW.out ▸ HKj.out, Hkj.out⟩, by simp [intOf]; omega⟩
   ·obtain rfl : k = m := by omega
    have hdn := prS_done xs ys r k c i
    have HDN := Lib.hid hdn
    have HKk := Lib.hid hKk
    have Hkk := Lib.hid hkk
    clear hdn hKk hkk hk
    gi_wp2_with fail
    have h9 := HKk.out
    rw [HDN.out] at h9
    exact ⟨Hkk.out, h9⟩
 case done =>
  rintro D V hD h2 hd
  rw [prS_full] at h2
  have c0 := h2.cell 7 0 rfl rfl
  have c1 := h2.cell 7 1 rfl rfl
  have c2 := h2.cell 7 2 rfl rfl
  have d0 := h2.cell 4 0 rfl rfl
  have d1 := h2.cell 4 1 rfl rfl
  have d2 := h2.cell 4 2 rfl rfl
  have f0 := h2.frozen 4 0 rfl
  have f1 := h2.frozen 4 1 rfl
  have f2 := h2.frozen 4 2 rfl
  have HK := Lib.hid h2
  clear h2
  gi_wp2_with fail
  have hl1 := HK4.out.lt 4 rfl
  have hK2 := ((HK.out.put 4 0 rfl (.int .i64 (r : Int))).put 4 1 rfl (.int .i64 (c : Int))).put 4 2 rfl (.slice (some ⟨g, 0, none⟩) NN NN)
  have hd2 : (((V.setCell ⟨w.heap.size + 1 + 1 + 1 + 1, 0, none⟩ (.int .i64 (r : Int))).setCell ⟨w.heap.size + 1 + 1 + 1 + 1, 1, none⟩ (.int .i64 (c : Int))).setCell ⟨w.heap.size + 1 + 1 + 1 + 1, 2, none⟩ (.slice (some ⟨g, 0, none⟩) NN NN)).heap[D]? = some (.deferred (some [])) :=
   (Below.heap_setCell _ _ _ _ (by simp only []; omega)).trans ((Below.heap_setCell _ _ _ _ (by simp only []; omega)).trans ((Below.heap_setCell _ _ _ _ (by simp only []; omega)).trans hd))
  have hlp := later_put (B := W4.heap.size) (.deferred none) hD hd2 rfl
  have hK5 := hK2.later' hlp HK4.out.1.size rfl
  refine ⟨by simp, .inl ⟨_, _, rfl, run_takeDeferred hd2, ?_⟩⟩
  exact ⟨_, results_tableI (b := w.heap.size + 1 + 1 + 1 + 1) rfl rfl (hK5.at_ 4 rfl), g, rfl, HK4.out.ge 6 rfl, hK5.at_ 6 rfl, ⟨hK5.1.os, hK5.1.tape, hK5.1.output, hK5.1.size, fun i hi => hK5.1.block i hi (by simp)⟩⟩
end Go.Proofs.YtknaghdoffigjaaGreatDoor
