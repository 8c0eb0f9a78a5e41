import Derived.Test.YtknaghdoffigjaaGreatDoorZMMul
import Derived.Test.YtknaghdoffigjaaGreatDoorMJoin
set_option linter.unusedSimpArgs false
set_option linter.unusedVariables false
set_option linter.unnecessarySimpa false
namespace Go.Proofs.YtknaghdoffigjaaGreatDoor
open Go.RowKit Go
attribute [local go_sem] Oper.semAt_some
theorem results_tableW {fn : Func} {tmps : Array Value} {w : World} {p : Tmp} {b : Nat} {r c : Int} {A : Option Addr} {n cap : Nat} (h : fn.results = #[.cell p 68])
  (ht : tmps.getD p undef = .pointer (some ⟨b, 0, none⟩)) (hw : Tb w b r c A n cap) : (results fn tmps).run Tryz.prog w = .ok (mat r c A n cap) w := by
 have := hw.load
 rw [Array.getD_eq_getD_getElem?] at ht
 simp only [results, h]
 simp [Sem.run_bind, Result.andThen, ht, asAddr, this]
theorem abs_of_size (z : Int) (k : Nat) (h : (wmag z).size ≤ k) : z.natAbs < 256 ^ k := by
 have := wint_abs_pow (wneg z) (wmag z) k h
 rwa [wint_wv'] at this
theorem mul_abs (x y : Int) (hx : (wmag x).size ≤ 100) (hy : (wmag y).size ≤ 100) : (x * y).natAbs < 256 ^ 200 := by
 rw [Int.natAbs_mul, show (200 : Nat) = 100 + 100 from rfl, Nat.pow_add]
 exact Nat.mul_lt_mul'' (abs_of_size x 100 hx) (abs_of_size y 100 hy)
theorem pow_more (n k a : Nat) (hk : k ≤ 200) (h : n ≤ k * 256 ^ a) : n < 256 ^ (a + 1) := by
 rw [Nat.pow_succ, Nat.mul_comm]
 have hp : 0 < 256 ^ a := Nat.pow_pos (by omega)
 exact Nat.lt_of_le_of_lt h (Nat.mul_lt_mul_of_pos_right (by omega) hp)
theorem dot_abs (xs ys : List Int) (m c i j k : Nat) (hk : k ≤ 200) (hx : ∀ q, (wmag (xs.getD q 0)).size ≤ 100) (hy : ∀ q, (wmag (ys.getD q 0)).size ≤ 100) : (dotI xs ys m c i j k).natAbs < 256 ^ 201 :=
 pow_more _ k 200 hk (dotI_abs xs ys m c i j (256 ^ 200) k (fun k' _ => Nat.le_of_lt (mul_abs _ _ (hx _) (hy _))))
theorem wmag_ne (z : Int) (h : z ≠ 0) : ¬ (wmag z).toList = (⟨#[]⟩ : ByteArray).toList := by
 rw [Lib.toList_data, Lib.toList_data]
 intro e
 have h2 : canon z.natAbs = [] := by
  unfold wmag bstr at e
  simpa using e
 rw [canon_eq_nil] at h2
 omega
set_option maxRecDepth 100000 in
set_option maxHeartbeats 8000000 in
theorem multiply_wide (ga gb r m c na nb capa capb NN : Nat) (xs ys : List Int) (w : World) (hA : Lw w ga (enc xs)) (hB : Lw w gb (enc ys)) (hxl : xs.length = r * m) (hyl : ys.length = m * c) (hr : r ≤ 200) (hm : m ≤ 200) (hc : c ≤ 200) (hna : r * m ≤ capa) (hnb : m * c ≤ capb) (hcapa : capa ≤ maxLen) (hcapb : capb ≤ maxLen) (hNN : r * c = NN) (hsx : ∀ q, (wmag (xs.getD q 0)).size ≤ 100) (hsy : ∀ q, (wmag (ys.getD q 0)).size ≤ 100) :
  Calls Tryz.prog 94 #[mat r m (some ⟨ga, 0, none⟩) na capa, mat m c (some ⟨gb, 0, none⟩) nb capb, .func (.func 51) #[] #[], .func (.func 52) #[] #[]] w fun e w' => ∃ g, e = .returned (mat r c (some ⟨g, 0, none⟩) NN NN) ∧ w.heap.size ≤ g ∧ Lw w' g (enc (mulL xs ys r m c)) ∧ Below w.heap.size w w' := by
 have hNN2 : NN ≤ 40000 := by rw [← hNN]; exact Nat.le_trans (Nat.mul_le_mul hr hc) (by omega)
 have hnt := fun W => newTable_any r c NN W (by omega) (by omega) hNN hNN2
 have hrp := fun g (i : Nat) (hi : i < r) W => row_any r c i (some ⟨g, 0, none⟩) NN NN W hi (by omega) (by omega) (Nat.le_of_eq hNN) (by unfold maxLen; omega)
 have hrb := fun (k : Nat) (hk : k < m) W => row_any m c k (some ⟨gb, 0, none⟩) nb capb W hk (by omega) (by omega) hnb hcapb
 simp only [row_of0] at hrp hrb
 have hvis := each_visits r m (some ⟨ga, 0, none⟩) na capa (by omega) (by omega) hna hcapa
 have hxy := fun i k j => mul_abs (xs.getD (i * m + k) 0) (ys.getD (k * c + j) 0) (hsx _) (hsy _)
 have hdt := fun i j k (hk : k ≤ 200) => dot_abs xs ys m c i j k hk hsx hsy
 obtain ⟨e0, he0⟩ : ∃ e0 : ByteArray, e0 = ⟨#[]⟩ := ⟨_, rfl⟩
 have hze : wneg 0 = false ∧ wmag 0 = e0 := by rw [he0]; exact ⟨rfl, rfl⟩
 have hnz : ∀ z : Int, z ≠ 0 → ¬ (wmag z).toList = e0.toList := fun z hz => by rw [he0]; exact wmag_ne z hz
 unfold mat at *
 have HNT := Lib.hid hnt
 have HRP := Lib.hid hrp
 have HRB := Lib.hid hrb
 have HVIS := Lib.hid hvis
 have HA := Lib.hid hA
 have HB := Lib.hid hB
 have HXL := Lib.hid hxl
 have HYL := Lib.hid hyl
 have HNN := Lib.hid hNN
 have HSX := Lib.hid hsx
 have HSY := Lib.hid hsy
 have HXY := Lib.hid hxy
 have HDT := Lib.hid hdt
 have HE0 := Lib.hid he0
 have HZE := Lib.hid hze
 have HNZ := Lib.hid hnz
 have hga := heap_lt hA
 have hgb := heap_lt hB
 clear hnt hrp hrb hvis hA hB hxl hyl hNN hsx hsy hxy hdt he0 hze hnz
 have hK1 := (((((Kg.none_ none w 6).new 0 (.cells #[.int .i64 (r : Int), .int .i64 (m : Int), .slice (some ⟨ga, 0, none⟩) na capa] 68 (0, 0)) rfl).new 1 (.cells #[.int .i64 (m : Int), .int .i64 (c : Int), .slice (some ⟨gb, 0, none⟩) nb capb] 68 (0, 0)) rfl).new 2 (.cells #[.func (.func 51) #[] #[]] 60 (0, 0)) rfl).new 3 (.cells #[.func (.func 52) #[] #[]] 60 (0, 0)) rfl).new 4 (.cells #[.int .i64 0, .int .i64 0, .slice none 0 0] 68 (0, 0)) rfl
 have HK2 := Lib.hid (show Kg none w ((((((w.alloc (.cells #[.int .i64 (r : Int), .int .i64 (m : Int), .slice (some ⟨ga, 0, none⟩) na capa] 68 (0, 0))).alloc (.cells #[.int .i64 (m : Int), .int .i64 (c : Int), .slice (some ⟨gb, 0, none⟩) nb capb] 68 (0, 0))).alloc (.cells #[.func (.func 51) #[] #[]] 60 (0, 0))).alloc (.cells #[.func (.func 52) #[] #[]] 60 (0, 0))).alloc (.cells #[.int .i64 0, .int .i64 0, .slice none 0 0] 68 (0, 0))).alloc (wbox false ⟨#[]⟩)) [some (w.heap.size, .cells #[.int .i64 (r : Int), .int .i64 (m : Int), .slice (some ⟨ga, 0, none⟩) na capa] 68 (0, 0)), some (w.heap.size + 1, .cells #[.int .i64 (m : Int), .int .i64 (c : Int), .slice (some ⟨gb, 0, none⟩) nb capb] 68 (0, 0)), some (w.heap.size + 1 + 1, .cells #[.func (.func 51) #[] #[]] 60 (0, 0)), some (w.heap.size + 1 + 1 + 1, .cells #[.func (.func 52) #[] #[]] 60 (0, 0)), some (w.heap.size + 1 + 1 + 1 + 1, .cells #[.int .i64 0, .int .i64 0, .slice none 0 0] 68 (0, 0)), some (w.heap.size + 1 + 1 + 1 + 1 + 1, wbox false e0)] from by
  rw [HE0.out]
  exact (hK1.new 5 (wbox false ⟨#[]⟩) rfl).cast (by simp))
 have hAs : ∀ W l, Kg none w W l → Lw W ga (enc xs) ∧ Lw W gb (enc ys) := fun W l h => ⟨(h.1.block ga hga (by simp)).trans HA.out, (h.1.block gb hgb (by simp)).trans HB.out⟩
 have HAS := Lib.hid hAs
 have c0 := HK2.out.cell 0 0 rfl rfl
 have c1 := HK2.out.cell 1 1 rfl rfl
 clear hK1 hAs
 refine (callsIn_wide (n := 0)).1 ?_
 refine callsIn_of_wp_marks Tryz.func94 rfl trivial ?_ rfl
 simp only [Tryz.ntmps94, List.size_toArray, List.length_cons, List.length_nil, Nat.reduceAdd, Nat.reduceSub, Array.replicate_succ, Array.replicate_zero, List.push_toArray, List.append_toArray, List.nil_append, List.cons_append]
 gi_wp2_with fail
 change _ ∧ _ ∧ CallsIn _ _ _ _ _ ((((((w.alloc (.cells #[.int .i64 (r : Int), .int .i64 (m : Int), .slice (some ⟨ga, 0, none⟩) na capa] 68 (0, 0))).alloc (.cells #[.int .i64 (m : Int), .int .i64 (c : Int), .slice (some ⟨gb, 0, none⟩) nb capb] 68 (0, 0))).alloc (.cells #[.func (.func 51) #[] #[]] 60 (0, 0))).alloc (.cells #[.func (.func 52) #[] #[]] 60 (0, 0))).alloc (.cells #[.int .i64 0, .int .i64 0, .slice none 0 0] 68 (0, 0))).alloc (wbox false ⟨#[]⟩)) _
 generalize (((((w.alloc (.cells #[.int .i64 (r : Int), .int .i64 (m : Int), .slice (some ⟨ga, 0, none⟩) na capa] 68 (0, 0))).alloc (.cells #[.int .i64 (m : Int), .int .i64 (c : Int), .slice (some ⟨gb, 0, none⟩) nb capb] 68 (0, 0))).alloc (.cells #[.func (.func 51) #[] #[]] 60 (0, 0))).alloc (.cells #[.func (.func 52) #[] #[]] 60 (0, 0))).alloc (.cells #[.int .i64 0, .int .i64 0, .slice none 0 0] 68 (0, 0))).alloc (wbox false ⟨#[]⟩) = W2 at *
 refine ⟨trivial, rfl, ?_⟩
 with_reducible refine (callsIn_wide.2 (HNT.out _)).mono ?_
 rintro e w3 ⟨g, rfl, hg, hLg, hb3⟩
 have HK3 := Lib.hid ((HK2.out.room.came 6 rfl hb3 hg (o := lwO (enc (prS xs ys r m c 0 0 0))) (by rw [prS_zero, HNN.out, enc_zeros]; exact hLg)).more (.cells #[.int .i64 (r : Int), .int .i64 (c : Int), .slice (some ⟨g, 0, none⟩) NN NN] 68 (0, 0)))
 have hW2 := HK2.out.1.size
 clear hLg hb3 c0 c1
 have c0 := HK3.out.cell 0 0 rfl rfl
 have c1 := HK3.out.cell 0 1 rfl rfl
 have c2 := HK3.out.cell 0 2 rfl rfl
 gi_wp2_with fail
 clear c0 c1 c2
 change Code.wpIn _ _ _ _ _ _ (w3.alloc (.cells #[.int .i64 (r : Int), .int .i64 (c : Int), .slice (some ⟨g, 0, none⟩) NN NN] 68 (0, 0)))
 generalize w3.alloc (.cells #[.int .i64 (r : Int), .int .i64 (c : Int), .slice (some ⟨g, 0, none⟩) NN NN] 68 (0, 0)) = W4 at *
 generalize w3.heap.size = b10 at *
 have hK4 : Kg none w W4 [some (w.heap.size, .cells #[.int .i64 (r : Int), .int .i64 (m : Int), .slice (some ⟨ga, 0, none⟩) na capa] 68 (0, 0)), some (w.heap.size + 1, .cells #[.int .i64 (m : Int), .int .i64 (c : Int), .slice (some ⟨gb, 0, none⟩) nb capb] 68 (0, 0)), some (w.heap.size + 1 + 1, .cells #[.func (.func 51) #[] #[]] 60 (0, 0)), some (w.heap.size + 1 + 1 + 1, .cells #[.func (.func 52) #[] #[]] 60 (0, 0)), some (w.heap.size + 1 + 1 + 1 + 1, .cells #[.int .i64 0, .int .i64 0, .slice none 0 0] 68 (0, 0)), some (w.heap.size + 1 + 1 + 1 + 1 + 1, wbox false e0), some (g, lwO (enc (prS xs ys r m c 0 0 0))), some (b10, .cells #[.int .i64 (r : Int), .int .i64 (c : Int), .slice (some ⟨g, 0, none⟩) NN NN] 68 (0, 0))] := HK3.out
 have HK4 := Lib.hid hK4
 clear HK3 hK4
 refine range_boxed (a := ?A) (ps := #[25, 26]) (gf := 59) (first := #[.agg #[.int .i64 (r : Int), .int .i64 (m : Int), .slice (some ⟨ga, 0, none⟩) na capa]]) ?hg1 (enters_of Tryz.func59 (by kernel_rfl) rfl)
  HVIS.out ?hps1
  (fun i V => Kg none w V [some (w.heap.size, .cells #[.int .i64 (r : Int), .int .i64 (m : Int), .slice (some ⟨ga, 0, none⟩) na capa] 68 (0, 0)), some (w.heap.size + 1, .cells #[.int .i64 (m : Int), .int .i64 (c : Int), .slice (some ⟨gb, 0, none⟩) nb capb] 68 (0, 0)), some (w.heap.size + 1 + 1, .cells #[.func (.func 51) #[] #[]] 60 (0, 0)), some (w.heap.size + 1 + 1 + 1, .cells #[.func (.func 52) #[] #[]] 60 (0, 0)), some (w.heap.size + 1 + 1 + 1 + 1, .cells #[.int .i64 0, .int .i64 0, .slice none 0 0] 68 (0, 0)), some (w.heap.size + 1 + 1 + 1 + 1 + 1, wbox false e0), some (g, lwO (enc (prS xs ys r m c i 0 0))), some (b10, .cells #[.int .i64 (r : Int), .int .i64 (c : Int), .slice (some ⟨g, 0, none⟩) NN NN] 68 (0, 0))])
  (fun _ _ => False) ?own ?ownx HK4.out
  (fun i a' V => a' = { tmps := ((((?A).tmps.setIfInBounds 25 (.int .i64 (i : Int))).setIfInBounds 26 (.slice (some ⟨ga, i * m * 2, none⟩) m m)).setIfInBounds 11 (.int .i64 (i : Int))).setIfInBounds 12 (.slice (some ⟨ga, i * m * 2, none⟩) m m), defers := [] })
  (fun _ _ _ _ h _ => h) ?assign ?body ?done (fun _ _ _ _ h => h.elim)
 case hg1 => rfl
 case hps1 => exact fun k => rfl
 case own => exact fun i V V' h hl => h.later' hl HK4.out.1.size rfl
 case ownx => exact fun _ _ _ h _ => h.elim
 case assign =>
  intro l i V K' hi hz hI hK'
  unfold rowArgs
  rw [row_of0]
  clear hI
  gi_wp2
  exact hK' _ _ rfl (Below.refl _ _)
 case body =>
  rintro l i a' V hi hz hl0 hl1 hKV rfl
  simp only [List.setIfInBounds_toArray, List.set_cons_succ, List.set_cons_zero]
  have hrp := fun W => HRP.out g i hi W
  have c0 := hKV.cell 7 0 rfl rfl
  have c1 := hKV.cell 7 1 rfl rfl
  have c2 := hKV.cell 7 2 rfl rfl
  have HKV := Lib.hid hKV
  have HRPi := Lib.hid hrp
  clear hKV hrp
  gi_wp2_with fail
  refine ⟨trivial, rfl, ?_⟩
  with_reducible refine (CallsIn.inRound l (callsIn_wide.2 (HRPi.out _))).mono ?_
  rintro e V1 ⟨rfl, hb1⟩
  have HK1 := Lib.hid (HKV.out.step hb1)
  have Hk1 := Lib.hid ((Kept.refl W4.heap.size V).below hb1)
  have hgl := HK4.out.lt 6 rfl
  clear c0 c1 c2 hb1 HKV hl1 hz
  gi_wp2_with fail
  gi_loopw [14, 15, 32] (fun _ _ ii wr => ∃ k : Nat, ii = .int .i64 k ∧ k ≤ m ∧ Kg none w wr [some (w.heap.size, .cells #[.int .i64 (r : Int), .int .i64 (m : Int), .slice (some ⟨ga, 0, none⟩) na capa] 68 (0, 0)), some (w.heap.size + 1, .cells #[.int .i64 (m : Int), .int .i64 (c : Int), .slice (some ⟨gb, 0, none⟩) nb capb] 68 (0, 0)), some (w.heap.size + 1 + 1, .cells #[.func (.func 51) #[] #[]] 60 (0, 0)), some (w.heap.size + 1 + 1 + 1, .cells #[.func (.func 52) #[] #[]] 60 (0, 0)), some (w.heap.size + 1 + 1 + 1 + 1, .cells #[.int .i64 0, .int .i64 0, .slice none 0 0] 68 (0, 0)), some (w.heap.size + 1 + 1 + 1 + 1 + 1, wbox false e0), some (g, lwO (enc (prS xs ys r m c i k 0))), some (b10, .cells #[.int .i64 (r : Int), .int .i64 (c : Int), .slice (some ⟨g, 0, none⟩) NN NN] 68 (0, 0))] ∧ Kept W4.heap.size V wr) (fun _ _ ii _ => m - (intOf ii).toNat)
  case atStart => exact ⟨0, rfl, Nat.zero_le _, HK1.out, Hk1.out⟩
  case round =>
   obtain ⟨k, rfl, hk, hKk, hkk⟩ := hrel
   have HKk := Lib.hid hKk
   have Hkk := Lib.hid hkk
   clear hKk hkk HK1 Hk1
   by_cases hlt : k < m
   ·obtain ⟨hLa, hLb⟩ := HAS.out _ _ HKk.out
    have hin : i * m + k < (enc xs).length := by rw [enc_length, HXL.out]; exact in_table hi hlt
    have c0 := hLa.cell0 (i * m + k) hin
    have c1 := hLa.cell1 (i * m + k) hin
    rw [enc_get] at c0 c1
    rw [Nat.add_mul] at c0 c1
    dsimp only at c0 c1
    obtain ⟨x, hx⟩ : ∃ x, x = xs.getD (i * m + k) 0 := ⟨_, rfl⟩
    rw [← hx] at c0 c1
    have HX := Lib.hid hx
    have HKa := Lib.hid (show Kg none w (wr.alloc (wbox (wneg x) (wmag x))) [some (w.heap.size, .cells #[.int .i64 (r : Int), .int .i64 (m : Int), .slice (some ⟨ga, 0, none⟩) na capa] 68 (0, 0)), some (w.heap.size + 1, .cells #[.int .i64 (m : Int), .int .i64 (c : Int), .slice (some ⟨gb, 0, none⟩) nb capb] 68 (0, 0)), some (w.heap.size + 1 + 1, .cells #[.func (.func 51) #[] #[]] 60 (0, 0)), some (w.heap.size + 1 + 1 + 1, .cells #[.func (.func 52) #[] #[]] 60 (0, 0)), some (w.heap.size + 1 + 1 + 1 + 1, .cells #[.int .i64 0, .int .i64 0, .slice none 0 0] 68 (0, 0)), some (w.heap.size + 1 + 1 + 1 + 1 + 1, wbox false e0), some (g, lwO (enc (prS xs ys r m c i k 0))), some (b10, .cells #[.int .i64 (r : Int), .int .i64 (c : Int), .slice (some ⟨g, 0, none⟩) NN NN] 68 (0, 0)), some (wr.heap.size, wbox (wneg x) (wmag x))] from HKk.out.more (wbox (wneg x) (wmag x)))
    have Hka := Lib.hid (Hkk.out.below ((Below.refl _ _).alloc (Nat.le_refl _) (wbox (wneg x) (wmag x))))
    clear hx hLa hLb hin
    have d0 := HKa.out.cell 8 0 rfl rfl
    have d1 := HKa.out.cell 8 1 rfl rfl
    have z0 := HKa.out.cell 5 0 rfl rfl
    have z1 := HKa.out.cell 5 1 rfl rfl
    unfold wbox at d0 d1 z0 z1
    by_cases hx0 : x = 0
    ·subst hx0
     have hsk := prS_skipRow xs ys r m c i k HX.out.symm
     have HSK := Lib.hid hsk
     clear hsk
     obtain ⟨hw0, hw1⟩ := HZE.out
     simp only [hw0, hw1] at c0 c1 d0 d1 z0 z1 HKa Hka
     gi_wp2_with fail
     exact ⟨⟨k + 1, by simp, by omega, by rw [← HSK.out]; exact HKa.out.take 8, Hka.out⟩, by simp [intOf]; omega⟩
    ·have hne := HNZ.out x hx0
     have hrb := fun W => HRB.out k hlt W
     have HRBk := Lib.hid hrb
     clear hrb
     have c3 := HKa.out.cell 1 0 rfl rfl
     have c4 := HKa.out.cell 1 1 rfl rfl
     have c5 := HKa.out.cell 1 2 rfl rfl
     unfold wbox at c3 c4 c5
     gi_wp2_with fail
     clear c0 c1 c3 c4 c5 d0 d1 z0 z1 hne HKk Hkk
     change _ ∧ _ ∧ CallsIn _ _ _ _ _ (wr.alloc (wbox (wneg x) (wmag x))) _
     generalize wr.alloc (wbox (wneg x) (wmag x)) = W8 at *
     generalize wr.heap.size = b8 at *
     refine ⟨trivial, rfl, ?_⟩
     with_reducible refine (CallsIn.inRound l (callsIn_wide.2 (HRBk.out _))).mono ?_
     rintro e V2 ⟨rfl, hb2⟩
     have HK2' := Lib.hid (HKa.out.step hb2)
     have Hk2 := Lib.hid (Hka.out.below hb2)
     clear hb2 HKa Hka
     gi_wp2_with fail
     gi_loopw [16, 17, 44] (fun _ _ ii wr => ∃ j : Nat, ii = .int .i64 j ∧ j ≤ c ∧ Kg none w wr [some (w.heap.size, .cells #[.int .i64 (r : Int), .int .i64 (m : Int), .slice (some ⟨ga, 0, none⟩) na capa] 68 (0, 0)), some (w.heap.size + 1, .cells #[.int .i64 (m : Int), .int .i64 (c : Int), .slice (some ⟨gb, 0, none⟩) nb capb] 68 (0, 0)), some (w.heap.size + 1 + 1, .cells #[.func (.func 51) #[] #[]] 60 (0, 0)), some (w.heap.size + 1 + 1 + 1, .cells #[.func (.func 52) #[] #[]] 60 (0, 0)), some (w.heap.size + 1 + 1 + 1 + 1, .cells #[.int .i64 0, .int .i64 0, .slice none 0 0] 68 (0, 0)), some (w.heap.size + 1 + 1 + 1 + 1 + 1, wbox false e0), some (g, lwO (enc (prS xs ys r m c i k j))), some (b10, .cells #[.int .i64 (r : Int), .int .i64 (c : Int), .slice (some ⟨g, 0, none⟩) NN NN] 68 (0, 0)), some (b8, wbox (wneg x) (wmag x))] ∧ Kept W4.heap.size V wr) (fun _ _ ii _ => c - (intOf ii).toNat)
     case atStart => exact ⟨0, rfl, Nat.zero_le _, HK2'.out, Hk2.out⟩
     case round =>
      obtain ⟨j, rfl, hj, hKj, hkj⟩ := hrel
      have HKj := Lib.hid hKj
      have Hkj := Lib.hid hkj
      clear hKj hkj HK2' Hk2
      by_cases hltj : j < c
      ·obtain ⟨hLa, hLb⟩ := HAS.out _ _ HKj.out
       have hin : k * c + j < (enc ys).length := by rw [enc_length, HYL.out]; exact in_table hlt hltj
       have c0 := hLb.cell0 (k * c + j) hin
       have c1 := hLb.cell1 (k * c + j) hin
       rw [enc_get] at c0 c1
       rw [Nat.add_mul] at c0 c1
       dsimp only at c0 c1
       obtain ⟨y, hy⟩ : ∃ y, y = ys.getD (k * c + j) 0 := ⟨_, rfl⟩
       rw [← hy] at c0 c1
       have HY := Lib.hid hy
       have HKa := Lib.hid (show Kg none w (wr.alloc (wbox (wneg y) (wmag y))) [some (w.heap.size, .cells #[.int .i64 (r : Int), .int .i64 (m : Int), .slice (some ⟨ga, 0, none⟩) na capa] 68 (0, 0)), some (w.heap.size + 1, .cells #[.int .i64 (m : Int), .int .i64 (c : Int), .slice (some ⟨gb, 0, none⟩) nb capb] 68 (0, 0)), some (w.heap.size + 1 + 1, .cells #[.func (.func 51) #[] #[]] 60 (0, 0)), some (w.heap.size + 1 + 1 + 1, .cells #[.func (.func 52) #[] #[]] 60 (0, 0)), some (w.heap.size + 1 + 1 + 1 + 1, .cells #[.int .i64 0, .int .i64 0, .slice none 0 0] 68 (0, 0)), some (w.heap.size + 1 + 1 + 1 + 1 + 1, wbox false e0), some (g, lwO (enc (prS xs ys r m c i k j))), some (b10, .cells #[.int .i64 (r : Int), .int .i64 (c : Int), .slice (some ⟨g, 0, none⟩) NN NN] 68 (0, 0)), some (b8, wbox (wneg x) (wmag x)), some (wr.heap.size, wbox (wneg y) (wmag y))] from HKj.out.more (wbox (wneg y) (wmag y)))
       have Hka := Lib.hid (Hkj.out.below ((Below.refl _ _).alloc (Nat.le_refl _) (wbox (wneg y) (wmag y))))
       clear hy hLa hLb hin
       have d0 := HKa.out.cell 9 0 rfl rfl
       have d1 := HKa.out.cell 9 1 rfl rfl
       have z0 := HKa.out.cell 5 0 rfl rfl
       have z1 := HKa.out.cell 5 1 rfl rfl
       unfold wbox at d0 d1 z0 z1
       by_cases hy0 : y = 0
       ·subst hy0
        have hsk := prS_skip xs ys r m c i k j HY.out.symm
        have HSK := Lib.hid hsk
        clear hsk
        obtain ⟨hw0, hw1⟩ := HZE.out
        simp only [hw0, hw1] at c0 c1 d0 d1 z0 z1 HKa Hka
        gi_wp2_with fail
        exact ⟨⟨j + 1, by simp, by omega, by rw [← HSK.out]; exact HKa.out.take 9, Hka.out⟩, by simp [intOf]; omega⟩
       ·have hne := HNZ.out y hy0
        have hmu := fun W => Mul_any (wneg x) (wneg y) (wmag x) (wmag y) W (Nat.le_trans (by rw [HX.out]; exact HSX.out _) (show 100 ≤ _ by omega)) (Nat.le_trans (by rw [HY.out]; exact HSY.out _) (show 100 ≤ _ by omega))
        have hsz1 : (wmag (x * y)).size ≤ 200 := wmag_size _ _ (by rw [HX.out, HY.out]; exact HXY.out i k j)
        have hd1 : dotI xs ys m c i j (k + 1) = dotI xs ys m c i j k + x * y := by rw [HX.out, HY.out]; rfl
        have hsz0 : (wmag (dotI xs ys m c i j k)).size ≤ 201 := wmag_size _ _ (HDT.out i j k (by omega))
        have had := fun W => Add_any (wneg (dotI xs ys m c i j k)) (wneg (x * y)) (wmag (dotI xs ys m c i j k)) (wmag (x * y)) W (by omega) (by omega)
        rw [wint_wv', wint_wv', wv_def] at hmu had
        have hat := prS_at xs ys r m c i k j hi hltj
        have hset := prS_set xs ys r m c i k j hi hltj
        rw [hd1] at hset
        generalize dotI xs ys m c i j k = s0 at *
        obtain ⟨xy, hxy⟩ : ∃ xy, xy = x * y := ⟨_, rfl⟩
        rw [← hxy] at hmu had hset
        obtain ⟨s1, hs1⟩ : ∃ s1, s1 = s0 + xy := ⟨_, rfl⟩
        rw [← hs1] at had hset
        have hlen := prS_length xs ys r m c i k j
        have hij := in_table hi hltj
        have HMU := Lib.hid hmu
        have HAD := Lib.hid had
        have HAT := Lib.hid hat
        have HSET := Lib.hid hset
        have HLEN := Lib.hid hlen
        have HIJ := Lib.hid hij
        clear hmu had hat hset hlen hij hxy hs1 hd1 hsz0 hsz1
        gi_wp2_with fail
        clear c0 c1 d0 d1 z0 z1 hne
        change Code.wpIn _ _ _ _ _ _ (wr.alloc (wbox (wneg y) (wmag y)))
        generalize wr.alloc (wbox (wneg y) (wmag y)) = W9 at *
        generalize wr.heap.size = b9 at *
        refine wpIn_region_facts (X := Unit) (fun _ => [(0, 52, .slice (some ⟨g, i * c * 2, none⟩) c c), (1, 53, .int .i64 (j : Int)), (2, 54, .func (.func 52) #[] #[]), (3, 55, .slice (some ⟨g, i * c * 2, none⟩) c c), (4, 56, .int .i64 (j : Int)), (5, 57, .pointer (some ⟨g, i * c * 2 + j * 2, none⟩)), (6, 58, .agg #[.bool (wneg s0), .string (wmag s0)]), (7, 59, .func (.func 51) #[] #[]), (8, 60, .agg #[.bool (wneg x), .string (wmag x)]), (9, 61, .agg #[.bool (wneg y), .string (wmag y)]), (10, 62, .agg #[.bool (wneg xy), .string (wmag xy)]), (11, 63, .agg #[.bool (wneg s1), .string (wmag s1)]), (12, 64, .pointer (some ⟨g, i * c * 2 + j * 2, none⟩))])
         (fun _ L W => Kg none w W [some (w.heap.size, .cells #[.int .i64 (r : Int), .int .i64 (m : Int), .slice (some ⟨ga, 0, none⟩) na capa] 68 (0, 0)), some (w.heap.size + 1, .cells #[.int .i64 (m : Int), .int .i64 (c : Int), .slice (some ⟨gb, 0, none⟩) nb capb] 68 (0, 0)), some (w.heap.size + 1 + 1, .cells #[.func (.func 51) #[] #[]] 60 (0, 0)), some (w.heap.size + 1 + 1 + 1, .cells #[.func (.func 52) #[] #[]] 60 (0, 0)), some (w.heap.size + 1 + 1 + 1 + 1, .cells #[.int .i64 0, .int .i64 0, .slice none 0 0] 68 (0, 0)), some (w.heap.size + 1 + 1 + 1 + 1 + 1, wbox false e0), some (g, lwO (enc (if L 13 = true then prS xs ys r m c i k (j + 1) else prS xs ys r m c i k j))), some (b10, .cells #[.int .i64 (r : Int), .int .i64 (c : Int), .slice (some ⟨g, 0, none⟩) NN NN] 68 (0, 0)), some (b8, wbox (wneg x) (wmag x)), some (b9, wbox (wneg y) (wmag y))] ∧ Kept W4.heap.size V W) (by kernel_rfl) (by kernel_rfl) () ?st (by kernel_rfl) ?_ ?_
        case st => exact ⟨by simpa using HKa.out.drew, Hka.out.drew⟩
        ·repeat' (first | exact FactStepsIn.nil | refine FactStepsIn.cons ?_ ?_)
         all_goals
          intro L xx wx hJ hl hd hs K hK
          (try simp [Region.binds] at hd)
          have e0' := hJ.1.cell 3 0 rfl rfl
          have e1 := hJ.1.cell 2 0 rfl rfl
          have e2 := hJ.1.cell 8 0 rfl rfl
          have e3 := hJ.1.cell 8 1 rfl rfl
          have e4 := hJ.1.cell 9 0 rfl rfl
          have e5 := hJ.1.cell 9 1 rfl rfl
          simp only [selA, selT_cons, selT_nil, List.set_cons_zero, List.set_cons_succ, List.getD_cons_zero, List.getD_cons_succ, hd, hl, selV_true, selV_false]
         ·go_simp
          refine hK.out () _ _ ?_ ?_
          ·simp [selA, selT_cons, selT_nil, hl, hd, selV_true, selV_false]
          ·exact ⟨by simpa [hl] using hJ.1, hJ.2⟩
         ·go_simp
          refine hK.out () _ _ ?_ ?_
          ·simp [selA, selT_cons, selT_nil, hl, hd, selV_true, selV_false]
          ·exact ⟨by simpa [hl] using hJ.1, hJ.2⟩
         ·go_simp
          refine hK.out () _ _ ?_ ?_
          ·simp [selA, selT_cons, selT_nil, hl, hd, selV_true, selV_false]
          ·exact ⟨by simpa [hl] using hJ.1, hJ.2⟩
         ·go_simp
          refine hK.out () _ _ ?_ ?_
          ·simp [selA, selT_cons, selT_nil, hl, hd, selV_true, selV_false]
          ·exact ⟨by simpa [hl] using hJ.1, hJ.2⟩
         ·go_simp
          refine hK.out () _ _ ?_ ?_
          ·simp [selA, selT_cons, selT_nil, hl, hd, selV_true, selV_false]
          ·exact ⟨by simpa [hl] using hJ.1, hJ.2⟩
         ·go_simp
          refine hK.out () _ _ ?_ ?_
          ·simp [selA, selT_cons, selT_nil, hl, hd, selV_true, selV_false]
          ·exact ⟨by simpa [hl] using hJ.1, hJ.2⟩
         ·have hn := hs 13 _ rfl (by simp [Region.binds])
          have hB := hJ.1
          simp only [hn, Bool.false_eq_true, if_false] at hB
          have hLg : Lw wx g (enc (prS xs ys r m c i k j)) := hB.at_ 6 rfl
          have hin : i * c + j < (enc (prS xs ys r m c i k j)).length := by rw [enc_length, HLEN.out]; exact HIJ.out
          have g0 := hLg.cell0 (i * c + j) hin
          have g1 := hLg.cell1 (i * c + j) hin
          rw [enc_get] at g0 g1
          dsimp only at g0 g1
          rw [HAT.out, Nat.add_mul] at g0 g1
          clear hLg hB
          go_simp
          refine hK.out () _ _ ?_ ?_
          ·simp [selA, selT_cons, selT_nil, hl, hd, hn, selV_true, selV_false]
          ·exact ⟨by simpa [hl] using hJ.1, hJ.2⟩
         ·go_simp
          refine hK.out () _ _ ?_ ?_
          ·simp [selA, selT_cons, selT_nil, hl, hd, selV_true, selV_false]
          ·exact ⟨by simpa [hl] using hJ.1, hJ.2⟩
         ·go_simp
          refine hK.out () _ _ ?_ ?_
          ·simp [selA, selT_cons, selT_nil, hl, hd, selV_true, selV_false]
          ·exact ⟨by simpa [hl] using hJ.1, hJ.2⟩
         ·go_simp
          refine hK.out () _ _ ?_ ?_
          ·simp [selA, selT_cons, selT_nil, hl, hd, selV_true, selV_false]
          ·exact ⟨by simpa [hl] using hJ.1, hJ.2⟩
         ·go_simp
          refine ⟨trivial, rfl, ?_⟩
          with_reducible refine (CallsIn.inRound l (callsIn_wide.2 (HMU.out _))).mono ?_
          rintro e v ⟨rfl, hb⟩
          refine hK.out () _ _ ?_ ?_
          ·simp [selA, selT_cons, selT_nil, hl, hd, selV_true, selV_false]
          ·exact ⟨by simpa [hl] using hJ.1.step hb, hJ.2.below hb⟩
         ·go_simp
          refine ⟨trivial, rfl, ?_⟩
          with_reducible refine (CallsIn.inRound l (callsIn_wide.2 (HAD.out _))).mono ?_
          rintro e v ⟨rfl, hb⟩
          refine hK.out () _ _ ?_ ?_
          ·simp [selA, selT_cons, selT_nil, hl, hd, selV_true, selV_false]
          ·exact ⟨by simpa [hl] using hJ.1.step hb, hJ.2.below hb⟩
         ·go_simp
          refine hK.out () _ _ ?_ ?_
          ·simp [selA, selT_cons, selT_nil, hl, hd, selV_true, selV_false]
          ·exact ⟨by simpa [hl] using hJ.1, hJ.2⟩
         ·have hB := hJ.1
          simp only [hl, Bool.false_eq_true, if_false] at hB
          have hLg : Lw wx g (enc (prS xs ys r m c i k j)) := hB.at_ 6 rfl
          have hql : i * c + j < (enc (prS xs ys r m c i k j)).length := by rw [enc_length, HLEN.out]; exact HIJ.out
          have d0 := hLg.cell0 (i * c + j) hql
          have d1 := hLg.cell1 (i * c + j) hql
          have f0 := hB.frozen 6 ((i * c + j) * 2) rfl
          have f1 := hB.frozen 6 ((i * c + j) * 2 + 1) rfl
          generalize ((enc (prS xs ys r m c i k j))[i * c + j]'hql).1 = u0 at d0
          generalize ((enc (prS xs ys r m c i k j))[i * c + j]'hql).2 = u1 at d1
          have hP := hLg.put (i * c + j) (wneg s1) (wmag s1)
          have hst : (enc (prS xs ys r m c i k j)).set (i * c + j) (wneg s1, wmag s1) = enc (prS xs ys r m c i k (j + 1)) := by rw [← HSET.out]; unfold enc; rw [List.map_set]
          rw [hst] at hP
          have hGr := grownBy_setRow (g := g) (p := ⟨g, (i * c + j) * 2 + 1, none⟩) (grownBy_setRow (g := g) (p := ⟨g, (i * c + j) * 2, none⟩) (World.grownBy.refl wx _) rfl (.bool (wneg s1))) rfl (.string (wmag s1))
          rw [Nat.add_mul] at d0 d1 f0 f1 hP hGr
          have HP := Lib.hid hP
          have HGr := Lib.hid hGr
          have HB' := Lib.hid hB
          clear hP hLg hB hGr hst
          go_simp
          refine hK.out () _ _ ?_ ?_
          ·simp [selA, selT_cons, selT_nil, hl, hd, selV_true, selV_false]
          ·exact ⟨(HB'.out.change 6 rfl HGr.out (o' := lwO (enc (prS xs ys r m c i k (j + 1)))) HP.out).cast (by simp), hJ.2.grown HGr.out hgl⟩
        ·rintro _ Wx ⟨hKx, hkx⟩
         simp only [selA, selT_cons, selT_nil, List.set_cons_zero, List.set_cons_succ, List.getD_cons_zero, List.getD_cons_succ, selV_true]
         simp only [if_true] at hKx
         have hK9 : Kg none w Wx [some (w.heap.size, .cells #[.int .i64 (r : Int), .int .i64 (m : Int), .slice (some ⟨ga, 0, none⟩) na capa] 68 (0, 0)), some (w.heap.size + 1, .cells #[.int .i64 (m : Int), .int .i64 (c : Int), .slice (some ⟨gb, 0, none⟩) nb capb] 68 (0, 0)), some (w.heap.size + 1 + 1, .cells #[.func (.func 51) #[] #[]] 60 (0, 0)), some (w.heap.size + 1 + 1 + 1, .cells #[.func (.func 52) #[] #[]] 60 (0, 0)), some (w.heap.size + 1 + 1 + 1 + 1, .cells #[.int .i64 0, .int .i64 0, .slice none 0 0] 68 (0, 0)), some (w.heap.size + 1 + 1 + 1 + 1 + 1, wbox false e0), some (g, lwO (enc (prS xs ys r m c i k (j + 1)))), some (b10, .cells #[.int .i64 (r : Int), .int .i64 (c : Int), .slice (some ⟨g, 0, none⟩) NN NN] 68 (0, 0)), some (b8, wbox (wneg x) (wmag x))] := hKx.take 9
         gi_wp2_with fail
         exact ⟨⟨j + 1, by simp, by omega, hK9, hkx⟩, by simp [intOf]; omega⟩
      ·obtain rfl : j = c := by omega
       have hrw2 := prS_row xs ys r m j i k
       have HRW := Lib.hid hrw2
       clear hrw2 hj
       gi_wp2_with fail
       exact ⟨⟨k + 1, by simp, by omega, by rw [← HRW.out]; exact HKj.out.take 8, Hkj.out⟩, by simp [intOf]; omega⟩
   ·obtain rfl : k = m := by omega
    have hdn := prS_done xs ys r k c i
    have HDN := Lib.hid hdn
    clear hdn hk
    gi_wp2_with fail
    have h9 := HKk.out
    rw [HDN.out] at h9
    exact ⟨Hkk.out, h9⟩
 case done =>
  rintro D V hD h2 hd
  rw [prS_full] at h2
  have c0 := h2.cell 7 0 rfl rfl
  have c1 := h2.cell 7 1 rfl rfl
  have c2 := h2.cell 7 2 rfl rfl
  have d0 := h2.cell 4 0 rfl rfl
  have d1 := h2.cell 4 1 rfl rfl
  have d2 := h2.cell 4 2 rfl rfl
  have f0 := h2.frozen 4 0 rfl
  have f1 := h2.frozen 4 1 rfl
  have f2 := h2.frozen 4 2 rfl
  have HK := Lib.hid h2
  clear h2
  gi_wp2_with fail
  have hl1 := HK4.out.lt 4 rfl
  have hK2 := ((HK.out.put 4 0 rfl (.int .i64 (r : Int))).put 4 1 rfl (.int .i64 (c : Int))).put 4 2 rfl (.slice (some ⟨g, 0, none⟩) NN NN)
  have hd2 : (((V.setCell ⟨w.heap.size + 1 + 1 + 1 + 1, 0, none⟩ (.int .i64 (r : Int))).setCell ⟨w.heap.size + 1 + 1 + 1 + 1, 1, none⟩ (.int .i64 (c : Int))).setCell ⟨w.heap.size + 1 + 1 + 1 + 1, 2, none⟩ (.slice (some ⟨g, 0, none⟩) NN NN)).heap[D]? = some (.deferred (some [])) :=
   (Below.heap_setCell _ _ _ _ (by simp only []; omega)).trans ((Below.heap_setCell _ _ _ _ (by simp only []; omega)).trans ((Below.heap_setCell _ _ _ _ (by simp only []; omega)).trans hd))
  have hlp := later_put (B := W4.heap.size) (.deferred none) hD hd2 rfl
  have hK5 := hK2.later' hlp HK4.out.1.size rfl
  refine ⟨by simp, .inl ⟨_, _, rfl, run_takeDeferred hd2, ?_⟩⟩
  exact ⟨_, results_tableW (b := w.heap.size + 1 + 1 + 1 + 1) rfl rfl (hK5.at_ 4 rfl), g, rfl, HK4.out.ge 6 rfl, hK5.at_ 6 rfl, ⟨hK5.1.os, hK5.1.tape, hK5.1.output, hK5.1.size, fun i hi => hK5.1.block i hi (by simp)⟩⟩
end Go.Proofs.YtknaghdoffigjaaGreatDoor
