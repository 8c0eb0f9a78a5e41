/-
  The contract of the reference's Of. At, Zero and One beside the reference's: the same results, for any numbers. What the call of the law MatrixBuilds needs: rows taken over into slices of its own. What the rows of the statements about matrix share: the table that is laid, and how rows of ints and pairs of ints that came in are opened.
-/
import Derived.Test.YtknaghdoffigjaaGreatDoorZMRefD
import Derived.Test.YtknaghdoffigjaaGreatDoorZMCopy
import Derived.Test.YtknaghdoffigjaaGreatDoorZRFrom
import Derived.Test.YtknaghdoffigjaaGreatDoorZMInvV
import Derived.Test.YtknaghdoffigjaaGreatDoorMSane
import Derived.Test.YtknaghdoffigjaaGreatDoorCards
import Derived.Test.YtknaghdoffigjaaGreatDoorTie
import Derived.ProofKit
import Derived.OpenShut
import Derived.Deep.DeepHandedRow
import Derived.Deep.DeepWitnessRowRef
import Derived.Deep.Matrix
import Derived.Lib.LaidTab
import Derived.Lib.SmallJoins
import Derived.Carry
import Derived.SizedLaws
import Derived.Lay
set_option linter.unusedSimpArgs false
set_option linter.unusedVariables false
set_option linter.unnecessarySimpa false
namespace Go.Proofs.YtknaghdoffigjaaGreatDoor
open Go.RowKit Go
attribute [local go_sem] Oper.semAt_some

/-- The matrix, of which k rows are filled, and j numbers of the next one. -/
def ofT (rows : List (List Int)) (n c k j : Nat) : List (Bool × ByteArray) := (List.range (n * c)).map fun i => if i / c < k ∨ (i / c = k ∧ i % c < j) then (wneg ((rows.getD (i / c) []).getD (i % c) 0), wmag ((rows.getD (i / c) []).getD (i % c) 0)) else (false, ⟨#[]⟩)
theorem ofT_length (rows : List (List Int)) (n c k j : Nat) : (ofT rows n c k j).length = n * c := by simp [ofT]
theorem ofT_zero (rows : List (List Int)) (n c k : Nat) : ofT rows n c k 0 = ofS rows n c k := by
  unfold ofT ofS
  apply List.map_congr_left
  intro i _
  by_cases h : i / c < k
  · rw [if_pos (.inl h), if_pos h]
  · rw [if_neg (fun e => e.elim h fun e2 => absurd e2.2 (by omega)), if_neg h]
theorem ofT_row (rows : List (List Int)) (n c k : Nat) (m : Nat) (hm : (rows.getD k []).length ≤ m) : ofT rows n c k m = ofS rows n c (k + 1) := by
  unfold ofT ofS
  apply List.map_congr_left
  intro i _
  by_cases h : i / c < k
  · rw [if_pos (.inl h), if_pos (by omega)]
  · by_cases h2 : i / c = k
    · rw [if_pos (show i / c < k + 1 by omega)]
      by_cases h3 : i % c < m
      · rw [if_pos (.inr ⟨h2, h3⟩)]
      · rw [if_neg (fun e => e.elim h fun e2 => h3 e2.2), h2, List.getD_eq_getElem?_getD (l := rows.getD k []), List.getElem?_eq_none (by omega)]
        rfl
    · rw [if_neg (fun e => e.elim h fun e2 => h2 e2.1), if_neg (by omega)]
theorem ofT_next (rows : List (List Int)) (n c k j : Nat) (hj : j < c) :
    (ofT rows n c k j).set (k * c + j) (wneg ((rows.getD k []).getD j 0), wmag ((rows.getD k []).getD j 0)) = ofT rows n c k (j + 1) := by
  unfold ofT
  apply List.ext_getElem
  · simp
  · intro i h1 h2
    rw [List.getElem_set]
    simp only [List.getElem_map, List.getElem_range]
    have hc : 0 < c := by omega
    have hdm := Nat.div_add_mod i c
    have hml := Nat.mod_lt i hc
    rw [Nat.mul_comm] at hdm
    by_cases h : k * c + j = i
    · have hd : i / c = k := by
        rw [← h, Nat.mul_comm, Nat.mul_add_div hc, Nat.div_eq_of_lt hj]
        rfl
      have hm : i % c = j := by rw [hd] at hdm; omega
      rw [if_pos h, if_pos (.inr ⟨hd, by omega⟩), hd, hm]
    · rw [if_neg h]
      by_cases hd : i / c = k
      · have hmj : i % c ≠ j := by
          intro e
          rw [hd, e] at hdm
          exact h hdm
        by_cases h3 : i % c < j
        · rw [if_pos (.inr ⟨hd, h3⟩), if_pos (.inr ⟨hd, by omega⟩)]
        · rw [if_neg (fun e => e.elim (fun e1 => by omega) fun e2 => h3 e2.2), if_neg (fun e => e.elim (fun e1 => by omega) fun e2 => by have := e2.2; omega)]
      · by_cases h3 : i / c < k
        · rw [if_pos (.inl h3), if_pos (.inl h3)]
        · rw [if_neg (fun e => e.elim h3 fun e2 => hd e2.1), if_neg (fun e => e.elim h3 fun e2 => hd e2.1)]

set_option maxRecDepth 100000 in
set_option maxHeartbeats 4000000 in
theorem rOf_fits (A : Option Addr) (n cap c NN : Nat) (rows : List (List Int)) (w : World) (hR : RdRows w A rows) (hn : rows.length = n) (hn2 : n ≤ 200) (hc : maxL rows n = c) (hc2 : c ≤ 200) (hNN : n * c = NN) (hb : ∀ k j, -9223372036854775808 ≤ (rows.getD k []).getD j 0 ∧ (rows.getD k []).getD j 0 ≤ 9223372036854775807) :
    Calls Tryz.prog 16 #[.slice A n cap] w fun e w' => ∃ g, e = .returned (mat n c (some ⟨g, 0, none⟩) NN NN) ∧ w.heap.size ≤ g ∧ Lw w' g (enc (ofL rows n c)) ∧ Below w.heap.size w w' := by
  have hNN2 : NN ≤ 40000 := by rw [← hNN]; exact Nat.le_trans (Nat.mul_le_mul hn2 hc2) (by omega)
  have hze := fun W => rZero_fits n c NN W hn2 hc2 hNN
  have hlen : ∀ k, k < n → (rows.getD k []).length ≤ c := fun k hk => by rw [← hc]; exact maxL_ge rows n k hk
  have hrf := fun (k j : Nat) W => RFrom_any ((rows.getD k []).getD j 0) W (hb k j).1 (hb k j).2
  have hol : ∀ k j, (ofT rows n c k j).length = NN := fun k j => by rw [ofT_length, hNN]
  have hst : List.replicate NN (false, (⟨#[]⟩ : ByteArray)) = ofS rows n c 0 := by rw [ofS_zero, hNN]
  have hfu := ofS_full rows n c
  have hrd : ∀ k, k < n → ∃ a Ak ck, A = some a ∧ a.block < w.heap.size ∧ w.cell? (a.add k) = some (.slice Ak (rows.getD k []).length ck) ∧ RdI w Ak (rows.getD k []) := fun k hk => by
    obtain ⟨a, Ak, ck, h1, h2, h3, h4⟩ := hR k (by rw [hn]; exact hk)
    have e1 : rows[k]'(by rw [hn]; exact hk) = rows.getD k [] := by simp [hk, hn]
    rw [e1] at h3 h4
    exact ⟨a, Ak, ck, h1, h2, h3, h4⟩
  have hce : ∀ W l, Kg none w W l → ∀ p : Addr, p.block < w.heap.size → W.cell? p = w.cell? p := fun W l h p hp => World.cell?_of_block (w := w) (h.1.block p.block hp (by simp))
  unfold mat at *
  have HZE := Lib.hid hze
  have HRF := Lib.hid hrf
  have HOL := Lib.hid hol
  have HST := Lib.hid hst
  have HFU := Lib.hid hfu
  have HRD := Lib.hid hrd
  have HCE := Lib.hid hce
  have HC := Lib.hid hc
  have HNN := Lib.hid hNN
  have HLEN := Lib.hid hlen
  have HK1 := Lib.hid ((Kg.none_ none w 0).more (mrow 0 0 none 0 0))
  clear hze hrf hol hst hfu hrd hce hc hNN hlen hb hR hn
  go_enter Tryz.func16, Tryz.ntmps16
  go_wp2_with fail
  change Code.wp _ _ _ _ (w.alloc (mrow 0 0 none 0 0))
  generalize w.alloc (mrow 0 0 none 0 0) = W1 at *
  go_loop [3, 4] (fun m i => ∃ k : Nat, i = .int .i64 (k : Int) ∧ k ≤ n ∧ m = .int .i64 (maxL rows k : Nat)) (fun _ i => n - (intOf i).toNat)
  case atStart => exact ⟨0, rfl, Nat.zero_le _, rfl⟩
  case round =>
    obtain ⟨k, rfl, hk, rfl⟩ := hrel
    by_cases hlt : k < n
    · obtain ⟨a, Ak, ck, rfl, hab, c1, _⟩ := HRD.out k hlt
      have c1 := (HCE.out _ _ HK1.out (a.add k) (by rw [block_add]; exact hab)).trans c1
      have hmx : maxL rows (k + 1) = max (maxL rows k) (rows.getD k []).length := rfl
      have HMX := Lib.hid hmx
      clear hmx
      generalize (rows.getD k []).length = ln at *
      generalize maxL rows k = mk at *
      go_wp2
      go_round
      case rel => exact ⟨k + 1, by simp, by omega, congrArg (Value.int .i64) (by rw [HMX.out]; omega)⟩
      case measure => simp [intOf]; omega
    · obtain rfl : k = n := by omega
      rw [HC.out]
      go_wp2_with fail
      with_reducible refine (HZE.out _).mono ?_
      rintro e V1 ⟨g, rfl, hg, hL, hb⟩
      rw [HST.out] at hL
      have HK2 := Lib.hid (show Kg none w (V1.alloc (mrow k c (some ⟨g, 0, none⟩) NN NN)) [some (w.heap.size, mrow 0 0 none 0 0), some (V1.heap.size, mrow k c (some ⟨g, 0, none⟩) NN NN), some (g, lwO (ofS rows k c 0))] from ((HK1.out.room.came 1 rfl hb hg (o := lwO (ofS rows k c 0)) hL).more (mrow k c (some ⟨g, 0, none⟩) NN NN)).sel [0, 2, 1] (by decide))
      clear hb HK1 hg hL hk hlt
      go_wp2_with fail
      change Code.wp _ _ _ _ (V1.alloc (mrow k c (some ⟨g, 0, none⟩) NN NN))
      generalize V1.alloc (mrow k c (some ⟨g, 0, none⟩) NN NN) = W2 at *
      generalize V1.heap.size = bT at *
      go_loopw [6] (fun i wr => ∃ q : Nat, i = .int .i64 (q : Int) ∧ q ≤ k ∧ Kg none w wr [some (w.heap.size, mrow 0 0 none 0 0), some (bT, mrow k c (some ⟨g, 0, none⟩) NN NN), some (g, lwO (ofS rows k c q))]) (fun i _ => k - (intOf i).toNat)
      case atStart => exact ⟨0, rfl, Nat.zero_le _, HK2.out⟩
      case round =>
        obtain ⟨q, rfl, hq, hK⟩ := hrel
        have HK3 := Lib.hid hK
        have c0 := hK.cell 1 0 rfl rfl
        have c1 := hK.cell 1 1 rfl rfl
        have c2 := hK.cell 1 2 rfl rfl
        by_cases hlt : q < k
        · clear hK
          obtain ⟨a, Ak, ck, rfl, hab, r1, hRI⟩ := HRD.out q hlt
          have HRI := Lib.hid hRI
          have HR1 := Lib.hid r1
          have hln := HLEN.out q hlt
          have HRW := Lib.hid (ofT_row rows k c q _ (Nat.le_refl _))
          have HNX := Lib.hid (fun j => ofT_next rows k c q j)
          have HRFq := Lib.hid (HRF.out q)
          have HOLq := Lib.hid (HOL.out q)
          have hq0 := ofT_zero rows k c q
          obtain ⟨ln, hlne⟩ : ∃ ln, ln = (rows.getD q []).length := ⟨_, rfl⟩
          obtain ⟨row, hrow⟩ : ∃ row, row = rows.getD q [] := ⟨_, rfl⟩
          rw [← hlne] at hln HRW HR1
          rw [← hrow] at HRI HRFq HNX hlne
          have HLNE := Lib.hid hlne
          obtain ⟨tf, htf⟩ : ∃ tf, tf = ofT rows k c q := ⟨_, rfl⟩
          rw [← htf] at HRW HNX HOLq hq0
          have HQ0 := Lib.hid hq0
          obtain ⟨m, hm⟩ : ∃ m, m = q * c := ⟨_, rfl⟩
          rw [← hm] at HNX
          have hmN : m + c ≤ NN := by
            have : (q + 1) * c ≤ k * c := Nat.mul_le_mul_right c hlt
            rw [Nat.add_mul, Nat.one_mul] at this
            rw [← HNN.out, hm]
            exact this
          have w1 : IntKind.i64.wrap ((q : Int) * (c : Int)) = (m : Int) := by rw [← Int.natCast_mul, ← hm]; exact IntWalk.i64_in _ (by omega)
          clear hRI r1 hrow htf hm hlne hq0 HRF HOL
          have HK4 := Lib.hid (show Kg none w wr [some (w.heap.size, mrow 0 0 none 0 0), some (bT, mrow k c (some ⟨g, 0, none⟩) NN NN), some (g, lwO (tf 0))] from by rw [HQ0.out]; exact HK3.out)
          clear HK3
          go_wp2_with fail
          go_loopw [7] (fun i wr => ∃ j : Nat, i = .int .i64 (j : Int) ∧ j ≤ ln ∧ Kg none w wr [some (w.heap.size, mrow 0 0 none 0 0), some (bT, mrow k c (some ⟨g, 0, none⟩) NN NN), some (g, lwO (tf j))]) (fun i _ => ln - (intOf i).toNat)
          case atStart => exact ⟨0, rfl, Nat.zero_le _, HK4.out⟩
          case round =>
            obtain ⟨j, rfl, hj, hK⟩ := hrel
            have HK5 := Lib.hid hK
            clear hK HK4 c0 c1 c2
            have r1 := (HCE.out _ _ HK5.out (a.add q) (by rw [block_add]; exact hab)).trans HR1.out
            by_cases hjl : j < ln
            · obtain ⟨b, rfl, hbb, r2⟩ := HRI.out j (by rw [← HLNE.out]; exact hjl)
              obtain ⟨s, hs⟩ : ∃ s, s = m + j := ⟨_, rfl⟩
              have hsN : s < NN := by omega
              have w2 : IntKind.i64.wrap ((m : Int) + (j : Int)) = (s : Int) := by rw [show (m : Int) + (j : Int) = (s : Int) from by omega]; exact IntWalk.i64_in _ (by omega)
              have hnx := HNX.out j (by omega)
              rw [← hs] at hnx
              have hrfj := HRFq.out j
              generalize row.getD j 0 = z at *
              have HNXj := Lib.hid hnx
              have HRFj := Lib.hid hrfj
              have HR2 := Lib.hid r2
              clear hnx hrfj hs r2 r1
              have r1 := (HCE.out _ _ HK5.out (a.add q) (by rw [block_add]; exact hab)).trans HR1.out
              go_wp2_with fail
              clear r1
              refine wp_region_acts (X := Unit) (fun x => [(0, 40, .pointer (some ⟨bT, 2, none⟩)), (1, 41, .slice (some ⟨g, 0, none⟩) NN NN), (2, 42, .int .i64 (q : Int)), (3, 43, .int .i64 (c : Int)), (4, 44, .int .i64 (m : Int)), (5, 45, .int .i64 (j : Int)), (6, 46, .int .i64 (s : Int)), (7, 47, .slice (some a) k cap), (8, 48, .int .i64 (q : Int)), (9, 49, .pointer (some (a.add q))), (10, 50, .slice (some b) ln ck), (11, 51, .int .i64 (j : Int)), (12, 52, .pointer (some (b.add j))), (13, 53, .int .i64 z), (14, 54, .agg #[.bool (wneg z), .string (wmag z)]), (15, 55, .pointer (some ⟨g, s * 2, none⟩))])
                (fun _ L W => Kg none w W [some (w.heap.size, mrow 0 0 none 0 0), some (bT, mrow k c (some ⟨g, 0, none⟩) NN NN), some (g, if L 16 = true then lwO (tf (j + 1)) else lwO (tf j))]) (by kernel_rfl) (by kernel_rfl) () ?st (by kernel_rfl) ?_ ?_
              case st => simpa using HK5.out.drew
              · simp only [selA, selT_cons, selT_nil, List.set_cons_zero, List.set_cons_succ, List.getD_cons_zero, List.getD_cons_succ]
                repeat' (first | exact ActSteps.nil | refine ActSteps.cons ?_ ?_)
                all_goals
                  intro L x wx hJ hl hd hs K hK
                  (try simp [Region.binds] at hd)
                  have e2 := hJ.cell 1 2 rfl rfl
                  have r1 := (HCE.out _ _ hJ (a.add q) (by rw [block_add]; exact hab)).trans HR1.out
                  have r2 := (HCE.out _ _ hJ (b.add j) (by rw [block_add]; exact hbb)).trans HR2.out
                  try simp only [hd, hl, selV_true, selV_false]
                · go_simp
                  refine hK.out x _ _ ?_ ?_
                  · simp [hl, hd, selV_true, selV_false]
                  · exact hJ
                · go_simp
                  refine hK.out x _ _ ?_ ?_
                  · simp [hl, hd, selV_true, selV_false]
                  · exact hJ
                · go_simp
                  refine hK.out x _ _ ?_ ?_
                  · simp [hl, hd, selV_true, selV_false]
                  · exact hJ
                · go_simp
                  refine hK.out x _ _ ?_ ?_
                  · simp [hl, hd, selV_true, selV_false]
                  · exact hJ
                · go_simp
                  refine hK.out x _ _ ?_ ?_
                  · simp [hl, hd, selV_true, selV_false]
                  · exact hJ
                · go_simp
                  refine hK.out x _ _ ?_ ?_
                  · simp [hl, hd, selV_true, selV_false]
                  · exact hJ
                · go_simp
                  refine hK.out x _ _ ?_ ?_
                  · simp [hl, hd, selV_true, selV_false]
                  · exact hJ
                · go_simp
                  refine hK.out x _ _ ?_ ?_
                  · simp [hl, hd, selV_true, selV_false]
                  · exact hJ
                · go_simp
                  refine hK.out x _ _ ?_ ?_
                  · simp [hl, hd, selV_true, selV_false]
                  · exact hJ
                · go_simp
                  refine hK.out x _ _ ?_ ?_
                  · simp [hl, hd, selV_true, selV_false]
                  · exact hJ
                · go_simp
                  refine hK.out x _ _ ?_ ?_
                  · simp [hl, hd, selV_true, selV_false]
                  · exact hJ
                · go_simp
                  refine hK.out x _ _ ?_ ?_
                  · simp [hl, hd, selV_true, selV_false]
                  · exact hJ
                · go_simp
                  refine hK.out x _ _ ?_ ?_
                  · simp [hl, hd, selV_true, selV_false]
                  · exact hJ
                · go_simp
                  refine hK.out x _ _ ?_ ?_
                  · simp [hl, hd, selV_true, selV_false]
                  · exact hJ
                · go_simp
                  with_reducible refine (HRFj.out _).mono ?_
                  rintro e v ⟨rfl, hb⟩
                  refine hK.out x _ _ ?_ ?_
                  · simp [hl, hd, selV_true, selV_false]
                  · exact hJ.step hb
                · go_simp
                  refine hK.out x _ _ ?_ ?_
                  · simp [hl, hd, selV_true, selV_false]
                  · exact hJ
                · have hB := hJ
                  simp only [hl, Bool.false_eq_true, if_false] at hB
                  have hLg : Lw wx g (tf j) := hB.at_ 2 rfl
                  have hql : s < (tf j).length := by rw [HOLq.out]; exact hsN
                  have d0 := hLg.cell0 s hql
                  have d1 := hLg.cell1 s hql
                  have f0 := hB.frozen 2 (s * 2) rfl
                  have f1 := hB.frozen 2 (s * 2 + 1) rfl
                  generalize ((tf j)[s]'hql).1 = u0 at d0
                  generalize ((tf j)[s]'hql).2 = u1 at d1
                  have hP := hLg.put s (wneg z) (wmag z)
                  rw [HNXj.out] at hP
                  have HP := Lib.hid hP
                  have HB := Lib.hid hB
                  clear hP hLg hB
                  go_simp
                  refine hK.out x _ _ ?_ ?_
                  · simp [hl, hd, selV_true, selV_false]
                  · have hGr := grownBy_setRow (g := g) (p := ⟨g, s * 2 + 1, none⟩) (grownBy_setRow (g := g) (p := ⟨g, s * 2, none⟩) (World.grownBy.refl wx _) rfl (.bool (wneg z))) rfl (.string (wmag z))
                    exact (HB.out.change 2 rfl hGr (o' := lwO (tf (j + 1))) HP.out).cast (by simp)
              · rintro _ Wx hKx
                simp only [selA, selT_cons, selT_nil, List.set_cons_zero, List.set_cons_succ, List.getD_cons_zero, List.getD_cons_succ, selV_true]
                simp only [if_true] at hKx
                have HKX := Lib.hid hKx
                clear hKx
                go_wp2
                go_roundw
                case rel => exact ⟨j + 1, by simp, by omega, HKX.out⟩
                case measure => simp [intOf]; omega
            · obtain rfl : j = ln := by omega
              go_wp2
              go_roundw
              case rel => exact ⟨q + 1, by simp, by omega, by rw [← HRW.out]; exact HK5.out⟩
              case measure => simp [intOf]; omega
        · obtain rfl : q = k := by omega
          have d0 := hK.cell 0 0 rfl rfl
          have d1 := hK.cell 0 1 rfl rfl
          have d2 := hK.cell 0 2 rfl rfl
          have f0 := hK.frozen 0 0 rfl
          have f1 := hK.frozen 0 1 rfl
          have f2 := hK.frozen 0 2 rfl
          clear hK
          go_wp2
          have hP := ((HK3.out.put 0 0 rfl (.int .i64 (q : Int))).put 0 1 rfl (.int .i64 (c : Int))).put 0 2 rfl (.slice (some ⟨g, 0, none⟩) NN NN)
          exact post_mat (b := w.heap.size) rfl rfl (hP.at_ 0 rfl) rfl ⟨g, rfl, hP.ge 2 rfl, by rw [← HFU.out]; exact hP.at_ 2 rfl, ⟨hP.1.os, hP.1.tape, hP.1.output, hP.1.size, fun i hi => hP.1.block i hi (by simp)⟩⟩
end Go.Proofs.YtknaghdoffigjaaGreatDoor
namespace Go.Proofs.YtknaghdoffigjaaGreatDoor
open Go.RowKit Go

theorem At_both (g1 g2 r c NN : Nat) (zs : List Int) (hlen : zs.length = r * c) (hNN : r * c = NN) (hr : r ≤ 200) (hc : c ≤ 200) (i j : Int) : ∃ (x : Bool) (s : ByteArray),
    (∀ W, Lw W g1 (enc zs) → Calls Tryz.prog 18 #[mat r c (some ⟨g1, 0, none⟩) NN NN, .int .i64 i, .int .i64 j] W fun e w' => e = .returned (.agg #[.bool x, .string s]) ∧ Below W.heap.size W w') ∧
    (∀ W, Lw W g2 (enc zs) → Calls Tryz.prog 19 #[mat r c (some ⟨g2, 0, none⟩) NN NN, .int .i64 i, .int .i64 j] W fun e w' => e = .returned (.agg #[.bool x, .string s]) ∧ Below W.heap.size W w') := by
  have hmr := mright_ints r c zs hlen hr hc
  have hNb : NN ≤ 40000 := by rw [← hNN]; exact Nat.le_trans (Nat.mul_le_mul hr hc) (by omega)
  by_cases h : i < 0 ∨ i ≥ (r : Int) ∨ j < 0 ∨ j ≥ (c : Int)
  · exact ⟨false, ⟨#[]⟩, fun W hW => At_no (r : Int) (c : Int) i j (some ⟨g1, 0, none⟩) NN NN W h,
      fun W hW => rAt_no (r : Int) (c : Int) i j (some ⟨g2, 0, none⟩) NN NN (enc zs) W hW.rdw (by rw [enc_length, hlen, hNN]) (by unfold maxLen; omega) hmr h⟩
  · obtain ⟨a, rfl⟩ : ∃ a : Nat, (a : Int) = i := ⟨i.toNat, by omega⟩
    obtain ⟨b, rfl⟩ : ∃ b : Nat, (b : Int) = j := ⟨j.toNat, by omega⟩
    exact ⟨_, _, fun W hW => At_ok g1 r c NN NN a b zs W hW hlen hNN.symm hmr hr hc (by omega) (by omega),
      fun W hW => rAt_ok g2 r c NN NN a b zs W hW hlen hNN.symm hmr hr hc (by omega) (by omega)⟩
/-- A matrix is returned, whose elements are these. -/
def RetM (P : Program) (f : Nat) (args : Array Value) (r c : Int) (N : Nat) (zs : List (Bool × ByteArray)) : Prop :=
  ∀ W, Calls P f args W fun e w' => ∃ A, e = .returned (.agg #[.int .i64 r, .int .i64 c, .slice A N N]) ∧ RdW w' A zs ∧ Below W.heap.size W w'
theorem Zero_both (a b : Int) : ∃ (r c : Int) (N : Nat) (zs : List (Bool × ByteArray)), zs.length = N ∧ N ≤ 40000 ∧
    RetM Tryz.prog 20 #[.int .i64 a, .int .i64 b] r c N zs ∧ RetM Tryz.prog 21 #[.int .i64 a, .int .i64 b] r c N zs := by
  cases h : (msize a && msize b) with
  | false =>
    refine ⟨0, 0, 0, [], rfl, by omega, fun W => (Zero_no a b W h).mono ?_, fun W => (rZero_no a b W h).mono ?_⟩
    all_goals
      rintro e w' ⟨rfl, hb⟩
      exact ⟨none, rfl, RdW.nil _ _, hb⟩
  | true =>
    have hb : (0 ≤ a ∧ a ≤ 200) ∧ (0 ≤ b ∧ b ≤ 200) := by
      unfold msize at h
      simpa using h
    obtain ⟨r, rfl⟩ : ∃ r : Nat, (r : Int) = a := ⟨a.toNat, by omega⟩
    obtain ⟨c, rfl⟩ : ∃ c : Nat, (c : Int) = b := ⟨b.toNat, by omega⟩
    have hrc : r * c ≤ 40000 := Nat.le_trans (Nat.mul_le_mul (show r ≤ 200 by omega) (show c ≤ 200 by omega)) (by omega)
    refine ⟨r, c, r * c, List.replicate (r * c) (false, ⟨#[]⟩), by simp, hrc, fun W => (Zero_fits r c W (by omega) (by omega)).mono ?_, fun W => (rZero_fits r c (r * c) W (by omega) (by omega) rfl).mono ?_⟩
    all_goals
      rintro e w' ⟨g, rfl, hg, hL, hb⟩
      exact ⟨some ⟨g, 0, none⟩, rfl, hL.rdw, hb⟩
theorem One_both (a : Int) : ∃ (r c : Int) (N : Nat) (zs : List (Bool × ByteArray)), zs.length = N ∧ N ≤ 40000 ∧
    RetM Tryz.prog 22 #[.int .i64 a] r c N zs ∧ RetM Tryz.prog 23 #[.int .i64 a] r c N zs := by
  cases h : msize a with
  | false =>
    refine ⟨0, 0, 0, [], rfl, by omega, fun W => (One_no a W h).mono ?_, fun W => (rOne_no a W h).mono ?_⟩
    all_goals
      rintro e w' ⟨rfl, hb⟩
      exact ⟨none, rfl, RdW.nil _ _, hb⟩
  | true =>
    have hb : 0 ≤ a ∧ a ≤ 200 := by
      unfold msize at h
      simpa using h
    obtain ⟨n, rfl⟩ : ∃ n : Nat, (n : Int) = a := ⟨a.toNat, by omega⟩
    have hrc : n * n ≤ 40000 := Nat.le_trans (Nat.mul_le_mul (show n ≤ 200 by omega) (show n ≤ 200 by omega)) (by omega)
    refine ⟨n, n, n * n, oneL n n, by simp [oneL], hrc, fun W => (One_fits n W (by omega)).mono ?_, fun W => (rOne_fits n W (by omega)).mono ?_⟩
    all_goals
      rintro e w' ⟨g, rfl, hg, hL, hb⟩
      exact ⟨some ⟨g, 0, none⟩, rfl, hL.rdw, hb⟩
theorem same_refl (r c : Int) (A B : Option Addr) (n : Nat) (xs : List (Bool × ByteArray)) (w : World) (hx : RdW w A xs) (hy : RdW w B xs) (hn : xs.length = n) (hnb : n ≤ 1000000) :
    Calls Tryz.prog 17 #[.agg #[.int .i64 r, .int .i64 c, .slice A n n], .agg #[.int .i64 r, .int .i64 c, .slice B n n]] w fun e w' => e = .returned (.bool true) ∧ Below w.heap.size w w' := by
  have h := same_any r c r c A B n n n n xs xs w hx hy hn hn hnb hnb
  rw [decide_eq_true rfl, decide_eq_true rfl, decide_eq_true rfl] at h
  exact h
end Go.Proofs.YtknaghdoffigjaaGreatDoor
namespace Go.Proofs.YtknaghdoffigjaaGreatDoor
open Go.RowKit Go
attribute [local go_sem] Oper.semAt_some

/-- Rows of ints that came in: their lengths fit their capacities. -/
def RdRowsC (w : World) (A : Option Addr) (rows : List (List Int)) : Prop :=
  ∀ k, k < rows.length → ∃ a Ak ck, A = some a ∧ a.block < w.heap.size ∧ w.cell? (a.add k) = some (.slice Ak (rows.getD k []).length ck) ∧ (rows.getD k []).length ≤ ck ∧ ck ≤ maxLen ∧ (Ak = none → ck = 0) ∧ RdI w Ak (rows.getD k [])
/-- Slices in a row of their own. -/
def OwS (w : World) (B : Nat) (v : Value) (vs : List Value) : Prop := w.ownsRow B 25 1 v vs.length vs
theorem OwS.nil (w : World) (B : Nat) : OwS w B (.slice none 0 0) [] := World.ownsRow_nil _ _ _ _
theorem OwS.rd {w : World} {B : Nat} {v : Value} {vs : List Value} (h : OwS w B v vs) : ∃ A c, v = .slice A vs.length c ∧ vs.length ≤ c ∧ c ≤ maxLen ∧ ∀ k (hk : k < vs.length), ∃ a, A = some a ∧ a.block < w.heap.size ∧ w.cell? (a.add k) = some vs[k] := by
  rcases h.2 with ⟨rfl, h0⟩ | ⟨g, cap, cur, rfl, hb, hh, hnc, hcm, hcs, hct⟩
  · obtain rfl : vs = [] := List.length_eq_zero_iff.1 h0
    exact ⟨none, 0, rfl, by simp, by simp, fun k hk => absurd hk (by simp)⟩
  · refine ⟨_, _, rfl, hnc, hcm, fun k hk => ⟨_, rfl, heap_lt hh, ?_⟩⟩
    rw [add_from0, cell_of_row w g k cur _ (0, 0) hh]
    have h2 := congrArg (fun l : List Value => l[k]?) hct
    change (cur.toList.take (vs.length * 1))[k]? = vs[k]? at h2
    rw [List.getElem?_take_of_lt (by omega), Array.getElem?_toList] at h2
    rw [h2, List.getElem?_eq_getElem hk]
theorem OwS.own {w : World} {B : Nat} {v : Value} {vs : List Value} (h : OwS w B v vs) (k : Nat) (hk : v.ownBlock = some k) : B ≤ k := by
  rcases h.2 with ⟨rfl, _⟩ | ⟨g, cap, cur, rfl, hb, _⟩
  · cases hk
  · injection hk with hk
    exact hk ▸ hb
theorem OwS.block {w w' : World} {B : Nat} {v : Value} {vs : List Value} (h : OwS w B v vs) (hb' : ∀ i, B ≤ i → i < w.heap.size → w'.heap[i]? = w.heap[i]?) : OwS w' B v vs := by
  rcases h.2 with ⟨rfl, h0⟩ | ⟨g, cap, cur, rfl, hb, hh, hnc, hcm, hcs, hct⟩
  · exact ⟨h.1, .inl ⟨rfl, h0⟩⟩
  · exact ⟨h.1, .inr ⟨g, cap, cur, rfl, hb, (hb' g hb (heap_lt hh)).trans hh, hnc, hcm, hcs, hct⟩⟩
theorem OwS.drew {w : World} {B : Nat} {v : Value} {vs : List Value} (h : OwS w B v vs) : OwS w.drew B v vs := h.block fun _ _ _ => rfl
theorem OwS.below {w w' : World} {B : Nat} {v : Value} {vs : List Value} (h : OwS w B v vs) (hb : Below w.heap.size w w') : OwS w' B v vs := h.block fun i _ hi => hb.block i hi
theorem info_ints : (Tryz.prog.info? 25).map (fun i => (i.zero, i.size, i.bytes)) = some (some (.slice none 0 0), 1, 24) := by kernel_rfl
/-- The rows that the law takes over. -/
def cutRows (rows : List (List Int)) (k : Nat) : List (List Int) := (List.range k).map fun i => (rows.getD i []).take 8
/-- The slices of these rows. -/
def Cut (w : World) (rows : List (List Int)) (vs : List Value) : Prop := ∀ k, k < vs.length → ∃ Ak ck, vs[k]? = some (.slice Ak ((rows.getD k []).take 8).length ck) ∧ RdI w Ak ((rows.getD k []).take 8)
theorem Cut.rows {w W : World} {B : Nat} {v : Value} {vs : List Value} {rows : List (List Int)} (h : Cut w rows vs) (ho : OwS W B v vs) (hb : Below w.heap.size w W) :
    ∃ A c, v = .slice A vs.length c ∧ RdRows W A (cutRows rows vs.length) := by
  obtain ⟨A, c, rfl, _, _, hc⟩ := ho.rd
  refine ⟨A, c, rfl, fun k hk => ?_⟩
  have hk' : k < vs.length := by simpa [cutRows] using hk
  obtain ⟨a, rfl, hal, hac⟩ := hc k hk'
  obtain ⟨Ak, ck, hv, hr⟩ := h k hk'
  rw [List.getElem?_eq_getElem hk'] at hv
  injection hv with hv
  rw [hv] at hac
  have e : (cutRows rows vs.length)[k] = (rows.getD k []).take 8 := by simp [cutRows]
  rw [e]
  exact ⟨a, Ak, ck, rfl, hal, hac, hr.below hb⟩
theorem Kg.below_ {w0 w : World} {l : List (Option (Nat × Obj))} (h : Kg none w0 w l) : Below w0.heap.size w0 w := ⟨h.1.os, h.1.tape, h.1.output, h.1.size, fun i hi => h.1.block i hi (by simp)⟩
def updA (x : Nat → Option Addr) (i : Nat) (v : Option Addr) : Nat → Option Addr := fun j => if j = i then v else x j
theorem addr_zero (a : Addr) : a.add 0 = a := by
  rcases a with ⟨b, o, f⟩
  unfold Addr.add
  split <;> simp_all
theorem slice_hiI (A : Option Addr) (n c m : Nat) (h : m ≤ c) (w : World) : (Instr.slice 25 (.slice A n c) none (some (.int .i64 (m : Int))) none).run Tryz.prog w = .ok (.slice A m c) w := by
  have h := run_slice_h (P := Tryz.prog) (w := w) 25 A n c (by kernel_rfl) .i64 (m : Int) (by omega) (by omega)
  rw [h]
  have e : Tryz.prog.elem 25 = 3 := by kernel_rfl
  rw [e, Tryz.sizeOf3]
  have e2 : A.map (·.add (0 * 1)) = A := by
    cases A with
    | none => rfl
    | some a => simp [addr_zero]
  simp only [Result.andThen, sliced, Int.toNat_natCast, e2, Nat.sub_zero]
  split <;> rfl

end Go.Proofs.YtknaghdoffigjaaGreatDoor
namespace Go.Proofs.YtknaghdoffigjaaGreatDoor
open Go.ChangeShapes Go.WideShapes Go.ChangeAt Go.RowKit Go.Joins Go.Deep

theorem own : ownKnob Tryz.prog.godebug = none := by kernel_rfl
theorem cells_int : Tryz.prog.cellsOf 3 = 1 := by kernel_rfl
theorem cells_ints : Tryz.prog.cellsOf 25 = 1 := by kernel_rfl
theorem laidOutX : laidOutB Tryz.prog = true := by kernel_rfl
theorem int_bounds {z : Int} (hz : (Lit.int .i64 z).wf = true) : -9223372036854775808 ≤ z ∧ z ≤ 9223372036854775807 := by
  simp [Lit.wf, IntKind.min, IntKind.max, IntKind.signed, IntKind.bits] at hz
  omega
/-- The table that the row lists is the one that counts zeros. -/
theorem Tz_of_laid {W : World} (h : laidMet Tryz.prog [("math/bits.deBruijn64tab", Rows.laid_math_bits_deBruijn64tab)] W) : Tz W := fun j hj => by
  have h1 := Lib.tabIs_of_head (name := "math/bits.deBruijn64tab") (k := .u8) (zs := Lib.deBruijn64tab.map fun n : Nat => (n : Int)) (g := 1) (t := 176) (e := 5) (n := 64) (rest := []) (by kernel_rfl) (by kernel_rfl) (by kernel_rfl) (by kernel_rfl) (by kernel_rfl) (by kernel_rfl) h
  have h2 := h1.cell (g := 1) (by kernel_rfl) j (by simpa using hj)
  rw [h2]
  simp [List.getD_eq_getElem?_getD, hj]
set_option maxRecDepth 100000 in
/-- Rows of ints that came in, opened. -/
theorem open_rows {H : Type} {enc : TypeId × Value → H} {W : World} {base : Nat} {v : Value} {d : DataW H} {p : List MemPlace} (hval : Value.okWide Tryz.prog W .any base 22 v)
    (h : DataW.Trod enc Tryz.prog W 0 (fun _ => true) true 22 v d p) : ∃ (A : Option Addr) (n c : Nat) (rows : List (List Int)), v = .slice A n c ∧ RdRowsC W A rows ∧ rows.length = n ∧ n ≤ maxLen ∧
      ∀ k j, -9223372036854775808 ≤ (rows.getD k []).getD j 0 ∧ (rows.getD k []).getD j 0 ≤ 9223372036854775807 := by
  obtain ⟨A, n, c, rfl⟩ := okWide_slice Tryz.underlying22 hval
  obtain ⟨fuel, hf⟩ := h
  have lt_of : ∀ (p : Addr) (u : Value), W.cell? p = some u → p.block < W.heap.size := fun p u hc => by
    rcases Nat.lt_or_ge p.block W.heap.size with hlt | hge
    · exact hlt
    · simp [World.cell?, Array.getElem?_eq_none hge] at hc
  rcases open_int_rows Tryz.underlying22 Tryz.underlying25 Tryz.underlying3 cells_ints cells_int hf with ⟨e1, _⟩ | ⟨a, len, cap, B, L, C, Z, e1, _, hl, hm, _, hr⟩
  · simp [Value.cells] at e1
    obtain ⟨rfl, rfl, rfl⟩ := e1
    exact ⟨none, 0, 0, [], rfl, fun k hk => absurd hk (by simp), rfl, by unfold maxLen; omega, fun k j => by simp⟩
  · simp [Value.cells] at e1
    obtain ⟨rfl, rfl, rfl⟩ := e1
    have hg : ∀ k, k < n → ((List.range n).map fun r => (Z r).take (L r)).getD k [] = (Z k).take (L k) := fun k hk => by
      rw [List.getD_eq_getElem?_getD, List.getElem?_map, List.getElem?_range hk]
      rfl
    refine ⟨_, _, _, (List.range n).map fun r => (Z r).take (L r), rfl, fun k hk => ?_, by simp, by omega, fun k j => ?_⟩
    · have hk' : k < n := by simpa using hk
      obtain ⟨h1, h2, h3, h4, h5, h6, h7⟩ := hr k (by omega)
      have hln : ((Z k).take (L k)).length = L k := by rw [List.length_take]; omega
      rw [hg k hk', hln]
      refine ⟨a, B k, C k, rfl, ?_, h1, h2, h3, h6, fun j hj => ?_⟩
      · have := lt_of _ _ h1
        rwa [block_add] at this
      · have hj' : j < L k := by omega
        cases hB : B k with
        | none =>
          have := h6 hB
          omega
        | some b =>
          obtain ⟨_, hc⟩ := h7 b hB
          have hcj := hc j (by omega)
          refine ⟨b, rfl, ?_, ?_⟩
          · have := lt_of _ _ hcj
            rwa [block_add] at this
          · rw [hcj, List.getD_eq_getElem?_getD, List.getD_eq_getElem?_getD, List.getElem?_take_of_lt hj']
    · rcases Nat.lt_or_ge k n with hk | hk
      · rw [hg k hk]
        obtain ⟨_, _, _, h4, h5, _, _⟩ := hr k (by omega)
        rw [List.getD_eq_getElem?_getD]
        cases hx : ((Z k).take (L k))[j]? with
        | none => simp
        | some x => simpa using int_bounds (h5 x (List.mem_of_mem_take (List.mem_of_getElem? hx)))
      · rw [List.getD_eq_getElem?_getD (i := k), List.getElem?_eq_none (by simpa using hk)]
        simp
set_option maxRecDepth 100000 in
/-- A pair of ints that came in, opened. -/
theorem open_pair2 {H : Type} {enc : TypeId × Value → H} {W : World} {base : Nat} {v : Value} {d : DataW H} {p : List MemPlace} (hval : Value.okWide Tryz.prog W .any base 23 v)
    (h : DataW.Trod enc Tryz.prog W 0 (fun _ => true) true 23 v d p) : ∃ z0 z1 : Int, v = .agg #[.int .i64 z0, .int .i64 z1] ∧ (-9223372036854775808 ≤ z0 ∧ z0 ≤ 9223372036854775807) ∧ (-9223372036854775808 ≤ z1 ∧ z1 ≤ 9223372036854775807) := by
  obtain ⟨cs, rfl, hsz⟩ : ∃ cs : Array Value, v = .agg cs ∧ cs.size = 2 := by
    simp only [Value.okWide, Tryz.underlying23] at hval
    obtain ⟨cs, h1, h2, _⟩ := hval
    exact ⟨cs, h1, by rw [h2]; kernel_rfl⟩
  obtain ⟨c0, c1, rfl⟩ : ∃ c0 c1, cs = #[c0, c1] := by
    rcases cs with ⟨l⟩
    match l, hsz with
    | [x, y], _ => exact ⟨x, y, rfl⟩
  obtain ⟨fuel, hf⟩ := h
  obtain ⟨xs, m, _, _, _, hxl, hx⟩ := DataW.trod_array Tryz.underlying23 hf
  have one : ∀ (i : Nat) (hi : i < 2) (c : Value), (([c0, c1] : List Value).drop (i * 1)).take 1 = [c] → ∃ z : Int, c = .int .i64 z ∧ (-9223372036854775808 ≤ z ∧ z ≤ 9223372036854775807) := fun i hi c hc => by
    have h1 := hx i hi
    rw [cells_int, show (Value.agg #[c0, c1]).cells.toList = [c0, c1] from rfl, hc, List.getElem?_eq_getElem (by omega)] at h1
    obtain ⟨z, e, _, hz⟩ := DataW.trod_int Tryz.underlying3 h1
    injection e with e
    exact ⟨z, e, int_bounds hz⟩
  obtain ⟨z0, rfl, b0⟩ := one 0 (by omega) c0 rfl
  obtain ⟨z1, rfl, b1⟩ := one 1 (by omega) c1 rfl
  exact ⟨z0, z1, rfl, b0, b1⟩
end Go.Proofs.YtknaghdoffigjaaGreatDoor
