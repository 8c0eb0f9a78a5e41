import Derived.Test.YtknaghdoffigjaaGreatDoorZMInvV
import Derived.Test.YtknaghdoffigjaaGreatDoorGcdS
import Derived.Test.YtknaghdoffigjaaGreatDoorMLaw
set_option linter.unusedSimpArgs false
set_option linter.unusedVariables false
set_option linter.unnecessarySimpa false
namespace Go.Proofs.YtknaghdoffigjaaGreatDoor
open Go.RowKit
theorem Qds.snoc {l : List Nat} {x : Nat} (h : Qds l) (hx : x < C16) : Qds (l ++ [x]) := by
 intro y hy
 rcases List.mem_append.1 hy with hy | hy
 ·exact h y hy
 ·rw [List.mem_singleton.1 hy]; exact hx
def RetJ (w w' : World) (e : Ending) (zs : List Nat) : Prop := ∃ A c, e = .returned (.slice A zs.length c) ∧ zs.length ≤ c ∧ c ≤ maxLen ∧ RdJ w' A zs ∧ Below w.heap.size w w' ∧ (A = none → c = 0)
theorem info_int : (Tryz.prog.info? 3).map (fun i => (i.zero, i.size, i.bytes)) = some (some (.int .i64 0), 1, 8) := by kernel_rfl
def OwJ (w : World) (B : Nat) (v : Value) (xs : List Nat) : Prop := w.ownsRow B 3 1 v xs.length (xs.map fun x : Nat => Value.int .i64 (x : Int))
theorem OwJ.nil (w : World) (B : Nat) : OwJ w B (.slice none 0 0) [] := World.ownsRow_nil _ _ _ _
theorem OwJ.rd {w : World} {B : Nat} {v : Value} {xs : List Nat} (h : OwJ w B v xs) : ∃ A c, v = .slice A xs.length c ∧ xs.length ≤ c ∧ c ≤ maxLen ∧ RdJ w A xs ∧ (A = none → c = 0) := by
 rcases h.2 with ⟨rfl, h0⟩ | ⟨g, cap, cur, rfl, hb, hh, hnc, hcm, hcs, hct⟩
 ·obtain rfl : xs = [] := List.length_eq_zero_iff.1 h0
  exact ⟨none, 0, rfl, by simp, by simp, RdJ.nil _ _, fun _ => rfl⟩
 ·refine ⟨_, _, rfl, hnc, hcm, fun k hk => ⟨_, rfl, ?_, ?_⟩, fun h => by cases h⟩
  ·rcases Nat.lt_or_ge g w.heap.size with hlt | hge
   ·exact hlt
   ·rw [Array.getElem?_eq_none hge] at hh; cases hh
  ·have e : (⟨g, 0, none⟩ : Addr).add k = ⟨g, k, none⟩ := by
    unfold Addr.add
    by_cases h0 : k = 0 <;> simp [h0]
   rw [e, cell_of_row w g k cur _ (0, 0) hh]
   have h2 := congrArg (fun l : List Value => l[k]?) hct
   change (cur.toList.take (xs.length * 1))[k]? = (xs.map fun x : Nat => Value.int .i64 (x : Int))[k]? at h2
   rw [List.getElem?_take_of_lt (by omega), Array.getElem?_toList] at h2
   rw [h2]
   simp [List.getD_eq_getElem?_getD, hk]
theorem OwJ.own {w : World} {B : Nat} {v : Value} {xs : List Nat} (h : OwJ w B v xs) (k : Nat) (hk : v.ownBlock = some k) : B ≤ k := by
 rcases h.2 with ⟨rfl, _⟩ | ⟨g, cap, cur, rfl, hb, _⟩
 ·cases hk
 ·injection hk with hk
  exact hk ▸ hb
theorem OwJ.push {w : World} {B d : Nat} {v : Value} {xs : List Nat} (h : w.ownsRow B 3 1 v (xs.length + 1) ((xs.map fun x : Nat => Value.int .i64 (x : Int)) ++ [.int .i64 (d : Int)])) : OwJ w B v (xs ++ [d]) := by
 unfold OwJ
 rw [List.length_append, List.length_singleton, List.map_append]
 exact h
theorem Wd.grown {w w' : World} {b B : Nat} {x : Bool} {s : ByteArray} {row : Option Nat} (h : Wd w b x s) (hg : w.grownBy w' row) (hr : ∀ k, row = some k → B ≤ k) (hb : b < B) : Wd w' b x s :=
 h.block (hg.block b h.lt (fun e => by have := hr b e.symm; omega))
theorem dig_two (l : List UInt8) (k : Nat) (h : k + 1 < l.length) : bval (l.take (k + 2)) = bval (l.take k) * 65536 + ((l[k + 1]'h).toNat + 256 * (l[k]'(by omega)).toNat) := by
 rw [List.take_succ_eq_append_getElem h, bval_snoc, List.take_succ_eq_append_getElem (by omega), bval_snoc]
 omega
theorem dig_one (l : List UInt8) (h : 0 < l.length) : bval (l.take 1) = (l[0]'h).toNat := by
 rw [List.take_succ_eq_append_getElem h, bval_snoc]
 simp [bval]
theorem dig_step (D : List Nat) (N m d r : Nat) (h : qval D + C16 ^ D.length * m = N) (hm : m = r * 65536 + d) : qval (D ++ [d]) + C16 ^ (D ++ [d]).length * r = N := by
 rw [qval_snoc, List.length_append, List.length_singleton, Nat.pow_succ, ← h, hm, C16_eq, Nat.mul_add, Nat.mul_assoc, Nat.mul_comm 65536 r]
 omega
theorem RetJ.trimmed {w w' : World} {A : Option Addr} {c N : Nat} {D : List Nat} (h : RdJ w' A D) (hq : Qds D) (hN : qval D = N) (hc : D.length ≤ c) (hm : c ≤ maxLen) (hb : Below w.heap.size w w') (hA : A = none → c = 0) :
  RetJ w w' (.returned (.slice A (ptrim D).length c)) (qds N) := by
 have e := ptrim_qds hq
 rw [hN] at e
 have h1 := h.take (ptrim D).length
 rw [← ptrim_eq_take] at h1
 have h2 : (ptrim D).length ≤ D.length := by
  have := congrArg List.length (ptrim_eq_take D)
  rw [List.length_take] at this
  omega
 rw [← e]
 exact ⟨A, c, rfl, by omega, hm, h1, hb, hA⟩
set_option maxRecDepth 100000 in
set_option maxHeartbeats 1000000 in
theorem refdigits_any (x : Bool) (s : ByteArray) (w : World) (hs : s.size ≤ 1000) :
  Calls Tryz.prog 119 #[.agg #[.bool x, .string s]] w fun e w' => RetJ w w' e (qds (bval s.data.toList)) := by
 obtain ⟨i0, hi, hz0, hz1, hz2⟩ := info_parts info_int
 have hD := Wd.new w x s
 generalize hW1 : w.alloc (wbox x s) = W1 at *
 have hB1 : Below w.heap.size w W1 := by rw [← hW1]; exact (Below.refl _ _).alloc (Nat.le_refl _) _
 have hs1 : W1.heap.size = w.heap.size + 1 := by rw [← hW1]; simp
 have hc1 := hD.cell1
 have HW1 := Lib.hid hW1
 clear hW1
 obtain ⟨l, hl⟩ : ∃ l, l = s.data.toList := ⟨_, rfl⟩
 have hln : l.length = s.size := by rw [hl]; simp
 have Hl := Lib.hid hl
 have Hln := Lib.hid hln
 clear hl hln
 go_enter Tryz.func119, Tryz.ntmps119
 go_wp2_with fail
 rw [HW1.out]
 have Hs1 := Lib.hid hs1
 have HB1 := Lib.hid hB1
 clear hs1 hc1 hB1
 go_loopw [3, 5] (fun v i wr => ∃ (D : List Nat) (k : Nat), (i = .int .i64 k ∨ (k = 0 ∧ i = .int .i64 (-1))) ∧ k ≤ s.size ∧ D.length + k ≤ s.size + 1 ∧ Qds D ∧ qval D + C16 ^ D.length * bval (l.take k) = bval l ∧ OwJ wr (w.heap.size + 1) v D ∧ Wd wr w.heap.size x s ∧ Below w.heap.size w wr)
  (fun _ i _ => (intOf i).toNat)
 case atStart => exact ⟨[], s.size, .inl rfl, Nat.le_refl _, by simp, Qds.nil, by simp [qval, Hln.out.symm], OwJ.nil _ _, hD, HB1.out⟩
 case round =>
  obtain ⟨D, k, hik, hkn, hlen, hq, hval, hown, hwd, hbel⟩ := hrel
  have hc1 := hwd.cell1
  have Hval := Lib.hid hval
  have Hown := Lib.hid hown
  have Hwd := Lib.hid hwd
  have Hbel := Lib.hid hbel
  clear hval hown hwd hbel
  match k with
  | 0 =>
   have hN : qval D = bval l := by have := Hval.out; simpa [bval_nil] using this
   obtain ⟨A, c, rfl, hc, hm, hrd, hAn⟩ := Hown.out.rd
   have HN := Lib.hid hN
   clear hN
   rcases hik with rfl | ⟨_, rfl⟩
   all_goals
    go_wp2_with fail
    with_reducible refine (reftrim_any A _ c D wr rfl hrd hc hm).mono ?_
    rintro e w' ⟨rfl, rfl⟩
    go_wp2
    go_ret
    exact RetJ.trimmed hrd hq (HN.out.trans (by rw [Hl.out])) hc hm Hbel.out hAn
  | 1 =>
   have hik := hik.resolve_right (fun h => by omega)
   subst hik
   have h0 : 0 < s.size := by omega
   have hbw : w.heap.size + 1 ≤ wr.heap.size := by have := Hwd.out.lt; omega
   have hd2 : s[0].toNat < 256 := s[0].toNat_lt
   have hst := Lib.hid (dig_step D (bval l) (bval (l.take 1)) s[0].toNat 0 Hval.out (by
    rw [dig_one l (by have := Hln.out; omega)]; simp [Hl.out]; rfl))
   rw [show ((1 : Nat) : Int) = 1 from rfl]
   go_wp2_with (at_builtin; refine wpList_append_own _ rfl (.tmp 32) (.tmp 34) 25 rfl (w.heap.size + 1) 3 i0 (.int .i64 0) 1 8 Tryz.underlying25 hi hz0 hz1 hz2 rfl (by decide) _ D.length (D.map fun x : Nat => Value.int .i64 (x : Int)) rfl (World.ownsRow.alloc Hown.out _) ⟨wr.heap.size, 0, none⟩ 1 1 [.int .i64 ((s[0].toNat : Nat) : Int)] rfl rfl (cell_one_new _ _ _) (fun x hx => by simp at hx; subst hx; rfl) (by unfold maxLen; omega) (by omega) (by simp; omega) ?_; intro v2 w2 hown2 hgrow2 _)
   go_roundw
   case rel => exact ⟨D ++ [s[0].toNat], 0, .inr ⟨rfl, by go_num⟩, by omega, by rw [List.length_append, List.length_singleton]; omega, hq.snoc (by rw [C16_eq]; omega), by have := hst.out; simpa [bval_nil] using this, OwJ.push hown2,
    (Hwd.out.alloc _).grown hgrow2 Hown.out.own (by omega), (Hbel.out.alloc Hbel.out.size _).grown hgrow2 (by simp; omega) (fun k hk => by have := Hown.out.own k hk; omega)⟩
   case measure => simp [intOf]
  | k + 2 =>
   have hik := hik.resolve_right (fun h => by omega)
   subst hik
   have h0 : k + 1 < s.size := by omega
   have hbw : w.heap.size + 1 ≤ wr.heap.size := by have := Hwd.out.lt; omega
   have hd1 : s[k].toNat < 256 := s[k].toNat_lt
   have hd2 : s[k + 1].toNat < 256 := s[k + 1].toNat_lt
   have hst := Lib.hid (dig_step D (bval l) (bval (l.take (k + 2))) (s[k + 1].toNat + 256 * s[k].toNat) (bval (l.take k)) Hval.out (by
    rw [dig_two l k (by have := Hln.out; omega)]; simp [Hl.out]; rfl))
   go_wp2_with (at_builtin; refine wpList_append_own _ rfl (.tmp 32) (.tmp 34) 25 rfl (w.heap.size + 1) 3 i0 (.int .i64 0) 1 8 Tryz.underlying25 hi hz0 hz1 hz2 rfl (by decide) _ D.length (D.map fun x : Nat => Value.int .i64 (x : Int)) rfl (World.ownsRow.alloc Hown.out _) ⟨wr.heap.size, 0, none⟩ 1 1 [.int .i64 ((s[k + 1].toNat + 256 * s[k].toNat : Nat) : Int)] rfl rfl (cell_one_new _ _ _) (fun x hx => by simp at hx; subst hx; rfl) (by unfold maxLen; omega) (by omega) (by simp; omega) ?_; intro v2 w2 hown2 hgrow2 _)
   go_roundw
   case rel => exact ⟨D ++ [s[k + 1].toNat + 256 * s[k].toNat], k, .inl rfl, by omega, by rw [List.length_append, List.length_singleton]; omega, hq.snoc (by rw [C16_eq]; omega), hst.out, OwJ.push hown2,
    (Hwd.out.alloc _).grown hgrow2 Hown.out.own (by omega), (Hbel.out.alloc Hbel.out.size _).grown hgrow2 (by simp; omega) (fun k hk => by have := Hown.out.own k hk; omega)⟩
   case measure => simp [intOf]; omega
end Go.Proofs.YtknaghdoffigjaaGreatDoor
namespace Go.Proofs.YtknaghdoffigjaaGreatDoor
open Go.RowKit
def OwY (w : World) (B : Nat) (v : Value) (l : List UInt8) : Prop := w.ownsRow B 5 1 v l.length (l.map fun b : UInt8 => Value.int .u8 (b.toNat : Int))
theorem OwY.nil (w : World) (B : Nat) : OwY w B (.slice none 0 0) [] := World.ownsRow_nil _ _ _ _
theorem OwY.own {w : World} {B : Nat} {v : Value} {l : List UInt8} (h : OwY w B v l) (k : Nat) (hk : v.ownBlock = some k) : B ≤ k := by
 rcases h.2 with ⟨rfl, _⟩ | ⟨g, cap, cur, rfl, hb, _⟩
 ·cases hk
 ·injection hk with hk
  exact hk ▸ hb
theorem OwY.push {w : World} {B : Nat} {d : UInt8} {v : Value} {l : List UInt8} (h : w.ownsRow B 5 1 v (l.length + 1) ((l.map fun b : UInt8 => Value.int .u8 (b.toNat : Int)) ++ [.int .u8 (d.toNat : Int)])) : OwY w B v (l ++ [d]) := by
 unfold OwY
 rw [List.length_append, List.length_singleton, List.map_append]
 exact h
theorem OwY.str {w : World} {B : Nat} {v : Value} {l : List UInt8} (h : OwY w B v l) (hne : l ≠ []) : ∃ g c, v = .slice (some ⟨g, 0, none⟩) l.length c ∧ (convert 114 9 (.slice (some ⟨g, 0, none⟩) l.length c)).run Tryz.prog w = .ok (.string (bstr l)) w := by
 rcases h.2 with ⟨rfl, h0⟩ | ⟨g, cap, cur, rfl, hb, hh, hnc, hcm, hcs, hct⟩
 ·exact absurd (List.length_eq_zero_iff.1 h0) hne
 ·refine ⟨g, cap, rfl, ?_⟩
  have hr := run_convert_bytes_arg (P := Tryz.prog) w 114 5 Tryz.underlying114 Tryz.underlying5 g 0 l.length cap (l.map fun b => (b.toNat : Int)) (by simp)
   (fun i hi => by
    rw [Nat.zero_add, cell_of_row w g i cur _ (0, 0) hh]
    have h2 := congrArg (fun l : List Value => l[i]?) hct
    change (cur.toList.take (l.length * 1))[i]? = (l.map fun b : UInt8 => Value.int .u8 (b.toNat : Int))[i]? at h2
    rw [List.getElem?_take_of_lt (by omega), Array.getElem?_toList] at h2
    rw [h2]
    simp [List.getD_eq_getElem?_getD, hi]) 9 Tryz.underlying9
  have e : strOfNums (l.map fun b => (b.toNat : Int)) = bstr l := by
   rw [← bstr_toList (strOfNums _), strOfNums_data, List.map_map]
   have : l.map ((fun n => UInt8.ofNat (Int.toNat n)) ∘ fun b => (b.toNat : Int)) = l.map id := List.map_congr_left fun b _ => by simp
   rw [this, List.map_id]
  rw [hr, e]
theorem canon_two (q d : Nat) (hd : d < 65536) (h : q ≠ 0 ∨ 256 ≤ d) : canon (d + C16 * q) = (canon q ++ [UInt8.ofNat (d / 256)]) ++ [UInt8.ofNat (d % 256)] := by
 rw [C16_eq, canon_step (d + 65536 * q) (by omega), canon_step ((d + 65536 * q) / 256) (by omega), show (d + 65536 * q) / 256 / 256 = q from by omega, show (d + 65536 * q) / 256 % 256 = d / 256 from by omega, show (d + 65536 * q) % 256 = d % 256 from by omega]
theorem canon_one (d : Nat) (hd : d < 256) (h : d ≠ 0) : canon (d + C16 * 0) = canon 0 ++ [UInt8.ofNat (d % 256)] := by
 rw [Nat.mul_zero, Nat.add_zero, canon_step d h, show d / 256 = 0 from by omega]
theorem qval_drop (E : List Nat) (j : Nat) (h : j < E.length) : qval (E.drop j) = E.getD j 0 + C16 * qval (E.drop (j + 1)) := by
 rw [List.drop_eq_getElem_cons h, qval, List.getD_eq_getElem?_getD, List.getElem?_eq_getElem h]; rfl
theorem qval_zero {l : List Nat} (h : qval l = 0) : ∀ x ∈ l, x = 0 := by
 induction l with
 | nil => intro x hx; cases hx
 | cons y l ih =>
  rw [qval, C16_eq] at h
  intro x hx
  rcases List.mem_cons.1 hx with rfl | hx
  ·omega
  ·exact ih (by omega) x hx
theorem last_ne {E : List Nat} (h : ptrim E = E) (j : Nat) (hj : j + 1 = E.length) : E.getD j 0 ≠ 0 := by
 intro e
 have h1 := ptrim_take_zero E j (by omega) e
 rw [hj, List.take_of_length_le (Nat.le_refl _), h] at h1
 have h2 := congrArg List.length (ptrim_eq_take (E.take j))
 rw [← h1, List.length_take, List.length_take] at h2
 omega
theorem drop_ne {E : List Nat} (h : ptrim E = E) (j : Nat) (hj : j + 1 < E.length) : qval (E.drop (j + 1)) ≠ 0 := by
 intro e
 have hl : E.length - 1 < E.length := by omega
 have h1 := last_ne h (E.length - 1) (by omega)
 rw [List.getD_eq_getElem?_getD, List.getElem?_eq_getElem hl] at h1
 refine h1 (qval_zero e _ ?_)
 have h2 : (E.drop (j + 1))[E.length - 1 - (j + 1)]'(by rw [List.length_drop]; omega) = E[E.length - 1] := by
  rw [List.getElem_drop]
  congr 1
  omega
 rw [Option.getD_some, ← h2]
 exact List.getElem_mem _
set_option maxRecDepth 100000 in
set_option maxHeartbeats 1000000 in
theorem refwide_any (neg : Bool) (A : Option Addr) (n c : Nat) (D : List Nat) (w : World) (hrd : RdJ w A D) (hq : Qds D) (hn : D.length = n) (hc : n ≤ c) (hm : c ≤ maxLen) (hsz : n ≤ 1000) :
  Calls Tryz.prog 103 #[.bool neg, .slice A n c] w fun e w' => e = .returned (.agg #[.bool (neg && decide (qval D ≠ 0)), .string (bstr (canon (qval D)))]) ∧ Below w.heap.size w w' := by
 obtain ⟨i0, hi, hz0, hz1, hz2⟩ := info_parts info_u8
 have hD := Wd.new w false ⟨#[]⟩
 generalize hW1 : w.alloc (wbox false ⟨#[]⟩) = W1 at *
 have hB1 : Below w.heap.size w W1 := by rw [← hW1]; exact (Below.refl _ _).alloc (Nat.le_refl _) _
 have htr := Lib.hid (reftrim_any A n c D W1 hn (hrd.below hB1) hc hm)
 have hpt := ptrim_qds hq
 have hrE := hrd.take (ptrim D).length
 rw [← ptrim_eq_take] at hrE
 have hlE : (ptrim D).length ≤ n := by
  have := congrArg List.length (ptrim_eq_take D)
  rw [List.length_take] at this
  omega
 have hqE : Qds (ptrim D) := by rw [hpt]; exact qds_qds _
 have hvE : qval (ptrim D) = qval D := by rw [hpt, qval_qds]
 have hpp : ptrim (ptrim D) = ptrim D := by rw [ptrim_qds hqE, hvE, hpt]
 have HPP := Lib.hid hpp
 clear hpp
 have HPT := Lib.hid hpt
 clear hpt hrd hq
 generalize ptrim D = E at *
 generalize hN : qval D = N at *
 have HN := Lib.hid hN
 have HW1 := Lib.hid hW1
 have HB1 := Lib.hid hB1
 have Hn := Lib.hid hn
 clear hN hW1 hB1 hn
 go_enter Tryz.func103, Tryz.ntmps103
 go_wp2_with fail
 rw [HW1.out]
 with_reducible refine htr.out.mono ?_
 rintro e w' ⟨rfl, rfl⟩
 by_cases h0 : E = []
 ·have hN0 : N = 0 := by rw [← hvE, h0]; rfl
  subst h0
  subst hN0
  have c0 := hD.cell0
  have c1 := hD.cell1
  have f0 := hD.frozen 0
  have f1 := hD.frozen 1
  clear hvE hqE hrE
  go_wp2
  refine post_wide (b := w.heap.size) rfl rfl ((hD.set0 false).set1 _) rfl ⟨?_, (HB1.out.setCell (Nat.le_refl _) _).setCell (Nat.le_refl _) _⟩
  simp [canon_zero]
  rfl
 ·have hl0 : 0 < E.length := List.length_pos_iff.2 h0
  have hNn : N ≠ 0 := by
   intro e
   have h1 := HPT.out
   rw [e] at h1
   exact h0 (h1.trans rfl)
  have Hne := Lib.hid hNn
  have HvE := Lib.hid hvE
  have hbeq : ((E.length : Int) == 0) = false := by rw [beq_eq_false_iff_ne]; omega
  clear hNn h0 hvE
  go_wp2_with fail
  go_loopw [5, 6] (fun v i wr => ∃ j : Nat, j ≤ E.length ∧ i = .int .i64 ((j : Int) - 1) ∧ OwY wr (w.heap.size + 1) v (canon (qval (E.drop j))) ∧ (canon (qval (E.drop j))).length ≤ 2 * (E.length - j) ∧ Wd wr w.heap.size false ⟨#[]⟩ ∧ Below w.heap.size w wr)
   (fun _ i _ => (intOf i + 1).toNat)
  case atStart => exact ⟨E.length, Nat.le_refl _, by go_num, by simp [qval, canon_zero]; exact OwY.nil _ _, by simp [qval, canon_zero], hD, HB1.out⟩
  case round =>
   obtain ⟨j, hj, rfl, hown, hcl, hwd, hbel⟩ := hrel
   have Hown := Lib.hid hown
   have Hwd := Lib.hid hwd
   have Hbel := Lib.hid hbel
   clear hown hwd hbel hD
   cases j with
   | zero =>
    have hv : qval (E.drop 0) = N := by rw [List.drop_zero]; exact HvE.out
    have hown2 := Hown.out
    rw [hv] at hown2
    obtain ⟨g, cg, rfl, hconv⟩ := hown2.str (fun e => Hne.out (canon_eq_nil.1 e))
    have c0 := Hwd.out.cell0
    have c1 := Hwd.out.cell1
    have f0 := Hwd.out.frozen 0
    have f1 := Hwd.out.frozen 1
    clear hown2 hcl hv
    go_wp2
    refine post_wide (b := w.heap.size) rfl rfl ((Hwd.out.set0 neg).set1 (bstr (canon N))) rfl ⟨?_, (Hbel.out.setCell (Nat.le_refl _) _).setCell (Nat.le_refl _) _⟩
    have : decide (N ≠ 0) = true := by simpa using Hne.out
    rw [this, Bool.and_true]
   | succ j =>
    obtain ⟨a, rfl, hab, hcell0⟩ := hrE j (by omega)
    have hcell := (Hbel.out.cell (p := a.add j) (by rw [block_add]; exact hab)).trans hcell0
    have hd : E.getD j 0 < 65536 := by have := hqE.getD j; rw [C16_eq] at this; exact this
    have hqd := Lib.hid (qval_drop E j (by omega))
    have hlast := Lib.hid (last_ne HPP.out j)
    have hdrop := Lib.hid (drop_ne HPP.out j)
    have hbw : w.heap.size + 1 ≤ wr.heap.size := by have := Hwd.out.lt; omega
    have hij : ((j + 1 : Nat) : Int) - 1 = j := by omega
    rw [hij]
    generalize hL : canon (qval (E.drop (j + 1))) = L at *
    have HL := Lib.hid hL
    clear hij hL
    generalize E.getD j 0 = d at *
    obtain ⟨b1, hb1⟩ : ∃ b : UInt8, b = UInt8.ofNat (d / 256) := ⟨_, rfl⟩
    obtain ⟨b2, hb2⟩ : ∃ b : UInt8, b = UInt8.ofNat (d % 256) := ⟨_, rfl⟩
    have e1 : (d : Int) / 256 = (b1.toNat : Int) := by
     rw [hb1, UInt8.toNat_ofNat_of_lt' (by rw [show UInt8.size = 256 from rfl]; omega)]; omega
    have e2 : (d : Int) % 256 = (b2.toNat : Int) := by
     rw [hb2, UInt8.toNat_ofNat_of_lt' (by rw [show UInt8.size = 256 from rfl]; omega)]; omega
    have Hb1 := Lib.hid hb1
    have Hb2 := Lib.hid hb2
    clear hb1 hb2
    have hLl : L.length ≤ 2000 := by omega
    have hLl2 : (L ++ [b1]).length ≤ 2001 := by rw [List.length_append, List.length_singleton]; omega
    by_cases hl : j + 1 < E.length
    ·have hc2 := Lib.hid (show canon (qval (E.drop j)) = (L ++ [b1]) ++ [b2] by
      rw [hqd.out, canon_two _ _ hd (.inl (hdrop.out hl)), HL.out, Hb1.out, Hb2.out])
     go_wp2_with (first
      | (at_builtin; refine wpList_append_own _ rfl (.tmp 32) (.tmp 39) 114 rfl (w.heap.size + 1) 5 i0 (.int .u8 0) 1 1 Tryz.underlying114 hi hz0 hz1 hz2 rfl (by decide) _ (L).length ((L).map fun b : UInt8 => Value.int .u8 (b.toNat : Int)) rfl (World.ownsRow.alloc Hown.out _) ⟨(wr).heap.size, 0, none⟩ 1 1 [.int .u8 ((b1.toNat : Nat) : Int)] rfl rfl (cell_one_new _ _ _) (fun x hx => by simp at hx; subst hx; rfl) (by unfold maxLen; omega) (by omega) (by simp; omega) ?_; intro v2 w2 hown2 hgrow2 _; have hY2 := OwY.push hown2; have hB2 := (Hbel.out.alloc Hbel.out.size _).grown hgrow2 (by simp; omega) (fun k hk => by have := Hown.out.own k hk; omega); have hcell2 := (hB2.cell (p := a.add j) (by rw [block_add]; exact hab)).trans hcell0; have hD2 := (Hwd.out.alloc _).grown hgrow2 Hown.out.own (by omega); have hbw2 : w.heap.size + 1 ≤ w2.heap.size := (by have := hD2.lt; omega))
      | (at_builtin; refine wpList_append_own _ rfl (.tmp 41) (.tmp 48) 114 rfl (w.heap.size + 1) 5 i0 (.int .u8 0) 1 1 Tryz.underlying114 hi hz0 hz1 hz2 rfl (by decide) _ (L ++ [b1]).length ((L ++ [b1]).map fun b : UInt8 => Value.int .u8 (b.toNat : Int)) rfl (World.ownsRow.alloc hY2 _) ⟨(w2).heap.size, 0, none⟩ 1 1 [.int .u8 ((b2.toNat : Nat) : Int)] rfl rfl (cell_one_new _ _ _) (fun x hx => by simp at hx; subst hx; rfl) (by unfold maxLen; omega) (by omega) (by simp; omega) ?_; intro v3 w3 hown3 hgrow3 _; have hY3 := OwY.push hown3; have hB3 := Lib.hid ((hB2.alloc hB2.size _).grown hgrow3 (by simp; omega) (fun k hk => by have := hY2.own k hk; omega)); have hD3 := Lib.hid ((hD2.alloc _).grown hgrow3 hY2.own (by omega))))
     go_roundw
     case rel => exact ⟨j, by omega, by go_num, by rw [hc2.out]; exact hY3, by rw [hc2.out]; simp; omega, hD3.out, hB3.out⟩
     case measure => simp [intOf]
    ·have Hle := Lib.hid (show E.length = j + 1 by omega)
     have HL0 := Lib.hid (show L = canon 0 by rw [← HL.out, ← Hle.out, List.drop_length]; rfl)
     by_cases h256 : 256 ≤ d
     ·have hc2 := Lib.hid (show canon (qval (E.drop j)) = (L ++ [b1]) ++ [b2] by
       rw [hqd.out, canon_two _ _ hd (.inr h256), HL.out, Hb1.out, Hb2.out])
      go_wp2_with (first
       | (at_builtin; refine wpList_append_own _ rfl (.tmp 32) (.tmp 39) 114 rfl (w.heap.size + 1) 5 i0 (.int .u8 0) 1 1 Tryz.underlying114 hi hz0 hz1 hz2 rfl (by decide) _ (L).length ((L).map fun b : UInt8 => Value.int .u8 (b.toNat : Int)) rfl (World.ownsRow.alloc Hown.out _) ⟨(wr).heap.size, 0, none⟩ 1 1 [.int .u8 ((b1.toNat : Nat) : Int)] rfl rfl (cell_one_new _ _ _) (fun x hx => by simp at hx; subst hx; rfl) (by unfold maxLen; omega) (by omega) (by simp; omega) ?_; intro v2 w2 hown2 hgrow2 _; have hY2 := OwY.push hown2; have hB2 := (Hbel.out.alloc Hbel.out.size _).grown hgrow2 (by simp; omega) (fun k hk => by have := Hown.out.own k hk; omega); have hcell2 := (hB2.cell (p := a.add j) (by rw [block_add]; exact hab)).trans hcell0; have hD2 := (Hwd.out.alloc _).grown hgrow2 Hown.out.own (by omega); have hbw2 : w.heap.size + 1 ≤ w2.heap.size := (by have := hD2.lt; omega))
       | (at_builtin; refine wpList_append_own _ rfl (.tmp 41) (.tmp 48) 114 rfl (w.heap.size + 1) 5 i0 (.int .u8 0) 1 1 Tryz.underlying114 hi hz0 hz1 hz2 rfl (by decide) _ (L ++ [b1]).length ((L ++ [b1]).map fun b : UInt8 => Value.int .u8 (b.toNat : Int)) rfl (World.ownsRow.alloc hY2 _) ⟨(w2).heap.size, 0, none⟩ 1 1 [.int .u8 ((b2.toNat : Nat) : Int)] rfl rfl (cell_one_new _ _ _) (fun x hx => by simp at hx; subst hx; rfl) (by unfold maxLen; omega) (by omega) (by simp; omega) ?_; intro v3 w3 hown3 hgrow3 _; have hY3 := OwY.push hown3; have hB3 := Lib.hid ((hB2.alloc hB2.size _).grown hgrow3 (by simp; omega) (fun k hk => by have := hY2.own k hk; omega)); have hD3 := Lib.hid ((hD2.alloc _).grown hgrow3 hY2.own (by omega))))
      go_roundw
      case rel => exact ⟨j, by omega, by go_num, by rw [hc2.out]; exact hY3, by rw [hc2.out]; simp; omega, hD3.out, hB3.out⟩
      case measure => simp [intOf]
     ·have hc2 := Lib.hid (show canon (qval (E.drop j)) = L ++ [b2] by
       rw [hqd.out, ← Hle.out, List.drop_length, show qval [] = 0 from rfl, canon_one d (by omega) (hlast.out Hle.out.symm), HL0.out, Hb2.out])
      go_wp2_with (at_builtin; refine wpList_append_own _ rfl (.tmp 41) (.tmp 48) 114 rfl (w.heap.size + 1) 5 i0 (.int .u8 0) 1 1 Tryz.underlying114 hi hz0 hz1 hz2 rfl (by decide) _ (L).length ((L).map fun b : UInt8 => Value.int .u8 (b.toNat : Int)) rfl (World.ownsRow.alloc Hown.out _) ⟨(wr).heap.size, 0, none⟩ 1 1 [.int .u8 ((b2.toNat : Nat) : Int)] rfl rfl (cell_one_new _ _ _) (fun x hx => by simp at hx; subst hx; rfl) (by unfold maxLen; omega) (by omega) (by simp; omega) ?_; intro v3 w3 hown3 hgrow3 _; have hY3 := OwY.push hown3; have hB3 := Lib.hid ((Hbel.out.alloc Hbel.out.size _).grown hgrow3 (by simp; omega) (fun k hk => by have := Hown.out.own k hk; omega)); have hD3 := Lib.hid ((Hwd.out.alloc _).grown hgrow3 Hown.out.own (by omega)))
      go_roundw
      case rel => exact ⟨j, by omega, by go_num, by rw [hc2.out]; exact hY3, by rw [hc2.out]; simp; omega, hD3.out, hB3.out⟩
      case measure => simp [intOf]
end Go.Proofs.YtknaghdoffigjaaGreatDoor
namespace Go.Proofs.YtknaghdoffigjaaGreatDoor
open Go.RowKit
def Rz (w : World) (A : Option Addr) (n c N : Nat) : Prop := ∃ D, RdJ w A D ∧ D.length = n ∧ n ≤ c ∧ c ≤ maxLen ∧ Qds D ∧ qval D = N
def sgi (neg : Bool) (N : Nat) : Int := if neg then -(N : Int) else N
theorem wv_of (neg : Bool) (N : Nat) : (.agg #[.bool (neg && decide (N ≠ 0)), .string (bstr (canon N))] : Value) = .agg #[.bool (wneg (sgi neg N)), .string (wmag (sgi neg N))] := by
 rw [← wv_def]
 unfold sgi
 cases neg
 ·rw [if_neg (by decide), wv_nat]; rfl
 ·rw [if_pos rfl, wv_neg]; simp
theorem wint_sgi (x : Bool) (s : ByteArray) : wint x s = sgi x (bval s.data.toList) := rfl
theorem rwide (neg : Bool) (A : Option Addr) (n c N : Nat) (w : World) (h : Rz w A n c N) (hn : n ≤ 1000) (r : Int) (hr : sgi neg N = r) :
  Calls Tryz.prog 103 #[.bool neg, .slice A n c] w fun e w' => e = .returned (.agg #[.bool (wneg r), .string (wmag r)]) ∧ Below w.heap.size w w' := by
 obtain ⟨D, h1, h2, h3, h4, h5, h6⟩ := h
 have := refwide_any neg A n c D w h1 h5 h2 h3 h4 hn
 rw [h6, wv_of, hr] at this
 exact this
set_option maxRecDepth 100000 in
set_option maxHeartbeats 4000000 in
theorem RFrom_any (n : Int) (w : World) (h1 : -9223372036854775808 ≤ n) (h2 : n ≤ 9223372036854775807) :
  Calls Tryz.prog 56 #[.int .i64 n] w fun e w' => e = .returned (.agg #[.bool (wneg n), .string (wmag n)]) ∧ Below w.heap.size w w' := by
 obtain ⟨i0, hi, hz0, hz1, hz2⟩ := info_parts info_int
 obtain ⟨N, hN⟩ : ∃ N, N = n.natAbs := ⟨_, rfl⟩
 have hNb : N ≤ 9223372036854775808 := by omega
 have hu : n < 0 → IntKind.u64.wrap (-IntKind.u64.wrap n) = (N : Int) := fun h => by rw [IntKind.wrap_u64, IntKind.wrap_u64]; omega
 have hp : ¬ n < 0 → n = (N : Int) := fun h => by omega
 have hsg : ∀ b, b = decide (n < 0) → sgi b N = n := fun b e => by
  rw [e]; unfold sgi
  by_cases h : n < 0
  ·rw [decide_eq_true h, if_pos rfl]; omega
  ·rw [decide_eq_false h, if_neg (by decide)]; omega
 have hwd := fun b e A k c W h hn => rwide b A k c N W h hn n (hsg b e)
 generalize wneg n = sg at *
 generalize wmag n = S at *
 have HG := Lib.hid hwd
 have HU := Lib.hid hu
 have HP := Lib.hid hp
 have HD := Lib.hid (Wd.new w false ⟨#[]⟩)
 clear hN hu hp hsg hwd
 by_cases h0 : n < 0
 all_goals go_enter Tryz.func56, Tryz.ntmps56
 all_goals go_wp2
 all_goals first | rw [HU.out h0] | rw [HP.out h0]
 all_goals
  generalize hW1 : w.alloc (wbox false ⟨#[]⟩) = W1 at *
  have HW1 := Lib.hid hW1
  have HB1 := Lib.hid (show Below w.heap.size w W1 by rw [← hW1]; exact (Below.refl _ _).alloc (Nat.le_refl _) _)
  clear hW1
  go_loopw [3, 4] (fun v m wr => ∃ (D : List Nat) (r k : Nat), m = .int .u64 r ∧ D.length = k ∧ k ≤ 4 ∧ r < 65536 ^ (4 - k) ∧ Qds D ∧ qval D + C16 ^ k * r = N ∧ OwJ wr (w.heap.size + 1) v D ∧ Wd wr w.heap.size false ⟨#[]⟩ ∧ Below w.heap.size w wr)
   (fun _ m _ => (intOf m).toNat)
  case atStart => exact ⟨[], N, 0, rfl, rfl, by omega, by rw [show (65536 : Nat) ^ (4 - 0) = 18446744073709551616 from rfl]; omega, Qds.nil, by simp [qval], OwJ.nil _ _, HD.out, HB1.out⟩
  case round =>
   obtain ⟨D, r, k, rfl, hlen, hk, hr, hq, hval, hown, hwd, hbel⟩ := hrel
   have Hval := Lib.hid hval
   have Hown := Lib.hid hown
   have Hwd := Lib.hid hwd
   have Hbel := Lib.hid hbel
   clear hval hown hwd hbel
   have hbw : w.heap.size + 1 ≤ wr.heap.size := by have := Hwd.out.lt; omega
   by_cases hr0 : r = 0
   ·subst hr0
    have hN : qval D = N := by have := Hval.out; simpa using this
    have HN := Lib.hid hN
    obtain ⟨A', c', rfl, hc', hm', hrd, _⟩ := Hown.out.rd
    have hwdd := Lib.hid (fun W hrd b e => HG.out b e A' k c' W ⟨D, hrd, hlen, by omega, hm', hq, HN.out⟩ (by omega))
    clear hN
    go_wp2_with fail
    first
     | with_reducible refine (hwdd.out _ hrd true (decide_eq_true h0).symm).mono ?_
     | with_reducible refine (hwdd.out _ hrd false (decide_eq_false h0).symm).mono ?_
     | with_reducible refine (hwdd.out _ hrd _ rfl).mono ?_
     | with_reducible refine (hwdd.out _ hrd (decide ((N : Int) < 0)) (by rw [HP.out h0])).mono ?_
    rintro e w5 ⟨rfl, hb5⟩
    have hW5 := Hwd.out.below hb5 Hwd.out.lt
    have hz0 := hW5.cell0
    have hz1 := hW5.cell1
    have hzf0 := hW5.frozen 0
    have hzf1 := hW5.frozen 1
    have hB5 := Hbel.out.trans (hb5.mono Hbel.out.size)
    go_wp2
    exact post_wide (b := w.heap.size) rfl rfl ((hW5.set0 _).set1 _) rfl ⟨rfl, (hB5.setCell (Nat.le_refl _) _).setCell (Nat.le_refl _) _⟩
   ·have hk3 : k ≤ 3 := by
     refine Nat.le_of_not_lt fun h => ?_
     have : 4 - k = 0 := by omega
     rw [this] at hr
     omega
    have hrl : r < 18446744073709551616 := Nat.lt_of_lt_of_le hr (by
     have : (65536 : Nat) ^ (4 - k) ≤ 65536 ^ 4 := Nat.pow_le_pow_right (by omega) (by omega)
     simpa using this)
    have hr2 : r / 65536 < 65536 ^ (4 - (k + 1)) := by
     rw [Nat.div_lt_iff_lt_mul (by omega), ← Nat.pow_succ, show (4 - (k + 1)).succ = 4 - k from by omega]
     exact hr
    have hval2 : qval (D ++ [r % 65536]) + C16 ^ (k + 1) * (r / 65536) = N := by
     rw [qval_snoc, hlen, Nat.pow_succ, Nat.mul_assoc, Nat.add_assoc, ← Nat.mul_add, C16_eq, Nat.mod_add_div, ← C16_eq]
     exact Hval.out
    obtain ⟨d, hd⟩ : ∃ d : Nat, d = r % 65536 := ⟨_, rfl⟩
    obtain ⟨r2, hr2'⟩ : ∃ r2 : Nat, r2 = r / 65536 := ⟨_, rfl⟩
    have e1 : (r : Int) % 65536 = (d : Int) := by omega
    have e2 : (r : Int) / 65536 = (r2 : Int) := by omega
    have hdl : d < 65536 := by omega
    have hrr : r2 < r := by omega
    rw [← hd, ← hr2'] at hval2
    rw [← hr2'] at hr2
    have Hval2 := Lib.hid hval2
    have Hr2 := Lib.hid hr2
    clear hval2 hd hr2' hr2 hr
    go_wp2_with (at_builtin; refine wpList_append_own _ rfl (.tmp 13) (.tmp 17) 25 rfl (w.heap.size + 1) 3 i0 (.int .i64 0) 1 8 Tryz.underlying25 hi hz0 hz1 hz2 rfl (by decide) _ D.length (D.map fun x : Nat => Value.int .i64 (x : Int)) rfl (World.ownsRow.alloc Hown.out _) ⟨wr.heap.size, 0, none⟩ 1 1 [.int .i64 ((d : Nat) : Int)] rfl rfl (cell_one_new _ _ _) (fun x hx => by simp at hx; subst hx; rfl) (by unfold maxLen; omega) (by omega) (by simp; omega) ?_; intro v2 w2 hown2 hgrow2 _)
    go_roundw
    case rel => exact ⟨D ++ [d], r2, k + 1, by first | rfl | rw [e2], by simp [hlen], by omega, Hr2.out, hq.snoc (by rw [C16_eq]; exact hdl), Hval2.out, OwJ.push hown2, (Hwd.out.alloc _).grown hgrow2 Hown.out.own (by omega), (Hbel.out.alloc Hbel.out.size _).grown hgrow2 (by simp; omega) (fun k hk => by have := Hown.out.own k hk; omega)⟩
    case measure => simp [intOf]; omega
end Go.Proofs.YtknaghdoffigjaaGreatDoor
namespace Go.Proofs.YtknaghdoffigjaaGreatDoor
open Go.RowKit Go
section
variable {P : Program} {ops : Array Oper} {Q : Exit → Act → World → Prop}
def ActStep (P : Program) (ops : Array Oper) (Q : Exit → Act → World → Prop) {X : Type} (T : X → (Nat → Bool) → Act) (J : X → (Nat → Bool) → World → Prop) (i : Nat) (o : Oper) : Prop :=
 ∀ (L : Nat → Bool) (x : X) (w : World), J x L w → L i = false → (∀ e ∈ o.after, Region.binds .any e = true → L e.on = true) →
  (∀ j oj, ops[j]? = some oj → (oj.after.any fun e => Region.binds .any e && e.on == i) = true → L j = false) →
  ∀ K : Act → World → Prop, RowKit.Hid (∀ (x' : X) (a' : Act) (w' : World), a' = T x' (fun j => if j = i then true else L j) → J x' (fun j => if j = i then true else L j) w' → K a' w') →
   if Region.wanted o (yielded ops (T x L).tmps) = true then Oper.wp P o (T x L) w K Q else K ((T x L).put o.dst undef) w
def ActSteps (P : Program) (ops : Array Oper) (Q : Exit → Act → World → Prop) {X : Type} (T : X → (Nat → Bool) → Act) (J : X → (Nat → Bool) → World → Prop) : Nat → List Oper → Prop
 | _, [] => True
 | i, o :: os => ActStep P ops Q T J i o ∧ ActSteps P ops Q T J (i + 1) os
theorem ActSteps.nil {X : Type} {T : X → (Nat → Bool) → Act} {J : X → (Nat → Bool) → World → Prop} {i : Nat} : ActSteps P ops Q T J i [] := trivial
theorem ActSteps.cons {X : Type} {T : X → (Nat → Bool) → Act} {J : X → (Nat → Bool) → World → Prop} {i : Nat} {o : Oper} {os : List Oper} (h : ActStep P ops Q T J i o) (hs : ActSteps P ops Q T J (i + 1) os) : ActSteps P ops Q T J i (o :: os) := ⟨h, hs⟩
theorem ActSteps.facts {X : Type} {lst : X → List (Nat × Nat × Value)} {J : X → (Nat → Bool) → World → Prop} {a : Act} : ∀ (os : List Oper) (i : Nat), ActSteps P ops Q (fun x L => selA L (lst x) a) J i os → FactSteps P ops Q lst J a i os
 | [], _, _ => FactSteps.nil
 | _ :: os, i, h => FactSteps.cons h.1 (ActSteps.facts os (i + 1) h.2)
theorem wp_region_acts {X : Type} (lst : X → List (Nat × Nat × Value)) (J : X → (Nat → Bool) → World → Prop) {id : Nat} {a : Act} {w : World} (hm : P.follows .mixedOrders = true) (hlow : Region.lowB .any ops = true)
  (x0 : X) (h0 : J x0 (fun j => decide (ops.size ≤ j)) w.drew) (ha : selA (fun j => decide (ops.size ≤ j)) (lst x0) a = a)
  (hstep : ActSteps P ops Q (fun x L => selA L (lst x) a) J 0 ops.toList)
  (hend : ∀ x w, J x (fun _ => true) w → Q .normal (selA (fun _ => true) (lst x) a) w) : (Code.region id ops true).wp P Q a w :=
 wp_region_facts lst J hm hlow x0 h0 ha (ActSteps.facts _ _ hstep) hend
end
end Go.Proofs.YtknaghdoffigjaaGreatDoor
