/-
  The contract of the reference's digits: the digits to the base 65536 of an absolute value.
-/
import Derived.Test.YtgadnianjhaeiaaDoorRMem
import Derived.Test.YtgadnianjhaeiaaDoorNumW
namespace Go.Proofs.YtgadnianjhaeiaaDoor
open Go.RowKit

theorem Qds.snoc {l : List Nat} {x : Nat} (h : Qds l) (hx : x < C16) : Qds (l ++ [x]) := by
  intro y hy
  rcases List.mem_append.1 hy with hy | hy
  · exact h y hy
  · rw [List.mem_singleton.1 hy]; exact hx
/-- What the call returns reads as this list; what was there is as it was. -/
def RetJ (w w' : World) (e : Ending) (zs : List Nat) : Prop := ∃ A c, e = .returned (.slice A zs.length c) ∧ zs.length ≤ c ∧ c ≤ maxLen ∧ RdJ w' A zs ∧ Below w.heap.size w w' ∧ (A = none → c = 0)

theorem info_int : (Tryd.prog.info? 3).map (fun i => (i.zero, i.size, i.bytes)) = some (some (.int .i64 0), 1, 8) := by kernel_rfl

/-- A slice of ints that the call made by appending. -/
def OwJ (w : World) (B : Nat) (v : Value) (xs : List Nat) : Prop := w.ownsRow B 3 1 v xs.length (xs.map fun x : Nat => Value.int .i64 (x : Int))
theorem OwJ.nil (w : World) (B : Nat) : OwJ w B (.slice none 0 0) [] := World.ownsRow_nil _ _ _ _
theorem OwJ.rd {w : World} {B : Nat} {v : Value} {xs : List Nat} (h : OwJ w B v xs) : ∃ A c, v = .slice A xs.length c ∧ xs.length ≤ c ∧ c ≤ maxLen ∧ RdJ w A xs ∧ (A = none → c = 0) := by
  rcases h.2 with ⟨rfl, h0⟩ | ⟨g, cap, cur, rfl, hb, hh, hnc, hcm, hcs, hct⟩
  · obtain rfl : xs = [] := List.length_eq_zero_iff.1 h0
    exact ⟨none, 0, rfl, by simp, by simp, RdJ.nil _ _, fun _ => rfl⟩
  · refine ⟨_, _, rfl, hnc, hcm, fun k hk => ⟨_, rfl, ?_, ?_⟩, fun h => by cases h⟩
    · rcases Nat.lt_or_ge g w.heap.size with hlt | hge
      · exact hlt
      · rw [Array.getElem?_eq_none hge] at hh; cases hh
    · have e : (⟨g, 0, none⟩ : Addr).add k = ⟨g, k, none⟩ := by
        unfold Addr.add
        by_cases h0 : k = 0 <;> simp [h0]
      rw [e, cell_of_row w g k cur _ (0, 0) hh]
      have h2 := congrArg (fun l : List Value => l[k]?) hct
      change (cur.toList.take (xs.length * 1))[k]? = (xs.map fun x : Nat => Value.int .i64 (x : Int))[k]? at h2
      rw [List.getElem?_take_of_lt (by omega), Array.getElem?_toList] at h2
      rw [h2]
      simp [List.getD_eq_getElem?_getD, hk]

theorem OwJ.own {w : World} {B : Nat} {v : Value} {xs : List Nat} (h : OwJ w B v xs) (k : Nat) (hk : v.ownBlock = some k) : B ≤ k := by
  rcases h.2 with ⟨rfl, _⟩ | ⟨g, cap, cur, rfl, hb, _⟩
  · cases hk
  · injection hk with hk
    exact hk ▸ hb
theorem OwJ.push {w : World} {B d : Nat} {v : Value} {xs : List Nat} (h : w.ownsRow B 3 1 v (xs.length + 1) ((xs.map fun x : Nat => Value.int .i64 (x : Int)) ++ [.int .i64 (d : Int)])) : OwJ w B v (xs ++ [d]) := by
  unfold OwJ
  rw [List.length_append, List.length_singleton, List.map_append]
  exact h
theorem Wd.grown {w w' : World} {b B : Nat} {x : Bool} {s : ByteArray} {row : Option Nat} (h : Wd w b x s) (hg : w.grownBy w' row) (hr : ∀ k, row = some k → B ≤ k) (hb : b < B) : Wd w' b x s :=
  h.block (hg.block b h.lt (fun e => by have := hr b e.symm; omega))

/-- One more digit in front of the bytes that are left. -/
theorem dig_two (l : List UInt8) (k : Nat) (h : k + 1 < l.length) : bval (l.take (k + 2)) = bval (l.take k) * 65536 + ((l[k + 1]'h).toNat + 256 * (l[k]'(by omega)).toNat) := by
  rw [List.take_succ_eq_append_getElem h, bval_snoc, List.take_succ_eq_append_getElem (by omega), bval_snoc]
  omega
theorem dig_one (l : List UInt8) (h : 0 < l.length) : bval (l.take 1) = (l[0]'h).toNat := by
  rw [List.take_succ_eq_append_getElem h, bval_snoc]
  simp [bval]
theorem dig_step (D : List Nat) (N m d r : Nat) (h : qval D + C16 ^ D.length * m = N) (hm : m = r * 65536 + d) : qval (D ++ [d]) + C16 ^ (D ++ [d]).length * r = N := by
  rw [qval_snoc, List.length_append, List.length_singleton, Nat.pow_succ, ← h, hm, C16_eq, Nat.mul_add, Nat.mul_assoc, Nat.mul_comm 65536 r]
  omega

theorem RetJ.trimmed {w w' : World} {A : Option Addr} {c N : Nat} {D : List Nat} (h : RdJ w' A D) (hq : Qds D) (hN : qval D = N) (hc : D.length ≤ c) (hm : c ≤ maxLen) (hb : Below w.heap.size w w') (hA : A = none → c = 0) :
    RetJ w w' (.returned (.slice A (ptrim D).length c)) (qds N) := by
  have e := ptrim_qds hq
  rw [hN] at e
  have h1 := h.take (ptrim D).length
  rw [← ptrim_eq_take] at h1
  have h2 : (ptrim D).length ≤ D.length := by
    have := congrArg List.length (ptrim_eq_take D)
    rw [List.length_take] at this
    omega
  rw [← e]
  exact ⟨A, c, rfl, by omega, hm, h1, hb, hA⟩

set_option maxRecDepth 100000 in
set_option maxHeartbeats 1000000 in
theorem refdigits_any (x : Bool) (s : ByteArray) (w : World) (hs : s.size ≤ 1000) :
    Calls Tryd.prog 48 #[.agg #[.bool x, .string s]] w fun e w' => RetJ w w' e (qds (bval s.data.toList)) := by
  obtain ⟨i0, hi, hz0, hz1, hz2⟩ := info_parts info_int
  have hD := Wd.new w x s
  generalize hW1 : w.alloc (wbox x s) = W1 at *
  have hB1 : Below w.heap.size w W1 := by rw [← hW1]; exact (Below.refl _ _).alloc (Nat.le_refl _) _
  have hs1 : W1.heap.size = w.heap.size + 1 := by rw [← hW1]; simp
  have hc1 := hD.cell1
  have HW1 := Lib.hid hW1
  clear hW1
  obtain ⟨l, hl⟩ : ∃ l, l = s.data.toList := ⟨_, rfl⟩
  have hln : l.length = s.size := by rw [hl]; simp
  have Hl := Lib.hid hl
  have Hln := Lib.hid hln
  clear hl hln
  go_enter Tryd.func48, Tryd.ntmps48
  go_wp2_with fail
  rw [HW1.out]
  have Hs1 := Lib.hid hs1
  have HB1 := Lib.hid hB1
  clear hs1 hc1 hB1
  go_loopw [3, 5] (fun v i wr => ∃ (D : List Nat) (k : Nat), (i = .int .i64 k ∨ (k = 0 ∧ i = .int .i64 (-1))) ∧ k ≤ s.size ∧ D.length + k ≤ s.size + 1 ∧ Qds D ∧ qval D + C16 ^ D.length * bval (l.take k) = bval l ∧ OwJ wr (w.heap.size + 1) v D ∧ Wd wr w.heap.size x s ∧ Below w.heap.size w wr)
    (fun _ i _ => (intOf i).toNat)
  case atStart => exact ⟨[], s.size, .inl rfl, Nat.le_refl _, by simp, Qds.nil, by simp [qval, Hln.out.symm], OwJ.nil _ _, hD, HB1.out⟩
  case round =>
    obtain ⟨D, k, hik, hkn, hlen, hq, hval, hown, hwd, hbel⟩ := hrel
    have hc1 := hwd.cell1
    have Hval := Lib.hid hval
    have Hown := Lib.hid hown
    have Hwd := Lib.hid hwd
    have Hbel := Lib.hid hbel
    clear hval hown hwd hbel
    match k with
    | 0 =>
      have hN : qval D = bval l := by have := Hval.out; simpa [bval_nil] using this
      obtain ⟨A, c, rfl, hc, hm, hrd, hAn⟩ := Hown.out.rd
      have HN := Lib.hid hN
      clear hN
      rcases hik with rfl | ⟨_, rfl⟩
      all_goals
        go_wp2_with fail
        with_reducible refine (reftrim_any A _ c D wr rfl hrd hc hm).mono ?_
        rintro e w' ⟨rfl, rfl⟩
        go_wp2
        go_ret
        exact RetJ.trimmed hrd hq (HN.out.trans (by rw [Hl.out])) hc hm Hbel.out hAn
    | 1 =>
      have hik := hik.resolve_right (fun h => by omega)
      subst hik
      have h0 : 0 < s.size := by omega
      have hbw : w.heap.size + 1 ≤ wr.heap.size := by have := Hwd.out.lt; omega
      have hd2 : s[0].toNat < 256 := s[0].toNat_lt
      have hst := Lib.hid (dig_step D (bval l) (bval (l.take 1)) s[0].toNat 0 Hval.out (by
        rw [dig_one l (by have := Hln.out; omega)]; simp [Hl.out]; rfl))
      rw [show ((1 : Nat) : Int) = 1 from rfl]
      go_wp2_with (at_builtin; refine wpList_append_own _ rfl (.tmp 32) (.tmp 34) 61 rfl (w.heap.size + 1) 3 i0 (.int .i64 0) 1 8 Tryd.underlying61 hi hz0 hz1 hz2 rfl (by decide) _ D.length (D.map fun x : Nat => Value.int .i64 (x : Int)) rfl (World.ownsRow.alloc Hown.out _) ⟨wr.heap.size, 0, none⟩ 1 1 [.int .i64 ((s[0].toNat : Nat) : Int)] rfl rfl (cell_one_new _ _ _) (fun x hx => by simp at hx; subst hx; rfl) (by unfold maxLen; omega) (by omega) (by simp; omega) ?_; intro v2 w2 hown2 hgrow2 _)
      go_roundw
      case rel => exact ⟨D ++ [s[0].toNat], 0, .inr ⟨rfl, by go_num⟩, by omega, by rw [List.length_append, List.length_singleton]; omega, hq.snoc (by rw [C16_eq]; omega), by have := hst.out; simpa [bval_nil] using this, OwJ.push hown2,
        (Hwd.out.alloc _).grown hgrow2 Hown.out.own (by omega), (Hbel.out.alloc Hbel.out.size _).grown hgrow2 (by simp; omega) (fun k hk => by have := Hown.out.own k hk; omega)⟩
      case measure => simp [intOf]
    | k + 2 =>
      have hik := hik.resolve_right (fun h => by omega)
      subst hik
      have h0 : k + 1 < s.size := by omega
      have hbw : w.heap.size + 1 ≤ wr.heap.size := by have := Hwd.out.lt; omega
      have hd1 : s[k].toNat < 256 := s[k].toNat_lt
      have hd2 : s[k + 1].toNat < 256 := s[k + 1].toNat_lt
      have hst := Lib.hid (dig_step D (bval l) (bval (l.take (k + 2))) (s[k + 1].toNat + 256 * s[k].toNat) (bval (l.take k)) Hval.out (by
        rw [dig_two l k (by have := Hln.out; omega)]; simp [Hl.out]; rfl))
      go_wp2_with (at_builtin; refine wpList_append_own _ rfl (.tmp 32) (.tmp 34) 61 rfl (w.heap.size + 1) 3 i0 (.int .i64 0) 1 8 Tryd.underlying61 hi hz0 hz1 hz2 rfl (by decide) _ D.length (D.map fun x : Nat => Value.int .i64 (x : Int)) rfl (World.ownsRow.alloc Hown.out _) ⟨wr.heap.size, 0, none⟩ 1 1 [.int .i64 ((s[k + 1].toNat + 256 * s[k].toNat : Nat) : Int)] rfl rfl (cell_one_new _ _ _) (fun x hx => by simp at hx; subst hx; rfl) (by unfold maxLen; omega) (by omega) (by simp; omega) ?_; intro v2 w2 hown2 hgrow2 _)
      go_roundw
      case rel => exact ⟨D ++ [s[k + 1].toNat + 256 * s[k].toNat], k, .inl rfl, by omega, by rw [List.length_append, List.length_singleton]; omega, hq.snoc (by rw [C16_eq]; omega), hst.out, OwJ.push hown2,
        (Hwd.out.alloc _).grown hgrow2 Hown.out.own (by omega), (Hbel.out.alloc Hbel.out.size _).grown hgrow2 (by simp; omega) (fun k hk => by have := Hown.out.own k hk; omega)⟩
      case measure => simp [intOf]; omega
end Go.Proofs.YtgadnianjhaeiaaDoor
