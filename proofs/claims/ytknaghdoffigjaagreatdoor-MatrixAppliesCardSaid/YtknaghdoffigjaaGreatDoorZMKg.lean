import Derived.Test.YtknaghdoffigjaaGreatDoorMLaw
import Derived.Test.YtknaghdoffigjaaGreatDoorMPivot
import Derived.Test.YtknaghdoffigjaaGreatDoorMRes
set_option linter.unusedSimpArgs false
set_option linter.unusedVariables false
set_option linter.unnecessarySimpa false
namespace Go.Proofs.YtknaghdoffigjaaGreatDoor
open Go.RowKit Go
def Kg (row : Option Nat) (w0 w : World) (l : List (Option (Nat × Obj))) : Prop :=
 w0.grownBy w row ∧ (∀ (i b : Nat) (o : Obj), l[i]? = some (some (b, o)) → w0.heap.size ≤ b ∧ w.heap[b]? = some o) ∧
 ∀ (i j b c : Nat) (o p : Obj), l[i]? = some (some (b, o)) → l[j]? = some (some (c, p)) → i ≠ j → b ≠ c
theorem grown_set {row : Option Nat} {w0 w : World} (h : w0.grownBy w row) {p : Addr} (hp : w0.heap.size ≤ p.block) (v : Value) : w0.grownBy (w.setCell p v) row :=
 ⟨h.os, h.tape, h.output, by have := h.size; simpa [World.setCell] using this, fun i hi hne => (Below.heap_setCell w p v i (by omega)).trans (h.block i hi hne)⟩
section
variable {row : Option Nat} {w0 w w' : World} {l : List (Option (Nat × Obj))}
theorem Kg.none_ (row : Option Nat) (w : World) (n : Nat) : Kg row w w (List.replicate n none) := by
 have h : ∀ (i b : Nat) (o : Obj), (List.replicate n (none : Option (Nat × Obj)))[i]? = some (some (b, o)) → False := fun i b o h => by
  rw [List.getElem?_replicate] at h
  split at h <;> cases h
 exact ⟨World.grownBy.refl _ _, fun i b o hi => (h i b o hi).elim, fun i j b c o p hi _ _ => (h i b o hi).elim⟩
theorem Kg.lt (h : Kg row w0 w l) (i : Nat) {b : Nat} {o : Obj} (hi : l[i]? = some (some (b, o))) : b < w.heap.size := (Array.getElem?_eq_some_iff.1 (h.2.1 i b o hi).2).1
theorem Kg.at_ (h : Kg row w0 w l) (i : Nat) {b : Nat} {o : Obj} (hi : l[i]? = some (some (b, o))) : w.heap[b]? = some o := (h.2.1 i b o hi).2
theorem Kg.ge (h : Kg row w0 w l) (i : Nat) {b : Nat} {o : Obj} (hi : l[i]? = some (some (b, o))) : w0.heap.size ≤ b := (h.2.1 i b o hi).1
theorem Kg.ne (h : Kg row w0 w l) (i j : Nat) {b c : Nat} {o p : Obj} (hi : l[i]? = some (some (b, o))) (hj : l[j]? = some (some (c, p))) (hij : i ≠ j) : b ≠ c := h.2.2 i j b c o p hi hj hij
theorem Kg.cast (h : Kg row w0 w l) {l' : List (Option (Nat × Obj))} (e : l = l') : Kg row w0 w l' := e ▸ h
theorem Kg.step (h : Kg row w0 w l) (hb : Below w.heap.size w w') : Kg row w0 w' l :=
 ⟨grown_below h.1 hb, fun i b o hi => ⟨h.ge i hi, (hb.block b (h.lt i hi)).trans (h.at_ i hi)⟩, h.2.2⟩
theorem Kg.drew (h : Kg row w0 w l) : Kg row w0 w.drew l := ⟨⟨h.1.os, h.1.tape, h.1.output, h.1.size, h.1.block⟩, h.2.1, h.2.2⟩
theorem Kg.alloc (h : Kg row w0 w l) (o : Obj) : Kg row w0 (w.alloc o) l := h.step ((Below.refl _ _).alloc (Nat.le_refl _) o)
theorem Kg.new (h : Kg row w0 w l) (i : Nat) (o : Obj) (hi : l[i]? = some none) : Kg row w0 (w.alloc o) (l.set i (some (w.heap.size, o))) := by
 have hl : i < l.length := (List.getElem?_eq_some_iff.1 hi).1
 have ht : ∀ (j b : Nat) (p : Obj), (l.set i (some (w.heap.size, o)))[j]? = some (some (b, p)) → (j = i ∧ b = w.heap.size ∧ p = o) ∨ (j ≠ i ∧ l[j]? = some (some (b, p))) := fun j b p hj => by
  by_cases hij : i = j
  ·subst hij
   rw [List.getElem?_set_self hl] at hj
   simp at hj
   exact .inl ⟨rfl, hj.1.symm, hj.2.symm⟩
  ·rw [List.getElem?_set_ne hij] at hj
   exact .inr ⟨fun e => hij e.symm, hj⟩
 refine ⟨grown_below h.1 ((Below.refl _ _).alloc (Nat.le_refl _) _), fun j b p hj => ?_, fun j k b c p q hj hk hjk => ?_⟩
 ·rcases ht j b p hj with ⟨_, rfl, rfl⟩ | ⟨_, e⟩
  ·exact ⟨h.1.size, heap_alloc_new w _⟩
  ·exact ⟨h.ge j e, (Below.heap_alloc w o b (h.lt j e)).trans (h.at_ j e)⟩
 ·rcases ht j b p hj with ⟨rfl, rfl, rfl⟩ | ⟨hne, e⟩
  ·rcases ht k c q hk with ⟨rfl, rfl, rfl⟩ | ⟨hne2, e2⟩
   ·exact absurd rfl hjk
   ·exact Nat.ne_of_gt (h.lt k e2)
  ·rcases ht k c q hk with ⟨rfl, rfl, rfl⟩ | ⟨hne2, e2⟩
   ·exact Nat.ne_of_lt (h.lt j e)
   ·exact h.2.2 j k b c p q e e2 hjk
theorem Kg.put (h : Kg row w0 w l) (i k : Nat) {b : Nat} {cs : Array Value} {ty : TypeId} (hi : l[i]? = some (some (b, .cells cs ty (0, 0)))) (v : Value) :
  Kg row w0 (w.setCell ⟨b, k, none⟩ v) (l.set i (some (b, .cells (cs.setIfInBounds k v) ty (0, 0)))) := by
 have hl : i < l.length := (List.getElem?_eq_some_iff.1 hi).1
 have ht : ∀ (j c : Nat) (p : Obj), (l.set i (some (b, .cells (cs.setIfInBounds k v) ty (0, 0))))[j]? = some (some (c, p)) → (j = i ∧ c = b ∧ p = .cells (cs.setIfInBounds k v) ty (0, 0)) ∨ (j ≠ i ∧ l[j]? = some (some (c, p))) := fun j c p hj => by
  by_cases hij : i = j
  ·subst hij
   rw [List.getElem?_set_self hl] at hj
   simp at hj
   exact .inl ⟨rfl, hj.1.symm, hj.2.symm⟩
  ·rw [List.getElem?_set_ne hij] at hj
   exact .inr ⟨fun e => hij e.symm, hj⟩
 have hat := h.at_ i hi
 refine ⟨grown_set h.1 (by simpa using h.ge i hi) v, fun j c p hj => ?_, fun j j2 c d p q hj hk hjk => ?_⟩
 ·rcases ht j c p hj with ⟨rfl, rfl, rfl⟩ | ⟨hne, e⟩
  ·refine ⟨h.ge j hi, ?_⟩
   simp [World.setCell, Array.getElem?_modify, hat]
  ·exact ⟨h.ge j e, (Below.heap_setCell w _ v c (by simpa using h.ne j i e hi hne)).trans (h.at_ j e)⟩
 ·rcases ht j c p hj with ⟨rfl, rfl, rfl⟩ | ⟨hne, e⟩
  ·rcases ht j2 d q hk with ⟨rfl, rfl, rfl⟩ | ⟨hne2, e2⟩
   ·exact absurd rfl hjk
   ·exact h.ne _ _ hi e2 hjk
  ·rcases ht j2 d q hk with ⟨rfl, rfl, rfl⟩ | ⟨hne2, e2⟩
   ·exact h.ne _ _ e hi hjk
   ·exact h.ne _ _ e e2 hjk
theorem Kg.cell (h : Kg row w0 w l) (i k : Nat) {b : Nat} {cs : Array Value} {ty : TypeId} {fr : Nat × Nat} {v : Value} (hi : l[i]? = some (some (b, .cells cs ty fr))) (hk : cs[k]? = some v) : w.cell? ⟨b, k, none⟩ = some v := by
 rw [cell_of_row w b k _ _ _ (h.at_ i hi)]; exact hk
theorem Kg.frozen (h : Kg row w0 w l) (i k : Nat) {b : Nat} {cs : Array Value} {ty : TypeId} (hi : l[i]? = some (some (b, .cells cs ty (0, 0)))) : w.frozen? ⟨b, k, none⟩ = false := by
 simp [World.frozen?, h.at_ i hi]
theorem Kg.grown (h : Kg row w0 w l) (hb : w.grownBy w' row) (hr : ∀ k, row = some k → k < w0.heap.size) : Kg row w0 w' l :=
 ⟨grown_trans2 h.1 hb, fun i b o hi => ⟨h.ge i hi, (hb.block b (h.lt i hi) (fun e => by have := hr b e.symm; have := h.ge i hi; omega)).trans (h.at_ i hi)⟩, h.2.2⟩
theorem Kg.later {B : Nat} (h : Kg row w0 w l) (hl : Later B w w') (hB : w0.heap.size ≤ B) (hc : ∀ (i b : Nat) (o : Obj), l[i]? = some (some (b, o)) → o.isCells = true) : Kg row w0 w' l :=
 ⟨⟨hl.1.os.trans h.1.os, hl.1.tape.trans h.1.tape, hl.1.output.trans h.1.output, Nat.le_trans h.1.size hl.1.size, fun i hi hne => (hl.1.block i (by omega)).trans (h.1.block i hi hne)⟩,
  fun i b o hi => ⟨h.ge i hi, hl.2 _ _ (h.at_ i hi) (hc i b o hi)⟩, h.2.2⟩
theorem Kg.take (h : Kg row w0 w l) (n : Nat) : Kg row w0 w (l.take n) := by
 have ht : ∀ (i : Nat) (p : Option (Nat × Obj)), (l.take n)[i]? = some p → l[i]? = some p := fun i p hi => by
  rw [List.getElem?_take] at hi
  split at hi
  ·exact hi
  ·cases hi
 exact ⟨h.1, fun i b o hi => h.2.1 i b o (ht i _ hi), fun i j b c o p hi hj => h.2.2 i j b c o p (ht i _ hi) (ht j _ hj)⟩
def allCells (l : List (Option (Nat × Obj))) : Bool := l.all fun x => match x with | some (_, o) => o.isCells | none => true
theorem Kg.later' {B : Nat} (h : Kg row w0 w l) (hl : Later B w w') (hB : w0.heap.size ≤ B) (hc : allCells l = true) : Kg row w0 w' l :=
 h.later hl hB fun i b o hi => by
  have := (List.all_eq_true.1 hc) _ (List.mem_of_getElem? hi)
  exact this
end
end Go.Proofs.YtknaghdoffigjaaGreatDoor
namespace Go.Proofs.YtknaghdoffigjaaGreatDoor
open Go.RowKit Go
def invM (p n : Nat) : Int := (gcdS (n : Int) (p : Int)).2.1 % (p : Int)
theorem gcdS_coef (p n : Nat) (hp : 0 < p) (hn : n < p) : 0 ≤ (gcdS (n : Int) (p : Int)).2.1 ∧ (gcdS (n : Int) (p : Int)).2.1 < p ∧ (gcdS (n : Int) (p : Int)).1 ≤ p ∧ 0 ≤ (gcdS (n : Int) (p : Int)).1 := by
 unfold gcdS
 rw [if_neg (by omega)]
 have e : ((n : Int) % ((p : Int).natAbs : Int)) = n := by rw [Int.natAbs_natCast]; exact Int.emod_eq_of_lt (by omega) (by omega)
 have e2 : (((p : Int).natAbs : Nat) : Int) = p := by simp
 rw [e, e2]
 obtain ⟨h1, h2, h3, h4, h5, h6⟩ := inv_spec (n : Int) (p : Int) (by omega) (by omega)
 refine ⟨h5, ?_, Int.le_of_dvd (by omega) h3, by omega⟩
 dsimp only
 have : (inv (n : Int) (p : Int)).2 * 1 ≤ (inv (n : Int) (p : Int)).2 * (inv (n : Int) (p : Int)).1 := Int.mul_le_mul_of_nonneg_left h1 h5
 omega
def entW (s a : Bool) (b : Nat) (x : Bool) (t : ByteArray) : Option (Nat × Obj) := if a = true then some (b, if s = true then wbox x t else wbox false ⟨#[]⟩) else none
theorem entW_no (s : Bool) (b : Nat) (x : Bool) (t : ByteArray) : entW s false b x t = none := rfl
theorem entW_new (b : Nat) (x : Bool) (t : ByteArray) : entW false true b x t = some (b, wbox false ⟨#[]⟩) := rfl
theorem entW_full (b : Nat) (x : Bool) (t : ByteArray) : entW true true b x t = some (b, wbox x t) := rfl
set_option maxRecDepth 100000 in
set_option maxHeartbeats 4000000 in
theorem inverse_any (p n : Nat) (w : World) (hp : 0 < p) (hp2 : p < 2147483648) (hn : n < p) :
  Calls Tryz.prog 106 #[mmod p, .int .u64 (n : Int)] w fun e w' => e = .returned (.int .u64 (invM p n)) ∧ Below w.heap.size w w' := by
 have hco := gcdS_coef p n hp hn
 have sc := wmag_size (gcdS (n : Int) (p : Int)).2.1 7 (by rw [pow7]; omega)
 have hr := fun W => residue_any p (wneg (gcdS (n : Int) (p : Int)).2.1) (wmag (gcdS (n : Int) (p : Int)).2.1) W hp hp2 (by omega) _ (wint_wv' _)
 have hf := fun W => From_any (p : Int) W (by omega) (by omega)
 have hfn := fun W => From_any (n : Int) W (by omega) (by omega)
 rw [wv_def] at hf hfn
 have sp := wmag_size (p : Int) 7 (by rw [pow7]; omega)
 have sn := wmag_size (n : Int) 7 (by rw [pow7]; omega)
 have hg := fun W => Gcd_any (wneg (n : Int)) (wneg (p : Int)) (wmag (n : Int)) (wmag (p : Int)) W (by omega) (by omega) (n : Int) (p : Int) (wint_wv' _) (wint_wv' _)
 unfold invM mmod at *
 generalize ((18446744073709551615 / p : Nat) : Int) = q at *
 have w1 : IntKind.i64.wrap (p : Int) = p := IntWalk.i64_in _ (by omega)
 have w2 : IntKind.i64.wrap (n : Int) = n := IntWalk.i64_in _ (by omega)
 generalize (gcdS (n : Int) (p : Int)).2.1 % (p : Int) = r at *
 generalize wneg (gcdS (n : Int) (p : Int)).1 = x1 at *
 generalize wmag (gcdS (n : Int) (p : Int)).1 = s1 at *
 generalize wneg (gcdS (n : Int) (p : Int)).2.1 = x2 at *
 generalize wmag (gcdS (n : Int) (p : Int)).2.1 = s2 at *
 generalize wneg (gcdS (n : Int) (p : Int)).2.2 = x3 at *
 generalize wmag (gcdS (n : Int) (p : Int)).2.2 = s3 at *
 generalize wneg (n : Int) = xn at *
 generalize wmag (n : Int) = sn' at *
 generalize wneg (p : Int) = xp at *
 generalize wmag (p : Int) = sp' at *
 have HR := Lib.hid hr
 have HF := Lib.hid hf
 have HN := Lib.hid hfn
 have HG := Lib.hid hg
 clear hr hf hfn hg hco sc sp sn
 have hK0 := (Kb.none_ w 1).new 0 (.cells #[.int .u64 (p : Int), .int .u64 q] 82 (0, 0)) rfl
 have hK1 : Kb w _ [some (w.heap.size, .cells #[.int .u64 (p : Int), .int .u64 q] 82 (0, 0)), none, none, none] := ⟨hK0.1, fun i b o h => by
  match i with
  | 0 => exact hK0.2.1 0 b o h
  | 1 => cases h
  | 2 => cases h
  | 3 => cases h
  | i + 4 => simp at h, fun i j b c o o2 h1 h2 hij => by
  match i, j with
  | 0, 0 => exact absurd rfl hij
  | 0, 1 => cases h2
  | 0, 2 => cases h2
  | 0, 3 => cases h2
  | 0, j + 4 => simp at h2
  | 1, _ => cases h1
  | 2, _ => cases h1
  | 3, _ => cases h1
  | i + 4, _ => simp at h1⟩
 clear hK0
 go_enter Tryz.func106, Tryz.ntmps106
 generalize hb2 : w.heap.size = b2 at *
 go_wp2_with fail
 generalize w.alloc (.cells #[.int .u64 (p : Int), .int .u64 q] 82) = W1 at *
 have HK := Lib.hid hK1
 clear hK1
 go_cut [6] (fun s6 wx => ∃ b6, s6 = .pointer (some ⟨b6, 0, none⟩) ∧ Wd wx b6 x2 s2 ∧ Ob wx b2 (p : Int) q ∧ Below b2 w wx)
 case first =>
  refine wp_region_facts (X := Nat × Nat × Nat) (fun x => [(0, 9, .int .u64 (n : Int)), (1, 10, .int .i64 (n : Int)), (2, 11, .agg #[.bool xn, .string sn']), (3, 12, .pointer (some ⟨b2, 0, none⟩)), (4, 13, .int .u64 (p : Int)), (5, 14, .int .i64 (p : Int)), (6, 15, .agg #[.bool xp, .string sp']),
    (7, 16, .tuple #[.agg #[.bool x1, .string s1], .agg #[.bool x2, .string s2], .agg #[.bool x3, .string s3]]), (8, 8, .tuple #[.agg #[.bool x1, .string s1], .agg #[.bool x2, .string s2], .agg #[.bool x3, .string s3]]),
    (9, 17, .agg #[.bool x1, .string s1]), (10, 18, .agg #[.bool x2, .string s2]), (11, 19, .agg #[.bool x3, .string s3]), (12, 5, .pointer (some ⟨x.1, 0, none⟩)), (13, 6, .pointer (some ⟨x.2.1, 0, none⟩)), (14, 7, .pointer (some ⟨x.2.2, 0, none⟩))])
   (fun x L wx => Kb w wx [some (b2, .cells #[.int .u64 (p : Int), .int .u64 q] 82 (0, 0)), entW (L 15) (L 12) x.1 x1 s1, entW (L 16) (L 13) x.2.1 x2 s2, entW (L 17) (L 14) x.2.2 x3 s3])
   (by kernel_rfl) (by kernel_rfl) (0, 0, 0) HK.out.drew (by kernel_rfl) ?_ ?_
  ·repeat' (first | exact FactSteps.nil | refine FactSteps.cons ?_ ?_)
   all_goals
    intro L x wx hJ hl hd hs K hK
    (try simp [Region.binds] at hd)
    have c0 := hJ.cell 0 0 rfl rfl
    have c1 := hJ.cell 0 1 rfl rfl
    simp only [selA, selT_cons, selT_nil, List.set_cons_zero, List.set_cons_succ, List.getD_cons_zero, List.getD_cons_succ, hd, hl, selV_true, selV_false]
   ·go_simp
    refine hK.out x _ _ ?_ ?_
    ·simp [selA, selT_cons, selT_nil, hl, hd, selV_true, selV_false]
    ·simpa [hl] using hJ
   ·go_simp
    refine hK.out x _ _ ?_ ?_
    ·simp [selA, selT_cons, selT_nil, hl, hd, selV_true, selV_false]
    ·simpa [hl] using hJ
   ·go_simp
    go_at_call 53
    with_reducible refine (HN.out _).mono ?_
    rintro e v ⟨rfl, hb⟩
    refine hK.out x _ _ ?_ ?_
    ·simp [selA, selT_cons, selT_nil, hl, hd, selV_true, selV_false]
    ·simpa [hl] using hJ.step hb
   ·go_simp
    refine hK.out x _ _ ?_ ?_
    ·simp [selA, selT_cons, selT_nil, hl, hd, selV_true, selV_false]
    ·simpa [hl] using hJ
   ·go_simp
    refine hK.out x _ _ ?_ ?_
    ·simp [selA, selT_cons, selT_nil, hl, hd, selV_true, selV_false]
    ·simpa [hl] using hJ
   ·go_simp
    refine hK.out x _ _ ?_ ?_
    ·simp [selA, selT_cons, selT_nil, hl, hd, selV_true, selV_false]
    ·simpa [hl] using hJ
   ·go_simp
    go_at_call 53
    with_reducible refine (HF.out _).mono ?_
    rintro e v ⟨rfl, hb⟩
    refine hK.out x _ _ ?_ ?_
    ·simp [selA, selT_cons, selT_nil, hl, hd, selV_true, selV_false]
    ·simpa [hl] using hJ.step hb
   ·go_simp
    go_at_call 144
    with_reducible refine (HG.out _).mono ?_
    rintro e v ⟨rfl, hb⟩
    refine hK.out x _ _ ?_ ?_
    ·simp [selA, selT_cons, selT_nil, hl, hd, selV_true, selV_false]
    ·simpa [hl] using hJ.step hb
   ·go_simp
    refine hK.out x _ _ ?_ ?_
    ·simp [selA, selT_cons, selT_nil, hl, hd, selV_true, selV_false]
    ·simpa [hl] using hJ
   ·go_simp
    refine hK.out x _ _ ?_ ?_
    ·simp [selA, selT_cons, selT_nil, hl, hd, selV_true, selV_false]
    ·simpa [hl] using hJ
   ·go_simp
    refine hK.out x _ _ ?_ ?_
    ·simp [selA, selT_cons, selT_nil, hl, hd, selV_true, selV_false]
    ·simpa [hl] using hJ
   ·go_simp
    refine hK.out x _ _ ?_ ?_
    ·simp [selA, selT_cons, selT_nil, hl, hd, selV_true, selV_false]
    ·simpa [hl] using hJ
   ·have hn := hs 15 _ rfl (by simp [Region.binds])
    go_simp
    refine hK.out (wx.heap.size, x.2.1, x.2.2) _ _ ?_ ?_
    ·simp [selA, selT_cons, selT_nil, hl, hd, selV_true, selV_false]
    ·refine Kb.cast (hJ.new 1 (wbox false ⟨#[]⟩) (by simp [hl, entW_no])) ?_
     simp [hn, entW_new]
   ·have hn := hs 16 _ rfl (by simp [Region.binds])
    go_simp
    refine hK.out (x.1, wx.heap.size, x.2.2) _ _ ?_ ?_
    ·simp [selA, selT_cons, selT_nil, hl, hd, selV_true, selV_false]
    ·refine Kb.cast (hJ.new 2 (wbox false ⟨#[]⟩) (by simp [hl, entW_no])) ?_
     simp [hn, entW_new]
   ·have hn := hs 17 _ rfl (by simp [Region.binds])
    go_simp
    refine hK.out (x.1, x.2.1, wx.heap.size) _ _ ?_ ?_
    ·simp [selA, selT_cons, selT_nil, hl, hd, selV_true, selV_false]
    ·refine Kb.cast (hJ.new 3 (wbox false ⟨#[]⟩) (by simp [hl, entW_no])) ?_
     simp [hn, entW_new]
   ·have hJ2 := hJ
    simp only [hl, hd, entW_new, entW_full] at hJ2
    have e0 := hJ2.cell 1 0 rfl rfl
    have e1 := hJ2.cell 1 1 rfl rfl
    have e2 := hJ2.frozen 1 0 rfl
    have e3 := hJ2.frozen 1 1 rfl
    go_simp
    refine hK.out x _ _ ?_ ?_
    ·simp [selA, selT_cons, selT_nil, hl, hd, selV_true, selV_false]
    ·refine Kb.cast ((hJ2.put 1 0 rfl _).put 1 1 rfl _) ?_
     simp [hd, entW_full, entW_new, wbox]
   ·have hJ2 := hJ
    simp only [hl, hd, entW_new, entW_full] at hJ2
    have e0 := hJ2.cell 2 0 rfl rfl
    have e1 := hJ2.cell 2 1 rfl rfl
    have e2 := hJ2.frozen 2 0 rfl
    have e3 := hJ2.frozen 2 1 rfl
    go_simp
    refine hK.out x _ _ ?_ ?_
    ·simp [selA, selT_cons, selT_nil, hl, hd, selV_true, selV_false]
    ·refine Kb.cast ((hJ2.put 2 0 rfl _).put 2 1 rfl _) ?_
     simp [hd, entW_full, entW_new, wbox]
   ·have hJ2 := hJ
    simp only [hl, hd, entW_new, entW_full] at hJ2
    have e0 := hJ2.cell 3 0 rfl rfl
    have e1 := hJ2.cell 3 1 rfl rfl
    have e2 := hJ2.frozen 3 0 rfl
    have e3 := hJ2.frozen 3 1 rfl
    go_simp
    refine hK.out x _ _ ?_ ?_
    ·simp [selA, selT_cons, selT_nil, hl, hd, selV_true, selV_false]
    ·refine Kb.cast ((hJ2.put 3 0 rfl _).put 3 1 rfl _) ?_
     simp [hd, entW_full, entW_new, wbox]
  ·intro x wx hJ
   simp only [selA, selT_cons, selT_nil, List.set_cons_zero, List.set_cons_succ, List.getD_cons_zero, List.getD_cons_succ, selV_true]
   simp only [entW_full] at hJ
   go_wp2_with fail
   go_meet
   case rel => exact ⟨_, rfl, hJ.at_ 2 rfl, hJ.at_ 0 rfl, hb2 ▸ hJ.1⟩
 case rest =>
  obtain ⟨b6, rfl, hW6, hO6, hbel⟩ := hcut
  have c0 := hW6.cell0
  have c1 := hW6.cell1
  have c2 := hO6.cell0
  have c3 := hO6.cell1
  go_wp2_with fail
  with_reducible refine (HR.out _).mono ?_
  rintro e w14 ⟨rfl, hb14⟩
  clear c0 c1 c2 c3
  go_wp2
  go_ret
  exact ⟨rfl, hbel.trans (hb14.mono (by rw [← hb2]; rw [← hb2] at hbel; exact hbel.size))⟩
end Go.Proofs.YtknaghdoffigjaaGreatDoor
