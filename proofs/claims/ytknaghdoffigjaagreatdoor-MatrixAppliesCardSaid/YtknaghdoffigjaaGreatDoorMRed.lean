import Derived.Test.YtknaghdoffigjaaGreatDoorZMKg
set_option linter.unusedSimpArgs false
set_option linter.unusedVariables false
set_option linter.unnecessarySimpa false
namespace Go.Proofs.YtknaghdoffigjaaGreatDoor
open Go.RowKit Go
attribute [local go_sem] Oper.semAt_some
theorem Kg.add {row : Option Nat} {w0 w : World} {l : List (Option (Nat × Obj))} (h : Kg row w0 w l) {b : Nat} {o : Obj} (hb : w.heap[b]? = some o) (hge : w0.heap.size ≤ b) (hne : ∀ (i c : Nat) (p : Obj), l[i]? = some (some (c, p)) → c ≠ b) : Kg row w0 w (l ++ [some (b, o)]) := by
 have ht : ∀ (j c : Nat) (p : Obj), (l ++ [some (b, o)])[j]? = some (some (c, p)) → (j = l.length ∧ c = b ∧ p = o) ∨ (j < l.length ∧ l[j]? = some (some (c, p))) := fun j c p hj => by
  by_cases hl : j < l.length
  ·rw [List.getElem?_append_left hl] at hj
   exact .inr ⟨hl, hj⟩
  ·rw [List.getElem?_append_right (by omega)] at hj
   by_cases h0 : j - l.length = 0
   ·rw [h0] at hj
    simp at hj
    exact .inl ⟨by omega, hj.1.symm, hj.2.symm⟩
   ·rw [List.getElem?_eq_none (by simp; omega)] at hj
    cases hj
 refine ⟨h.1, fun j c p hj => ?_, fun j k c d p q hj hk hjk => ?_⟩
 ·rcases ht j c p hj with ⟨_, rfl, rfl⟩ | ⟨_, e⟩
  ·exact ⟨hge, hb⟩
  ·exact h.2.1 j c p e
 ·rcases ht j c p hj with ⟨rfl, rfl, rfl⟩ | ⟨_, e⟩
  ·rcases ht k d q hk with ⟨rfl, rfl, rfl⟩ | ⟨_, e2⟩
   ·exact absurd rfl hjk
   ·exact fun e3 => hne k d q e2 e3.symm
  ·rcases ht k d q hk with ⟨rfl, rfl, rfl⟩ | ⟨_, e2⟩
   ·exact hne j c p e
   ·exact h.2.2 j k c d p q e e2 hjk
theorem Kept.refl (B : Nat) (V : World) : Kept B V V := ⟨Nat.le_refl _, fun _ _ _ => rfl⟩
theorem Kept.below {B : Nat} {V W X : World} (h : Kept B V W) (hb : Below W.heap.size W X) : Kept B V X :=
 ⟨Nat.le_trans h.1 hb.size, fun i h1 h2 => (hb.block i (Nat.lt_of_lt_of_le h2 h.1)).trans (h.2 i h1 h2)⟩
theorem Kept.grown {B : Nat} {V W X : World} {g : Nat} (h : Kept B V W) (hb : W.grownBy X (some g)) (hg : g < B) : Kept B V X :=
 ⟨Nat.le_trans h.1 hb.size, fun i h1 h2 => (hb.block i (Nat.lt_of_lt_of_le h2 h.1) (fun e => by cases e; omega)).trans (h.2 i h1 h2)⟩
theorem Kept.put {B : Nat} {V W : World} (h : Kept B V W) {p : Addr} (hp : p.block < B) (v : Value) : Kept B V (W.setCell p v) :=
 ⟨by have := h.1; simpa [World.setCell] using this, fun i h1 h2 => (Below.heap_setCell W p v i (by omega)).trans (h.2 i h1 h2)⟩
theorem Kept.later {B B' : Nat} {V W X : World} (h : Kept B V W) (hl : Later B' W X) (hB : V.heap.size ≤ B') : Kept B V X :=
 ⟨Nat.le_trans h.1 hl.1.size, fun i h1 h2 => (hl.1.block i (by omega)).trans (h.2 i h1 h2)⟩
theorem Kept.drew {B : Nat} {V W : World} (h : Kept B V W) : Kept B V W.drew := h
theorem results_u64 {fn : Func} {tmps : Array Value} {w : World} {p : Tmp} {b : Nat} {d : Int} (h : fn.results = #[.cell p 80])
  (ht : tmps.getD p undef = .pointer (some ⟨b, 0, none⟩)) (hc : w.cell? ⟨b, 0, none⟩ = some (.int .u64 d)) : (results fn tmps).run Tryz.prog w = .ok (.int .u64 d) w := by
 have : (loadVar 80 ⟨b, 0, none⟩).run Tryz.prog w = .ok (.int .u64 d) w := by simp [loadVar, go_sem, hc]
 rw [Array.getD_eq_getD_getElem?] at ht
 simp only [results, h]
 simp [Sem.run_bind, Result.andThen, ht, asAddr, this]
def inP (c p k : Nat) (xs : List Nat) : Nat → List Nat
 | 0 => xs
 | i + 1 => if i = k ∨ (inP c p k xs i).getD (i * c + k) 0 = 0 then inP c p k xs i else adN (i * c + k) (k * c + k) p (p - (inP c p k xs i).getD (i * c + k) 0) (inP c p k xs i) (c - k)
theorem inP_length (c p k : Nat) (xs : List Nat) (i : Nat) : (inP c p k xs i).length = xs.length := by
 induction i with
 | zero => rfl
 | succ i ih => rw [inP]; split; exact ih; rw [adN_length, ih]
theorem inP_lt (c p k : Nat) (xs : List Nat) (hp : 0 < p) (hx : ∀ j, xs.getD j 0 < p) (i j : Nat) : (inP c p k xs i).getD j 0 < p := by
 induction i generalizing j with
 | zero => exact hx j
 | succ i ih =>
  rw [inP]
  split
  ·exact ih j
  ·exact adN_lt _ _ _ _ _ _ hp ih j
theorem scN_lt (o p f : Nat) (xs : List Nat) (k : Nat) (hp : 0 < p) (hx : ∀ j, xs.getD j 0 < p) (j : Nat) : (scN o p f xs k).getD j 0 < p := by
 rw [scN_get]
 split
 ·exact Nat.mod_lt _ hp
 ·exact hx j
def redX (r c p : Nat) (xs : List Nat) : Nat → List Nat
 | 0 => xs
 | k + 1 => inP c p k (scN (k * c + k) p (invM p ((fillP c p k (r - (k + 1)) (k + 1) (redX r c p xs k)).getD (k * c + k) 0)).toNat (fillP c p k (r - (k + 1)) (k + 1) (redX r c p xs k)) (c - k)) r
def redY (r c p : Nat) (xs : List Nat) (k : Nat) : List Nat := fillP c p k (r - (k + 1)) (k + 1) (redX r c p xs k)
def redP (r c p : Nat) (xs : List Nat) (k : Nat) : Nat := (redY r c p xs k).getD (k * c + k) 0
def redD (r c p : Nat) (xs : List Nat) : Nat → Nat
 | 0 => 1
 | k + 1 => redD r c p xs k * redP r c p xs k % p
theorem redX_succ (r c p : Nat) (xs : List Nat) (k : Nat) : redX r c p xs (k + 1) = inP c p k (scN (k * c + k) p (invM p (redP r c p xs k)).toNat (redY r c p xs k) (c - k)) r := rfl
theorem redX_length (r c p : Nat) (xs : List Nat) (k : Nat) : (redX r c p xs k).length = xs.length := by
 induction k with
 | zero => rfl
 | succ k ih => rw [redX, inP_length, scN_length, fillP_length, ih]
theorem redX_lt (r c p : Nat) (xs : List Nat) (hp : 0 < p) (hx : ∀ j, xs.getD j 0 < p) (k j : Nat) : (redX r c p xs k).getD j 0 < p := by
 induction k generalizing j with
 | zero => exact hx j
 | succ k ih =>
  rw [redX]
  exact inP_lt _ _ _ _ hp (fun j => scN_lt _ _ _ _ _ hp (fun j => fillP_lt _ _ _ _ _ _ hp ih j) j) _ _
theorem redY_length (r c p : Nat) (xs : List Nat) (k : Nat) : (redY r c p xs k).length = xs.length := by rw [redY, fillP_length, redX_length]
theorem redY_lt (r c p : Nat) (xs : List Nat) (hp : 0 < p) (hx : ∀ j, xs.getD j 0 < p) (k j : Nat) : (redY r c p xs k).getD j 0 < p := fillP_lt _ _ _ _ _ _ hp (redX_lt r c p xs hp hx k) j
theorem redD_lt (r c p : Nat) (xs : List Nat) (hp : 1 < p) (k : Nat) : redD r c p xs k < p := by
 cases k with
 | zero => exact hp
 | succ k => exact Nat.mod_lt _ (by omega)
def RedEnd (r c p : Nat) (xs ys : List Nat) (d : Nat) : Prop :=
 (∃ k, k < r ∧ (∀ j, j < k → redP r c p xs j ≠ 0) ∧ redP r c p xs k = 0 ∧ ys = redY r c p xs k ∧ d = 0) ∨ ((∀ j, j < r → redP r c p xs j ≠ 0) ∧ ys = redX r c p xs r ∧ d = redD r c p xs r)
set_option maxRecDepth 100000 in
set_option maxHeartbeats 4000000 in
theorem mreduce_any (g r c p n cap : Nat) (xs : List Nat) (w : World) (hL : Lst w g xs) (hlen : xs.length = r * c) (hrc : r ≤ c) (hc : c ≤ 400) (hn : r * c ≤ cap) (hcap : cap ≤ maxLen) (hp : 1 < p) (hp2 : p < 2147483648) (hx : ∀ j, xs.getD j 0 < p) :
  Calls Tryz.prog 72 #[mmod p, mat r c (some ⟨g, 0, none⟩) n cap] w fun e w' => ∃ ys d, RedEnd r c p xs ys d ∧ e = .returned (.int .u64 (d : Int)) ∧ Lst w' g ys ∧ w.grownBy w' (some g) := by
 have hoff : ∀ k, k < r → k * c + k + (c - k) ≤ r * c := fun k hk => by
  have := Nat.mul_le_mul_right c (show k + 1 ≤ r by omega)
  rw [Nat.add_mul] at this
  omega
 have hfp := fun (k : Nat) (hk : k < r) (ys : List Nat) (hyl : ys.length = r * c) (hyp : ∀ j, ys.getD j 0 < p) W hW => fillPivot_any g r c k p n cap ys W hW hyl hk hrc hc hn hcap (by omega) hp2 hyp
 have hre := fun (m : Nat) (hm : m < 18446744073709551616) W => rest_any p m W (by omega) hp2 hm
 have hin := fun (m : Nat) (hm : m < p) W => inverse_any p m W (by omega) hp2 hm
 have hrc2 : r * c ≤ 160000 := Nat.le_trans (Nat.mul_le_mul (show r ≤ 400 by omega) hc) (by omega)
 have hsc := fun (k f : Nat) (hk : k < r) (hf : f < p) (ys : List Nat) (hyl : ys.length = r * c) (hyp : ∀ j, ys.getD j 0 < p) W hW => scale_any g (k * c + k) (c - k) (c - k) p f ys W hW (by rw [hyl]; exact hoff k hk) (by omega) hp2 hf hyp (by omega)
 have hmu := fun (i k f : Nat) (hi : i < r) (hk : k < r) (hik : i ≠ k) (hf : f < p) (ys : List Nat) (hyl : ys.length = r * c) (hyp : ∀ j, ys.getD j 0 < p) W hW =>
  addMul_any g (i * c + k) (k * c + k) (c - k) (c - k) (c - k) (c - k) p f ys W hW (Nat.le_refl _)
   (by have := Nat.mul_le_mul_right c (show i + 1 ≤ r by omega); rw [Nat.add_mul] at this; omega)
   (by rw [hyl]; exact hoff k hk)
   (by
     rcases Nat.lt_or_gt_of_ne hik with h | h
     ·have := Nat.mul_le_mul_right c (show i + 1 ≤ k by omega); rw [Nat.add_mul] at this; omega
     ·have := Nat.mul_le_mul_right c (show k + 1 ≤ i by omega); rw [Nat.add_mul] at this; omega)
   (by omega) hp2 hf hyp (by omega)
 unfold mmod mat at *
 generalize ((18446744073709551615 / p : Nat) : Int) = q at *
 have HFP := Lib.hid hfp
 have HRE := Lib.hid hre
 have HIN := Lib.hid hin
 have HSC := Lib.hid hsc
 have HMU := Lib.hid hmu
 clear hfp hre hin hsc hmu
 have hgl := hL.lt
 refine (callsIn_wide (n := 0)).1 ?_
 refine callsIn_of_wp_marks Tryz.func72 rfl trivial ?_ rfl
 simp only [Tryz.ntmps72, List.size_toArray, List.length_cons, List.length_nil, Nat.reduceAdd, Nat.reduceSub, Array.replicate_succ, Array.replicate_zero, List.push_toArray, List.append_toArray, List.nil_append, List.cons_append]
 have hK1 := (Kg.none_ (some g) w 3).new 0 (.cells #[.int .u64 (p : Int), .int .u64 q] 82 (0, 0)) rfl
 have hK2 := hK1.new 1 (.cells #[.int .i64 (r : Int), .int .i64 (c : Int), .slice (some ⟨g, 0, none⟩) n cap] 88 (0, 0)) rfl
 have hK3 := hK2.new 2 (.cells #[.int .u64 1] 80 (0, 0)) rfl
 have hL3 := ((hL.alloc (.cells #[.int .u64 (p : Int), .int .u64 q] 82 (0, 0))).alloc (.cells #[.int .i64 (r : Int), .int .i64 (c : Int), .slice (some ⟨g, 0, none⟩) n cap] 88 (0, 0))).alloc (.cells #[.int .u64 1] 80 (0, 0))
 gi_wp2_with fail
 have hK4 := Lib.hid (hK3.cast (l' := [some (w.heap.size, .cells #[.int .u64 (p : Int), .int .u64 q] 82 (0, 0)), some (w.heap.size + 1, .cells #[.int .i64 (r : Int), .int .i64 (c : Int), .slice (some ⟨g, 0, none⟩) n cap] 88 (0, 0)), some (w.heap.size + 1 + 1, .cells #[.int .u64 (1 : Int)] 80 (0, 0))]) (by simp))
 have hL4 := Lib.hid hL3
 have hsz : (((w.alloc (.cells #[.int .u64 (p : Int), .int .u64 q] 82 (0, 0))).alloc (.cells #[.int .i64 (r : Int), .int .i64 (c : Int), .slice (some ⟨g, 0, none⟩) n cap] 88 (0, 0))).alloc (.cells #[.int .u64 1] 80 (0, 0))).heap.size = w.heap.size + 1 + 1 + 1 := by simp
 clear hK1 hK2 hK3 hL3
 generalize ((w.alloc (.cells #[.int .u64 (p : Int), .int .u64 q] 82 (0, 0))).alloc (.cells #[.int .i64 (r : Int), .int .i64 (c : Int), .slice (some ⟨g, 0, none⟩) n cap] 88 (0, 0))).alloc (.cells #[.int .u64 1] 80 (0, 0)) = W3 at *
 generalize hb2 : w.heap.size = b2 at *
 replace hsz := Nat.le_of_eq hsz.symm
 have hlt3 : ∀ (d : Int) (i x : Nat) (o : Obj), ([some (b2, .cells #[.int .u64 (p : Int), .int .u64 q] 82 (0, 0)), some (b2 + 1, .cells #[.int .i64 (r : Int), .int .i64 (c : Int), .slice (some ⟨g, 0, none⟩) n cap] 88 (0, 0)), some (b2 + 1 + 1, .cells #[.int .u64 (d : Int)] 80 (0, 0))] : List (Option (Nat × Obj)))[i]? = some (some (x, o)) → x < W3.heap.size := fun d i x o hi => by
  match i with
  | 0 => simp at hi; omega
  | 1 => simp at hi; omega
  | 2 => simp at hi; omega
  | i + 3 => simp at hi
 refine range_boxed (gf := 111) (first := #[.agg #[.int .i64 (r : Int), .int .i64 (c : Int), .slice (some ⟨g, 0, none⟩) n cap]]) rfl (enters_of Tryz.func111 (by kernel_rfl) rfl)
  (each_visitsQ r c (some ⟨g, 0, none⟩) n cap (by omega) hc hn hcap) (fun k => rfl)
  (fun k V => (∀ j, j < k → redP r c p xs j ≠ 0) ∧ Lst V g (redX r c p xs k) ∧ Kg (some g) w V [some (b2, .cells #[.int .u64 (p : Int), .int .u64 q] 82 (0, 0)), some (b2 + 1, .cells #[.int .i64 (r : Int), .int .i64 (c : Int), .slice (some ⟨g, 0, none⟩) n cap] 88 (0, 0)), some (b2 + 1 + 1, .cells #[.int .u64 (redD r c p xs k : Int)] 80 (0, 0))])
  (fun co V => co = .ret ∧ ∃ k, k < r ∧ (∀ j, j < k → redP r c p xs j ≠ 0) ∧ redP r c p xs k = 0 ∧ Lst V g (redY r c p xs k) ∧ Kg (some g) w V [some (b2, .cells #[.int .u64 (p : Int), .int .u64 q] 82 (0, 0)), some (b2 + 1, .cells #[.int .i64 (r : Int), .int .i64 (c : Int), .slice (some ⟨g, 0, none⟩) n cap] 88 (0, 0)), some (b2 + 1 + 1, .cells #[.int .u64 (0 : Int)] 80 (0, 0))])
  ?own ?ownx ?start
  (fun k a' V => ∃ b5 b6, a' = { tmps := #[.agg #[.int .u64 (p : Int), .int .u64 q], .agg #[.int .i64 (r : Int), .int .i64 (c : Int), .slice (some ⟨g, 0, none⟩) n cap], .pointer (some ⟨b2, 0, none⟩), .pointer (some ⟨b2 + 1, 0, none⟩), .pointer (some ⟨b2 + 1 + 1, 0, none⟩), .pointer (some ⟨b5, 0, none⟩), .pointer (some ⟨b6, 0, none⟩), undef, undef, undef, .agg #[.int .i64 (r : Int), .int .i64 (c : Int), .slice (some ⟨g, 0, none⟩) n cap], .func (.func 111) #[.agg #[.int .i64 (r : Int), .int .i64 (c : Int), .slice (some ⟨g, 0, none⟩) n cap]] #[], .int .i64 (k : Int), .slice (some ⟨g, k * c, none⟩) c c, undef, undef, undef, undef, undef, undef, undef, undef, undef, undef, undef, undef, undef, undef, undef, undef, undef, undef, undef, undef, undef, undef, undef, undef, undef, undef, undef, undef, undef, undef, undef, undef, undef, undef, undef, undef, undef, undef, undef, undef, undef, undef, undef, undef, undef, undef, undef, undef, undef, undef, undef, undef, undef], defers := [] } ∧ W3.heap.size ≤ b5 ∧ W3.heap.size ≤ b6 ∧ b5 ≠ b6 ∧ V.heap[b5]? = some (.cells #[.int .i64 (k : Int)] 3 (0, 0)) ∧ V.heap[b6]? = some (.cells #[.slice (some ⟨g, k * c, none⟩) c c] 84 (0, 0)))
  ?own2 ?assign ?body ?done ?stop
 case own =>
  rintro k V V' ⟨h1, h2, h3⟩ hl
  exact ⟨h1, hl.2 _ _ h2 rfl, h3.later' hl (by omega) rfl⟩
 case ownx =>
  rintro _ V V' ⟨rfl, k, hk, h1, h0, h2, h3⟩ hl
  exact ⟨rfl, k, hk, h1, h0, hl.2 _ _ h2 rfl, h3.later' hl (by omega) rfl⟩
 case start => exact ⟨fun j hj => by omega, hL4.out, hK4.out⟩
 case own2 =>
  rintro k a' V V' ⟨b5, b6, rfl, h1, h2, h3, h4, h5⟩ hl
  exact ⟨b5, b6, rfl, h1, h2, h3, hl.2 _ _ h4 rfl, hl.2 _ _ h5 rfl⟩
 case assign =>
  intro l k V K hk hz hI hK
  have hc0 : c ≠ 0 := by omega
  unfold rowArgsQ
  simp only [if_neg hc0, Option.map_some, add_from0]
  clear hI hL4 hK4
  gi_wp2
  refine hK _ _ ⟨V.heap.size, V.heap.size + 1, rfl, by omega, by omega, by omega, ?_, ?_⟩ ?_
  ·exact (Below.heap_alloc _ _ _ (by simp)).trans (heap_alloc_new _ _)
  ·have := heap_alloc_new (V.alloc (.cells #[.int .i64 (k : Int)] 3 (0, 0))) (.cells #[.slice (some ⟨g, k * c, none⟩) c c] 84 (0, 0))
   simpa using this
  ·exact below2 V _ _
 case body =>
  rintro l k a' V hk hz hl0 hl1 ⟨hnz, hLV, hKV⟩ ⟨b5, b6, rfl, h5, h6, h56, hb5, hb6⟩
  have hK5 := (hKV.add hb5 (by omega) (fun i x o hi => by
    have := hlt3 _ i x o hi
    omega)).add hb6 (by omega) (fun i x o hi => by
    rcases Nat.lt_or_ge i 3 with h | h
    ·rw [List.getElem?_append_left (by simpa using h)] at hi
     have := hlt3 _ i x o hi
     omega
    ·rw [List.getElem?_append_right (by simpa using h)] at hi
     match i, h with
     | 3, _ => simp at hi; omega
     | i + 4, _ => simp at hi)
  have hfk := HFP.out k hk _ (by rw [redX_length]; exact hlen) (redX_lt r c p xs (by omega) hx k) V hLV
  clear hz hb5 hb6 hKV
  have hK5 := hK5.cast (l' := [some (b2, .cells #[.int .u64 (p : Int), .int .u64 q] 82 (0, 0)), some (b2 + 1, .cells #[.int .i64 (r : Int), .int .i64 (c : Int), .slice (some ⟨g, 0, none⟩) n cap] 88 (0, 0)), some (b2 + 1 + 1, .cells #[.int .u64 (redD r c p xs k : Int)] 80 (0, 0)), some (b5, .cells #[.int .i64 (k : Int)] 3 (0, 0)), some (b6, .cells #[.slice (some ⟨g, k * c, none⟩) c c] 84 (0, 0))]) rfl
  have c0 := hK5.cell 0 0 rfl rfl
  have c1 := hK5.cell 0 1 rfl rfl
  have c2 := hK5.cell 1 0 rfl rfl
  have c3 := hK5.cell 1 1 rfl rfl
  have c4 := hK5.cell 1 2 rfl rfl
  have c5 := hK5.cell 3 0 rfl rfl
  have HK5 := Lib.hid hK5
  have HLV := Lib.hid hLV
  clear hK5 hLV
  gi_wp2_with fail
  refine ⟨trivial, rfl, ?_⟩
  refine (CallsIn.inRound l (callsIn_wide.2 hfk)).mono ?_
  rintro e V1 ⟨rfl, hL1, hG1⟩
  clear c0 c1 c2 c3 c4 c5 hfk
  have hL1 : Lst V1 g (redY r c p xs k) := hL1
  have hk1 := (Kept.refl W3.heap.size V).grown hG1 (by omega)
  have hK1 := HK5.out.grown hG1 (fun j e => by cases e; omega)
  obtain ⟨pv, hpv⟩ : ∃ pv, pv = redP r c p xs k := ⟨_, rfl⟩
  have hyl : (redY r c p xs k).length = r * c := by rw [redY_length]; exact hlen
  have hkc2 : k * c + c ≤ r * c := by
   have := Nat.mul_le_mul_right c (show k + 1 ≤ r by omega)
   rw [Nat.add_mul] at this
   omega
  have c0 := hL1.cell (k := k * c + k) (by omega)
  rw [show (redY r c p xs k).getD (k * c + k) 0 = pv from hpv.symm] at c0
  have c1 := hK1.cell 4 0 rfl rfl
  have c2 := hK1.cell 3 0 rfl rfl
  have c3 := hK1.cell 2 0 rfl rfl
  have c4 := hK1.cell 0 0 rfl rfl
  have c5 := hK1.cell 0 1 rfl rfl
  have c6 := hK1.frozen 2 0 rfl
  have hpvlt : pv < p := by rw [hpv]; exact redY_lt r c p xs (by omega) hx k _
  have HPV := Lib.hid hpv
  have HL1 := Lib.hid hL1
  have HK1 := Lib.hid hK1
  have Hk1 := Lib.hid hk1
  have HKC := Lib.hid hkc2
  have hkc : k < c := by omega
  clear hL1 hK1 hk1 HK5 HLV hG1 hpv hyl hkc2
  by_cases hpz : pv = 0
  ·subst hpz
   gi_wp2_with fail
   exact ⟨Hk1.out.put (p := ⟨b2 + 1 + 1, 0, none⟩) (by simp only []; omega) _, rfl, k, hk, hnz, HPV.out.symm, (Below.heap_setCell _ _ _ _ (by simp only []; omega)).trans HL1.out, (HK1.out.put 2 0 rfl (.int .u64 0)).take 3⟩
  ·have hpz2 : ((pv : Int) == 0) = false := by rw [beq_eq_false_iff_ne]; omega
   have hpz3 : ¬ (pv : Int) = 0 := by omega
   have hdl := redD_lt r c p xs hp k
   obtain ⟨d, hd⟩ : ∃ d, d = redD r c p xs k := ⟨_, rfl⟩
   rw [← hd] at c3 HK1 hdl
   have HD0 := Lib.hid hd
   clear hd
   have hm : d * pv ≤ 2147483648 * 2147483648 := Nat.mul_le_mul (by omega) (by omega)
   have wm : IntKind.u64.wrap ((d : Int) * (pv : Int)) = ((d * pv : Nat) : Int) := by rw [← Int.natCast_mul]; exact IntWalk.u64_in _ (by omega)
   have hre := fun W => HRE.out (d * pv) (by omega) W
   simp only [Int.natCast_mul] at hre wm
   gi_wp2_with fail
   refine ⟨trivial, rfl, ?_⟩
   with_reducible refine (CallsIn.inRound l (callsIn_wide.2 (hre _))).mono ?_
   rintro e V2 ⟨rfl, hb2'⟩
   have hk2 := Hk1.out.below hb2'
   have hK2 := HK1.out.step hb2'
   have hL2 := HL1.out.below hb2' HL1.out.lt
   clear c0 c1 c2 c3 c4 c5 c6 hre HK1 HL1 Hk1 wm
   obtain ⟨d2, hd2⟩ : ∃ d2, d2 = d * pv % p := ⟨_, rfl⟩
   rw [← hd2]
   have hd3 : d2 = redD r c p xs (k + 1) := by rw [hd2, HD0.out, HPV.out]; rfl
   have c6 := hK2.frozen 2 0 rfl
   have c3 := hK2.cell 2 0 rfl rfl
   have hk3 := hk2.put (p := ⟨b2 + 1 + 1, 0, none⟩) (by simp only []; omega) (.int .u64 (d2 : Int))
   have hK3 := (hK2.put 2 0 rfl (.int .u64 (d2 : Int))).cast (l' := [some (b2, .cells #[.int .u64 (p : Int), .int .u64 q] 82 (0, 0)), some (b2 + 1, .cells #[.int .i64 (r : Int), .int .i64 (c : Int), .slice (some ⟨g, 0, none⟩) n cap] 88 (0, 0)), some (b2 + 1 + 1, .cells #[.int .u64 (d2 : Int)] 80 (0, 0)), some (b5, .cells #[.int .i64 (k : Int)] 3 (0, 0)), some (b6, .cells #[.slice (some ⟨g, k * c, none⟩) c c] 84 (0, 0))]) (by simp)
   have hL3 : Lst _ g _ := (Below.heap_setCell V2 ⟨b2 + 1 + 1, 0, none⟩ (.int .u64 (d2 : Int)) g (by simp only []; omega)).trans hL2
   have Hk3 := Lib.hid hk3
   have HK3 := Lib.hid hK3
   have HL3 := Lib.hid hL3
   have HD := Lib.hid hd3
   clear hk2 hK2 hL2 hk3 hK3 hL3 hd3 hd2 hm
   gi_wp2_with fail
   generalize V2.setCell ⟨b2 + 1 + 1, 0, none⟩ (.int .u64 (d2 : Int)) = V3 at *
   clear c3 c6
   obtain ⟨f, hf⟩ : ∃ f : Nat, (f : Int) = invM p pv := ⟨(invM p pv).toNat, Int.toNat_of_nonneg (Int.emod_nonneg _ (by omega))⟩
   have hf2 : f = (invM p pv).toNat := by omega
   have hfl : f < p := by
    have : invM p pv < p := Int.emod_lt_of_pos _ (by omega)
    omega
   have hyl : (redY r c p xs k).length = r * c := by rw [redY_length]; exact hlen
   have hsc := fun W hW => HSC.out k f hk hfl (redY r c p xs k) hyl (redY_lt r c p xs (by omega) hx k) W hW
   have hin := fun W => HIN.out pv hpvlt W
   rw [← hf] at hin
   have HSCk := Lib.hid hsc
   have HINk := Lib.hid hin
   obtain ⟨zs, hzs⟩ : ∃ zs, zs = scN (k * c + k) p f (redY r c p xs k) (c - k) := ⟨_, rfl⟩
   rw [← hzs] at HSCk
   have HZ := Lib.hid hzs
   have HF2 := Lib.hid hf2
   clear hsc hin hzs hf hf2 hyl
   have hcut := fun W => cut_at g (k * c) c k hkc W
   refine wpIn_region_facts (X := Unit) (fun _ => [(0, 29, .agg #[.int .u64 (p : Int), .int .u64 q]), (1, 30, .slice (some ⟨g, k * c, none⟩) c c), (2, 31, .int .i64 (k : Int)), (3, 32, .slice (some ⟨g, k * c + k, none⟩) (c - k) (c - k)), (4, 33, .agg #[.int .u64 (p : Int), .int .u64 q]), (5, 34, .int .u64 (pv : Int)), (6, 35, .int .u64 (f : Int)), (7, 36, .tuple #[])])
     (fun _ L W => Lst W g (if L 7 = true then zs else redY r c p xs k) ∧ Kg (some g) w W [some (b2, .cells #[.int .u64 (p : Int), .int .u64 q] 82 (0, 0)), some (b2 + 1, .cells #[.int .i64 (r : Int), .int .i64 (c : Int), .slice (some ⟨g, 0, none⟩) n cap] 88 (0, 0)), some (b2 + 1 + 1, .cells #[.int .u64 (d2 : Int)] 80 (0, 0)), some (b5, .cells #[.int .i64 (k : Int)] 3 (0, 0)), some (b6, .cells #[.slice (some ⟨g, k * c, none⟩) c c] 84 (0, 0))] ∧ Kept W3.heap.size V W) (by kernel_rfl) (by kernel_rfl) () ⟨HL3.out.drew, HK3.out.drew, Hk3.out.drew⟩ (by kernel_rfl) ?_ ?_
   ·repeat' (first | exact FactStepsIn.nil | refine FactStepsIn.cons ?_ ?_)
    all_goals
     intro L x wx hJ hl hd hs K hK
     (try simp [Region.binds] at hd)
     have e0 := hJ.2.1.cell 0 0 rfl rfl
     have e1 := hJ.2.1.cell 0 1 rfl rfl
     have e2 := hJ.2.1.cell 3 0 rfl rfl
     have e3 := hJ.2.1.cell 4 0 rfl rfl
     simp only [selA, selT_cons, selT_nil, List.set_cons_zero, List.set_cons_succ, List.getD_cons_zero, List.getD_cons_succ, hd, hl, selV_true, selV_false]
    ·go_simp
     refine hK.out x _ _ ?_ ?_
     ·simp [selA, selT_cons, selT_nil, hl, hd, selV_true, selV_false]
     ·simpa [hl] using hJ
    ·go_simp
     refine hK.out x _ _ ?_ ?_
     ·simp [selA, selT_cons, selT_nil, hl, hd, selV_true, selV_false]
     ·simpa [hl] using hJ
    ·go_simp
     refine hK.out x _ _ ?_ ?_
     ·simp [selA, selT_cons, selT_nil, hl, hd, selV_true, selV_false]
     ·simpa [hl] using hJ
    ·go_simp
     refine hK.out x _ _ ?_ ?_
     ·simp [selA, selT_cons, selT_nil, hl, hd, selV_true, selV_false]
     ·simpa [hl] using hJ
    ·go_simp
     refine hK.out x _ _ ?_ ?_
     ·simp [selA, selT_cons, selT_nil, hl, hd, selV_true, selV_false]
     ·simpa [hl] using hJ
    ·go_simp
     refine hK.out x _ _ ?_ ?_
     ·simp [selA, selT_cons, selT_nil, hl, hd, selV_true, selV_false]
     ·simpa [hl] using hJ
    ·go_simp
     refine ⟨trivial, rfl, ?_⟩
     with_reducible refine (CallsIn.inRound l (callsIn_wide.2 (HINk.out _))).mono ?_
     rintro e v ⟨rfl, hb⟩
     refine hK.out x _ _ ?_ ?_
     ·simp [selA, selT_cons, selT_nil, hl, hd, selV_true, selV_false]
     ·exact ⟨by simpa [hl] using hJ.1.below hb hJ.1.lt, hJ.2.1.step hb, hJ.2.2.below hb⟩
    ·have hJ1 : Lst wx g (redY r c p xs k) := by simpa [hl] using hJ.1
     go_simp
     refine ⟨trivial, rfl, ?_⟩
     with_reducible refine (CallsIn.inRound l (callsIn_wide.2 (HSCk.out _ hJ1))).mono ?_
     rintro e v ⟨rfl, hz, hb⟩
     refine hK.out x _ _ ?_ ?_
     ·simp [selA, selT_cons, selT_nil, hl, hd, selV_true, selV_false]
     ·exact ⟨by simpa using hz, hJ.2.1.grown hb (fun j e => by cases e; omega), hJ.2.2.grown hb (by omega)⟩
   ·rintro _ W4 ⟨hL4', hK4', hk4'⟩
    simp only [selA, selT_cons, selT_nil, List.set_cons_zero, List.set_cons_succ, List.getD_cons_zero, List.getD_cons_succ, selV_true]
    have e0 := hK4'.cell 1 0 rfl rfl
    have e1 := hK4'.cell 1 1 rfl rfl
    have e2 := hK4'.cell 1 2 rfl rfl
    have hL4z : Lst W4 g zs := hL4'
    obtain ⟨r0, hr0⟩ := hl1
    have hr4 : W4.heap[l]? = some (.loop r0) := (hk4'.2 l hl0 (heap_lt hr0)).trans hr0
    have HL4 := Lib.hid hL4z
    have HK4 := Lib.hid hK4'
    have Hk4 := Lib.hid hk4'
    have HR4 := Lib.hid hr4
    clear hL4' hK4' hk4' hL4z hr4 hr0 HK3 HL3 Hk3
    gi_wp2_with fail
    clear e0 e1 e2
    refine range_within (a := ?A) (ps := #[39, 40]) (gf := 111) (first := #[.agg #[.int .i64 (r : Int), .int .i64 (c : Int), .slice (some ⟨g, 0, none⟩) n cap]]) HR4.out ?hg1 (enters_of Tryz.func111 (by kernel_rfl) rfl)
     (each_visitsQ r c (some ⟨g, 0, none⟩) n cap (by omega) hc hn hcap) ?hps1
     (fun i W => Lst W g (inP c p k zs i) ∧ Kg (some g) w W [some (b2, .cells #[.int .u64 (p : Int), .int .u64 q] 82 (0, 0)), some (b2 + 1, .cells #[.int .i64 (r : Int), .int .i64 (c : Int), .slice (some ⟨g, 0, none⟩) n cap] 88 (0, 0)), some (b2 + 1 + 1, .cells #[.int .u64 (d2 : Int)] 80 (0, 0)), some (b5, .cells #[.int .i64 (k : Int)] 3 (0, 0)), some (b6, .cells #[.slice (some ⟨g, k * c, none⟩) c c] 84 (0, 0))] ∧ Kept W3.heap.size V W)
     (fun _ _ => False) ?own1 (fun _ _ _ h _ => h.elim) ⟨HL4.out, HK4.out, Hk4.out⟩
     (fun i a' W => a' = { tmps := ((((?A).tmps.setIfInBounds 39 (.int .i64 (i : Int))).setIfInBounds 40 (.slice (some ⟨g, i * c, none⟩) c c)).setIfInBounds 8 (.int .i64 (i : Int))).setIfInBounds 9 (.slice (some ⟨g, i * c, none⟩) c c), defers := [] })
     (fun _ _ _ _ h _ => h) ?assign1 ?body1 ?done1 (fun _ _ h => h.elim)
    case hg1 => rfl
    case hps1 => exact fun k => rfl
    case own1 =>
     rintro i W W' ⟨h1, h2, h3⟩ hl'
     exact ⟨hl'.2 _ _ h1 rfl, h2.later' hl' (by rw [hb2]; have := HK4.out.1.size; omega) rfl, h3.later hl' Hk4.out.1⟩
    case assign1 =>
     intro l2 i W K hi hz hI hK
     have hc0 : c ≠ 0 := by omega
     unfold rowArgsQ
     simp only [if_neg hc0, Option.map_some, add_from0]
     clear hI
     gi_wp2
     exact hK _ _ rfl (Below.refl _ _)
    case body1 =>
     rintro l2 i a' W hi hz hl2 hr2 ⟨hLW, hKW, hkW⟩ rfl
     simp only [List.setIfInBounds_toArray, List.set_cons_succ, List.set_cons_zero]
     have hzl : zs.length = r * c := by rw [HZ.out, scN_length, redY_length]; exact hlen
     have hzp : ∀ j, zs.getD j 0 < p := fun j => by rw [HZ.out]; exact scN_lt _ _ _ _ _ (by omega) (redY_lt r c p xs (by omega) hx k) j
     have hyl : (inP c p k zs i).length = r * c := by rw [inP_length]; exact hzl
     have hyp := inP_lt c p k zs (by omega) hzp i
     have hnext : inP c p k zs (i + 1) = if i = k ∨ (inP c p k zs i).getD (i * c + k) 0 = 0 then inP c p k zs i else adN (i * c + k) (k * c + k) p (p - (inP c p k zs i).getD (i * c + k) 0) (inP c p k zs i) (c - k) := rfl
     generalize inP c p k zs i = ys at *
     have hik : i * c + c ≤ r * c := by
      have := Nat.mul_le_mul_right c (show i + 1 ≤ r by omega)
      rw [Nat.add_mul] at this
      omega
     have c0 := hLW.cell (k := i * c + k) (by omega)
     have hcuti := fun X => cut_at g (i * c) c k hkc X
     obtain ⟨y, hy⟩ : ∃ y, y = ys.getD (i * c + k) 0 := ⟨_, rfl⟩
     rw [← hy] at c0 hnext
     have hyp2 : y < p := by rw [hy]; exact hyp _
     have c1 := hKW.cell 3 0 rfl rfl
     have HN := Lib.hid hnext
     have HLW := Lib.hid hLW
     have HKW := Lib.hid hKW
     have HkW := Lib.hid hkW
     have HYL := Lib.hid hyl
     have HYP := Lib.hid hyp
     have HYV := Lib.hid hy
     have hB1 : W3.heap.size ≤ W4.heap.size := by have := heap_lt HR4.out; omega
     have HIK := Lib.hid hik
     clear hnext hLW hKW hkW hyl hyp hy hik hzl hzp hr2 HK4 HL4 Hk4 HR4
     by_cases hki : i = k
     ·subst hki
      have hne : ((i : Int) != (i : Int)) = false := by simp
      rw [if_pos (.inl rfl)] at HN
      gi_wp2_with fail
      exact ⟨Kept.refl _ _, HN.out ▸ HLW.out, HKW.out, HkW.out⟩
     ·have hne : ((i : Int) != (k : Int)) = true := by rw [bne_iff_ne]; omega
      have hne2 : ¬ (i : Int) = (k : Int) := by omega
      by_cases hy0 : y = 0
      ·subst hy0
       rw [if_pos (.inr rfl)] at HN
       gi_wp2_with fail
       exact ⟨Kept.refl _ _, HN.out ▸ HLW.out, HKW.out, HkW.out⟩
      ·have hyb : ((y : Int) != 0) = true := by rw [bne_iff_ne]; omega
       have hyb2 : ¬ (y : Int) = 0 := by omega
       have hsub : IntKind.u64.wrap ((p : Int) - (y : Int)) = ((p - y : Nat) : Int) := by rw [show (p : Int) - (y : Int) = ((p - y : Nat) : Int) from by omega]; exact IntWalk.u64_in _ (by omega)
       rw [if_neg (by omega)] at HN
       gi_wp2_with fail
       have hM := fun X hX => HMU.out i k (p - y) hi hk hki (by omega) ys HYL.out HYP.out X hX
       have HM := Lib.hid hM
       generalize adN (i * c + k) (k * c + k) p (p - y) ys (c - k) = zs2 at *
       clear hM c0 c1
       obtain ⟨f2, hf2⟩ : ∃ f2 : Nat, f2 = p - y := ⟨_, rfl⟩
       rw [← hf2] at HM hsub
       clear hf2
       refine wpIn_region_facts (X := Unit) (fun _ => [(0, 51, .agg #[.int .u64 (p : Int), .int .u64 q]), (1, 52, .slice (some ⟨g, i * c, none⟩) c c), (2, 53, .int .i64 (k : Int)), (3, 54, .slice (some ⟨g, i * c + k, none⟩) (c - k) (c - k)), (4, 55, .slice (some ⟨g, k * c, none⟩) c c), (5, 56, .int .i64 (k : Int)), (6, 57, .slice (some ⟨g, k * c + k, none⟩) (c - k) (c - k)), (7, 58, .pointer (some ⟨b2, 0, none⟩)), (8, 59, .int .u64 (p : Int)), (9, 60, .slice (some ⟨g, i * c, none⟩) c c), (10, 61, .int .i64 (k : Int)), (11, 62, .pointer (some ⟨g, i * c + k, none⟩)), (12, 63, .int .u64 (y : Int)), (13, 64, .int .u64 (f2 : Int)), (14, 65, .tuple #[])])
        (fun _ L X => Lst X g (if L 14 = true then zs2 else ys) ∧ Kg (some g) w X [some (b2, .cells #[.int .u64 (p : Int), .int .u64 q] 82 (0, 0)), some (b2 + 1, .cells #[.int .i64 (r : Int), .int .i64 (c : Int), .slice (some ⟨g, 0, none⟩) n cap] 88 (0, 0)), some (b2 + 1 + 1, .cells #[.int .u64 (d2 : Int)] 80 (0, 0)), some (b5, .cells #[.int .i64 (k : Int)] 3 (0, 0)), some (b6, .cells #[.slice (some ⟨g, k * c, none⟩) c c] 84 (0, 0))] ∧ Kept W3.heap.size V X ∧ Kept W4.heap.size W X ∧ (L 14 = true → L 13 = true)) (by kernel_rfl) (by kernel_rfl) () ⟨HLW.out.drew, HKW.out.drew, HkW.out.drew, (Kept.refl _ _).drew, fun h => by cases h⟩ (by kernel_rfl) ?_ ?_
       ·repeat' (first | exact FactStepsIn.nil | refine FactStepsIn.cons ?_ ?_)
        all_goals
         intro L x wx hJ hl hd hs K hK
         (try simp [Region.binds] at hd)
         have e0 := hJ.2.1.cell 0 0 rfl rfl
         have e1 := hJ.2.1.cell 0 1 rfl rfl
         have e2 := hJ.2.1.cell 3 0 rfl rfl
         have e3 := hJ.2.1.cell 4 0 rfl rfl
         simp only [selA, selT_cons, selT_nil, List.set_cons_zero, List.set_cons_succ, List.getD_cons_zero, List.getD_cons_succ, hd, hl, selV_true, selV_false]
        ·go_simp
         refine hK.out x _ _ ?_ ?_
         ·simp [selA, selT_cons, selT_nil, hl, hd, selV_true, selV_false]
         ·exact ⟨by simpa [hl] using hJ.1, hJ.2.1, hJ.2.2.1, hJ.2.2.2.1, by simpa [hl] using hJ.2.2.2.2⟩
        ·go_simp
         refine hK.out x _ _ ?_ ?_
         ·simp [selA, selT_cons, selT_nil, hl, hd, selV_true, selV_false]
         ·exact ⟨by simpa [hl] using hJ.1, hJ.2.1, hJ.2.2.1, hJ.2.2.2.1, by simpa [hl] using hJ.2.2.2.2⟩
        ·go_simp
         refine hK.out x _ _ ?_ ?_
         ·simp [selA, selT_cons, selT_nil, hl, hd, selV_true, selV_false]
         ·exact ⟨by simpa [hl] using hJ.1, hJ.2.1, hJ.2.2.1, hJ.2.2.2.1, by simpa [hl] using hJ.2.2.2.2⟩
        ·go_simp
         refine hK.out x _ _ ?_ ?_
         ·simp [selA, selT_cons, selT_nil, hl, hd, selV_true, selV_false]
         ·exact ⟨by simpa [hl] using hJ.1, hJ.2.1, hJ.2.2.1, hJ.2.2.2.1, by simpa [hl] using hJ.2.2.2.2⟩
        ·go_simp
         refine hK.out x _ _ ?_ ?_
         ·simp [selA, selT_cons, selT_nil, hl, hd, selV_true, selV_false]
         ·exact ⟨by simpa [hl] using hJ.1, hJ.2.1, hJ.2.2.1, hJ.2.2.2.1, by simpa [hl] using hJ.2.2.2.2⟩
        ·go_simp
         refine hK.out x _ _ ?_ ?_
         ·simp [selA, selT_cons, selT_nil, hl, hd, selV_true, selV_false]
         ·exact ⟨by simpa [hl] using hJ.1, hJ.2.1, hJ.2.2.1, hJ.2.2.2.1, by simpa [hl] using hJ.2.2.2.2⟩
        ·go_simp
         refine hK.out x _ _ ?_ ?_
         ·simp [selA, selT_cons, selT_nil, hl, hd, selV_true, selV_false]
         ·exact ⟨by simpa [hl] using hJ.1, hJ.2.1, hJ.2.2.1, hJ.2.2.2.1, by simpa [hl] using hJ.2.2.2.2⟩
        ·go_simp
         refine hK.out x _ _ ?_ ?_
         ·simp [selA, selT_cons, selT_nil, hl, hd, selV_true, selV_false]
         ·exact ⟨by simpa [hl] using hJ.1, hJ.2.1, hJ.2.2.1, hJ.2.2.2.1, by simpa [hl] using hJ.2.2.2.2⟩
        ·go_simp
         refine hK.out x _ _ ?_ ?_
         ·simp [selA, selT_cons, selT_nil, hl, hd, selV_true, selV_false]
         ·exact ⟨by simpa [hl] using hJ.1, hJ.2.1, hJ.2.2.1, hJ.2.2.2.1, by simpa [hl] using hJ.2.2.2.2⟩
        ·go_simp
         refine hK.out x _ _ ?_ ?_
         ·simp [selA, selT_cons, selT_nil, hl, hd, selV_true, selV_false]
         ·exact ⟨by simpa [hl] using hJ.1, hJ.2.1, hJ.2.2.1, hJ.2.2.2.1, by simpa [hl] using hJ.2.2.2.2⟩
        ·go_simp
         refine hK.out x _ _ ?_ ?_
         ·simp [selA, selT_cons, selT_nil, hl, hd, selV_true, selV_false]
         ·exact ⟨by simpa [hl] using hJ.1, hJ.2.1, hJ.2.2.1, hJ.2.2.2.1, by simpa [hl] using hJ.2.2.2.2⟩
        ·go_simp
         refine hK.out x _ _ ?_ ?_
         ·simp [selA, selT_cons, selT_nil, hl, hd, selV_true, selV_false]
         ·exact ⟨by simpa [hl] using hJ.1, hJ.2.1, hJ.2.2.1, hJ.2.2.2.1, by simpa [hl] using hJ.2.2.2.2⟩
        ·have h13 : L 13 = false := hs 13 _ rfl (by simp [Region.binds])
         have h14 : L 14 = false := by
          cases h : L 14 with
          | false => rfl
          | true =>
           have := hJ.2.2.2.2 h
           rw [h13] at this
           cases this
         have hJ1 : Lst wx g ys := by simpa [h14] using hJ.1
         have e4 := hJ1.cell (k := i * c + k) (by rw [HYL.out]; have := HIK.out; omega)
         rw [← HYV.out] at e4
         go_simp
         refine hK.out x _ _ ?_ ?_
         ·simp [selA, selT_cons, selT_nil, hl, hd, h13, h14, selV_true, selV_false]
         ·exact ⟨by simpa [hl] using hJ.1, hJ.2.1, hJ.2.2.1, hJ.2.2.2.1, by simpa [hl] using hJ.2.2.2.2⟩
        ·go_simp
         refine hK.out x _ _ ?_ ?_
         ·simp [selA, selT_cons, selT_nil, hl, hd, selV_true, selV_false]
         ·exact ⟨by simpa [hl] using hJ.1, hJ.2.1, hJ.2.2.1, hJ.2.2.2.1, by simp [hl]⟩
        ·have hJ1 : Lst wx g ys := by simpa [hl] using hJ.1
         go_simp
         refine ⟨trivial, rfl, ?_⟩
         with_reducible refine (CallsIn.inRound l2 (callsIn_wide.2 (HM.out _ hJ1))).mono ?_
         rintro e v ⟨rfl, hz, hb⟩
         refine hK.out x _ _ ?_ ?_
         ·simp [selA, selT_cons, selT_nil, hl, hd, selV_true, selV_false]
         ·exact ⟨by simpa using hz, hJ.2.1.grown hb (fun j e => by cases e; omega), hJ.2.2.1.grown hb (by omega), hJ.2.2.2.1.grown hb (by omega), fun _ => by simp [hd]⟩
       ·rintro _ X ⟨hLX, hKX, hkX, hk2X, _⟩
        gi_wp2_with fail
        exact ⟨hk2X, HN.out ▸ hLX, hKX, hkX⟩
    case done1 =>
     rintro W ⟨h1, h2, h3⟩
     gi_wp2_with fail
     refine ⟨h3, fun j hj => ?_, ?_, ?_⟩
     ·rcases Nat.lt_or_ge j k with h | h
      ·exact hnz j h
      ·rw [show j = k by omega, ← HPV.out]; exact hpz
     ·rw [redX_succ, ← HPV.out, ← HF2.out, ← HZ.out]; exact h1
     ·rw [← HD.out]; exact h2.take 3
 case done =>
  rintro D V hD ⟨h1, h2, h3⟩ hd
  have c0 := h3.cell 2 0 rfl rfl
  have f0 := h3.frozen 2 0 rfl
  gi_wp2_with fail
  have hd2 : (V.setCell ⟨b2 + 1 + 1, 0, none⟩ (.int .u64 (redD r c p xs r : Int))).heap[D]? = some (.deferred (some [])) := (Below.heap_setCell _ _ _ _ (by simp only []; omega)).trans hd
  have hlp := later_put (B := W3.heap.size) (.deferred none) hD hd2 rfl
  have hK' := ((h3.put 2 0 rfl (.int .u64 (redD r c p xs r : Int))).later' hlp (by omega) rfl)
  have hLr : Lst (V.setCell ⟨b2 + 1 + 1, 0, none⟩ (.int .u64 (redD r c p xs r : Int))) g (redX r c p xs r) := (Below.heap_setCell _ _ _ _ (by simp only []; omega)).trans h2
  refine ⟨by simp, .inl ⟨_, _, rfl, run_takeDeferred hd2, ?_⟩⟩
  exact ⟨_, results_u64 (b := b2 + 1 + 1) rfl rfl (hK'.cell 2 0 rfl rfl), _, _, .inr ⟨h1, rfl, rfl⟩, rfl, hlp.2 _ _ hLr rfl, hK'.1⟩
 case stop =>
  rintro D _ V hD ⟨rfl, k, hk, h1, h0, h2, h3⟩ hd
  gi_wp2_with fail
  have hlp := later_put (B := W3.heap.size) (.deferred none) hD hd rfl
  have hK' := h3.later' hlp (by omega) rfl
  refine ⟨by simp, .inl ⟨_, _, rfl, run_takeDeferred hd, ?_⟩⟩
  exact ⟨_, results_u64 (b := b2 + 1 + 1) rfl rfl (hK'.cell 2 0 rfl rfl), _, 0, .inl ⟨k, hk, h1, h0, rfl, rfl⟩, rfl, hlp.2 _ _ h2 rfl, hK'.1⟩
end Go.Proofs.YtknaghdoffigjaaGreatDoor
