/-
  Words for memory: a block that holds a list of uint64 numbers; a slice that reads as such a list. And the contracts of wide.trim and parts.at.
-/
import Derived.Test.YtgadnianjhaeiaaDoorW1
import Derived.Below
import Derived.Laws.OwnMore
import Derived.Laws.Rows
import Derived.Laws.MakeOwn
import Derived.Deep.Draws
namespace Go.Proofs.YtgadnianjhaeiaaDoor
open Go.RowKit

theorem ptrim_snoc (l : List Nat) (x : Nat) : ptrim (l ++ [x]) = if x = 0 then ptrim l else l ++ [x] := by
  induction l with
  | nil => rw [List.nil_append]; simp only [ptrim]
  | cons y l ih =>
    rw [List.cons_append]
    by_cases hx : x = 0
    · rw [if_pos hx] at ih ⊢
      simp only [ptrim, ih]
    · rw [if_neg hx] at ih ⊢
      cases l with
      | nil => rw [List.nil_append] at ih ⊢; simp only [ptrim] at ih ⊢; rw [if_neg hx]
      | cons z l => rw [List.cons_append] at ih ⊢; rw [ptrim, ih]
theorem ptrim_length_le (l : List Nat) : (ptrim l).length ≤ l.length := by
  refine snoc_ind (p := fun l => (ptrim l).length ≤ l.length) (Nat.le_refl _) ?_ l
  intro l x ih
  rw [ptrim_snoc]
  split
  · simp; omega
  · exact Nat.le_refl _
theorem ptrim_eq_take (l : List Nat) : ptrim l = l.take (ptrim l).length := by
  refine snoc_ind (p := fun l => ptrim l = l.take (ptrim l).length) rfl ?_ l
  intro l x ih
  rw [ptrim_snoc]
  split
  · rw [List.take_append_of_le_length (ptrim_length_le l)]; exact ih
  · rw [List.take_of_length_le (Nat.le_refl _)]
theorem ptrim_take_zero (xs : List Nat) (k : Nat) (hk : k < xs.length) (h : xs.getD k 0 = 0) : ptrim (xs.take (k + 1)) = ptrim (xs.take k) := by
  rw [List.take_succ_eq_append_getElem hk, ptrim_snoc, if_pos (by rw [List.getD_eq_getElem?_getD, List.getElem?_eq_getElem hk] at h; exact h)]
theorem ptrim_take_stop (xs : List Nat) (k : Nat) (hk : k < xs.length) (h : xs.getD k 0 ≠ 0) : ptrim (xs.take (k + 1)) = xs.take (k + 1) := by
  rw [List.take_succ_eq_append_getElem hk, ptrim_snoc, if_neg (by rw [List.getD_eq_getElem?_getD, List.getElem?_eq_getElem hk] at h; exact h)]

/-- The cells of a list of uint64 numbers. -/
def U (xs : List Nat) : Array Value := (xs.map fun x : Nat => Value.int .u64 (x : Int)).toArray
/-- Block g is just this list of uint64 numbers, and may be written. -/
def Lst (w : World) (g : Nat) (xs : List Nat) : Prop := w.heap[g]? = some (.cells (U xs) 71 (0, 0))
/-- A slice with this address, as long as the list, reads as the list. -/
def RdA (w : World) (A : Option Addr) (xs : List Nat) : Prop :=
  ∀ k, k < xs.length → ∃ a, A = some a ∧ a.block < w.heap.size ∧ w.cell? (a.add k) = some (.int .u64 (xs.getD k 0 : Nat))

theorem U_get (xs : List Nat) (k : Nat) (h : k < xs.length) : (U xs)[k]? = some (.int .u64 (xs.getD k 0 : Nat)) := by
  simp [U, List.getD_eq_getElem?_getD, List.getElem?_eq_getElem h]
theorem U_set (xs : List Nat) (k x : Nat) : (U xs).setIfInBounds k (.int .u64 (x : Int)) = U (xs.set k x) := by
  simp [U, List.map_set]
theorem block_add (a : Addr) (n : Nat) : (a.add n).block = a.block := by unfold Addr.add; split <;> rfl

section
variable {w w' : World} {g : Nat} {xs : List Nat}
theorem Lst.lt (h : Lst w g xs) : g < w.heap.size := by
  rcases Nat.lt_or_ge g w.heap.size with hlt | hge
  · exact hlt
  · unfold Lst at h; rw [Array.getElem?_eq_none hge] at h; cases h
theorem Lst.cell (h : Lst w g xs) {k : Nat} (hk : k < xs.length) : w.cell? ⟨g, k, none⟩ = some (.int .u64 (xs.getD k 0 : Nat)) :=
  (cell_of_row w g k (U xs) _ (0, 0) h).trans (U_get xs k hk)
theorem Lst.frozen (h : Lst w g xs) (k : Nat) : w.frozen? ⟨g, k, none⟩ = false := by
  unfold Lst at h
  simp [World.frozen?, h]
theorem Lst.set (h : Lst w g xs) (k x : Nat) : Lst (w.setCell ⟨g, k, none⟩ (.int .u64 (x : Int))) g (xs.set k x) := by
  unfold Lst at h ⊢
  rw [← U_set]
  simp [World.setCell, Array.getElem?_modify, h]
theorem Lst.block (h : Lst w g xs) (hb : w'.heap[g]? = w.heap[g]?) : Lst w' g xs := hb.trans h
theorem Lst.below {B : Nat} (h : Lst w g xs) (hb : Below B w w') (hg : g < B) : Lst w' g xs := h.block (hb.block g hg)
theorem Lst.alloc (h : Lst w g xs) (o : Obj) : Lst (w.alloc o) g xs := h.block (Below.heap_alloc w o g h.lt)
theorem Lst.drew (h : Lst w g xs) : Lst w.drew g xs := h
theorem Lst.drewN (h : Lst w g xs) (n : Nat) : Lst (w.drewN n) g xs := h
theorem Lst.grown {row : Option Nat} (h : Lst w g xs) (hb : w.grownBy w' row) (hg : some g ≠ row) : Lst w' g xs := h.block (hb.block g h.lt hg)
theorem Lst.rd (h : Lst w g xs) : RdA w (some ⟨g, 0, none⟩) xs := fun k hk => ⟨_, rfl, h.lt, by
  have := h.cell hk
  have e : (⟨g, 0, none⟩ : Addr).add k = ⟨g, k, none⟩ := by
    unfold Addr.add
    by_cases h0 : k = 0 <;> simp [h0]
  rw [e]; exact this⟩
end
theorem madeU (n : Nat) : madeCells #[.int .u64 0] n = U (List.replicate n 0) := by
  apply Array.ext
  · simp [size_madeCells, U]
  · intro i h1 h2
    simp [madeCells, U, Nat.mod_one]
theorem Lst.new (w : World) (xs : List Nat) : Lst (w.alloc (.cells (U xs) 71)) w.heap.size xs := heap_alloc_new w _

section
variable {w w' : World} {A : Option Addr} {xs : List Nat}
theorem RdA.nil (w : World) (A : Option Addr) : RdA w A [] := fun k hk => absurd hk (by simp)
theorem RdA.keep (h : RdA w A xs) (hs : w.heap.size ≤ w'.heap.size) (hk : ∀ p : Addr, p.block < w.heap.size → w'.cell? p = w.cell? p) : RdA w' A xs := fun k hx => by
  obtain ⟨a, e, hb, hc⟩ := h k hx
  exact ⟨a, e, by omega, (hk _ (by rw [block_add]; exact hb)).trans hc⟩
theorem RdA.below (h : RdA w A xs) (hb : Below w.heap.size w w') : RdA w' A xs := h.keep hb.size fun _ hp => hb.cell hp
theorem RdA.drew (h : RdA w A xs) : RdA w.drew A xs := h
theorem RdA.drewN (h : RdA w A xs) (n : Nat) : RdA (w.drewN n) A xs := h
theorem RdA.take (h : RdA w A xs) (m : Nat) : RdA w A (xs.take m) := fun k hk => by
  rw [List.length_take] at hk
  obtain ⟨a, e, hb, hc⟩ := h k (by omega)
  refine ⟨a, e, hb, ?_⟩
  rw [hc, List.getD_eq_getElem?_getD, List.getD_eq_getElem?_getD, List.getElem?_take_of_lt (by omega)]
end

set_option maxHeartbeats 400000 in
theorem trim_any (A : Option Addr) (n c : Nat) (xs : List Nat) (w : World) (hn : xs.length = n) (h : RdA w A xs) (hc : n ≤ c) (hm : c ≤ maxLen) :
    Calls Tryd.prog 64 #[.slice A n c] w fun e w' => e = .returned (.slice A (ptrim xs).length c) ∧ w = w' := by
  subst hn
  unfold maxLen at hm
  go_enter Tryd.func64, Tryd.ntmps64
  go_wp2
  go_loop [0] (fun z => ∃ k : Nat, k ≤ xs.length ∧ z = .slice A k c ∧ ptrim xs = ptrim (xs.take k)) (fun z => match z with | .slice _ k _ => k | _ => 0)
  case atStart => exact ⟨xs.length, Nat.le_refl _, rfl, by simp⟩
  case round =>
    obtain ⟨k, hk, rfl, hp⟩ := hrel
    have H := Lib.hid hp
    clear hp
    cases k with
    | zero =>
      go_wp2
      go_ret
      exact ⟨by rw [H.out]; rfl, rfl⟩
    | succ k =>
      obtain ⟨a, rfl, hb, hcell⟩ := h k (by omega)
      by_cases h0 : xs.getD k 0 = 0
      · have H2 := Lib.hid (H.out.trans (ptrim_take_zero xs k (by omega) h0))
        rw [h0] at hcell
        clear h0
        go_wp2
        go_round
        case rel => exact ⟨k, by omega, rfl, H2.out⟩
        case measure => simp
      · have h0b : (((xs.getD k 0 : Nat) : Int) == 0) = false := by
          rw [beq_eq_false_iff_ne]; omega
        have H2 := Lib.hid (H.out.trans (ptrim_take_stop xs k (by omega) h0))
        clear h0
        generalize xs.getD k 0 = y at *
        go_wp2
        go_ret
        exact ⟨by rw [H2.out, List.length_take, Nat.min_eq_left hk]; rfl, rfl⟩
end Go.Proofs.YtgadnianjhaeiaaDoor
