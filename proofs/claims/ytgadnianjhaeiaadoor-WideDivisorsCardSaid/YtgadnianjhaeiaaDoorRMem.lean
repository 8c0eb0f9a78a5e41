/-
  Words for memory: a block that holds a list of int numbers; a slice that reads as such a list. And the contract of the reference's trim.
-/
import Derived.Test.YtgadnianjhaeiaaDoorMem
import Derived.Test.YtgadnianjhaeiaaDoorRNum
namespace Go.Proofs.YtgadnianjhaeiaaDoor
open Go.RowKit

/-- The cells of a list of int numbers. -/
def J (xs : List Nat) : Array Value := (xs.map fun x : Nat => Value.int .i64 (x : Int)).toArray
/-- Block g is just this list of int numbers, and may be written. -/
def Jst (w : World) (g : Nat) (xs : List Nat) : Prop := w.heap[g]? = some (.cells (J xs) 3 (0, 0))
/-- A slice with this address, as long as the list, reads as the list. -/
def RdJ (w : World) (A : Option Addr) (xs : List Nat) : Prop :=
  ∀ k, k < xs.length → ∃ a, A = some a ∧ a.block < w.heap.size ∧ w.cell? (a.add k) = some (.int .i64 (xs.getD k 0 : Nat))

theorem J_get (xs : List Nat) (k : Nat) (h : k < xs.length) : (J xs)[k]? = some (.int .i64 (xs.getD k 0 : Nat)) := by
  simp [J, List.getD_eq_getElem?_getD, List.getElem?_eq_getElem h]
theorem J_set (xs : List Nat) (k x : Nat) : (J xs).setIfInBounds k (.int .i64 (x : Int)) = J (xs.set k x) := by
  simp [J, List.map_set]

section
variable {w w' : World} {g : Nat} {xs : List Nat}
theorem Jst.lt (h : Jst w g xs) : g < w.heap.size := by
  rcases Nat.lt_or_ge g w.heap.size with hlt | hge
  · exact hlt
  · unfold Jst at h; rw [Array.getElem?_eq_none hge] at h; cases h
theorem Jst.cell (h : Jst w g xs) {k : Nat} (hk : k < xs.length) : w.cell? ⟨g, k, none⟩ = some (.int .i64 (xs.getD k 0 : Nat)) :=
  (cell_of_row w g k (J xs) _ (0, 0) h).trans (J_get xs k hk)
theorem Jst.frozen (h : Jst w g xs) (k : Nat) : w.frozen? ⟨g, k, none⟩ = false := by
  unfold Jst at h
  simp [World.frozen?, h]
theorem Jst.set (h : Jst w g xs) (k x : Nat) : Jst (w.setCell ⟨g, k, none⟩ (.int .i64 (x : Int))) g (xs.set k x) := by
  unfold Jst at h ⊢
  rw [← J_set]
  simp [World.setCell, Array.getElem?_modify, h]
theorem Jst.block (h : Jst w g xs) (hb : w'.heap[g]? = w.heap[g]?) : Jst w' g xs := hb.trans h
theorem Jst.below {B : Nat} (h : Jst w g xs) (hb : Below B w w') (hg : g < B) : Jst w' g xs := h.block (hb.block g hg)
theorem Jst.alloc (h : Jst w g xs) (o : Obj) : Jst (w.alloc o) g xs := h.block (Below.heap_alloc w o g h.lt)
theorem Jst.drew (h : Jst w g xs) : Jst w.drew g xs := h
theorem Jst.drewN (h : Jst w g xs) (n : Nat) : Jst (w.drewN n) g xs := h
theorem Jst.grown {row : Option Nat} (h : Jst w g xs) (hb : w.grownBy w' row) (hg : some g ≠ row) : Jst w' g xs := h.block (hb.block g h.lt hg)
theorem Jst.rd (h : Jst w g xs) : RdJ w (some ⟨g, 0, none⟩) xs := fun k hk => ⟨_, rfl, h.lt, by
  have := h.cell hk
  have e : (⟨g, 0, none⟩ : Addr).add k = ⟨g, k, none⟩ := by
    unfold Addr.add
    by_cases h0 : k = 0 <;> simp [h0]
  rw [e]; exact this⟩
end
theorem madeJ (n : Nat) : madeCells #[.int .i64 0] n = J (List.replicate n 0) := by
  apply Array.ext
  · simp [size_madeCells, J]
  · intro i h1 h2
    simp [madeCells, J, Nat.mod_one]
theorem Jst.new (w : World) (xs : List Nat) : Jst (w.alloc (.cells (J xs) 3)) w.heap.size xs := heap_alloc_new w _

section
variable {w w' : World} {A : Option Addr} {xs : List Nat}
theorem RdJ.nil (w : World) (A : Option Addr) : RdJ w A [] := fun k hk => absurd hk (by simp)
theorem RdJ.keep (h : RdJ w A xs) (hs : w.heap.size ≤ w'.heap.size) (hk : ∀ p : Addr, p.block < w.heap.size → w'.cell? p = w.cell? p) : RdJ w' A xs := fun k hx => by
  obtain ⟨a, e, hb, hc⟩ := h k hx
  exact ⟨a, e, by omega, (hk _ (by rw [block_add]; exact hb)).trans hc⟩
theorem RdJ.below (h : RdJ w A xs) (hb : Below w.heap.size w w') : RdJ w' A xs := h.keep hb.size fun _ hp => hb.cell hp
theorem RdJ.drew (h : RdJ w A xs) : RdJ w.drew A xs := h
theorem RdJ.drewN (h : RdJ w A xs) (n : Nat) : RdJ (w.drewN n) A xs := h
theorem RdJ.take (h : RdJ w A xs) (m : Nat) : RdJ w A (xs.take m) := fun k hk => by
  rw [List.length_take] at hk
  obtain ⟨a, e, hb, hc⟩ := h k (by omega)
  refine ⟨a, e, hb, ?_⟩
  rw [hc, List.getD_eq_getElem?_getD, List.getD_eq_getElem?_getD, List.getElem?_take_of_lt (by omega)]
end

set_option maxHeartbeats 400000 in
theorem reftrim_any (A : Option Addr) (n c : Nat) (xs : List Nat) (w : World) (hn : xs.length = n) (h : RdJ w A xs) (hc : n ≤ c) (hm : c ≤ maxLen) :
    Calls Tryd.prog 73 #[.slice A n c] w fun e w' => e = .returned (.slice A (ptrim xs).length c) ∧ w = w' := by
  subst hn
  unfold maxLen at hm
  go_enter Tryd.func73, Tryd.ntmps73
  go_wp2
  go_loop [0] (fun z => ∃ k : Nat, k ≤ xs.length ∧ z = .slice A k c ∧ ptrim xs = ptrim (xs.take k)) (fun z => match z with | .slice _ k _ => k | _ => 0)
  case atStart => exact ⟨xs.length, Nat.le_refl _, rfl, by simp⟩
  case round =>
    obtain ⟨k, hk, rfl, hp⟩ := hrel
    have H := Lib.hid hp
    clear hp
    cases k with
    | zero =>
      go_wp2
      go_ret
      exact ⟨by rw [H.out]; rfl, rfl⟩
    | succ k =>
      obtain ⟨a, rfl, hb, hcell⟩ := h k (by omega)
      by_cases h0 : xs.getD k 0 = 0
      · have H2 := Lib.hid (H.out.trans (ptrim_take_zero xs k (by omega) h0))
        rw [h0] at hcell
        clear h0
        go_wp2
        go_round
        case rel => exact ⟨k, by omega, rfl, H2.out⟩
        case measure => simp
      · have h0b : (((xs.getD k 0 : Nat) : Int) == 0) = false := by
          rw [beq_eq_false_iff_ne]; omega
        have H2 := Lib.hid (H.out.trans (ptrim_take_stop xs k (by omega) h0))
        clear h0
        generalize xs.getD k 0 = y at *
        go_wp2
        go_ret
        exact ⟨by rw [H2.out, List.length_take, Nat.min_eq_left hk]; rfl, rfl⟩
end Go.Proofs.YtgadnianjhaeiaaDoor
