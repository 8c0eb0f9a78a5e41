/-
  Results that lie in memory: one, two or three Wides, as the program hands them back.
-/
import Derived.Test.YtgadnianjhaeiaaDoorProd
import Derived.Laws.ResultCell
namespace Go.Proofs.YtgadnianjhaeiaaDoor
open Go.RowKit

/-- Block b is a variable that holds this Wide. -/
def Wd (w : World) (b : Nat) (x : Bool) (s : ByteArray) : Prop := w.heap[b]? = some (.cells #[.bool x, .string s] 27 (0, 0))
section
variable {w w' : World} {b : Nat} {x : Bool} {s : ByteArray}
theorem Wd.lt (h : Wd w b x s) : b < w.heap.size := by
  rcases Nat.lt_or_ge b w.heap.size with hlt | hge
  · exact hlt
  · unfold Wd at h; rw [Array.getElem?_eq_none hge] at h; cases h
theorem Wd.cell0 (h : Wd w b x s) : w.cell? ⟨b, 0, none⟩ = some (.bool x) := cell_of_row w b 0 _ _ _ h
theorem Wd.cell1 (h : Wd w b x s) : w.cell? ⟨b, 1, none⟩ = some (.string s) := cell_of_row w b 1 _ _ _ h
theorem Wd.frozen (h : Wd w b x s) (k : Nat) : w.frozen? ⟨b, k, none⟩ = false := by
  unfold Wd at h
  simp [World.frozen?, h]
theorem Wd.block (h : Wd w b x s) (hb : w'.heap[b]? = w.heap[b]?) : Wd w' b x s := hb.trans h
theorem Wd.below {B : Nat} (h : Wd w b x s) (hb : Below B w w') (hg : b < B) : Wd w' b x s := h.block (hb.block b hg)
theorem Wd.drew (h : Wd w b x s) : Wd w.drew b x s := h
theorem Wd.alloc (h : Wd w b x s) (o : Obj) : Wd (w.alloc o) b x s := h.block (Below.heap_alloc w o b h.lt)
theorem Wd.far (h : Wd w b x s) {p : Addr} (hp : b ≠ p.block) (u : Value) : Wd (w.setCell p u) b x s := h.block (Below.heap_setCell w p u b hp)
theorem Wd.new (w : World) (x : Bool) (s : ByteArray) : Wd (w.alloc (.cells #[.bool x, .string s] 27)) w.heap.size x s := heap_alloc_new w _
theorem Wd.set0 (h : Wd w b x s) (y : Bool) : Wd (w.setCell ⟨b, 0, none⟩ (.bool y)) b y s := by
  unfold Wd at h ⊢
  simp [World.setCell, Array.getElem?_modify, h]
theorem Wd.set1 (h : Wd w b x s) (t : ByteArray) : Wd (w.setCell ⟨b, 1, none⟩ (.string t)) b x t := by
  unfold Wd at h ⊢
  simp [World.setCell, Array.getElem?_modify, h]
theorem Wd.load (h : Wd w b x s) : (loadVar 27 ⟨b, 0, none⟩).run Tryd.prog w = .ok (.agg #[.bool x, .string s]) w := by
  have h0 := h.cell0
  have h1 := h.cell1
  simp [loadVar, go_sem, h0, h1]
end

theorem post_wide {fn : Func} {R : Ending → World → Prop} {a : Act} {w : World} {p : Tmp} {b : Nat} {x : Bool} {s : ByteArray} (h : fn.results = #[.cell p 27])
    (ht : a.tmps.getD p undef = .pointer (some ⟨b, 0, none⟩)) (hw : Wd w b x s) (hd : a.defers = []) (hR : R (.returned (.agg #[.bool x, .string s])) w) : bodyPost Tryd.prog fn R .ret a w := by
  refine bodyPost_ret (v := .agg #[.bool x, .string s]) ?_ hd hR
  have := hw.load
  rw [Array.getD_eq_getD_getElem?] at ht
  simp only [results, h]
  simp [Sem.run_bind, Result.andThen, ht, asAddr, this]
theorem post_wide_wide_tmp {fn : Func} {R : Ending → World → Prop} {a : Act} {w : World} {p q u : Tmp} {b c : Nat} {x y : Bool} {s t : ByteArray} (h : fn.results = #[.cell p 27, .cell q 27, .tmp u])
    (ht : a.tmps.getD p undef = .pointer (some ⟨b, 0, none⟩)) (hq : a.tmps.getD q undef = .pointer (some ⟨c, 0, none⟩)) (hw : Wd w b x s) (hv : Wd w c y t) (hd : a.defers = [])
    (hR : R (.returned (.tuple #[.agg #[.bool x, .string s], .agg #[.bool y, .string t], a.tmps.getD u undef])) w) : bodyPost Tryd.prog fn R .ret a w := by
  refine bodyPost_ret (v := .tuple #[.agg #[.bool x, .string s], .agg #[.bool y, .string t], a.tmps.getD u undef]) ?_ hd hR
  have h1 := hw.load
  have h2 := hv.load
  rw [Array.getD_eq_getD_getElem?] at ht hq
  simp only [results, h]
  simp [Sem.run_bind, Result.andThen, ht, hq, asAddr, h1, h2]
theorem post_wide2 {fn : Func} {R : Ending → World → Prop} {a : Act} {w : World} {p q : Tmp} {b c : Nat} {x y : Bool} {s t : ByteArray} (h : fn.results = #[.cell p 27, .cell q 27])
    (ht : a.tmps.getD p undef = .pointer (some ⟨b, 0, none⟩)) (hq : a.tmps.getD q undef = .pointer (some ⟨c, 0, none⟩)) (hw : Wd w b x s) (hv : Wd w c y t) (hd : a.defers = [])
    (hR : R (.returned (.tuple #[.agg #[.bool x, .string s], .agg #[.bool y, .string t]])) w) : bodyPost Tryd.prog fn R .ret a w := by
  refine bodyPost_ret (v := .tuple #[.agg #[.bool x, .string s], .agg #[.bool y, .string t]]) ?_ hd hR
  have h1 := hw.load
  have h2 := hv.load
  rw [Array.getD_eq_getD_getElem?] at ht hq
  simp only [results, h]
  simp [Sem.run_bind, Result.andThen, ht, hq, asAddr, h1, h2]
theorem post_wide3 {fn : Func} {R : Ending → World → Prop} {a : Act} {w : World} {p q r : Tmp} {b c d : Nat} {x y z : Bool} {s t v : ByteArray} (h : fn.results = #[.cell p 27, .cell q 27, .cell r 27])
    (ht : a.tmps.getD p undef = .pointer (some ⟨b, 0, none⟩)) (hq : a.tmps.getD q undef = .pointer (some ⟨c, 0, none⟩)) (hr : a.tmps.getD r undef = .pointer (some ⟨d, 0, none⟩)) (hw : Wd w b x s) (hv : Wd w c y t) (hu : Wd w d z v) (hd : a.defers = [])
    (hR : R (.returned (.tuple #[.agg #[.bool x, .string s], .agg #[.bool y, .string t], .agg #[.bool z, .string v]])) w) : bodyPost Tryd.prog fn R .ret a w := by
  refine bodyPost_ret (v := .tuple #[.agg #[.bool x, .string s], .agg #[.bool y, .string t], .agg #[.bool z, .string v]]) ?_ hd hR
  have h1 := hw.load
  have h2 := hv.load
  have h3 := hu.load
  rw [Array.getD_eq_getD_getElem?] at ht hq hr
  simp only [results, h]
  simp [Sem.run_bind, Result.andThen, ht, hq, hr, asAddr, h1, h2, h3]
theorem post_wide_tmp {fn : Func} {R : Ending → World → Prop} {a : Act} {w : World} {p u : Tmp} {b : Nat} {x : Bool} {s : ByteArray} (h : fn.results = #[.cell p 27, .tmp u])
    (ht : a.tmps.getD p undef = .pointer (some ⟨b, 0, none⟩)) (hw : Wd w b x s) (hd : a.defers = []) (hR : R (.returned (.tuple #[.agg #[.bool x, .string s], a.tmps.getD u undef])) w) : bodyPost Tryd.prog fn R .ret a w := by
  refine bodyPost_ret (v := .tuple #[.agg #[.bool x, .string s], a.tmps.getD u undef]) ?_ hd hR
  have := hw.load
  rw [Array.getD_eq_getD_getElem?] at ht
  simp only [results, h]
  simp [Sem.run_bind, Result.andThen, ht, asAddr, this]
end Go.Proofs.YtgadnianjhaeiaaDoor
