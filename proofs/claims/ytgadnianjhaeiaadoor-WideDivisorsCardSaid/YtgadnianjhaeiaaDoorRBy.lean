/-
  The contract of the reference's by: the digits of a number times one digit.
-/
import Derived.Test.YtgadnianjhaeiaaDoorRLay
namespace Go.Proofs.YtgadnianjhaeiaaDoor
open Go.RowKit

theorem Jst.new1 (w : World) (d : Nat) : RdJ (w.alloc (.cells #[.int .i64 (d : Int)] 3)) (some ⟨w.heap.size, 0, none⟩) [d] := (Jst.new w [d]).rd
theorem Rz.one (w : World) (d : Nat) (hd : d < 65536) : Rz (w.alloc (.cells #[.int .i64 (d : Int)] 3)) (some ⟨w.heap.size, 0, none⟩) 1 1 d :=
  ⟨[d], Jst.new1 w d, rfl, Nat.le_refl _, by unfold maxLen; omega, Qds.cons (by rw [C16_eq]; exact hd) Qds.nil, by simp [qval]⟩

set_option maxHeartbeats 1000000 in
theorem rby (A : Option Addr) (n ca N d : Nat) (w : World) (h1 : Rz w A n ca N) (nx : n ≤ 999) (hd : d < 65536) :
    Calls Tryd.prog 72 #[.slice A n ca, .int .i64 (d : Int)] w fun e w' => ∃ C k c, e = .returned (.slice C k c) ∧ k ≤ n + 1 ∧ Rq w' C k c (N * d) ∧ Below w.heap.size w w' := by
  have hB1 : Below w.heap.size w (w.alloc (.cells #[.int .i64 (d : Int)] 3)) := (Below.refl _ _).alloc (Nat.le_refl _) _
  have ht := Lib.hid (rtimes A _ n 1 ca 1 N d _ (h1.below hB1) (Rz.one w d hd) (by omega) (by omega))
  go_enter Tryd.func72, Tryd.ntmps72
  go_wp2_with fail
  with_reducible refine ht.out.mono ?_
  rintro e w2 ⟨C, k, c, rfl, hk, hr, hb⟩
  go_wp2
  go_ret
  exact ⟨C, k, c, rfl, hk, hr, hB1.trans (hb.mono hB1.size)⟩
theorem rby10 (A : Option Addr) (n ca N : Nat) (w : World) (h1 : Rz w A n ca N) (nx : n ≤ 999) :
    Calls Tryd.prog 72 #[.slice A n ca, .int .i64 10] w fun e w' => ∃ C k c, e = .returned (.slice C k c) ∧ k ≤ n + 1 ∧ Rq w' C k c (N * 10) ∧ Below w.heap.size w w' := rby A n ca N 10 w h1 nx (by omega)
theorem rtrim1 (A : Option Addr) (d : Nat) (w : World) (h : RdJ w A [d]) :
    Calls Tryd.prog 73 #[.slice A 1 1] w fun e w' => e = .returned (.slice A (ptrim [d]).length 1) ∧ w = w' := reftrim_any A 1 1 [d] w rfl h (by omega) (by unfold maxLen; omega)
end Go.Proofs.YtgadnianjhaeiaaDoor
