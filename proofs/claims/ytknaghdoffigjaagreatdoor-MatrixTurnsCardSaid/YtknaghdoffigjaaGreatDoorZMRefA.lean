/-
  The contracts of the reference's fits and Zero, and of matrix.Zero, One and At where they refuse. The contracts of the reference's Lists, Canonical, Right and At, and of the law's same. The contracts of the reference's Canonical, Right and At. The contracts of the reference's Right and At. The contract of the reference's One.
-/
import Derived.Test.YtknaghdoffigjaaGreatDoorZMEqual
import Derived.Test.YtknaghdoffigjaaGreatDoorZMMul
import Derived.Test.YtknaghdoffigjaaGreatDoorZRDig
set_option linter.unusedSimpArgs false
set_option linter.unusedVariables false
set_option linter.unnecessarySimpa false
namespace Go.Proofs.YtknaghdoffigjaaGreatDoor
open Go.RowKit Go

theorem rfits_any (r c : Int) (w : World) :
    Calls Tryz.prog 62 #[.int .i64 r, .int .i64 c] w fun e w' => e = .returned (.bool (msize r && msize c)) ∧ w' = w := by
  have hm : (msize r && msize c) = (decide (r ≥ 0) && decide (c ≥ 0) && decide (r ≤ 200) && decide (c ≤ 200)) := by
    unfold msize
    by_cases h1 : r ≥ 0 <;> by_cases h2 : c ≥ 0 <;> by_cases h3 : r ≤ 200 <;> by_cases h4 : c ≤ 200 <;> simp [h1, h2, h3, h4]
  rw [hm]
  clear hm
  cases h1 : decide (r ≥ 0) with
  | false =>
    go_enter Tryz.func62, Tryz.ntmps62
    go_wp2
    go_ret
    exact ⟨rfl, rfl⟩
  | true =>
    cases h2 : decide (c ≥ 0) with
    | false =>
      go_enter Tryz.func62, Tryz.ntmps62
      go_wp2
      go_ret
      exact ⟨rfl, rfl⟩
    | true =>
      cases h3 : decide (r ≤ 200) with
      | false =>
        go_enter Tryz.func62, Tryz.ntmps62
        go_wp2
        go_ret
        exact ⟨rfl, rfl⟩
      | true =>
        cases h4 : decide (c ≤ 200) with
        | false =>
          go_enter Tryz.func62, Tryz.ntmps62
          go_wp2
          go_ret
          exact ⟨rfl, rfl⟩
        | true =>
          go_enter Tryz.func62, Tryz.ntmps62
          go_wp2
          go_ret
          exact ⟨rfl, rfl⟩
set_option maxHeartbeats 2000000 in
theorem rZero_fits (r c n : Nat) (w : World) (hr : r ≤ 200) (hc : c ≤ 200) (hn : r * c = n) :
    Calls Tryz.prog 21 #[.int .i64 (r : Int), .int .i64 (c : Int)] w fun e w' =>
      ∃ g, e = .returned (mat r c (some ⟨g, 0, none⟩) n n) ∧ w.heap.size ≤ g ∧ Lw w' g (List.replicate n (false, ⟨#[]⟩)) ∧ Below w.heap.size w w' := by
  have hnn : r * c ≤ 200 * 200 := Nat.mul_le_mul hr hc
  have hf := fun W => rfits_any (r : Int) (c : Int) W
  rw [show (msize (r : Int) && msize (c : Int)) = true by simp [msize]; omega] at hf
  have HF := Lib.hid hf
  have e1 : (r : Int) * (c : Int) = (n : Int) := by rw [← hn, Int.natCast_mul]
  have w1 : wrap64 (n : Int) = n := IntWalk.wrap64_in _ (by omega)
  have hmk := make_wides n (by omega)
  have hM := (Mb.new w (r : Int) (c : Int) (some ⟨w.heap.size + 1, 0, none⟩) n n).alloc (.cells (flat (List.replicate n (false, ⟨#[]⟩))).toArray 32)
  have hL : Lw ((w.alloc (.cells #[.int .i64 (r : Int), .int .i64 (c : Int), .slice (some ⟨w.heap.size + 1, 0, none⟩) n n] 28)).alloc (.cells (flat (List.replicate n (false, ⟨#[]⟩))).toArray 32)) (w.alloc (.cells #[.int .i64 (r : Int), .int .i64 (c : Int), .slice (some ⟨w.heap.size + 1, 0, none⟩) n n] 28)).heap.size (List.replicate n (false, ⟨#[]⟩)) := heap_alloc_new _ _
  have hB := below2 w (.cells #[.int .i64 (r : Int), .int .i64 (c : Int), .slice (some ⟨w.heap.size + 1, 0, none⟩) n n] 28) (.cells (flat (List.replicate n (false, ⟨#[]⟩))).toArray 32)
  clear hf hn hnn
  go_enter Tryz.func21, Tryz.ntmps21
  go_wp2_with fail
  with_reducible refine (HF.out _).mono ?_
  rintro e w1 ⟨rfl, rfl⟩
  go_wp2
  exact post_mat (b := w.heap.size) rfl rfl hM rfl ⟨w.heap.size + 1, rfl, by omega, by simpa using hL, hB⟩
end Go.Proofs.YtknaghdoffigjaaGreatDoor
namespace Go.Proofs.YtknaghdoffigjaaGreatDoor
open Go.RowKit Go

end Go.Proofs.YtknaghdoffigjaaGreatDoor
namespace Go.Proofs.YtknaghdoffigjaaGreatDoor
open Go.RowKit Go

end Go.Proofs.YtknaghdoffigjaaGreatDoor
namespace Go.Proofs.YtknaghdoffigjaaGreatDoor
open Go.RowKit Go

end Go.Proofs.YtknaghdoffigjaaGreatDoor
namespace Go.Proofs.YtknaghdoffigjaaGreatDoor
open Go.RowKit Go
attribute [local go_sem] Oper.semAt_some

end Go.Proofs.YtknaghdoffigjaaGreatDoor
