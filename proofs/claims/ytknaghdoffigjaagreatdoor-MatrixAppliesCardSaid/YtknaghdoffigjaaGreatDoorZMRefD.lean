import Derived.Test.YtknaghdoffigjaaGreatDoorZMRefA
import Derived.Test.YtknaghdoffigjaaGreatDoorZRDig
import Derived.Test.YtknaghdoffigjaaGreatDoorZMCopy
set_option linter.unusedSimpArgs false
set_option linter.unusedVariables false
set_option linter.unnecessarySimpa false
namespace Go.Proofs.YtknaghdoffigjaaGreatDoor
open Go.RowKit Go
set_option maxHeartbeats 4000000 in
theorem rRight_any (r c : Int) (A : Option Addr) (n cap : Nat) (zs : List (Bool × ByteArray)) (w : World) (hr : RdW w A zs) (hn : zs.length = n) (hm : n ≤ maxLen) :
  Calls Tryz.prog 33 #[mat r c A n cap] w fun e w' => e = .returned (.bool (mright r c zs)) ∧ Below w.heap.size w w' := by
 unfold mat
 have hf := fun W => rfits_any r c W
 have hM := Mb.new w r c A n cap
 have hB := alloc_mat w r c A n cap
 have hcan := rCanonical_any A n cap zs _ (hr.below hB) hn hm
 have c0 := hM.cell0
 have c1 := hM.cell1
 have c2 := hM.cell2
 have HB := Lib.hid hB
 have HC := Lib.hid hcan
 clear hM hB hcan
 cases h1 : (msize r && msize c) with
 | false =>
  have hmr : mright r c zs = false := by unfold mright; rw [h1]; rfl
  rw [hmr]
  rw [h1] at hf
  have HF := Lib.hid hf
  clear hf h1 hmr
  go_enter Tryz.func33, Tryz.ntmps33
  go_wp2_with fail
  with_reducible refine (HF.out _).mono ?_
  rintro e w1 ⟨rfl, rfl⟩
  go_wp2
  go_ret
  exact ⟨rfl, HB.out⟩
 | true =>
  rw [h1] at hf
  have HF := Lib.hid hf
  have hb : (0 ≤ r ∧ r ≤ 200) ∧ (0 ≤ c ∧ c ≤ 200) := by
   unfold msize at h1
   simpa using h1
  have hrc : 0 ≤ r * c ∧ r * c ≤ 40000 := by
   obtain ⟨⟨a, b⟩, d, e⟩ := hb
   exact ⟨Int.mul_nonneg a d, Int.le_trans (Int.mul_le_mul b e d (by omega)) (by omega)⟩
  have w1 : wrap64 (r * c) = r * c := IntWalk.wrap64_in _ (by omega)
  cases h2 : decide ((zs.length : Int) = r * c) with
  | false =>
   have hmr : mright r c zs = false := by unfold mright; rw [h1, h2]; rfl
   rw [hmr]
   have hne : ((n : Int) != r * c) = true := by
    rw [bne_iff_ne]
    rw [decide_eq_false_iff_not, hn] at h2
    exact h2
   clear hf h1 h2 hmr hb hn hrc
   go_enter Tryz.func33, Tryz.ntmps33
   go_wp2_with fail
   with_reducible refine (HF.out _).mono ?_
   rintro e w1 ⟨rfl, rfl⟩
   go_wp2
   go_ret
   exact ⟨rfl, HB.out⟩
  | true =>
   have hmr : mright r c zs = !zs.any fun p => ncan p.1 p.2 := by unfold mright; rw [h1, h2]; rfl
   rw [hmr]
   have hne : ((n : Int) != r * c) = false := by
    rw [bne_eq_false_iff_eq]
    rw [decide_eq_true_iff, hn] at h2
    exact h2
   generalize (!zs.any fun p => ncan p.1 p.2) = res at *
   clear hf h1 h2 hmr hb hn hrc
   go_enter Tryz.func33, Tryz.ntmps33
   go_wp2_with fail
   with_reducible refine (HF.out _).mono ?_
   rintro e w1 ⟨rfl, rfl⟩
   go_wp2_with fail
   with_reducible refine HC.out.mono ?_
   rintro e w1 ⟨rfl, rfl⟩
   go_wp2
   go_ret
   exact ⟨rfl, HB.out⟩
end Go.Proofs.YtknaghdoffigjaaGreatDoor
namespace Go.Proofs.YtknaghdoffigjaaGreatDoor
open Go.RowKit Go
attribute [local go_sem] Oper.semAt_some
end Go.Proofs.YtknaghdoffigjaaGreatDoor
namespace Go.Proofs.YtknaghdoffigjaaGreatDoor
open Go.RowKit Go
attribute [local go_sem] Oper.semAt_some
end Go.Proofs.YtknaghdoffigjaaGreatDoor
