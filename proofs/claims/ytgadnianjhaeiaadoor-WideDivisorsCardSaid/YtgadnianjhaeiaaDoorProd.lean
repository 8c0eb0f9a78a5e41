/-
  The contract of wide.product.
-/
import Derived.Test.YtgadnianjhaeiaaDoorMul
namespace Go.Proofs.YtgadnianjhaeiaaDoor
open Go.RowKit

theorem slice_parts (A : Option Addr) (n c lo hi : Nat) (h1 : lo ≤ hi) (h2 : hi ≤ c) (w : World) :
    (Instr.slice 58 (.slice A n c) (some (.int .i64 (lo : Int))) (some (.int .i64 (hi : Int))) none).run Tryd.prog w = .ok (.slice (if c = lo then A else A.map (·.add lo)) (hi - lo) (c - lo)) w := by
  have h := run_slice_lh (P := Tryd.prog) (w := w) 58 A n c (by kernel_rfl) .i64 .i64 (lo : Int) (hi : Int) (by omega) (by omega) (by omega)
  rw [h]
  have e : Tryd.prog.elem 58 = 71 := by kernel_rfl
  rw [e, Tryd.sizeOf71]
  simp [Result.andThen, sliced]

set_option maxHeartbeats 2000000 in
theorem product_any (A B : Option Addr) (na nb ca cb : Nat) (xs ys : List Nat) (w : World) (hna : xs.length = na) (hnb : ys.length = nb) (hx : RdA w A xs) (hy : RdA w B ys) (lx : Limbs xs) (ly : Limbs ys)
    (nx : na ≤ 1099511627776) (ny : nb ≤ 1099511627776) :
    Calls Tryd.prog 54 #[.slice A na ca, .slice B nb cb] w fun e w' => RetO w w' e (limbs (pval xs * pval ys)) := by
  have hmk := make_parts (na + nb) (by omega)
  have e1 : (((na + nb : Nat)) : Int) = (na : Int) + (nb : Int) := by omega
  rw [e1] at hmk
  have Hna := Lib.hid hna
  have Hnb := Lib.hid hnb
  clear hna hnb e1
  go_enter Tryd.func54, Tryd.ntmps54
  go_wp2
  obtain ⟨g, hg⟩ : ∃ g, g = w.heap.size := ⟨_, rfl⟩
  have hL0 : Lst (w.alloc (.cells (U (List.replicate (na + nb) 0)) 71)) g (List.replicate (na + nb) 0) := by rw [hg]; exact Lst.new _ _
  have hB0 : Below g w (w.alloc (.cells (U (List.replicate (na + nb) 0)) 71)) := (Below.refl _ _).alloc (by omega) _
  rw [← hg]
  have Hg := Lib.hid hg
  clear hg hmk
  go_loopw [15] (fun i wr => ∃ k : Nat, k ≤ na ∧ i = .int .i64 k ∧ Lst wr g (prN xs ys k) ∧ Below g w wr)
    (fun i _ => na - (intOf i).toNat)
  case atStart => exact ⟨0, Nat.zero_le _, rfl, by rw [show prN xs ys 0 = List.replicate (na + nb) 0 from by rw [← Hna.out, ← Hnb.out]; rfl]; exact hL0, hB0⟩
  case round =>
    obtain ⟨k, hk, rfl, hL, hB⟩ := hrel
    have hlen := prN_length xs ys k
    rw [Hna.out, Hnb.out] at hlen
    have hlim := prN_limbs xs ys lx ly k
    by_cases hlt : k < na
    · have hBw : Below w.heap.size w wr := by rw [← Hg.out]; exact hB
      obtain ⟨a, rfl, hab, hac⟩ := hx.below hBw k (by rw [Hna.out]; omega)
      have HC := Lib.hid (fun T ct (hT : 0 < nb → T = some ⟨g, k, none⟩) (W : World) (h1 : Lst W g (prN xs ys k)) (h2 : Below w.heap.size w W) =>
        addMultiple_any T B nb ct cb g k (xs.getD k 0) (prN xs ys k) ys w W Hnb.out hT h1 (by omega) hy h2 (by rw [← Hg.out]; exact Nat.le_refl _) ly hlim (lx.getD k) (by omega))
      have hlen2 := amN_length k ys (xs.getD k 0) (prN xs ys k) nb
      have hok := amN_ok k ys (xs.getD k 0) (prN xs ys k) ly (lx.getD k) hlim nb
      have hpr : prN xs ys (k + 1) = (amN k ys (xs.getD k 0) (prN xs ys k) nb).1.set (k + nb) (amN k ys (xs.getD k 0) (prN xs ys k) nb).2 := by
        rw [← Hnb.out]; rfl
      have HPR := Lib.hid hpr
      clear hpr
      generalize xs.getD k 0 = x at *
      generalize hq : amN k ys x (prN xs ys k) nb = q at *
      have hlen3 : q.1.length = na + nb := by rw [hlen2, hlen]
      have HL3 := Lib.hid hlen3
      clear hlen2 hlen hq hlen3
      have hsl := slice_parts (some ⟨g, 0, none⟩) (na + nb) (na + nb) k (k + nb) (by omega) (by omega)
      rw [if_neg (by omega), show k + nb - k = nb from by omega, show (((k + nb : Nat)) : Int) = (k : Int) + nb from by omega, show (some (⟨g, 0, none⟩ : Addr)).map (·.add k) = some ⟨g, k, none⟩ from by simp [Addr.add]; omega] at hsl
      have hw1 : IntKind.i64.wrap ((k : Int) + nb) = (k : Int) + nb := IntWalk.i64_in _ (by omega)
      have hw2 : (0 : Int) ≤ (k : Int) + nb := by omega
      have hw3 : ((k : Int) + nb).toNat = k + nb := by omega
      have hw4 : (k : Int) + nb < ((na + nb : Nat) : Int) := by omega
      go_wp2
      go_region_with (go_at_call 78; (with_reducible refine (HC.out _ _ (fun _ => rfl) _ hL.drew hBw.drew).mono ?_); rintro e w' ⟨rfl, hL', hG'⟩; have hcell2 := hL'.cell (k := k + nb) (by rw [HL3.out]; omega); have hfr2 := hL'.frozen (k + nb))
      have hB2 : Below g w w' := hB.drew.grown hG' (Nat.le_of_lt hL.lt) (by intro j hj; cases hj; exact Nat.le_refl _)
      have hB3 := hB2.setCell (p := ⟨g, k + nb, none⟩) (Nat.le_refl g) (.int .u64 (q.2 : Int))
      have hL4 : Lst (w'.setCell ⟨g, k + nb, none⟩ (.int .u64 (q.2 : Int))) g (prN xs ys (k + 1)) := by rw [HPR.out]; exact hL'.set _ _
      go_wp2
      go_roundw
      case rel => exact ⟨k + 1, by omega, by go_num, hL4, hB3⟩
      case measure => simp [intOf]; omega
    · obtain rfl : k = na := by omega
      have hval := prN_val xs ys k (by rw [Hna.out]; exact Nat.le_refl _)
      rw [List.take_of_length_le (by rw [Hna.out]; exact Nat.le_refl _)] at hval
      have Hvz := Lib.hid hval
      have Hlz := Lib.hid hlen
      clear hval hlen
      generalize prN xs ys k = zs at *
      go_wp2_with fail
      with_reducible refine (trim_any _ _ _ zs _ Hlz.out hL.rd (Nat.le_refl _) (by unfold maxLen; omega)).mono ?_
      rintro e w' ⟨rfl, rfl⟩
      go_wp2
      go_ret
      have hr := RetO.trimmed Hg.out hL hlim hB (by rw [Hlz.out]; unfold maxLen; omega)
      rw [Hlz.out, Hvz.out] at hr
      exact hr
end Go.Proofs.YtgadnianjhaeiaaDoor
