/-
  The contract of the statements' WideParses: it returns true, whatever string, bytes and byte come in.
-/
import Derived.Test.YthbkgofpblganaaDoorRParse
import Derived.Test.YthbkgofpblganaaDoorNumW
namespace Go.Proofs.YthbkgofpblganaaDoor
open Go.RowKit

set_option maxRecDepth 100000 in
theorem neq_same (x : Bool) (s : ByteArray) (w : World) : (binOp .neq 27 (.agg #[.bool x, .string s]) (.agg #[.bool x, .string s])).run Tryd.prog w = .ok (.bool false) w := by
  have h := eq_same x s w
  rw [run_eql_struct] at h
  rw [run_neq_struct]
  generalize (Op.equalIn 10000 27 (.agg #[.bool x, .string s]) (.agg #[.bool x, .string s])).run Tryd.prog w = R at *
  cases R with
  | ok b w' =>
    simp only [Result.andThen] at h ⊢
    injection h with h1 h2
    injection h1 with h1
    subst h1 h2
    rfl
  | halt e w' => simp only [Result.andThen] at h; cases h

/-- []byte{b} becomes a string of one byte. -/
theorem conv_one (w : World) (y : Int) : (convert 22 9 (.slice (some ⟨w.heap.size, 0, none⟩) 1 1)).run Tryd.prog (w.alloc (.cells #[.int .u8 y] 5)) = .ok (.string (strOfNums [y])) (w.alloc (.cells #[.int .u8 y] 5)) :=
  run_convert_bytes_arg (P := Tryd.prog) _ 22 5 Tryd.underlying22 Tryd.underlying5 w.heap.size 0 1 1 [y] rfl (fun i hi => by
    obtain rfl : i = 0 := by omega
    exact cell_of_row _ w.heap.size 0 _ _ (0, 0) (heap_alloc_new w _)) 9 Tryd.underlying9

/-- Bytes as they come in, in this world. -/
def Bs (w : World) (A : Option Addr) (n : Nat) : Prop := ∃ xs : List Int, RdY w A xs ∧ xs.length = n ∧ (∀ k, 0 ≤ xs.getD k 0 ∧ xs.getD k 0 ≤ 255) ∧ n ≤ maxLen

theorem s45 : (⟨#[45]⟩ : ByteArray).size = 1 := rfl
theorem s4545 : (⟨#[45, 45]⟩ : ByteArray).size = 2 := rfl
/-- The five strings of the statement. -/
def arr5 (a b c d e : ByteArray) : Nat → ByteArray
  | 0 => a | 1 => b | 2 => c | 3 => d | _ => e
theorem arr5_cell (w : World) (g : Nat) (a b c d e : ByteArray) (h : w.heap[g]? = some (.cells #[.string a, .string b, .string c, .string d, .string e] 51 (0, 0))) (k : Nat) (hk : k < 5) : w.cell? ⟨g, k, none⟩ = some (.string (arr5 a b c d e k)) := by
  rw [cell_of_row w g k _ _ (0, 0) h]
  match k, hk with
  | 0, _ => rfl
  | 1, _ => rfl
  | 2, _ => rfl
  | 3, _ => rfl
  | 4, _ => rfl
theorem arr5_size {a b c d e : ByteArray} {m : Nat} (h1 : a.size ≤ m) (h2 : b.size ≤ m) (h3 : c.size ≤ m) (h4 : d.size ≤ m) (h5 : e.size ≤ m) (k : Nat) : (arr5 a b c d e k).size ≤ m := by
  unfold arr5; split <;> assumption

set_option maxRecDepth 100000 in
set_option maxHeartbeats 4000000 in
theorem Parses_any (s : ByteArray) (A : Option Addr) (n c : Nat) (z : Int) (w : World) (hs : s.size ≤ maxLen) (hl : Bs w A n) (hz : 0 ≤ z ∧ z ≤ 255) :
    Calls Tryd.prog 10 #[.string s, .slice A n c, .int .u8 z] w
      fun e w' => e = .returned (.bool true) ∧ Below w.heap.size w w' := by
  unfold maxLen at hs
  obtain ⟨xs, hrd, hln, hby, hnm⟩ := hl
  unfold maxLen at hnm
  obtain ⟨m, hm⟩ : ∃ m : Nat, m = min s.size 60 := ⟨_, rfl⟩
  have hmin : min (s.size : Int) 60 = (m : Int) := by omega
  have hm60 : m ≤ 60 := by omega
  have hms : m ≤ s.size := by omega
  have hxs : (s.extract 0 m).size ≤ 60 := by simp; omega
  have Hrd := Lib.hid hrd
  have Hln := Lib.hid hln
  have Hby := Lib.hid hby
  clear hrd hln hby hm
  go_enter Tryd.func10, Tryd.ntmps10
  go_wp2_with fail
  refine (sanity_true _).mono ?_
  rintro e w1 ⟨rfl, hb1⟩
  have hB := Lib.hid hb1
  clear hb1
  go_wp2_with fail
  generalize s.extract 0 m = X at *
  go_loopw [9, 10] (fun t i wr => ∃ (k : Nat) (T : ByteArray), i = .int .i64 k ∧ k ≤ n ∧ k ≤ 60 ∧ t = .string T ∧ T.size ≤ k ∧ Below w.heap.size w wr)
    (fun _ i _ => 60 - (intOf i).toNat)
  case atStart => exact ⟨0, ⟨#[]⟩, rfl, by omega, by omega, rfl, Nat.le_refl _, hB.out⟩
  case round =>
    obtain ⟨k, T, rfl, hkn, hk60, rfl, hT, hbel⟩ := hrel
    have Hbel := Lib.hid hbel
    clear hbel
    by_cases hlt : k < n ∧ k < 60
    · obtain ⟨h1, h2⟩ := hlt
      obtain ⟨a, rfl, hab, hca0⟩ := Hrd.out k (by rw [Hln.out]; exact h1)
      have hca := (Hbel.out.cell (p := a.add k) (by rw [block_add]; exact hab)).trans hca0
      obtain ⟨y1, y2⟩ := Hby.out k
      clear hca0
      generalize xs.getD k 0 = y at *
      have hcv := conv_one wr (48 + y % 10)
      have hsz : (T ++ strOfNums [48 + y % 10]).size ≤ k + 1 := by
        rw [ByteArray.size_append, strOfNums_size]; simp; omega
      have hov : ¬ 9223372036854775807 < T.size + (strOfNums [48 + y % 10]).size := by rw [strOfNums_size]; simp; omega
      have Hsz := Lib.hid hsz
      have hB2 := Lib.hid (Hbel.out.alloc Hbel.out.size (.cells #[.int .u8 (48 + y % 10)] 5))
      clear hsz
      go_wp2
      go_roundw
      case rel => exact ⟨k + 1, _, by go_num, by omega, by omega, rfl, Hsz.out, hB2.out⟩
      case measure => simp [intOf]; omega
    · have hv1 := conv_one wr z
      have hv2 : (T ++ strOfNums [z]).size ≤ 61 := by
        rw [ByteArray.size_append, strOfNums_size]; simp; omega
      have hv3 : (T ++ strOfNums [z] ++ X).size ≤ 121 := by rw [ByteArray.size_append]; omega
      have hv4 : ((⟨#[45]⟩ : ByteArray) ++ T).size ≤ 121 := by rw [ByteArray.size_append, s45]; omega
      have hv5 : ((⟨#[45, 45]⟩ : ByteArray) ++ T).size ≤ 121 := by rw [ByteArray.size_append, s4545]; omega
      have ho1 : ¬ 9223372036854775807 < T.size + (strOfNums [z]).size := by rw [strOfNums_size]; simp; omega
      have ho2 : ¬ 9223372036854775807 < (T ++ strOfNums [z]).size + X.size := by omega
      have ho3 : ¬ 9223372036854775807 < (⟨#[45]⟩ : ByteArray).size + T.size := by rw [s45]; omega
      have ho4 : ¬ 9223372036854775807 < (⟨#[45, 45]⟩ : ByteArray).size + T.size := by rw [s4545]; omega
      by_cases hk1 : k < n
      all_goals
        have hk2 : ¬ k < n ∨ ¬ k < 60 := by omega
        go_wp2_with fail
        generalize T ++ strOfNums [z] ++ X = O at *
        generalize (⟨#[45]⟩ : ByteArray) ++ T = M1 at *
        generalize (⟨#[45, 45]⟩ : ByteArray) ++ T = M2 at *
        have hsize := arr5_size (m := 121) (a := X) (b := T) (c := M1) (d := M2) (e := O) (by omega) (by omega) hv4 hv5 hv3
        have hA : ((wr.alloc (.cells #[.int .u8 z] 5)).alloc (.cells #[.string X, .string T, .string M1, .string M2, .string O] 51)).heap[wr.heap.size + 1]? = some (.cells #[.string X, .string T, .string M1, .string M2, .string O] 51 (0, 0)) := by
          have := heap_alloc_new (wr.alloc (.cells #[.int .u8 z] 5)) (.cells #[.string X, .string T, .string M1, .string M2, .string O] 51)
          simpa using this
        have hB2 : Below w.heap.size w ((wr.alloc (.cells #[.int .u8 z] 5)).alloc (.cells #[.string X, .string T, .string M1, .string M2, .string O] 51)) := (Hbel.out.alloc Hbel.out.size _).alloc (by have := Hbel.out.size; simp; omega) _
        have hcells := fun W h => arr5_cell W (wr.heap.size + 1) X T M1 M2 O h
        generalize hF : arr5 X T M1 M2 O = F at *
        have HA := Lib.hid hA
        have HB2 := Lib.hid hB2
        have HC := Lib.hid hcells
        have HF := Lib.hid hsize
        clear hA hB2 hcells hsize hF hv1 hv2 hv3 hv4 hv5 ho1 ho2 ho3 ho4
        generalize wr.heap.size + 1 = g at *
        generalize (wr.alloc (.cells #[.int .u8 z] 5)).alloc (.cells #[.string X, .string T, .string M1, .string M2, .string O] 51) = W2 at *
        go_loopw [13, 14, 15, 16, 17] (fun i _ _ _ _ w2 => ∃ k : Nat, i = .int .i64 k ∧ k ≤ 5 ∧ w2.heap[g]? = some (.cells #[.string X, .string T, .string M1, .string M2, .string O] 51 (0, 0)) ∧ Below w.heap.size w w2)
          (fun i _ _ _ _ _ => 5 - (intOf i).toNat)
        case atStart => exact ⟨0, rfl, by omega, HA.out, HB2.out⟩
        case round =>
          obtain ⟨k, rfl, hk, hAr, hbel⟩ := hrel
          have HAr := Lib.hid hAr
          have Hbel := Lib.hid hbel
          have hgl : g < wr.heap.size := by
            rcases Nat.lt_or_ge g wr.heap.size with h | h
            · exact h
            · rw [Array.getElem?_eq_none h] at hAr; cases hAr
          clear hAr hbel
          by_cases hk5 : k < 5
          · have c0 := HC.out wr HAr.out k hk5
            have hsz := HF.out k
            have hp := fun W => Parse_any (F k) W (by omega)
            have hr := fun W => RParse_any (F k) W (by omega)
            simp only [wv_def] at hp hr
            have hne := neq_same (wneg (parseS (F k).data.toList).1) (wmag (parseS (F k).data.toList).1)
            generalize wneg (parseS (F k).data.toList).1 = x1 at *
            generalize wmag (parseS (F k).data.toList).1 = s1 at *
            generalize (parseS (F k).data.toList).2 = b1 at *
            have HP := Lib.hid hp
            have HR := Lib.hid hr
            clear hp hr
            go_wp2_with fail
            with_reducible refine (HP.out _).mono ?_
            rintro e w3 ⟨rfl, hb3⟩
            have hB3 := Hbel.out.trans (hb3.mono Hbel.out.size)
            have hA3 := (hb3.block g hgl).trans HAr.out
            have hg3 : g < w3.heap.size := Nat.lt_of_lt_of_le hgl hb3.size
            have hA3' := (Below.heap_alloc w3 (wbox x1 s1) g hg3).trans hA3
            have c3 := HC.out _ hA3' k hk5
            have d3 := Wd.new w3 x1 s1
            have hB3' := hB3.alloc hB3.size (wbox x1 s1)
            have hg3' : g < (w3.alloc (wbox x1 s1)).heap.size := by simp; omega
            clear c0 hb3
            go_wp2_with fail
            generalize w3.heap.size = ga at *
            generalize w3.alloc (wbox x1 s1) = W3 at *
            with_reducible refine (HR.out _).mono ?_
            rintro e w4 ⟨rfl, hb4⟩
            have hB4 := hB3'.trans (hb4.mono hB3'.size)
            have hA4 := (hb4.block g hg3').trans hA3'
            have d4 := d3.below hb4 d3.lt
            have hg4 : g < w4.heap.size := Nat.lt_of_lt_of_le hg3' hb4.size
            have hA4' := Lib.hid ((Below.heap_alloc w4 (wbox x1 s1) g hg4).trans hA4)
            have d4' := d4.alloc (wbox x1 s1)
            have e4 := Wd.new w4 x1 s1
            have hB4' := Lib.hid (hB4.alloc hB4.size (wbox x1 s1))
            have p0 := d4'.cell0
            have p1 := d4'.cell1
            have q0 := e4.cell0
            have q1 := e4.cell1
            clear c3 hb4 hA4 hB4 d4 d3 hA3' hB3'
            cases b1
            all_goals
              go_wp2
              go_roundw
              case rel => exact ⟨k + 1, by go_num, by omega, hA4'.out, hB4'.out⟩
              case measure => simp [intOf]; omega
          · obtain rfl : k = 5 := by omega
            go_wp2
            go_ret
            exact ⟨rfl, Hbel.out⟩
end Go.Proofs.YthbkgofpblganaaDoor
