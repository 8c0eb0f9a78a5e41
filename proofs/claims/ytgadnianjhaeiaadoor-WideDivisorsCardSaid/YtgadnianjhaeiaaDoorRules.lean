/-
  The contract of the statements' WideRules: it returns true, whatever three numbers come in.
-/
import Derived.Test.YtgadnianjhaeiaaDoorNumW
namespace Go.Proofs.YtgadnianjhaeiaaDoor
open Go.RowKit

/-- A number as it comes in, in this world: its slice reads. -/
def Nm (w : World) (A : Option Addr) (n c : Nat) (z : Int) : Prop :=
  ∃ xs : List Int, RdY w A xs ∧ xs.length = n ∧ (A = none → n = 0 ∧ c = 0) ∧ n ≤ 140737488351232 ∧ -9223372036854775808 ≤ z ∧ z ≤ 9223372036854775807
theorem Nm.below {w w' : World} {A : Option Addr} {n c : Nat} {z : Int} (h : Nm w A n c z) (hb : Below w.heap.size w w') : Nm w' A n c z := by
  obtain ⟨xs, h1, h2⟩ := h
  exact ⟨xs, h1.below hb, h2⟩
theorem Nm.call {w : World} {A : Option Addr} {n c : Nat} {z : Int} (h : Nm w A n c z) (neg : Bool) :
    Calls Tryd.prog 13 #[.agg #[.bool neg, .slice A n c, .int .i64 z]] w fun e w' => ∃ S : ByteArray, S.size ≤ 40 ∧ e = .returned (.agg #[.bool neg, .string S]) ∧ Below w.heap.size w w' := by
  obtain ⟨xs, h1, h2, h3, h4, h5⟩ := h
  exact NumWide_any neg A n c z xs w h1 h2 h3 h4 h5

/-- A box that holds a number as it comes in. -/
def Nb (w : World) (b : Nat) (neg : Bool) (A : Option Addr) (n c : Nat) (z : Int) : Prop :=
  w.heap[b]? = some (.cells #[.bool neg, .slice A n c, .int .i64 z] 24 (0, 0))
variable {w w' : World} {b : Nat} {neg : Bool} {A : Option Addr} {n c : Nat} {z : Int}
theorem Nb.lt (h : Nb w b neg A n c z) : b < w.heap.size := by
  rcases Nat.lt_or_ge b w.heap.size with hlt | hge
  · exact hlt
  · unfold Nb at h; rw [Array.getElem?_eq_none hge] at h; cases h
theorem Nb.cell0 (h : Nb w b neg A n c z) : w.cell? ⟨b, 0, none⟩ = some (.bool neg) := cell_of_row w b 0 _ _ _ h
theorem Nb.cell1 (h : Nb w b neg A n c z) : w.cell? ⟨b, 1, none⟩ = some (.slice A n c) := cell_of_row w b 1 _ _ _ h
theorem Nb.cell2 (h : Nb w b neg A n c z) : w.cell? ⟨b, 2, none⟩ = some (.int .i64 z) := cell_of_row w b 2 _ _ _ h
theorem Nb.below {B : Nat} (h : Nb w b neg A n c z) (hb : Below B w w') (hg : b < B) : Nb w' b neg A n c z := (hb.block b hg).trans h
theorem Nb.alloc (h : Nb w b neg A n c z) (o : Obj) : Nb (w.alloc o) b neg A n c z := (Below.heap_alloc w o b h.lt).trans h
theorem Nb.new (w : World) (neg : Bool) (A : Option Addr) (n c : Nat) (z : Int) : Nb (w.alloc (.cells #[.bool neg, .slice A n c, .int .i64 z] 24)) w.heap.size neg A n c z := heap_alloc_new w _

/-- These bytes and this sign stand for a number, and the bytes are so many at most. -/
def NV (x : Bool) (s : ByteArray) (a : Int) (k : Nat) : Prop := wint x s = a ∧ s.size ≤ k
theorem NV.self (x : Bool) (s : ByteArray) (k : Nat) (h : s.size ≤ k) : NV x s (wint x s) k := ⟨rfl, h⟩
theorem NV.of (a : Int) (k : Nat) (h : a.natAbs < 256 ^ k) : NV (wneg a) (wmag a) a k := ⟨wint_wv' a, wmag_size a k h⟩
theorem NV.abs {x : Bool} {s : ByteArray} {a : Int} {k : Nat} (h : NV x s a k) : a.natAbs < 256 ^ k := by
  obtain ⟨rfl, h⟩ := h
  exact wint_abs_pow x s k h
theorem abs_add {a b : Int} {k : Nat} (ha : a.natAbs < 256 ^ k) (hb : b.natAbs < 256 ^ k) : (a + b).natAbs < 256 ^ (k + 1) := by
  rw [Nat.pow_succ]; omega
theorem abs_mul {a b : Int} {k l : Nat} (ha : a.natAbs < 256 ^ k) (hb : b.natAbs < 256 ^ l) : (a * b).natAbs < 256 ^ (k + l) := by
  rw [Int.natAbs_mul, Nat.pow_add]
  exact Nat.mul_lt_mul'' ha hb
theorem abs_up {a : Int} {k l : Nat} (ha : a.natAbs < 256 ^ k) (h : k ≤ l) : a.natAbs < 256 ^ l := Nat.lt_of_lt_of_le ha (Nat.pow_le_pow_right (by omega) h)

theorem add_to {x y : Bool} {s t : ByteArray} {a b : Int} {k l : Nat} (hx : NV x s a k) (hy : NV y t b l) (hk : k ≤ 1000) (hl : l ≤ 1000) (r : Int) (hr : a + b = r) (W : World) :
    Calls Tryd.prog 14 #[.agg #[.bool x, .string s], .agg #[.bool y, .string t]] W fun e w' => e = .returned (.agg #[.bool (wneg r), .string (wmag r)]) ∧ Below W.heap.size W w' := by
  obtain ⟨rfl, h1⟩ := hx
  obtain ⟨rfl, h2⟩ := hy
  have := Add_any x y s t W (by omega) (by omega)
  rw [hr] at this
  exact this
theorem sub_to {x y : Bool} {s t : ByteArray} {a b : Int} {k l : Nat} (hx : NV x s a k) (hy : NV y t b l) (hk : k ≤ 1000) (hl : l ≤ 1000) (r : Int) (hr : a - b = r) (W : World) :
    Calls Tryd.prog 16 #[.agg #[.bool x, .string s], .agg #[.bool y, .string t]] W fun e w' => e = .returned (.agg #[.bool (wneg r), .string (wmag r)]) ∧ Below W.heap.size W w' := by
  obtain ⟨rfl, h1⟩ := hx
  obtain ⟨rfl, h2⟩ := hy
  have := Sub_any x y s t W (by omega) (by omega)
  rw [hr] at this
  exact this
theorem mul_to {x y : Bool} {s t : ByteArray} {a b : Int} {k l : Nat} (hx : NV x s a k) (hy : NV y t b l) (hk : k ≤ 1000) (hl : l ≤ 1000) (r : Int) (hr : a * b = r) (W : World) :
    Calls Tryd.prog 24 #[.agg #[.bool x, .string s], .agg #[.bool y, .string t]] W fun e w' => e = .returned (.agg #[.bool (wneg r), .string (wmag r)]) ∧ Below W.heap.size W w' := by
  obtain ⟨rfl, h1⟩ := hx
  obtain ⟨rfl, h2⟩ := hy
  have := Mul_any x y s t W (by omega) (by omega)
  rw [hr] at this
  exact this
theorem neg_to {x : Bool} {s : ByteArray} {a : Int} {k : Nat} (hx : NV x s a k) (hk : k ≤ 1000) (r : Int) (hr : -a = r) (W : World) :
    Calls Tryd.prog 18 #[.agg #[.bool x, .string s]] W fun e w' => e = .returned (.agg #[.bool (wneg r), .string (wmag r)]) ∧ Below W.heap.size W w' := by
  obtain ⟨rfl, h1⟩ := hx
  have := Neg_any x s W (by unfold maxLen; omega)
  rw [hr] at this
  exact this
theorem from_one (W : World) : Calls Tryd.prog 32 #[.int .i64 1] W fun e w' => e = .returned (.agg #[.bool (wneg 1), .string (wmag 1)]) ∧ Below W.heap.size W w' := From_any 1 W (by omega) (by omega)

/-- Three variables that hold these three numbers, in a world that is as the first one below its end. -/
structure Tri (w0 w : World) (b1 b2 b3 : Nat) (x1 x2 x3 : Bool) (s1 s2 s3 : ByteArray) : Prop where
  d1 : Wd w b1 x1 s1
  d2 : Wd w b2 x2 s2
  d3 : Wd w b3 x3 s3
  bel : Below w0.heap.size w0 w
theorem Tri.step {w0 w w' : World} {b1 b2 b3 : Nat} {x1 x2 x3 : Bool} {s1 s2 s3 : ByteArray} (h : Tri w0 w b1 b2 b3 x1 x2 x3 s1 s2 s3) (hb : Below w.heap.size w w') : Tri w0 w' b1 b2 b3 x1 x2 x3 s1 s2 s3 :=
  ⟨h.d1.below hb h.d1.lt, h.d2.below hb h.d2.lt, h.d3.below hb h.d3.lt, h.bel.trans (hb.mono h.bel.size)⟩
theorem Tri.drew {w0 w : World} {b1 b2 b3 : Nat} {x1 x2 x3 : Bool} {s1 s2 s3 : ByteArray} (h : Tri w0 w b1 b2 b3 x1 x2 x3 s1 s2 s3) : Tri w0 w.drew b1 b2 b3 x1 x2 x3 s1 s2 s3 :=
  ⟨h.d1, h.d2, h.d3, h.bel.drew⟩
theorem Tri.cells {w0 w : World} {b1 b2 b3 : Nat} {x1 x2 x3 : Bool} {s1 s2 s3 : ByteArray} (h : Tri w0 w b1 b2 b3 x1 x2 x3 s1 s2 s3) :
    w.cell? ⟨b1, 0, none⟩ = some (.bool x1) ∧ w.cell? ⟨b1, 1, none⟩ = some (.string s1) ∧ w.cell? ⟨b2, 0, none⟩ = some (.bool x2) ∧ w.cell? ⟨b2, 1, none⟩ = some (.string s2) ∧ w.cell? ⟨b3, 0, none⟩ = some (.bool x3) ∧ w.cell? ⟨b3, 1, none⟩ = some (.string s3) :=
  ⟨h.d1.cell0, h.d1.cell1, h.d2.cell0, h.d2.cell1, h.d3.cell0, h.d3.cell1⟩

set_option maxRecDepth 100000 in
set_option maxHeartbeats 4000000 in
theorem Rules_any (n1 n2 n3 : Bool) (A1 A2 A3 : Option Addr) (l1 l2 l3 c1 c2 c3 : Nat) (z1 z2 z3 : Int) (w : World) (h1 : Nm w A1 l1 c1 z1) (h2 : Nm w A2 l2 c2 z2) (h3 : Nm w A3 l3 c3 z3) :
    Calls Tryd.prog 11 #[.agg #[.bool n1, .slice A1 l1 c1, .int .i64 z1], .agg #[.bool n2, .slice A2 l2 c2, .int .i64 z2], .agg #[.bool n3, .slice A3 l3 c3, .int .i64 z3]] w
      fun e w' => e = .returned (.bool true) ∧ Below w.heap.size w w' := by
  obtain ⟨W3, hW3⟩ : ∃ W3, W3 = ((w.alloc (.cells #[.bool n1, .slice A1 l1 c1, .int .i64 z1] 24)).alloc (.cells #[.bool n2, .slice A2 l2 c2, .int .i64 z2] 24)).alloc (.cells #[.bool n3, .slice A3 l3 c3, .int .i64 z3] 24) := ⟨_, rfl⟩
  have hB3 : Below w.heap.size w W3 := by
    rw [hW3]
    exact (((Below.refl _ _).alloc (Nat.le_refl _) _).alloc (by simp) _).alloc (by simp; omega) _
  have hs3 : W3.heap.size = w.heap.size + 3 := by rw [hW3]; simp
  have q1 : Nb W3 w.heap.size n1 A1 l1 c1 z1 := by rw [hW3]; exact ((Nb.new w _ _ _ _ _).alloc _).alloc _
  have q2 : Nb W3 (w.heap.size + 1) n2 A2 l2 c2 z2 := by
    rw [hW3]
    have := (Nb.new (w.alloc (.cells #[.bool n1, .slice A1 l1 c1, .int .i64 z1] 24)) n2 A2 l2 c2 z2).alloc (.cells #[.bool n3, .slice A3 l3 c3, .int .i64 z3] 24)
    simpa using this
  have q3 : Nb W3 (w.heap.size + 1 + 1) n3 A3 l3 c3 z3 := by
    rw [hW3]
    have := (Nb.new ((w.alloc (.cells #[.bool n1, .slice A1 l1 c1, .int .i64 z1] 24)).alloc (.cells #[.bool n2, .slice A2 l2 c2, .int .i64 z2] 24)) n3 A3 l3 c3 z3)
    simpa using this
  have HW3 := Lib.hid hW3
  clear hW3
  go_enter Tryd.func11, Tryd.ntmps11
  go_wp2_with fail
  rw [← HW3.out]
  refine (sanity_true _).mono ?_
  rintro e w4 ⟨rfl, hb4⟩
  have hB4 : Below w.heap.size w w4 := hB3.trans (hb4.mono hB3.size)
  have hl1 := q1.lt
  have hl2 := q2.lt
  have hl3 := q3.lt
  have r1 := q1.below hb4 hl1
  have r2 := q2.below hb4 hl2
  have r3 := q3.below hb4 hl3
  have a0 := r1.cell0
  have a1 := r1.cell1
  have a2 := r1.cell2
  clear q1 q2 q3 hb4 hl1 hl2 hl3
  go_wp2_with fail
  refine ((h1.below hB4).call n1).mono ?_
  rintro e w5 ⟨S1, hS1, rfl, hb5⟩
  have hB5 : Below w.heap.size w w5 := hB4.trans (hb5.mono hB4.size)
  clear a0 a1 a2
  have v2 := (r2.below hb5 r2.lt).alloc (wbox n1 S1)
  have v3 := (r3.below hb5 r3.lt).alloc (wbox n1 S1)
  have m1 := Wd.new w5 n1 S1
  have a0 := v2.cell0
  have a1 := v2.cell1
  have a2 := v2.cell2
  clear r1 r2 r3 hb5
  go_wp2_with fail
  generalize hW6 : w5.alloc (wbox n1 S1) = W6 at *
  have hB6 : Below w.heap.size w W6 := by rw [← hW6]; exact hB5.alloc hB5.size _
  clear hW6
  refine ((h2.below hB6).call n2).mono ?_
  rintro e w7 ⟨S2, hS2, rfl, hb7⟩
  have hB7 : Below w.heap.size w w7 := hB6.trans (hb7.mono hB6.size)
  have u1 := (m1.below hb7 m1.lt).alloc (wbox n2 S2)
  have u3 := (v3.below hb7 v3.lt).alloc (wbox n2 S2)
  have m2 := Wd.new w7 n2 S2
  clear a0 a1 a2 v2 v3 m1 hb7 hB5
  have a0 := u3.cell0
  have a1 := u3.cell1
  have a2 := u3.cell2
  go_wp2_with fail
  generalize hW8 : w7.alloc (wbox n2 S2) = W8 at *
  have hB8 : Below w.heap.size w W8 := by rw [← hW8]; exact hB7.alloc hB7.size _
  clear hW8
  refine ((h3.below hB8).call n3).mono ?_
  rintro e w9 ⟨S3, hS3, rfl, hb9⟩
  have hB9 : Below w.heap.size w w9 := hB8.trans (hb9.mono hB8.size)
  have t1 := (u1.below hb9 u1.lt).alloc (wbox n3 S3)
  have t2 := (m2.below hb9 m2.lt).alloc (wbox n3 S3)
  have t3 := Wd.new w9 n3 S3
  have hT : Tri w (w9.alloc (wbox n3 S3)) w5.heap.size w7.heap.size w9.heap.size n1 n2 n3 S1 S2 S3 := ⟨t1, t2, t3, hB9.alloc hB9.size _⟩
  clear a0 a1 a2 u1 u3 m2 t1 t2 t3 hb9 hB3 hB4 hB6 hB7 hB8 hB9 h1 h2 h3 HW3 hs3
  go_wp2_with fail
  generalize hW10 : w9.alloc (wbox n3 S3) = W10 at *
  clear hW10
  have N1 := NV.self n1 S1 40 hS1
  have N2 := NV.self n2 S2 40 hS2
  have N3 := NV.self n3 S3 40 hS3
  generalize wint n1 S1 = a at *
  generalize wint n2 S2 = b at *
  generalize wint n3 S3 = c at *
  have Nab := NV.of (a + b) 41 (abs_add N1.abs N2.abs)
  have Nbc := NV.of (b + c) 41 (abs_add N2.abs N3.abs)
  have Nn := NV.of (-a) 40 (by rw [Int.natAbs_neg]; exact N1.abs)
  have Mab := NV.of (a * b) 80 (abs_mul N1.abs N2.abs)
  have Mac := NV.of (a * c) 80 (abs_mul N1.abs N3.abs)
  have Mbc := NV.of (b * c) 80 (abs_mul N2.abs N3.abs)
  have M1 := NV.of 1 1 (by decide)
  have Nz : NV false ⟨#[]⟩ 0 0 := ⟨by decide, by decide⟩
  have P1 := Lib.hid (fun W => add_to N1 N2 (by omega) (by omega) (a + b) rfl W)
  have P2 := Lib.hid (fun W => add_to N2 N1 (by omega) (by omega) (a + b) (by omega) W)
  have P3 := Lib.hid (fun W => add_to Nab N3 (by omega) (by omega) (a + b + c) rfl W)
  have P4 := Lib.hid (fun W => add_to N2 N3 (by omega) (by omega) (b + c) rfl W)
  have P5 := Lib.hid (fun W => add_to N1 Nbc (by omega) (by omega) (a + b + c) (by omega) W)
  have P6 := Lib.hid (fun W => neg_to N1 (by omega) (-a) rfl W)
  have P7 := Lib.hid (fun W => add_to N1 Nn (by omega) (by omega) 0 (by omega) W)
  have P8 := Lib.hid (fun W => sub_to Nab N2 (by omega) (by omega) a (by omega) W)
  have P9 := Lib.hid (fun W => neg_to Nn (by omega) a (by omega) W)
  have R1 := Lib.hid (fun W => mul_to N1 N2 (by omega) (by omega) (a * b) rfl W)
  have R2 := Lib.hid (fun W => mul_to N2 N1 (by omega) (by omega) (a * b) (Int.mul_comm _ _) W)
  have R3 := Lib.hid (fun W => mul_to Mab N3 (by omega) (by omega) (a * b * c) rfl W)
  have R4 := Lib.hid (fun W => mul_to N2 N3 (by omega) (by omega) (b * c) rfl W)
  have R5 := Lib.hid (fun W => mul_to N1 Mbc (by omega) (by omega) (a * b * c) (by rw [Int.mul_assoc]) W)
  have R6 := Lib.hid from_one
  have R7 := Lib.hid (fun W => mul_to N1 M1 (by omega) (by omega) a (Int.mul_one _) W)
  have R8 := Lib.hid (fun W => add_to N1 Nz (by omega) (by omega) a (by omega) W)
  have R9 := Lib.hid (fun W => mul_to N1 Nbc (by omega) (by omega) (a * b + a * c) (Int.mul_add _ _ _) W)
  have R10 := Lib.hid (fun W => mul_to N1 N3 (by omega) (by omega) (a * c) rfl W)
  have R11 := Lib.hid (fun W => add_to Mab Mac (by omega) (by omega) (a * b + a * c) rfl W)
  have E0 := eq_same (wneg 0) (wmag 0)
  have E1 := eq_same (wneg (a + b)) (wmag (a + b))
  have E2 := eq_same (wneg (a + b + c)) (wmag (a + b + c))
  have E3 := eq_same (wneg a) (wmag a)
  have E4 := eq_same (wneg (a * b)) (wmag (a * b))
  have E5 := eq_same (wneg (a * b * c)) (wmag (a * b * c))
  have E6 := eq_same (wneg (a * b + a * c)) (wmag (a * b + a * c))
  rw [show wneg 0 = false from by decide, show wmag 0 = ⟨#[]⟩ from by decide] at P7 E0
  clear N1 N2 N3 Nab Nbc Nn Mab Mac Mbc M1 Nz hS1 hS2 hS3
  generalize wneg (a * b + a * c) = xe at *
  generalize wmag (a * b + a * c) = se at *
  generalize wneg (a * b * c) = xd at *
  generalize wmag (a * b * c) = sd at *
  generalize wneg (a * b) = xp at *
  generalize wmag (a * b) = sp at *
  generalize wneg (a * c) = xq at *
  generalize wmag (a * c) = sq at *
  generalize wneg (b * c) = xr at *
  generalize wmag (b * c) = sr at *
  generalize wneg (a + b + c) = xf at *
  generalize wmag (a + b + c) = sf at *
  generalize wneg (a + b) = xg at *
  generalize wmag (a + b) = sg at *
  generalize wneg (b + c) = xh at *
  generalize wmag (b + c) = sh at *
  generalize wneg (-a) = xi at *
  generalize wmag (-a) = si at *
  generalize wneg 1 = xj at *
  generalize wmag 1 = sj at *
  generalize wneg a = xa at *
  generalize wmag a = sa at *
  generalize w5.heap.size = b1 at *
  generalize w7.heap.size = b2 at *
  generalize w9.heap.size = b3 at *
  clear a b c
  obtain ⟨d0, d1, d2, d3, d4, d5⟩ := hT.cells
  go_region_held3 (fun w' => w'.cell? ⟨b1, 0, none⟩ = some (.bool n1) ∧ w'.cell? ⟨b1, 1, none⟩ = some (.string S1) ∧ w'.cell? ⟨b2, 0, none⟩ = some (.bool n2) ∧ w'.cell? ⟨b2, 1, none⟩ = some (.string S2) ∧ w'.cell? ⟨b3, 0, none⟩ = some (.bool n3) ∧ w'.cell? ⟨b3, 1, none⟩ = some (.string S3)) (go_keep)
    (first
      | (go_at_call 14; (first | (with_reducible refine (P1.out _).mono ?_) | (with_reducible refine (P2.out _).mono ?_) | (with_reducible refine (P3.out _).mono ?_) | (with_reducible refine (P4.out _).mono ?_) | (with_reducible refine (P5.out _).mono ?_) | (with_reducible refine (P7.out _).mono ?_)); (rintro e w11 ⟨rfl, hbn⟩; (first | replace hT := hT.step hbn | replace hT := hT.drew.step hbn); clear hbn d0 d1 d2 d3 d4 d5; obtain ⟨d0, d1, d2, d3, d4, d5⟩ := hT.cells))
      | (go_at_call 18; (first | (with_reducible refine (P6.out _).mono ?_) | (with_reducible refine (P9.out _).mono ?_)); (rintro e w11 ⟨rfl, hbn⟩; (first | replace hT := hT.step hbn | replace hT := hT.drew.step hbn); clear hbn d0 d1 d2 d3 d4 d5; obtain ⟨d0, d1, d2, d3, d4, d5⟩ := hT.cells))
      | (go_at_call 16; (first | (with_reducible refine (P8.out _).mono ?_)); (rintro e w11 ⟨rfl, hbn⟩; (first | replace hT := hT.step hbn | replace hT := hT.drew.step hbn); clear hbn d0 d1 d2 d3 d4 d5; obtain ⟨d0, d1, d2, d3, d4, d5⟩ := hT.cells)))
  go_wp2_with fail
  go_region_held3 (fun w' => w'.cell? ⟨b1, 0, none⟩ = some (.bool n1) ∧ w'.cell? ⟨b1, 1, none⟩ = some (.string S1) ∧ w'.cell? ⟨b2, 0, none⟩ = some (.bool n2) ∧ w'.cell? ⟨b2, 1, none⟩ = some (.string S2) ∧ w'.cell? ⟨b3, 0, none⟩ = some (.bool n3) ∧ w'.cell? ⟨b3, 1, none⟩ = some (.string S3)) (go_keep)
    (first
      | (go_at_call 24; (first | (with_reducible refine (R1.out _).mono ?_) | (with_reducible refine (R2.out _).mono ?_) | (with_reducible refine (R3.out _).mono ?_) | (with_reducible refine (R4.out _).mono ?_) | (with_reducible refine (R5.out _).mono ?_) | (with_reducible refine (R7.out _).mono ?_)); (rintro e w11 ⟨rfl, hbn⟩; (first | replace hT := hT.step hbn | replace hT := hT.drew.step hbn); clear hbn d0 d1 d2 d3 d4 d5; obtain ⟨d0, d1, d2, d3, d4, d5⟩ := hT.cells))
      | (go_at_call 14; (first | (with_reducible refine (R8.out _).mono ?_)); (rintro e w11 ⟨rfl, hbn⟩; (first | replace hT := hT.step hbn | replace hT := hT.drew.step hbn); clear hbn d0 d1 d2 d3 d4 d5; obtain ⟨d0, d1, d2, d3, d4, d5⟩ := hT.cells))
      | (go_at_call 32; (first | (with_reducible refine (R6.out _).mono ?_)); (rintro e w11 ⟨rfl, hbn⟩; (first | replace hT := hT.step hbn | replace hT := hT.drew.step hbn); clear hbn d0 d1 d2 d3 d4 d5; obtain ⟨d0, d1, d2, d3, d4, d5⟩ := hT.cells)))
  go_wp2_with fail
  go_region_held3 (fun w' => w'.cell? ⟨b1, 0, none⟩ = some (.bool n1) ∧ w'.cell? ⟨b1, 1, none⟩ = some (.string S1) ∧ w'.cell? ⟨b2, 0, none⟩ = some (.bool n2) ∧ w'.cell? ⟨b2, 1, none⟩ = some (.string S2) ∧ w'.cell? ⟨b3, 0, none⟩ = some (.bool n3) ∧ w'.cell? ⟨b3, 1, none⟩ = some (.string S3)) (go_keep)
    (first
      | (go_at_call 24; (first | (with_reducible refine (R9.out _).mono ?_) | (with_reducible refine (R1.out _).mono ?_) | (with_reducible refine (R10.out _).mono ?_)); (rintro e w11 ⟨rfl, hbn⟩; (first | replace hT := hT.step hbn | replace hT := hT.drew.step hbn); clear hbn d0 d1 d2 d3 d4 d5; obtain ⟨d0, d1, d2, d3, d4, d5⟩ := hT.cells))
      | (go_at_call 14; (first | (with_reducible refine (P4.out _).mono ?_) | (with_reducible refine (R11.out _).mono ?_)); (rintro e w11 ⟨rfl, hbn⟩; (first | replace hT := hT.step hbn | replace hT := hT.drew.step hbn); clear hbn d0 d1 d2 d3 d4 d5; obtain ⟨d0, d1, d2, d3, d4, d5⟩ := hT.cells)))
  go_wp2
  go_ret
  exact ⟨rfl, hT.bel⟩
end Go.Proofs.YtgadnianjhaeiaaDoor
