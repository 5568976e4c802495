/-
  Parts of the proof, laid together: CmREnc, CmRDec, CmRDecE. The conditions stand at each part.
-/
import Derived.Test.YtdhlbldmdeepiaaGreatDoorRCmMay
/-
  The contracts of the document's own encoding of commands and entries (package latchkeyref03). The condition: numbers are of 64 bits.
-/
namespace Go.Proofs.YtdhlbldmdeepiaaGreatDoor
open Go.RowKit

/-- A command laid in block B, from cell o on. -/
structure Box (w : World) (B o : Nat) (K S Q : Int) (T : ByteArray) (N : Int) : Prop where
  lt : B < w.heap.size
  c0 : w.cell? ⟨B, o, none⟩ = some (.int .i64 K)
  c1 : w.cell? ⟨B, o + 1, none⟩ = some (.int .i64 S)
  c2 : w.cell? ⟨B, o + 2, none⟩ = some (.int .i64 Q)
  c3 : w.cell? ⟨B, o + 3, none⟩ = some (.string T)
  c4 : w.cell? ⟨B, o + 4, none⟩ = some (.int .i64 N)
theorem Box.below {w w' : World} {B o : Nat} {K S Q N : Int} {T : ByteArray} (h : Box w B o K S Q T N) (b : Below w.heap.size w w') : Box w' B o K S Q T N :=
  ⟨Nat.lt_of_lt_of_le h.lt b.size, (b.cell (by exact h.lt)).trans h.c0, (b.cell (by exact h.lt)).trans h.c1, (b.cell (by exact h.lt)).trans h.c2, (b.cell (by exact h.lt)).trans h.c3, (b.cell (by exact h.lt)).trans h.c4⟩

/-- Encode's two answers. -/
def encT (c : Cm) : ByteArray × Int := if mayB c = true then (⟨(encC c).toArray⟩, 0) else (⟨#[]⟩, 1)

theorem bmm {w w1 w2 : World} {b : Nat} (h : Below b w w1) (hb : b ≤ w1.heap.size) (k : Below w1.heap.size w1 w2) : Below b w w2 := h.trans (k.mono hb)

theorem undrew {w w2 : World} (b : Below w.drew.heap.size w.drew w2) : Below w.heap.size w w2 := ⟨b.os, b.tape, b.output, b.size, b.block⟩

set_option maxHeartbeats 3200000 in
set_option maxRecDepth 100000 in
theorem rencode_any (K S Q N : Int) (T : ByteArray) (w : World) :
    Calls Tryz.prog 73 #[.agg #[.int .i64 K, .int .i64 S, .int .i64 Q, .string T, .int .i64 N]] w fun e w' => e = .returned (.tuple #[.string (encT ⟨K, S, Q, T, N⟩).1, .int .i64 (encT ⟨K, S, Q, T, N⟩).2]) ∧ Below w.heap.size w w' := by
  have q0 := rmay_any K S Q N T (w.alloc (.cells #[.int .i64 K, .int .i64 S, .int .i64 Q, .string T, .int .i64 N] 23))
  have ba : Below w.heap.size w (w.alloc (.cells #[.int .i64 K, .int .i64 S, .int .i64 Q, .string T, .int .i64 N] 23)) := (Below.refl _ w).alloc (Nat.le_refl _) _
  have x0 : Box (w.alloc (.cells #[.int .i64 K, .int .i64 S, .int .i64 Q, .string T, .int .i64 N] 23)) w.heap.size 0 K S Q T N := ⟨by simp, by simp, by simp, by simp, by simp, by simp⟩
  by_cases hm : mayB ⟨K, S, Q, T, N⟩ = true
  · have e : encT ⟨K, S, Q, T, N⟩ = (⟨(encC ⟨K, S, Q, T, N⟩).toArray⟩, 0) := by unfold encT; rw [if_pos hm]
    rw [e]
    rw [hm] at q0
    obtain ⟨⟨k1, k2⟩, ⟨s1, s2⟩, ⟨p1, p2⟩, t1, ⟨n1, n2⟩⟩ := may_small hm
    simp only at k1 k2 s1 s2 p1 p2 t1 n1 n2
    have y1 := fint_any K (by omega) (by omega)
    have y2 := fint_any S (by omega) (by omega)
    have y3 := fint_any Q (by omega) (by omega)
    have y4 := ftext_any T (by omega)
    have y5 := fint_any N (by omega) (by omega)
    have l1 := enc_len_ten (zig_bound (n := K) (by omega) (by omega))
    have l2 := enc_len_ten (zig_bound (n := S) (by omega) (by omega))
    have l3 := enc_len_ten (zig_bound (n := Q) (by omega) (by omega))
    have l4 : (lenText T).length ≤ 74 := by
      have := enc_len_ten (n := T.size) (by omega)
      have := Lib.size_eq T
      unfold lenText
      rw [List.length_append]
      omega
    have l5 := enc_len_ten (zig_bound (n := N) (by omega) (by omega))
    obtain ⟨A1, hA1⟩ : ∃ A : ByteArray, A = ⟨(enc (zig K)).toArray⟩ := ⟨_, rfl⟩
    obtain ⟨A2, hA2⟩ : ∃ A : ByteArray, A = ⟨(enc (zig S)).toArray⟩ := ⟨_, rfl⟩
    obtain ⟨A3, hA3⟩ : ∃ A : ByteArray, A = ⟨(enc (zig Q)).toArray⟩ := ⟨_, rfl⟩
    obtain ⟨A4, hA4⟩ : ∃ A : ByteArray, A = ⟨(lenText T).toArray⟩ := ⟨_, rfl⟩
    obtain ⟨A5, hA5⟩ : ∃ A : ByteArray, A = ⟨(enc (zig N)).toArray⟩ := ⟨_, rfl⟩
    obtain ⟨B2, hB2⟩ : ∃ B : ByteArray, A1 ++ A2 = B := ⟨_, rfl⟩
    obtain ⟨B3, hB3⟩ : ∃ B : ByteArray, B2 ++ A3 = B := ⟨_, rfl⟩
    obtain ⟨B4, hB4⟩ : ∃ B : ByteArray, B3 ++ A4 = B := ⟨_, rfl⟩
    obtain ⟨B5, hB5⟩ : ∃ B : ByteArray, B4 ++ A5 = B := ⟨_, rfl⟩
    have z1 : A1.size ≤ 10 := by rw [hA1, size_list]; exact l1
    have z2 : A2.size ≤ 10 := by rw [hA2, size_list]; exact l2
    have z3 : A3.size ≤ 10 := by rw [hA3, size_list]; exact l3
    have z4 : A4.size ≤ 74 := by rw [hA4, size_list]; exact l4
    have z5 : A5.size ≤ 10 := by rw [hA5, size_list]; exact l5
    have u2 : B2.size ≤ 20 := by rw [← hB2, ByteArray.size_append]; omega
    have u3 : B3.size ≤ 30 := by rw [← hB3, ByteArray.size_append]; omega
    have u4 : B4.size ≤ 104 := by rw [← hB4, ByteArray.size_append]; omega
    have v1 : (9223372036854775807 < A1.size + A2.size) = False := eq_false (by omega)
    have v2 : (9223372036854775807 < B2.size + A3.size) = False := eq_false (by omega)
    have v3 : (9223372036854775807 < B3.size + A4.size) = False := eq_false (by omega)
    have v4 : (9223372036854775807 < B4.size + A5.size) = False := eq_false (by omega)
    have HB : Hid (B5 = ⟨(encC ⟨K, S, Q, T, N⟩).toArray⟩) := by
      show B5 = _
      rw [← hB5, ← hB4, ← hB3, ← hB2, hA1, hA2, hA3, hA4, hA5, append_lists, append_lists, append_lists, append_lists]
      unfold encC
      simp
    rw [← hA1] at y1
    rw [← hA2] at y2
    rw [← hA3] at y3
    rw [← hA4] at y4
    rw [← hA5] at y5
    rw [← HB.out]
    clear hA1 hA2 hA3 hA4 hA5 l1 l2 l3 l4 l5 z1 z2 z3 z4 z5 u2 u3 u4 k1 k2 s1 s2 p1 p2 t1 n1 n2 e hm HB
    go_enter Tryz.func73, Tryz.ntmps73
    go_wp2_with (go_at_call 101; refine q0.mono ?_; rintro e w1 ⟨rfl, b1⟩)
    have i1 := x0.below b1
    have g1x0 := i1.c0
    have g1x1 := i1.c1
    have g1x2 := i1.c2
    have g1x3 := i1.c3
    have g1x4 := i1.c4
    simp only [Nat.zero_add] at g1x1 g1x2 g1x3 g1x4
    have f1 := bmm ba ba.size b1
    go_region_held3 (fun w' => w'.cell? ⟨w.heap.size, 0, none⟩ = some (.int .i64 K) ∧ w'.cell? ⟨w.heap.size, 1, none⟩ = some (.int .i64 S) ∧ w'.cell? ⟨w.heap.size, 2, none⟩ = some (.int .i64 Q) ∧ w'.cell? ⟨w.heap.size, 3, none⟩ = some (.string T) ∧ w'.cell? ⟨w.heap.size, 4, none⟩ = some (.int .i64 N)) (go_keep)
      (first
        | (go_at_call 74; have d3 := d2; refine (y5 _).mono ?_; rintro e w6 ⟨rfl, b6⟩; have i6 := i5.below b6; have g6x0 := i6.c0; have g6x1 := i6.c1; have g6x2 := i6.c2; have g6x3 := i6.c3; have g6x4 := i6.c4; simp only [Nat.zero_add] at g6x1 g6x2 g6x3 g6x4; have f6 := bmm f5 f5.size b6)
        | (go_at_call 75; refine (y4 _).mono ?_; rintro e w5 ⟨rfl, b5⟩; have i5 := i4.below b5; have g5x0 := i5.c0; have g5x1 := i5.c1; have g5x2 := i5.c2; have g5x3 := i5.c3; have g5x4 := i5.c4; simp only [Nat.zero_add] at g5x1 g5x2 g5x3 g5x4; have f5 := bmm f4 f4.size b5; have d2 : True := trivial)
        | (go_at_call 74; have d2 := d1; refine (y3 _).mono ?_; rintro e w4 ⟨rfl, b4⟩; have i4 := i3.below b4; have g4x0 := i4.c0; have g4x1 := i4.c1; have g4x2 := i4.c2; have g4x3 := i4.c3; have g4x4 := i4.c4; simp only [Nat.zero_add] at g4x1 g4x2 g4x3 g4x4; have f4 := bmm f3 f3.size b4)
        | (go_at_call 74; have d1 := d0; refine (y2 _).mono ?_; rintro e w3 ⟨rfl, b3⟩; have i3 := i2.below b3; have g3x0 := i3.c0; have g3x1 := i3.c1; have g3x2 := i3.c2; have g3x3 := i3.c3; have g3x4 := i3.c4; simp only [Nat.zero_add] at g3x1 g3x2 g3x3 g3x4; have f3 := bmm f2 f2.size b3; have d1 : True := trivial)
        | (go_at_call 74; refine (y1 _).mono ?_; rintro e w2 ⟨rfl, b2'⟩; have b2 := undrew b2'; have i2 := i1.below b2; have g2x0 := i2.c0; have g2x1 := i2.c1; have g2x2 := i2.c2; have g2x3 := i2.c3; have g2x4 := i2.c4; simp only [Nat.zero_add] at g2x1 g2x2 g2x3 g2x4; have f2 := bmm f1 f1.size b2; have d0 : True := trivial))
    go_wp2
    go_ret2
    exact ⟨rfl, f6⟩
  · have e : encT ⟨K, S, Q, T, N⟩ = (⟨#[]⟩, 1) := by unfold encT; rw [if_neg hm]
    rw [e]
    rw [show mayB ⟨K, S, Q, T, N⟩ = false by simpa using hm] at q0
    go_enter Tryz.func73, Tryz.ntmps73
    go_wp2_with (go_at_call 101; refine q0.mono ?_; rintro e w1 ⟨rfl, b1⟩)
    go_ret2
    exact ⟨rfl, bmm ba ba.size b1⟩

/-! ### Entries -/
set_option maxRecDepth 100000 in
theorem rmayE_any (A B K S Q N : Int) (T : ByteArray) (w : World) :
    Calls Tryz.prog 72 #[.agg #[.int .i64 A, .int .i64 B, .int .i64 K, .int .i64 S, .int .i64 Q, .string T, .int .i64 N]] w fun e w' => e = .returned (.bool (mayE ⟨A, B, ⟨K, S, Q, T, N⟩⟩)) ∧ Below w.heap.size w w' := by
  have q := rwithin_any
  have q0 := rmay_any K S Q N T (w.alloc (.cells #[.int .i64 A, .int .i64 B, .int .i64 K, .int .i64 S, .int .i64 Q, .string T, .int .i64 N] 25))
  have ba : Below w.heap.size w (w.alloc (.cells #[.int .i64 A, .int .i64 B, .int .i64 K, .int .i64 S, .int .i64 Q, .string T, .int .i64 N] 25)) := (Below.refl _ w).alloc (Nat.le_refl _) _
  have e : mayE ⟨A, B, ⟨K, S, Q, T, N⟩⟩ = ((decide (1 ≤ A) && decide (A ≤ 1099511627776)) && ((decide (0 ≤ B) && decide (B ≤ 1099511627776)) && mayB ⟨K, S, Q, T, N⟩)) := rfl
  rw [e]
  obtain ⟨m, hm⟩ : ∃ m, m = mayB ⟨K, S, Q, T, N⟩ := ⟨_, rfl⟩
  rw [← hm] at q0 ⊢
  clear hm e
  have q1 := rwithin_any A 1 1099511627776
  have q2 := rwithin_any B 0 1099511627776
  obtain ⟨a, ha⟩ : ∃ a, a = (decide (1 ≤ A) && decide (A ≤ 1099511627776)) := ⟨_, rfl⟩
  obtain ⟨b, hb⟩ : ∃ b, b = (decide (0 ≤ B) && decide (B ≤ 1099511627776)) := ⟨_, rfl⟩
  rw [← ha] at q1 ⊢
  rw [← hb] at q2 ⊢
  clear ha hb q
  cases a with
  | false =>
    go_enter Tryz.func72, Tryz.ntmps72
    go_wp2_with (go_at_call 100; refine (q1 _).mono ?_; rintro e w' ⟨rfl, rfl⟩)
    go_ret
    exact ⟨rfl, ba⟩
  | true =>
    cases b with
    | false =>
      go_enter Tryz.func72, Tryz.ntmps72
      go_wp2_with (first
        | (go_at_call 100; have d2 := d1; refine (q2 _).mono ?_; rintro e w' ⟨rfl, rfl⟩)
        | (go_at_call 100; refine (q1 _).mono ?_; rintro e w' ⟨rfl, rfl⟩; have d1 : True := trivial))
      go_ret
      exact ⟨rfl, ba⟩
    | true =>
      go_enter Tryz.func72, Tryz.ntmps72
      go_wp2_with (first
        | (go_at_call 101; refine q0.mono ?_; rintro e w1 ⟨rfl, b1⟩)
        | (go_at_call 100; have d2 := d1; refine (q2 _).mono ?_; rintro e w' ⟨rfl, rfl⟩)
        | (go_at_call 100; refine (q1 _).mono ?_; rintro e w' ⟨rfl, rfl⟩; have d1 : True := trivial))
      go_ret
      exact ⟨rfl, bmm ba ba.size b1⟩

/-- EncodeEntry's two answers. -/
def encET (e : En) : ByteArray × Int := if mayE e = true then (⟨(encE e).toArray⟩, 0) else (⟨#[]⟩, 1)

set_option maxHeartbeats 3200000 in
set_option maxRecDepth 100000 in
theorem rencodeE_any (A B K S Q N : Int) (T : ByteArray) (w : World) :
    Calls Tryz.prog 33 #[.agg #[.int .i64 A, .int .i64 B, .int .i64 K, .int .i64 S, .int .i64 Q, .string T, .int .i64 N]] w fun e w' => e = .returned (.tuple #[.string (encET ⟨A, B, ⟨K, S, Q, T, N⟩⟩).1, .int .i64 (encET ⟨A, B, ⟨K, S, Q, T, N⟩⟩).2]) ∧ Below w.heap.size w w' := by
  have q0 := rmayE_any A B K S Q N T (w.alloc (.cells #[.int .i64 A, .int .i64 B, .int .i64 K, .int .i64 S, .int .i64 Q, .string T, .int .i64 N] 25))
  have ba : Below w.heap.size w (w.alloc (.cells #[.int .i64 A, .int .i64 B, .int .i64 K, .int .i64 S, .int .i64 Q, .string T, .int .i64 N] 25)) := (Below.refl _ w).alloc (Nat.le_refl _) _
  have x0 : Box (w.alloc (.cells #[.int .i64 A, .int .i64 B, .int .i64 K, .int .i64 S, .int .i64 Q, .string T, .int .i64 N] 25)) w.heap.size 2 K S Q T N := ⟨by simp, by simp, by simp, by simp, by simp, by simp⟩
  have xa : (w.alloc (.cells #[.int .i64 A, .int .i64 B, .int .i64 K, .int .i64 S, .int .i64 Q, .string T, .int .i64 N] 25)).cell? ⟨w.heap.size, 0, none⟩ = some (.int .i64 A) := by simp
  have xb : (w.alloc (.cells #[.int .i64 A, .int .i64 B, .int .i64 K, .int .i64 S, .int .i64 Q, .string T, .int .i64 N] 25)).cell? ⟨w.heap.size, 1, none⟩ = some (.int .i64 B) := by simp
  by_cases hm : mayE ⟨A, B, ⟨K, S, Q, T, N⟩⟩ = true
  · have e : encET ⟨A, B, ⟨K, S, Q, T, N⟩⟩ = (⟨(encE ⟨A, B, ⟨K, S, Q, T, N⟩⟩).toArray⟩, 0) := by unfold encET; rw [if_pos hm]
    rw [e]
    rw [hm] at q0
    obtain ⟨⟨k1, k2⟩, ⟨s1, s2⟩, hmc⟩ := mayE_small hm
    simp only at k1 k2 s1 s2 hmc
    have lc := encC_len hmc
    have qc := rencode_any K S Q N T
    have ec : encT ⟨K, S, Q, T, N⟩ = (⟨(encC ⟨K, S, Q, T, N⟩).toArray⟩, 0) := by unfold encT; rw [if_pos hmc]
    rw [ec] at qc
    obtain ⟨C, hC⟩ : ∃ C : ByteArray, C = ⟨(encC ⟨K, S, Q, T, N⟩).toArray⟩ := ⟨_, rfl⟩
    have zC : C.size ≤ 200 := by rw [hC, size_list]; exact lc
    have qc' : ∀ w, Calls Tryz.prog 73 #[.agg #[.int .i64 K, .int .i64 S, .int .i64 Q, .string T, .int .i64 N]] w fun e w' => e = .returned (.tuple #[.string C, .int .i64 0]) ∧ Below w.heap.size w w' := by rw [hC]; exact qc
    have y1 := fint_any A (by omega) (by omega)
    have y2 := fint_any B (by omega) (by omega)
    have y3 := ftext_any C (by omega)
    have l1 := enc_len_ten (zig_bound (n := A) (by omega) (by omega))
    have l2 := enc_len_ten (zig_bound (n := B) (by omega) (by omega))
    have l3 : (lenText C).length ≤ 210 := by
      have := enc_len_ten (n := C.size) (by omega)
      have := Lib.size_eq C
      unfold lenText
      rw [List.length_append]
      omega
    obtain ⟨A1, hA1⟩ : ∃ A' : ByteArray, A' = ⟨(enc (zig A)).toArray⟩ := ⟨_, rfl⟩
    obtain ⟨A2, hA2⟩ : ∃ A' : ByteArray, A' = ⟨(enc (zig B)).toArray⟩ := ⟨_, rfl⟩
    obtain ⟨A3, hA3⟩ : ∃ A' : ByteArray, A' = ⟨(lenText C).toArray⟩ := ⟨_, rfl⟩
    obtain ⟨B2, hB2⟩ : ∃ B : ByteArray, A1 ++ A2 = B := ⟨_, rfl⟩
    obtain ⟨B3, hB3⟩ : ∃ B : ByteArray, B2 ++ A3 = B := ⟨_, rfl⟩
    have z1 : A1.size ≤ 10 := by rw [hA1, size_list]; exact l1
    have z2 : A2.size ≤ 10 := by rw [hA2, size_list]; exact l2
    have z3 : A3.size ≤ 210 := by rw [hA3, size_list]; exact l3
    have u2 : B2.size ≤ 20 := by rw [← hB2, ByteArray.size_append]; omega
    have v1 : (9223372036854775807 < A1.size + A2.size) = False := eq_false (by omega)
    have v2 : (9223372036854775807 < B2.size + A3.size) = False := eq_false (by omega)
    have HB : Hid (B3 = ⟨(encE ⟨A, B, ⟨K, S, Q, T, N⟩⟩).toArray⟩) := by
      show B3 = _
      rw [← hB3, ← hB2, hA1, hA2, hA3, append_lists, append_lists, hC]
      unfold encE
      simp
    rw [← hA1] at y1
    rw [← hA2] at y2
    rw [← hA3] at y3
    rw [← HB.out]
    clear hA1 hA2 hA3 l1 l2 l3 z1 z2 z3 u2 k1 k2 s1 s2 e hm hmc HB zC lc hC qc ec
    go_enter Tryz.func33, Tryz.ntmps33
    go_wp2_with (first
      | (go_at_call 73; refine (qc' _).mono ?_; rintro e w2 ⟨rfl, b2⟩)
      | (go_at_call 72; refine q0.mono ?_; rintro e w1 ⟨rfl, b1⟩; have i1 := x0.below b1; have g1x0 := i1.c0; have g1x1 := i1.c1; have g1x2 := i1.c2; have g1x3 := i1.c3; have g1x4 := i1.c4; simp only [Nat.reduceAdd] at g1x1 g1x2 g1x3 g1x4))
    have f1 := bmm ba ba.size b1
    have f2 := bmm f1 f1.size b2
    have lb1 : w.heap.size < w1.heap.size := i1.lt
    have lb2 : w.heap.size < w2.heap.size := Nat.lt_of_lt_of_le lb1 b2.size
    have ha1 := (b2.cell (p := ⟨w.heap.size, 0, none⟩) (by exact lb1)).trans ((b1.cell (by exact x0.lt)).trans xa)
    have hb1 := (b2.cell (p := ⟨w.heap.size, 1, none⟩) (by exact lb1)).trans ((b1.cell (by exact x0.lt)).trans xb)
    go_region_held3 (fun w' => w'.cell? ⟨w.heap.size, 0, none⟩ = some (.int .i64 A) ∧ w'.cell? ⟨w.heap.size, 1, none⟩ = some (.int .i64 B)) (go_keep)
      (first
        | (go_at_call 75; refine (y3 _).mono ?_; rintro e w5 ⟨rfl, b5⟩; have f5 := bmm f4 f4.size b5; have ha4 := (b5.cell (p := ⟨w.heap.size, 0, none⟩) (by exact lb4)).trans ha3; have hb4 := (b5.cell (p := ⟨w.heap.size, 1, none⟩) (by exact lb4)).trans hb3)
        | (go_at_call 74; have d1 := d0; refine (y2 _).mono ?_; rintro e w4 ⟨rfl, b4⟩; have f4 := bmm f3 f3.size b4; have lb4 := Nat.lt_of_lt_of_le lb3 b4.size; have ha3 := (b4.cell (p := ⟨w.heap.size, 0, none⟩) (by exact lb3)).trans ha2; have hb3 := (b4.cell (p := ⟨w.heap.size, 1, none⟩) (by exact lb3)).trans hb2)
        | (go_at_call 74; refine (y1 _).mono ?_; rintro e w3 ⟨rfl, b3'⟩; have b3 := undrew b3'; have f3 := bmm f2 f2.size b3; have lb3 := Nat.lt_of_lt_of_le lb2 b3.size; have ha2 := (b3.cell (p := ⟨w.heap.size, 0, none⟩) (by exact lb2)).trans ha1; have hb2 := (b3.cell (p := ⟨w.heap.size, 1, none⟩) (by exact lb2)).trans hb1; have d0 : True := trivial))
    go_wp2
    go_ret2
    exact ⟨rfl, f5⟩
  · have e : encET ⟨A, B, ⟨K, S, Q, T, N⟩⟩ = (⟨#[]⟩, 1) := by unfold encET; rw [if_neg hm]
    rw [e]
    rw [show mayE ⟨A, B, ⟨K, S, Q, T, N⟩⟩ = false by simpa using hm] at q0
    go_enter Tryz.func33, Tryz.ntmps33
    go_wp2_with (go_at_call 72; refine q0.mono ?_; rintro e w1 ⟨rfl, b1⟩)
    go_ret2
    exact ⟨rfl, bmm ba ba.size b1⟩

end Go.Proofs.YtdhlbldmdeepiaaGreatDoor
/-
  The contracts of the document's own decoding of commands and entries (package latchkeyref03). The condition: the text is no longer than a text of 64 bits' length.
-/
namespace Go.Proofs.YtdhlbldmdeepiaaGreatDoor
open Go.RowKit

/-- The document's reader, told by what package codec's would hold. -/
def Rp (w : World) (R m : Nat) (s : ByteArray) (b : Bool) : Prop := ∃ t : ByteArray, Pair s t b ∧ t.size ≤ m ∧ Rx w R t b

theorem Rp.lt {w : World} {R m : Nat} {s : ByteArray} {b : Bool} (h : Rp w R m s b) : R < w.heap.size := by
  obtain ⟨t, _, _, hr⟩ := h
  exact lt_of_block hr
theorem pint {R m : Nat} {s : ByteArray} {b : Bool} (hm : m ≤ 9223372036854775807) {w : World} (h : Rp w R m s b) :
    Calls Tryz.prog 78 #[.pointer (some ⟨R, 0, none⟩)] w fun e w' => e = .returned (.int .i64 (zag (rU s b).1)) ∧ Rp w' R m (rU s b).2.1 (rU s b).2.2 ∧ w.grownBy w' (some R) := by
  obtain ⟨t, hp, ht, hr⟩ := h
  obtain ⟨h1, h2, h3⟩ := pairU hp
  refine (xint_any R t b (by omega) w hr).mono fun e w' ⟨he, hx, hg⟩ => ?_
  rw [h1] at he
  rw [h2] at hx
  exact ⟨he, ⟨_, h3, Nat.le_trans (xU_size t b) ht, hx⟩, hg⟩
theorem ptext {R m : Nat} {s : ByteArray} {b : Bool} (hm : m ≤ 9223372036854775807) {w : World} (h : Rp w R m s b) :
    Calls Tryz.prog 80 #[.pointer (some ⟨R, 0, none⟩)] w fun e w' => e = .returned (.string (rT s b).1) ∧ Rp w' R m (rT s b).2.1 (rT s b).2.2 ∧ w.grownBy w' (some R) := by
  obtain ⟨t, hp, ht, hr⟩ := h
  obtain ⟨h1, h2, h3⟩ := pairT hp
  refine (xtext_any R t b (by omega) w hr).mono fun e w' ⟨he, hx, hg⟩ => ?_
  rw [h1] at he
  rw [h2] at hx
  exact ⟨he, ⟨_, h3, Nat.le_trans (xT_size t b) ht, hx⟩, hg⟩
theorem pdone {R m : Nat} {s : ByteArray} {b : Bool} {w : World} (h : Rp w R m s b) :
    Calls Tryz.prog 81 #[.pointer (some ⟨R, 0, none⟩)] w fun e w' => e = .returned (.int .i64 (rD s b)) ∧ w = w' := by
  obtain ⟨t, hp, ht, hr⟩ := h
  have := xdone_any R t b w hr
  rw [pairD hp] at this
  exact this
theorem pint' {R m : Nat} {s s' : ByteArray} {b b' : Bool} {N : Nat} (hm : m ≤ 9223372036854775807) {w : World} (h : Rp w R m s b) (hu : rU s b = (N, s', b')) :
    Calls Tryz.prog 78 #[.pointer (some ⟨R, 0, none⟩)] w fun e w' => e = .returned (.int .i64 (zag N)) ∧ Rp w' R m s' b' ∧ w.grownBy w' (some R) := by
  have := pint hm h
  rw [hu] at this
  exact this
theorem ptext' {R m : Nat} {s s' T : ByteArray} {b b' : Bool} (hm : m ≤ 9223372036854775807) {w : World} (h : Rp w R m s b) (hu : rT s b = (T, s', b')) :
    Calls Tryz.prog 80 #[.pointer (some ⟨R, 0, none⟩)] w fun e w' => e = .returned (.string T) ∧ Rp w' R m s' b' ∧ w.grownBy w' (some R) := by
  have := ptext hm h
  rw [hu] at this
  exact this
theorem Rp.far {w w' : World} {R m : Nat} {s : ByteArray} {b : Bool} (h : Rp w R m s b) (hb : w'.heap[R]? = w.heap[R]?) : Rp w' R m s b := by
  obtain ⟨t, hp, ht, hr⟩ := h
  refine ⟨t, hp, ht, ?_⟩
  unfold Rx at hr ⊢
  rw [hb]
  exact hr

/-- A command laid in a block of its own. -/
def Lies (w : World) (B : Nat) (K S Q : Int) (T : ByteArray) (N : Int) : Prop := w.heap[B]? = some (.cells #[.int .i64 K, .int .i64 S, .int .i64 Q, .string T, .int .i64 N] 23 (0, 0))
theorem Lies.box {w : World} {B : Nat} {K S Q N : Int} {T : ByteArray} (h : Lies w B K S Q T N) : Box w B 0 K S Q T N := by
  unfold Lies at h
  exact ⟨lt_of_block h, by simp [World.cell?, h], by simp [World.cell?, h], by simp [World.cell?, h], by simp [World.cell?, h], by simp [World.cell?, h]⟩
theorem Lies.free {w : World} {B : Nat} {K S Q N : Int} {T : ByteArray} (h : Lies w B K S Q T N) (i : Nat) : w.frozen? ⟨B, i, none⟩ = false := by
  unfold Lies at h
  simp [World.frozen?, h]
theorem Lies.set0 {w : World} {B : Nat} {K S Q N : Int} {T : ByteArray} (h : Lies w B K S Q T N) (K' : Int) : Lies (w.setCell ⟨B, 0, none⟩ (.int .i64 K')) B K' S Q T N := Lib.heap_setCell_same (i := 0) h _
theorem Lies.set1 {w : World} {B : Nat} {K S Q N : Int} {T : ByteArray} (h : Lies w B K S Q T N) (S' : Int) : Lies (w.setCell ⟨B, 1, none⟩ (.int .i64 S')) B K S' Q T N := Lib.heap_setCell_same (i := 1) h _
theorem Lies.set2 {w : World} {B : Nat} {K S Q N : Int} {T : ByteArray} (h : Lies w B K S Q T N) (Q' : Int) : Lies (w.setCell ⟨B, 2, none⟩ (.int .i64 Q')) B K S Q' T N := Lib.heap_setCell_same (i := 2) h _
theorem Lies.set3 {w : World} {B : Nat} {K S Q N : Int} {T : ByteArray} (h : Lies w B K S Q T N) (T' : ByteArray) : Lies (w.setCell ⟨B, 3, none⟩ (.string T')) B K S Q T' N := Lib.heap_setCell_same (i := 3) h _
theorem Lies.set4 {w : World} {B : Nat} {K S Q N : Int} {T : ByteArray} (h : Lies w B K S Q T N) (N' : Int) : Lies (w.setCell ⟨B, 4, none⟩ (.int .i64 N')) B K S Q T N' := Lib.heap_setCell_same (i := 4) h _
theorem Lies.far {w w' : World} {B : Nat} {K S Q N : Int} {T : ByteArray} (h : Lies w B K S Q T N) (hb : w'.heap[B]? = w.heap[B]?) : Lies w' B K S Q T N := by
  unfold Lies at h ⊢
  rw [hb]
  exact h

/-- Where a decoding stands: the reader, the command so far, the result, nothing else turned. -/
structure Dc (w0 : World) (base m : Nat) (w : World) (s : ByteArray) (b : Bool) (K S Q : Int) (T : ByteArray) (N : Int) : Prop where
  rd : Rp w (base + 1) m s b
  cm : Lies w (base + 1 + 1) K S Q T N
  rs : Lies w base 0 0 0 ⟨#[]⟩ 0
  bel : Below base w0 w
theorem Dc.call {w0 w w' : World} {base m : Nat} {s s' : ByteArray} {b b' : Bool} {K S Q N : Int} {T : ByteArray} (h : Dc w0 base m w s b K S Q T N) (hr : Rp w' (base + 1) m s' b') (hg : w.grownBy w' (some (base + 1))) : Dc w0 base m w' s' b' K S Q T N :=
  ⟨hr, h.cm.far (hg.block _ h.cm.box.lt (by simp)), h.rs.far (hg.block _ h.rs.box.lt (by simp)), h.bel.grown hg (Nat.le_of_lt h.rs.box.lt) (fun k hk => by have := Option.some.inj hk; omega)⟩
theorem Dc.set {w0 w : World} {base m i : Nat} {v : Value} {s : ByteArray} {b : Bool} {K S Q N K' S' Q' N' : Int} {T T' : ByteArray} (h : Dc w0 base m w s b K S Q T N) (hc : Lies (w.setCell ⟨base + 1 + 1, i, none⟩ v) (base + 1 + 1) K' S' Q' T' N') : Dc w0 base m (w.setCell ⟨base + 1 + 1, i, none⟩ v) s b K' S' Q' T' N' :=
  ⟨h.rd.far (heap_setCell_other _ _ _ _ (by simp)), hc, h.rs.far (heap_setCell_other _ _ _ _ (by simp; omega)), h.bel.setCell (p := ⟨base + 1 + 1, i, none⟩) (by simp; omega) _⟩

theorem Dc.below {w0 w w' : World} {base m : Nat} {s : ByteArray} {b : Bool} {K S Q N : Int} {T : ByteArray} (h : Dc w0 base m w s b K S Q T N) (hb : Below w.heap.size w w') : Dc w0 base m w' s b K S Q T N :=
  ⟨h.rd.far (hb.block _ h.rd.lt), h.cm.far (hb.block _ h.cm.box.lt), h.rs.far (hb.block _ h.rs.box.lt), bmm h.bel (Nat.le_of_lt h.rs.box.lt) hb⟩

/-- Three new blocks. -/
theorem three_new (w : World) (o1 o2 o3 : Obj) {base : Nat} (h : w.heap.size = base) :
    (((w.alloc o1).alloc o2).alloc o3).heap[base]? = some o1 ∧ (((w.alloc o1).alloc o2).alloc o3).heap[base + 1]? = some o2 ∧ (((w.alloc o1).alloc o2).alloc o3).heap[base + 1 + 1]? = some o3 := by
  have n1 : (w.alloc o1).heap.size = base + 1 := by rw [World.size_alloc, h]
  have n2 : ((w.alloc o1).alloc o2).heap.size = base + 1 + 1 := by rw [World.size_alloc, n1]
  refine ⟨?_, ?_, ?_⟩
  · rw [Below.heap_alloc _ o3 base (by omega), Below.heap_alloc _ o2 base (by omega), ← h]
    exact heap_alloc_new w o1
  · rw [Below.heap_alloc _ o3 (base + 1) (by omega)]
    have := heap_alloc_new (w.alloc o1) o2
    rw [n1] at this
    exact this
  · have := heap_alloc_new ((w.alloc o1).alloc o2) o3
    rw [n2] at this
    exact this

/-- Decode's two answers. -/
def decT (s : ByteArray) : Cm × Int := match decC s with | some c => (c, 0) | none => (Cm.zero, 2)
theorem decT_ok {s : ByteArray} (h1 : (readC s).2 = 0) (h2 : mayB (readC s).1 = true) : decT s = ((readC s).1, 0) := by
  unfold decT decC
  rw [if_pos ⟨h1, h2⟩]
theorem decT_no {s : ByteArray} (h : ¬ ((readC s).2 = 0 ∧ mayB (readC s).1 = true)) : decT s = (Cm.zero, 2) := by
  unfold decT decC
  rw [if_neg h]

set_option maxHeartbeats 3200000 in
set_option maxRecDepth 100000 in
theorem rdecode_any (s : ByteArray) (hs : s.size ≤ 9223372036854775807) (w : World) :
    Calls Tryz.prog 79 #[.string s] w fun e w' => e = .returned (.tuple #[.agg #[.int .i64 (decT s).1.kind, .int .i64 (decT s).1.session, .int .i64 (decT s).1.seq, .string (decT s).1.name, .int .i64 (decT s).1.n], .int .i64 (decT s).2]) ∧ Below w.heap.size w w' := by
  obtain ⟨N1, s1, b1, h1⟩ : ∃ N s' b', rU s false = (N, s', b') := ⟨_, _, _, rfl⟩
  obtain ⟨N2, s2, b2, h2⟩ : ∃ N s' b', rU s1 b1 = (N, s', b') := ⟨_, _, _, rfl⟩
  obtain ⟨N3, s3, b3, h3⟩ : ∃ N s' b', rU s2 b2 = (N, s', b') := ⟨_, _, _, rfl⟩
  obtain ⟨T4, s4, b4, h4⟩ : ∃ N s' b', rT s3 b3 = (N, s', b') := ⟨_, _, _, rfl⟩
  obtain ⟨N5, s5, b5, h5⟩ : ∃ N s' b', rU s4 b4 = (N, s', b') := ⟨_, _, _, rfl⟩
  have hread : readC s = (⟨zag N1, zag N2, zag N3, T4, zag N5⟩, rD s5 b5) := by
    unfold readC
    simp only [h1, h2, h3, h4, h5]
  obtain ⟨base, hbase⟩ : ∃ base, w.heap.size = base := ⟨_, rfl⟩
  have st0 : Dc w base s.size (((w.alloc (.cells #[.int .i64 0, .int .i64 0, .int .i64 0, .string ⟨#[]⟩, .int .i64 0] 23)).alloc (.cells #[.string s, .bool false] 127)).alloc (.cells #[.int .i64 0, .int .i64 0, .int .i64 0, .string ⟨#[]⟩, .int .i64 0] 23)) s false 0 0 0 ⟨#[]⟩ 0 := by
    obtain ⟨n1, n2, n3⟩ := three_new w (.cells #[.int .i64 0, .int .i64 0, .int .i64 0, .string ⟨#[]⟩, .int .i64 0] 23) (.cells #[.string s, .bool false] 127) (.cells #[.int .i64 0, .int .i64 0, .int .i64 0, .string ⟨#[]⟩, .int .i64 0] 23) hbase
    exact ⟨⟨s, ⟨fun _ => rfl, fun h => by cases h⟩, Nat.le_refl _, n2⟩, n3, n1, (((Below.refl base w).alloc (by omega) _).alloc (by simp; omega) _).alloc (by simp; omega) _⟩
  have q0 := rmay_any (zag N1) (zag N2) (zag N3) (zag N5) T4
  rw [hbase]
  by_cases hD : rD s5 b5 = 0
  · by_cases hm : mayB ⟨zag N1, zag N2, zag N3, T4, zag N5⟩ = true
    · have hT : decT s = (⟨zag N1, zag N2, zag N3, T4, zag N5⟩, 0) := by
        have := decT_ok (s := s) (by rw [hread]; exact hD) (by rw [hread]; exact hm)
        rw [hread] at this
        exact this
      rw [hT]
      rw [hm] at q0
      clear hread hT hm
      go_enter Tryz.func79, Tryz.ntmps79
      go_wp2_with (first
        | (go_at_call 101; refine (q0 _).mono ?_; rintro e w7 ⟨rfl, b7⟩; have st7 := sv5.below b7; have z0 := st7.cm.box.c0; have z1 := st7.cm.box.c1; have z2 := st7.cm.box.c2; have z3 := st7.cm.box.c3; have z4 := st7.cm.box.c4; simp only [Nat.zero_add] at z1 z2 z3 z4; have u0 := st7.rs.box.c0; have u1 := st7.rs.box.c1; have u2 := st7.rs.box.c2; have u3 := st7.rs.box.c3; have u4 := st7.rs.box.c4; simp only [Nat.zero_add] at u1 u2 u3 u4; have v0 := st7.rs.free 0; have v1 := st7.rs.free 1; have v2 := st7.rs.free 2; have v3 := st7.rs.free 3; have v4 := st7.rs.free 4)
        | (go_at_call 81; refine (pdone sv5.rd).mono ?_; rintro e w' ⟨rfl, rfl⟩; have y0 := sv5.cm.box.c0; have y1 := sv5.cm.box.c1; have y2 := sv5.cm.box.c2; have y3 := sv5.cm.box.c3; have y4 := sv5.cm.box.c4; simp only [Nat.zero_add] at y1 y2 y3 y4)
        | (go_at_call 78; have d5 := d4; refine (pint' hs sv4.rd h5).mono ?_; rintro e w5 ⟨rfl, r5, g5⟩; have st5 := sv4.call r5 g5; have f5 := st5.cm.free 4; have x5 := st5.cm.box.c4; simp only [Nat.zero_add] at x5; have sv5 := st5.set (st5.cm.set4 (zag N5)))
        | (go_at_call 80; refine (ptext' hs sv3.rd h4).mono ?_; rintro e w4 ⟨rfl, r4, g4⟩; have st4 := sv3.call r4 g4; have f4 := st4.cm.free 3; have x4 := st4.cm.box.c3; simp only [Nat.zero_add] at x4; have sv4 := st4.set (st4.cm.set3 (T4)); have d4 : True := trivial)
        | (go_at_call 78; have d3 := d2; refine (pint' hs sv2.rd h3).mono ?_; rintro e w3 ⟨rfl, r3, g3⟩; have st3 := sv2.call r3 g3; have f3 := st3.cm.free 2; have x3 := st3.cm.box.c2; simp only [Nat.zero_add] at x3; have sv3 := st3.set (st3.cm.set2 (zag N3)))
        | (go_at_call 78; have d2 := d1; refine (pint' hs sv1.rd h2).mono ?_; rintro e w2 ⟨rfl, r2, g2⟩; have st2 := sv1.call r2 g2; have f2 := st2.cm.free 1; have x2 := st2.cm.box.c1; simp only [Nat.zero_add] at x2; have sv2 := st2.set (st2.cm.set1 (zag N2)); have d2 : True := trivial)
        | (go_at_call 78; refine (pint' hs st0.rd h1).mono ?_; rintro e w1 ⟨rfl, r1, g1⟩; have st1 := st0.call r1 g1; have f1 := st1.cm.free 0; have x1 := st1.cm.box.c0; have sv1 := st1.set (st1.cm.set0 (zag N1)); have d1 : True := trivial))
      have F := ((((st7.rs.set0 (zag N1)).set1 (zag N2)).set2 (zag N3)).set3 T4).set4 (zag N5)
      have FB := ((((st7.bel.setCell (p := ⟨base, 0, none⟩) (Nat.le_refl base) (.int .i64 (zag N1))).setCell (p := ⟨base, 1, none⟩) (Nat.le_refl base) (.int .i64 (zag N2))).setCell (p := ⟨base, 2, none⟩) (Nat.le_refl base) (.int .i64 (zag N3))).setCell (p := ⟨base, 3, none⟩) (Nat.le_refl base) (.string T4)).setCell (p := ⟨base, 4, none⟩) (Nat.le_refl base) (.int .i64 (zag N5))
      have k0 := F.box.c0
      have k1 := F.box.c1
      have k2 := F.box.c2
      have k3 := F.box.c3
      have k4 := F.box.c4
      simp only [Nat.zero_add] at k1 k2 k3 k4
      refine bodyPost_ret (v := .tuple #[.agg #[.int .i64 (zag N1), .int .i64 (zag N2), .int .i64 (zag N3), .string T4, .int .i64 (zag N5)], .int .i64 0]) (by simp [results, Tryz.results79, go_sem, k0, k1, k2, k3, k4]) rfl ⟨rfl, FB⟩
    · have hT : decT s = (Cm.zero, 2) := decT_no (by rw [hread]; exact fun h => hm h.2)
      rw [hT]
      rw [show mayB ⟨zag N1, zag N2, zag N3, T4, zag N5⟩ = false by simpa using hm] at q0
      clear hread hT hm
      go_enter Tryz.func79, Tryz.ntmps79
      go_wp2_with (first
        | (go_at_call 101; refine (q0 _).mono ?_; rintro e w7 ⟨rfl, b7⟩; have st7 := sv5.below b7; have z0 := st7.cm.box.c0; have z1 := st7.cm.box.c1; have z2 := st7.cm.box.c2; have z3 := st7.cm.box.c3; have z4 := st7.cm.box.c4; simp only [Nat.zero_add] at z1 z2 z3 z4; have u0 := st7.rs.box.c0; have u1 := st7.rs.box.c1; have u2 := st7.rs.box.c2; have u3 := st7.rs.box.c3; have u4 := st7.rs.box.c4; simp only [Nat.zero_add] at u1 u2 u3 u4; have v0 := st7.rs.free 0; have v1 := st7.rs.free 1; have v2 := st7.rs.free 2; have v3 := st7.rs.free 3; have v4 := st7.rs.free 4)
        | (go_at_call 81; refine (pdone sv5.rd).mono ?_; rintro e w' ⟨rfl, rfl⟩; have y0 := sv5.cm.box.c0; have y1 := sv5.cm.box.c1; have y2 := sv5.cm.box.c2; have y3 := sv5.cm.box.c3; have y4 := sv5.cm.box.c4; simp only [Nat.zero_add] at y1 y2 y3 y4)
        | (go_at_call 78; have d5 := d4; refine (pint' hs sv4.rd h5).mono ?_; rintro e w5 ⟨rfl, r5, g5⟩; have st5 := sv4.call r5 g5; have f5 := st5.cm.free 4; have x5 := st5.cm.box.c4; simp only [Nat.zero_add] at x5; have sv5 := st5.set (st5.cm.set4 (zag N5)))
        | (go_at_call 80; refine (ptext' hs sv3.rd h4).mono ?_; rintro e w4 ⟨rfl, r4, g4⟩; have st4 := sv3.call r4 g4; have f4 := st4.cm.free 3; have x4 := st4.cm.box.c3; simp only [Nat.zero_add] at x4; have sv4 := st4.set (st4.cm.set3 (T4)); have d4 : True := trivial)
        | (go_at_call 78; have d3 := d2; refine (pint' hs sv2.rd h3).mono ?_; rintro e w3 ⟨rfl, r3, g3⟩; have st3 := sv2.call r3 g3; have f3 := st3.cm.free 2; have x3 := st3.cm.box.c2; simp only [Nat.zero_add] at x3; have sv3 := st3.set (st3.cm.set2 (zag N3)))
        | (go_at_call 78; have d2 := d1; refine (pint' hs sv1.rd h2).mono ?_; rintro e w2 ⟨rfl, r2, g2⟩; have st2 := sv1.call r2 g2; have f2 := st2.cm.free 1; have x2 := st2.cm.box.c1; simp only [Nat.zero_add] at x2; have sv2 := st2.set (st2.cm.set1 (zag N2)); have d2 : True := trivial)
        | (go_at_call 78; refine (pint' hs st0.rd h1).mono ?_; rintro e w1 ⟨rfl, r1, g1⟩; have st1 := st0.call r1 g1; have f1 := st1.cm.free 0; have x1 := st1.cm.box.c0; have sv1 := st1.set (st1.cm.set0 (zag N1)); have d1 : True := trivial))
      have F := ((((st7.rs.set0 0).set1 0).set2 0).set3 ⟨#[]⟩).set4 0
      have FB := ((((st7.bel.setCell (p := ⟨base, 0, none⟩) (Nat.le_refl base) (.int .i64 0)).setCell (p := ⟨base, 1, none⟩) (Nat.le_refl base) (.int .i64 0)).setCell (p := ⟨base, 2, none⟩) (Nat.le_refl base) (.int .i64 0)).setCell (p := ⟨base, 3, none⟩) (Nat.le_refl base) (.string ⟨#[]⟩)).setCell (p := ⟨base, 4, none⟩) (Nat.le_refl base) (.int .i64 0)
      have k0 := F.box.c0
      have k1 := F.box.c1
      have k2 := F.box.c2
      have k3 := F.box.c3
      have k4 := F.box.c4
      simp only [Nat.zero_add] at k1 k2 k3 k4
      refine bodyPost_ret (v := .tuple #[.agg #[.int .i64 0, .int .i64 0, .int .i64 0, .string ⟨#[]⟩, .int .i64 0], .int .i64 2]) (by simp [results, Tryz.results79, go_sem, k0, k1, k2, k3, k4]) rfl ⟨rfl, FB⟩
  · have hT : decT s = (Cm.zero, 2) := decT_no (by rw [hread]; exact fun h => hD h.1)
    rw [hT]
    have hD' : (rD s5 b5 != 0) = true := by simpa using hD
    clear hread hT hD q0
    go_enter Tryz.func79, Tryz.ntmps79
    go_wp2_with (first
      | (go_at_call 81; refine (pdone sv5.rd).mono ?_; rintro e w' ⟨rfl, rfl⟩; have y0 := sv5.cm.box.c0; have y1 := sv5.cm.box.c1; have y2 := sv5.cm.box.c2; have y3 := sv5.cm.box.c3; have y4 := sv5.cm.box.c4; simp only [Nat.zero_add] at y1 y2 y3 y4; have u0 := sv5.rs.box.c0; have u1 := sv5.rs.box.c1; have u2 := sv5.rs.box.c2; have u3 := sv5.rs.box.c3; have u4 := sv5.rs.box.c4; simp only [Nat.zero_add] at u1 u2 u3 u4; have v0 := sv5.rs.free 0; have v1 := sv5.rs.free 1; have v2 := sv5.rs.free 2; have v3 := sv5.rs.free 3; have v4 := sv5.rs.free 4; have st7 := sv5)
      | (go_at_call 78; have d5 := d4; refine (pint' hs sv4.rd h5).mono ?_; rintro e w5 ⟨rfl, r5, g5⟩; have st5 := sv4.call r5 g5; have f5 := st5.cm.free 4; have x5 := st5.cm.box.c4; simp only [Nat.zero_add] at x5; have sv5 := st5.set (st5.cm.set4 (zag N5)))
      | (go_at_call 80; refine (ptext' hs sv3.rd h4).mono ?_; rintro e w4 ⟨rfl, r4, g4⟩; have st4 := sv3.call r4 g4; have f4 := st4.cm.free 3; have x4 := st4.cm.box.c3; simp only [Nat.zero_add] at x4; have sv4 := st4.set (st4.cm.set3 (T4)); have d4 : True := trivial)
      | (go_at_call 78; have d3 := d2; refine (pint' hs sv2.rd h3).mono ?_; rintro e w3 ⟨rfl, r3, g3⟩; have st3 := sv2.call r3 g3; have f3 := st3.cm.free 2; have x3 := st3.cm.box.c2; simp only [Nat.zero_add] at x3; have sv3 := st3.set (st3.cm.set2 (zag N3)))
      | (go_at_call 78; have d2 := d1; refine (pint' hs sv1.rd h2).mono ?_; rintro e w2 ⟨rfl, r2, g2⟩; have st2 := sv1.call r2 g2; have f2 := st2.cm.free 1; have x2 := st2.cm.box.c1; simp only [Nat.zero_add] at x2; have sv2 := st2.set (st2.cm.set1 (zag N2)); have d2 : True := trivial)
      | (go_at_call 78; refine (pint' hs st0.rd h1).mono ?_; rintro e w1 ⟨rfl, r1, g1⟩; have st1 := st0.call r1 g1; have f1 := st1.cm.free 0; have x1 := st1.cm.box.c0; have sv1 := st1.set (st1.cm.set0 (zag N1)); have d1 : True := trivial))
    have F := ((((st7.rs.set0 0).set1 0).set2 0).set3 ⟨#[]⟩).set4 0
    have FB := ((((st7.bel.setCell (p := ⟨base, 0, none⟩) (Nat.le_refl base) (.int .i64 0)).setCell (p := ⟨base, 1, none⟩) (Nat.le_refl base) (.int .i64 0)).setCell (p := ⟨base, 2, none⟩) (Nat.le_refl base) (.int .i64 0)).setCell (p := ⟨base, 3, none⟩) (Nat.le_refl base) (.string ⟨#[]⟩)).setCell (p := ⟨base, 4, none⟩) (Nat.le_refl base) (.int .i64 0)
    have k0 := F.box.c0
    have k1 := F.box.c1
    have k2 := F.box.c2
    have k3 := F.box.c3
    have k4 := F.box.c4
    simp only [Nat.zero_add] at k1 k2 k3 k4
    refine bodyPost_ret (v := .tuple #[.agg #[.int .i64 0, .int .i64 0, .int .i64 0, .string ⟨#[]⟩, .int .i64 0], .int .i64 2]) (by simp [results, Tryz.results79, go_sem, k0, k1, k2, k3, k4]) rfl ⟨rfl, FB⟩
end Go.Proofs.YtdhlbldmdeepiaaGreatDoor
/-
  The contract of the document's own decoding of entries (package latchkeyref03). The condition: the text is no longer than a text of 64 bits' length.
-/
namespace Go.Proofs.YtdhlbldmdeepiaaGreatDoor
open Go.RowKit

/-- An entry laid in a block of its own. -/
def LiesE (w : World) (X : Nat) (A B K S Q : Int) (T : ByteArray) (N : Int) : Prop := w.heap[X]? = some (.cells #[.int .i64 A, .int .i64 B, .int .i64 K, .int .i64 S, .int .i64 Q, .string T, .int .i64 N] 25 (0, 0))
/-- Its cells. -/
structure BoxE (w : World) (X : Nat) (A B K S Q : Int) (T : ByteArray) (N : Int) : Prop where
  lt : X < w.heap.size
  c0 : w.cell? ⟨X, 0, none⟩ = some (.int .i64 A)
  c1 : w.cell? ⟨X, 1, none⟩ = some (.int .i64 B)
  c2 : w.cell? ⟨X, 2, none⟩ = some (.int .i64 K)
  c3 : w.cell? ⟨X, 3, none⟩ = some (.int .i64 S)
  c4 : w.cell? ⟨X, 4, none⟩ = some (.int .i64 Q)
  c5 : w.cell? ⟨X, 5, none⟩ = some (.string T)
  c6 : w.cell? ⟨X, 6, none⟩ = some (.int .i64 N)
theorem LiesE.box {w : World} {X : Nat} {A B K S Q N : Int} {T : ByteArray} (h : LiesE w X A B K S Q T N) : BoxE w X A B K S Q T N := by
  unfold LiesE at h
  exact ⟨lt_of_block h, by simp [World.cell?, h], by simp [World.cell?, h], by simp [World.cell?, h], by simp [World.cell?, h], by simp [World.cell?, h], by simp [World.cell?, h], by simp [World.cell?, h]⟩
theorem LiesE.free {w : World} {X : Nat} {A B K S Q N : Int} {T : ByteArray} (h : LiesE w X A B K S Q T N) (i : Nat) : w.frozen? ⟨X, i, none⟩ = false := by
  unfold LiesE at h
  simp [World.frozen?, h]
theorem LiesE.set0 {w : World} {X : Nat} {A B K S Q N : Int} {T : ByteArray} (h : LiesE w X A B K S Q T N) (x : Int) : LiesE (w.setCell ⟨X, 0, none⟩ (.int .i64 x)) X x B K S Q T N := Lib.heap_setCell_same (i := 0) h _
theorem LiesE.set1 {w : World} {X : Nat} {A B K S Q N : Int} {T : ByteArray} (h : LiesE w X A B K S Q T N) (x : Int) : LiesE (w.setCell ⟨X, 1, none⟩ (.int .i64 x)) X A x K S Q T N := Lib.heap_setCell_same (i := 1) h _
theorem LiesE.set2 {w : World} {X : Nat} {A B K S Q N : Int} {T : ByteArray} (h : LiesE w X A B K S Q T N) (x : Int) : LiesE (w.setCell ⟨X, 2, none⟩ (.int .i64 x)) X A B x S Q T N := Lib.heap_setCell_same (i := 2) h _
theorem LiesE.set3 {w : World} {X : Nat} {A B K S Q N : Int} {T : ByteArray} (h : LiesE w X A B K S Q T N) (x : Int) : LiesE (w.setCell ⟨X, 3, none⟩ (.int .i64 x)) X A B K x Q T N := Lib.heap_setCell_same (i := 3) h _
theorem LiesE.set4 {w : World} {X : Nat} {A B K S Q N : Int} {T : ByteArray} (h : LiesE w X A B K S Q T N) (x : Int) : LiesE (w.setCell ⟨X, 4, none⟩ (.int .i64 x)) X A B K S x T N := Lib.heap_setCell_same (i := 4) h _
theorem LiesE.set5 {w : World} {X : Nat} {A B K S Q N : Int} {T : ByteArray} (h : LiesE w X A B K S Q T N) (x : ByteArray) : LiesE (w.setCell ⟨X, 5, none⟩ (.string x)) X A B K S Q x N := Lib.heap_setCell_same (i := 5) h _
theorem LiesE.set6 {w : World} {X : Nat} {A B K S Q N : Int} {T : ByteArray} (h : LiesE w X A B K S Q T N) (x : Int) : LiesE (w.setCell ⟨X, 6, none⟩ (.int .i64 x)) X A B K S Q T x := Lib.heap_setCell_same (i := 6) h _
theorem LiesE.far {w w' : World} {X : Nat} {A B K S Q N : Int} {T : ByteArray} (h : LiesE w X A B K S Q T N) (hb : w'.heap[X]? = w.heap[X]?) : LiesE w' X A B K S Q T N := by
  unfold LiesE at h ⊢
  rw [hb]
  exact h

/-- Where a decoding stands: the reader, the entry so far, the result, nothing else turned. -/
structure De (w0 : World) (base m : Nat) (w : World) (s : ByteArray) (b : Bool) (A B K S Q : Int) (T : ByteArray) (N : Int) : Prop where
  rd : Rp w (base + 1) m s b
  en : LiesE w (base + 1 + 1) A B K S Q T N
  rs : LiesE w base 0 0 0 0 0 ⟨#[]⟩ 0
  bel : Below base w0 w
theorem De.call {w0 w w' : World} {base m : Nat} {s s' : ByteArray} {b b' : Bool} {A B K S Q N : Int} {T : ByteArray} (h : De w0 base m w s b A B K S Q T N) (hr : Rp w' (base + 1) m s' b') (hg : w.grownBy w' (some (base + 1))) : De w0 base m w' s' b' A B K S Q T N :=
  ⟨hr, h.en.far (hg.block _ h.en.box.lt (by simp)), h.rs.far (hg.block _ h.rs.box.lt (by simp)), h.bel.grown hg (Nat.le_of_lt h.rs.box.lt) (fun k hk => by have := Option.some.inj hk; omega)⟩
theorem De.set {w0 w : World} {base m i : Nat} {v : Value} {s : ByteArray} {b : Bool} {A B K S Q N A' B' K' S' Q' N' : Int} {T T' : ByteArray} (h : De w0 base m w s b A B K S Q T N) (hc : LiesE (w.setCell ⟨base + 1 + 1, i, none⟩ v) (base + 1 + 1) A' B' K' S' Q' T' N') : De w0 base m (w.setCell ⟨base + 1 + 1, i, none⟩ v) s b A' B' K' S' Q' T' N' :=
  ⟨h.rd.far (heap_setCell_other _ _ _ _ (by simp)), hc, h.rs.far (heap_setCell_other _ _ _ _ (by simp; omega)), h.bel.setCell (p := ⟨base + 1 + 1, i, none⟩) (by simp; omega) _⟩
theorem De.below {w0 w w' : World} {base m : Nat} {s : ByteArray} {b : Bool} {A B K S Q N : Int} {T : ByteArray} (h : De w0 base m w s b A B K S Q T N) (hb : Below w.heap.size w w') : De w0 base m w' s b A B K S Q T N :=
  ⟨h.rd.far (hb.block _ h.rd.lt), h.en.far (hb.block _ h.en.box.lt), h.rs.far (hb.block _ h.rs.box.lt), bmm h.bel (Nat.le_of_lt h.rs.box.lt) hb⟩
theorem De.alloc {w0 w : World} {base m : Nat} {s : ByteArray} {b : Bool} {A B K S Q N : Int} {T : ByteArray} (h : De w0 base m w s b A B K S Q T N) (o : Obj) : De w0 base m (w.alloc o) s b A B K S Q T N := h.below ((Below.refl _ w).alloc (Nat.le_refl _) o)

/-- DecodeEntry's two answers. -/
def decET (s : ByteArray) : En × Int := match decE s with | some e => (e, 0) | none => (En.zero, 2)
theorem decET_ok {s : ByteArray} {c : Cm} (h0 : decC (readE s).2.2.1 = some c) (h1 : (readE s).2.2.2 = 0) (h2 : mayE ⟨(readE s).1, (readE s).2.1, c⟩ = true) : decET s = (⟨(readE s).1, (readE s).2.1, c⟩, 0) := by
  unfold decET decE
  rw [h0]
  simp only
  rw [if_pos ⟨h1, h2⟩]
theorem decET_no0 {s : ByteArray} (h0 : decC (readE s).2.2.1 = none) : decET s = (En.zero, 2) := by
  unfold decET decE
  rw [h0]
theorem decET_no {s : ByteArray} {c : Cm} (h0 : decC (readE s).2.2.1 = some c) (h : ¬ ((readE s).2.2.2 = 0 ∧ mayE ⟨(readE s).1, (readE s).2.1, c⟩ = true)) : decET s = (En.zero, 2) := by
  unfold decET decE
  rw [h0]
  simp only
  rw [if_neg h]
theorem decET_no1 {s : ByteArray} (h : ¬ (readE s).2.2.2 = 0) : decET s = (En.zero, 2) := by
  cases h0 : decC (readE s).2.2.1 with
  | none => exact decET_no0 h0
  | some c => exact decET_no h0 (fun x => h x.1)

set_option maxHeartbeats 3200000 in
set_option maxRecDepth 100000 in
theorem rdecodeE_any (s : ByteArray) (hs : s.size ≤ 9223372036854775807) (w : World) :
    Calls Tryz.prog 36 #[.string s] w fun e w' => e = .returned (.tuple #[.agg #[.int .i64 (decET s).1.slot, .int .i64 (decET s).1.ballot, .int .i64 (decET s).1.cmd.kind, .int .i64 (decET s).1.cmd.session, .int .i64 (decET s).1.cmd.seq, .string (decET s).1.cmd.name, .int .i64 (decET s).1.cmd.n], .int .i64 (decET s).2]) ∧ Below w.heap.size w w' := by
  obtain ⟨N1, s1, b1, h1⟩ : ∃ N s' b', rU s false = (N, s', b') := ⟨_, _, _, rfl⟩
  obtain ⟨N2, s2, b2, h2⟩ : ∃ N s' b', rU s1 b1 = (N, s', b') := ⟨_, _, _, rfl⟩
  obtain ⟨T3, s3, b3, h3⟩ : ∃ N s' b', rT s2 b2 = (N, s', b') := ⟨_, _, _, rfl⟩
  have hread : readE s = (zag N1, zag N2, T3, rD s3 b3) := by
    unfold readE
    simp only [h1, h2, h3]
  have hT3 : T3.size ≤ 9223372036854775807 := by
    have : T3 = (rT s2 b2).1 := by rw [h3]
    rw [this]
    unfold rT
    split
    · exact Nat.zero_le _
    · rename_i hz
      rw [Lib.size_eq, Lib.extract_data, List.length_take]
      omega
  obtain ⟨base, hbase⟩ : ∃ base, w.heap.size = base := ⟨_, rfl⟩
  have st0 : De w base s.size (((w.alloc (.cells #[.int .i64 0, .int .i64 0, .int .i64 0, .int .i64 0, .int .i64 0, .string ⟨#[]⟩, .int .i64 0] 25)).alloc (.cells #[.string s, .bool false] 127)).alloc (.cells #[.int .i64 0, .int .i64 0, .int .i64 0, .int .i64 0, .int .i64 0, .string ⟨#[]⟩, .int .i64 0] 25)) s false 0 0 0 0 0 ⟨#[]⟩ 0 := by
    obtain ⟨n1, n2, n3⟩ := three_new w (.cells #[.int .i64 0, .int .i64 0, .int .i64 0, .int .i64 0, .int .i64 0, .string ⟨#[]⟩, .int .i64 0] 25) (.cells #[.string s, .bool false] 127) (.cells #[.int .i64 0, .int .i64 0, .int .i64 0, .int .i64 0, .int .i64 0, .string ⟨#[]⟩, .int .i64 0] 25) hbase
    exact ⟨⟨s, ⟨fun _ => rfl, fun h => by cases h⟩, Nat.le_refl _, n2⟩, n3, n1, (((Below.refl base w).alloc (by omega) _).alloc (by simp; omega) _).alloc (by simp; omega) _⟩
  have qd := rdecode_any T3 hT3
  rw [hbase]
  cases hc : decC T3 with
  | none =>
    have eT : decT T3 = (Cm.zero, 2) := by unfold decT; rw [hc]
    rw [eT] at qd
    have qd' : ∀ w, Calls Tryz.prog 79 #[.string T3] w fun e w' => e = .returned (.tuple #[.agg #[.int .i64 0, .int .i64 0, .int .i64 0, .string ⟨#[]⟩, .int .i64 0], .int .i64 2]) ∧ Below w.heap.size w w' := qd
    have hE : decET s = (En.zero, 2) := decET_no0 (by rw [hread]; exact hc)
    rw [hE]
    clear qd eT hE hread hc
    by_cases hD : rD s3 b3 = 0
    · go_enter Tryz.func36, Tryz.ntmps36
      go_wp2_with (first
        | (go_at_call 81; refine (pdone sv5.rd).mono ?_; rintro e w5 ⟨rfl, hw⟩; rw [hw] at sv5; clear hw; have y0 := sv5.en.box.c0; have y1 := sv5.en.box.c1; have y2 := sv5.en.box.c2; have y3 := sv5.en.box.c3; have y4 := sv5.en.box.c4; have y5 := sv5.en.box.c5; have y6 := sv5.en.box.c6; have u0 := sv5.rs.box.c0; have u1 := sv5.rs.box.c1; have u2 := sv5.rs.box.c2; have u3 := sv5.rs.box.c3; have u4 := sv5.rs.box.c4; have u5 := sv5.rs.box.c5; have u6 := sv5.rs.box.c6; have v0 := sv5.rs.free 0; have v1 := sv5.rs.free 1; have v2 := sv5.rs.free 2; have v3 := sv5.rs.free 3; have v4 := sv5.rs.free 4; have v5 := sv5.rs.free 5; have v6 := sv5.rs.free 6; have st7 := sv5)
        | (go_at_call 79; refine (qd' _).mono ?_; rintro e w4 ⟨rfl, b4⟩; have st4 := st3.below b4; have lt4 := st4.en.box.lt; have ne4 : base + 1 + 1 ≠ w4.heap.size := Nat.ne_of_lt lt4; have p0 := st4.en.box.c0; have p1 := st4.en.box.c1; have p2 := st4.en.box.c2; have p3 := st4.en.box.c3; have p4 := st4.en.box.c4; have p5 := st4.en.box.c5; have p6 := st4.en.box.c6; have f0 := st4.en.free 0; have f1 := st4.en.free 1; have f2 := st4.en.free 2; have f3 := st4.en.free 3; have f4 := st4.en.free 4; have f5 := st4.en.free 5; have f6 := st4.en.free 6; have sv5 := ((((((st4.set (st4.en.set2 0)).set ((st4.en.set2 0).set3 0)).set (((st4.en.set2 0).set3 0).set4 0)).set ((((st4.en.set2 0).set3 0).set4 0).set5 ⟨#[]⟩)).set (((((st4.en.set2 0).set3 0).set4 0).set5 ⟨#[]⟩).set6 0)).alloc (.cells #[.int .i64 0, .int .i64 0, .int .i64 0, .string ⟨#[]⟩, .int .i64 0] 23)))
        | (go_at_call 80; refine (ptext' hs sv2.rd h3).mono ?_; rintro e w3 ⟨rfl, r3, g3⟩; have st3 := sv2.call r3 g3)
        | (go_at_call 78; have d2 := d1; refine (pint' hs sv1.rd h2).mono ?_; rintro e w2 ⟨rfl, r2, g2⟩; have st2 := sv1.call r2 g2; have f2 := st2.en.free 1; have x2 := st2.en.box.c1; have sv2 := st2.set (st2.en.set1 (zag N2)))
        | (go_at_call 78; refine (pint' hs st0.rd h1).mono ?_; rintro e w1 ⟨rfl, r1, g1⟩; have st1 := st0.call r1 g1; have f1 := st1.en.free 0; have x1 := st1.en.box.c0; have sv1 := st1.set (st1.en.set0 (zag N1)); have d1 : True := trivial))
      have F := (((((((st7.rs.set0 0).set1 0).set2 0).set3 0).set4 0).set5 ⟨#[]⟩).set6 0)
      have FB := (((((((st7.bel.setCell (p := ⟨base, 0, none⟩) (Nat.le_refl base) (.int .i64 0)).setCell (p := ⟨base, 1, none⟩) (Nat.le_refl base) (.int .i64 0)).setCell (p := ⟨base, 2, none⟩) (Nat.le_refl base) (.int .i64 0)).setCell (p := ⟨base, 3, none⟩) (Nat.le_refl base) (.int .i64 0)).setCell (p := ⟨base, 4, none⟩) (Nat.le_refl base) (.int .i64 0)).setCell (p := ⟨base, 5, none⟩) (Nat.le_refl base) (.string ⟨#[]⟩)).setCell (p := ⟨base, 6, none⟩) (Nat.le_refl base) (.int .i64 0))
      have k0 := F.box.c0
      have k1 := F.box.c1
      have k2 := F.box.c2
      have k3 := F.box.c3
      have k4 := F.box.c4
      have k5 := F.box.c5
      have k6 := F.box.c6
      refine bodyPost_ret (v := .tuple #[.agg #[.int .i64 0, .int .i64 0, .int .i64 0, .int .i64 0, .int .i64 0, .string ⟨#[]⟩, .int .i64 0], .int .i64 2]) (by simp [results, Tryz.results36, go_sem, k0, k1, k2, k3, k4, k5, k6]) rfl ⟨rfl, FB⟩
    · have hD' : (rD s3 b3 != 0) = true := by simpa using hD
      clear hD
      go_enter Tryz.func36, Tryz.ntmps36
      go_wp2_with (first
        | (go_at_call 81; refine (pdone sv5.rd).mono ?_; rintro e w5 ⟨rfl, hw⟩; rw [hw] at sv5; clear hw; have y0 := sv5.en.box.c0; have y1 := sv5.en.box.c1; have y2 := sv5.en.box.c2; have y3 := sv5.en.box.c3; have y4 := sv5.en.box.c4; have y5 := sv5.en.box.c5; have y6 := sv5.en.box.c6; have u0 := sv5.rs.box.c0; have u1 := sv5.rs.box.c1; have u2 := sv5.rs.box.c2; have u3 := sv5.rs.box.c3; have u4 := sv5.rs.box.c4; have u5 := sv5.rs.box.c5; have u6 := sv5.rs.box.c6; have v0 := sv5.rs.free 0; have v1 := sv5.rs.free 1; have v2 := sv5.rs.free 2; have v3 := sv5.rs.free 3; have v4 := sv5.rs.free 4; have v5 := sv5.rs.free 5; have v6 := sv5.rs.free 6; have st7 := sv5)
        | (go_at_call 79; refine (qd' _).mono ?_; rintro e w4 ⟨rfl, b4⟩; have st4 := st3.below b4; have lt4 := st4.en.box.lt; have ne4 : base + 1 + 1 ≠ w4.heap.size := Nat.ne_of_lt lt4; have p0 := st4.en.box.c0; have p1 := st4.en.box.c1; have p2 := st4.en.box.c2; have p3 := st4.en.box.c3; have p4 := st4.en.box.c4; have p5 := st4.en.box.c5; have p6 := st4.en.box.c6; have f0 := st4.en.free 0; have f1 := st4.en.free 1; have f2 := st4.en.free 2; have f3 := st4.en.free 3; have f4 := st4.en.free 4; have f5 := st4.en.free 5; have f6 := st4.en.free 6; have sv5 := ((((((st4.set (st4.en.set2 0)).set ((st4.en.set2 0).set3 0)).set (((st4.en.set2 0).set3 0).set4 0)).set ((((st4.en.set2 0).set3 0).set4 0).set5 ⟨#[]⟩)).set (((((st4.en.set2 0).set3 0).set4 0).set5 ⟨#[]⟩).set6 0)).alloc (.cells #[.int .i64 0, .int .i64 0, .int .i64 0, .string ⟨#[]⟩, .int .i64 0] 23)))
        | (go_at_call 80; refine (ptext' hs sv2.rd h3).mono ?_; rintro e w3 ⟨rfl, r3, g3⟩; have st3 := sv2.call r3 g3)
        | (go_at_call 78; have d2 := d1; refine (pint' hs sv1.rd h2).mono ?_; rintro e w2 ⟨rfl, r2, g2⟩; have st2 := sv1.call r2 g2; have f2 := st2.en.free 1; have x2 := st2.en.box.c1; have sv2 := st2.set (st2.en.set1 (zag N2)))
        | (go_at_call 78; refine (pint' hs st0.rd h1).mono ?_; rintro e w1 ⟨rfl, r1, g1⟩; have st1 := st0.call r1 g1; have f1 := st1.en.free 0; have x1 := st1.en.box.c0; have sv1 := st1.set (st1.en.set0 (zag N1)); have d1 : True := trivial))
      have F := (((((((st7.rs.set0 0).set1 0).set2 0).set3 0).set4 0).set5 ⟨#[]⟩).set6 0)
      have FB := (((((((st7.bel.setCell (p := ⟨base, 0, none⟩) (Nat.le_refl base) (.int .i64 0)).setCell (p := ⟨base, 1, none⟩) (Nat.le_refl base) (.int .i64 0)).setCell (p := ⟨base, 2, none⟩) (Nat.le_refl base) (.int .i64 0)).setCell (p := ⟨base, 3, none⟩) (Nat.le_refl base) (.int .i64 0)).setCell (p := ⟨base, 4, none⟩) (Nat.le_refl base) (.int .i64 0)).setCell (p := ⟨base, 5, none⟩) (Nat.le_refl base) (.string ⟨#[]⟩)).setCell (p := ⟨base, 6, none⟩) (Nat.le_refl base) (.int .i64 0))
      have k0 := F.box.c0
      have k1 := F.box.c1
      have k2 := F.box.c2
      have k3 := F.box.c3
      have k4 := F.box.c4
      have k5 := F.box.c5
      have k6 := F.box.c6
      refine bodyPost_ret (v := .tuple #[.agg #[.int .i64 0, .int .i64 0, .int .i64 0, .int .i64 0, .int .i64 0, .string ⟨#[]⟩, .int .i64 0], .int .i64 2]) (by simp [results, Tryz.results36, go_sem, k0, k1, k2, k3, k4, k5, k6]) rfl ⟨rfl, FB⟩
  | some c =>
    obtain ⟨K, S, Q, T, N⟩ := c
    have eT : decT T3 = (⟨K, S, Q, T, N⟩, 0) := by unfold decT; rw [hc]
    rw [eT] at qd
    have qd' : ∀ w, Calls Tryz.prog 79 #[.string T3] w fun e w' => e = .returned (.tuple #[.agg #[.int .i64 K, .int .i64 S, .int .i64 Q, .string T, .int .i64 N], .int .i64 0]) ∧ Below w.heap.size w w' := qd
    have qm := rmayE_any (zag N1) (zag N2) K S Q N T
    clear qd eT
    by_cases hD : rD s3 b3 = 0
    · by_cases hm : mayE ⟨zag N1, zag N2, ⟨K, S, Q, T, N⟩⟩ = true
      · have hE : decET s = (⟨zag N1, zag N2, ⟨K, S, Q, T, N⟩⟩, 0) := by
          have := decET_ok (s := s) (c := ⟨K, S, Q, T, N⟩) (by rw [hread]; exact hc) (by rw [hread]; exact hD) (by rw [hread]; exact hm)
          rw [hread] at this
          exact this
        rw [hE]
        rw [hm] at qm
        clear hE hread hc hm
        go_enter Tryz.func36, Tryz.ntmps36
        go_wp2_with (first
          | (go_at_call 72; refine (qm _).mono ?_; rintro e w7 ⟨rfl, b7⟩; have st7 := sv5.below b7; have z0 := st7.en.box.c0; have z1 := st7.en.box.c1; have z2 := st7.en.box.c2; have z3 := st7.en.box.c3; have z4 := st7.en.box.c4; have z5 := st7.en.box.c5; have z6 := st7.en.box.c6; have u0 := st7.rs.box.c0; have u1 := st7.rs.box.c1; have u2 := st7.rs.box.c2; have u3 := st7.rs.box.c3; have u4 := st7.rs.box.c4; have u5 := st7.rs.box.c5; have u6 := st7.rs.box.c6; have v0 := st7.rs.free 0; have v1 := st7.rs.free 1; have v2 := st7.rs.free 2; have v3 := st7.rs.free 3; have v4 := st7.rs.free 4; have v5 := st7.rs.free 5; have v6 := st7.rs.free 6)
          | (go_at_call 81; refine (pdone sv5.rd).mono ?_; rintro e w5 ⟨rfl, hw⟩; rw [hw] at sv5; clear hw; have y0 := sv5.en.box.c0; have y1 := sv5.en.box.c1; have y2 := sv5.en.box.c2; have y3 := sv5.en.box.c3; have y4 := sv5.en.box.c4; have y5 := sv5.en.box.c5; have y6 := sv5.en.box.c6)
          | (go_at_call 79; refine (qd' _).mono ?_; rintro e w4 ⟨rfl, b4⟩; have st4 := st3.below b4; have lt4 := st4.en.box.lt; have ne4 : base + 1 + 1 ≠ w4.heap.size := Nat.ne_of_lt lt4; have p0 := st4.en.box.c0; have p1 := st4.en.box.c1; have p2 := st4.en.box.c2; have p3 := st4.en.box.c3; have p4 := st4.en.box.c4; have p5 := st4.en.box.c5; have p6 := st4.en.box.c6; have f0 := st4.en.free 0; have f1 := st4.en.free 1; have f2 := st4.en.free 2; have f3 := st4.en.free 3; have f4 := st4.en.free 4; have f5 := st4.en.free 5; have f6 := st4.en.free 6; have sv5 := ((((((st4.set (st4.en.set2 K)).set ((st4.en.set2 K).set3 S)).set (((st4.en.set2 K).set3 S).set4 Q)).set ((((st4.en.set2 K).set3 S).set4 Q).set5 T)).set (((((st4.en.set2 K).set3 S).set4 Q).set5 T).set6 N)).alloc (.cells #[.int .i64 K, .int .i64 S, .int .i64 Q, .string T, .int .i64 N] 23)))
          | (go_at_call 80; refine (ptext' hs sv2.rd h3).mono ?_; rintro e w3 ⟨rfl, r3, g3⟩; have st3 := sv2.call r3 g3)
          | (go_at_call 78; have d2 := d1; refine (pint' hs sv1.rd h2).mono ?_; rintro e w2 ⟨rfl, r2, g2⟩; have st2 := sv1.call r2 g2; have f2 := st2.en.free 1; have x2 := st2.en.box.c1; have sv2 := st2.set (st2.en.set1 (zag N2)))
          | (go_at_call 78; refine (pint' hs st0.rd h1).mono ?_; rintro e w1 ⟨rfl, r1, g1⟩; have st1 := st0.call r1 g1; have f1 := st1.en.free 0; have x1 := st1.en.box.c0; have sv1 := st1.set (st1.en.set0 (zag N1)); have d1 : True := trivial))
        have F := (((((((st7.rs.set0 (zag N1)).set1 (zag N2)).set2 K).set3 S).set4 Q).set5 T).set6 N)
        have FB := (((((((st7.bel.setCell (p := ⟨base, 0, none⟩) (Nat.le_refl base) (.int .i64 (zag N1))).setCell (p := ⟨base, 1, none⟩) (Nat.le_refl base) (.int .i64 (zag N2))).setCell (p := ⟨base, 2, none⟩) (Nat.le_refl base) (.int .i64 K)).setCell (p := ⟨base, 3, none⟩) (Nat.le_refl base) (.int .i64 S)).setCell (p := ⟨base, 4, none⟩) (Nat.le_refl base) (.int .i64 Q)).setCell (p := ⟨base, 5, none⟩) (Nat.le_refl base) (.string T)).setCell (p := ⟨base, 6, none⟩) (Nat.le_refl base) (.int .i64 N))
        have k0 := F.box.c0
        have k1 := F.box.c1
        have k2 := F.box.c2
        have k3 := F.box.c3
        have k4 := F.box.c4
        have k5 := F.box.c5
        have k6 := F.box.c6
        refine bodyPost_ret (v := .tuple #[.agg #[.int .i64 (zag N1), .int .i64 (zag N2), .int .i64 K, .int .i64 S, .int .i64 Q, .string T, .int .i64 N], .int .i64 0]) (by simp [results, Tryz.results36, go_sem, k0, k1, k2, k3, k4, k5, k6]) rfl ⟨rfl, FB⟩
      · have hE : decET s = (En.zero, 2) := decET_no (c := ⟨K, S, Q, T, N⟩) (by rw [hread]; exact hc) (by rw [hread]; exact fun h => hm h.2)
        rw [hE]
        rw [show mayE ⟨zag N1, zag N2, ⟨K, S, Q, T, N⟩⟩ = false by simpa using hm] at qm
        clear hE hread hc hm
        go_enter Tryz.func36, Tryz.ntmps36
        go_wp2_with (first
          | (go_at_call 72; refine (qm _).mono ?_; rintro e w7 ⟨rfl, b7⟩; have st7 := sv5.below b7; have z0 := st7.en.box.c0; have z1 := st7.en.box.c1; have z2 := st7.en.box.c2; have z3 := st7.en.box.c3; have z4 := st7.en.box.c4; have z5 := st7.en.box.c5; have z6 := st7.en.box.c6; have u0 := st7.rs.box.c0; have u1 := st7.rs.box.c1; have u2 := st7.rs.box.c2; have u3 := st7.rs.box.c3; have u4 := st7.rs.box.c4; have u5 := st7.rs.box.c5; have u6 := st7.rs.box.c6; have v0 := st7.rs.free 0; have v1 := st7.rs.free 1; have v2 := st7.rs.free 2; have v3 := st7.rs.free 3; have v4 := st7.rs.free 4; have v5 := st7.rs.free 5; have v6 := st7.rs.free 6)
          | (go_at_call 81; refine (pdone sv5.rd).mono ?_; rintro e w5 ⟨rfl, hw⟩; rw [hw] at sv5; clear hw; have y0 := sv5.en.box.c0; have y1 := sv5.en.box.c1; have y2 := sv5.en.box.c2; have y3 := sv5.en.box.c3; have y4 := sv5.en.box.c4; have y5 := sv5.en.box.c5; have y6 := sv5.en.box.c6)
          | (go_at_call 79; refine (qd' _).mono ?_; rintro e w4 ⟨rfl, b4⟩; have st4 := st3.below b4; have lt4 := st4.en.box.lt; have ne4 : base + 1 + 1 ≠ w4.heap.size := Nat.ne_of_lt lt4; have p0 := st4.en.box.c0; have p1 := st4.en.box.c1; have p2 := st4.en.box.c2; have p3 := st4.en.box.c3; have p4 := st4.en.box.c4; have p5 := st4.en.box.c5; have p6 := st4.en.box.c6; have f0 := st4.en.free 0; have f1 := st4.en.free 1; have f2 := st4.en.free 2; have f3 := st4.en.free 3; have f4 := st4.en.free 4; have f5 := st4.en.free 5; have f6 := st4.en.free 6; have sv5 := ((((((st4.set (st4.en.set2 K)).set ((st4.en.set2 K).set3 S)).set (((st4.en.set2 K).set3 S).set4 Q)).set ((((st4.en.set2 K).set3 S).set4 Q).set5 T)).set (((((st4.en.set2 K).set3 S).set4 Q).set5 T).set6 N)).alloc (.cells #[.int .i64 K, .int .i64 S, .int .i64 Q, .string T, .int .i64 N] 23)))
          | (go_at_call 80; refine (ptext' hs sv2.rd h3).mono ?_; rintro e w3 ⟨rfl, r3, g3⟩; have st3 := sv2.call r3 g3)
          | (go_at_call 78; have d2 := d1; refine (pint' hs sv1.rd h2).mono ?_; rintro e w2 ⟨rfl, r2, g2⟩; have st2 := sv1.call r2 g2; have f2 := st2.en.free 1; have x2 := st2.en.box.c1; have sv2 := st2.set (st2.en.set1 (zag N2)))
          | (go_at_call 78; refine (pint' hs st0.rd h1).mono ?_; rintro e w1 ⟨rfl, r1, g1⟩; have st1 := st0.call r1 g1; have f1 := st1.en.free 0; have x1 := st1.en.box.c0; have sv1 := st1.set (st1.en.set0 (zag N1)); have d1 : True := trivial))
        have F := (((((((st7.rs.set0 0).set1 0).set2 0).set3 0).set4 0).set5 ⟨#[]⟩).set6 0)
        have FB := (((((((st7.bel.setCell (p := ⟨base, 0, none⟩) (Nat.le_refl base) (.int .i64 0)).setCell (p := ⟨base, 1, none⟩) (Nat.le_refl base) (.int .i64 0)).setCell (p := ⟨base, 2, none⟩) (Nat.le_refl base) (.int .i64 0)).setCell (p := ⟨base, 3, none⟩) (Nat.le_refl base) (.int .i64 0)).setCell (p := ⟨base, 4, none⟩) (Nat.le_refl base) (.int .i64 0)).setCell (p := ⟨base, 5, none⟩) (Nat.le_refl base) (.string ⟨#[]⟩)).setCell (p := ⟨base, 6, none⟩) (Nat.le_refl base) (.int .i64 0))
        have k0 := F.box.c0
        have k1 := F.box.c1
        have k2 := F.box.c2
        have k3 := F.box.c3
        have k4 := F.box.c4
        have k5 := F.box.c5
        have k6 := F.box.c6
        refine bodyPost_ret (v := .tuple #[.agg #[.int .i64 0, .int .i64 0, .int .i64 0, .int .i64 0, .int .i64 0, .string ⟨#[]⟩, .int .i64 0], .int .i64 2]) (by simp [results, Tryz.results36, go_sem, k0, k1, k2, k3, k4, k5, k6]) rfl ⟨rfl, FB⟩
    · have hE : decET s = (En.zero, 2) := decET_no1 (by rw [hread]; exact hD)
      rw [hE]
      have hD' : (rD s3 b3 != 0) = true := by simpa using hD
      clear hE hread hc hD qm
      go_enter Tryz.func36, Tryz.ntmps36
      go_wp2_with (first
        | (go_at_call 81; refine (pdone sv5.rd).mono ?_; rintro e w5 ⟨rfl, hw⟩; rw [hw] at sv5; clear hw; have y0 := sv5.en.box.c0; have y1 := sv5.en.box.c1; have y2 := sv5.en.box.c2; have y3 := sv5.en.box.c3; have y4 := sv5.en.box.c4; have y5 := sv5.en.box.c5; have y6 := sv5.en.box.c6; have u0 := sv5.rs.box.c0; have u1 := sv5.rs.box.c1; have u2 := sv5.rs.box.c2; have u3 := sv5.rs.box.c3; have u4 := sv5.rs.box.c4; have u5 := sv5.rs.box.c5; have u6 := sv5.rs.box.c6; have v0 := sv5.rs.free 0; have v1 := sv5.rs.free 1; have v2 := sv5.rs.free 2; have v3 := sv5.rs.free 3; have v4 := sv5.rs.free 4; have v5 := sv5.rs.free 5; have v6 := sv5.rs.free 6; have st7 := sv5)
        | (go_at_call 79; refine (qd' _).mono ?_; rintro e w4 ⟨rfl, b4⟩; have st4 := st3.below b4; have lt4 := st4.en.box.lt; have ne4 : base + 1 + 1 ≠ w4.heap.size := Nat.ne_of_lt lt4; have p0 := st4.en.box.c0; have p1 := st4.en.box.c1; have p2 := st4.en.box.c2; have p3 := st4.en.box.c3; have p4 := st4.en.box.c4; have p5 := st4.en.box.c5; have p6 := st4.en.box.c6; have f0 := st4.en.free 0; have f1 := st4.en.free 1; have f2 := st4.en.free 2; have f3 := st4.en.free 3; have f4 := st4.en.free 4; have f5 := st4.en.free 5; have f6 := st4.en.free 6; have sv5 := ((((((st4.set (st4.en.set2 K)).set ((st4.en.set2 K).set3 S)).set (((st4.en.set2 K).set3 S).set4 Q)).set ((((st4.en.set2 K).set3 S).set4 Q).set5 T)).set (((((st4.en.set2 K).set3 S).set4 Q).set5 T).set6 N)).alloc (.cells #[.int .i64 K, .int .i64 S, .int .i64 Q, .string T, .int .i64 N] 23)))
        | (go_at_call 80; refine (ptext' hs sv2.rd h3).mono ?_; rintro e w3 ⟨rfl, r3, g3⟩; have st3 := sv2.call r3 g3)
        | (go_at_call 78; have d2 := d1; refine (pint' hs sv1.rd h2).mono ?_; rintro e w2 ⟨rfl, r2, g2⟩; have st2 := sv1.call r2 g2; have f2 := st2.en.free 1; have x2 := st2.en.box.c1; have sv2 := st2.set (st2.en.set1 (zag N2)))
        | (go_at_call 78; refine (pint' hs st0.rd h1).mono ?_; rintro e w1 ⟨rfl, r1, g1⟩; have st1 := st0.call r1 g1; have f1 := st1.en.free 0; have x1 := st1.en.box.c0; have sv1 := st1.set (st1.en.set0 (zag N1)); have d1 : True := trivial))
      have F := (((((((st7.rs.set0 0).set1 0).set2 0).set3 0).set4 0).set5 ⟨#[]⟩).set6 0)
      have FB := (((((((st7.bel.setCell (p := ⟨base, 0, none⟩) (Nat.le_refl base) (.int .i64 0)).setCell (p := ⟨base, 1, none⟩) (Nat.le_refl base) (.int .i64 0)).setCell (p := ⟨base, 2, none⟩) (Nat.le_refl base) (.int .i64 0)).setCell (p := ⟨base, 3, none⟩) (Nat.le_refl base) (.int .i64 0)).setCell (p := ⟨base, 4, none⟩) (Nat.le_refl base) (.int .i64 0)).setCell (p := ⟨base, 5, none⟩) (Nat.le_refl base) (.string ⟨#[]⟩)).setCell (p := ⟨base, 6, none⟩) (Nat.le_refl base) (.int .i64 0))
      have k0 := F.box.c0
      have k1 := F.box.c1
      have k2 := F.box.c2
      have k3 := F.box.c3
      have k4 := F.box.c4
      have k5 := F.box.c5
      have k6 := F.box.c6
      refine bodyPost_ret (v := .tuple #[.agg #[.int .i64 0, .int .i64 0, .int .i64 0, .int .i64 0, .int .i64 0, .string ⟨#[]⟩, .int .i64 0], .int .i64 2]) (by simp [results, Tryz.results36, go_sem, k0, k1, k2, k3, k4, k5, k6]) rfl ⟨rfl, FB⟩
end Go.Proofs.YtdhlbldmdeepiaaGreatDoor
