/-
  The contracts of the document's own encoding of commands and entries (package latchkeyref03). The condition: numbers are of 64 bits.
-/
import Derived.Test.YtmmdcbgmhjheeaaCmMay
namespace Go.Proofs.Ytmmdcbgmhjheeaa
open Go.RowKit

/-- A command laid in block B, from cell o on. -/
structure Box (w : World) (B o : Nat) (K S Q : Int) (T : ByteArray) (N : Int) : Prop where
  lt : B < w.heap.size
  c0 : w.cell? ⟨B, o, none⟩ = some (.int .i64 K)
  c1 : w.cell? ⟨B, o + 1, none⟩ = some (.int .i64 S)
  c2 : w.cell? ⟨B, o + 2, none⟩ = some (.int .i64 Q)
  c3 : w.cell? ⟨B, o + 3, none⟩ = some (.string T)
  c4 : w.cell? ⟨B, o + 4, none⟩ = some (.int .i64 N)
theorem Box.below {w w' : World} {B o : Nat} {K S Q N : Int} {T : ByteArray} (h : Box w B o K S Q T N) (b : Below w.heap.size w w') : Box w' B o K S Q T N :=
  ⟨Nat.lt_of_lt_of_le h.lt b.size, (b.cell (by exact h.lt)).trans h.c0, (b.cell (by exact h.lt)).trans h.c1, (b.cell (by exact h.lt)).trans h.c2, (b.cell (by exact h.lt)).trans h.c3, (b.cell (by exact h.lt)).trans h.c4⟩

/-- Encode's two answers. -/
def encT (c : Cm) : ByteArray × Int := if mayB c = true then (⟨(encC c).toArray⟩, 0) else (⟨#[]⟩, 1)

theorem bmm {w w1 w2 : World} {b : Nat} (h : Below b w w1) (hb : b ≤ w1.heap.size) (k : Below w1.heap.size w1 w2) : Below b w w2 := h.trans (k.mono hb)

theorem undrew {w w2 : World} (b : Below w.drew.heap.size w.drew w2) : Below w.heap.size w w2 := ⟨b.os, b.tape, b.output, b.size, b.block⟩

set_option maxHeartbeats 3200000 in
set_option maxRecDepth 100000 in
theorem rencode_any (K S Q N : Int) (T : ByteArray) (w : World) :
    Calls Try.prog 27 #[.agg #[.int .i64 K, .int .i64 S, .int .i64 Q, .string T, .int .i64 N]] w fun e w' => e = .returned (.tuple #[.string (encT ⟨K, S, Q, T, N⟩).1, .int .i64 (encT ⟨K, S, Q, T, N⟩).2]) ∧ Below w.heap.size w w' := by
  have q0 := rmay_any K S Q N T (w.alloc (.cells #[.int .i64 K, .int .i64 S, .int .i64 Q, .string T, .int .i64 N] 25))
  have ba : Below w.heap.size w (w.alloc (.cells #[.int .i64 K, .int .i64 S, .int .i64 Q, .string T, .int .i64 N] 25)) := (Below.refl _ w).alloc (Nat.le_refl _) _
  have x0 : Box (w.alloc (.cells #[.int .i64 K, .int .i64 S, .int .i64 Q, .string T, .int .i64 N] 25)) w.heap.size 0 K S Q T N := ⟨by simp, by simp, by simp, by simp, by simp, by simp⟩
  by_cases hm : mayB ⟨K, S, Q, T, N⟩ = true
  · have e : encT ⟨K, S, Q, T, N⟩ = (⟨(encC ⟨K, S, Q, T, N⟩).toArray⟩, 0) := by unfold encT; rw [if_pos hm]
    rw [e]
    rw [hm] at q0
    obtain ⟨⟨k1, k2⟩, ⟨s1, s2⟩, ⟨p1, p2⟩, t1, ⟨n1, n2⟩⟩ := may_small hm
    simp only at k1 k2 s1 s2 p1 p2 t1 n1 n2
    have y1 := fint_any K (by omega) (by omega)
    have y2 := fint_any S (by omega) (by omega)
    have y3 := fint_any Q (by omega) (by omega)
    have y4 := ftext_any T (by omega)
    have y5 := fint_any N (by omega) (by omega)
    have l1 := enc_len_ten (zig_bound (n := K) (by omega) (by omega))
    have l2 := enc_len_ten (zig_bound (n := S) (by omega) (by omega))
    have l3 := enc_len_ten (zig_bound (n := Q) (by omega) (by omega))
    have l4 : (lenText T).length ≤ 74 := by
      have := enc_len_ten (n := T.size) (by omega)
      have := Lib.size_eq T
      unfold lenText
      rw [List.length_append]
      omega
    have l5 := enc_len_ten (zig_bound (n := N) (by omega) (by omega))
    obtain ⟨A1, hA1⟩ : ∃ A : ByteArray, A = ⟨(enc (zig K)).toArray⟩ := ⟨_, rfl⟩
    obtain ⟨A2, hA2⟩ : ∃ A : ByteArray, A = ⟨(enc (zig S)).toArray⟩ := ⟨_, rfl⟩
    obtain ⟨A3, hA3⟩ : ∃ A : ByteArray, A = ⟨(enc (zig Q)).toArray⟩ := ⟨_, rfl⟩
    obtain ⟨A4, hA4⟩ : ∃ A : ByteArray, A = ⟨(lenText T).toArray⟩ := ⟨_, rfl⟩
    obtain ⟨A5, hA5⟩ : ∃ A : ByteArray, A = ⟨(enc (zig N)).toArray⟩ := ⟨_, rfl⟩
    obtain ⟨B2, hB2⟩ : ∃ B : ByteArray, A1 ++ A2 = B := ⟨_, rfl⟩
    obtain ⟨B3, hB3⟩ : ∃ B : ByteArray, B2 ++ A3 = B := ⟨_, rfl⟩
    obtain ⟨B4, hB4⟩ : ∃ B : ByteArray, B3 ++ A4 = B := ⟨_, rfl⟩
    obtain ⟨B5, hB5⟩ : ∃ B : ByteArray, B4 ++ A5 = B := ⟨_, rfl⟩
    have z1 : A1.size ≤ 10 := by rw [hA1, size_list]; exact l1
    have z2 : A2.size ≤ 10 := by rw [hA2, size_list]; exact l2
    have z3 : A3.size ≤ 10 := by rw [hA3, size_list]; exact l3
    have z4 : A4.size ≤ 74 := by rw [hA4, size_list]; exact l4
    have z5 : A5.size ≤ 10 := by rw [hA5, size_list]; exact l5
    have u2 : B2.size ≤ 20 := by rw [← hB2, ByteArray.size_append]; omega
    have u3 : B3.size ≤ 30 := by rw [← hB3, ByteArray.size_append]; omega
    have u4 : B4.size ≤ 104 := by rw [← hB4, ByteArray.size_append]; omega
    have v1 : (9223372036854775807 < A1.size + A2.size) = False := eq_false (by omega)
    have v2 : (9223372036854775807 < B2.size + A3.size) = False := eq_false (by omega)
    have v3 : (9223372036854775807 < B3.size + A4.size) = False := eq_false (by omega)
    have v4 : (9223372036854775807 < B4.size + A5.size) = False := eq_false (by omega)
    have HB : Hid (B5 = ⟨(encC ⟨K, S, Q, T, N⟩).toArray⟩) := by
      show B5 = _
      rw [← hB5, ← hB4, ← hB3, ← hB2, hA1, hA2, hA3, hA4, hA5, append_lists, append_lists, append_lists, append_lists]
      unfold encC
      simp
    rw [← hA1] at y1
    rw [← hA2] at y2
    rw [← hA3] at y3
    rw [← hA4] at y4
    rw [← hA5] at y5
    rw [← HB.out]
    clear hA1 hA2 hA3 hA4 hA5 l1 l2 l3 l4 l5 z1 z2 z3 z4 z5 u2 u3 u4 k1 k2 s1 s2 p1 p2 t1 n1 n2 e hm HB
    go_enter Try.func27, Try.ntmps27
    go_wp2_with (go_at_call 51; refine q0.mono ?_; rintro e w1 ⟨rfl, b1⟩)
    have i1 := x0.below b1
    have g1x0 := i1.c0
    have g1x1 := i1.c1
    have g1x2 := i1.c2
    have g1x3 := i1.c3
    have g1x4 := i1.c4
    simp only [Nat.zero_add] at g1x1 g1x2 g1x3 g1x4
    have f1 := bmm ba ba.size b1
    go_region_held3 (fun w' => w'.cell? ⟨w.heap.size, 0, none⟩ = some (.int .i64 K) ∧ w'.cell? ⟨w.heap.size, 1, none⟩ = some (.int .i64 S) ∧ w'.cell? ⟨w.heap.size, 2, none⟩ = some (.int .i64 Q) ∧ w'.cell? ⟨w.heap.size, 3, none⟩ = some (.string T) ∧ w'.cell? ⟨w.heap.size, 4, none⟩ = some (.int .i64 N)) (go_keep)
      (first
        | (go_at_call 24; have d3 := d2; refine (y5 _).mono ?_; rintro e w6 ⟨rfl, b6⟩; have i6 := i5.below b6; have g6x0 := i6.c0; have g6x1 := i6.c1; have g6x2 := i6.c2; have g6x3 := i6.c3; have g6x4 := i6.c4; simp only [Nat.zero_add] at g6x1 g6x2 g6x3 g6x4; have f6 := bmm f5 f5.size b6)
        | (go_at_call 26; refine (y4 _).mono ?_; rintro e w5 ⟨rfl, b5⟩; have i5 := i4.below b5; have g5x0 := i5.c0; have g5x1 := i5.c1; have g5x2 := i5.c2; have g5x3 := i5.c3; have g5x4 := i5.c4; simp only [Nat.zero_add] at g5x1 g5x2 g5x3 g5x4; have f5 := bmm f4 f4.size b5; have d2 : True := trivial)
        | (go_at_call 24; have d2 := d1; refine (y3 _).mono ?_; rintro e w4 ⟨rfl, b4⟩; have i4 := i3.below b4; have g4x0 := i4.c0; have g4x1 := i4.c1; have g4x2 := i4.c2; have g4x3 := i4.c3; have g4x4 := i4.c4; simp only [Nat.zero_add] at g4x1 g4x2 g4x3 g4x4; have f4 := bmm f3 f3.size b4)
        | (go_at_call 24; have d1 := d0; refine (y2 _).mono ?_; rintro e w3 ⟨rfl, b3⟩; have i3 := i2.below b3; have g3x0 := i3.c0; have g3x1 := i3.c1; have g3x2 := i3.c2; have g3x3 := i3.c3; have g3x4 := i3.c4; simp only [Nat.zero_add] at g3x1 g3x2 g3x3 g3x4; have f3 := bmm f2 f2.size b3; have d1 : True := trivial)
        | (go_at_call 24; refine (y1 _).mono ?_; rintro e w2 ⟨rfl, b2'⟩; have b2 := undrew b2'; have i2 := i1.below b2; have g2x0 := i2.c0; have g2x1 := i2.c1; have g2x2 := i2.c2; have g2x3 := i2.c3; have g2x4 := i2.c4; simp only [Nat.zero_add] at g2x1 g2x2 g2x3 g2x4; have f2 := bmm f1 f1.size b2; have d0 : True := trivial))
    go_wp2
    go_ret2
    exact ⟨rfl, f6⟩
  · have e : encT ⟨K, S, Q, T, N⟩ = (⟨#[]⟩, 1) := by unfold encT; rw [if_neg hm]
    rw [e]
    rw [show mayB ⟨K, S, Q, T, N⟩ = false by simpa using hm] at q0
    go_enter Try.func27, Try.ntmps27
    go_wp2_with (go_at_call 51; refine q0.mono ?_; rintro e w1 ⟨rfl, b1⟩)
    go_ret2
    exact ⟨rfl, bmm ba ba.size b1⟩

/-! ### Entries -/
set_option maxRecDepth 100000 in
theorem rmayE_any (A B K S Q N : Int) (T : ByteArray) (w : World) :
    Calls Try.prog 52 #[.agg #[.int .i64 A, .int .i64 B, .int .i64 K, .int .i64 S, .int .i64 Q, .string T, .int .i64 N]] w fun e w' => e = .returned (.bool (mayE ⟨A, B, ⟨K, S, Q, T, N⟩⟩)) ∧ Below w.heap.size w w' := by
  have q := rwithin_any
  have q0 := rmay_any K S Q N T (w.alloc (.cells #[.int .i64 A, .int .i64 B, .int .i64 K, .int .i64 S, .int .i64 Q, .string T, .int .i64 N] 57))
  have ba : Below w.heap.size w (w.alloc (.cells #[.int .i64 A, .int .i64 B, .int .i64 K, .int .i64 S, .int .i64 Q, .string T, .int .i64 N] 57)) := (Below.refl _ w).alloc (Nat.le_refl _) _
  have e : mayE ⟨A, B, ⟨K, S, Q, T, N⟩⟩ = ((decide (1 ≤ A) && decide (A ≤ 1099511627776)) && ((decide (0 ≤ B) && decide (B ≤ 1099511627776)) && mayB ⟨K, S, Q, T, N⟩)) := rfl
  rw [e]
  obtain ⟨m, hm⟩ : ∃ m, m = mayB ⟨K, S, Q, T, N⟩ := ⟨_, rfl⟩
  rw [← hm] at q0 ⊢
  clear hm e
  have q1 := rwithin_any A 1 1099511627776
  have q2 := rwithin_any B 0 1099511627776
  obtain ⟨a, ha⟩ : ∃ a, a = (decide (1 ≤ A) && decide (A ≤ 1099511627776)) := ⟨_, rfl⟩
  obtain ⟨b, hb⟩ : ∃ b, b = (decide (0 ≤ B) && decide (B ≤ 1099511627776)) := ⟨_, rfl⟩
  rw [← ha] at q1 ⊢
  rw [← hb] at q2 ⊢
  clear ha hb q
  cases a with
  | false =>
    go_enter Try.func52, Try.ntmps52
    go_wp2_with (go_at_call 62; refine (q1 _).mono ?_; rintro e w' ⟨rfl, rfl⟩)
    go_ret
    exact ⟨rfl, ba⟩
  | true =>
    cases b with
    | false =>
      go_enter Try.func52, Try.ntmps52
      go_wp2_with (first
        | (go_at_call 62; have d2 := d1; refine (q2 _).mono ?_; rintro e w' ⟨rfl, rfl⟩)
        | (go_at_call 62; refine (q1 _).mono ?_; rintro e w' ⟨rfl, rfl⟩; have d1 : True := trivial))
      go_ret
      exact ⟨rfl, ba⟩
    | true =>
      go_enter Try.func52, Try.ntmps52
      go_wp2_with (first
        | (go_at_call 51; refine q0.mono ?_; rintro e w1 ⟨rfl, b1⟩)
        | (go_at_call 62; have d2 := d1; refine (q2 _).mono ?_; rintro e w' ⟨rfl, rfl⟩)
        | (go_at_call 62; refine (q1 _).mono ?_; rintro e w' ⟨rfl, rfl⟩; have d1 : True := trivial))
      go_ret
      exact ⟨rfl, bmm ba ba.size b1⟩

/-- EncodeEntry's two answers. -/
def encET (e : En) : ByteArray × Int := if mayE e = true then (⟨(encE e).toArray⟩, 0) else (⟨#[]⟩, 1)

set_option maxHeartbeats 3200000 in
set_option maxRecDepth 100000 in
theorem rencodeE_any (A B K S Q N : Int) (T : ByteArray) (w : World) :
    Calls Try.prog 25 #[.agg #[.int .i64 A, .int .i64 B, .int .i64 K, .int .i64 S, .int .i64 Q, .string T, .int .i64 N]] w fun e w' => e = .returned (.tuple #[.string (encET ⟨A, B, ⟨K, S, Q, T, N⟩⟩).1, .int .i64 (encET ⟨A, B, ⟨K, S, Q, T, N⟩⟩).2]) ∧ Below w.heap.size w w' := by
  have q0 := rmayE_any A B K S Q N T (w.alloc (.cells #[.int .i64 A, .int .i64 B, .int .i64 K, .int .i64 S, .int .i64 Q, .string T, .int .i64 N] 57))
  have ba : Below w.heap.size w (w.alloc (.cells #[.int .i64 A, .int .i64 B, .int .i64 K, .int .i64 S, .int .i64 Q, .string T, .int .i64 N] 57)) := (Below.refl _ w).alloc (Nat.le_refl _) _
  have x0 : Box (w.alloc (.cells #[.int .i64 A, .int .i64 B, .int .i64 K, .int .i64 S, .int .i64 Q, .string T, .int .i64 N] 57)) w.heap.size 2 K S Q T N := ⟨by simp, by simp, by simp, by simp, by simp, by simp⟩
  have xa : (w.alloc (.cells #[.int .i64 A, .int .i64 B, .int .i64 K, .int .i64 S, .int .i64 Q, .string T, .int .i64 N] 57)).cell? ⟨w.heap.size, 0, none⟩ = some (.int .i64 A) := by simp
  have xb : (w.alloc (.cells #[.int .i64 A, .int .i64 B, .int .i64 K, .int .i64 S, .int .i64 Q, .string T, .int .i64 N] 57)).cell? ⟨w.heap.size, 1, none⟩ = some (.int .i64 B) := by simp
  by_cases hm : mayE ⟨A, B, ⟨K, S, Q, T, N⟩⟩ = true
  · have e : encET ⟨A, B, ⟨K, S, Q, T, N⟩⟩ = (⟨(encE ⟨A, B, ⟨K, S, Q, T, N⟩⟩).toArray⟩, 0) := by unfold encET; rw [if_pos hm]
    rw [e]
    rw [hm] at q0
    obtain ⟨⟨k1, k2⟩, ⟨s1, s2⟩, hmc⟩ := mayE_small hm
    simp only at k1 k2 s1 s2 hmc
    have lc := encC_len hmc
    have qc := rencode_any K S Q N T
    have ec : encT ⟨K, S, Q, T, N⟩ = (⟨(encC ⟨K, S, Q, T, N⟩).toArray⟩, 0) := by unfold encT; rw [if_pos hmc]
    rw [ec] at qc
    obtain ⟨C, hC⟩ : ∃ C : ByteArray, C = ⟨(encC ⟨K, S, Q, T, N⟩).toArray⟩ := ⟨_, rfl⟩
    have zC : C.size ≤ 200 := by rw [hC, size_list]; exact lc
    have qc' : ∀ w, Calls Try.prog 27 #[.agg #[.int .i64 K, .int .i64 S, .int .i64 Q, .string T, .int .i64 N]] w fun e w' => e = .returned (.tuple #[.string C, .int .i64 0]) ∧ Below w.heap.size w w' := by rw [hC]; exact qc
    have y1 := fint_any A (by omega) (by omega)
    have y2 := fint_any B (by omega) (by omega)
    have y3 := ftext_any C (by omega)
    have l1 := enc_len_ten (zig_bound (n := A) (by omega) (by omega))
    have l2 := enc_len_ten (zig_bound (n := B) (by omega) (by omega))
    have l3 : (lenText C).length ≤ 210 := by
      have := enc_len_ten (n := C.size) (by omega)
      have := Lib.size_eq C
      unfold lenText
      rw [List.length_append]
      omega
    obtain ⟨A1, hA1⟩ : ∃ A' : ByteArray, A' = ⟨(enc (zig A)).toArray⟩ := ⟨_, rfl⟩
    obtain ⟨A2, hA2⟩ : ∃ A' : ByteArray, A' = ⟨(enc (zig B)).toArray⟩ := ⟨_, rfl⟩
    obtain ⟨A3, hA3⟩ : ∃ A' : ByteArray, A' = ⟨(lenText C).toArray⟩ := ⟨_, rfl⟩
    obtain ⟨B2, hB2⟩ : ∃ B : ByteArray, A1 ++ A2 = B := ⟨_, rfl⟩
    obtain ⟨B3, hB3⟩ : ∃ B : ByteArray, B2 ++ A3 = B := ⟨_, rfl⟩
    have z1 : A1.size ≤ 10 := by rw [hA1, size_list]; exact l1
    have z2 : A2.size ≤ 10 := by rw [hA2, size_list]; exact l2
    have z3 : A3.size ≤ 210 := by rw [hA3, size_list]; exact l3
    have u2 : B2.size ≤ 20 := by rw [← hB2, ByteArray.size_append]; omega
    have v1 : (9223372036854775807 < A1.size + A2.size) = False := eq_false (by omega)
    have v2 : (9223372036854775807 < B2.size + A3.size) = False := eq_false (by omega)
    have HB : Hid (B3 = ⟨(encE ⟨A, B, ⟨K, S, Q, T, N⟩⟩).toArray⟩) := by
      show B3 = _
      rw [← hB3, ← hB2, hA1, hA2, hA3, append_lists, append_lists, hC]
      unfold encE
      simp
    rw [← hA1] at y1
    rw [← hA2] at y2
    rw [← hA3] at y3
    rw [← HB.out]
    clear hA1 hA2 hA3 l1 l2 l3 z1 z2 z3 u2 k1 k2 s1 s2 e hm hmc HB zC lc hC qc ec
    go_enter Try.func25, Try.ntmps25
    go_wp2_with (first
      | (go_at_call 27; refine (qc' _).mono ?_; rintro e w2 ⟨rfl, b2⟩)
      | (go_at_call 52; refine q0.mono ?_; rintro e w1 ⟨rfl, b1⟩; have i1 := x0.below b1; have g1x0 := i1.c0; have g1x1 := i1.c1; have g1x2 := i1.c2; have g1x3 := i1.c3; have g1x4 := i1.c4; simp only [Nat.reduceAdd] at g1x1 g1x2 g1x3 g1x4))
    have f1 := bmm ba ba.size b1
    have f2 := bmm f1 f1.size b2
    have lb1 : w.heap.size < w1.heap.size := i1.lt
    have lb2 : w.heap.size < w2.heap.size := Nat.lt_of_lt_of_le lb1 b2.size
    have ha1 := (b2.cell (p := ⟨w.heap.size, 0, none⟩) (by exact lb1)).trans ((b1.cell (by exact x0.lt)).trans xa)
    have hb1 := (b2.cell (p := ⟨w.heap.size, 1, none⟩) (by exact lb1)).trans ((b1.cell (by exact x0.lt)).trans xb)
    go_region_held3 (fun w' => w'.cell? ⟨w.heap.size, 0, none⟩ = some (.int .i64 A) ∧ w'.cell? ⟨w.heap.size, 1, none⟩ = some (.int .i64 B)) (go_keep)
      (first
        | (go_at_call 26; refine (y3 _).mono ?_; rintro e w5 ⟨rfl, b5⟩; have f5 := bmm f4 f4.size b5; have ha4 := (b5.cell (p := ⟨w.heap.size, 0, none⟩) (by exact lb4)).trans ha3; have hb4 := (b5.cell (p := ⟨w.heap.size, 1, none⟩) (by exact lb4)).trans hb3)
        | (go_at_call 24; have d1 := d0; refine (y2 _).mono ?_; rintro e w4 ⟨rfl, b4⟩; have f4 := bmm f3 f3.size b4; have lb4 := Nat.lt_of_lt_of_le lb3 b4.size; have ha3 := (b4.cell (p := ⟨w.heap.size, 0, none⟩) (by exact lb3)).trans ha2; have hb3 := (b4.cell (p := ⟨w.heap.size, 1, none⟩) (by exact lb3)).trans hb2)
        | (go_at_call 24; refine (y1 _).mono ?_; rintro e w3 ⟨rfl, b3'⟩; have b3 := undrew b3'; have f3 := bmm f2 f2.size b3; have lb3 := Nat.lt_of_lt_of_le lb2 b3.size; have ha2 := (b3.cell (p := ⟨w.heap.size, 0, none⟩) (by exact lb2)).trans ha1; have hb2 := (b3.cell (p := ⟨w.heap.size, 1, none⟩) (by exact lb2)).trans hb1; have d0 : True := trivial))
    go_wp2
    go_ret2
    exact ⟨rfl, f5⟩
  · have e : encET ⟨A, B, ⟨K, S, Q, T, N⟩⟩ = (⟨#[]⟩, 1) := by unfold encET; rw [if_neg hm]
    rw [e]
    rw [show mayE ⟨A, B, ⟨K, S, Q, T, N⟩⟩ = false by simpa using hm] at q0
    go_enter Try.func25, Try.ntmps25
    go_wp2_with (go_at_call 52; refine q0.mono ?_; rintro e w1 ⟨rfl, b1⟩)
    go_ret2
    exact ⟨rfl, bmm ba ba.size b1⟩

end Go.Proofs.Ytmmdcbgmhjheeaa
