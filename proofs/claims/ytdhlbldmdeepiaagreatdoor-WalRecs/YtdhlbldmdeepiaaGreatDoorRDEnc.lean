/-
  The contracts of package cmds' Encode and EncodeEntry: for every command and every entry, its bytes or the error. No condition.
-/
import Derived.Test.YtdhlbldmdeepiaaGreatDoorRDCheck
namespace Go.Proofs.YtdhlbldmdeepiaaGreatDoor
open Go.RowKit

theorem Wr.new (w : World) : Wr w.heap.size (w.alloc (.cells #[.slice none 0 0] 148)) w.heap.size (.slice none 0 0) [] :=
  ⟨Nat.le_refl _, heap_alloc_new w _, World.ownsRow_nil _ _ _ _⟩
/-- A number more, a text more. -/
theorem wint_b {B : Nat} {v : Value} {bs : List UInt8} {w : World} (n : Int) (h1 : -9223372036854775808 ≤ n) (h2 : n ≤ 9223372036854775807) (hb : bs.length + 10 ≤ 140737488355328) (h : Wr B w B v bs) :
    Calls Tryz.prog 69 #[.pointer (some ⟨B, 0, none⟩), .int .i64 n] w fun e w' => e = .returned (.tuple #[]) ∧ ∃ v', Wr B w' B v' (bs ++ enc (zig n)) ∧ Below B w w' :=
  (wint_any B B v bs n h1 h2 w h hb).mono fun _ _ ⟨he, v', hw, hk, _⟩ => ⟨he, v', hw, h.below hk⟩
theorem wtext_b {B : Nat} {v : Value} {bs : List UInt8} {w : World} (s : ByteArray) (hb : bs.length + s.size + 10 ≤ 140737488355328) (h : Wr B w B v bs) :
    Calls Tryz.prog 70 #[.pointer (some ⟨B, 0, none⟩), .string s] w fun e w' => e = .returned (.tuple #[]) ∧ ∃ v', Wr B w' B v' (bs ++ lenText s) ∧ Below B w w' :=
  wtext_any B B v bs s w h hb

theorem Box.belowB {w w' : World} {b B o : Nat} {K S Q N : Int} {T : ByteArray} (h : Box w b o K S Q T N) (hb : b < B) (k : Below B w w') : Box w' b o K S Q T N :=
  ⟨Nat.lt_of_lt_of_le h.lt k.size, (k.cell (by exact hb)).trans h.c0, (k.cell (by exact hb)).trans h.c1, (k.cell (by exact hb)).trans h.c2, (k.cell (by exact hb)).trans h.c3, (k.cell (by exact hb)).trans h.c4⟩

set_option maxHeartbeats 3200000 in
set_option maxRecDepth 100000 in
theorem encode_any (K S Q N : Int) (T : ByteArray) (w : World) :
    Calls Tryz.prog 66 #[.agg #[.int .i64 K, .int .i64 S, .int .i64 Q, .string T, .int .i64 N]] w fun e w' => e = .returned (.tuple #[.string (encT ⟨K, S, Q, T, N⟩).1, .int .i64 (encT ⟨K, S, Q, T, N⟩).2]) ∧ Below w.heap.size w w' := by
  have q0 := check_any K S Q N T (w.alloc (.cells #[.int .i64 K, .int .i64 S, .int .i64 Q, .string T, .int .i64 N] 23))
  have ba : Below w.heap.size w (w.alloc (.cells #[.int .i64 K, .int .i64 S, .int .i64 Q, .string T, .int .i64 N] 23)) := (Below.refl _ w).alloc (Nat.le_refl _) _
  have x0 : Box (w.alloc (.cells #[.int .i64 K, .int .i64 S, .int .i64 Q, .string T, .int .i64 N] 23)) w.heap.size 0 K S Q T N := ⟨by simp, by simp, by simp, by simp, by simp, by simp⟩
  by_cases hm : mayB ⟨K, S, Q, T, N⟩ = true
  · have e : encT ⟨K, S, Q, T, N⟩ = (⟨(encC ⟨K, S, Q, T, N⟩).toArray⟩, 0) := by unfold encT; rw [if_pos hm]
    rw [e]
    rw [if_pos hm] at q0
    obtain ⟨⟨k1, k2⟩, ⟨s1, s2⟩, ⟨p1, p2⟩, t1, ⟨n1, n2⟩⟩ := may_small hm
    simp only at k1 k2 s1 s2 p1 p2 t1 n1 n2
    have l1 := enc_len_ten (zig_bound (n := K) (by omega) (by omega))
    have l2 := enc_len_ten (zig_bound (n := S) (by omega) (by omega))
    have l3 := enc_len_ten (zig_bound (n := Q) (by omega) (by omega))
    have l4 : (lenText T).length ≤ 74 := by
      have := enc_len_ten (n := T.size) (by omega)
      have := Lib.size_eq T
      unfold lenText
      rw [List.length_append]
      omega
    have HC : encC ⟨K, S, Q, T, N⟩ = ((((([] ++ enc (zig K)) ++ enc (zig S)) ++ enc (zig Q)) ++ lenText T) ++ enc (zig N)) := by
      unfold encC
      simp
    rw [HC]
    have y1 := fun B v w => @wint_b B v [] w K (by omega) (by omega) (by simp)
    have y2 := fun B v w => @wint_b B v ([] ++ enc (zig K)) w S (by omega) (by omega) (by simp only [List.length_append, List.length_nil]; omega)
    have y3 := fun B v w => @wint_b B v (([] ++ enc (zig K)) ++ enc (zig S)) w Q (by omega) (by omega) (by simp only [List.length_append, List.length_nil]; omega)
    have y4 := fun B v w => @wtext_b B v ((([] ++ enc (zig K)) ++ enc (zig S)) ++ enc (zig Q)) w T (by simp only [List.length_append, List.length_nil]; omega)
    have y5 := fun B v w => @wint_b B v (((([] ++ enc (zig K)) ++ enc (zig S)) ++ enc (zig Q)) ++ lenText T) w N (by omega) (by omega) (by simp only [List.length_append, List.length_nil]; omega)
    obtain ⟨L1, hL1⟩ : ∃ L, L = [] ++ enc (zig K) := ⟨_, rfl⟩
    rw [← hL1] at y1 y2 y3 y4 y5 ⊢
    obtain ⟨L2, hL2⟩ : ∃ L, L = L1 ++ enc (zig S) := ⟨_, rfl⟩
    rw [← hL2] at y2 y3 y4 y5 ⊢
    obtain ⟨L3, hL3⟩ : ∃ L, L = L2 ++ enc (zig Q) := ⟨_, rfl⟩
    rw [← hL3] at y3 y4 y5 ⊢
    obtain ⟨L4, hL4⟩ : ∃ L, L = L3 ++ lenText T := ⟨_, rfl⟩
    rw [← hL4] at y4 y5 ⊢
    obtain ⟨L5, hL5⟩ : ∃ L, L = L4 ++ enc (zig N) := ⟨_, rfl⟩
    rw [← hL5] at y5 ⊢
    clear hL1 hL2 hL3 hL4 hL5 HC l1 l2 l3 l4 k1 k2 s1 s2 p1 p2 t1 n1 n2 hm
    clear e
    go_enter Tryz.func66, Tryz.ntmps66
    go_wp2_with (first
      | (go_at_call 71; refine (wstring_any _ _ _ _ _ r7).mono ?_; rintro e w8 ⟨rfl, rfl⟩)
      | (go_at_call 69; have d4 := d3; refine (y5 _ _ _ r6).mono ?_; rintro e w7 ⟨rfl, v7, r7, b7⟩; have x7 := x6.belowB l1 b7)
      | (go_at_call 70; refine (y4 _ _ _ r5).mono ?_; rintro e w6 ⟨rfl, v6, r6, b6⟩; have x6 := x5.belowB l1 b6; have c6 := x6.c4; simp only [Nat.zero_add] at c6; have d3 : True := trivial)
      | (go_at_call 69; have d2 := d1; refine (y3 _ _ _ r4).mono ?_; rintro e w5 ⟨rfl, v5, r5, b5⟩; have x5 := x4.belowB l1 b5; have c5 := x5.c3; simp only [Nat.zero_add] at c5)
      | (go_at_call 69; have d1 := d0; refine (y2 _ _ _ r3).mono ?_; rintro e w4 ⟨rfl, v4, r4, b4⟩; have x4 := x3.belowB l1 b4; have c4 := x4.c2; simp only [Nat.zero_add] at c4; have d1 : True := trivial)
      | (go_at_call 69; refine (y1 _ _ _ r2).mono ?_; rintro e w3 ⟨rfl, v3, r3, b3⟩; have x3 := x2.belowB l1 b3; have c3 := x3.c1; simp only [Nat.zero_add] at c3; have d0 : True := trivial)
      | (go_at_call 68; refine (new_any _).mono ?_; rintro e w2 ⟨rfl, hw⟩; have r2 := Wr.new w1; rw [hw] at r2; have b2 : Below w1.heap.size w1 w2 := (by rw [← hw]; exact (Below.refl _ _).alloc (Nat.le_refl _) _); have x2 := x1.belowB l1 b2; have c2 := x2.c0; clear hw)
      | (go_at_call 96; refine q0.mono ?_; rintro e w1 ⟨rfl, b1⟩; have x1 := x0.below b1; have l1 := x1.lt))
    go_ret2
    have f1 := bmm ba ba.size b1
    have B2 := ((((b2.trans b3).trans b4).trans b5).trans b6).trans b7
    exact ⟨rfl, bmm f1 f1.size B2⟩
  · have e : encT ⟨K, S, Q, T, N⟩ = (⟨#[]⟩, 1) := by unfold encT; rw [if_neg hm]
    rw [e]
    rw [if_neg hm] at q0
    go_enter Tryz.func66, Tryz.ntmps66
    go_wp2_with (go_at_call 96; refine q0.mono ?_; rintro e w1 ⟨rfl, b1⟩)
    go_ret2
    exact ⟨rfl, bmm ba ba.size b1⟩

theorem mayE_two (A B K S Q N : Int) (T : ByteArray) : mayE ⟨A, B, ⟨K, S, Q, T, N⟩⟩ = (placeB A B && mayB ⟨K, S, Q, T, N⟩) := by
  unfold mayE placeB
  simp only [Bool.and_assoc]

set_option maxHeartbeats 3200000 in
set_option maxRecDepth 100000 in
theorem encodeE_any (A B K S Q N : Int) (T : ByteArray) (w : World) :
    Calls Tryz.prog 31 #[.agg #[.int .i64 A, .int .i64 B, .int .i64 K, .int .i64 S, .int .i64 Q, .string T, .int .i64 N]] w fun e w' => e = .returned (.tuple #[.string (encET ⟨A, B, ⟨K, S, Q, T, N⟩⟩).1, .int .i64 (encET ⟨A, B, ⟨K, S, Q, T, N⟩⟩).2]) ∧ Below w.heap.size w w' := by
  have q0 := encode_any K S Q N T (w.alloc (.cells #[.int .i64 A, .int .i64 B, .int .i64 K, .int .i64 S, .int .i64 Q, .string T, .int .i64 N] 25))
  have qp := place_any A B
  have ba : Below w.heap.size w (w.alloc (.cells #[.int .i64 A, .int .i64 B, .int .i64 K, .int .i64 S, .int .i64 Q, .string T, .int .i64 N] 25)) := (Below.refl _ w).alloc (Nat.le_refl _) _
  have xa : (w.alloc (.cells #[.int .i64 A, .int .i64 B, .int .i64 K, .int .i64 S, .int .i64 Q, .string T, .int .i64 N] 25)).cell? ⟨w.heap.size, 0, none⟩ = some (.int .i64 A) := by simp
  have xb : (w.alloc (.cells #[.int .i64 A, .int .i64 B, .int .i64 K, .int .i64 S, .int .i64 Q, .string T, .int .i64 N] 25)).cell? ⟨w.heap.size, 1, none⟩ = some (.int .i64 B) := by simp
  have xl : w.heap.size < (w.alloc (.cells #[.int .i64 A, .int .i64 B, .int .i64 K, .int .i64 S, .int .i64 Q, .string T, .int .i64 N] 25)).heap.size := by simp
  have hE := mayE_two A B K S Q N T
  by_cases hm : mayB ⟨K, S, Q, T, N⟩ = true
  · have ec : encT ⟨K, S, Q, T, N⟩ = (⟨(encC ⟨K, S, Q, T, N⟩).toArray⟩, 0) := by unfold encT; rw [if_pos hm]
    rw [ec] at q0
    by_cases hp : placeB A B = true
    · rw [hp] at qp
      have he : mayE ⟨A, B, ⟨K, S, Q, T, N⟩⟩ = true := by rw [hE, hp, hm]; rfl
      have e : encET ⟨A, B, ⟨K, S, Q, T, N⟩⟩ = (⟨(encE ⟨A, B, ⟨K, S, Q, T, N⟩⟩).toArray⟩, 0) := by unfold encET; rw [if_pos he]
      rw [e]
      obtain ⟨⟨k1, k2⟩, ⟨s1, s2⟩, _⟩ := mayE_small he
      simp only at k1 k2 s1 s2
      have lc := encC_len hm
      obtain ⟨C, hC⟩ : ∃ C : ByteArray, C = ⟨(encC ⟨K, S, Q, T, N⟩).toArray⟩ := ⟨_, rfl⟩
      have zC : C.size ≤ 200 := by rw [hC, size_list]; exact lc
      have q0' : Calls Tryz.prog 66 #[.agg #[.int .i64 K, .int .i64 S, .int .i64 Q, .string T, .int .i64 N]] (w.alloc (.cells #[.int .i64 A, .int .i64 B, .int .i64 K, .int .i64 S, .int .i64 Q, .string T, .int .i64 N] 25)) fun e w' => e = .returned (.tuple #[.string C, .int .i64 0]) ∧ Below (w.alloc (.cells #[.int .i64 A, .int .i64 B, .int .i64 K, .int .i64 S, .int .i64 Q, .string T, .int .i64 N] 25)).heap.size (w.alloc (.cells #[.int .i64 A, .int .i64 B, .int .i64 K, .int .i64 S, .int .i64 Q, .string T, .int .i64 N] 25)) w' := by rw [hC]; exact q0
      have l1 := enc_len_ten (zig_bound (n := A) (by omega) (by omega))
      have l2 := enc_len_ten (zig_bound (n := B) (by omega) (by omega))
      have HC : encE ⟨A, B, ⟨K, S, Q, T, N⟩⟩ = (([] ++ enc (zig A)) ++ enc (zig B)) ++ lenText C := by
        rw [hC]
        unfold encE
        simp
      rw [HC]
      have y1 := fun B' v w => @wint_b B' v [] w A (by omega) (by omega) (by simp)
      have y2 := fun B' v w => @wint_b B' v ([] ++ enc (zig A)) w B (by omega) (by omega) (by simp only [List.length_append, List.length_nil]; omega)
      have y3 := fun B' v w => @wtext_b B' v (([] ++ enc (zig A)) ++ enc (zig B)) w C (by simp only [List.length_append, List.length_nil]; omega)
      obtain ⟨L1, hL1⟩ : ∃ L, L = [] ++ enc (zig A) := ⟨_, rfl⟩
      rw [← hL1] at y1 y2 y3 ⊢
      obtain ⟨L2, hL2⟩ : ∃ L, L = L1 ++ enc (zig B) := ⟨_, rfl⟩
      rw [← hL2] at y2 y3 ⊢
      obtain ⟨L3, hL3⟩ : ∃ L, L = L2 ++ lenText C := ⟨_, rfl⟩
      rw [← hL3] at y3 ⊢
      clear hL1 hL2 hL3 HC l1 l2 k1 k2 s1 s2 hm hE hp he e ec q0 hC zC lc
      go_enter Tryz.func31, Tryz.ntmps31
      go_wp2_with (first
        | (go_at_call 71; refine (wstring_any _ _ _ _ _ r6).mono ?_; rintro e w8 ⟨rfl, rfl⟩)
        | (go_at_call 70; refine (y3 _ _ _ r5).mono ?_; rintro e w6 ⟨rfl, v6, r6, b6⟩)
        | (go_at_call 69; have d1 := d0; refine (y2 _ _ _ r4).mono ?_; rintro e w5 ⟨rfl, v5, r5, b5⟩)
        | (go_at_call 69; refine (y1 _ _ _ r3).mono ?_; rintro e w4 ⟨rfl, v4, r4, b4⟩; have p4 := (b4.cell (p := ⟨w.heap.size, 1, none⟩) (by exact lt2)).trans p3; have d0 : True := trivial)
        | (go_at_call 68; refine (new_any _).mono ?_; rintro e w3 ⟨rfl, hw⟩; have r3 := Wr.new w2; rw [hw] at r3; have b3 : Below w2.heap.size w2 w3 := (by rw [← hw]; exact (Below.refl _ _).alloc (Nat.le_refl _) _); clear hw; have o3 := (b3.cell (p := ⟨w.heap.size, 0, none⟩) (by exact lt2)).trans o2; have p3 := (b3.cell (p := ⟨w.heap.size, 1, none⟩) (by exact lt2)).trans p2)
        | (go_at_call 67; refine (qp _).mono ?_; rintro e w2 ⟨rfl, b2⟩; have lt2 := Nat.lt_of_lt_of_le lt1 b2.size; have o2 := (b2.cell (p := ⟨w.heap.size, 0, none⟩) (by exact lt1)).trans o1; have p2 := (b2.cell (p := ⟨w.heap.size, 1, none⟩) (by exact lt1)).trans p1)
        | (go_at_call 66; refine q0'.mono ?_; rintro e w1 ⟨rfl, b1⟩; have lt1 := Nat.lt_of_lt_of_le xl b1.size; have o1 := (b1.cell (p := ⟨w.heap.size, 0, none⟩) (by exact xl)).trans xa; have p1 := (b1.cell (p := ⟨w.heap.size, 1, none⟩) (by exact xl)).trans xb))
      go_ret2
      have f1 := bmm ba ba.size b1
      have f2 := bmm f1 f1.size b2
      exact ⟨rfl, bmm f2 f2.size (((b3.trans b4).trans b5).trans b6)⟩
    · have hp' : placeB A B = false := by simpa using hp
      rw [hp'] at qp
      have e : encET ⟨A, B, ⟨K, S, Q, T, N⟩⟩ = (⟨#[]⟩, 1) := by unfold encET; rw [if_neg (by rw [hE, hp']; simp)]
      rw [e]
      clear e hE ec
      go_enter Tryz.func31, Tryz.ntmps31
      go_wp2_with (first
        | (go_at_call 67; refine (qp _).mono ?_; rintro e w2 ⟨rfl, b2⟩)
        | (go_at_call 66; refine q0.mono ?_; rintro e w1 ⟨rfl, b1⟩; have lt1 := Nat.lt_of_lt_of_le xl b1.size; have o1 := (b1.cell (p := ⟨w.heap.size, 0, none⟩) (by exact xl)).trans xa; have p1 := (b1.cell (p := ⟨w.heap.size, 1, none⟩) (by exact xl)).trans xb))
      go_ret2
      have f1 := bmm ba ba.size b1
      exact ⟨rfl, bmm f1 f1.size b2⟩
  · have hm' : mayB ⟨K, S, Q, T, N⟩ = false := by simpa using hm
    have ec : encT ⟨K, S, Q, T, N⟩ = (⟨#[]⟩, 1) := by unfold encT; rw [if_neg hm]
    rw [ec] at q0
    have e : encET ⟨A, B, ⟨K, S, Q, T, N⟩⟩ = (⟨#[]⟩, 1) := by unfold encET; rw [if_neg (by rw [hE, hm']; simp)]
    rw [e]
    clear e hE ec
    go_enter Tryz.func31, Tryz.ntmps31
    go_wp2_with (first
      | (go_at_call 66; refine q0.mono ?_; rintro e w1 ⟨rfl, b1⟩))
    go_ret2
    exact ⟨rfl, bmm ba ba.size b1⟩
end Go.Proofs.YtdhlbldmdeepiaaGreatDoor
