/-
  Which commands may be, by the document's own (package latchkeyref03), some kinds. No condition.
-/
import Derived.Test.YtdhlbldmdeepiaaGreatDoorRPackC
namespace Go.Proofs.YtdhlbldmdeepiaaGreatDoor
open Go.RowKit

set_option maxHeartbeats 3200000 in
set_option maxRecDepth 100000 in
theorem rmay_10 (S Q N : Int) (T : ByteArray) (w : World) :
    Calls Tryz.prog 101 #[.agg #[.int .i64 10, .int .i64 S, .int .i64 Q, .string T, .int .i64 N]] w fun e w' => e = .returned (.bool (mayB ⟨10, S, Q, T, N⟩)) ∧ Below w.heap.size w w' := by
  have q := rwithin_any
  rcases name_kinds T with rfl | ⟨hT, h1⟩
  · have hz : (⟨#[]⟩ : ByteArray).size = 0 := rfl
    go_enter Tryz.func101, Tryz.ntmps101
    go_wp2_with (go_at_call 100; refine (q _ _ _ _).mono ?_; rintro e w' ⟨rfl, rfl⟩)
    all_goals go_ret
    all_goals refine ⟨endB ?_, (Below.refl _ w).alloc (Nat.le_refl _) _⟩
    all_goals rw [may_10]
    all_goals (first
      | exact ⟨fun h => Bool.noConfusion h, fun h => by omega⟩
      | exact ⟨fun _ => by omega, fun _ => rfl⟩
      | exact ⟨fun h => by have := eq_of_beq h; omega, fun h => beq_iff_eq.mpr (by omega)⟩
      | exact ⟨fun h => by have := and_two h; omega, fun h => two_and (by omega)⟩)
  · have h1' : (1 : Int) ≤ (T.size : Int) := by omega
    go_enter Tryz.func101, Tryz.ntmps101
    go_wp2_with (go_at_call 100; refine (q _ _ _ _).mono ?_; rintro e w' ⟨rfl, rfl⟩)
    all_goals go_ret
    all_goals refine ⟨endB ?_, (Below.refl _ w).alloc (Nat.le_refl _) _⟩
    all_goals rw [may_10]
    all_goals (first
      | exact ⟨fun h => Bool.noConfusion h, fun h => by omega⟩
      | exact ⟨fun _ => by omega, fun _ => rfl⟩
      | exact ⟨fun h => by have := eq_of_beq h; omega, fun h => beq_iff_eq.mpr (by omega)⟩
      | exact ⟨fun h => by have := and_two h; omega, fun h => two_and (by omega)⟩)

set_option maxHeartbeats 3200000 in
set_option maxRecDepth 100000 in
theorem rmay_11 (S Q N : Int) (T : ByteArray) (w : World) :
    Calls Tryz.prog 101 #[.agg #[.int .i64 11, .int .i64 S, .int .i64 Q, .string T, .int .i64 N]] w fun e w' => e = .returned (.bool (mayB ⟨11, S, Q, T, N⟩)) ∧ Below w.heap.size w w' := by
  have q := rwithin_any
  rcases name_kinds T with rfl | ⟨hT, h1⟩
  · have hz : (⟨#[]⟩ : ByteArray).size = 0 := rfl
    go_enter Tryz.func101, Tryz.ntmps101
    go_wp2_with (go_at_call 100; refine (q _ _ _ _).mono ?_; rintro e w' ⟨rfl, rfl⟩)
    all_goals go_ret
    all_goals refine ⟨endB ?_, (Below.refl _ w).alloc (Nat.le_refl _) _⟩
    all_goals rw [may_11]
    all_goals (first
      | exact ⟨fun h => Bool.noConfusion h, fun h => by omega⟩
      | exact ⟨fun _ => by omega, fun _ => rfl⟩
      | exact ⟨fun h => by have := eq_of_beq h; omega, fun h => beq_iff_eq.mpr (by omega)⟩
      | exact ⟨fun h => by have := and_two h; omega, fun h => two_and (by omega)⟩)
  · have h1' : (1 : Int) ≤ (T.size : Int) := by omega
    go_enter Tryz.func101, Tryz.ntmps101
    go_wp2_with (go_at_call 100; refine (q _ _ _ _).mono ?_; rintro e w' ⟨rfl, rfl⟩)
    all_goals go_ret
    all_goals refine ⟨endB ?_, (Below.refl _ w).alloc (Nat.le_refl _) _⟩
    all_goals rw [may_11]
    all_goals (first
      | exact ⟨fun h => Bool.noConfusion h, fun h => by omega⟩
      | exact ⟨fun _ => by omega, fun _ => rfl⟩
      | exact ⟨fun h => by have := eq_of_beq h; omega, fun h => beq_iff_eq.mpr (by omega)⟩
      | exact ⟨fun h => by have := and_two h; omega, fun h => two_and (by omega)⟩)

set_option maxHeartbeats 3200000 in
set_option maxRecDepth 100000 in
theorem rmay_12 (S Q N : Int) (T : ByteArray) (w : World) :
    Calls Tryz.prog 101 #[.agg #[.int .i64 12, .int .i64 S, .int .i64 Q, .string T, .int .i64 N]] w fun e w' => e = .returned (.bool (mayB ⟨12, S, Q, T, N⟩)) ∧ Below w.heap.size w w' := by
  have q := rwithin_any
  rcases name_kinds T with rfl | ⟨hT, h1⟩
  · have hz : (⟨#[]⟩ : ByteArray).size = 0 := rfl
    go_enter Tryz.func101, Tryz.ntmps101
    go_wp2_with (go_at_call 100; refine (q _ _ _ _).mono ?_; rintro e w' ⟨rfl, rfl⟩)
    all_goals go_ret
    all_goals refine ⟨endB ?_, (Below.refl _ w).alloc (Nat.le_refl _) _⟩
    all_goals rw [may_12]
    all_goals (first
      | exact ⟨fun h => Bool.noConfusion h, fun h => by omega⟩
      | exact ⟨fun _ => by omega, fun _ => rfl⟩
      | exact ⟨fun h => by have := eq_of_beq h; omega, fun h => beq_iff_eq.mpr (by omega)⟩
      | exact ⟨fun h => by have := and_two h; omega, fun h => two_and (by omega)⟩)
  · have h1' : (1 : Int) ≤ (T.size : Int) := by omega
    go_enter Tryz.func101, Tryz.ntmps101
    go_wp2_with (go_at_call 100; refine (q _ _ _ _).mono ?_; rintro e w' ⟨rfl, rfl⟩)
    all_goals go_ret
    all_goals refine ⟨endB ?_, (Below.refl _ w).alloc (Nat.le_refl _) _⟩
    all_goals rw [may_12]
    all_goals (first
      | exact ⟨fun h => Bool.noConfusion h, fun h => by omega⟩
      | exact ⟨fun _ => by omega, fun _ => rfl⟩
      | exact ⟨fun h => by have := eq_of_beq h; omega, fun h => beq_iff_eq.mpr (by omega)⟩
      | exact ⟨fun h => by have := and_two h; omega, fun h => two_and (by omega)⟩)

set_option maxHeartbeats 3200000 in
set_option maxRecDepth 100000 in
theorem rmay_no (K S Q N : Int) (T : ByteArray) (hK : K < 0 ∨ 12 < K) (w : World) :
    Calls Tryz.prog 101 #[.agg #[.int .i64 K, .int .i64 S, .int .i64 Q, .string T, .int .i64 N]] w fun e w' => e = .returned (.bool (mayB ⟨K, S, Q, T, N⟩)) ∧ Below w.heap.size w w' := by
  have q := rwithin_any
  have e : mayB ⟨K, S, Q, T, N⟩ = false := by
    unfold mayB
    rw [if_neg (by show ¬ K = 0; omega), if_neg (by show ¬ K = 1; omega), if_neg (by show ¬ K = 4; omega), if_neg (by show ¬ K = 2; omega), if_neg (by show ¬ K = 3; omega), if_neg (by show ¬ K = 9; omega), if_neg (by show ¬ (5 ≤ K ∧ K ≤ 12); omega)]
  rw [e]
  have k0 : (K == 0) = false := by rw [beq_eq_false_iff_ne]; omega
  have k1 : (K == 1) = false := by rw [beq_eq_false_iff_ne]; omega
  have k2 : (K == 2) = false := by rw [beq_eq_false_iff_ne]; omega
  have k3 : (K == 3) = false := by rw [beq_eq_false_iff_ne]; omega
  have k4 : (K == 4) = false := by rw [beq_eq_false_iff_ne]; omega
  have k5 : (K == 5) = false := by rw [beq_eq_false_iff_ne]; omega
  have k6 : (K == 6) = false := by rw [beq_eq_false_iff_ne]; omega
  have k7 : (K == 7) = false := by rw [beq_eq_false_iff_ne]; omega
  have k8 : (K == 8) = false := by rw [beq_eq_false_iff_ne]; omega
  have k9 : (K == 9) = false := by rw [beq_eq_false_iff_ne]; omega
  have k10 : (K == 10) = false := by rw [beq_eq_false_iff_ne]; omega
  have k11 : (K == 11) = false := by rw [beq_eq_false_iff_ne]; omega
  have k12 : (K == 12) = false := by rw [beq_eq_false_iff_ne]; omega
  clear hK e
  rcases name_kinds T with rfl | ⟨hT, h1⟩
  · go_enter Tryz.func101, Tryz.ntmps101
    go_wp2_with (go_at_call 100; refine (q _ _ _ _).mono ?_; rintro e w' ⟨rfl, rfl⟩)
    all_goals go_ret
    all_goals exact ⟨rfl, (Below.refl _ w).alloc (Nat.le_refl _) _⟩
  · have h1' : (1 : Int) ≤ (T.size : Int) := by omega
    go_enter Tryz.func101, Tryz.ntmps101
    go_wp2_with (go_at_call 100; refine (q _ _ _ _).mono ?_; rintro e w' ⟨rfl, rfl⟩)
    all_goals go_ret
    all_goals exact ⟨rfl, (Below.refl _ w).alloc (Nat.le_refl _) _⟩

end Go.Proofs.YtdhlbldmdeepiaaGreatDoor
