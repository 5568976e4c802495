/-
  Which commands may be, by the document's own (package latchkeyref03), some kinds. No condition.
-/
import Derived.Test.YtdhlbldmdeepiaaGreatDoorRPackC
namespace Go.Proofs.YtdhlbldmdeepiaaGreatDoor
open Go.RowKit

set_option maxHeartbeats 3200000 in
set_option maxRecDepth 100000 in
theorem rmay_4 (S Q N : Int) (T : ByteArray) (w : World) :
    Calls Tryz.prog 101 #[.agg #[.int .i64 4, .int .i64 S, .int .i64 Q, .string T, .int .i64 N]] w fun e w' => e = .returned (.bool (mayB ⟨4, S, Q, T, N⟩)) ∧ Below w.heap.size w w' := by
  have q := rwithin_any
  rcases name_kinds T with rfl | ⟨hT, h1⟩
  · have hz : (⟨#[]⟩ : ByteArray).size = 0 := rfl
    go_enter Tryz.func101, Tryz.ntmps101
    go_wp2_with (go_at_call 100; refine (q _ _ _ _).mono ?_; rintro e w' ⟨rfl, rfl⟩)
    all_goals go_ret
    all_goals refine ⟨endB ?_, (Below.refl _ w).alloc (Nat.le_refl _) _⟩
    all_goals rw [may_4]
    all_goals (first
      | exact ⟨fun h => Bool.noConfusion h, fun h => by omega⟩
      | exact ⟨fun _ => by omega, fun _ => rfl⟩
      | exact ⟨fun h => by have := eq_of_beq h; omega, fun h => beq_iff_eq.mpr (by omega)⟩
      | exact ⟨fun h => by have := and_two h; omega, fun h => two_and (by omega)⟩)
  · have h1' : (1 : Int) ≤ (T.size : Int) := by omega
    go_enter Tryz.func101, Tryz.ntmps101
    go_wp2_with (go_at_call 100; refine (q _ _ _ _).mono ?_; rintro e w' ⟨rfl, rfl⟩)
    all_goals go_ret
    all_goals refine ⟨endB ?_, (Below.refl _ w).alloc (Nat.le_refl _) _⟩
    all_goals rw [may_4]
    all_goals (first
      | exact ⟨fun h => Bool.noConfusion h, fun h => by omega⟩
      | exact ⟨fun _ => by omega, fun _ => rfl⟩
      | exact ⟨fun h => by have := eq_of_beq h; omega, fun h => beq_iff_eq.mpr (by omega)⟩
      | exact ⟨fun h => by have := and_two h; omega, fun h => two_and (by omega)⟩)

set_option maxHeartbeats 3200000 in
set_option maxRecDepth 100000 in
theorem rmay_5 (S Q N : Int) (T : ByteArray) (w : World) :
    Calls Tryz.prog 101 #[.agg #[.int .i64 5, .int .i64 S, .int .i64 Q, .string T, .int .i64 N]] w fun e w' => e = .returned (.bool (mayB ⟨5, S, Q, T, N⟩)) ∧ Below w.heap.size w w' := by
  have q := rwithin_any
  rcases name_kinds T with rfl | ⟨hT, h1⟩
  · have hz : (⟨#[]⟩ : ByteArray).size = 0 := rfl
    go_enter Tryz.func101, Tryz.ntmps101
    go_wp2_with (go_at_call 100; refine (q _ _ _ _).mono ?_; rintro e w' ⟨rfl, rfl⟩)
    all_goals go_ret
    all_goals refine ⟨endB ?_, (Below.refl _ w).alloc (Nat.le_refl _) _⟩
    all_goals rw [may_5]
    all_goals (first
      | exact ⟨fun h => Bool.noConfusion h, fun h => by omega⟩
      | exact ⟨fun _ => by omega, fun _ => rfl⟩
      | exact ⟨fun h => by have := eq_of_beq h; omega, fun h => beq_iff_eq.mpr (by omega)⟩
      | exact ⟨fun h => by have := and_two h; omega, fun h => two_and (by omega)⟩)
  · have h1' : (1 : Int) ≤ (T.size : Int) := by omega
    go_enter Tryz.func101, Tryz.ntmps101
    go_wp2_with (go_at_call 100; refine (q _ _ _ _).mono ?_; rintro e w' ⟨rfl, rfl⟩)
    all_goals go_ret
    all_goals refine ⟨endB ?_, (Below.refl _ w).alloc (Nat.le_refl _) _⟩
    all_goals rw [may_5]
    all_goals (first
      | exact ⟨fun h => Bool.noConfusion h, fun h => by omega⟩
      | exact ⟨fun _ => by omega, fun _ => rfl⟩
      | exact ⟨fun h => by have := eq_of_beq h; omega, fun h => beq_iff_eq.mpr (by omega)⟩
      | exact ⟨fun h => by have := and_two h; omega, fun h => two_and (by omega)⟩)

set_option maxHeartbeats 3200000 in
set_option maxRecDepth 100000 in
theorem rmay_6 (S Q N : Int) (T : ByteArray) (w : World) :
    Calls Tryz.prog 101 #[.agg #[.int .i64 6, .int .i64 S, .int .i64 Q, .string T, .int .i64 N]] w fun e w' => e = .returned (.bool (mayB ⟨6, S, Q, T, N⟩)) ∧ Below w.heap.size w w' := by
  have q := rwithin_any
  rcases name_kinds T with rfl | ⟨hT, h1⟩
  · have hz : (⟨#[]⟩ : ByteArray).size = 0 := rfl
    go_enter Tryz.func101, Tryz.ntmps101
    go_wp2_with (go_at_call 100; refine (q _ _ _ _).mono ?_; rintro e w' ⟨rfl, rfl⟩)
    all_goals go_ret
    all_goals refine ⟨endB ?_, (Below.refl _ w).alloc (Nat.le_refl _) _⟩
    all_goals rw [may_6]
    all_goals (first
      | exact ⟨fun h => Bool.noConfusion h, fun h => by omega⟩
      | exact ⟨fun _ => by omega, fun _ => rfl⟩
      | exact ⟨fun h => by have := eq_of_beq h; omega, fun h => beq_iff_eq.mpr (by omega)⟩
      | exact ⟨fun h => by have := and_two h; omega, fun h => two_and (by omega)⟩)
  · have h1' : (1 : Int) ≤ (T.size : Int) := by omega
    go_enter Tryz.func101, Tryz.ntmps101
    go_wp2_with (go_at_call 100; refine (q _ _ _ _).mono ?_; rintro e w' ⟨rfl, rfl⟩)
    all_goals go_ret
    all_goals refine ⟨endB ?_, (Below.refl _ w).alloc (Nat.le_refl _) _⟩
    all_goals rw [may_6]
    all_goals (first
      | exact ⟨fun h => Bool.noConfusion h, fun h => by omega⟩
      | exact ⟨fun _ => by omega, fun _ => rfl⟩
      | exact ⟨fun h => by have := eq_of_beq h; omega, fun h => beq_iff_eq.mpr (by omega)⟩
      | exact ⟨fun h => by have := and_two h; omega, fun h => two_and (by omega)⟩)

end Go.Proofs.YtdhlbldmdeepiaaGreatDoor
