/-
  The contracts of the document's own commands (package latchkeyref03): which may be. No condition.
-/
import Derived.Test.YtmmdcbgmhjheeaaCmPlain
import Derived.Deep.RegionHeld3
import Derived.BigQuiet
import Derived.WalkSmall
namespace Go.Proofs.Ytmmdcbgmhjheeaa
open Go.RowKit

theorem rwithin_any (n lo hi : Int) (w : World) :
    Calls Try.prog 62 #[.int .i64 n, .int .i64 lo, .int .i64 hi] w fun e w' => e = .returned (.bool (decide (lo ≤ n) && decide (n ≤ hi))) ∧ w = w' := by
  by_cases h : lo ≤ n
  · go_enter Try.func62, Try.ntmps62
    go_wp2
    go_ret
    exact ⟨by simp [h], rfl⟩
  · have e : decide (lo ≤ n) = false := by simpa using h
    rw [e, Bool.false_and]
    go_enter Try.func62, Try.ntmps62
    go_wp2
    go_ret
    exact ⟨rfl, rfl⟩

/-- What a name is to the tests. -/
theorem name_kinds (T : ByteArray) : T = ⟨#[]⟩ ∨ (¬ T.toList = [] ∧ 1 ≤ T.size) := by
  by_cases h : T.size = 0
  · exact Or.inl (is_empty h)
  · refine Or.inr ⟨fun e => ?_, by omega⟩
    have := not_empty h
    rw [e] at this
    cases this

theorem endB {x y : Bool} (h : x = true ↔ y = true) : Ending.returned (.bool x) = Ending.returned (.bool y) := by
  rw [Bool.eq_iff_iff.2 h]
theorem and_two {p q : Prop} [Decidable p] [Decidable q] (h : (decide p && decide q) = true) : p ∧ q := by simpa using h
theorem two_and {p q : Prop} [Decidable p] [Decidable q] (h : p ∧ q) : (decide p && decide q) = true := by simpa using h

/-! ### Which may be, kind by kind -/
theorem may_0 (S Q N : Int) (T : ByteArray) : mayB ⟨0, S, Q, T, N⟩ = true ↔ S = 0 ∧ Q = 0 ∧ T.size = 0 ∧ N = 0 := by
  have e : mayB ⟨0, S, Q, T, N⟩ = (decide (S = 0) && (decide (Q = 0) && (decide (T.size = 0) && decide (N = 0)))) := rfl
  rw [e]
  simp only [Bool.and_eq_true, decide_eq_true_eq]
theorem may_1 (S Q N : Int) (T : ByteArray) : mayB ⟨1, S, Q, T, N⟩ = true ↔ S = 0 ∧ Q = 0 ∧ T.size = 0 ∧ (1 ≤ N ∧ N ≤ 1099511627776) := by
  have e : mayB ⟨1, S, Q, T, N⟩ = (decide (S = 0) && (decide (Q = 0) && (decide (T.size = 0) && isBallot N))) := rfl
  rw [e]
  unfold isBallot
  simp only [Bool.and_eq_true, decide_eq_true_eq]
theorem may_2 (S Q N : Int) (T : ByteArray) : mayB ⟨2, S, Q, T, N⟩ = true ↔ (0 ≤ S ∧ S ≤ 7) ∧ (1 ≤ Q ∧ Q ≤ 1073741824) ∧ T.size = 0 ∧ N = 0 := by
  have e : mayB ⟨2, S, Q, T, N⟩ = ((decide (0 ≤ S) && decide (S ≤ 7)) && (great Q && (decide (T.size = 0) && decide (N = 0)))) := rfl
  rw [e]
  unfold great
  simp only [Bool.and_eq_true, decide_eq_true_eq]
theorem may_3 (S Q N : Int) (T : ByteArray) : mayB ⟨3, S, Q, T, N⟩ = true ↔ (1 ≤ S ∧ S ≤ 1073741824) ∧ (1 ≤ Q ∧ Q ≤ 1073741824) ∧ T.size = 0 ∧ N = 0 := by
  have e : mayB ⟨3, S, Q, T, N⟩ = (great S && (great Q && (decide (T.size = 0) && decide (N = 0)))) := rfl
  rw [e]
  unfold great
  simp only [Bool.and_eq_true, decide_eq_true_eq]
theorem may_4 (S Q N : Int) (T : ByteArray) : mayB ⟨4, S, Q, T, N⟩ = true ↔ (1 ≤ S ∧ S ≤ 1073741824) ∧ Q = 0 ∧ T.size = 0 ∧ (1 ≤ N ∧ N ≤ 1099511627776) := by
  have e : mayB ⟨4, S, Q, T, N⟩ = (great S && (decide (Q = 0) && (decide (T.size = 0) && isBallot N))) := rfl
  rw [e]
  unfold great isBallot
  simp only [Bool.and_eq_true, decide_eq_true_eq]
theorem may_5 (S Q N : Int) (T : ByteArray) : mayB ⟨5, S, Q, T, N⟩ = true ↔ (1 ≤ S ∧ S ≤ 1073741824) ∧ (1 ≤ Q ∧ Q ≤ 1073741824) ∧ (1 ≤ T.size ∧ T.size ≤ 64) ∧ N = 0 := by
  have e : mayB ⟨5, S, Q, T, N⟩ = (great S && (great Q && (isName T && decide (N = 0)))) := rfl
  rw [e]
  unfold great isName
  simp only [Bool.and_eq_true, decide_eq_true_eq]
theorem may_6 (S Q N : Int) (T : ByteArray) : mayB ⟨6, S, Q, T, N⟩ = true ↔ (1 ≤ S ∧ S ≤ 1073741824) ∧ (1 ≤ Q ∧ Q ≤ 1073741824) ∧ (1 ≤ T.size ∧ T.size ≤ 64) ∧ N = 0 := by
  have e : mayB ⟨6, S, Q, T, N⟩ = (great S && (great Q && (isName T && decide (N = 0)))) := rfl
  rw [e]
  unfold great isName
  simp only [Bool.and_eq_true, decide_eq_true_eq]
theorem may_7 (S Q N : Int) (T : ByteArray) : mayB ⟨7, S, Q, T, N⟩ = true ↔ (1 ≤ S ∧ S ≤ 1073741824) ∧ (1 ≤ Q ∧ Q ≤ 1073741824) ∧ (1 ≤ T.size ∧ T.size ≤ 64) ∧ N = 0 := by
  have e : mayB ⟨7, S, Q, T, N⟩ = (great S && (great Q && (isName T && decide (N = 0)))) := rfl
  rw [e]
  unfold great isName
  simp only [Bool.and_eq_true, decide_eq_true_eq]
theorem may_8 (S Q N : Int) (T : ByteArray) : mayB ⟨8, S, Q, T, N⟩ = true ↔ (1 ≤ S ∧ S ≤ 1073741824) ∧ (1 ≤ Q ∧ Q ≤ 1073741824) ∧ (1 ≤ T.size ∧ T.size ≤ 64) ∧ N = 0 := by
  have e : mayB ⟨8, S, Q, T, N⟩ = (great S && (great Q && (isName T && decide (N = 0)))) := rfl
  rw [e]
  unfold great isName
  simp only [Bool.and_eq_true, decide_eq_true_eq]
theorem may_9 (S Q N : Int) (T : ByteArray) : mayB ⟨9, S, Q, T, N⟩ = true ↔ (1 ≤ S ∧ S ≤ 1073741824) ∧ (1 ≤ Q ∧ Q ≤ 1073741824) ∧ (1 ≤ T.size ∧ T.size ≤ 64) ∧ (-1073741824 ≤ N ∧ N ≤ 1073741824) := by
  have e : mayB ⟨9, S, Q, T, N⟩ = (great S && (great Q && (isName T && (decide (-1073741824 ≤ N) && decide (N ≤ 1073741824))))) := rfl
  rw [e]
  unfold great isName
  simp only [Bool.and_eq_true, decide_eq_true_eq]
theorem may_10 (S Q N : Int) (T : ByteArray) : mayB ⟨10, S, Q, T, N⟩ = true ↔ (1 ≤ S ∧ S ≤ 1073741824) ∧ (1 ≤ Q ∧ Q ≤ 1073741824) ∧ (1 ≤ T.size ∧ T.size ≤ 64) ∧ N = 0 := by
  have e : mayB ⟨10, S, Q, T, N⟩ = (great S && (great Q && (isName T && decide (N = 0)))) := rfl
  rw [e]
  unfold great isName
  simp only [Bool.and_eq_true, decide_eq_true_eq]
theorem may_11 (S Q N : Int) (T : ByteArray) : mayB ⟨11, S, Q, T, N⟩ = true ↔ (1 ≤ S ∧ S ≤ 1073741824) ∧ (1 ≤ Q ∧ Q ≤ 1073741824) ∧ (1 ≤ T.size ∧ T.size ≤ 64) ∧ N = 0 := by
  have e : mayB ⟨11, S, Q, T, N⟩ = (great S && (great Q && (isName T && decide (N = 0)))) := rfl
  rw [e]
  unfold great isName
  simp only [Bool.and_eq_true, decide_eq_true_eq]
theorem may_12 (S Q N : Int) (T : ByteArray) : mayB ⟨12, S, Q, T, N⟩ = true ↔ (1 ≤ S ∧ S ≤ 1073741824) ∧ (1 ≤ Q ∧ Q ≤ 1073741824) ∧ (1 ≤ T.size ∧ T.size ≤ 64) ∧ N = 0 := by
  have e : mayB ⟨12, S, Q, T, N⟩ = (great S && (great Q && (isName T && decide (N = 0)))) := rfl
  rw [e]
  unfold great isName
  simp only [Bool.and_eq_true, decide_eq_true_eq]
end Go.Proofs.Ytmmdcbgmhjheeaa
