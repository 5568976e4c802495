/-
  How far a clock may drift, as plain data and by the document's own (package latchkeyref07). No condition.
-/
import Derived.Test.YtcecgphjaofgbaaGOwn
namespace Go.Proofs.Ytcecgphjaofgbaa
open Go.RowKit

def far : Int := 1099511627776
/-- Whether both may be and the one drifts by no more than one in eight. -/
def boundB (r b : Int) : Bool := decide (0 ≤ r) && decide (r ≤ 1099511627776) && decide (0 ≤ b) && decide (b ≤ 1099511627776) && decide (8 * (r - b) ≤ r) && decide (8 * (b - r) ≤ r)
theorem boundB_iff (r b : Int) : boundB r b = true ↔ (0 ≤ r ∧ r ≤ 1099511627776 ∧ 0 ≤ b ∧ b ≤ 1099511627776 ∧ 8 * (r - b) ≤ r ∧ 8 * (b - r) ≤ r) := by
  unfold boundB
  simp only [Bool.and_eq_true, decide_eq_true_eq]
  constructor
  · rintro ⟨⟨⟨⟨⟨h1, h2⟩, h3⟩, h4⟩, h5⟩, h6⟩
    exact ⟨h1, h2, h3, h4, h5, h6⟩
  · rintro ⟨h1, h2, h3, h4, h5, h6⟩
    exact ⟨⟨⟨⟨⟨h1, h2⟩, h3⟩, h4⟩, h5⟩, h6⟩
theorem boundB_no {r b : Int} (h : ¬ (0 ≤ r ∧ r ≤ 1099511627776 ∧ 0 ≤ b ∧ b ≤ 1099511627776)) : boundB r b = false := by
  cases hb : boundB r b with
  | false => rfl
  | true => exact absurd (by have := (boundB_iff r b).1 hb; exact ⟨this.1, this.2.1, this.2.2.1, this.2.2.2.1⟩) h
set_option maxHeartbeats 1600000 in
set_option maxRecDepth 100000 in
theorem rbounded_any (r b : Int) (w : World) : Calls Try.prog 21 #[.int .i64 r, .int .i64 b] w fun e w' => e = .returned (.bool (boundB r b)) ∧ w = w' := by
  by_cases h1 : r < 0
  · have q1 : decide (r < 0) = true := decide_eq_true h1
    rw [boundB_no (by omega)]
    go_enter Try.func21, Try.ntmps21
    go_wp2
    go_ret
    exact ⟨rfl, rfl⟩
  have q1 : decide (r < 0) = false := decide_eq_false h1
  by_cases h2 : 1099511627776 < r
  · have q2 : decide (1099511627776 < r) = true := decide_eq_true h2
    rw [boundB_no (by omega)]
    go_enter Try.func21, Try.ntmps21
    go_wp2
    go_ret
    exact ⟨rfl, rfl⟩
  have q2 : decide (1099511627776 < r) = false := decide_eq_false h2
  by_cases h3 : b < 0
  · have q3 : decide (b < 0) = true := decide_eq_true h3
    rw [boundB_no (by omega)]
    go_enter Try.func21, Try.ntmps21
    go_wp2
    go_ret
    exact ⟨rfl, rfl⟩
  have q3 : decide (b < 0) = false := decide_eq_false h3
  by_cases h4 : 1099511627776 < b
  · have q4 : decide (1099511627776 < b) = true := decide_eq_true h4
    rw [boundB_no (by omega)]
    go_enter Try.func21, Try.ntmps21
    go_wp2
    go_ret
    exact ⟨rfl, rfl⟩
  have q4 : decide (1099511627776 < b) = false := decide_eq_false h4
  by_cases h5 : r - b < 0
  · have q5 : decide (r - b < 0) = true := decide_eq_true h5
    have e : boundB r b = decide (8 * (b - r) ≤ r) := by
      have h6 := boundB_iff r b
      cases hb : boundB r b with
      | true => exact (decide_eq_true (h6.1 hb).2.2.2.2.2).symm
      | false =>
        refine (decide_eq_false (fun h7 => ?_)).symm
        rw [h6.2 ⟨by omega, by omega, by omega, by omega, by omega, h7⟩] at hb
        cases hb
    rw [e]
    have e2 : -(r - b) = b - r := by omega
    go_enter Try.func21, Try.ntmps21
    go_wp2
    go_ret
    exact ⟨congrArg (fun b => Ending.returned (.bool b)) (decide_eq_decide.2 (by omega)), rfl⟩
  · have q5 : decide (r - b < 0) = false := decide_eq_false h5
    have e : boundB r b = decide (8 * (r - b) ≤ r) := by
      have h6 := boundB_iff r b
      cases hb : boundB r b with
      | true => exact (decide_eq_true (h6.1 hb).2.2.2.2.1).symm
      | false =>
        refine (decide_eq_false (fun h7 => ?_)).symm
        rw [h6.2 ⟨by omega, by omega, by omega, by omega, h7, by omega⟩] at hb
        cases hb
    rw [e]
    go_enter Try.func21, Try.ntmps21
    go_wp2
    go_ret
    exact ⟨congrArg (fun b => Ending.returned (.bool b)) (decide_eq_decide.2 (by omega)), rfl⟩
/-- What is bounded piece by piece is bounded as a whole. -/
theorem bound_sum {r b x y : Int} (h : 8 * (r - b) ≤ r ∧ 8 * (b - r) ≤ r) (k : boundB x y = true) : 8 * ((r + x) - (b + y)) ≤ r + x ∧ 8 * ((b + y) - (r + x)) ≤ r + x := by
  have := (boundB_iff x y).1 k
  omega
end Go.Proofs.Ytcecgphjaofgbaa
