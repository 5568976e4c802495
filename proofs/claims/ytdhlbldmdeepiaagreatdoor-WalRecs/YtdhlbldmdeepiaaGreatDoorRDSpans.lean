/-
  The contracts of package cmds' spans: whether one holds a number, whether an entry may stand at a place, which spans a kind has. No condition.
-/
import Derived.Test.YtdhlbldmdeepiaaGreatDoorRPackI
namespace Go.Proofs.YtdhlbldmdeepiaaGreatDoor
open Go.RowKit

set_option maxRecDepth 100000 in
theorem holds_any (lo hi n : Int) (w : World) :
    Calls Tryz.prog 97 #[.agg #[.int .i64 lo, .int .i64 hi], .int .i64 n] w fun e w' => e = .returned (.bool (decide (lo ≤ n) && decide (n ≤ hi))) ∧ Below w.heap.size w w' := by
  have ba := (Below.refl _ w).alloc (Nat.le_refl _) (.cells #[.int .i64 lo, .int .i64 hi] 145)
  by_cases h : lo ≤ n
  · go_enter Tryz.func97, Tryz.ntmps97
    go_wp2
    go_ret
    exact ⟨by simp [h], ba⟩
  · have e : decide (lo ≤ n) = false := by simpa using h
    rw [e, Bool.false_and]
    go_enter Tryz.func97, Tryz.ntmps97
    go_wp2
    go_ret
    exact ⟨rfl, ba⟩

/-- Where an entry may stand. -/
def placeB (A B : Int) : Bool := (decide (1 ≤ A) && decide (A ≤ 1099511627776)) && (decide (0 ≤ B) && decide (B ≤ 1099511627776))

set_option maxRecDepth 100000 in
theorem place_any (A B : Int) (w : World) :
    Calls Tryz.prog 67 #[.int .i64 A, .int .i64 B] w fun e w' => e = .returned (.bool (placeB A B)) ∧ Below w.heap.size w w' := by
  unfold placeB
  have q1 := holds_any 1 1099511627776 A
  have q2 := holds_any 0 1099511627776 B
  obtain ⟨a, ha⟩ : ∃ a, a = (decide (1 ≤ A) && decide (A ≤ 1099511627776)) := ⟨_, rfl⟩
  obtain ⟨b, hb⟩ : ∃ b, b = (decide (0 ≤ B) && decide (B ≤ 1099511627776)) := ⟨_, rfl⟩
  rw [← ha] at q1 ⊢
  rw [← hb] at q2 ⊢
  clear ha hb
  cases a with
  | false =>
    go_enter Tryz.func67, Tryz.ntmps67
    go_wp2_with (go_at_call 97; refine (q1 _).mono ?_; rintro e w1 ⟨rfl, b1⟩)
    go_ret
    exact ⟨rfl, b1⟩
  | true =>
    go_enter Tryz.func67, Tryz.ntmps67
    go_wp2_with (first
      | (go_at_call 97; have d2 := d1; refine (q2 _).mono ?_; rintro e w2 ⟨rfl, b2⟩)
      | (go_at_call 97; refine (q1 _).mono ?_; rintro e w1 ⟨rfl, b1⟩; have d1 : True := trivial))
    go_ret
    exact ⟨rfl, bmm b1 b1.size b2⟩

/-- The least and the most of a command's session, number, name's length, amount. -/
structure Sp where
  s0 : Int
  s1 : Int
  q0 : Int
  q1 : Int
  t0 : Int
  t1 : Int
  n0 : Int
  n1 : Int

/-- The spans of a kind, and whether there is such a kind. -/
def spK (K : Int) : Sp × Bool :=
  if K = 9 then (⟨1, 1073741824, 1, 1073741824, 1, 64, (-1073741824), 1073741824⟩, true) else
  if K = 5 then (⟨1, 1073741824, 1, 1073741824, 1, 64, 0, 0⟩, true) else
  if K = 6 then (⟨1, 1073741824, 1, 1073741824, 1, 64, 0, 0⟩, true) else
  if K = 7 then (⟨1, 1073741824, 1, 1073741824, 1, 64, 0, 0⟩, true) else
  if K = 8 then (⟨1, 1073741824, 1, 1073741824, 1, 64, 0, 0⟩, true) else
  if K = 10 then (⟨1, 1073741824, 1, 1073741824, 1, 64, 0, 0⟩, true) else
  if K = 11 then (⟨1, 1073741824, 1, 1073741824, 1, 64, 0, 0⟩, true) else
  if K = 12 then (⟨1, 1073741824, 1, 1073741824, 1, 64, 0, 0⟩, true) else
  if K = 3 then (⟨1, 1073741824, 1, 1073741824, 0, 0, 0, 0⟩, true) else
  if K = 2 then (⟨0, 7, 1, 1073741824, 0, 0, 0, 0⟩, true) else
  if K = 4 then (⟨1, 1073741824, 0, 0, 0, 0, 1, 1099511627776⟩, true) else
  if K = 1 then (⟨0, 0, 0, 0, 0, 0, 1, 1099511627776⟩, true) else
  if K = 0 then (⟨0, 0, 0, 0, 0, 0, 0, 0⟩, true) else
  (⟨0, 0, 0, 0, 0, 0, 0, 0⟩, false)

set_option maxHeartbeats 3200000 in
set_option maxRecDepth 100000 in
theorem spans_0 (w : World) :
    Calls Tryz.prog 123 #[.int .i64 0] w fun e w' => e = .returned (.tuple #[.agg #[.int .i64 0, .int .i64 0, .int .i64 0, .int .i64 0, .int .i64 0, .int .i64 0, .int .i64 0, .int .i64 0], .bool true]) ∧ Below w.heap.size w w' := by
  go_enter Tryz.func123, Tryz.ntmps123
  go_wp2
  refine bodyPost_ret (v := .tuple #[.agg #[.int .i64 0, .int .i64 0, .int .i64 0, .int .i64 0, .int .i64 0, .int .i64 0, .int .i64 0, .int .i64 0], .bool true]) (by simp [results, Tryz.results123, go_sem]) rfl ⟨rfl, ((Below.refl _ w).alloc (Nat.le_refl _) _).alloc (by simp) _⟩

set_option maxHeartbeats 3200000 in
set_option maxRecDepth 100000 in
theorem spans_1 (w : World) :
    Calls Tryz.prog 123 #[.int .i64 1] w fun e w' => e = .returned (.tuple #[.agg #[.int .i64 0, .int .i64 0, .int .i64 0, .int .i64 0, .int .i64 0, .int .i64 0, .int .i64 1, .int .i64 1099511627776], .bool true]) ∧ Below w.heap.size w w' := by
  go_enter Tryz.func123, Tryz.ntmps123
  go_wp2
  refine bodyPost_ret (v := .tuple #[.agg #[.int .i64 0, .int .i64 0, .int .i64 0, .int .i64 0, .int .i64 0, .int .i64 0, .int .i64 1, .int .i64 1099511627776], .bool true]) (by simp [results, Tryz.results123, go_sem]) rfl ⟨rfl, ((Below.refl _ w).alloc (Nat.le_refl _) _).alloc (by simp) _⟩

set_option maxHeartbeats 3200000 in
set_option maxRecDepth 100000 in
theorem spans_2 (w : World) :
    Calls Tryz.prog 123 #[.int .i64 2] w fun e w' => e = .returned (.tuple #[.agg #[.int .i64 0, .int .i64 7, .int .i64 1, .int .i64 1073741824, .int .i64 0, .int .i64 0, .int .i64 0, .int .i64 0], .bool true]) ∧ Below w.heap.size w w' := by
  go_enter Tryz.func123, Tryz.ntmps123
  go_wp2
  refine bodyPost_ret (v := .tuple #[.agg #[.int .i64 0, .int .i64 7, .int .i64 1, .int .i64 1073741824, .int .i64 0, .int .i64 0, .int .i64 0, .int .i64 0], .bool true]) (by simp [results, Tryz.results123, go_sem]) rfl ⟨rfl, ((Below.refl _ w).alloc (Nat.le_refl _) _).alloc (by simp) _⟩

set_option maxHeartbeats 3200000 in
set_option maxRecDepth 100000 in
theorem spans_3 (w : World) :
    Calls Tryz.prog 123 #[.int .i64 3] w fun e w' => e = .returned (.tuple #[.agg #[.int .i64 1, .int .i64 1073741824, .int .i64 1, .int .i64 1073741824, .int .i64 0, .int .i64 0, .int .i64 0, .int .i64 0], .bool true]) ∧ Below w.heap.size w w' := by
  go_enter Tryz.func123, Tryz.ntmps123
  go_wp2
  refine bodyPost_ret (v := .tuple #[.agg #[.int .i64 1, .int .i64 1073741824, .int .i64 1, .int .i64 1073741824, .int .i64 0, .int .i64 0, .int .i64 0, .int .i64 0], .bool true]) (by simp [results, Tryz.results123, go_sem]) rfl ⟨rfl, ((Below.refl _ w).alloc (Nat.le_refl _) _).alloc (by simp) _⟩

set_option maxHeartbeats 3200000 in
set_option maxRecDepth 100000 in
theorem spans_4 (w : World) :
    Calls Tryz.prog 123 #[.int .i64 4] w fun e w' => e = .returned (.tuple #[.agg #[.int .i64 1, .int .i64 1073741824, .int .i64 0, .int .i64 0, .int .i64 0, .int .i64 0, .int .i64 1, .int .i64 1099511627776], .bool true]) ∧ Below w.heap.size w w' := by
  go_enter Tryz.func123, Tryz.ntmps123
  go_wp2
  refine bodyPost_ret (v := .tuple #[.agg #[.int .i64 1, .int .i64 1073741824, .int .i64 0, .int .i64 0, .int .i64 0, .int .i64 0, .int .i64 1, .int .i64 1099511627776], .bool true]) (by simp [results, Tryz.results123, go_sem]) rfl ⟨rfl, ((Below.refl _ w).alloc (Nat.le_refl _) _).alloc (by simp) _⟩

set_option maxHeartbeats 3200000 in
set_option maxRecDepth 100000 in
theorem spans_5 (w : World) :
    Calls Tryz.prog 123 #[.int .i64 5] w fun e w' => e = .returned (.tuple #[.agg #[.int .i64 1, .int .i64 1073741824, .int .i64 1, .int .i64 1073741824, .int .i64 1, .int .i64 64, .int .i64 0, .int .i64 0], .bool true]) ∧ Below w.heap.size w w' := by
  go_enter Tryz.func123, Tryz.ntmps123
  go_wp2
  refine bodyPost_ret (v := .tuple #[.agg #[.int .i64 1, .int .i64 1073741824, .int .i64 1, .int .i64 1073741824, .int .i64 1, .int .i64 64, .int .i64 0, .int .i64 0], .bool true]) (by simp [results, Tryz.results123, go_sem]) rfl ⟨rfl, ((Below.refl _ w).alloc (Nat.le_refl _) _).alloc (by simp) _⟩

set_option maxHeartbeats 3200000 in
set_option maxRecDepth 100000 in
theorem spans_6 (w : World) :
    Calls Tryz.prog 123 #[.int .i64 6] w fun e w' => e = .returned (.tuple #[.agg #[.int .i64 1, .int .i64 1073741824, .int .i64 1, .int .i64 1073741824, .int .i64 1, .int .i64 64, .int .i64 0, .int .i64 0], .bool true]) ∧ Below w.heap.size w w' := by
  go_enter Tryz.func123, Tryz.ntmps123
  go_wp2
  refine bodyPost_ret (v := .tuple #[.agg #[.int .i64 1, .int .i64 1073741824, .int .i64 1, .int .i64 1073741824, .int .i64 1, .int .i64 64, .int .i64 0, .int .i64 0], .bool true]) (by simp [results, Tryz.results123, go_sem]) rfl ⟨rfl, ((Below.refl _ w).alloc (Nat.le_refl _) _).alloc (by simp) _⟩

set_option maxHeartbeats 3200000 in
set_option maxRecDepth 100000 in
theorem spans_7 (w : World) :
    Calls Tryz.prog 123 #[.int .i64 7] w fun e w' => e = .returned (.tuple #[.agg #[.int .i64 1, .int .i64 1073741824, .int .i64 1, .int .i64 1073741824, .int .i64 1, .int .i64 64, .int .i64 0, .int .i64 0], .bool true]) ∧ Below w.heap.size w w' := by
  go_enter Tryz.func123, Tryz.ntmps123
  go_wp2
  refine bodyPost_ret (v := .tuple #[.agg #[.int .i64 1, .int .i64 1073741824, .int .i64 1, .int .i64 1073741824, .int .i64 1, .int .i64 64, .int .i64 0, .int .i64 0], .bool true]) (by simp [results, Tryz.results123, go_sem]) rfl ⟨rfl, ((Below.refl _ w).alloc (Nat.le_refl _) _).alloc (by simp) _⟩

set_option maxHeartbeats 3200000 in
set_option maxRecDepth 100000 in
theorem spans_8 (w : World) :
    Calls Tryz.prog 123 #[.int .i64 8] w fun e w' => e = .returned (.tuple #[.agg #[.int .i64 1, .int .i64 1073741824, .int .i64 1, .int .i64 1073741824, .int .i64 1, .int .i64 64, .int .i64 0, .int .i64 0], .bool true]) ∧ Below w.heap.size w w' := by
  go_enter Tryz.func123, Tryz.ntmps123
  go_wp2
  refine bodyPost_ret (v := .tuple #[.agg #[.int .i64 1, .int .i64 1073741824, .int .i64 1, .int .i64 1073741824, .int .i64 1, .int .i64 64, .int .i64 0, .int .i64 0], .bool true]) (by simp [results, Tryz.results123, go_sem]) rfl ⟨rfl, ((Below.refl _ w).alloc (Nat.le_refl _) _).alloc (by simp) _⟩

set_option maxHeartbeats 3200000 in
set_option maxRecDepth 100000 in
theorem spans_9 (w : World) :
    Calls Tryz.prog 123 #[.int .i64 9] w fun e w' => e = .returned (.tuple #[.agg #[.int .i64 1, .int .i64 1073741824, .int .i64 1, .int .i64 1073741824, .int .i64 1, .int .i64 64, .int .i64 (-1073741824), .int .i64 1073741824], .bool true]) ∧ Below w.heap.size w w' := by
  go_enter Tryz.func123, Tryz.ntmps123
  go_wp2
  refine bodyPost_ret (v := .tuple #[.agg #[.int .i64 1, .int .i64 1073741824, .int .i64 1, .int .i64 1073741824, .int .i64 1, .int .i64 64, .int .i64 (-1073741824), .int .i64 1073741824], .bool true]) (by simp [results, Tryz.results123, go_sem]) rfl ⟨rfl, ((Below.refl _ w).alloc (Nat.le_refl _) _).alloc (by simp) _⟩

set_option maxHeartbeats 3200000 in
set_option maxRecDepth 100000 in
theorem spans_10 (w : World) :
    Calls Tryz.prog 123 #[.int .i64 10] w fun e w' => e = .returned (.tuple #[.agg #[.int .i64 1, .int .i64 1073741824, .int .i64 1, .int .i64 1073741824, .int .i64 1, .int .i64 64, .int .i64 0, .int .i64 0], .bool true]) ∧ Below w.heap.size w w' := by
  go_enter Tryz.func123, Tryz.ntmps123
  go_wp2
  refine bodyPost_ret (v := .tuple #[.agg #[.int .i64 1, .int .i64 1073741824, .int .i64 1, .int .i64 1073741824, .int .i64 1, .int .i64 64, .int .i64 0, .int .i64 0], .bool true]) (by simp [results, Tryz.results123, go_sem]) rfl ⟨rfl, ((Below.refl _ w).alloc (Nat.le_refl _) _).alloc (by simp) _⟩

set_option maxHeartbeats 3200000 in
set_option maxRecDepth 100000 in
theorem spans_11 (w : World) :
    Calls Tryz.prog 123 #[.int .i64 11] w fun e w' => e = .returned (.tuple #[.agg #[.int .i64 1, .int .i64 1073741824, .int .i64 1, .int .i64 1073741824, .int .i64 1, .int .i64 64, .int .i64 0, .int .i64 0], .bool true]) ∧ Below w.heap.size w w' := by
  go_enter Tryz.func123, Tryz.ntmps123
  go_wp2
  refine bodyPost_ret (v := .tuple #[.agg #[.int .i64 1, .int .i64 1073741824, .int .i64 1, .int .i64 1073741824, .int .i64 1, .int .i64 64, .int .i64 0, .int .i64 0], .bool true]) (by simp [results, Tryz.results123, go_sem]) rfl ⟨rfl, ((Below.refl _ w).alloc (Nat.le_refl _) _).alloc (by simp) _⟩

set_option maxHeartbeats 3200000 in
set_option maxRecDepth 100000 in
theorem spans_12 (w : World) :
    Calls Tryz.prog 123 #[.int .i64 12] w fun e w' => e = .returned (.tuple #[.agg #[.int .i64 1, .int .i64 1073741824, .int .i64 1, .int .i64 1073741824, .int .i64 1, .int .i64 64, .int .i64 0, .int .i64 0], .bool true]) ∧ Below w.heap.size w w' := by
  go_enter Tryz.func123, Tryz.ntmps123
  go_wp2
  refine bodyPost_ret (v := .tuple #[.agg #[.int .i64 1, .int .i64 1073741824, .int .i64 1, .int .i64 1073741824, .int .i64 1, .int .i64 64, .int .i64 0, .int .i64 0], .bool true]) (by simp [results, Tryz.results123, go_sem]) rfl ⟨rfl, ((Below.refl _ w).alloc (Nat.le_refl _) _).alloc (by simp) _⟩

set_option maxHeartbeats 3200000 in
set_option maxRecDepth 100000 in
theorem spans_no (K : Int) (h : ¬ (0 ≤ K ∧ K ≤ 12)) (w : World) :
    Calls Tryz.prog 123 #[.int .i64 K] w fun e w' => e = .returned (.tuple #[.agg #[.int .i64 0, .int .i64 0, .int .i64 0, .int .i64 0, .int .i64 0, .int .i64 0, .int .i64 0, .int .i64 0], .bool false]) ∧ Below w.heap.size w w' := by
  have h9 : (K == 9) = false := by simp; omega
  have h5 : (K == 5) = false := by simp; omega
  have h6 : (K == 6) = false := by simp; omega
  have h7 : (K == 7) = false := by simp; omega
  have h8 : (K == 8) = false := by simp; omega
  have h10 : (K == 10) = false := by simp; omega
  have h11 : (K == 11) = false := by simp; omega
  have h12 : (K == 12) = false := by simp; omega
  have h3 : (K == 3) = false := by simp; omega
  have h2 : (K == 2) = false := by simp; omega
  have h4 : (K == 4) = false := by simp; omega
  have h1 : (K == 1) = false := by simp; omega
  have h0 : (K == 0) = false := by simp; omega
  clear h
  go_enter Tryz.func123, Tryz.ntmps123
  go_wp2
  refine bodyPost_ret (v := .tuple #[.agg #[.int .i64 0, .int .i64 0, .int .i64 0, .int .i64 0, .int .i64 0, .int .i64 0, .int .i64 0, .int .i64 0], .bool false]) (by simp [results, Tryz.results123, go_sem]) rfl ⟨rfl, ((Below.refl _ w).alloc (Nat.le_refl _) _).alloc (by simp) _⟩

theorem kind_each (K : Int) : (K = 0 ∨ K = 1 ∨ K = 2 ∨ K = 3 ∨ K = 4 ∨ K = 5 ∨ K = 6 ∨ K = 7 ∨ K = 8 ∨ K = 9 ∨ K = 10 ∨ K = 11 ∨ K = 12) ∨ ¬ (0 ≤ K ∧ K ≤ 12) := by omega

theorem spK_no {K : Int} (h : ¬ (0 ≤ K ∧ K ≤ 12)) : spK K = (⟨0, 0, 0, 0, 0, 0, 0, 0⟩, false) := by
  unfold spK
  iterate 13 rw [if_neg (by omega)]

theorem spans_any (K : Int) (w : World) :
    Calls Tryz.prog 123 #[.int .i64 K] w fun e w' => e = .returned (.tuple #[.agg #[.int .i64 (spK K).1.s0, .int .i64 (spK K).1.s1, .int .i64 (spK K).1.q0, .int .i64 (spK K).1.q1, .int .i64 (spK K).1.t0, .int .i64 (spK K).1.t1, .int .i64 (spK K).1.n0, .int .i64 (spK K).1.n1], .bool (spK K).2]) ∧ Below w.heap.size w w' := by
  rcases kind_each K with h | h
  · rcases h with rfl | rfl | rfl | rfl | rfl | rfl | rfl | rfl | rfl | rfl | rfl | rfl | rfl
    · exact spans_0 w
    · exact spans_1 w
    · exact spans_2 w
    · exact spans_3 w
    · exact spans_4 w
    · exact spans_5 w
    · exact spans_6 w
    · exact spans_7 w
    · exact spans_8 w
    · exact spans_9 w
    · exact spans_10 w
    · exact spans_11 w
    · exact spans_12 w
  · rw [spK_no h]
    exact spans_no K h w

/-- Which may be, by the spans. -/
def inSp (x : Sp × Bool) (S Q t N : Int) : Bool := x.2 && ((decide (x.1.s0 ≤ S) && decide (S ≤ x.1.s1)) && ((decide (x.1.q0 ≤ Q) && decide (Q ≤ x.1.q1)) && ((decide (x.1.t0 ≤ t) && decide (t ≤ x.1.t1)) && (decide (x.1.n0 ≤ N) && decide (N ≤ x.1.n1)))))

theorem may_no {K : Int} (h : ¬ (0 ≤ K ∧ K ≤ 12)) (S Q N : Int) (T : ByteArray) : mayB ⟨K, S, Q, T, N⟩ = false := by
  cases hb : mayB ⟨K, S, Q, T, N⟩ with
  | false => rfl
  | true => exact absurd (may_small hb).1 h

theorem inSp_iff (a b c d e f g h S Q t N : Int) : inSp (⟨a, b, c, d, e, f, g, h⟩, true) S Q t N = true ↔ (a ≤ S ∧ S ≤ b) ∧ (c ≤ Q ∧ Q ≤ d) ∧ (e ≤ t ∧ t ≤ f) ∧ (g ≤ N ∧ N ≤ h) := by
  unfold inSp
  simp only [Bool.true_and, Bool.and_eq_true, decide_eq_true_eq]

theorem may_spans (K S Q N : Int) (T : ByteArray) : mayB ⟨K, S, Q, T, N⟩ = inSp (spK K) S Q (T.size : Int) N := by
  rcases kind_each K with h | h
  · rw [Bool.eq_iff_iff]
    rcases h with rfl | rfl | rfl | rfl | rfl | rfl | rfl | rfl | rfl | rfl | rfl | rfl | rfl
    · rw [may_0, show spK 0 = (⟨0, 0, 0, 0, 0, 0, 0, 0⟩, true) from rfl, inSp_iff]; omega
    · rw [may_1, show spK 1 = (⟨0, 0, 0, 0, 0, 0, 1, 1099511627776⟩, true) from rfl, inSp_iff]; omega
    · rw [may_2, show spK 2 = (⟨0, 7, 1, 1073741824, 0, 0, 0, 0⟩, true) from rfl, inSp_iff]; omega
    · rw [may_3, show spK 3 = (⟨1, 1073741824, 1, 1073741824, 0, 0, 0, 0⟩, true) from rfl, inSp_iff]; omega
    · rw [may_4, show spK 4 = (⟨1, 1073741824, 0, 0, 0, 0, 1, 1099511627776⟩, true) from rfl, inSp_iff]; omega
    · rw [may_5, show spK 5 = (⟨1, 1073741824, 1, 1073741824, 1, 64, 0, 0⟩, true) from rfl, inSp_iff]; omega
    · rw [may_6, show spK 6 = (⟨1, 1073741824, 1, 1073741824, 1, 64, 0, 0⟩, true) from rfl, inSp_iff]; omega
    · rw [may_7, show spK 7 = (⟨1, 1073741824, 1, 1073741824, 1, 64, 0, 0⟩, true) from rfl, inSp_iff]; omega
    · rw [may_8, show spK 8 = (⟨1, 1073741824, 1, 1073741824, 1, 64, 0, 0⟩, true) from rfl, inSp_iff]; omega
    · rw [may_9, show spK 9 = (⟨1, 1073741824, 1, 1073741824, 1, 64, (-1073741824), 1073741824⟩, true) from rfl, inSp_iff]; omega
    · rw [may_10, show spK 10 = (⟨1, 1073741824, 1, 1073741824, 1, 64, 0, 0⟩, true) from rfl, inSp_iff]; omega
    · rw [may_11, show spK 11 = (⟨1, 1073741824, 1, 1073741824, 1, 64, 0, 0⟩, true) from rfl, inSp_iff]; omega
    · rw [may_12, show spK 12 = (⟨1, 1073741824, 1, 1073741824, 1, 64, 0, 0⟩, true) from rfl, inSp_iff]; omega
  · rw [may_no h, spK_no h]
    rfl
end Go.Proofs.YtdhlbldmdeepiaaGreatDoor
