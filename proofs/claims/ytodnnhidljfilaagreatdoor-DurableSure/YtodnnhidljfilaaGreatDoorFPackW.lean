/-
  Parts of the proof, laid together: DSpans, DCheck, DEnc. The conditions stand at each part.
-/
import Derived.Test.YtodnnhidljfilaaGreatDoorFPackC
/-
  The contracts of package cmds' spans: whether one holds a number, whether an entry may stand at a place, which spans a kind has. No condition.
-/
namespace Go.Proofs.YtodnnhidljfilaaGreatDoor
open Go.RowKit

set_option maxRecDepth 100000 in
theorem holds_any (lo hi n : Int) (w : World) :
    Calls Tryz.prog 196 #[.agg #[.int .i64 lo, .int .i64 hi], .int .i64 n] w fun e w' => e = .returned (.bool (decide (lo ≤ n) && decide (n ≤ hi))) ∧ Below w.heap.size w w' := by
  have ba := (Below.refl _ w).alloc (Nat.le_refl _) (.cells #[.int .i64 lo, .int .i64 hi] 256)
  by_cases h : lo ≤ n
  · go_enter Tryz.func196, Tryz.ntmps196
    go_wp2
    go_ret
    exact ⟨by simp [h], ba⟩
  · have e : decide (lo ≤ n) = false := by simpa using h
    rw [e, Bool.false_and]
    go_enter Tryz.func196, Tryz.ntmps196
    go_wp2
    go_ret
    exact ⟨rfl, ba⟩

/-- Where an entry may stand. -/
def placeB (A B : Int) : Bool := (decide (1 ≤ A) && decide (A ≤ 1099511627776)) && (decide (0 ≤ B) && decide (B ≤ 1099511627776))

set_option maxRecDepth 100000 in
theorem place_any (A B : Int) (w : World) :
    Calls Tryz.prog 161 #[.int .i64 A, .int .i64 B] w fun e w' => e = .returned (.bool (placeB A B)) ∧ Below w.heap.size w w' := by
  unfold placeB
  have q1 := holds_any 1 1099511627776 A
  have q2 := holds_any 0 1099511627776 B
  obtain ⟨a, ha⟩ : ∃ a, a = (decide (1 ≤ A) && decide (A ≤ 1099511627776)) := ⟨_, rfl⟩
  obtain ⟨b, hb⟩ : ∃ b, b = (decide (0 ≤ B) && decide (B ≤ 1099511627776)) := ⟨_, rfl⟩
  rw [← ha] at q1 ⊢
  rw [← hb] at q2 ⊢
  clear ha hb
  cases a with
  | false =>
    go_enter Tryz.func161, Tryz.ntmps161
    go_wp2_with (go_at_call 196; refine (q1 _).mono ?_; rintro e w1 ⟨rfl, b1⟩)
    go_ret
    exact ⟨rfl, b1⟩
  | true =>
    go_enter Tryz.func161, Tryz.ntmps161
    go_wp2_with (first
      | (go_at_call 196; have d2 := d1; refine (q2 _).mono ?_; rintro e w2 ⟨rfl, b2⟩)
      | (go_at_call 196; refine (q1 _).mono ?_; rintro e w1 ⟨rfl, b1⟩; have d1 : True := trivial))
    go_ret
    exact ⟨rfl, bmm b1 b1.size b2⟩

/-- The least and the most of a command's session, number, name's length, amount. -/
structure Sp where
  s0 : Int
  s1 : Int
  q0 : Int
  q1 : Int
  t0 : Int
  t1 : Int
  n0 : Int
  n1 : Int

/-- The spans of a kind, and whether there is such a kind. -/
def spK (K : Int) : Sp × Bool :=
  if K = 9 then (⟨1, 1073741824, 1, 1073741824, 1, 64, (-1073741824), 1073741824⟩, true) else
  if K = 5 then (⟨1, 1073741824, 1, 1073741824, 1, 64, 0, 0⟩, true) else
  if K = 6 then (⟨1, 1073741824, 1, 1073741824, 1, 64, 0, 0⟩, true) else
  if K = 7 then (⟨1, 1073741824, 1, 1073741824, 1, 64, 0, 0⟩, true) else
  if K = 8 then (⟨1, 1073741824, 1, 1073741824, 1, 64, 0, 0⟩, true) else
  if K = 10 then (⟨1, 1073741824, 1, 1073741824, 1, 64, 0, 0⟩, true) else
  if K = 11 then (⟨1, 1073741824, 1, 1073741824, 1, 64, 0, 0⟩, true) else
  if K = 12 then (⟨1, 1073741824, 1, 1073741824, 1, 64, 0, 0⟩, true) else
  if K = 3 then (⟨1, 1073741824, 1, 1073741824, 0, 0, 0, 0⟩, true) else
  if K = 2 then (⟨0, 7, 1, 1073741824, 0, 0, 0, 0⟩, true) else
  if K = 4 then (⟨1, 1073741824, 0, 0, 0, 0, 1, 1099511627776⟩, true) else
  if K = 1 then (⟨0, 0, 0, 0, 0, 0, 1, 1099511627776⟩, true) else
  if K = 0 then (⟨0, 0, 0, 0, 0, 0, 0, 0⟩, true) else
  (⟨0, 0, 0, 0, 0, 0, 0, 0⟩, false)

set_option maxHeartbeats 3200000 in
set_option maxRecDepth 100000 in
theorem spans_0 (w : World) :
    Calls Tryz.prog 218 #[.int .i64 0] w fun e w' => e = .returned (.tuple #[.agg #[.int .i64 0, .int .i64 0, .int .i64 0, .int .i64 0, .int .i64 0, .int .i64 0, .int .i64 0, .int .i64 0], .bool true]) ∧ Below w.heap.size w w' := by
  go_enter Tryz.func218, Tryz.ntmps218
  go_wp2
  refine bodyPost_ret (v := .tuple #[.agg #[.int .i64 0, .int .i64 0, .int .i64 0, .int .i64 0, .int .i64 0, .int .i64 0, .int .i64 0, .int .i64 0], .bool true]) (by simp [results, Tryz.results218, go_sem]) rfl ⟨rfl, ((Below.refl _ w).alloc (Nat.le_refl _) _).alloc (by simp) _⟩

set_option maxHeartbeats 3200000 in
set_option maxRecDepth 100000 in
theorem spans_1 (w : World) :
    Calls Tryz.prog 218 #[.int .i64 1] w fun e w' => e = .returned (.tuple #[.agg #[.int .i64 0, .int .i64 0, .int .i64 0, .int .i64 0, .int .i64 0, .int .i64 0, .int .i64 1, .int .i64 1099511627776], .bool true]) ∧ Below w.heap.size w w' := by
  go_enter Tryz.func218, Tryz.ntmps218
  go_wp2
  refine bodyPost_ret (v := .tuple #[.agg #[.int .i64 0, .int .i64 0, .int .i64 0, .int .i64 0, .int .i64 0, .int .i64 0, .int .i64 1, .int .i64 1099511627776], .bool true]) (by simp [results, Tryz.results218, go_sem]) rfl ⟨rfl, ((Below.refl _ w).alloc (Nat.le_refl _) _).alloc (by simp) _⟩

set_option maxHeartbeats 3200000 in
set_option maxRecDepth 100000 in
theorem spans_2 (w : World) :
    Calls Tryz.prog 218 #[.int .i64 2] w fun e w' => e = .returned (.tuple #[.agg #[.int .i64 0, .int .i64 7, .int .i64 1, .int .i64 1073741824, .int .i64 0, .int .i64 0, .int .i64 0, .int .i64 0], .bool true]) ∧ Below w.heap.size w w' := by
  go_enter Tryz.func218, Tryz.ntmps218
  go_wp2
  refine bodyPost_ret (v := .tuple #[.agg #[.int .i64 0, .int .i64 7, .int .i64 1, .int .i64 1073741824, .int .i64 0, .int .i64 0, .int .i64 0, .int .i64 0], .bool true]) (by simp [results, Tryz.results218, go_sem]) rfl ⟨rfl, ((Below.refl _ w).alloc (Nat.le_refl _) _).alloc (by simp) _⟩

set_option maxHeartbeats 3200000 in
set_option maxRecDepth 100000 in
theorem spans_3 (w : World) :
    Calls Tryz.prog 218 #[.int .i64 3] w fun e w' => e = .returned (.tuple #[.agg #[.int .i64 1, .int .i64 1073741824, .int .i64 1, .int .i64 1073741824, .int .i64 0, .int .i64 0, .int .i64 0, .int .i64 0], .bool true]) ∧ Below w.heap.size w w' := by
  go_enter Tryz.func218, Tryz.ntmps218
  go_wp2
  refine bodyPost_ret (v := .tuple #[.agg #[.int .i64 1, .int .i64 1073741824, .int .i64 1, .int .i64 1073741824, .int .i64 0, .int .i64 0, .int .i64 0, .int .i64 0], .bool true]) (by simp [results, Tryz.results218, go_sem]) rfl ⟨rfl, ((Below.refl _ w).alloc (Nat.le_refl _) _).alloc (by simp) _⟩

set_option maxHeartbeats 3200000 in
set_option maxRecDepth 100000 in
theorem spans_4 (w : World) :
    Calls Tryz.prog 218 #[.int .i64 4] w fun e w' => e = .returned (.tuple #[.agg #[.int .i64 1, .int .i64 1073741824, .int .i64 0, .int .i64 0, .int .i64 0, .int .i64 0, .int .i64 1, .int .i64 1099511627776], .bool true]) ∧ Below w.heap.size w w' := by
  go_enter Tryz.func218, Tryz.ntmps218
  go_wp2
  refine bodyPost_ret (v := .tuple #[.agg #[.int .i64 1, .int .i64 1073741824, .int .i64 0, .int .i64 0, .int .i64 0, .int .i64 0, .int .i64 1, .int .i64 1099511627776], .bool true]) (by simp [results, Tryz.results218, go_sem]) rfl ⟨rfl, ((Below.refl _ w).alloc (Nat.le_refl _) _).alloc (by simp) _⟩

set_option maxHeartbeats 3200000 in
set_option maxRecDepth 100000 in
theorem spans_5 (w : World) :
    Calls Tryz.prog 218 #[.int .i64 5] w fun e w' => e = .returned (.tuple #[.agg #[.int .i64 1, .int .i64 1073741824, .int .i64 1, .int .i64 1073741824, .int .i64 1, .int .i64 64, .int .i64 0, .int .i64 0], .bool true]) ∧ Below w.heap.size w w' := by
  go_enter Tryz.func218, Tryz.ntmps218
  go_wp2
  refine bodyPost_ret (v := .tuple #[.agg #[.int .i64 1, .int .i64 1073741824, .int .i64 1, .int .i64 1073741824, .int .i64 1, .int .i64 64, .int .i64 0, .int .i64 0], .bool true]) (by simp [results, Tryz.results218, go_sem]) rfl ⟨rfl, ((Below.refl _ w).alloc (Nat.le_refl _) _).alloc (by simp) _⟩

set_option maxHeartbeats 3200000 in
set_option maxRecDepth 100000 in
theorem spans_6 (w : World) :
    Calls Tryz.prog 218 #[.int .i64 6] w fun e w' => e = .returned (.tuple #[.agg #[.int .i64 1, .int .i64 1073741824, .int .i64 1, .int .i64 1073741824, .int .i64 1, .int .i64 64, .int .i64 0, .int .i64 0], .bool true]) ∧ Below w.heap.size w w' := by
  go_enter Tryz.func218, Tryz.ntmps218
  go_wp2
  refine bodyPost_ret (v := .tuple #[.agg #[.int .i64 1, .int .i64 1073741824, .int .i64 1, .int .i64 1073741824, .int .i64 1, .int .i64 64, .int .i64 0, .int .i64 0], .bool true]) (by simp [results, Tryz.results218, go_sem]) rfl ⟨rfl, ((Below.refl _ w).alloc (Nat.le_refl _) _).alloc (by simp) _⟩

set_option maxHeartbeats 3200000 in
set_option maxRecDepth 100000 in
theorem spans_7 (w : World) :
    Calls Tryz.prog 218 #[.int .i64 7] w fun e w' => e = .returned (.tuple #[.agg #[.int .i64 1, .int .i64 1073741824, .int .i64 1, .int .i64 1073741824, .int .i64 1, .int .i64 64, .int .i64 0, .int .i64 0], .bool true]) ∧ Below w.heap.size w w' := by
  go_enter Tryz.func218, Tryz.ntmps218
  go_wp2
  refine bodyPost_ret (v := .tuple #[.agg #[.int .i64 1, .int .i64 1073741824, .int .i64 1, .int .i64 1073741824, .int .i64 1, .int .i64 64, .int .i64 0, .int .i64 0], .bool true]) (by simp [results, Tryz.results218, go_sem]) rfl ⟨rfl, ((Below.refl _ w).alloc (Nat.le_refl _) _).alloc (by simp) _⟩

set_option maxHeartbeats 3200000 in
set_option maxRecDepth 100000 in
theorem spans_8 (w : World) :
    Calls Tryz.prog 218 #[.int .i64 8] w fun e w' => e = .returned (.tuple #[.agg #[.int .i64 1, .int .i64 1073741824, .int .i64 1, .int .i64 1073741824, .int .i64 1, .int .i64 64, .int .i64 0, .int .i64 0], .bool true]) ∧ Below w.heap.size w w' := by
  go_enter Tryz.func218, Tryz.ntmps218
  go_wp2
  refine bodyPost_ret (v := .tuple #[.agg #[.int .i64 1, .int .i64 1073741824, .int .i64 1, .int .i64 1073741824, .int .i64 1, .int .i64 64, .int .i64 0, .int .i64 0], .bool true]) (by simp [results, Tryz.results218, go_sem]) rfl ⟨rfl, ((Below.refl _ w).alloc (Nat.le_refl _) _).alloc (by simp) _⟩

set_option maxHeartbeats 3200000 in
set_option maxRecDepth 100000 in
theorem spans_9 (w : World) :
    Calls Tryz.prog 218 #[.int .i64 9] w fun e w' => e = .returned (.tuple #[.agg #[.int .i64 1, .int .i64 1073741824, .int .i64 1, .int .i64 1073741824, .int .i64 1, .int .i64 64, .int .i64 (-1073741824), .int .i64 1073741824], .bool true]) ∧ Below w.heap.size w w' := by
  go_enter Tryz.func218, Tryz.ntmps218
  go_wp2
  refine bodyPost_ret (v := .tuple #[.agg #[.int .i64 1, .int .i64 1073741824, .int .i64 1, .int .i64 1073741824, .int .i64 1, .int .i64 64, .int .i64 (-1073741824), .int .i64 1073741824], .bool true]) (by simp [results, Tryz.results218, go_sem]) rfl ⟨rfl, ((Below.refl _ w).alloc (Nat.le_refl _) _).alloc (by simp) _⟩

set_option maxHeartbeats 3200000 in
set_option maxRecDepth 100000 in
theorem spans_10 (w : World) :
    Calls Tryz.prog 218 #[.int .i64 10] w fun e w' => e = .returned (.tuple #[.agg #[.int .i64 1, .int .i64 1073741824, .int .i64 1, .int .i64 1073741824, .int .i64 1, .int .i64 64, .int .i64 0, .int .i64 0], .bool true]) ∧ Below w.heap.size w w' := by
  go_enter Tryz.func218, Tryz.ntmps218
  go_wp2
  refine bodyPost_ret (v := .tuple #[.agg #[.int .i64 1, .int .i64 1073741824, .int .i64 1, .int .i64 1073741824, .int .i64 1, .int .i64 64, .int .i64 0, .int .i64 0], .bool true]) (by simp [results, Tryz.results218, go_sem]) rfl ⟨rfl, ((Below.refl _ w).alloc (Nat.le_refl _) _).alloc (by simp) _⟩

set_option maxHeartbeats 3200000 in
set_option maxRecDepth 100000 in
theorem spans_11 (w : World) :
    Calls Tryz.prog 218 #[.int .i64 11] w fun e w' => e = .returned (.tuple #[.agg #[.int .i64 1, .int .i64 1073741824, .int .i64 1, .int .i64 1073741824, .int .i64 1, .int .i64 64, .int .i64 0, .int .i64 0], .bool true]) ∧ Below w.heap.size w w' := by
  go_enter Tryz.func218, Tryz.ntmps218
  go_wp2
  refine bodyPost_ret (v := .tuple #[.agg #[.int .i64 1, .int .i64 1073741824, .int .i64 1, .int .i64 1073741824, .int .i64 1, .int .i64 64, .int .i64 0, .int .i64 0], .bool true]) (by simp [results, Tryz.results218, go_sem]) rfl ⟨rfl, ((Below.refl _ w).alloc (Nat.le_refl _) _).alloc (by simp) _⟩

set_option maxHeartbeats 3200000 in
set_option maxRecDepth 100000 in
theorem spans_12 (w : World) :
    Calls Tryz.prog 218 #[.int .i64 12] w fun e w' => e = .returned (.tuple #[.agg #[.int .i64 1, .int .i64 1073741824, .int .i64 1, .int .i64 1073741824, .int .i64 1, .int .i64 64, .int .i64 0, .int .i64 0], .bool true]) ∧ Below w.heap.size w w' := by
  go_enter Tryz.func218, Tryz.ntmps218
  go_wp2
  refine bodyPost_ret (v := .tuple #[.agg #[.int .i64 1, .int .i64 1073741824, .int .i64 1, .int .i64 1073741824, .int .i64 1, .int .i64 64, .int .i64 0, .int .i64 0], .bool true]) (by simp [results, Tryz.results218, go_sem]) rfl ⟨rfl, ((Below.refl _ w).alloc (Nat.le_refl _) _).alloc (by simp) _⟩

set_option maxHeartbeats 3200000 in
set_option maxRecDepth 100000 in
theorem spans_no (K : Int) (h : ¬ (0 ≤ K ∧ K ≤ 12)) (w : World) :
    Calls Tryz.prog 218 #[.int .i64 K] w fun e w' => e = .returned (.tuple #[.agg #[.int .i64 0, .int .i64 0, .int .i64 0, .int .i64 0, .int .i64 0, .int .i64 0, .int .i64 0, .int .i64 0], .bool false]) ∧ Below w.heap.size w w' := by
  have h9 : (K == 9) = false := by simp; omega
  have h5 : (K == 5) = false := by simp; omega
  have h6 : (K == 6) = false := by simp; omega
  have h7 : (K == 7) = false := by simp; omega
  have h8 : (K == 8) = false := by simp; omega
  have h10 : (K == 10) = false := by simp; omega
  have h11 : (K == 11) = false := by simp; omega
  have h12 : (K == 12) = false := by simp; omega
  have h3 : (K == 3) = false := by simp; omega
  have h2 : (K == 2) = false := by simp; omega
  have h4 : (K == 4) = false := by simp; omega
  have h1 : (K == 1) = false := by simp; omega
  have h0 : (K == 0) = false := by simp; omega
  clear h
  go_enter Tryz.func218, Tryz.ntmps218
  go_wp2
  refine bodyPost_ret (v := .tuple #[.agg #[.int .i64 0, .int .i64 0, .int .i64 0, .int .i64 0, .int .i64 0, .int .i64 0, .int .i64 0, .int .i64 0], .bool false]) (by simp [results, Tryz.results218, go_sem]) rfl ⟨rfl, ((Below.refl _ w).alloc (Nat.le_refl _) _).alloc (by simp) _⟩

theorem kind_each (K : Int) : (K = 0 ∨ K = 1 ∨ K = 2 ∨ K = 3 ∨ K = 4 ∨ K = 5 ∨ K = 6 ∨ K = 7 ∨ K = 8 ∨ K = 9 ∨ K = 10 ∨ K = 11 ∨ K = 12) ∨ ¬ (0 ≤ K ∧ K ≤ 12) := by omega

theorem spK_no {K : Int} (h : ¬ (0 ≤ K ∧ K ≤ 12)) : spK K = (⟨0, 0, 0, 0, 0, 0, 0, 0⟩, false) := by
  unfold spK
  iterate 13 rw [if_neg (by omega)]

theorem spans_any (K : Int) (w : World) :
    Calls Tryz.prog 218 #[.int .i64 K] w fun e w' => e = .returned (.tuple #[.agg #[.int .i64 (spK K).1.s0, .int .i64 (spK K).1.s1, .int .i64 (spK K).1.q0, .int .i64 (spK K).1.q1, .int .i64 (spK K).1.t0, .int .i64 (spK K).1.t1, .int .i64 (spK K).1.n0, .int .i64 (spK K).1.n1], .bool (spK K).2]) ∧ Below w.heap.size w w' := by
  rcases kind_each K with h | h
  · rcases h with rfl | rfl | rfl | rfl | rfl | rfl | rfl | rfl | rfl | rfl | rfl | rfl | rfl
    · exact spans_0 w
    · exact spans_1 w
    · exact spans_2 w
    · exact spans_3 w
    · exact spans_4 w
    · exact spans_5 w
    · exact spans_6 w
    · exact spans_7 w
    · exact spans_8 w
    · exact spans_9 w
    · exact spans_10 w
    · exact spans_11 w
    · exact spans_12 w
  · rw [spK_no h]
    exact spans_no K h w

/-- Which may be, by the spans. -/
def inSp (x : Sp × Bool) (S Q t N : Int) : Bool := x.2 && ((decide (x.1.s0 ≤ S) && decide (S ≤ x.1.s1)) && ((decide (x.1.q0 ≤ Q) && decide (Q ≤ x.1.q1)) && ((decide (x.1.t0 ≤ t) && decide (t ≤ x.1.t1)) && (decide (x.1.n0 ≤ N) && decide (N ≤ x.1.n1)))))

theorem may_no {K : Int} (h : ¬ (0 ≤ K ∧ K ≤ 12)) (S Q N : Int) (T : ByteArray) : mayB ⟨K, S, Q, T, N⟩ = false := by
  cases hb : mayB ⟨K, S, Q, T, N⟩ with
  | false => rfl
  | true => exact absurd (may_small hb).1 h

theorem inSp_iff (a b c d e f g h S Q t N : Int) : inSp (⟨a, b, c, d, e, f, g, h⟩, true) S Q t N = true ↔ (a ≤ S ∧ S ≤ b) ∧ (c ≤ Q ∧ Q ≤ d) ∧ (e ≤ t ∧ t ≤ f) ∧ (g ≤ N ∧ N ≤ h) := by
  unfold inSp
  simp only [Bool.true_and, Bool.and_eq_true, decide_eq_true_eq]

theorem may_spans (K S Q N : Int) (T : ByteArray) : mayB ⟨K, S, Q, T, N⟩ = inSp (spK K) S Q (T.size : Int) N := by
  rcases kind_each K with h | h
  · rw [Bool.eq_iff_iff]
    rcases h with rfl | rfl | rfl | rfl | rfl | rfl | rfl | rfl | rfl | rfl | rfl | rfl | rfl
    · rw [may_0, show spK 0 = (⟨0, 0, 0, 0, 0, 0, 0, 0⟩, true) from rfl, inSp_iff]; omega
    · rw [may_1, show spK 1 = (⟨0, 0, 0, 0, 0, 0, 1, 1099511627776⟩, true) from rfl, inSp_iff]; omega
    · rw [may_2, show spK 2 = (⟨0, 7, 1, 1073741824, 0, 0, 0, 0⟩, true) from rfl, inSp_iff]; omega
    · rw [may_3, show spK 3 = (⟨1, 1073741824, 1, 1073741824, 0, 0, 0, 0⟩, true) from rfl, inSp_iff]; omega
    · rw [may_4, show spK 4 = (⟨1, 1073741824, 0, 0, 0, 0, 1, 1099511627776⟩, true) from rfl, inSp_iff]; omega
    · rw [may_5, show spK 5 = (⟨1, 1073741824, 1, 1073741824, 1, 64, 0, 0⟩, true) from rfl, inSp_iff]; omega
    · rw [may_6, show spK 6 = (⟨1, 1073741824, 1, 1073741824, 1, 64, 0, 0⟩, true) from rfl, inSp_iff]; omega
    · rw [may_7, show spK 7 = (⟨1, 1073741824, 1, 1073741824, 1, 64, 0, 0⟩, true) from rfl, inSp_iff]; omega
    · rw [may_8, show spK 8 = (⟨1, 1073741824, 1, 1073741824, 1, 64, 0, 0⟩, true) from rfl, inSp_iff]; omega
    · rw [may_9, show spK 9 = (⟨1, 1073741824, 1, 1073741824, 1, 64, (-1073741824), 1073741824⟩, true) from rfl, inSp_iff]; omega
    · rw [may_10, show spK 10 = (⟨1, 1073741824, 1, 1073741824, 1, 64, 0, 0⟩, true) from rfl, inSp_iff]; omega
    · rw [may_11, show spK 11 = (⟨1, 1073741824, 1, 1073741824, 1, 64, 0, 0⟩, true) from rfl, inSp_iff]; omega
    · rw [may_12, show spK 12 = (⟨1, 1073741824, 1, 1073741824, 1, 64, 0, 0⟩, true) from rfl, inSp_iff]; omega
  · rw [may_no h, spK_no h]
    rfl
end Go.Proofs.YtodnnhidljfilaaGreatDoor
/-
  The contract of package cmds' Check: for every command, whether it may be, and nothing that was there has turned. No condition.
-/
namespace Go.Proofs.YtodnnhidljfilaaGreatDoor
open Go.RowKit

/-- Four numbers laid in block B. -/
structure Vals (w : World) (B : Nat) (a b c d : Int) : Prop where
  lt : B < w.heap.size
  c0 : w.cell? ⟨B, 0, none⟩ = some (.int .i64 a)
  c1 : w.cell? ⟨B, 1, none⟩ = some (.int .i64 b)
  c2 : w.cell? ⟨B, 2, none⟩ = some (.int .i64 c)
  c3 : w.cell? ⟨B, 3, none⟩ = some (.int .i64 d)
theorem Vals.below {w w' : World} {B : Nat} {a b c d : Int} (h : Vals w B a b c d) (k : Below w.heap.size w w') : Vals w' B a b c d :=
  ⟨Nat.lt_of_lt_of_le h.lt k.size, (k.cell (by exact h.lt)).trans h.c0, (k.cell (by exact h.lt)).trans h.c1, (k.cell (by exact h.lt)).trans h.c2, (k.cell (by exact h.lt)).trans h.c3⟩
theorem Vals.alloc {w : World} {B : Nat} {a b c d : Int} (h : Vals w B a b c d) (o : Obj) : Vals (w.alloc o) B a b c d := h.below ((Below.refl _ w).alloc (Nat.le_refl _) _)
theorem Vals.fresh (w : World) (a b c d : Int) {B : Nat} (hB : B = w.heap.size) : Vals (w.alloc (.cells #[.int .i64 a, .int .i64 b, .int .i64 c, .int .i64 d] 282)) B a b c d := by
  subst hB
  exact ⟨by simp, by simp, by simp, by simp, by simp⟩

set_option maxHeartbeats 3200000 in
set_option maxRecDepth 100000 in
theorem check_no0 (K S Q N : Int) (T : ByteArray) (x0 x1 x2 x3 x4 x5 x6 x7 : Int)
    (hsp : ∀ w, Calls Tryz.prog 218 #[.int .i64 K] w fun e w' => e = .returned (.tuple #[.agg #[.int .i64 x0, .int .i64 x1, .int .i64 x2, .int .i64 x3, .int .i64 x4, .int .i64 x5, .int .i64 x6, .int .i64 x7], .bool true]) ∧ Below w.heap.size w w')
    (q0 : ∀ w, Calls Tryz.prog 196 #[.agg #[.int .i64 x0, .int .i64 x1], .int .i64 S] w fun e w' => e = .returned (.bool false) ∧ Below w.heap.size w w')
    (w : World) :
    Calls Tryz.prog 195 #[.agg #[.int .i64 K, .int .i64 S, .int .i64 Q, .string T, .int .i64 N]] w fun e w' => e = .returned (.int .i64 1) ∧ Below w.heap.size w w' := by
  have ba : Below w.heap.size w (w.alloc (.cells #[.int .i64 K, .int .i64 S, .int .i64 Q, .string T, .int .i64 N] 64)) := (Below.refl _ w).alloc (Nat.le_refl _) _
  have y0 : Box (w.alloc (.cells #[.int .i64 K, .int .i64 S, .int .i64 Q, .string T, .int .i64 N] 64)) w.heap.size 0 K S Q T N := ⟨by simp, by simp, by simp, by simp, by simp, by simp⟩
  have i0 : ∀ w : World, (Instr.index 279 (.agg #[.int .i64 x0, .int .i64 x1, .int .i64 x2, .int .i64 x3, .int .i64 x4, .int .i64 x5, .int .i64 x6, .int .i64 x7]) (.int .i64 0)).run Tryz.prog w = .ok (.agg #[.int .i64 x0, .int .i64 x1]) w := fun _ => by kernel_rfl
  go_enter Tryz.func195, Tryz.ntmps195
  go_wp2_with (go_at_call 218; refine (hsp _).mono ?_; rintro e w1 ⟨rfl, b1⟩; have y1 := y0.below b1; have l1 := y1.lt; have g1 := y1.c1; have g2 := y1.c2; have g3 := y1.c3; have g4 := y1.c4; simp only [Nat.zero_add] at g1 g2 g3 g4)
  have f1 := bmm ba ba.size b1
  have f2 := f1.alloc f1.size (.cells #[.int .i64 x0, .int .i64 x1, .int .i64 x2, .int .i64 x3, .int .i64 x4, .int .i64 x5, .int .i64 x6, .int .i64 x7] 279)
  have h0 := f2.alloc f2.size (.cells #[.int .i64 S, .int .i64 Q, .int .i64 (T.size : Int), .int .i64 N] 282)
  have v0 := Vals.fresh (w1.alloc (.cells #[.int .i64 x0, .int .i64 x1, .int .i64 x2, .int .i64 x3, .int .i64 x4, .int .i64 x5, .int .i64 x6, .int .i64 x7] 279)) S Q (T.size : Int) N (B := w1.heap.size + 1) (by simp)
  obtain ⟨u0, hu⟩ : ∃ u, u = (w1.alloc (.cells #[.int .i64 x0, .int .i64 x1, .int .i64 x2, .int .i64 x3, .int .i64 x4, .int .i64 x5, .int .i64 x6, .int .i64 x7] 279)).alloc (.cells #[.int .i64 S, .int .i64 Q, .int .i64 (T.size : Int), .int .i64 N] 282) := ⟨_, rfl⟩
  rw [← hu] at h0 v0 ⊢
  clear hu b1 y0 y1 g1 g2 g3 g4 f1 f2 ba
  have lt0 := v0.lt
  refine wp_loop_rounds 1 ?_
  have k0 := (v0.alloc (.cells #[.int .i64 x0, .int .i64 x1] 256)).c0
  have s0 : (u0.alloc (.cells #[.int .i64 x0, .int .i64 x1] 256)).cell? ⟨u0.heap.size, 0, none⟩ = some (.int .i64 x0) := by simp
  have t0 : (u0.alloc (.cells #[.int .i64 x0, .int .i64 x1] 256)).cell? ⟨u0.heap.size, 1, none⟩ = some (.int .i64 x1) := by simp
  rw [rounds_succ]
  go_wp2
  go_region_held3 (fun w' => w'.cell? ⟨u0.heap.size, 0, none⟩ = some (.int .i64 x0) ∧ w'.cell? ⟨u0.heap.size, 1, none⟩ = some (.int .i64 x1) ∧ w'.cell? ⟨w1.heap.size + 1, 0, none⟩ = some (.int .i64 S)) (go_keep)
    (first | (go_at_call 196; refine (q0 _).mono ?_; rintro e u1 ⟨rfl, b'⟩; have b := undrew b'; have z1 := (b.cell (p := ⟨u0.heap.size, 0, none⟩) (by simp)).trans s0; have z2 := (b.cell (p := ⟨u0.heap.size, 1, none⟩) (by simp)).trans t0; have v1 := (v0.alloc (.cells #[.int .i64 x0, .int .i64 x1] 256)).below b; have lt1 := v1.lt; have z3 := v1.c0; have p := h0.alloc h0.size (.cells #[.int .i64 x0, .int .i64 x1] 256); have h1 := bmm p p.size b))
  clear k0 s0 t0 z1 z2 z3 b b' p h0 v0 lt0
  go_wp2
  go_ret
  exact ⟨rfl, h1⟩

set_option maxHeartbeats 3200000 in
set_option maxRecDepth 100000 in
theorem check_no1 (K S Q N : Int) (T : ByteArray) (x0 x1 x2 x3 x4 x5 x6 x7 : Int)
    (hsp : ∀ w, Calls Tryz.prog 218 #[.int .i64 K] w fun e w' => e = .returned (.tuple #[.agg #[.int .i64 x0, .int .i64 x1, .int .i64 x2, .int .i64 x3, .int .i64 x4, .int .i64 x5, .int .i64 x6, .int .i64 x7], .bool true]) ∧ Below w.heap.size w w')
    (q0 : ∀ w, Calls Tryz.prog 196 #[.agg #[.int .i64 x0, .int .i64 x1], .int .i64 S] w fun e w' => e = .returned (.bool true) ∧ Below w.heap.size w w')
    (q1 : ∀ w, Calls Tryz.prog 196 #[.agg #[.int .i64 x2, .int .i64 x3], .int .i64 Q] w fun e w' => e = .returned (.bool false) ∧ Below w.heap.size w w')
    (w : World) :
    Calls Tryz.prog 195 #[.agg #[.int .i64 K, .int .i64 S, .int .i64 Q, .string T, .int .i64 N]] w fun e w' => e = .returned (.int .i64 1) ∧ Below w.heap.size w w' := by
  have ba : Below w.heap.size w (w.alloc (.cells #[.int .i64 K, .int .i64 S, .int .i64 Q, .string T, .int .i64 N] 64)) := (Below.refl _ w).alloc (Nat.le_refl _) _
  have y0 : Box (w.alloc (.cells #[.int .i64 K, .int .i64 S, .int .i64 Q, .string T, .int .i64 N] 64)) w.heap.size 0 K S Q T N := ⟨by simp, by simp, by simp, by simp, by simp, by simp⟩
  have i0 : ∀ w : World, (Instr.index 279 (.agg #[.int .i64 x0, .int .i64 x1, .int .i64 x2, .int .i64 x3, .int .i64 x4, .int .i64 x5, .int .i64 x6, .int .i64 x7]) (.int .i64 0)).run Tryz.prog w = .ok (.agg #[.int .i64 x0, .int .i64 x1]) w := fun _ => by kernel_rfl
  have i1 : ∀ w : World, (Instr.index 279 (.agg #[.int .i64 x0, .int .i64 x1, .int .i64 x2, .int .i64 x3, .int .i64 x4, .int .i64 x5, .int .i64 x6, .int .i64 x7]) (.int .i64 1)).run Tryz.prog w = .ok (.agg #[.int .i64 x2, .int .i64 x3]) w := fun _ => by kernel_rfl
  go_enter Tryz.func195, Tryz.ntmps195
  go_wp2_with (go_at_call 218; refine (hsp _).mono ?_; rintro e w1 ⟨rfl, b1⟩; have y1 := y0.below b1; have l1 := y1.lt; have g1 := y1.c1; have g2 := y1.c2; have g3 := y1.c3; have g4 := y1.c4; simp only [Nat.zero_add] at g1 g2 g3 g4)
  have f1 := bmm ba ba.size b1
  have f2 := f1.alloc f1.size (.cells #[.int .i64 x0, .int .i64 x1, .int .i64 x2, .int .i64 x3, .int .i64 x4, .int .i64 x5, .int .i64 x6, .int .i64 x7] 279)
  have h0 := f2.alloc f2.size (.cells #[.int .i64 S, .int .i64 Q, .int .i64 (T.size : Int), .int .i64 N] 282)
  have v0 := Vals.fresh (w1.alloc (.cells #[.int .i64 x0, .int .i64 x1, .int .i64 x2, .int .i64 x3, .int .i64 x4, .int .i64 x5, .int .i64 x6, .int .i64 x7] 279)) S Q (T.size : Int) N (B := w1.heap.size + 1) (by simp)
  obtain ⟨u0, hu⟩ : ∃ u, u = (w1.alloc (.cells #[.int .i64 x0, .int .i64 x1, .int .i64 x2, .int .i64 x3, .int .i64 x4, .int .i64 x5, .int .i64 x6, .int .i64 x7] 279)).alloc (.cells #[.int .i64 S, .int .i64 Q, .int .i64 (T.size : Int), .int .i64 N] 282) := ⟨_, rfl⟩
  rw [← hu] at h0 v0 ⊢
  clear hu b1 y0 y1 g1 g2 g3 g4 f1 f2 ba
  have lt0 := v0.lt
  refine wp_loop_rounds 2 ?_
  have k0 := (v0.alloc (.cells #[.int .i64 x0, .int .i64 x1] 256)).c0
  have s0 : (u0.alloc (.cells #[.int .i64 x0, .int .i64 x1] 256)).cell? ⟨u0.heap.size, 0, none⟩ = some (.int .i64 x0) := by simp
  have t0 : (u0.alloc (.cells #[.int .i64 x0, .int .i64 x1] 256)).cell? ⟨u0.heap.size, 1, none⟩ = some (.int .i64 x1) := by simp
  rw [rounds_succ]
  go_wp2
  go_region_held3 (fun w' => w'.cell? ⟨u0.heap.size, 0, none⟩ = some (.int .i64 x0) ∧ w'.cell? ⟨u0.heap.size, 1, none⟩ = some (.int .i64 x1) ∧ w'.cell? ⟨w1.heap.size + 1, 0, none⟩ = some (.int .i64 S)) (go_keep)
    (first | (go_at_call 196; refine (q0 _).mono ?_; rintro e u1 ⟨rfl, b'⟩; have b := undrew b'; have z1 := (b.cell (p := ⟨u0.heap.size, 0, none⟩) (by simp)).trans s0; have z2 := (b.cell (p := ⟨u0.heap.size, 1, none⟩) (by simp)).trans t0; have v1 := (v0.alloc (.cells #[.int .i64 x0, .int .i64 x1] 256)).below b; have lt1 := v1.lt; have z3 := v1.c0; have p := h0.alloc h0.size (.cells #[.int .i64 x0, .int .i64 x1] 256); have h1 := bmm p p.size b))
  clear k0 s0 t0 z1 z2 z3 b b' p h0 v0 lt0
  go_wp2
  have k1 := (v1.alloc (.cells #[.int .i64 x2, .int .i64 x3] 256)).c1
  have s1 : (u1.alloc (.cells #[.int .i64 x2, .int .i64 x3] 256)).cell? ⟨u1.heap.size, 0, none⟩ = some (.int .i64 x2) := by simp
  have t1 : (u1.alloc (.cells #[.int .i64 x2, .int .i64 x3] 256)).cell? ⟨u1.heap.size, 1, none⟩ = some (.int .i64 x3) := by simp
  rw [rounds_succ]
  go_wp2
  go_region_held3 (fun w' => w'.cell? ⟨u1.heap.size, 0, none⟩ = some (.int .i64 x2) ∧ w'.cell? ⟨u1.heap.size, 1, none⟩ = some (.int .i64 x3) ∧ w'.cell? ⟨w1.heap.size + 1, 1, none⟩ = some (.int .i64 Q)) (go_keep)
    (first | (go_at_call 196; refine (q1 _).mono ?_; rintro e u2 ⟨rfl, b'⟩; have b := undrew b'; have z1 := (b.cell (p := ⟨u1.heap.size, 0, none⟩) (by simp)).trans s1; have z2 := (b.cell (p := ⟨u1.heap.size, 1, none⟩) (by simp)).trans t1; have v2 := (v1.alloc (.cells #[.int .i64 x2, .int .i64 x3] 256)).below b; have lt2 := v2.lt; have z3 := v2.c1; have p := h1.alloc h1.size (.cells #[.int .i64 x2, .int .i64 x3] 256); have h2 := bmm p p.size b))
  clear k1 s1 t1 z1 z2 z3 b b' p h1 v1 lt1
  go_wp2
  go_ret
  exact ⟨rfl, h2⟩

set_option maxHeartbeats 3200000 in
set_option maxRecDepth 100000 in
theorem check_no2 (K S Q N : Int) (T : ByteArray) (x0 x1 x2 x3 x4 x5 x6 x7 : Int)
    (hsp : ∀ w, Calls Tryz.prog 218 #[.int .i64 K] w fun e w' => e = .returned (.tuple #[.agg #[.int .i64 x0, .int .i64 x1, .int .i64 x2, .int .i64 x3, .int .i64 x4, .int .i64 x5, .int .i64 x6, .int .i64 x7], .bool true]) ∧ Below w.heap.size w w')
    (q0 : ∀ w, Calls Tryz.prog 196 #[.agg #[.int .i64 x0, .int .i64 x1], .int .i64 S] w fun e w' => e = .returned (.bool true) ∧ Below w.heap.size w w')
    (q1 : ∀ w, Calls Tryz.prog 196 #[.agg #[.int .i64 x2, .int .i64 x3], .int .i64 Q] w fun e w' => e = .returned (.bool true) ∧ Below w.heap.size w w')
    (q2 : ∀ w, Calls Tryz.prog 196 #[.agg #[.int .i64 x4, .int .i64 x5], .int .i64 (T.size : Int)] w fun e w' => e = .returned (.bool false) ∧ Below w.heap.size w w')
    (w : World) :
    Calls Tryz.prog 195 #[.agg #[.int .i64 K, .int .i64 S, .int .i64 Q, .string T, .int .i64 N]] w fun e w' => e = .returned (.int .i64 1) ∧ Below w.heap.size w w' := by
  have ba : Below w.heap.size w (w.alloc (.cells #[.int .i64 K, .int .i64 S, .int .i64 Q, .string T, .int .i64 N] 64)) := (Below.refl _ w).alloc (Nat.le_refl _) _
  have y0 : Box (w.alloc (.cells #[.int .i64 K, .int .i64 S, .int .i64 Q, .string T, .int .i64 N] 64)) w.heap.size 0 K S Q T N := ⟨by simp, by simp, by simp, by simp, by simp, by simp⟩
  have i0 : ∀ w : World, (Instr.index 279 (.agg #[.int .i64 x0, .int .i64 x1, .int .i64 x2, .int .i64 x3, .int .i64 x4, .int .i64 x5, .int .i64 x6, .int .i64 x7]) (.int .i64 0)).run Tryz.prog w = .ok (.agg #[.int .i64 x0, .int .i64 x1]) w := fun _ => by kernel_rfl
  have i1 : ∀ w : World, (Instr.index 279 (.agg #[.int .i64 x0, .int .i64 x1, .int .i64 x2, .int .i64 x3, .int .i64 x4, .int .i64 x5, .int .i64 x6, .int .i64 x7]) (.int .i64 1)).run Tryz.prog w = .ok (.agg #[.int .i64 x2, .int .i64 x3]) w := fun _ => by kernel_rfl
  have i2 : ∀ w : World, (Instr.index 279 (.agg #[.int .i64 x0, .int .i64 x1, .int .i64 x2, .int .i64 x3, .int .i64 x4, .int .i64 x5, .int .i64 x6, .int .i64 x7]) (.int .i64 2)).run Tryz.prog w = .ok (.agg #[.int .i64 x4, .int .i64 x5]) w := fun _ => by kernel_rfl
  go_enter Tryz.func195, Tryz.ntmps195
  go_wp2_with (go_at_call 218; refine (hsp _).mono ?_; rintro e w1 ⟨rfl, b1⟩; have y1 := y0.below b1; have l1 := y1.lt; have g1 := y1.c1; have g2 := y1.c2; have g3 := y1.c3; have g4 := y1.c4; simp only [Nat.zero_add] at g1 g2 g3 g4)
  have f1 := bmm ba ba.size b1
  have f2 := f1.alloc f1.size (.cells #[.int .i64 x0, .int .i64 x1, .int .i64 x2, .int .i64 x3, .int .i64 x4, .int .i64 x5, .int .i64 x6, .int .i64 x7] 279)
  have h0 := f2.alloc f2.size (.cells #[.int .i64 S, .int .i64 Q, .int .i64 (T.size : Int), .int .i64 N] 282)
  have v0 := Vals.fresh (w1.alloc (.cells #[.int .i64 x0, .int .i64 x1, .int .i64 x2, .int .i64 x3, .int .i64 x4, .int .i64 x5, .int .i64 x6, .int .i64 x7] 279)) S Q (T.size : Int) N (B := w1.heap.size + 1) (by simp)
  obtain ⟨u0, hu⟩ : ∃ u, u = (w1.alloc (.cells #[.int .i64 x0, .int .i64 x1, .int .i64 x2, .int .i64 x3, .int .i64 x4, .int .i64 x5, .int .i64 x6, .int .i64 x7] 279)).alloc (.cells #[.int .i64 S, .int .i64 Q, .int .i64 (T.size : Int), .int .i64 N] 282) := ⟨_, rfl⟩
  rw [← hu] at h0 v0 ⊢
  clear hu b1 y0 y1 g1 g2 g3 g4 f1 f2 ba
  have lt0 := v0.lt
  refine wp_loop_rounds 3 ?_
  have k0 := (v0.alloc (.cells #[.int .i64 x0, .int .i64 x1] 256)).c0
  have s0 : (u0.alloc (.cells #[.int .i64 x0, .int .i64 x1] 256)).cell? ⟨u0.heap.size, 0, none⟩ = some (.int .i64 x0) := by simp
  have t0 : (u0.alloc (.cells #[.int .i64 x0, .int .i64 x1] 256)).cell? ⟨u0.heap.size, 1, none⟩ = some (.int .i64 x1) := by simp
  rw [rounds_succ]
  go_wp2
  go_region_held3 (fun w' => w'.cell? ⟨u0.heap.size, 0, none⟩ = some (.int .i64 x0) ∧ w'.cell? ⟨u0.heap.size, 1, none⟩ = some (.int .i64 x1) ∧ w'.cell? ⟨w1.heap.size + 1, 0, none⟩ = some (.int .i64 S)) (go_keep)
    (first | (go_at_call 196; refine (q0 _).mono ?_; rintro e u1 ⟨rfl, b'⟩; have b := undrew b'; have z1 := (b.cell (p := ⟨u0.heap.size, 0, none⟩) (by simp)).trans s0; have z2 := (b.cell (p := ⟨u0.heap.size, 1, none⟩) (by simp)).trans t0; have v1 := (v0.alloc (.cells #[.int .i64 x0, .int .i64 x1] 256)).below b; have lt1 := v1.lt; have z3 := v1.c0; have p := h0.alloc h0.size (.cells #[.int .i64 x0, .int .i64 x1] 256); have h1 := bmm p p.size b))
  clear k0 s0 t0 z1 z2 z3 b b' p h0 v0 lt0
  go_wp2
  have k1 := (v1.alloc (.cells #[.int .i64 x2, .int .i64 x3] 256)).c1
  have s1 : (u1.alloc (.cells #[.int .i64 x2, .int .i64 x3] 256)).cell? ⟨u1.heap.size, 0, none⟩ = some (.int .i64 x2) := by simp
  have t1 : (u1.alloc (.cells #[.int .i64 x2, .int .i64 x3] 256)).cell? ⟨u1.heap.size, 1, none⟩ = some (.int .i64 x3) := by simp
  rw [rounds_succ]
  go_wp2
  go_region_held3 (fun w' => w'.cell? ⟨u1.heap.size, 0, none⟩ = some (.int .i64 x2) ∧ w'.cell? ⟨u1.heap.size, 1, none⟩ = some (.int .i64 x3) ∧ w'.cell? ⟨w1.heap.size + 1, 1, none⟩ = some (.int .i64 Q)) (go_keep)
    (first | (go_at_call 196; refine (q1 _).mono ?_; rintro e u2 ⟨rfl, b'⟩; have b := undrew b'; have z1 := (b.cell (p := ⟨u1.heap.size, 0, none⟩) (by simp)).trans s1; have z2 := (b.cell (p := ⟨u1.heap.size, 1, none⟩) (by simp)).trans t1; have v2 := (v1.alloc (.cells #[.int .i64 x2, .int .i64 x3] 256)).below b; have lt2 := v2.lt; have z3 := v2.c1; have p := h1.alloc h1.size (.cells #[.int .i64 x2, .int .i64 x3] 256); have h2 := bmm p p.size b))
  clear k1 s1 t1 z1 z2 z3 b b' p h1 v1 lt1
  go_wp2
  have k2 := (v2.alloc (.cells #[.int .i64 x4, .int .i64 x5] 256)).c2
  have s2 : (u2.alloc (.cells #[.int .i64 x4, .int .i64 x5] 256)).cell? ⟨u2.heap.size, 0, none⟩ = some (.int .i64 x4) := by simp
  have t2 : (u2.alloc (.cells #[.int .i64 x4, .int .i64 x5] 256)).cell? ⟨u2.heap.size, 1, none⟩ = some (.int .i64 x5) := by simp
  rw [rounds_succ]
  go_wp2
  go_region_held3 (fun w' => w'.cell? ⟨u2.heap.size, 0, none⟩ = some (.int .i64 x4) ∧ w'.cell? ⟨u2.heap.size, 1, none⟩ = some (.int .i64 x5) ∧ w'.cell? ⟨w1.heap.size + 1, 2, none⟩ = some (.int .i64 (T.size : Int))) (go_keep)
    (first | (go_at_call 196; refine (q2 _).mono ?_; rintro e u3 ⟨rfl, b'⟩; have b := undrew b'; have z1 := (b.cell (p := ⟨u2.heap.size, 0, none⟩) (by simp)).trans s2; have z2 := (b.cell (p := ⟨u2.heap.size, 1, none⟩) (by simp)).trans t2; have v3 := (v2.alloc (.cells #[.int .i64 x4, .int .i64 x5] 256)).below b; have lt3 := v3.lt; have z3 := v3.c2; have p := h2.alloc h2.size (.cells #[.int .i64 x4, .int .i64 x5] 256); have h3 := bmm p p.size b))
  clear k2 s2 t2 z1 z2 z3 b b' p h2 v2 lt2
  go_wp2
  go_ret
  exact ⟨rfl, h3⟩

set_option maxHeartbeats 3200000 in
set_option maxRecDepth 100000 in
theorem check_no3 (K S Q N : Int) (T : ByteArray) (x0 x1 x2 x3 x4 x5 x6 x7 : Int)
    (hsp : ∀ w, Calls Tryz.prog 218 #[.int .i64 K] w fun e w' => e = .returned (.tuple #[.agg #[.int .i64 x0, .int .i64 x1, .int .i64 x2, .int .i64 x3, .int .i64 x4, .int .i64 x5, .int .i64 x6, .int .i64 x7], .bool true]) ∧ Below w.heap.size w w')
    (q0 : ∀ w, Calls Tryz.prog 196 #[.agg #[.int .i64 x0, .int .i64 x1], .int .i64 S] w fun e w' => e = .returned (.bool true) ∧ Below w.heap.size w w')
    (q1 : ∀ w, Calls Tryz.prog 196 #[.agg #[.int .i64 x2, .int .i64 x3], .int .i64 Q] w fun e w' => e = .returned (.bool true) ∧ Below w.heap.size w w')
    (q2 : ∀ w, Calls Tryz.prog 196 #[.agg #[.int .i64 x4, .int .i64 x5], .int .i64 (T.size : Int)] w fun e w' => e = .returned (.bool true) ∧ Below w.heap.size w w')
    (q3 : ∀ w, Calls Tryz.prog 196 #[.agg #[.int .i64 x6, .int .i64 x7], .int .i64 N] w fun e w' => e = .returned (.bool false) ∧ Below w.heap.size w w')
    (w : World) :
    Calls Tryz.prog 195 #[.agg #[.int .i64 K, .int .i64 S, .int .i64 Q, .string T, .int .i64 N]] w fun e w' => e = .returned (.int .i64 1) ∧ Below w.heap.size w w' := by
  have ba : Below w.heap.size w (w.alloc (.cells #[.int .i64 K, .int .i64 S, .int .i64 Q, .string T, .int .i64 N] 64)) := (Below.refl _ w).alloc (Nat.le_refl _) _
  have y0 : Box (w.alloc (.cells #[.int .i64 K, .int .i64 S, .int .i64 Q, .string T, .int .i64 N] 64)) w.heap.size 0 K S Q T N := ⟨by simp, by simp, by simp, by simp, by simp, by simp⟩
  have i0 : ∀ w : World, (Instr.index 279 (.agg #[.int .i64 x0, .int .i64 x1, .int .i64 x2, .int .i64 x3, .int .i64 x4, .int .i64 x5, .int .i64 x6, .int .i64 x7]) (.int .i64 0)).run Tryz.prog w = .ok (.agg #[.int .i64 x0, .int .i64 x1]) w := fun _ => by kernel_rfl
  have i1 : ∀ w : World, (Instr.index 279 (.agg #[.int .i64 x0, .int .i64 x1, .int .i64 x2, .int .i64 x3, .int .i64 x4, .int .i64 x5, .int .i64 x6, .int .i64 x7]) (.int .i64 1)).run Tryz.prog w = .ok (.agg #[.int .i64 x2, .int .i64 x3]) w := fun _ => by kernel_rfl
  have i2 : ∀ w : World, (Instr.index 279 (.agg #[.int .i64 x0, .int .i64 x1, .int .i64 x2, .int .i64 x3, .int .i64 x4, .int .i64 x5, .int .i64 x6, .int .i64 x7]) (.int .i64 2)).run Tryz.prog w = .ok (.agg #[.int .i64 x4, .int .i64 x5]) w := fun _ => by kernel_rfl
  have i3 : ∀ w : World, (Instr.index 279 (.agg #[.int .i64 x0, .int .i64 x1, .int .i64 x2, .int .i64 x3, .int .i64 x4, .int .i64 x5, .int .i64 x6, .int .i64 x7]) (.int .i64 3)).run Tryz.prog w = .ok (.agg #[.int .i64 x6, .int .i64 x7]) w := fun _ => by kernel_rfl
  go_enter Tryz.func195, Tryz.ntmps195
  go_wp2_with (go_at_call 218; refine (hsp _).mono ?_; rintro e w1 ⟨rfl, b1⟩; have y1 := y0.below b1; have l1 := y1.lt; have g1 := y1.c1; have g2 := y1.c2; have g3 := y1.c3; have g4 := y1.c4; simp only [Nat.zero_add] at g1 g2 g3 g4)
  have f1 := bmm ba ba.size b1
  have f2 := f1.alloc f1.size (.cells #[.int .i64 x0, .int .i64 x1, .int .i64 x2, .int .i64 x3, .int .i64 x4, .int .i64 x5, .int .i64 x6, .int .i64 x7] 279)
  have h0 := f2.alloc f2.size (.cells #[.int .i64 S, .int .i64 Q, .int .i64 (T.size : Int), .int .i64 N] 282)
  have v0 := Vals.fresh (w1.alloc (.cells #[.int .i64 x0, .int .i64 x1, .int .i64 x2, .int .i64 x3, .int .i64 x4, .int .i64 x5, .int .i64 x6, .int .i64 x7] 279)) S Q (T.size : Int) N (B := w1.heap.size + 1) (by simp)
  obtain ⟨u0, hu⟩ : ∃ u, u = (w1.alloc (.cells #[.int .i64 x0, .int .i64 x1, .int .i64 x2, .int .i64 x3, .int .i64 x4, .int .i64 x5, .int .i64 x6, .int .i64 x7] 279)).alloc (.cells #[.int .i64 S, .int .i64 Q, .int .i64 (T.size : Int), .int .i64 N] 282) := ⟨_, rfl⟩
  rw [← hu] at h0 v0 ⊢
  clear hu b1 y0 y1 g1 g2 g3 g4 f1 f2 ba
  have lt0 := v0.lt
  refine wp_loop_rounds 4 ?_
  have k0 := (v0.alloc (.cells #[.int .i64 x0, .int .i64 x1] 256)).c0
  have s0 : (u0.alloc (.cells #[.int .i64 x0, .int .i64 x1] 256)).cell? ⟨u0.heap.size, 0, none⟩ = some (.int .i64 x0) := by simp
  have t0 : (u0.alloc (.cells #[.int .i64 x0, .int .i64 x1] 256)).cell? ⟨u0.heap.size, 1, none⟩ = some (.int .i64 x1) := by simp
  rw [rounds_succ]
  go_wp2
  go_region_held3 (fun w' => w'.cell? ⟨u0.heap.size, 0, none⟩ = some (.int .i64 x0) ∧ w'.cell? ⟨u0.heap.size, 1, none⟩ = some (.int .i64 x1) ∧ w'.cell? ⟨w1.heap.size + 1, 0, none⟩ = some (.int .i64 S)) (go_keep)
    (first | (go_at_call 196; refine (q0 _).mono ?_; rintro e u1 ⟨rfl, b'⟩; have b := undrew b'; have z1 := (b.cell (p := ⟨u0.heap.size, 0, none⟩) (by simp)).trans s0; have z2 := (b.cell (p := ⟨u0.heap.size, 1, none⟩) (by simp)).trans t0; have v1 := (v0.alloc (.cells #[.int .i64 x0, .int .i64 x1] 256)).below b; have lt1 := v1.lt; have z3 := v1.c0; have p := h0.alloc h0.size (.cells #[.int .i64 x0, .int .i64 x1] 256); have h1 := bmm p p.size b))
  clear k0 s0 t0 z1 z2 z3 b b' p h0 v0 lt0
  go_wp2
  have k1 := (v1.alloc (.cells #[.int .i64 x2, .int .i64 x3] 256)).c1
  have s1 : (u1.alloc (.cells #[.int .i64 x2, .int .i64 x3] 256)).cell? ⟨u1.heap.size, 0, none⟩ = some (.int .i64 x2) := by simp
  have t1 : (u1.alloc (.cells #[.int .i64 x2, .int .i64 x3] 256)).cell? ⟨u1.heap.size, 1, none⟩ = some (.int .i64 x3) := by simp
  rw [rounds_succ]
  go_wp2
  go_region_held3 (fun w' => w'.cell? ⟨u1.heap.size, 0, none⟩ = some (.int .i64 x2) ∧ w'.cell? ⟨u1.heap.size, 1, none⟩ = some (.int .i64 x3) ∧ w'.cell? ⟨w1.heap.size + 1, 1, none⟩ = some (.int .i64 Q)) (go_keep)
    (first | (go_at_call 196; refine (q1 _).mono ?_; rintro e u2 ⟨rfl, b'⟩; have b := undrew b'; have z1 := (b.cell (p := ⟨u1.heap.size, 0, none⟩) (by simp)).trans s1; have z2 := (b.cell (p := ⟨u1.heap.size, 1, none⟩) (by simp)).trans t1; have v2 := (v1.alloc (.cells #[.int .i64 x2, .int .i64 x3] 256)).below b; have lt2 := v2.lt; have z3 := v2.c1; have p := h1.alloc h1.size (.cells #[.int .i64 x2, .int .i64 x3] 256); have h2 := bmm p p.size b))
  clear k1 s1 t1 z1 z2 z3 b b' p h1 v1 lt1
  go_wp2
  have k2 := (v2.alloc (.cells #[.int .i64 x4, .int .i64 x5] 256)).c2
  have s2 : (u2.alloc (.cells #[.int .i64 x4, .int .i64 x5] 256)).cell? ⟨u2.heap.size, 0, none⟩ = some (.int .i64 x4) := by simp
  have t2 : (u2.alloc (.cells #[.int .i64 x4, .int .i64 x5] 256)).cell? ⟨u2.heap.size, 1, none⟩ = some (.int .i64 x5) := by simp
  rw [rounds_succ]
  go_wp2
  go_region_held3 (fun w' => w'.cell? ⟨u2.heap.size, 0, none⟩ = some (.int .i64 x4) ∧ w'.cell? ⟨u2.heap.size, 1, none⟩ = some (.int .i64 x5) ∧ w'.cell? ⟨w1.heap.size + 1, 2, none⟩ = some (.int .i64 (T.size : Int))) (go_keep)
    (first | (go_at_call 196; refine (q2 _).mono ?_; rintro e u3 ⟨rfl, b'⟩; have b := undrew b'; have z1 := (b.cell (p := ⟨u2.heap.size, 0, none⟩) (by simp)).trans s2; have z2 := (b.cell (p := ⟨u2.heap.size, 1, none⟩) (by simp)).trans t2; have v3 := (v2.alloc (.cells #[.int .i64 x4, .int .i64 x5] 256)).below b; have lt3 := v3.lt; have z3 := v3.c2; have p := h2.alloc h2.size (.cells #[.int .i64 x4, .int .i64 x5] 256); have h3 := bmm p p.size b))
  clear k2 s2 t2 z1 z2 z3 b b' p h2 v2 lt2
  go_wp2
  have k3 := (v3.alloc (.cells #[.int .i64 x6, .int .i64 x7] 256)).c3
  have s3 : (u3.alloc (.cells #[.int .i64 x6, .int .i64 x7] 256)).cell? ⟨u3.heap.size, 0, none⟩ = some (.int .i64 x6) := by simp
  have t3 : (u3.alloc (.cells #[.int .i64 x6, .int .i64 x7] 256)).cell? ⟨u3.heap.size, 1, none⟩ = some (.int .i64 x7) := by simp
  rw [rounds_succ]
  go_wp2
  go_region_held3 (fun w' => w'.cell? ⟨u3.heap.size, 0, none⟩ = some (.int .i64 x6) ∧ w'.cell? ⟨u3.heap.size, 1, none⟩ = some (.int .i64 x7) ∧ w'.cell? ⟨w1.heap.size + 1, 3, none⟩ = some (.int .i64 N)) (go_keep)
    (first | (go_at_call 196; refine (q3 _).mono ?_; rintro e u4 ⟨rfl, b'⟩; have b := undrew b'; have z1 := (b.cell (p := ⟨u3.heap.size, 0, none⟩) (by simp)).trans s3; have z2 := (b.cell (p := ⟨u3.heap.size, 1, none⟩) (by simp)).trans t3; have v4 := (v3.alloc (.cells #[.int .i64 x6, .int .i64 x7] 256)).below b; have lt4 := v4.lt; have z3 := v4.c3; have p := h3.alloc h3.size (.cells #[.int .i64 x6, .int .i64 x7] 256); have h4 := bmm p p.size b))
  clear k3 s3 t3 z1 z2 z3 b b' p h3 v3 lt3
  go_wp2
  go_ret
  exact ⟨rfl, h4⟩

set_option maxHeartbeats 3200000 in
set_option maxRecDepth 100000 in
theorem check_all (K S Q N : Int) (T : ByteArray) (x0 x1 x2 x3 x4 x5 x6 x7 : Int)
    (hsp : ∀ w, Calls Tryz.prog 218 #[.int .i64 K] w fun e w' => e = .returned (.tuple #[.agg #[.int .i64 x0, .int .i64 x1, .int .i64 x2, .int .i64 x3, .int .i64 x4, .int .i64 x5, .int .i64 x6, .int .i64 x7], .bool true]) ∧ Below w.heap.size w w')
    (q0 : ∀ w, Calls Tryz.prog 196 #[.agg #[.int .i64 x0, .int .i64 x1], .int .i64 S] w fun e w' => e = .returned (.bool true) ∧ Below w.heap.size w w')
    (q1 : ∀ w, Calls Tryz.prog 196 #[.agg #[.int .i64 x2, .int .i64 x3], .int .i64 Q] w fun e w' => e = .returned (.bool true) ∧ Below w.heap.size w w')
    (q2 : ∀ w, Calls Tryz.prog 196 #[.agg #[.int .i64 x4, .int .i64 x5], .int .i64 (T.size : Int)] w fun e w' => e = .returned (.bool true) ∧ Below w.heap.size w w')
    (q3 : ∀ w, Calls Tryz.prog 196 #[.agg #[.int .i64 x6, .int .i64 x7], .int .i64 N] w fun e w' => e = .returned (.bool true) ∧ Below w.heap.size w w')
    (w : World) :
    Calls Tryz.prog 195 #[.agg #[.int .i64 K, .int .i64 S, .int .i64 Q, .string T, .int .i64 N]] w fun e w' => e = .returned (.int .i64 0) ∧ Below w.heap.size w w' := by
  have ba : Below w.heap.size w (w.alloc (.cells #[.int .i64 K, .int .i64 S, .int .i64 Q, .string T, .int .i64 N] 64)) := (Below.refl _ w).alloc (Nat.le_refl _) _
  have y0 : Box (w.alloc (.cells #[.int .i64 K, .int .i64 S, .int .i64 Q, .string T, .int .i64 N] 64)) w.heap.size 0 K S Q T N := ⟨by simp, by simp, by simp, by simp, by simp, by simp⟩
  have i0 : ∀ w : World, (Instr.index 279 (.agg #[.int .i64 x0, .int .i64 x1, .int .i64 x2, .int .i64 x3, .int .i64 x4, .int .i64 x5, .int .i64 x6, .int .i64 x7]) (.int .i64 0)).run Tryz.prog w = .ok (.agg #[.int .i64 x0, .int .i64 x1]) w := fun _ => by kernel_rfl
  have i1 : ∀ w : World, (Instr.index 279 (.agg #[.int .i64 x0, .int .i64 x1, .int .i64 x2, .int .i64 x3, .int .i64 x4, .int .i64 x5, .int .i64 x6, .int .i64 x7]) (.int .i64 1)).run Tryz.prog w = .ok (.agg #[.int .i64 x2, .int .i64 x3]) w := fun _ => by kernel_rfl
  have i2 : ∀ w : World, (Instr.index 279 (.agg #[.int .i64 x0, .int .i64 x1, .int .i64 x2, .int .i64 x3, .int .i64 x4, .int .i64 x5, .int .i64 x6, .int .i64 x7]) (.int .i64 2)).run Tryz.prog w = .ok (.agg #[.int .i64 x4, .int .i64 x5]) w := fun _ => by kernel_rfl
  have i3 : ∀ w : World, (Instr.index 279 (.agg #[.int .i64 x0, .int .i64 x1, .int .i64 x2, .int .i64 x3, .int .i64 x4, .int .i64 x5, .int .i64 x6, .int .i64 x7]) (.int .i64 3)).run Tryz.prog w = .ok (.agg #[.int .i64 x6, .int .i64 x7]) w := fun _ => by kernel_rfl
  go_enter Tryz.func195, Tryz.ntmps195
  go_wp2_with (go_at_call 218; refine (hsp _).mono ?_; rintro e w1 ⟨rfl, b1⟩; have y1 := y0.below b1; have l1 := y1.lt; have g1 := y1.c1; have g2 := y1.c2; have g3 := y1.c3; have g4 := y1.c4; simp only [Nat.zero_add] at g1 g2 g3 g4)
  have f1 := bmm ba ba.size b1
  have f2 := f1.alloc f1.size (.cells #[.int .i64 x0, .int .i64 x1, .int .i64 x2, .int .i64 x3, .int .i64 x4, .int .i64 x5, .int .i64 x6, .int .i64 x7] 279)
  have h0 := f2.alloc f2.size (.cells #[.int .i64 S, .int .i64 Q, .int .i64 (T.size : Int), .int .i64 N] 282)
  have v0 := Vals.fresh (w1.alloc (.cells #[.int .i64 x0, .int .i64 x1, .int .i64 x2, .int .i64 x3, .int .i64 x4, .int .i64 x5, .int .i64 x6, .int .i64 x7] 279)) S Q (T.size : Int) N (B := w1.heap.size + 1) (by simp)
  obtain ⟨u0, hu⟩ : ∃ u, u = (w1.alloc (.cells #[.int .i64 x0, .int .i64 x1, .int .i64 x2, .int .i64 x3, .int .i64 x4, .int .i64 x5, .int .i64 x6, .int .i64 x7] 279)).alloc (.cells #[.int .i64 S, .int .i64 Q, .int .i64 (T.size : Int), .int .i64 N] 282) := ⟨_, rfl⟩
  rw [← hu] at h0 v0 ⊢
  clear hu b1 y0 y1 g1 g2 g3 g4 f1 f2 ba
  have lt0 := v0.lt
  refine wp_loop_rounds 5 ?_
  have k0 := (v0.alloc (.cells #[.int .i64 x0, .int .i64 x1] 256)).c0
  have s0 : (u0.alloc (.cells #[.int .i64 x0, .int .i64 x1] 256)).cell? ⟨u0.heap.size, 0, none⟩ = some (.int .i64 x0) := by simp
  have t0 : (u0.alloc (.cells #[.int .i64 x0, .int .i64 x1] 256)).cell? ⟨u0.heap.size, 1, none⟩ = some (.int .i64 x1) := by simp
  rw [rounds_succ]
  go_wp2
  go_region_held3 (fun w' => w'.cell? ⟨u0.heap.size, 0, none⟩ = some (.int .i64 x0) ∧ w'.cell? ⟨u0.heap.size, 1, none⟩ = some (.int .i64 x1) ∧ w'.cell? ⟨w1.heap.size + 1, 0, none⟩ = some (.int .i64 S)) (go_keep)
    (first | (go_at_call 196; refine (q0 _).mono ?_; rintro e u1 ⟨rfl, b'⟩; have b := undrew b'; have z1 := (b.cell (p := ⟨u0.heap.size, 0, none⟩) (by simp)).trans s0; have z2 := (b.cell (p := ⟨u0.heap.size, 1, none⟩) (by simp)).trans t0; have v1 := (v0.alloc (.cells #[.int .i64 x0, .int .i64 x1] 256)).below b; have lt1 := v1.lt; have z3 := v1.c0; have p := h0.alloc h0.size (.cells #[.int .i64 x0, .int .i64 x1] 256); have h1 := bmm p p.size b))
  clear k0 s0 t0 z1 z2 z3 b b' p h0 v0 lt0
  go_wp2
  have k1 := (v1.alloc (.cells #[.int .i64 x2, .int .i64 x3] 256)).c1
  have s1 : (u1.alloc (.cells #[.int .i64 x2, .int .i64 x3] 256)).cell? ⟨u1.heap.size, 0, none⟩ = some (.int .i64 x2) := by simp
  have t1 : (u1.alloc (.cells #[.int .i64 x2, .int .i64 x3] 256)).cell? ⟨u1.heap.size, 1, none⟩ = some (.int .i64 x3) := by simp
  rw [rounds_succ]
  go_wp2
  go_region_held3 (fun w' => w'.cell? ⟨u1.heap.size, 0, none⟩ = some (.int .i64 x2) ∧ w'.cell? ⟨u1.heap.size, 1, none⟩ = some (.int .i64 x3) ∧ w'.cell? ⟨w1.heap.size + 1, 1, none⟩ = some (.int .i64 Q)) (go_keep)
    (first | (go_at_call 196; refine (q1 _).mono ?_; rintro e u2 ⟨rfl, b'⟩; have b := undrew b'; have z1 := (b.cell (p := ⟨u1.heap.size, 0, none⟩) (by simp)).trans s1; have z2 := (b.cell (p := ⟨u1.heap.size, 1, none⟩) (by simp)).trans t1; have v2 := (v1.alloc (.cells #[.int .i64 x2, .int .i64 x3] 256)).below b; have lt2 := v2.lt; have z3 := v2.c1; have p := h1.alloc h1.size (.cells #[.int .i64 x2, .int .i64 x3] 256); have h2 := bmm p p.size b))
  clear k1 s1 t1 z1 z2 z3 b b' p h1 v1 lt1
  go_wp2
  have k2 := (v2.alloc (.cells #[.int .i64 x4, .int .i64 x5] 256)).c2
  have s2 : (u2.alloc (.cells #[.int .i64 x4, .int .i64 x5] 256)).cell? ⟨u2.heap.size, 0, none⟩ = some (.int .i64 x4) := by simp
  have t2 : (u2.alloc (.cells #[.int .i64 x4, .int .i64 x5] 256)).cell? ⟨u2.heap.size, 1, none⟩ = some (.int .i64 x5) := by simp
  rw [rounds_succ]
  go_wp2
  go_region_held3 (fun w' => w'.cell? ⟨u2.heap.size, 0, none⟩ = some (.int .i64 x4) ∧ w'.cell? ⟨u2.heap.size, 1, none⟩ = some (.int .i64 x5) ∧ w'.cell? ⟨w1.heap.size + 1, 2, none⟩ = some (.int .i64 (T.size : Int))) (go_keep)
    (first | (go_at_call 196; refine (q2 _).mono ?_; rintro e u3 ⟨rfl, b'⟩; have b := undrew b'; have z1 := (b.cell (p := ⟨u2.heap.size, 0, none⟩) (by simp)).trans s2; have z2 := (b.cell (p := ⟨u2.heap.size, 1, none⟩) (by simp)).trans t2; have v3 := (v2.alloc (.cells #[.int .i64 x4, .int .i64 x5] 256)).below b; have lt3 := v3.lt; have z3 := v3.c2; have p := h2.alloc h2.size (.cells #[.int .i64 x4, .int .i64 x5] 256); have h3 := bmm p p.size b))
  clear k2 s2 t2 z1 z2 z3 b b' p h2 v2 lt2
  go_wp2
  have k3 := (v3.alloc (.cells #[.int .i64 x6, .int .i64 x7] 256)).c3
  have s3 : (u3.alloc (.cells #[.int .i64 x6, .int .i64 x7] 256)).cell? ⟨u3.heap.size, 0, none⟩ = some (.int .i64 x6) := by simp
  have t3 : (u3.alloc (.cells #[.int .i64 x6, .int .i64 x7] 256)).cell? ⟨u3.heap.size, 1, none⟩ = some (.int .i64 x7) := by simp
  rw [rounds_succ]
  go_wp2
  go_region_held3 (fun w' => w'.cell? ⟨u3.heap.size, 0, none⟩ = some (.int .i64 x6) ∧ w'.cell? ⟨u3.heap.size, 1, none⟩ = some (.int .i64 x7) ∧ w'.cell? ⟨w1.heap.size + 1, 3, none⟩ = some (.int .i64 N)) (go_keep)
    (first | (go_at_call 196; refine (q3 _).mono ?_; rintro e u4 ⟨rfl, b'⟩; have b := undrew b'; have z1 := (b.cell (p := ⟨u3.heap.size, 0, none⟩) (by simp)).trans s3; have z2 := (b.cell (p := ⟨u3.heap.size, 1, none⟩) (by simp)).trans t3; have v4 := (v3.alloc (.cells #[.int .i64 x6, .int .i64 x7] 256)).below b; have lt4 := v4.lt; have z3 := v4.c3; have p := h3.alloc h3.size (.cells #[.int .i64 x6, .int .i64 x7] 256); have h4 := bmm p p.size b))
  clear k3 s3 t3 z1 z2 z3 b b' p h3 v3 lt3
  go_wp2
  rw [rounds_succ]
  go_wp2
  go_ret
  exact ⟨rfl, h4⟩

set_option maxRecDepth 100000 in
theorem check_none (K S Q N : Int) (T : ByteArray) (x0 x1 x2 x3 x4 x5 x6 x7 : Int)
    (hsp : ∀ w, Calls Tryz.prog 218 #[.int .i64 K] w fun e w' => e = .returned (.tuple #[.agg #[.int .i64 x0, .int .i64 x1, .int .i64 x2, .int .i64 x3, .int .i64 x4, .int .i64 x5, .int .i64 x6, .int .i64 x7], .bool false]) ∧ Below w.heap.size w w') (w : World) :
    Calls Tryz.prog 195 #[.agg #[.int .i64 K, .int .i64 S, .int .i64 Q, .string T, .int .i64 N]] w fun e w' => e = .returned (.int .i64 1) ∧ Below w.heap.size w w' := by
  have ba : Below w.heap.size w (w.alloc (.cells #[.int .i64 K, .int .i64 S, .int .i64 Q, .string T, .int .i64 N] 64)) := (Below.refl _ w).alloc (Nat.le_refl _) _
  go_enter Tryz.func195, Tryz.ntmps195
  go_wp2_with (go_at_call 218; refine (hsp _).mono ?_; rintro e w1 ⟨rfl, b1⟩)
  have f1 := bmm ba ba.size b1
  go_ret
  exact ⟨rfl, f1.alloc f1.size _⟩

/-- Check. -/
theorem check_any (K S Q N : Int) (T : ByteArray) (w : World) :
    Calls Tryz.prog 195 #[.agg #[.int .i64 K, .int .i64 S, .int .i64 Q, .string T, .int .i64 N]] w fun e w' => e = .returned (.int .i64 (if mayB ⟨K, S, Q, T, N⟩ = true then 0 else 1)) ∧ Below w.heap.size w w' := by
  rw [may_spans]
  have hsp := spans_any K
  generalize spK K = x at hsp ⊢
  obtain ⟨⟨x0, x1, x2, x3, x4, x5, x6, x7⟩, kn⟩ := x
  cases kn with
  | false => exact check_none K S Q N T x0 x1 x2 x3 x4 x5 x6 x7 hsp w
  | true =>
    unfold inSp
    simp only [Bool.true_and]
    have q0 := holds_any x0 x1 S
    have q1 := holds_any x2 x3 Q
    have q2 := holds_any x4 x5 (T.size : Int)
    have q3 := holds_any x6 x7 N
    obtain ⟨a, ha⟩ : ∃ a, a = (decide (x0 ≤ S) && decide (S ≤ x1)) := ⟨_, rfl⟩
    obtain ⟨b, hb⟩ : ∃ b, b = (decide (x2 ≤ Q) && decide (Q ≤ x3)) := ⟨_, rfl⟩
    obtain ⟨c, hc⟩ : ∃ c, c = (decide (x4 ≤ (T.size : Int)) && decide ((T.size : Int) ≤ x5)) := ⟨_, rfl⟩
    obtain ⟨d, hd⟩ : ∃ d, d = (decide (x6 ≤ N) && decide (N ≤ x7)) := ⟨_, rfl⟩
    rw [← ha] at q0 ⊢
    rw [← hb] at q1 ⊢
    rw [← hc] at q2 ⊢
    rw [← hd] at q3 ⊢
    cases a with
    | false => exact check_no0 K S Q N T x0 x1 x2 x3 x4 x5 x6 x7 hsp q0 w
    | true =>
      cases b with
      | false => exact check_no1 K S Q N T x0 x1 x2 x3 x4 x5 x6 x7 hsp q0 q1 w
      | true =>
        cases c with
        | false => exact check_no2 K S Q N T x0 x1 x2 x3 x4 x5 x6 x7 hsp q0 q1 q2 w
        | true =>
          cases d with
          | false => exact check_no3 K S Q N T x0 x1 x2 x3 x4 x5 x6 x7 hsp q0 q1 q2 q3 w
          | true => exact check_all K S Q N T x0 x1 x2 x3 x4 x5 x6 x7 hsp q0 q1 q2 q3 w
end Go.Proofs.YtodnnhidljfilaaGreatDoor
/-
  The contracts of package cmds' Encode and EncodeEntry: for every command and every entry, its bytes or the error. No condition.
-/
namespace Go.Proofs.YtodnnhidljfilaaGreatDoor
open Go.RowKit

theorem Wr.new (w : World) : Wr w.heap.size (w.alloc (.cells #[.slice none 0 0] 227)) w.heap.size (.slice none 0 0) [] :=
  ⟨Nat.le_refl _, heap_alloc_new w _, World.ownsRow_nil _ _ _ _⟩
/-- A number more, a text more. -/
theorem wint_b {B : Nat} {v : Value} {bs : List UInt8} {w : World} (n : Int) (h1 : -9223372036854775808 ≤ n) (h2 : n ≤ 9223372036854775807) (hb : bs.length + 10 ≤ 140737488355328) (h : Wr B w B v bs) :
    Calls Tryz.prog 127 #[.pointer (some ⟨B, 0, none⟩), .int .i64 n] w fun e w' => e = .returned (.tuple #[]) ∧ ∃ v', Wr B w' B v' (bs ++ enc (zig n)) ∧ Below B w w' :=
  (wint_any B B v bs n h1 h2 w h hb).mono fun _ _ ⟨he, v', hw, hk, _⟩ => ⟨he, v', hw, h.below hk⟩
theorem wtext_b {B : Nat} {v : Value} {bs : List UInt8} {w : World} (s : ByteArray) (hb : bs.length + s.size + 10 ≤ 140737488355328) (h : Wr B w B v bs) :
    Calls Tryz.prog 128 #[.pointer (some ⟨B, 0, none⟩), .string s] w fun e w' => e = .returned (.tuple #[]) ∧ ∃ v', Wr B w' B v' (bs ++ lenText s) ∧ Below B w w' :=
  wtext_any B B v bs s w h hb

theorem Box.belowB {w w' : World} {b B o : Nat} {K S Q N : Int} {T : ByteArray} (h : Box w b o K S Q T N) (hb : b < B) (k : Below B w w') : Box w' b o K S Q T N :=
  ⟨Nat.lt_of_lt_of_le h.lt k.size, (k.cell (by exact hb)).trans h.c0, (k.cell (by exact hb)).trans h.c1, (k.cell (by exact hb)).trans h.c2, (k.cell (by exact hb)).trans h.c3, (k.cell (by exact hb)).trans h.c4⟩

set_option maxHeartbeats 3200000 in
set_option maxRecDepth 100000 in
theorem encode_any (K S Q N : Int) (T : ByteArray) (w : World) :
    Calls Tryz.prog 160 #[.agg #[.int .i64 K, .int .i64 S, .int .i64 Q, .string T, .int .i64 N]] w fun e w' => e = .returned (.tuple #[.string (encT ⟨K, S, Q, T, N⟩).1, .int .i64 (encT ⟨K, S, Q, T, N⟩).2]) ∧ Below w.heap.size w w' := by
  have q0 := check_any K S Q N T (w.alloc (.cells #[.int .i64 K, .int .i64 S, .int .i64 Q, .string T, .int .i64 N] 64))
  have ba : Below w.heap.size w (w.alloc (.cells #[.int .i64 K, .int .i64 S, .int .i64 Q, .string T, .int .i64 N] 64)) := (Below.refl _ w).alloc (Nat.le_refl _) _
  have x0 : Box (w.alloc (.cells #[.int .i64 K, .int .i64 S, .int .i64 Q, .string T, .int .i64 N] 64)) w.heap.size 0 K S Q T N := ⟨by simp, by simp, by simp, by simp, by simp, by simp⟩
  by_cases hm : mayB ⟨K, S, Q, T, N⟩ = true
  · have e : encT ⟨K, S, Q, T, N⟩ = (⟨(encC ⟨K, S, Q, T, N⟩).toArray⟩, 0) := by unfold encT; rw [if_pos hm]
    rw [e]
    rw [if_pos hm] at q0
    obtain ⟨⟨k1, k2⟩, ⟨s1, s2⟩, ⟨p1, p2⟩, t1, ⟨n1, n2⟩⟩ := may_small hm
    simp only at k1 k2 s1 s2 p1 p2 t1 n1 n2
    have l1 := enc_len_ten (zig_bound (n := K) (by omega) (by omega))
    have l2 := enc_len_ten (zig_bound (n := S) (by omega) (by omega))
    have l3 := enc_len_ten (zig_bound (n := Q) (by omega) (by omega))
    have l4 : (lenText T).length ≤ 74 := by
      have := enc_len_ten (n := T.size) (by omega)
      have := Lib.size_eq T
      unfold lenText
      rw [List.length_append]
      omega
    have HC : encC ⟨K, S, Q, T, N⟩ = ((((([] ++ enc (zig K)) ++ enc (zig S)) ++ enc (zig Q)) ++ lenText T) ++ enc (zig N)) := by
      unfold encC
      simp
    rw [HC]
    have y1 := fun B v w => @wint_b B v [] w K (by omega) (by omega) (by simp)
    have y2 := fun B v w => @wint_b B v ([] ++ enc (zig K)) w S (by omega) (by omega) (by simp only [List.length_append, List.length_nil]; omega)
    have y3 := fun B v w => @wint_b B v (([] ++ enc (zig K)) ++ enc (zig S)) w Q (by omega) (by omega) (by simp only [List.length_append, List.length_nil]; omega)
    have y4 := fun B v w => @wtext_b B v ((([] ++ enc (zig K)) ++ enc (zig S)) ++ enc (zig Q)) w T (by simp only [List.length_append, List.length_nil]; omega)
    have y5 := fun B v w => @wint_b B v (((([] ++ enc (zig K)) ++ enc (zig S)) ++ enc (zig Q)) ++ lenText T) w N (by omega) (by omega) (by simp only [List.length_append, List.length_nil]; omega)
    obtain ⟨L1, hL1⟩ : ∃ L, L = [] ++ enc (zig K) := ⟨_, rfl⟩
    rw [← hL1] at y1 y2 y3 y4 y5 ⊢
    obtain ⟨L2, hL2⟩ : ∃ L, L = L1 ++ enc (zig S) := ⟨_, rfl⟩
    rw [← hL2] at y2 y3 y4 y5 ⊢
    obtain ⟨L3, hL3⟩ : ∃ L, L = L2 ++ enc (zig Q) := ⟨_, rfl⟩
    rw [← hL3] at y3 y4 y5 ⊢
    obtain ⟨L4, hL4⟩ : ∃ L, L = L3 ++ lenText T := ⟨_, rfl⟩
    rw [← hL4] at y4 y5 ⊢
    obtain ⟨L5, hL5⟩ : ∃ L, L = L4 ++ enc (zig N) := ⟨_, rfl⟩
    rw [← hL5] at y5 ⊢
    clear hL1 hL2 hL3 hL4 hL5 HC l1 l2 l3 l4 k1 k2 s1 s2 p1 p2 t1 n1 n2 hm
    clear e
    go_enter Tryz.func160, Tryz.ntmps160
    go_wp2_with (first
      | (go_at_call 129; refine (wstring_any _ _ _ _ _ r7).mono ?_; rintro e w8 ⟨rfl, rfl⟩)
      | (go_at_call 127; have d4 := d3; refine (y5 _ _ _ r6).mono ?_; rintro e w7 ⟨rfl, v7, r7, b7⟩; have x7 := x6.belowB l1 b7)
      | (go_at_call 128; refine (y4 _ _ _ r5).mono ?_; rintro e w6 ⟨rfl, v6, r6, b6⟩; have x6 := x5.belowB l1 b6; have c6 := x6.c4; simp only [Nat.zero_add] at c6; have d3 : True := trivial)
      | (go_at_call 127; have d2 := d1; refine (y3 _ _ _ r4).mono ?_; rintro e w5 ⟨rfl, v5, r5, b5⟩; have x5 := x4.belowB l1 b5; have c5 := x5.c3; simp only [Nat.zero_add] at c5)
      | (go_at_call 127; have d1 := d0; refine (y2 _ _ _ r3).mono ?_; rintro e w4 ⟨rfl, v4, r4, b4⟩; have x4 := x3.belowB l1 b4; have c4 := x4.c2; simp only [Nat.zero_add] at c4; have d1 : True := trivial)
      | (go_at_call 127; refine (y1 _ _ _ r2).mono ?_; rintro e w3 ⟨rfl, v3, r3, b3⟩; have x3 := x2.belowB l1 b3; have c3 := x3.c1; simp only [Nat.zero_add] at c3; have d0 : True := trivial)
      | (go_at_call 126; refine (new_any _).mono ?_; rintro e w2 ⟨rfl, hw⟩; have r2 := Wr.new w1; rw [hw] at r2; have b2 : Below w1.heap.size w1 w2 := (by rw [← hw]; exact (Below.refl _ _).alloc (Nat.le_refl _) _); have x2 := x1.belowB l1 b2; have c2 := x2.c0; clear hw)
      | (go_at_call 195; refine q0.mono ?_; rintro e w1 ⟨rfl, b1⟩; have x1 := x0.below b1; have l1 := x1.lt))
    go_ret2
    have f1 := bmm ba ba.size b1
    have B2 := ((((b2.trans b3).trans b4).trans b5).trans b6).trans b7
    exact ⟨rfl, bmm f1 f1.size B2⟩
  · have e : encT ⟨K, S, Q, T, N⟩ = (⟨#[]⟩, 1) := by unfold encT; rw [if_neg hm]
    rw [e]
    rw [if_neg hm] at q0
    go_enter Tryz.func160, Tryz.ntmps160
    go_wp2_with (go_at_call 195; refine q0.mono ?_; rintro e w1 ⟨rfl, b1⟩)
    go_ret2
    exact ⟨rfl, bmm ba ba.size b1⟩

theorem mayE_two (A B K S Q N : Int) (T : ByteArray) : mayE ⟨A, B, ⟨K, S, Q, T, N⟩⟩ = (placeB A B && mayB ⟨K, S, Q, T, N⟩) := by
  unfold mayE placeB
  simp only [Bool.and_assoc]

set_option maxHeartbeats 3200000 in
set_option maxRecDepth 100000 in
theorem encodeE_any (A B K S Q N : Int) (T : ByteArray) (w : World) :
    Calls Tryz.prog 125 #[.agg #[.int .i64 A, .int .i64 B, .int .i64 K, .int .i64 S, .int .i64 Q, .string T, .int .i64 N]] w fun e w' => e = .returned (.tuple #[.string (encET ⟨A, B, ⟨K, S, Q, T, N⟩⟩).1, .int .i64 (encET ⟨A, B, ⟨K, S, Q, T, N⟩⟩).2]) ∧ Below w.heap.size w w' := by
  have q0 := encode_any K S Q N T (w.alloc (.cells #[.int .i64 A, .int .i64 B, .int .i64 K, .int .i64 S, .int .i64 Q, .string T, .int .i64 N] 66))
  have qp := place_any A B
  have ba : Below w.heap.size w (w.alloc (.cells #[.int .i64 A, .int .i64 B, .int .i64 K, .int .i64 S, .int .i64 Q, .string T, .int .i64 N] 66)) := (Below.refl _ w).alloc (Nat.le_refl _) _
  have xa : (w.alloc (.cells #[.int .i64 A, .int .i64 B, .int .i64 K, .int .i64 S, .int .i64 Q, .string T, .int .i64 N] 66)).cell? ⟨w.heap.size, 0, none⟩ = some (.int .i64 A) := by simp
  have xb : (w.alloc (.cells #[.int .i64 A, .int .i64 B, .int .i64 K, .int .i64 S, .int .i64 Q, .string T, .int .i64 N] 66)).cell? ⟨w.heap.size, 1, none⟩ = some (.int .i64 B) := by simp
  have xl : w.heap.size < (w.alloc (.cells #[.int .i64 A, .int .i64 B, .int .i64 K, .int .i64 S, .int .i64 Q, .string T, .int .i64 N] 66)).heap.size := by simp
  have hE := mayE_two A B K S Q N T
  by_cases hm : mayB ⟨K, S, Q, T, N⟩ = true
  · have ec : encT ⟨K, S, Q, T, N⟩ = (⟨(encC ⟨K, S, Q, T, N⟩).toArray⟩, 0) := by unfold encT; rw [if_pos hm]
    rw [ec] at q0
    by_cases hp : placeB A B = true
    · rw [hp] at qp
      have he : mayE ⟨A, B, ⟨K, S, Q, T, N⟩⟩ = true := by rw [hE, hp, hm]; rfl
      have e : encET ⟨A, B, ⟨K, S, Q, T, N⟩⟩ = (⟨(encE ⟨A, B, ⟨K, S, Q, T, N⟩⟩).toArray⟩, 0) := by unfold encET; rw [if_pos he]
      rw [e]
      obtain ⟨⟨k1, k2⟩, ⟨s1, s2⟩, _⟩ := mayE_small he
      simp only at k1 k2 s1 s2
      have lc := encC_len hm
      obtain ⟨C, hC⟩ : ∃ C : ByteArray, C = ⟨(encC ⟨K, S, Q, T, N⟩).toArray⟩ := ⟨_, rfl⟩
      have zC : C.size ≤ 200 := by rw [hC, size_list]; exact lc
      have q0' : Calls Tryz.prog 160 #[.agg #[.int .i64 K, .int .i64 S, .int .i64 Q, .string T, .int .i64 N]] (w.alloc (.cells #[.int .i64 A, .int .i64 B, .int .i64 K, .int .i64 S, .int .i64 Q, .string T, .int .i64 N] 66)) fun e w' => e = .returned (.tuple #[.string C, .int .i64 0]) ∧ Below (w.alloc (.cells #[.int .i64 A, .int .i64 B, .int .i64 K, .int .i64 S, .int .i64 Q, .string T, .int .i64 N] 66)).heap.size (w.alloc (.cells #[.int .i64 A, .int .i64 B, .int .i64 K, .int .i64 S, .int .i64 Q, .string T, .int .i64 N] 66)) w' := by rw [hC]; exact q0
      have l1 := enc_len_ten (zig_bound (n := A) (by omega) (by omega))
      have l2 := enc_len_ten (zig_bound (n := B) (by omega) (by omega))
      have HC : encE ⟨A, B, ⟨K, S, Q, T, N⟩⟩ = (([] ++ enc (zig A)) ++ enc (zig B)) ++ lenText C := by
        rw [hC]
        unfold encE
        simp
      rw [HC]
      have y1 := fun B' v w => @wint_b B' v [] w A (by omega) (by omega) (by simp)
      have y2 := fun B' v w => @wint_b B' v ([] ++ enc (zig A)) w B (by omega) (by omega) (by simp only [List.length_append, List.length_nil]; omega)
      have y3 := fun B' v w => @wtext_b B' v (([] ++ enc (zig A)) ++ enc (zig B)) w C (by simp only [List.length_append, List.length_nil]; omega)
      obtain ⟨L1, hL1⟩ : ∃ L, L = [] ++ enc (zig A) := ⟨_, rfl⟩
      rw [← hL1] at y1 y2 y3 ⊢
      obtain ⟨L2, hL2⟩ : ∃ L, L = L1 ++ enc (zig B) := ⟨_, rfl⟩
      rw [← hL2] at y2 y3 ⊢
      obtain ⟨L3, hL3⟩ : ∃ L, L = L2 ++ lenText C := ⟨_, rfl⟩
      rw [← hL3] at y3 ⊢
      clear hL1 hL2 hL3 HC l1 l2 k1 k2 s1 s2 hm hE hp he e ec q0 hC zC lc
      go_enter Tryz.func125, Tryz.ntmps125
      go_wp2_with (first
        | (go_at_call 129; refine (wstring_any _ _ _ _ _ r6).mono ?_; rintro e w8 ⟨rfl, rfl⟩)
        | (go_at_call 128; refine (y3 _ _ _ r5).mono ?_; rintro e w6 ⟨rfl, v6, r6, b6⟩)
        | (go_at_call 127; have d1 := d0; refine (y2 _ _ _ r4).mono ?_; rintro e w5 ⟨rfl, v5, r5, b5⟩)
        | (go_at_call 127; refine (y1 _ _ _ r3).mono ?_; rintro e w4 ⟨rfl, v4, r4, b4⟩; have p4 := (b4.cell (p := ⟨w.heap.size, 1, none⟩) (by exact lt2)).trans p3; have d0 : True := trivial)
        | (go_at_call 126; refine (new_any _).mono ?_; rintro e w3 ⟨rfl, hw⟩; have r3 := Wr.new w2; rw [hw] at r3; have b3 : Below w2.heap.size w2 w3 := (by rw [← hw]; exact (Below.refl _ _).alloc (Nat.le_refl _) _); clear hw; have o3 := (b3.cell (p := ⟨w.heap.size, 0, none⟩) (by exact lt2)).trans o2; have p3 := (b3.cell (p := ⟨w.heap.size, 1, none⟩) (by exact lt2)).trans p2)
        | (go_at_call 161; refine (qp _).mono ?_; rintro e w2 ⟨rfl, b2⟩; have lt2 := Nat.lt_of_lt_of_le lt1 b2.size; have o2 := (b2.cell (p := ⟨w.heap.size, 0, none⟩) (by exact lt1)).trans o1; have p2 := (b2.cell (p := ⟨w.heap.size, 1, none⟩) (by exact lt1)).trans p1)
        | (go_at_call 160; refine q0'.mono ?_; rintro e w1 ⟨rfl, b1⟩; have lt1 := Nat.lt_of_lt_of_le xl b1.size; have o1 := (b1.cell (p := ⟨w.heap.size, 0, none⟩) (by exact xl)).trans xa; have p1 := (b1.cell (p := ⟨w.heap.size, 1, none⟩) (by exact xl)).trans xb))
      go_ret2
      have f1 := bmm ba ba.size b1
      have f2 := bmm f1 f1.size b2
      exact ⟨rfl, bmm f2 f2.size (((b3.trans b4).trans b5).trans b6)⟩
    · have hp' : placeB A B = false := by simpa using hp
      rw [hp'] at qp
      have e : encET ⟨A, B, ⟨K, S, Q, T, N⟩⟩ = (⟨#[]⟩, 1) := by unfold encET; rw [if_neg (by rw [hE, hp']; simp)]
      rw [e]
      clear e hE ec
      go_enter Tryz.func125, Tryz.ntmps125
      go_wp2_with (first
        | (go_at_call 161; refine (qp _).mono ?_; rintro e w2 ⟨rfl, b2⟩)
        | (go_at_call 160; refine q0.mono ?_; rintro e w1 ⟨rfl, b1⟩; have lt1 := Nat.lt_of_lt_of_le xl b1.size; have o1 := (b1.cell (p := ⟨w.heap.size, 0, none⟩) (by exact xl)).trans xa; have p1 := (b1.cell (p := ⟨w.heap.size, 1, none⟩) (by exact xl)).trans xb))
      go_ret2
      have f1 := bmm ba ba.size b1
      exact ⟨rfl, bmm f1 f1.size b2⟩
  · have hm' : mayB ⟨K, S, Q, T, N⟩ = false := by simpa using hm
    have ec : encT ⟨K, S, Q, T, N⟩ = (⟨#[]⟩, 1) := by unfold encT; rw [if_neg hm]
    rw [ec] at q0
    have e : encET ⟨A, B, ⟨K, S, Q, T, N⟩⟩ = (⟨#[]⟩, 1) := by unfold encET; rw [if_neg (by rw [hE, hm']; simp)]
    rw [e]
    clear e hE ec
    go_enter Tryz.func125, Tryz.ntmps125
    go_wp2_with (first
      | (go_at_call 160; refine q0.mono ?_; rintro e w1 ⟨rfl, b1⟩))
    go_ret2
    exact ⟨rfl, bmm ba ba.size b1⟩
end Go.Proofs.YtodnnhidljfilaaGreatDoor
