/-
  The program's mutex (package lmutex): new, locked, asked who holds it and who waits. The conditions: the task's number is an int's; fewer than 65536 wait.
-/
import Derived.Test.YtlcacjekpdmigaaLqLeave
import Derived.Test.YtlcacjekpdmigaaMxUnlock
namespace Go.Proofs.Ytlcacjekpdmigaa
open Go.RowKit

section
variable {w w' : World} {base base' D : Nat} {S S' : Nat → Prop} {T : TypeId} {x y : Value} {q : List Wt}
theorem QAt.setX (h : QAt w base D S T x y q) (x' : Value) (hx : ∀ M, x' = .map (some M) → M < w.heap.size ∧ ¬ S M) : QAt (w.setCell ⟨D, 2, none⟩ x') base D S T x' y q ∧ Kept w (w.setCell ⟨D, 2, none⟩ x') S S := by
  obtain ⟨v, mo, ks, h1, h2, h3, h4, h5, h6⟩ := h.ex
  have ho : ∀ c, c ≠ D → (w.setCell ⟨D, 2, none⟩ x').heap[c]? = w.heap[c]? := fun c hc => heap_setCell_other _ _ _ _ (by simpa using hc)
  have e : (w.setCell ⟨D, 2, none⟩ x').heap[D]? = some (.cells #[v, .map mo, x', y] T (0, 0)) := by
    rw [heap_setCell_same w D 2 _ _ _ h1]
    rfl
  refine ⟨⟨⟨v, mo, ks, e, h2.keep (fun g hg => ho g (fun e => h2.ne h1 h.ne (by rw [hg, e]))), h3, h4.keep (fun M hM => ho M (fun e => ?_)), fun M hM => ⟨(h5 M hM).1, fun e => (hx M e).2 (h5 M hM).1⟩, h6⟩, h.sD, fun b hb => ⟨(h.bd b hb).1, by simpa using (h.bd b hb).2⟩, h.lo, h.ne, fun M e => by simpa using (hx M e).1⟩, ⟨rfl, rfl, rfl, by simp, fun _ hs => Or.inl hs, fun b _ hs => ho b (fun e => hs (by rw [e]; exact h.sD))⟩⟩
  rcases h4.ex with ⟨h7, _⟩ | ⟨M', h7, h8⟩
  · rw [hM] at h7
    cases h7
  · rw [hM] at h7
    cases h7
    exact h8.ne h1 e
theorem QAt.setY (h : QAt w base D S T x y q) (y' : Value) : QAt (w.setCell ⟨D, 3, none⟩ y') base D S T x y' q ∧ Kept w (w.setCell ⟨D, 3, none⟩ y') S S := by
  obtain ⟨v, mo, ks, h1, h2, h3, h4, h5, h6⟩ := h.ex
  have ho : ∀ c, c ≠ D → (w.setCell ⟨D, 3, none⟩ y').heap[c]? = w.heap[c]? := fun c hc => heap_setCell_other _ _ _ _ (by simpa using hc)
  have e : (w.setCell ⟨D, 3, none⟩ y').heap[D]? = some (.cells #[v, .map mo, x, y'] T (0, 0)) := by
    rw [heap_setCell_same w D 3 _ _ _ h1]
    rfl
  refine ⟨⟨⟨v, mo, ks, e, h2.keep (fun g hg => ho g (fun e => h2.ne h1 h.ne (by rw [hg, e]))), h3, h4.keep (fun M hM => ho M (fun e => ?_)), h5, h6⟩, h.sD, fun b hb => ⟨(h.bd b hb).1, by simpa using (h.bd b hb).2⟩, h.lo, h.ne, fun M e => by simpa using h.xb M e⟩, ⟨rfl, rfl, rfl, by simp, fun _ hs => Or.inl hs, fun b _ hs => ho b (fun e => hs (by rw [e]; exact h.sD))⟩⟩
  rcases h4.ex with ⟨h7, _⟩ | ⟨M', h7, h8⟩
  · rw [hM] at h7
    cases h7
  · rw [hM] at h7
    cases h7
    exact h8.ne h1 e
theorem QAt.grow (h : QAt w base D S T x y q) (hS : ∀ b, S b → S' b) (hb : ∀ b, S' b → base ≤ b ∧ b < w.heap.size) : QAt w base D S' T x y q := by
  obtain ⟨v, mo, ks, h1, h2, h3, h4, h5, h6⟩ := h.ex
  exact ⟨⟨v, mo, ks, h1, h2, fun g hg => hS g (h3 g hg), h4, fun M hM => ⟨hS M (h5 M hM).1, (h5 M hM).2⟩, h6⟩, hS D h.sD, hb, h.lo, h.ne, h.xb⟩
/-- What a walk needs. -/
theorem QAt.cells (h : QAt w base D S T x y q) : w.cell? ⟨D, 2, none⟩ = some x ∧ w.cell? ⟨D, 3, none⟩ = some y ∧ w.frozen? ⟨D, 2, none⟩ = false ∧ w.frozen? ⟨D, 3, none⟩ = false ∧ D < w.heap.size := by
  obtain ⟨v, mo, ks, h1, _⟩ := h.ex
  exact ⟨by simp [World.cell?, h1], by simp [World.cell?, h1], by simp [World.frozen?, h1], by simp [World.frozen?, h1], lt_of_block h1⟩
theorem QAt.below (h : QAt w base D S T x y q) (k : Kept w w' S S') : Below base w w' := k.low h.base_le (fun b hb => (h.bd b hb).1)
end
/-- Those that wait for a mutex. -/
def mxQ (l : List Int) : List Wt := l.map fun t => (t, false, true)
theorem mxQ_length (l : List Int) : (mxQ l).length = l.length := by unfold mxQ; simp
theorem mxQ_has (l : List Int) (t : Int) : qHas (mxQ l) t = hasB l t := by
  rw [Bool.eq_iff_iff, qHas_iff]
  unfold hasB mxQ
  rw [decide_eq_true_eq, List.map_map]
  have : ((fun x : Wt => x.1) ∘ fun t : Int => (t, false, true)) = id := rfl
  rw [this, List.map_id]
/-- The program's mutex in block D. -/
structure PMx (w : World) (base D : Nat) (S : Nat → Prop) (who : Int) (l : List Int) : Prop where
  ex : ∃ by', QAt w base D S 69 (.bool (decide (0 ≤ who))) (.int .i64 by') (mxQ l) ∧ (0 ≤ who → by' = who)
  no : who < 0 → who = -1
  len : l.length ≤ 65536
  pos : ∀ x ∈ l, 0 ≤ x
section
variable {w w' : World} {base base' D : Nat} {S S' : Nat → Prop} {who : Int} {l : List Int}
theorem PMx.sD (h : PMx w base D S who l) : S D := by
  obtain ⟨_, h, _⟩ := h.ex
  exact h.sD
theorem PMx.bd (h : PMx w base D S who l) : ∀ b, S b → base ≤ b ∧ b < w.heap.size := by
  obtain ⟨_, h, _⟩ := h.ex
  exact h.bd
theorem PMx.keep (h : PMx w base D S who l) (hs : w.heap.size ≤ w'.heap.size) (hk : ∀ b, S b → w'.heap[b]? = w.heap[b]?) : PMx w' base D S who l := by
  obtain ⟨b, h1, h2⟩ := h.ex
  exact ⟨⟨b, h1.keep hs hk, h2⟩, h.no, h.len, h.pos⟩
theorem PMx.low (h : PMx w base D S who l) (hb : base' ≤ base) : PMx w base' D S who l := by
  obtain ⟨b, h1, h2⟩ := h.ex
  exact ⟨⟨b, h1.low hb, h2⟩, h.no, h.len, h.pos⟩
theorem PMx.fresh (h : PMx w base D S who l) (k : Below w.heap.size w w') : PMx w' base D S who l := h.keep k.size (fun b hb => k.block b (h.bd b hb).2)
theorem pm_new (w : World) : Calls Try.prog 8 #[] w fun e w' => ∃ D S, e = .returned (.pointer (some ⟨D, 0, none⟩)) ∧ PMx w' w.heap.size D S (-1) [] ∧ Below w.heap.size w w' := by
  have H1 : Hid _ := heap_alloc_new w (.cells #[.slice none 0 0, .map none, .bool false, .int .i64 0] 69)
  have B1 : Hid _ := (Below.refl _ w).alloc (Nat.le_refl _) (.cells #[.slice none 0 0, .map none, .bool false, .int .i64 0] 69)
  go_enter Try.func8, Try.ntmps8
  go_wp2
  go_ret
  refine ⟨w.heap.size, fun b => b = w.heap.size, rfl, ⟨⟨0, ⟨⟨.slice none 0 0, none, [], H1.out, Slid.nil _, fun g hg => (by simp [Value.ownBlock] at hg), SetO.nil _, fun M e => (by cases e), List.Perm.refl _⟩, rfl, fun b hb => ⟨by omega, by simp; omega⟩, fun p hp => (by cases hp), by decide, fun M e => (by cases e)⟩, fun h => absurd h (by decide)⟩, fun _ => rfl, Nat.zero_le _, fun x hx => (by cases hx)⟩, B1.out⟩
theorem pm_holds (h : PMx w base D S who l) (t : Int) : Calls Try.prog 27 #[.pointer (some ⟨D, 0, none⟩), .int .i64 t] w fun e w' => e = .returned (.bool (decide (0 ≤ who) && (who == t))) ∧ w = w' := by
  obtain ⟨b, h1, h2⟩ := h.ex
  obtain ⟨c2, c3, _⟩ := h1.cells
  clear h1 h
  by_cases h0 : 0 ≤ who
  · obtain rfl := h2 h0
    rw [decide_eq_true h0] at c2 ⊢
    clear h0 h2
    cases hb : (b == t) with
    | true =>
      go_enter Try.func27, Try.ntmps27
      go_wp2
      go_ret
      exact ⟨rfl, rfl⟩
    | false =>
      go_enter Try.func27, Try.ntmps27
      go_wp2
      go_ret
      exact ⟨rfl, rfl⟩
  · rw [decide_eq_false h0] at c2 ⊢
    clear h0 h2
    go_enter Try.func27, Try.ntmps27
    go_wp2
    go_ret
    exact ⟨rfl, rfl⟩
theorem pm_holder (h : PMx w base D S who l) : Calls Try.prog 14 #[.pointer (some ⟨D, 0, none⟩)] w fun e w' => e = .returned (.int .i64 who) ∧ w = w' := by
  obtain ⟨b, h1, h2⟩ := h.ex
  obtain ⟨c2, c3, _⟩ := h1.cells
  by_cases h0 : 0 ≤ who
  · obtain rfl := h2 h0
    rw [decide_eq_true h0] at c2
    clear h0 h2 h1 h
    go_enter Try.func14, Try.ntmps14
    go_wp2
    go_ret
    exact ⟨rfl, rfl⟩
  · obtain rfl := h.no (by omega)
    rw [decide_eq_false h0] at c2
    clear h0 h2 h1 h
    go_enter Try.func14, Try.ntmps14
    go_wp2
    go_ret
    exact ⟨rfl, rfl⟩
theorem pm_holder_nil (w : World) : Calls Try.prog 14 #[.pointer none] w fun e w' => e = .returned (.int .i64 (-1)) ∧ w = w' := by
  go_enter Try.func14, Try.ntmps14
  go_wp2
  go_ret
  exact ⟨rfl, rfl⟩
theorem pm_lock_nil (t : Int) (w : World) : Calls Try.prog 12 #[.pointer none, .int .i64 t] w fun e w' => ∃ b, e = .returned (.tuple #[.bool b, .int .i64 1]) ∧ w = w' := by
  go_enter Try.func12, Try.ntmps12
  go_wp2
  go_ret2
  exact ⟨false, rfl, rfl⟩
theorem pm_unlock_nil (t : Int) (w : World) : Calls Try.prog 10 #[.pointer none, .int .i64 t] w fun e w' => e = .returned (.tuple #[.int .i64 (-1), .int .i64 1]) ∧ w = w' := by
  go_enter Try.func10, Try.ntmps10
  go_wp2
  go_ret2
  exact ⟨rfl, rfl⟩
theorem pm_queue_nil (w : World) : Calls Try.prog 16 #[.pointer none] w fun e w' => ∃ u, e = .returned u ∧ RowAt intC w' u [] ∧ Below w.heap.size w w' := by
  go_enter Try.func16, Try.ntmps16
  go_wp2
  go_ret
  exact ⟨_, rfl, RowAt.nil w, Below.refl _ w⟩
end
end Go.Proofs.Ytlcacjekpdmigaa
