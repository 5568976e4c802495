/-
  The queue of a lock in memory (package lmutex): who waits, in the order of asking; looked into. No condition.
-/
import Derived.Test.YtlcacjekpdmigaaGSet
import Derived.Test.YtlcacjekpdmigaaGSlid
import Derived.Test.YtlcacjekpdmigaaRwUnlock
namespace Go.Proofs.Ytlcacjekpdmigaa
open Go.RowKit

/-- A lock in block D: its queue ahead, two cells more behind; 'S': the blocks that are its own. -/
structure QAt (w : World) (base D : Nat) (S : Nat → Prop) (T : TypeId) (x y : Value) (q : List Wt) : Prop where
  ex : ∃ v mo ks, w.heap[D]? = some (.cells #[v, .map mo, x, y] T (0, 0)) ∧ Slid waitC 3 72 w v q ∧ (∀ g, v.ownBlock = some g → S g) ∧ SetO w mo ks ∧ (∀ M, mo = some M → S M ∧ x ≠ .map (some M)) ∧ ks.Perm (q.map (·.1))
  sD : S D
  bd : ∀ b, S b → base ≤ b ∧ b < w.heap.size
  lo : ∀ p ∈ q, okI p.1
  ne : 72 ≠ T
  xb : ∀ M, x = .map (some M) → M < w.heap.size
section
variable {w w' : World} {base base' D : Nat} {S S' : Nat → Prop} {T : TypeId} {x y : Value} {q : List Wt}
theorem QAt.keep (h : QAt w base D S T x y q) (hs : w.heap.size ≤ w'.heap.size) (hk : ∀ b, S b → w'.heap[b]? = w.heap[b]?) : QAt w' base D S T x y q := by
  obtain ⟨v, mo, ks, h1, h2, h3, h4, h5, h6⟩ := h.ex
  exact ⟨⟨v, mo, ks, (hk D h.sD).trans h1, h2.keep (fun g hg => hk g (h3 g hg)), h3, h4.keep (fun M hM => hk M (h5 M hM).1), h5, h6⟩, h.sD, fun b hb => ⟨(h.bd b hb).1, Nat.lt_of_lt_of_le (h.bd b hb).2 hs⟩, h.lo, h.ne, fun M e => Nat.lt_of_lt_of_le (h.xb M e) hs⟩
theorem QAt.fresh (h : QAt w base D S T x y q) (k : Below w.heap.size w w') : QAt w' base D S T x y q := h.keep k.size (fun b hb => k.block b (h.bd b hb).2)
theorem QAt.low (h : QAt w base D S T x y q) (hb : base' ≤ base) : QAt w base' D S T x y q := ⟨h.ex, h.sD, fun b hs => ⟨Nat.le_trans hb (h.bd b hs).1, (h.bd b hs).2⟩, h.lo, h.ne, h.xb⟩
theorem QAt.base_le (h : QAt w base D S T x y q) : base ≤ w.heap.size := by have := h.bd D h.sD; omega
theorem QAt.nodup (h : QAt w base D S T x y q) : (q.map (·.1)).Nodup := by
  obtain ⟨v, mo, ks, h1, h2, h3, h4, h5, h6⟩ := h.ex
  exact h6.nodup_iff.1 h4.nodup
/-- Does one wait? -/
def qHas (q : List Wt) (t : Int) : Bool := q.any fun p => p.1 == t
theorem qHas_iff {q : List Wt} {t : Int} : qHas q t = true ↔ t ∈ q.map (·.1) := by
  unfold qHas
  rw [List.any_eq_true, List.mem_map]
  constructor
  · rintro ⟨p, hp, e⟩
    exact ⟨p, hp, beq_iff_eq.1 e⟩
  · rintro ⟨p, hp, e⟩
    exact ⟨p, hp, beq_iff_eq.2 e⟩
set_option maxHeartbeats 3200000 in
set_option maxRecDepth 100000 in
theorem q_waits (h : QAt w base D S T x y q) (t : Int) (ht : okI t) : Calls Try.prog 30 #[.pointer (some ⟨D, 0, none⟩), .int .i64 t] w fun e w' => e = .returned (.bool (qHas q t)) ∧ Below w.heap.size w w' := by
  obtain ⟨v, mo, ks, h1, h2, h3, h4, h5, h6⟩ := h.ex
  obtain ⟨a, cap, rfl⟩ := h2.form
  have hl := h4.look (x := t) ht
  have e : decide (t ∈ ks) = qHas q t := by
    rw [Bool.eq_iff_iff, decide_eq_true_eq, qHas_iff]
    exact h6.mem_iff
  rw [e] at hl
  have c1 : w.cell? ⟨D, 1, none⟩ = some (.map mo) := by simp [World.cell?, h1]
  have HB : Hid _ := (Below.refl _ w).alloc (Nat.le_refl _) (.cells #[] 83)
  clear h1 h2 h3 h4 h5 h6 h e
  go_enter Try.func30, Try.ntmps30
  go_wp2
  go_ret
  exact ⟨rfl, HB.out⟩
theorem q_anybody (h : QAt w base D S T x y q) : Calls Try.prog 28 #[.pointer (some ⟨D, 0, none⟩)] w fun e w' => e = .returned (.bool (decide (0 < q.length))) ∧ w = w' := by
  obtain ⟨v, mo, ks, h1, h2, h3, h4, h5, h6⟩ := h.ex
  obtain ⟨a, cap, rfl⟩ := h2.form
  have c0 : w.cell? ⟨D, 0, none⟩ = some (.slice a q.length cap) := by simp [World.cell?, h1]
  clear h1 h2 h3 h4 h5 h6 h
  by_cases h0 : 0 < q.length
  · rw [decide_eq_true h0]
    have q0 : decide ((0 : Int) < (q.length : Int)) = true := decide_eq_true (by omega)
    go_enter Try.func28, Try.ntmps28
    go_wp2
    go_ret
    exact ⟨by simp, rfl⟩
  · rw [decide_eq_false h0]
    have q0 : decide ((0 : Int) < (q.length : Int)) = false := decide_eq_false (by omega)
    go_enter Try.func28, Try.ntmps28
    go_wp2
    go_ret
    exact ⟨by simp, rfl⟩
theorem infoW3 : (Try.prog.info? 72).map (·.size) = some 3 := by kernel_rfl
/-- The lock's third cell, if it holds a map, holds it as it was. -/
def XKept (w w' : World) (x : Value) : Prop := ∀ M es c, x = .map (some M) → w.heap[M]? = some (.map es c) → w'.heap[M]? = w.heap[M]?
theorem field_task (t : Int) (r b : Bool) (w : World) : (Instr.field 72 (.agg #[.int .i64 t, .bool r, .bool b]) 0).run Try.prog w = .ok (.int .i64 t) w := by kernel_rfl
theorem field_reader (t : Int) (r b : Bool) (w : World) : (Instr.field 72 (.agg #[.int .i64 t, .bool r, .bool b]) 1).run Try.prog w = .ok (.bool r) w := by kernel_rfl
set_option maxHeartbeats 3200000 in
set_option maxRecDepth 100000 in
theorem q_first {t : Int} {r b : Bool} (h : QAt w base D S T x y ((t, r, b) :: q)) : Calls Try.prog 34 #[.pointer (some ⟨D, 0, none⟩)] w fun e w' => e = .returned (.agg #[.int .i64 t, .bool r, .bool b]) ∧ Below w.heap.size w w' := by
  obtain ⟨v, mo, ks, h1, h2, h3, h4, h5, h6⟩ := h.ex
  obtain ⟨bk, off, cap, rfl, hc, hbk, hx⟩ := (h2.row waitC_len).cells waitC_len (by simp)
  have c0 : w.cell? ⟨D, 0, none⟩ = some (.slice (some ⟨bk, off, none⟩) ((t, r, b) :: q).length cap) := by simp [World.cell?, h1]
  have z0 : w.cell? ⟨bk, off, none⟩ = some (.int .i64 t) := hx 0 (by simp) 0 _ (by decide) rfl
  have z1 : w.cell? ⟨bk, off + 1, none⟩ = some (.bool r) := hx 0 (by simp) 1 _ (by decide) rfl
  have z2 : w.cell? ⟨bk, off + 2, none⟩ = some (.bool b) := hx 0 (by simp) 2 _ (by decide) rfl
  have q0 : decide ((0 : Int) < ((q.length : Int) + 1)) = true := decide_eq_true (by omega)
  have hD := lt_of_block h1
  have HB : Hid _ := (Below.refl _ w).alloc (Nat.le_refl _) (.cells #[.int .i64 t, .bool r, .bool b] 72)
  clear h1 h2 h3 h4 h5 h6 h hx
  go_enter Try.func34, Try.ntmps34
  go_wp2
  refine bodyPost_ret (results_cell_row Try.results34 _ _ w.heap.size 72 _ (0, 0) _ rfl (heap_alloc_new w _) Try.underlying72 rfl infoW3) rfl ?_
  exact ⟨rfl, HB.out⟩
end
end Go.Proofs.Ytlcacjekpdmigaa
