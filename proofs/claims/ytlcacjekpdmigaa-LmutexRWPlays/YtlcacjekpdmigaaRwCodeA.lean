/-
  The program's rwlock in memory (package lmutex): who holds it, rising, whether for writing, who waits; new; asked whether one holds it, whether there is room; given to one. The conditions: the task's number is an int's; at most 65536 hold it or wait.
-/
import Derived.Test.YtlcacjekpdmigaaMxCodeB
namespace Go.Proofs.Ytlcacjekpdmigaa
open Go.RowKit

section
variable {w w' : World} {base base' D M : Nat} {S S' : Nat → Prop} {T : TypeId} {x y : Value} {q : List Wt} {hs : List Int}
theorem SetO.keepX {ho : Option Nat} (h : SetO w ho hs) (k : XKept w w' (.map ho)) : SetO w' ho hs := by
  rcases h.ex with h0 | ⟨M, rfl, h1⟩
  · exact ⟨Or.inl h0⟩
  · obtain ⟨D, ⟨es, c, hb, r⟩, r2⟩ := h1
    exact SetO.some ⟨D, ⟨es, c, (k M es c rfl hb).trans hb, r⟩, r2⟩
/-- The third cell's map turns, and nothing else. -/
theorem QAt.turnX (h : QAt w base D S T (.map (some M)) y q) (hm : SetAt w M hs) (g : w.grownBy w' (some M)) : QAt w' base D S T (.map (some M)) y q := by
  obtain ⟨v, mo, ks, h1, h2, h3, h4, h5, h6⟩ := h.ex
  have hb : ∀ b, b < w.heap.size → b ≠ M → w'.heap[b]? = w.heap[b]? := fun b hb hn => g.block b hb (fun e => hn (Option.some.inj e))
  have hMD : M ≠ D := hm.ne h1
  refine ⟨⟨v, mo, ks, (hb D (lt_of_block h1) (fun e => hMD e.symm)).trans h1, h2.keep (fun g hg => hb g (h2.lt hg) (fun e => ?_)), h3, h4.keep (fun M' hM' => hb M' (h.bd M' (h5 M' hM').1).2 (fun e => (h5 M' hM').2 (by rw [e]))), h5, h6⟩, h.sD, fun b hb => ⟨(h.bd b hb).1, Nat.lt_of_lt_of_le (h.bd b hb).2 g.size⟩, h.lo, h.ne, fun M' e => Nat.lt_of_lt_of_le (h.xb M' e) g.size⟩
  obtain ⟨cur, hc⟩ := h2.block hg
  exact hm.ne hc e.symm
end
theorem putL_perm (l : List Int) (n : Int) : (putL l n).Perm (n :: l) := by
  unfold putL
  refine List.perm_middle.trans (List.Perm.cons n ?_)
  rw [List.takeWhile_append_dropWhile]
theorem putL_sorted : ∀ (l : List Int) (n : Int), l.Pairwise (· < ·) → n ∉ l → (putL l n).Pairwise (· < ·)
  | [], n, _, _ => by simp [putL]
  | a :: l, n, h, hn => by
    rw [List.pairwise_cons] at h
    by_cases ha : a < n
    · have e : putL (a :: l) n = a :: putL l n := by simp [putL, ha]
      rw [e, List.pairwise_cons]
      refine ⟨fun b hb => ?_, putL_sorted l n h.2 (fun e => hn (by simp [e]))⟩
      rcases putL_mem hb with e | hb
      · rw [e]; exact ha
      · exact h.1 b hb
    · have e : putL (a :: l) n = n :: a :: l := by simp [putL, ha]
      have hna : n ≠ a := fun e => hn (by simp [e])
      rw [e, List.pairwise_cons]
      refine ⟨fun b hb => ?_, List.pairwise_cons.2 h⟩
      rcases List.mem_cons.1 hb with e | hb
      · omega
      · have := h.1 b hb
        omega
/-- The program's rwlock in block D. -/
structure PRw (w : World) (base D : Nat) (S : Nat → Prop) (L : List Int) (wt : Bool) (q : List Wt) : Prop where
  ex : ∃ ho hs, QAt w base D S 76 (.map ho) (.bool (wt && decide (0 < L.length))) q ∧ SetO w ho hs ∧ (∀ M, ho = some M → S M) ∧ hs.Perm L
  srt : L.Pairwise (· < ·)
  one : wt = true → L.length ≤ 1
  dis : ∀ t ∈ L, t ∉ q.map (·.1)
  len : L.length + q.length ≤ 65536
  lo : ∀ t ∈ L, okI t
section
variable {w w' : World} {base base' D : Nat} {S S' : Nat → Prop} {L : List Int} {wt : Bool} {q : List Wt}
theorem PRw.sD (h : PRw w base D S L wt q) : S D := by
  obtain ⟨_, _, h, _⟩ := h.ex
  exact h.sD
theorem PRw.bd (h : PRw w base D S L wt q) : ∀ b, S b → base ≤ b ∧ b < w.heap.size := by
  obtain ⟨_, _, h, _⟩ := h.ex
  exact h.bd
theorem PRw.keep (h : PRw w base D S L wt q) (hs : w.heap.size ≤ w'.heap.size) (hk : ∀ b, S b → w'.heap[b]? = w.heap[b]?) : PRw w' base D S L wt q := by
  obtain ⟨ho, ks, h1, h2, h3, h4⟩ := h.ex
  exact ⟨⟨ho, ks, h1.keep hs hk, h2.keep (fun M hM => hk M (h3 M hM)), h3, h4⟩, h.srt, h.one, h.dis, h.len, h.lo⟩
theorem PRw.low (h : PRw w base D S L wt q) (hb : base' ≤ base) : PRw w base' D S L wt q := by
  obtain ⟨ho, ks, h1, h2⟩ := h.ex
  exact ⟨⟨ho, ks, h1.low hb, h2⟩, h.srt, h.one, h.dis, h.len, h.lo⟩
theorem PRw.fresh (h : PRw w base D S L wt q) (k : Below w.heap.size w w') : PRw w' base D S L wt q := h.keep k.size (fun b hb => k.block b (h.bd b hb).2)
theorem pr_new (w : World) : Calls Try.prog 18 #[] w fun e w' => ∃ D S, e = .returned (.pointer (some ⟨D, 0, none⟩)) ∧ PRw w' w.heap.size D S [] false [] ∧ Below w.heap.size w w' := by
  have H1 : Hid _ := heap_alloc_new w (.cells #[.slice none 0 0, .map none, .map none, .bool false] 76)
  have B1 : Hid _ := (Below.refl _ w).alloc (Nat.le_refl _) (.cells #[.slice none 0 0, .map none, .map none, .bool false] 76)
  go_enter Try.func18, Try.ntmps18
  go_wp2
  go_ret
  refine ⟨w.heap.size, fun b => b = w.heap.size, rfl, ⟨⟨none, [], ⟨⟨.slice none 0 0, none, [], H1.out, Slid.nil _, fun g hg => (by simp [Value.ownBlock] at hg), SetO.nil _, fun M e => (by cases e), List.Perm.refl _⟩, rfl, fun b hb => ⟨by omega, by simp; omega⟩, fun p hp => (by cases hp), by decide, fun M e => (by cases e)⟩, SetO.nil _, fun M e => (by cases e), List.Perm.refl _⟩, List.Pairwise.nil, fun e => (by cases e), fun t ht => (by cases ht), Nat.zero_le _, fun t ht => (by cases ht)⟩, B1.out⟩
theorem pr_lock_nil (t : Int) (rd : Bool) (w : World) : Calls Try.prog 21 #[.pointer none, .int .i64 t, .bool rd] w fun e w' => ∃ b, e = .returned (.tuple #[.bool b, .int .i64 1]) ∧ w = w' := by
  go_enter Try.func21, Try.ntmps21
  go_wp2
  go_ret2
  exact ⟨false, rfl, rfl⟩
theorem pr_unlock_nil (t : Int) (rd : Bool) (w : World) : Calls Try.prog 19 #[.pointer none, .int .i64 t, .bool rd] w fun e w' => ∃ u, e = .returned (.tuple #[u, .int .i64 1]) ∧ RowAt intC w' u [] ∧ Below w.heap.size w w' := by
  go_enter Try.func19, Try.ntmps19
  go_wp2
  go_ret2
  exact ⟨_, rfl, RowAt.nil w, Below.refl _ w⟩
theorem pr_holders_nil (w : World) : Calls Try.prog 23 #[.pointer none] w fun e w' => ∃ u, e = .returned (.tuple #[u, .bool false]) ∧ RowAt intC w' u [] ∧ Below w.heap.size w w' := by
  go_enter Try.func23, Try.ntmps23
  go_wp2
  go_ret2
  exact ⟨_, rfl, RowAt.nil w, Below.refl _ w⟩
theorem pr_queue_nil (w : World) : Calls Try.prog 25 #[.pointer none] w fun e w' => ∃ u, e = .returned u ∧ RowAt waitC w' u [] ∧ Below w.heap.size w w' := by
  go_enter Try.func25, Try.ntmps25
  go_wp2
  go_ret
  exact ⟨_, rfl, RowAt.nil w, Below.refl _ w⟩
set_option maxHeartbeats 3200000 in
set_option maxRecDepth 100000 in
theorem pr_holds (h : PRw w base D S L wt q) (t : Int) (ht : okI t) : Calls Try.prog 32 #[.pointer (some ⟨D, 0, none⟩), .int .i64 t] w fun e w' => e = .returned (.bool (hasB L t)) ∧ Below w.heap.size w w' := by
  obtain ⟨ho, hs, h1, h2, h3, h4⟩ := h.ex
  have hl := h2.look (x := t) ht
  have e : decide (t ∈ hs) = hasB L t := by
    unfold hasB
    rw [Bool.eq_iff_iff, decide_eq_true_eq, decide_eq_true_eq]
    exact h4.mem_iff
  rw [e] at hl
  have c2 := (h1.cells).1
  have HB : Hid _ := (Below.refl _ w).alloc (Nat.le_refl _) (.cells #[] 83)
  clear h1 h2 h3 h4 h e
  go_enter Try.func32, Try.ntmps32
  go_wp2
  go_ret
  exact ⟨rfl, HB.out⟩
set_option maxHeartbeats 3200000 in
set_option maxRecDepth 100000 in
theorem pr_room (h : PRw w base D S L wt q) (rd : Bool) : Calls Try.prog 33 #[.pointer (some ⟨D, 0, none⟩), .bool rd] w fun e w' => e = .returned (.bool (fitsB L wt rd)) ∧ w = w' := by
  obtain ⟨ho, hs, h1, h2, h3, h4⟩ := h.ex
  have hl := h2.len
  obtain ⟨c2, c3, _⟩ := h1.cells
  rw [h4.length_eq] at hl
  clear h1 h2 h3 h4 h
  unfold fitsB
  by_cases h0 : L.length = 0
  · rw [decide_eq_true h0, Bool.true_or]
    have q0 : ((L.length : Int) == 0) = true := by rw [beq_iff_eq]; omega
    clear h0 c3
    go_enter Try.func33, Try.ntmps33
    go_wp2
    go_ret
    exact ⟨rfl, rfl⟩
  · rw [decide_eq_false h0, Bool.false_or]
    have q0 : ((L.length : Int) == 0) = false := by rw [beq_eq_false_iff_ne]; omega
    rw [decide_eq_true (by omega), Bool.and_true] at c3
    clear h0
    cases rd with
    | false =>
      go_enter Try.func33, Try.ntmps33
      go_wp2
      go_ret
      exact ⟨rfl, rfl⟩
    | true =>
      go_enter Try.func33, Try.ntmps33
      go_wp2
      go_ret
      exact ⟨rfl, rfl⟩
end
end Go.Proofs.Ytlcacjekpdmigaa
