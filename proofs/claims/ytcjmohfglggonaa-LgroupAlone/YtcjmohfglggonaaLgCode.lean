/-
  Package lgroup's waitgroup and once: each call as plain data. The conditions: a task's number is an int's; fewer than 65536 wait.
-/
import Derived.Test.YtcjmohfglggonaaLgOnce
import Derived.Test.YtcjmohfglggonaaLjMem
import Derived.Deep.RegionHeld3
namespace Go.Proofs.Ytcjmohfglggonaa
open Go.RowKit

/-- The program's waitgroup in block D. -/
structure PGr (w : World) (base D : Nat) (S : Nat → Prop) (n : Int) (l : List Int) : Prop where
  q : JAt w base D S 63 [.int .i64 n] l
  len : l.length ≤ 65536
  pos : 0 ≤ n
/-- The program's once in block D. -/
structure POn (w : World) (base D : Nat) (S : Nat → Prop) (who : Int) (ov : Bool) (l : List Int) : Prop where
  ex : ∃ b, JAt w base D S 68 [.bool (decide (0 ≤ who)), .bool ov, .int .i64 b] l ∧ (0 ≤ who → b = who)
  no : who < 0 → who = -1
  ov : 0 ≤ who → ov = false
  len : l.length ≤ 65536
/-- What is handed out lies in what was the thing's own, or is new; and it is no longer the thing's. -/
def Handed (w : World) (S S' : Nat → Prop) (u : Value) : Prop := ∀ bk off m cap, 0 < m → u = .slice (some ⟨bk, off, none⟩) m cap → (S bk ∨ w.heap.size ≤ bk) ∧ ¬ S' bk
theorem Handed.nil (w : World) (S S' : Nat → Prop) : Handed w S S' (.slice none 0 0) := fun _ _ _ _ _ e => (by simp at e)
section
variable {w w' : World} {base base' D : Nat} {S S' : Nat → Prop} {n who : Int} {ov : Bool} {l : List Int}
theorem PGr.sD (h : PGr w base D S n l) : S D := h.q.sD
theorem PGr.bd (h : PGr w base D S n l) : ∀ b, S b → base ≤ b ∧ b < w.heap.size := h.q.bd
theorem PGr.keep (h : PGr w base D S n l) (hs : w.heap.size ≤ w'.heap.size) (hk : ∀ b, S b → w'.heap[b]? = w.heap[b]?) : PGr w' base D S n l := ⟨h.q.keep hs hk, h.len, h.pos⟩
theorem PGr.low (h : PGr w base D S n l) (hb : base' ≤ base) : PGr w base' D S n l := ⟨h.q.low hb, h.len, h.pos⟩
theorem PGr.fresh (h : PGr w base D S n l) (k : Below w.heap.size w w') : PGr w' base D S n l := h.keep k.size (fun b hb => k.block b (h.bd b hb).2)
theorem POn.sD (h : POn w base D S who ov l) : S D := by
  obtain ⟨_, h, _⟩ := h.ex
  exact h.sD
theorem POn.bd (h : POn w base D S who ov l) : ∀ b, S b → base ≤ b ∧ b < w.heap.size := by
  obtain ⟨_, h, _⟩ := h.ex
  exact h.bd
theorem POn.keep (h : POn w base D S who ov l) (hs : w.heap.size ≤ w'.heap.size) (hk : ∀ b, S b → w'.heap[b]? = w.heap[b]?) : POn w' base D S who ov l := by
  obtain ⟨b, h1, h2⟩ := h.ex
  exact ⟨⟨b, h1.keep hs hk, h2⟩, h.no, h.ov, h.len⟩
theorem POn.low (h : POn w base D S who ov l) (hb : base' ≤ base) : POn w base' D S who ov l := by
  obtain ⟨b, h1, h2⟩ := h.ex
  exact ⟨⟨b, h1.low hb, h2⟩, h.no, h.ov, h.len⟩
theorem POn.fresh (h : POn w base D S who ov l) (k : Below w.heap.size w w') : POn w' base D S who ov l := h.keep k.size (fun b hb => k.block b (h.bd b hb).2)
theorem pg_new (w : World) : Calls Try.prog 8 #[] w fun e w' => ∃ D S, e = .returned (.pointer (some ⟨D, 0, none⟩)) ∧ PGr w' w.heap.size D S 0 [] ∧ Below w.heap.size w w' := by
  have H1 : Hid _ := heap_alloc_new w (.cells #[.slice none 0 0, .map none, .int .i64 0] 63)
  have B1 : Hid _ := (Below.refl _ w).alloc (Nat.le_refl _) (.cells #[.slice none 0 0, .map none, .int .i64 0] 63)
  go_enter Try.func8, Try.ntmps8
  go_wp2
  go_ret
  refine ⟨w.heap.size, fun b => b = w.heap.size, rfl, ⟨⟨⟨.slice none 0 0, none, [], H1.out, Slid.nil _, fun g hg => (by simp [Value.ownBlock] at hg), SetO.nil _, fun M e => (by cases e), List.Perm.refl _⟩, rfl, fun b hb => ⟨by omega, by simp; omega⟩, fun p hp => (by cases hp), by decide⟩, Nat.zero_le _, Int.le_refl _⟩, B1.out⟩
theorem po_new (w : World) : Calls Try.prog 17 #[] w fun e w' => ∃ D S, e = .returned (.pointer (some ⟨D, 0, none⟩)) ∧ POn w' w.heap.size D S (-1) false [] ∧ Below w.heap.size w w' := by
  have H1 : Hid _ := heap_alloc_new w (.cells #[.slice none 0 0, .map none, .bool false, .bool false, .int .i64 0] 68)
  have B1 : Hid _ := (Below.refl _ w).alloc (Nat.le_refl _) (.cells #[.slice none 0 0, .map none, .bool false, .bool false, .int .i64 0] 68)
  go_enter Try.func17, Try.ntmps17
  go_wp2
  go_ret
  refine ⟨w.heap.size, fun b => b = w.heap.size, rfl, ⟨⟨0, ⟨⟨.slice none 0 0, none, [], H1.out, Slid.nil _, fun g hg => (by simp [Value.ownBlock] at hg), SetO.nil _, fun M e => (by cases e), List.Perm.refl _⟩, rfl, fun b hb => ⟨by omega, by simp; omega⟩, fun p hp => (by cases hp), by decide⟩, fun h => absurd h (by decide)⟩, fun _ => rfl, fun h => absurd h (by decide), Nat.zero_le _⟩, B1.out⟩
theorem pg_count (h : PGr w base D S n l) : Calls Try.prog 14 #[.pointer (some ⟨D, 0, none⟩)] w fun e w' => e = .returned (.int .i64 n) ∧ w = w' := by
  obtain ⟨c2, _⟩ := h.q.cell (i := 0) rfl
  clear h
  go_enter Try.func14, Try.ntmps14
  go_wp2
  go_ret
  exact ⟨rfl, rfl⟩
theorem pg_count_nil (w : World) : Calls Try.prog 14 #[.pointer none] w fun e w' => e = .returned (.int .i64 0) ∧ w = w' := by
  go_enter Try.func14, Try.ntmps14
  go_wp2
  go_ret
  exact ⟨rfl, rfl⟩
theorem pg_queue (h : PGr w base D S n l) : Calls Try.prog 15 #[.pointer (some ⟨D, 0, none⟩)] w fun e w' => ∃ u, e = .returned u ∧ RowAt intC w' u l ∧ Below w.heap.size w w' := by
  have ha := j_all h.q h.len
  clear h
  go_enter Try.func15, Try.ntmps15
  go_wp2_with (go_at_call 28; refine ha.mono ?_; rintro e w1 ⟨u, rfl, r1, b1⟩; obtain ⟨pu, cu, rfl⟩ := r1.form)
  go_ret
  exact ⟨_, rfl, r1, b1⟩
theorem pg_queue_nil (w : World) : Calls Try.prog 15 #[.pointer none] w fun e w' => ∃ u, e = .returned u ∧ RowAt intC w' u [] ∧ Below w.heap.size w w' := by
  go_enter Try.func15, Try.ntmps15
  go_wp2
  go_ret
  exact ⟨_, rfl, RowAt.nil w, Below.refl _ w⟩
theorem pg_add_nil (k : Int) (w : World) : Calls Try.prog 11 #[.pointer none, .int .i64 k] w fun e w' => ∃ u, e = .returned (.tuple #[u, .int .i64 1]) ∧ Below w.heap.size w w' := by
  go_enter Try.func11, Try.ntmps11
  go_wp2
  go_ret2
  exact ⟨_, rfl, Below.refl _ w⟩
theorem pg_wait_nil (t : Int) (w : World) : Calls Try.prog 9 #[.pointer none, .int .i64 t] w fun e w' => ∃ b, e = .returned (.tuple #[.bool b, .int .i64 1]) ∧ w = w' := by
  go_enter Try.func9, Try.ntmps9
  go_wp2
  go_ret2
  exact ⟨_, rfl, rfl⟩
theorem po_do_nil (t : Int) (w : World) : Calls Try.prog 21 #[.pointer none, .int .i64 t] w fun e w' => ∃ b c, e = .returned (.tuple #[.bool b, .bool c, .int .i64 1]) ∧ w = w' := by
  go_enter Try.func21, Try.ntmps21
  go_wp2
  go_returns
  exact ⟨_, _, rfl, rfl⟩
theorem po_done_nil (t : Int) (w : World) : Calls Try.prog 19 #[.pointer none, .int .i64 t] w fun e w' => ∃ u, e = .returned (.tuple #[u, .int .i64 1]) ∧ Below w.heap.size w w' := by
  go_enter Try.func19, Try.ntmps19
  go_wp2
  go_ret2
  exact ⟨_, rfl, Below.refl _ w⟩
theorem po_state_nil (w : World) : Calls Try.prog 23 #[.pointer none] w fun e w' => e = .returned (.tuple #[.int .i64 (-1), .bool false]) ∧ w = w' := by
  go_enter Try.func23, Try.ntmps23
  go_wp2
  go_ret2
  exact ⟨rfl, rfl⟩
set_option maxHeartbeats 6400000 in
set_option maxRecDepth 100000 in
theorem pg_wait (h : PGr w base D S n l) (t : Int) (ht : okI t) (hl : l.length < 65536) : Calls Try.prog 9 #[.pointer (some ⟨D, 0, none⟩), .int .i64 t] w fun e w' => e = .returned (.tuple #[.bool (gWB n l t), .int .i64 (gWZ l t)]) ∧ ∃ S', PGr w' base D S' n (gWL n l t) ∧ Kept w w' S S' := by
  have H : Hid (PGr w base D S n l) := h
  by_cases h1 : t < 0
  · have e1 : gWZ l t = 1 := by unfold gWZ; rw [if_pos h1]
    have e2 : gWB n l t = false := by unfold gWB; rw [e1]; rfl
    have e3 : gWL n l t = l := by unfold gWL; rw [e1, if_neg (by simp)]
    rw [e1, e2, e3]
    have q1 : decide (t < 0) = true := decide_eq_true h1
    clear h e1 e2 e3 h1
    go_enter Try.func9, Try.ntmps9
    go_wp2
    go_ret2
    exact ⟨rfl, S, H.out, Kept.refl _ _⟩
  have q1 : decide (t < 0) = false := decide_eq_false h1
  have hh := j_has h.q t ht
  have hD := h.q.lt
  obtain ⟨c2, f2⟩ := h.q.cell (i := 0) rfl
  cases hb : hasB l t with
  | true =>
    have e1 : gWZ l t = 12 := by unfold gWZ; rw [if_neg h1, if_pos (by unfold hasB at hb; simpa using hb)]
    have e2 : gWB n l t = false := by unfold gWB; rw [e1]; rfl
    have e3 : gWL n l t = l := by unfold gWL; rw [e1, if_neg (by simp)]
    rw [e1, e2, e3]
    rw [hb] at hh
    clear h e1 e2 e3 h1 hb
    go_enter Try.func9, Try.ntmps9
    go_wp2_with (go_at_call 24; refine hh.mono ?_; rintro e w1 ⟨rfl, b1⟩)
    go_ret2
    exact ⟨rfl, S, H.out.fresh b1, Kept.of b1⟩
  | false =>
    have e1 : gWZ l t = 0 := by unfold gWZ; rw [if_neg h1, if_neg (by unfold hasB at hb; simpa using hb)]
    by_cases h0 : n = 0
    · have e2 : gWB n l t = true := by unfold gWB; rw [e1, h0]; rfl
      have e3 : gWL n l t = l := by unfold gWL; rw [if_neg (fun e => e.2 h0)]
      rw [e1, e2, e3]
      rw [hb] at hh
      subst h0
      clear h e1 e2 e3 h1 hb
      go_enter Try.func9, Try.ntmps9
      go_wp2_with (go_at_call 24; refine hh.mono ?_; rintro e w1 ⟨rfl, b1⟩; have z2 := (b1.cell (p := ⟨D, 2, none⟩) (by exact hD)).trans c2)
      go_ret2
      exact ⟨rfl, S, H.out.fresh b1, Kept.of b1⟩
    · have e2 : gWB n l t = false := by unfold gWB; exact decide_eq_false (fun e => h0 e.2)
      have e3 : gWL n l t = l ++ [t] := by unfold gWL; rw [if_pos ⟨e1, h0⟩]
      rw [e1, e2, e3]
      have q2 : decide (0 < n) = true := decide_eq_true (by have := h.pos; omega)
      have hj : ∀ w1 : World, Below w.heap.size w w1 → Calls Try.prog 25 #[.pointer (some ⟨D, 0, none⟩), .int .i64 t] w1 fun e w' => e = .returned (.tuple #[]) ∧ ∃ S', PGr w' base D S' n (l ++ [t]) ∧ Kept w w' S S' := fun w1 b1 =>
        (j_join (h.q.fresh b1) t ht hb hl).mono (fun e w' ⟨h5, S', h6, h7⟩ => ⟨h5, S', ⟨h6, by rw [List.length_append]; simp; omega, h.pos⟩, (Kept.of b1).trans h7⟩)
      rw [hb] at hh
      have HJ : Hid _ := hj
      clear h e1 e2 e3 h1 hb h0 hj
      go_enter Try.func9, Try.ntmps9
      go_wp2_with (first
        | (go_at_call 25; refine (HJ.out _ b1).mono ?_; rintro e w2 ⟨rfl, S2, hp2, hk2⟩)
        | (go_at_call 24; refine hh.mono ?_; rintro e w1 ⟨rfl, b1⟩; have z2 := (b1.cell (p := ⟨D, 2, none⟩) (by exact hD)).trans c2))
      go_ret2
      exact ⟨rfl, S2, hp2, hk2⟩
set_option maxHeartbeats 6400000 in
set_option maxRecDepth 100000 in
theorem pg_add (h : PGr w base D S n l) (k : Int) (_hk : okI k) (hn : 0 ≤ n ∧ n ≤ 1073741824) (_hl : l.length ≤ 65536) : Calls Try.prog 11 #[.pointer (some ⟨D, 0, none⟩), .int .i64 k] w fun e w' => ∃ u, e = .returned (.tuple #[u, .int .i64 (gAZ n k)]) ∧ RowAt intC w' u (gAO n l k) ∧ ∃ S', PGr w' base D S' (gAN n k) (gAL n l k) ∧ Kept w w' S S' ∧ Handed w S S' u := by
  obtain ⟨c2, f2⟩ := h.q.cell (i := 0) rfl
  have H : Hid (PGr w base D S n l) := h
  have hnil : Hid (RowAt intC w (.slice none 0 0) []) := RowAt.nil w
  have q4 : IntKind.i64.wrap (n + k) = n + k ∨ ¬ (-1073741824 ≤ k ∧ k ≤ 1073741824) := by
    by_cases hc : -1073741824 ≤ k ∧ k ≤ 1073741824
    · exact Or.inl (by rw [IntKind.wrap_i64]; omega)
    · exact Or.inr hc
  have q5 : IntKind.i64.wrap (1073741824 - n) = 1073741824 - n := by rw [IntKind.wrap_i64]; omega
  have q6 : IntKind.i64.wrap (-n) = -n := by rw [IntKind.wrap_i64]; omega
  by_cases h1 : 1073741824 < k ∨ k < -1073741824 ∨ 1073741824 < n + k
  · have e1 : gAZ n k = 15 := by unfold gAZ; rw [if_pos h1]
    have e2 : gAO n l k = [] := by unfold gAO; rw [e1, if_neg (by simp)]
    have e3 : gAN n k = n := by unfold gAN; rw [e1, if_neg (by simp)]
    have e4 : gAL n l k = l := by unfold gAL; rw [e1, if_neg (by simp)]
    rw [e1, e2, e3, e4]
    by_cases h3 : k < -1073741824
    · have q2 : decide (k < -1073741824) = true := decide_eq_true h3
      clear h e1 e2 e3 e4 h1 h3 q4 hn
      go_enter Try.func11, Try.ntmps11
      go_wp2
      go_ret2
      exact ⟨_, rfl, hnil.out, S, H.out, Kept.refl _ _, Handed.nil _ _ _⟩
    · have q2 : decide (k < -1073741824) = false := decide_eq_false h3
      have q3 : decide (1073741824 - n < k) = true := decide_eq_true (by omega)
      clear h e1 e2 e3 e4 h1 h3 q4 hn
      go_enter Try.func11, Try.ntmps11
      go_wp2
      go_ret2
      exact ⟨_, rfl, hnil.out, S, H.out, Kept.refl _ _, Handed.nil _ _ _⟩
  have q2 : decide (k < -1073741824) = false := decide_eq_false (by omega)
  have q3 : decide (1073741824 - n < k) = false := decide_eq_false (by omega)
  replace q4 : IntKind.i64.wrap (n + k) = n + k := q4.resolve_right (by omega)
  by_cases h2 : n + k < 0
  · have e1 : gAZ n k = 14 := by unfold gAZ; rw [if_neg h1, if_pos h2]
    have e2 : gAO n l k = [] := by unfold gAO; rw [e1, if_neg (by simp)]
    have e3 : gAN n k = n := by unfold gAN; rw [e1, if_neg (by simp)]
    have e4 : gAL n l k = l := by unfold gAL; rw [e1, if_neg (by simp)]
    rw [e1, e2, e3, e4]
    have q7 : decide (k < -n) = true := decide_eq_true (by omega)
    clear h e1 e2 e3 e4 h1 h2 hn
    go_enter Try.func11, Try.ntmps11
    go_wp2
    go_ret2
    exact ⟨_, rfl, hnil.out, S, H.out, Kept.refl _ _, Handed.nil _ _ _⟩
  have q7 : decide (k < -n) = false := decide_eq_false (by omega)
  have e1 : gAZ n k = 0 := by unfold gAZ; rw [if_neg h1, if_neg h2]
  have e3 : gAN n k = n + k := by unfold gAN; rw [if_pos e1]
  obtain ⟨k1, k2⟩ := h.q.setC 0 (.int .i64 (n + k))
  have z2 : (w.setCell ⟨D, 2, none⟩ (.int .i64 (n + k))).cell? ⟨D, 2, none⟩ = some (.int .i64 (n + k)) := (k1.cell (i := 0) rfl).1
  by_cases h0 : n + k = 0
  · have e2 : gAO n l k = l := by unfold gAO; rw [if_pos ⟨e1, h0⟩]
    have e4 : gAL n l k = [] := by unfold gAL; rw [if_pos ⟨e1, h0⟩]
    rw [e1, e2, e3, e4]
    have hlv : Calls Try.prog 27 #[.pointer (some ⟨D, 0, none⟩)] (w.setCell ⟨D, 2, none⟩ (.int .i64 (n + k))) fun e w' => ∃ u, e = .returned u ∧ RowAt intC w' u l ∧ ∃ S', PGr w' base D S' (n + k) [] ∧ Kept w w' S S' ∧ Handed w S S' u :=
      (j_leave k1).mono (fun e w' ⟨u, h5, h6, S', h7, h8, h9⟩ => ⟨u, h5, h6, S', ⟨h7, Nat.zero_le _, by omega⟩, k2.trans h8, fun bk off m cap hm e => ⟨Or.inl (h9 bk off m cap hm e).1, (h9 bk off m cap hm e).2⟩⟩)
    have q8 : decide (0 < n + k) = false := decide_eq_false (by omega)
    clear h e1 e2 e3 e4 h1 h2 h0 hn k1 k2
    go_enter Try.func11, Try.ntmps11
    go_wp2_with (go_at_call 27; refine hlv.mono ?_; rintro e w1 ⟨u, rfl, r1, S1, p1, k3, h3⟩; obtain ⟨pu, cu, rfl⟩ := r1.form)
    go_ret2
    exact ⟨_, rfl, r1, S1, p1, k3, h3⟩
  · have e2 : gAO n l k = [] := by unfold gAO; rw [if_neg (fun e => h0 e.2)]
    have e4 : gAL n l k = l := by unfold gAL; rw [if_neg (fun e => h0 e.2)]
    rw [e1, e2, e3, e4]
    have q8 : decide (0 < n + k) = true := decide_eq_true (by omega)
    have FIN : Hid _ := (⟨⟨k1, h.len, by omega⟩, k2⟩ : PGr (w.setCell ⟨D, 2, none⟩ (.int .i64 (n + k))) base D S (n + k) l ∧ Kept w (w.setCell ⟨D, 2, none⟩ (.int .i64 (n + k))) S S)
    clear h e1 e2 e3 e4 h1 h2 h0 hn k1 k2
    go_enter Try.func11, Try.ntmps11
    go_wp2
    go_ret2
    exact ⟨_, rfl, RowAt.nil _, S, FIN.out.1, FIN.out.2, Handed.nil _ _ _⟩
set_option maxHeartbeats 6400000 in
set_option maxRecDepth 100000 in
theorem po_runs (h : POn w base D S who ov l) (t : Int) : Calls Try.prog 29 #[.pointer (some ⟨D, 0, none⟩), .int .i64 t] w fun e w' => e = .returned (.bool (decide (0 ≤ who) && (who == t))) ∧ w = w' := by
  obtain ⟨b, h1, h2⟩ := h.ex
  obtain ⟨c2, _⟩ := h1.cell (i := 0) rfl
  obtain ⟨c4, _⟩ := h1.cell (i := 2) rfl
  clear h1 h
  by_cases h0 : 0 ≤ who
  · obtain rfl := h2 h0
    rw [decide_eq_true h0] at c2 ⊢
    clear h0 h2
    cases hb : (b == t) with
    | true =>
      go_enter Try.func29, Try.ntmps29
      go_wp2
      go_ret
      exact ⟨rfl, rfl⟩
    | false =>
      go_enter Try.func29, Try.ntmps29
      go_wp2
      go_ret
      exact ⟨rfl, rfl⟩
  · rw [decide_eq_false h0] at c2 ⊢
    clear h0 h2
    go_enter Try.func29, Try.ntmps29
    go_wp2
    go_ret
    exact ⟨rfl, rfl⟩
theorem po_state (h : POn w base D S who ov l) : Calls Try.prog 23 #[.pointer (some ⟨D, 0, none⟩)] w fun e w' => e = .returned (.tuple #[.int .i64 who, .bool ov]) ∧ Below w.heap.size w w' := by
  obtain ⟨b, h1, h2⟩ := h.ex
  obtain ⟨c2, _⟩ := h1.cell (i := 0) rfl
  obtain ⟨c3, _⟩ := h1.cell (i := 1) rfl
  obtain ⟨c4, _⟩ := h1.cell (i := 2) rfl
  by_cases h0 : 0 ≤ who
  · obtain rfl := h2 h0
    obtain rfl := h.ov h0
    rw [decide_eq_true h0] at c2
    clear h0 h2 h1 h
    go_enter Try.func23, Try.ntmps23
    go_wp2
    go_ret2
    exact ⟨rfl, Below.refl _ _⟩
  · obtain rfl := h.no (by omega)
    rw [decide_eq_false h0] at c2
    clear h0 h2 h1 h
    go_enter Try.func23, Try.ntmps23
    go_wp2
    go_region_held3 (fun w' => w'.cell? ⟨D, 3, none⟩ = some (.bool ov)) (go_keep) (fail)
    go_wp2
    go_ret2
    exact ⟨rfl, undrew (Below.refl _ _)⟩
set_option maxHeartbeats 6400000 in
set_option maxRecDepth 100000 in
theorem po_do (h : POn w base D S who ov l) (t : Int) (ht : okI t) (hl : l.length < 65536) : Calls Try.prog 21 #[.pointer (some ⟨D, 0, none⟩), .int .i64 t] w fun e w' => e = .returned (.tuple #[.bool (oDR who ov l t), .bool (oDW who ov l t), .int .i64 (oDZ who l t)]) ∧ ∃ S', POn w' base D S' (oDH who ov l t) ov (oDL who ov l t) ∧ Kept w w' S S' := by
  have H : Hid (POn w base D S who ov l) := h
  by_cases h1 : t < 0
  · have e1 : oDZ who l t = 1 := by unfold oDZ; rw [if_pos h1]
    have e2 : oDR who ov l t = false := decide_eq_false (fun e => absurd e.1 (by omega))
    have e5 : oDW who ov l t = false := decide_eq_false (fun e => absurd e.1 (by omega))
    have e3 : oDH who ov l t = who := by unfold oDH; rw [e2]; rfl
    have e4 : oDL who ov l t = l := by unfold oDL; rw [e5]; rfl
    rw [e1, e2, e3, e4, e5]
    have q1 : decide (t < 0) = true := decide_eq_true h1
    clear h e1 e2 e3 e4 e5 h1
    go_enter Try.func21, Try.ntmps21
    go_wp2
    go_returns
    exact ⟨rfl, S, H.out, Kept.refl _ _⟩
  have q1 : decide (t < 0) = false := decide_eq_false h1
  have hh := po_runs h t
  obtain ⟨b, hq, hby⟩ := h.ex
  have hw := j_has hq t ht
  have hD := hq.lt
  obtain ⟨c2, f2⟩ := hq.cell (i := 0) rfl
  obtain ⟨c3, f3⟩ := hq.cell (i := 1) rfl
  obtain ⟨c4, f4⟩ := hq.cell (i := 2) rfl
  by_cases h2 : who = t ∨ t ∈ l
  · have e1 : oDZ who l t = 12 := by unfold oDZ; rw [if_neg h1, if_pos h2]
    have e2 : oDR who ov l t = false := decide_eq_false (fun e => absurd e.1 (by omega))
    have e5 : oDW who ov l t = false := decide_eq_false (fun e => absurd e.1 (by omega))
    have e3 : oDH who ov l t = who := by unfold oDH; rw [e2]; rfl
    have e4 : oDL who ov l t = l := by unfold oDL; rw [e5]; rfl
    rw [e1, e2, e3, e4, e5]
    cases hb : (decide (0 ≤ who) && (who == t)) with
    | true =>
      rw [hb] at hh
      clear h hq hw e1 e2 e3 e4 e5 h1 h2 hby hb c2 c3 c4
      go_enter Try.func21, Try.ntmps21
      go_wp2_with (go_at_call 29; refine hh.mono ?_; rintro e w1 ⟨rfl, rfl⟩)
      go_returns
      exact ⟨rfl, S, H.out, Kept.refl _ _⟩
    | false =>
      have h3 : hasB l t = true := by
        rcases h2 with h2 | h2
        · rw [h2, beq_self_eq_true, decide_eq_true (by omega)] at hb
          cases hb
        · exact decide_eq_true h2
      rw [hb] at hh
      rw [h3] at hw
      clear h hq e1 e2 e3 e4 e5 h1 h2 h3 hby hb c2 c3 c4
      go_enter Try.func21, Try.ntmps21
      go_wp2_with (first
        | (go_at_call 24; refine hw.mono ?_; rintro e w1 ⟨rfl, b1⟩)
        | (go_at_call 29; refine hh.mono ?_; rintro e w1 ⟨rfl, rfl⟩))
      go_returns
      exact ⟨rfl, S, H.out.fresh b1, Kept.of b1⟩
  have hb : (decide (0 ≤ who) && (who == t)) = false := by
    rw [beq_eq_false_iff_ne.2 (fun e => h2 (Or.inl e)), Bool.and_false]
  have h3 : hasB l t = false := decide_eq_false (fun e => h2 (Or.inr e))
  have e1 : oDZ who l t = 0 := by unfold oDZ; rw [if_neg h1, if_neg h2]
  rw [hb] at hh
  rw [h3] at hw
  cases ov with
  | true =>
    have e2 : oDR who true l t = false := decide_eq_false (fun e => absurd e.2.1 (by simp))
    have e5 : oDW who true l t = false := decide_eq_false (fun e => absurd e.2.1 (by simp))
    have e3 : oDH who true l t = who := by unfold oDH; rw [e2]; rfl
    have e4 : oDL who true l t = l := by unfold oDL; rw [e5]; rfl
    rw [e1, e2, e3, e4, e5]
    clear h hq e1 e2 e3 e4 e5 h1 h2 h3 hby hb c2 c4
    go_enter Try.func21, Try.ntmps21
    go_wp2_with (first
      | (go_at_call 24; refine hw.mono ?_; rintro e w1 ⟨rfl, b1⟩; have z3 := (b1.cell (p := ⟨D, 3, none⟩) (by exact hD)).trans c3; have y3 := (b1.frozen (p := ⟨D, 3, none⟩) (by exact hD)).trans f3)
      | (go_at_call 29; refine hh.mono ?_; rintro e w1 ⟨rfl, rfl⟩))
    go_returns
    exact ⟨rfl, S, H.out.fresh b1, Kept.of b1⟩
  | false =>
    by_cases h4 : who < 0
    · have e2 : oDR who false l t = true := decide_eq_true ⟨e1, rfl, h4⟩
      have e5 : oDW who false l t = false := decide_eq_false (fun e => e.2.2 h4)
      have e3 : oDH who false l t = t := by unfold oDH; rw [e2]; rfl
      have e4 : oDL who false l t = l := by unfold oDL; rw [e5]; rfl
      rw [e1, e2, e3, e4, e5]
      rw [decide_eq_false (by omega)] at c2
      have fin : ∀ w1 : World, Below w.heap.size w w1 → POn ((w1.setCell ⟨D, 2, none⟩ (.bool true)).setCell ⟨D, 4, none⟩ (.int .i64 t)) base D S t false l ∧ Kept w ((w1.setCell ⟨D, 2, none⟩ (.bool true)).setCell ⟨D, 4, none⟩ (.int .i64 t)) S S := fun w1 b1 => by
        have k1 := (hq.fresh b1).setC 0 (.bool true)
        have k2 := k1.1.setC 2 (.int .i64 t)
        refine ⟨⟨⟨t, ?_, fun _ => rfl⟩, fun e => absurd e h1, fun _ => rfl, h.len⟩, (Kept.of b1).trans (k1.2.trans k2.2)⟩
        rw [decide_eq_true (by omega)]
        exact k2.1
      have FIN : Hid _ := fin
      clear h hq e1 e2 e3 e4 e5 h1 h2 h3 h4 hby hb fin
      go_enter Try.func21, Try.ntmps21
      go_wp2_with (first
        | (go_at_call 24; refine hw.mono ?_; rintro e w1 ⟨rfl, b1⟩; have z2 := (b1.cell (p := ⟨D, 2, none⟩) (by exact hD)).trans c2; have y2 := (b1.frozen (p := ⟨D, 2, none⟩) (by exact hD)).trans f2; have z3 := (b1.cell (p := ⟨D, 3, none⟩) (by exact hD)).trans c3; have y3 := (b1.frozen (p := ⟨D, 3, none⟩) (by exact hD)).trans f3; have z4 := (b1.cell (p := ⟨D, 4, none⟩) (by exact hD)).trans c4; have y4 := (b1.frozen (p := ⟨D, 4, none⟩) (by exact hD)).trans f4)
        | (go_at_call 29; refine hh.mono ?_; rintro e w1 ⟨rfl, rfl⟩))
      go_returns
      exact ⟨rfl, S, FIN.out _ b1⟩
    · have e2 : oDR who false l t = false := decide_eq_false (fun e => h4 e.2.2)
      have e5 : oDW who false l t = true := decide_eq_true ⟨e1, rfl, h4⟩
      have e3 : oDH who false l t = who := by unfold oDH; rw [e2]; rfl
      have e4 : oDL who false l t = l ++ [t] := by unfold oDL; rw [e5]; rfl
      rw [e1, e2, e3, e4, e5]
      have hj : ∀ w1 : World, Below w.heap.size w w1 → Calls Try.prog 25 #[.pointer (some ⟨D, 0, none⟩), .int .i64 t] w1 fun e w' => e = .returned (.tuple #[]) ∧ ∃ S', POn w' base D S' who false (l ++ [t]) ∧ Kept w w' S S' := fun w1 b1 =>
        (j_join (hq.fresh b1) t ht h3 hl).mono (fun e w' ⟨h5, S', h6, h7⟩ => ⟨h5, S', ⟨⟨b, h6, hby⟩, h.no, h.ov, by rw [List.length_append]; simp; omega⟩, (Kept.of b1).trans h7⟩)
      have HJ : Hid _ := hj
      rw [decide_eq_true (by omega)] at c2
      clear h hq e1 e2 e3 e4 e5 h1 h2 h3 h4 hby hb hj c4
      go_enter Try.func21, Try.ntmps21
      go_wp2_with (first
        | (go_at_call 25; refine (HJ.out _ b1).mono ?_; rintro e w2 ⟨rfl, S2, hp2, hk2⟩)
        | (go_at_call 24; refine hw.mono ?_; rintro e w1 ⟨rfl, b1⟩; have z2 := (b1.cell (p := ⟨D, 2, none⟩) (by exact hD)).trans c2; have y2 := (b1.frozen (p := ⟨D, 2, none⟩) (by exact hD)).trans f2; have z3 := (b1.cell (p := ⟨D, 3, none⟩) (by exact hD)).trans c3; have y3 := (b1.frozen (p := ⟨D, 3, none⟩) (by exact hD)).trans f3)
        | (go_at_call 29; refine hh.mono ?_; rintro e w1 ⟨rfl, rfl⟩))
      go_returns
      exact ⟨rfl, S2, hp2, hk2⟩
set_option maxHeartbeats 6400000 in
set_option maxRecDepth 100000 in
theorem po_done (h : POn w base D S who ov l) (t : Int) (_ht : okI t) (_hl : l.length ≤ 65536) : Calls Try.prog 19 #[.pointer (some ⟨D, 0, none⟩), .int .i64 t] w fun e w' => ∃ u, e = .returned (.tuple #[u, .int .i64 (oEZ who t)]) ∧ RowAt intC w' u (oEO who l t) ∧ ∃ S', POn w' base D S' (oEH who t) (oEV who ov t) (oEL who l t) ∧ Kept w w' S S' ∧ Handed w S S' u := by
  have hh := po_runs h t
  obtain ⟨b, hq, hby⟩ := h.ex
  have hc : (decide (0 ≤ who) && (who == t)) = decide (¬ (t < 0 ∨ ¬ who = t)) := by
    rw [Bool.eq_iff_iff, Bool.and_eq_true, decide_eq_true_eq, beq_iff_eq, decide_eq_true_eq]
    omega
  rw [hc] at hh
  unfold oEZ oEO oEH oEV oEL
  have H : Hid _ := h
  by_cases h1 : t < 0 ∨ ¬ who = t
  · rw [if_pos h1, if_pos h1, if_pos h1, if_pos h1, if_pos h1]
    rw [decide_eq_false (fun e => e h1)] at hh
    have hnil : Hid (RowAt intC w (.slice none 0 0) []) := RowAt.nil w
    clear h hq hby hc h1
    go_enter Try.func19, Try.ntmps19
    go_wp2_with (go_at_call 29; refine hh.mono ?_; rintro e w1 ⟨rfl, rfl⟩)
    go_ret2
    exact ⟨_, rfl, hnil.out, S, H.out, Kept.refl _ _, Handed.nil _ _ _⟩
  · rw [if_neg h1, if_neg h1, if_neg h1, if_neg h1, if_neg h1]
    rw [decide_eq_true h1] at hh
    obtain ⟨c2, f2⟩ := hq.cell (i := 0) rfl
    obtain ⟨c3, f3⟩ := hq.cell (i := 1) rfl
    have k1 := hq.setC 0 (.bool false)
    have k2 := k1.1.setC 1 (.bool true)
    have hlv : Calls Try.prog 27 #[.pointer (some ⟨D, 0, none⟩)] ((w.setCell ⟨D, 2, none⟩ (.bool false)).setCell ⟨D, 3, none⟩ (.bool true)) fun e w' => ∃ u, e = .returned u ∧ RowAt intC w' u l ∧ ∃ S', POn w' base D S' (-1) true [] ∧ Kept w w' S S' ∧ Handed w S S' u :=
      (j_leave k2.1).mono (fun e w' ⟨u, h5, h6, S', h7, h8, h9⟩ => ⟨u, h5, h6, S', ⟨⟨b, h7, fun e => absurd e (by decide)⟩, fun _ => rfl, fun e => absurd e (by decide), Nat.zero_le _⟩, k1.2.trans (k2.2.trans h8), fun bk off m cap hm e => ⟨Or.inl (h9 bk off m cap hm e).1, (h9 bk off m cap hm e).2⟩⟩)
    clear h hq hby hc h1 k1 k2
    go_enter Try.func19, Try.ntmps19
    go_wp2_with (first
      | (go_at_call 27; refine hlv.mono ?_; rintro e w1 ⟨u, rfl, r1, S1, p1, k3, h3⟩; obtain ⟨pu, cu, rfl⟩ := r1.form)
      | (go_at_call 29; refine hh.mono ?_; rintro e w1 ⟨rfl, rfl⟩))
    go_ret2
    exact ⟨_, rfl, r1, S1, p1, k3, h3⟩
end
end Go.Proofs.Ytcjmohfglggonaa
