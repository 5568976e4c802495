/-
  The document's mutex (package latchkeyref08), locked: what is answered, who holds it, who waits behind it. The condition: at most 65535 wait.
-/
import Derived.Test.YtlcacjekpdmigaaMxMem
namespace Go.Proofs.Ytlcacjekpdmigaa
open Go.RowKit

def lockB (who : Int) (l : List Int) (t : Int) : Bool := decide (0 ≤ t ∧ ¬ who = t ∧ t ∉ l ∧ who < 0)
def lockZ (who : Int) (l : List Int) (t : Int) : Int := if t < 0 then 1 else if who = t ∨ t ∈ l then 12 else 0
def lockW (who : Int) (l : List Int) (t : Int) : Int := if lockB who l t then t else who
def lockL (who : Int) (l : List Int) (t : Int) : List Int := if lockZ who l t = 0 ∧ ¬ who < 0 then l ++ [t] else l
abbrev LK : FuncId := 13
section
variable {w : World} {base D : Nat} {S : Nat → Prop} {l : List Int} {who : Int}
set_option maxHeartbeats 3200000 in
set_option maxRecDepth 100000 in
theorem rlock_no (h : MxAt w base D S who l) (t : Int) (hz : t < 0 ∨ who = t ∨ t ∈ l) : Calls Try.prog 13 #[.pointer (some ⟨D, 0, none⟩), .int .i64 t] w fun e w' => e = .returned (.tuple #[.bool false, .int .i64 (if t < 0 then 1 else 12)]) ∧ w' = w := by
  obtain ⟨a, cap, hb, c0, c1, _, _, ho⟩ := h.cells
  have hh := has_any w _ l t ho.at'
  clear hb ho h
  by_cases h1 : t < 0
  · have q1 : decide (t < 0) = true := decide_eq_true h1
    rw [if_pos h1]
    clear hh
    go_enter Try.func13, Try.ntmps13
    go_wp2
    go_ret2
    exact ⟨rfl, rfl⟩
  · have q1 : decide (t < 0) = false := decide_eq_false h1
    rw [if_neg h1]
    by_cases h2 : who = t
    · have q2 : (who == t) = true := beq_iff_eq.2 h2
      clear h2 hz hh
      go_enter Try.func13, Try.ntmps13
      go_wp2
      go_ret2
      exact ⟨rfl, rfl⟩
    · have q2 : (who == t) = false := beq_eq_false_iff_ne.2 h2
      have h3 : hasB l t = true := decide_eq_true (hz.elim (fun h => absurd h h1) (fun h => h.elim (fun h => absurd h h2) id))
      rw [h3] at hh
      clear h2 hz h3
      go_enter Try.func13, Try.ntmps13
      go_wp2_with (go_at_call 26; refine hh.mono ?_; rintro e w1 ⟨rfl, rfl⟩)
      go_ret2
      exact ⟨rfl, rfl⟩
set_option maxHeartbeats 3200000 in
set_option maxRecDepth 100000 in
theorem rlock_got (h : MxAt w base D S who l) (t : Int) (h1 : ¬ t < 0) (h2 : ¬ who = t) (h3 : t ∉ l) (h4 : who < 0) : Calls Try.prog 13 #[.pointer (some ⟨D, 0, none⟩), .int .i64 t] w fun e w' => e = .returned (.tuple #[.bool true, .int .i64 0]) ∧ MxAt w' base D S t l ∧ Kept w w' S S := by
  obtain ⟨a, cap, hb, c0, c1, f0, _, ho⟩ := h.cells
  have hh := has_any w _ l t ho.at'
  have HP : Hid _ := h.setWho t
  have h5 : hasB l t = false := decide_eq_false h3
  rw [h5] at hh
  have q1 : decide (t < 0) = false := decide_eq_false h1
  have q2 : (who == t) = false := beq_eq_false_iff_ne.2 h2
  have q4 : decide (who < 0) = true := decide_eq_true h4
  clear hb ho h h1 h2 h3 h4 h5
  go_enter Try.func13, Try.ntmps13
  go_wp2_with (go_at_call 26; refine hh.mono ?_; rintro e w1 ⟨rfl, rfl⟩)
  go_ret2
  exact ⟨rfl, HP.out⟩
set_option maxHeartbeats 3200000 in
set_option maxRecDepth 100000 in
theorem rlock_wait (h : MxAt w base D S who l) (t : Int) (h1 : ¬ t < 0) (h2 : ¬ who = t) (h3 : t ∉ l) (h4 : ¬ who < 0) (ht : t ≤ 9223372036854775807) (hl : l.length < 65536) : Calls Try.prog 13 #[.pointer (some ⟨D, 0, none⟩), .int .i64 t] w fun e w' => e = .returned (.tuple #[.bool false, .int .i64 0]) ∧ ∃ S', MxAt w' base D S' who (l ++ [t]) ∧ Kept w w' S S' := by
  obtain ⟨i0, hi, hz0, hz1, hz2⟩ := info_parts infoI
  obtain ⟨a, cap, hb, c0, c1, _, f1, ho⟩ := h.cells
  have hh := has_any w _ l t ho.at'
  have h5 : hasB l t = false := decide_eq_false h3
  rw [h5] at hh
  have hDl := (h.bd D h.sD).2
  have hlo : ∀ x ∈ l ++ [t], -9223372036854775808 ≤ x ∧ x ≤ 9223372036854775807 := fun x hx => by
    rcases List.mem_append.1 hx with hx | hx
    · exact ho.at'.lo x hx
    · rw [List.mem_singleton] at hx
      omega
  have HLO : Hid _ := hlo
  have HN : Hid _ := h
  have HO : Hid _ := ho
  have q1 : decide (t < 0) = false := decide_eq_false h1
  have q2 : (who == t) = false := beq_eq_false_iff_ne.2 h2
  have q4 : decide (who < 0) = false := decide_eq_false h4
  have fin : ∀ (w3 : World) (v3 : Value), Below w.heap.size w w3 → w3.ownsRow w.heap.size 3 1 v3 (l ++ [t]).length (intL (l ++ [t])) → ∃ S', MxAt (w3.setCell ⟨D, 1, none⟩ v3) base D S' who (l ++ [t]) ∧ Kept w (w3.setCell ⟨D, 1, none⟩ v3) S S' := fun w3 v3 b3 r3 =>
    ⟨_, HN.out.setL b3 (OwnInts.new r3 hDl HLO.out (by rw [List.length_append]; simp; omega)) (fun b hb => ⟨Or.inr hb.1, hb.2⟩)⟩
  have FIN : Hid _ := fin
  clear hb ho h h1 h2 h3 h4 h5 hlo fin
  cases a with
  | none =>
    obtain ⟨hl0, hc0⟩ := HO.out.nn _ _ rfl
    have hl1 : l = [] := List.eq_nil_of_length_eq_zero hl0
    subst hl1 hc0
    change w.cell? ⟨D, 1, none⟩ = some (.slice none 0 0) at c1
    clear hl0
    go_enter Try.func13, Try.ntmps13
    go_wp2_with (first
      | (at_builtin; refine wpList_append_own _ rfl (.tmp 36) (.tmp 38) 39 rfl w1.heap.size 3 i0 (.int .i64 0) 1 8 Try.underlying39 hi hz0 hz1 hz2 rfl (by decide) (.slice none 0 0) 0 [] rfl (World.ownsRow_nil _ _ _ _) ⟨w1.heap.size, 0, none⟩ 1 1 [.int .i64 t] rfl rfl (World.news_of_block (cs := #[.int .i64 t]) (t := 3) (fr := (0, 0)) (heap_alloc_new w1 _)) (by simp [Value.oneCell']) (by unfold maxLen; omega) (by omega) (by simp) ?_; intro u3 w3 h3 g3 _; obtain ⟨p3, n3, q3, rfl⟩ := own_form h3; have b3 : Below w1.heap.size w1 w3 := (((Below.refl _ w1).alloc (Nat.le_refl _) _).grown g3 (by simp) (fun k hk => by simp [Value.ownBlock] at hk)); have z3 := (b3.cell (p := ⟨D, 1, none⟩) (by exact hDl)).trans c1; have y3 := (b3.frozen (p := ⟨D, 1, none⟩) (by exact hDl)).trans f1)
      | (at_builtin; refine wpList_append_own_none rfl (.const (.slice none 0 0)) (.tmp 35) 39 rfl w1.heap.size 3 i0 1 Try.underlying39 hi _ 0 [] rfl (World.ownsRow_nil _ _ _ _) rfl ?_)
      | (go_at_call 26; refine hh.mono ?_; rintro e w1 ⟨rfl, rfl⟩))
    go_ret2
    exact ⟨rfl, FIN.out _ _ b3 h3⟩
  | some x =>
    go_enter Try.func13, Try.ntmps13
    go_wp2_with (first
      | (at_builtin; refine wpList_append_own _ rfl (.tmp 36) (.tmp 38) 39 rfl w1.heap.size 3 i0 (.int .i64 0) 1 8 Try.underlying39 hi hz0 hz1 hz2 rfl (by decide) u2 (0 + l.length) ([] ++ intL l) rfl (h2.alloc _) ⟨w2.heap.size, 0, none⟩ 1 1 [.int .i64 t] rfl rfl (World.news_of_block (cs := #[.int .i64 t]) (t := 3) (fr := (0, 0)) (heap_alloc_new w2 _)) (by simp [Value.oneCell']) (by unfold maxLen; omega) (by omega) (by simp; have := b2.size; omega) ?_; intro u3 w3 h3 g3 _; obtain ⟨p3, n3, q3, rfl⟩ := own_form h3; have b3 : Below w1.heap.size w1 w3 := ((b2.alloc b2.size _).grown g3 (by have := b2.size; simp; omega) (fun k hk => ((h2.lt k hk)).1)); have z3 := (b3.cell (p := ⟨D, 1, none⟩) (by exact hDl)).trans c1; have y3 := (b3.frozen (p := ⟨D, 1, none⟩) (by exact hDl)).trans f1)
      | (at_builtin; refine wpList_append_own _ rfl (.const (.slice none 0 0)) (.tmp 35) 39 rfl w1.heap.size 3 i0 (.int .i64 0) 1 8 Try.underlying39 hi hz0 hz1 hz2 rfl (by decide) (.slice none 0 0) 0 [] rfl (World.ownsRow_nil _ _ _ _) x l.length cap (intL l) rfl (by rw [intL_length]; omega) (HO.out.news) (one_intL l) (by unfold maxLen; omega) (by omega) (Nat.le_refl _) ?_; intro u2 w2 h2 g2 _; have b2 : Below w1.heap.size w1 w2 := (Below.refl _ w1).grown g2 (Nat.le_refl _) (fun k hk => by simp [Value.ownBlock] at hk))
      | (go_at_call 26; refine hh.mono ?_; rintro e w1 ⟨rfl, rfl⟩))
    go_ret2
    refine ⟨rfl, FIN.out _ _ b3 ?_⟩
    have e3 : 0 + l.length + 1 = (l ++ [t]).length := by simp
    have e4 : [] ++ intL l ++ [Value.int .i64 t] = intL (l ++ [t]) := by unfold intL; simp
    rw [e3, e4] at h3
    exact h3
end
end Go.Proofs.Ytlcacjekpdmigaa
