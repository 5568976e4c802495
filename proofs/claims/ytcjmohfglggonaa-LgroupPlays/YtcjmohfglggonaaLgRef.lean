/-
  The document's waitgroup (package latchkeyref09): waited for, added to. The conditions: the numbers are ints'; fewer than 65536 wait; the count is 0 to 2^30.
-/
import Derived.Test.YtcjmohfglggonaaGBox
namespace Go.Proofs.Ytcjmohfglggonaa
open Go.RowKit

abbrev GrT : TypeId := 28
def grC (n : Int) (v : Value) : Array Value := #[.int .i64 n, v]
/-- The waitgroup. -/
abbrev GrAt (w : World) (base D : Nat) (S : Nat → Prop) (n : Int) (l : List Int) : Prop := BoxAt w base D S GrT (grC n) l
def gWZ (l : List Int) (t : Int) : Int := if t < 0 then 1 else if t ∈ l then 12 else 0
def gWB (n : Int) (l : List Int) (t : Int) : Bool := decide (gWZ l t = 0 ∧ n = 0)
def gWL (n : Int) (l : List Int) (t : Int) : List Int := if gWZ l t = 0 ∧ ¬ n = 0 then l ++ [t] else l
def gAZ (n k : Int) : Int := if 1073741824 < k ∨ k < -1073741824 ∨ 1073741824 < n + k then 15 else if n + k < 0 then 14 else 0
def gAN (n k : Int) : Int := if gAZ n k = 0 then n + k else n
def gAO (n : Int) (l : List Int) (k : Int) : List Int := if gAZ n k = 0 ∧ n + k = 0 then l else []
def gAL (n : Int) (l : List Int) (k : Int) : List Int := if gAZ n k = 0 ∧ n + k = 0 then [] else l
section
variable {w w' : World} {base D : Nat} {S S' : Nat → Prop} {n : Int} {l : List Int}
theorem GrAt.cells (h : GrAt w base D S n l) : ∃ a cap, w.heap[D]? = some (.cells #[.int .i64 n, .slice a l.length cap] GrT (0, 0)) ∧ w.cell? ⟨D, 0, none⟩ = some (.int .i64 n) ∧ w.cell? ⟨D, 1, none⟩ = some (.slice a l.length cap) ∧ w.frozen? ⟨D, 0, none⟩ = false ∧ w.frozen? ⟨D, 1, none⟩ = false ∧ OwnRow intC w S D (.slice a l.length cap) l ∧ D < w.heap.size := by
  obtain ⟨v, h1, h2⟩ := h.ex
  obtain ⟨a, cap, rfl⟩ := h2.at'.form
  unfold grC at h1
  exact ⟨a, cap, h1, by simp [World.cell?, h1], by simp [World.cell?, h1], by simp [World.frozen?, h1], by simp [World.frozen?, h1], h2, lt_of_block h1⟩
set_option maxHeartbeats 3200000 in
set_option maxRecDepth 100000 in
theorem gr_wait (h : GrAt w base D S n l) (t : Int) (ht : okI t) (hl : l.length < 65536) : Calls Try.prog 10 #[.pointer (some ⟨D, 0, none⟩), .int .i64 t] w fun e w' => e = .returned (.tuple #[.bool (gWB n l t), .int .i64 (gWZ l t)]) ∧ ∃ S', GrAt w' base D S' n (gWL n l t) ∧ Kept w w' S S' := by
  obtain ⟨a, cap, hb, c0, c1, f0, f1, ho, hD⟩ := h.cells
  have hh := (has_any w _ l t (ho.at'.ints h.lo (by omega))).mono (fun e w' h => (⟨h.1, h.2.symm⟩ : e = .returned (.bool (hasB l t)) ∧ w = w'))
  have H : Hid (GrAt w base D S n l) := h
  by_cases h1 : t < 0
  · have e1 : gWZ l t = 1 := by unfold gWZ; rw [if_pos h1]
    have e2 : gWB n l t = false := by unfold gWB; rw [e1]; rfl
    have e3 : gWL n l t = l := by unfold gWL; rw [e1, if_neg (by simp)]
    rw [e1, e2, e3]
    have q1 : decide (t < 0) = true := decide_eq_true h1
    clear hb ho h hh e1 e2 e3
    go_enter Try.func10, Try.ntmps10
    go_wp2
    go_ret2
    exact ⟨rfl, S, H.out, Kept.refl _ _⟩
  have q1 : decide (t < 0) = false := decide_eq_false h1
  cases hc : hasB l t with
  | true =>
    have e1 : gWZ l t = 12 := by unfold gWZ; rw [if_neg h1, if_pos (by unfold hasB at hc; simpa using hc)]
    have e2 : gWB n l t = false := by unfold gWB; rw [e1]; rfl
    have e3 : gWL n l t = l := by unfold gWL; rw [e1, if_neg (by simp)]
    rw [e1, e2, e3]
    rw [hc] at hh
    clear hb ho h h1 hc e1 e2 e3
    go_enter Try.func10, Try.ntmps10
    go_wp2_with (go_at_call 26; refine hh.mono ?_; rintro e w1 ⟨rfl, rfl⟩)
    go_ret2
    exact ⟨rfl, S, H.out, Kept.refl _ _⟩
  | false =>
    have e1 : gWZ l t = 0 := by unfold gWZ; rw [if_neg h1, if_neg (by unfold hasB at hc; simpa using hc)]
    rw [hc] at hh
    by_cases h0 : n = 0
    · have e2 : gWB n l t = true := by unfold gWB; rw [e1, h0]; rfl
      have e3 : gWL n l t = l := by unfold gWL; rw [if_neg (fun e => e.2 h0)]
      rw [e1, e2, e3]
      have q2 : (n == 0) = true := beq_iff_eq.2 h0
      clear hb ho h h1 hc e1 e2 e3 h0
      go_enter Try.func10, Try.ntmps10
      go_wp2_with (go_at_call 26; refine hh.mono ?_; rintro e w1 ⟨rfl, rfl⟩)
      go_ret2
      exact ⟨rfl, S, H.out, Kept.refl _ _⟩
    · have e2 : gWB n l t = false := by unfold gWB; exact decide_eq_false (fun e => h0 e.2)
      have e3 : gWL n l t = l ++ [t] := by unfold gWL; rw [if_pos ⟨e1, h0⟩]
      rw [e1, e2, e3]
      have q2 : (n == 0) = false := beq_eq_false_iff_ne.2 h0
      obtain ⟨i0, hi, hz0, hz1, hz2⟩ := info_parts infoI
      have fin : ∀ (w3 : World) (u3 : Value), Below w.heap.size w w3 → w3.ownsRow w.heap.size 3 1 u3 (l.length + 1) (rowL intC (l ++ [t])) → ∃ S', GrAt (w3.setCell ⟨D, 1, none⟩ u3) base D S' n (l ++ [t]) ∧ Kept w (w3.setCell ⟨D, 1, none⟩ u3) S S' := fun w3 u3 b3 r3 => by
        refine ⟨_, h.turn b3 (mk' := grC n) (v := u3) ?_ (fun c hc => heap_setCell_other _ _ _ _ (by simpa using hc)) (by simp) ⟨rfl, rfl, rfl⟩ (OwnRow.new (k := 1) (T := 3) intC_len (by rw [List.length_append]; exact r3) hD (fun x h1 h2 => Or.inr ⟨h1, h2⟩)) (fun x hx => ?_)⟩
        · rw [heap_setCell_same w3 D 1 _ _ _ ((b3.block D hD).trans hb)]
          rfl
        · rcases List.mem_append.1 hx with hx | hx
          · exact h.lo x hx
          · rw [List.mem_singleton] at hx
            rw [hx]
            exact ht
      have FIN : Hid _ := fin
      have HQ : Hid _ := ho.at'
      clear hb ho h h1 hc e1 e2 e3 h0 fin
      go_enter Try.func10, Try.ntmps10
      go_wp2_with (first
        | (at_builtin; have kz := d2; refine wpList_app_row (k := 1) (enc := intC) (l := [t]) rfl (.tmp 24) (.tmp 26) 26 3 rfl i0 _ 8 Try.underlying26 hi hz0 hz1 hz2 rfl (by decide) intC_len intC_one rfl rfl (h2.alloc _) (RowAt.built (heap_alloc_new w2 _) rfl 1 rfl rfl) (by simp; have := d2.size; omega) (by simp; omega) (by simp; omega) ?_; intro u3 w3 h3 b3; obtain ⟨p3, n3, q3, rfl⟩ := own_form h3; have b4 : Below w.heap.size w w3 := (d2.alloc d2.size _).trans b3.below; have z3 := (b4.cell (p := ⟨D, 1, none⟩) (by exact hD)).trans c1; have y3 := (b4.frozen (p := ⟨D, 1, none⟩) (by exact hD)).trans f1)
        | (at_builtin; refine wpList_app_row (k := 1) (enc := intC) (l := l) rfl (.const (.slice none 0 0)) (.tmp 23) 26 3 rfl i0 _ 8 Try.underlying26 hi hz0 hz1 hz2 rfl (by decide) intC_len intC_one (base := w.heap.size) (n := 0) (xs := []) rfl rfl (World.ownsRow_nil _ _ _ _) HQ.out (Nat.le_refl _) (by omega) (by omega) ?_; intro u2 w2 h2 dd2; have d2 := dd2.below)
        | (go_at_call 26; refine hh.mono ?_; rintro e w1 ⟨rfl, rfl⟩))
      go_ret2
      refine ⟨rfl, FIN.out _ _ b4 ?_⟩
      have e3 : 0 + l.length + [t].length = l.length + 1 := by simp
      have e4 : [] ++ rowL intC l ++ rowL intC [t] = rowL intC (l ++ [t]) := by rw [rowL_append]; simp
      rw [e3, e4] at h3
      exact h3
set_option maxHeartbeats 3200000 in
set_option maxRecDepth 100000 in
theorem gr_addO (h : GrAt w base D S n l) (k : Int) (hn : 0 ≤ n ∧ n ≤ 1073741824) : Calls Try.prog 12 #[.pointer (some ⟨D, 0, none⟩), .int .i64 k] w fun e w' => ∃ u, e = .returned (.tuple #[u, .int .i64 (gAZ n k)]) ∧ (RowAt intC w' u (gAO n l k) ∧ OutOf S w.heap.size u) ∧ ∃ S', GrAt w' base D S' (gAN n k) (gAL n l k) ∧ Kept w w' S S' := by
  obtain ⟨a, cap, hb, c0, c1, f0, f1, ho, hD⟩ := h.cells
  have H : Hid (GrAt w base D S n l) := h
  have hnil : Hid (RowAt intC w (.slice none 0 0) []) := RowAt.nil w
  by_cases h1 : 1073741824 < k ∨ k < -1073741824 ∨ 1073741824 < n + k
  · have e1 : gAZ n k = 15 := by unfold gAZ; rw [if_pos h1]
    have e2 : gAO n l k = [] := by unfold gAO; rw [e1, if_neg (by simp)]
    have e3 : gAN n k = n := by unfold gAN; rw [e1, if_neg (by simp)]
    have e4 : gAL n l k = l := by unfold gAL; rw [e1, if_neg (by simp)]
    rw [e1, e2, e3, e4]
    clear hb ho h e1 e2 e3 e4
    by_cases h2 : 1073741824 < k
    · have q1 : decide (1073741824 < k) = true := decide_eq_true h2
      clear h1 h2
      go_enter Try.func12, Try.ntmps12
      go_wp2
      go_ret2
      exact ⟨_, rfl, ⟨hnil.out, OutOf.nil _ _⟩, S, H.out, Kept.refl _ _⟩
    · have q1 : decide (1073741824 < k) = false := decide_eq_false h2
      by_cases h3 : k < -1073741824
      · have q2 : decide (k < -1073741824) = true := decide_eq_true h3
        clear h1 h2 h3
        go_enter Try.func12, Try.ntmps12
        go_wp2
        go_ret2
        exact ⟨_, rfl, ⟨hnil.out, OutOf.nil _ _⟩, S, H.out, Kept.refl _ _⟩
      · have q2 : decide (k < -1073741824) = false := decide_eq_false h3
        have q3 : decide (1073741824 < n + k) = true := decide_eq_true (by omega)
        have q4 : IntKind.i64.wrap (n + k) = n + k := by rw [IntKind.wrap_i64]; omega
        clear h1 h2 h3
        go_enter Try.func12, Try.ntmps12
        go_wp2
        go_ret2
        exact ⟨_, rfl, ⟨hnil.out, OutOf.nil _ _⟩, S, H.out, Kept.refl _ _⟩
  have q1 : decide (1073741824 < k) = false := decide_eq_false (by omega)
  have q2 : decide (k < -1073741824) = false := decide_eq_false (by omega)
  have q3 : decide (1073741824 < n + k) = false := decide_eq_false (by omega)
  have q4 : IntKind.i64.wrap (n + k) = n + k := by rw [IntKind.wrap_i64]; omega
  by_cases h2 : n + k < 0
  · have e1 : gAZ n k = 14 := by unfold gAZ; rw [if_neg h1, if_pos h2]
    have e2 : gAO n l k = [] := by unfold gAO; rw [e1, if_neg (by simp)]
    have e3 : gAN n k = n := by unfold gAN; rw [e1, if_neg (by simp)]
    have e4 : gAL n l k = l := by unfold gAL; rw [e1, if_neg (by simp)]
    rw [e1, e2, e3, e4]
    have q5 : decide (n + k < 0) = true := decide_eq_true h2
    clear hb ho h e1 e2 e3 e4 h1 h2
    go_enter Try.func12, Try.ntmps12
    go_wp2
    go_ret2
    exact ⟨_, rfl, ⟨hnil.out, OutOf.nil _ _⟩, S, H.out, Kept.refl _ _⟩
  have q5 : decide (n + k < 0) = false := decide_eq_false h2
  have e1 : gAZ n k = 0 := by unfold gAZ; rw [if_neg h1, if_neg h2]
  have e3 : gAN n k = n + k := by unfold gAN; rw [e1, if_pos rfl]
  have g1 : (w.setCell ⟨D, 0, none⟩ (.int .i64 (n + k))).heap[D]? = some (.cells #[.int .i64 (n + k), .slice a l.length cap] GrT (0, 0)) := by
    rw [heap_setCell_same w D 0 _ _ _ hb]
    rfl
  have z0 : (w.setCell ⟨D, 0, none⟩ (.int .i64 (n + k))).cell? ⟨D, 0, none⟩ = some (.int .i64 (n + k)) := by simp [World.cell?, g1]
  have z1 : (w.setCell ⟨D, 0, none⟩ (.int .i64 (n + k))).cell? ⟨D, 1, none⟩ = some (.slice a l.length cap) := by simp [World.cell?, g1]
  have x1 : (w.setCell ⟨D, 0, none⟩ (.int .i64 (n + k))).frozen? ⟨D, 1, none⟩ = false := by simp [World.frozen?, g1]
  have hoO : ∀ c, c ≠ D → (w.setCell ⟨D, 0, none⟩ (.int .i64 (n + k))).heap[c]? = w.heap[c]? := fun c hc => heap_setCell_other _ _ _ _ (by simpa using hc)
  have bel0 : Below w.heap.size w w := Below.refl _ w
  by_cases h3 : 0 < n + k
  · have e2 : gAO n l k = [] := by unfold gAO; rw [if_neg (fun e => by omega)]
    have e4 : gAL n l k = l := by unfold gAL; rw [if_neg (fun e => by omega)]
    rw [e1, e2, e3, e4]
    have q6 : decide (0 < n + k) = true := decide_eq_true h3
    have FIN : Hid _ := h.turn bel0 (mk' := grC (n + k)) (v := .slice a l.length cap) g1 hoO (by simp) ⟨rfl, rfl, rfl⟩ (ho.grow (fun x hx => Or.inl hx)) h.lo
    clear hb ho h e1 e2 e3 e4 h1 h2 h3 g1 hoO bel0
    go_enter Try.func12, Try.ntmps12
    go_wp2
    go_ret2
    exact ⟨_, rfl, ⟨RowAt.nil _, OutOf.nil _ _⟩, _, FIN.out⟩
  · have h4 : n + k = 0 := by omega
    have e2 : gAO n l k = l := by unfold gAO; rw [if_pos ⟨e1, h4⟩]
    have e4 : gAL n l k = [] := by unfold gAL; rw [if_pos ⟨e1, h4⟩]
    rw [e1, e2, e3, e4]
    have q6 : decide (0 < n + k) = false := decide_eq_false h3
    have g2 : ((w.setCell ⟨D, 0, none⟩ (.int .i64 (n + k))).setCell ⟨D, 1, none⟩ (.slice none 0 0)).heap[D]? = some (.cells #[.int .i64 (n + k), .slice none 0 0] GrT (0, 0)) := by
      rw [heap_setCell_same _ D 1 _ _ _ g1]
      rfl
    have ho2 : ∀ c, c ≠ D → ((w.setCell ⟨D, 0, none⟩ (.int .i64 (n + k))).setCell ⟨D, 1, none⟩ (.slice none 0 0)).heap[c]? = w.heap[c]? := fun c hc => by
      rw [heap_setCell_other _ _ _ _ (by simpa using hc), hoO c hc]
    have FIN : Hid _ := h.turn bel0 (mk' := grC (n + k)) (v := .slice none 0 0) g2 ho2 (by simp) ⟨rfl, rfl, rfl⟩ (OwnRow.nil _ _ _) (l' := []) (fun x hx => by cases hx)
    have HO : Hid (OutOf S w.heap.size (.slice a l.length cap)) := fun bk off m cp h0 e => Or.inl (ho.own bk off m cp h0 e).1
    have HR : Hid _ := ho.at'.keep (w' := (w.setCell ⟨D, 0, none⟩ (.int .i64 (n + k))).setCell ⟨D, 1, none⟩ (.slice none 0 0)) (by simp) (fun bk off m cp h0 e => ho2 bk (ho.own bk off m cp h0 e).2)
    clear hb ho h e1 e2 e3 e4 h1 h2 h3 g1 hoO bel0 g2 ho2 h4
    go_enter Try.func12, Try.ntmps12
    go_wp2
    go_ret2
    exact ⟨_, rfl, ⟨HR.out, HO.out⟩, _, FIN.out⟩
theorem gr_add (h : GrAt w base D S n l) (k : Int) (hn : 0 ≤ n ∧ n ≤ 1073741824) : Calls Try.prog 12 #[.pointer (some ⟨D, 0, none⟩), .int .i64 k] w fun e w' => ∃ u, e = .returned (.tuple #[u, .int .i64 (gAZ n k)]) ∧ RowAt intC w' u (gAO n l k) ∧ ∃ S', GrAt w' base D S' (gAN n k) (gAL n l k) ∧ Kept w w' S S' :=
  (gr_addO h k hn).mono (fun _ _ ⟨u, h1, h2, h3⟩ => ⟨u, h1, h2.1, h3⟩)
end
theorem GrAt.new (w : World) : GrAt (w.alloc (.cells #[.int .i64 0, .slice none 0 0] GrT)) w.heap.size w.heap.size (fun b => b = w.heap.size) 0 [] :=
  ⟨⟨_, heap_alloc_new w _, OwnRow.nil _ _ _⟩, rfl, fun b hb => ⟨by omega, by simp; omega⟩, fun x hx => (by cases hx)⟩
end Go.Proofs.Ytcjmohfglggonaa
