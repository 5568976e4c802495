/-
  The program's rwlock (package lmutex): who waits, as a new row; who holds it, rising. No condition.
-/
import Derived.Test.YtlcacjekpdmigaaRwCodeB
namespace Go.Proofs.Ytlcacjekpdmigaa
open Go.RowKit

section
variable {w w' : World} {base base' D : Nat} {S S' : Nat → Prop} {L : List Int} {wt : Bool} {q : List Wt}
set_option maxHeartbeats 6400000 in
set_option maxRecDepth 100000 in
theorem clone_any {v : Value} (h : Slid waitC 3 72 w v q) (hq : q.length ≤ 65536) : Calls Try.prog 41 #[v] w fun e w' => ∃ u, e = .returned u ∧ RowAt waitC w' u q ∧ Below w.heap.size w w' := by
  obtain ⟨i0, hi, hz0, hz1, hz2⟩ := info_parts infoW
  have hr := h.row waitC_len
  rcases h.ex with ⟨rfl, rfl⟩ | ⟨g, off, cap, cur, rfl, _⟩
  · have heq : ∀ w, (binOp .eql 49 (.slice none 0 0) (.slice none 0 0)).run Try.prog w = .ok (.bool true) w := fun _ => by kernel_rfl
    clear hr h
    go_enter Try.func41, Try.ntmps41
    go_wp2
    go_ret
    exact ⟨_, rfl, RowAt.nil w, Below.refl _ w⟩
  · have hown : (w.alloc (.cells #[] 72)).ownsRow w.heap.size 72 3 (.slice (some ⟨w.heap.size, 0, none⟩) 0 0) 0 [] := ⟨rfl, Or.inr ⟨w.heap.size, 0, #[], rfl, Nat.le_refl _, heap_alloc_new w _, Nat.le_refl _, Nat.zero_le _, rfl, rfl⟩⟩
    have HO : Hid (World.ownsRow (w.alloc (.cells #[] 72)) w.heap.size 72 3 (.slice (some ⟨w.heap.size, 0, none⟩) 0 0) 0 []) := hown
    have b1 := (Below.refl _ w).alloc (Nat.le_refl _) (.cells #[] 72)
    have HR : Hid _ := hr.fresh b1
    have HB : Hid _ := b1
    have heq : ∀ w, (binOp .eql 49 (.slice (some ⟨g, off, none⟩) q.length cap) (.slice none 0 0)).run Try.prog w = .ok (.bool false) w := fun _ => by kernel_rfl
    clear hr h hown b1
    go_enter Try.func41, Try.ntmps41
    go_wp2_with (at_builtin; refine wpList_app_row (k := 3) (enc := waitC) (l := q) rfl (.tmp 5) (.tmp 6) 49 72 rfl i0 _ 16 Try.underlying49 hi hz0 hz1 hz2 rfl (by decide) waitC_len waitC_one (base := w.heap.size) (n := 0) (xs := []) rfl rfl HO.out HR.out (by simp) (by omega) (by omega) ?_; intro u2 w2 h2 d2)
    go_ret
    refine ⟨_, rfl, RowAt.own (k := 3) (T := 72) (base := w.heap.size) waitC_len ?_, HB.out.trans d2.below⟩
    rw [Nat.zero_add, List.nil_append] at h2
    exact h2
theorem pr_queue (h : PRw w base D S L wt q) : Calls Try.prog 25 #[.pointer (some ⟨D, 0, none⟩)] w fun e w' => ∃ u, e = .returned u ∧ RowAt waitC w' u q ∧ Below w.heap.size w w' := by
  obtain ⟨ho, hs, hq, _⟩ := h.ex
  obtain ⟨v, mo, ks, h1, h2, _⟩ := hq.ex
  have hc := clone_any h2 (by have := h.len; omega)
  obtain ⟨a, cap, rfl⟩ := h2.form
  have c0 : w.cell? ⟨D, 0, none⟩ = some (.slice a q.length cap) := by simp [World.cell?, h1]
  clear h hq h1 h2
  go_enter Try.func25, Try.ntmps25
  go_wp2_with (go_at_call 41; refine hc.mono ?_; rintro e w1 ⟨u, rfl, hr, b1⟩)
  go_ret
  exact ⟨_, rfl, hr, b1⟩
set_option maxHeartbeats 6400000 in
set_option maxRecDepth 100000 in
theorem pr_holders (h : PRw w base D S L wt q) : Calls Try.prog 23 #[.pointer (some ⟨D, 0, none⟩)] w fun e w' => ∃ u, e = .returned (.tuple #[u, .bool (wt && decide (0 < L.length))]) ∧ RowAt intC w' u L ∧ Below w.heap.size w w' := by
  obtain ⟨ho, ks, hq, h2, h3, h4⟩ := h.ex
  obtain ⟨c2, c3, _, _, hD⟩ := hq.cells
  have hl : ks.length ≤ 65536 := by
    have := h4.length_eq
    have := h.len
    omega
  have hs := sorted_any (w := w.drew) (h2.keep (fun _ _ => rfl)) hl
  rw [sorted_self h4 h.srt, h4.length_eq] at hs
  have fin : ∀ (w' : World) (v : Value), w'.ownsRow w.drew.heap.size 3 1 v L.length (intL L) → RowAt intC w' v L := fun w' v h => RowAt.own (k := 1) (T := 3) (base := w.drew.heap.size) intC_len (by rw [rowL_int]; exact h)
  have FIN : Hid _ := fin
  generalize (wt && decide (0 < L.length)) = y at *
  have z5 : (w.drew.alloc (.cells #[.map ho] 65)).cell? ⟨D, 2, none⟩ = some (.map ho) := (World.cell?_of_block (a := ⟨D, 2, none⟩) (Below.heap_alloc w.drew _ D hD)).trans c2
  have y5 : (w.drew.alloc (.cells #[.map ho] 65)).cell? ⟨D, 3, none⟩ = some (.bool y) := (World.cell?_of_block (a := ⟨D, 3, none⟩) (Below.heap_alloc w.drew _ D hD)).trans c3
  clear h hq h2 h3 h4 fin hl
  go_enter Try.func23, Try.ntmps23
  go_wp2
  refine wp_region_held_drew (S := (fun w' : World => w'.cell? ⟨D, 2, none⟩ = some (.map ho) ∧ w'.cell? ⟨D, 3, none⟩ = some (.bool y))) (by kernel_rfl) ?_ (fun hHeld0 => ?_)
  · try dsimp only
    go_keep
  refine tk0 (.pointer (some ⟨D, 0, none⟩)) (by kernel_rfl) (by kernel_rfl) (by kernel_rfl) (fun _ _ _ h => h) rfl (fun w hSw => by (try dsimp only at hSw); obtain ⟨q0, q1⟩ := hSw; go_simp) (by assumption) ?_
  try simp only [Act.put, List.setIfInBounds_toArray, List.set_cons_zero, List.set_cons_succ]
  refine tk1 (.pointer (some ⟨D, 0, none⟩)) (by kernel_rfl) (by kernel_rfl) (by kernel_rfl) (fun _ _ _ h => h) rfl (fun w hSw => by (try dsimp only at hSw); obtain ⟨q0, q1⟩ := hSw; go_simp) (by assumption) ?_
  try simp only [Act.put, List.setIfInBounds_toArray, List.set_cons_zero, List.set_cons_succ]
  refine tk2 (.pointer (some ⟨D, 2, none⟩)) (by kernel_rfl) (by kernel_rfl) (by kernel_rfl) (fun _ _ _ h => h) rfl (fun w hSw => by (try dsimp only at hSw); obtain ⟨q0, q1⟩ := hSw; go_simp) (by assumption) ?_
  try simp only [Act.put, List.setIfInBounds_toArray, List.set_cons_zero, List.set_cons_succ]
  refine tk3 (.map ho) (by kernel_rfl) (by kernel_rfl) (by kernel_rfl) (fun _ _ _ h => h) rfl (fun w hSw => by (try dsimp only at hSw); obtain ⟨q0, q1⟩ := hSw; go_simp) (by assumption) ?_
  try simp only [Act.put, List.setIfInBounds_toArray, List.set_cons_zero, List.set_cons_succ]
  refine tk6 (.pointer (some ⟨D, 0, none⟩)) (by kernel_rfl) (by kernel_rfl) (by kernel_rfl) (fun _ _ _ h => h) rfl (fun w hSw => by (try dsimp only at hSw); obtain ⟨q0, q1⟩ := hSw; go_simp) (by assumption) ?_
  try simp only [Act.put, List.setIfInBounds_toArray, List.set_cons_zero, List.set_cons_succ]
  refine tk7 (.pointer (some ⟨D, 0, none⟩)) (by kernel_rfl) (by kernel_rfl) (by kernel_rfl) (fun _ _ _ h => h) rfl (fun w hSw => by (try dsimp only at hSw); obtain ⟨q0, q1⟩ := hSw; go_simp) (by assumption) ?_
  try simp only [Act.put, List.setIfInBounds_toArray, List.set_cons_zero, List.set_cons_succ]
  refine tk8 (.pointer (some ⟨D, 3, none⟩)) (by kernel_rfl) (by kernel_rfl) (by kernel_rfl) (fun _ _ _ h => h) rfl (fun w hSw => by (try dsimp only at hSw); obtain ⟨q0, q1⟩ := hSw; go_simp) (by assumption) ?_
  try simp only [Act.put, List.setIfInBounds_toArray, List.set_cons_zero, List.set_cons_succ]
  refine tk9 (.bool y) (by kernel_rfl) (by kernel_rfl) (by kernel_rfl) (fun _ _ _ h => h) rfl (fun w hSw => by (try dsimp only at hSw); obtain ⟨q0, q1⟩ := hSw; go_simp) (by assumption) ?_
  try simp only [Act.put, List.setIfInBounds_toArray, List.set_cons_zero, List.set_cons_succ]
  refine cl4 (by kernel_rfl) rfl (fun K hK => ?_)
  go_simp
  go_at_call 40
  refine (keys_call _ _).mono ?_
  rintro e w5 ⟨rfl, rfl⟩
  refine hK.out _ _ ?_ (fun hHeld => ?_)
  · exact ⟨z5, y5⟩
  clear hK K
  try simp only [Act.put, List.setIfInBounds_toArray, List.set_cons_zero, List.set_cons_succ]
  refine cl5 (by kernel_rfl) rfl (fun K hK => ?_)
  go_simp
  go_at_call 39
  refine hs.mono ?_
  rintro e w6 ⟨v, rfl, hv, b6⟩
  obtain ⟨pv, nv, cv, rfl⟩ := own_form hv
  have z6 := (b6.cell (p := ⟨D, 2, none⟩) (by exact hD)).trans c2
  have y6 := (b6.cell (p := ⟨D, 3, none⟩) (by exact hD)).trans c3
  refine hK.out _ _ ?_ (fun hHeld => ?_)
  · exact ⟨z6, y6⟩
  clear hK K
  try simp only [Act.put, List.setIfInBounds_toArray, List.set_cons_zero, List.set_cons_succ]
  refine tk10 (.slice pv nv cv) (by kernel_rfl) (by kernel_rfl) (by kernel_rfl) (fun _ _ _ h => h) rfl (fun w hSw => by (try dsimp only at hSw); obtain ⟨q0, q1⟩ := hSw; go_simp) (by assumption) ?_
  try simp only [Act.put, List.setIfInBounds_toArray, List.set_cons_zero, List.set_cons_succ]
  refine tk11 (.bool y) (by kernel_rfl) (by kernel_rfl) (by kernel_rfl) (fun _ _ _ h => h) rfl (fun w hSw => by (try dsimp only at hSw); obtain ⟨q0, q1⟩ := hSw; go_simp) (by assumption) ?_
  try simp only [Act.put, List.setIfInBounds_toArray, List.set_cons_zero, List.set_cons_succ]
  refine wpAnyH_done (by kernel_rfl) ?_ _
  go_wp2
  go_ret2
  exact ⟨_, rfl, FIN.out _ _ hv, undrB b6⟩
end
end Go.Proofs.Ytlcacjekpdmigaa
