/-
  Package locks: the first that waits; a lock made. No condition.
-/
import Derived.Test.YtmfadmhbkgemmaaQLcRep
namespace Go.Proofs.Ytmfadmhbkgemmaa
open Go.RowKit

section
variable {w : World} {X : Nat} {S : Nat → Prop} {h : List Int} {wr : Bool} {q : List Wq}
theorem LcM.head {H P : Nat} {L : List (Nat × Wq)} {hs : List Int} {ps : List (Int × Nat)} {y : Wq} (M : LcM w X S h wr (y :: q) H P L hs ps) : ∃ g L', L = (g, y) :: L' ∧ L'.map (·.2) = q ∧ w.heap[g]? = some (.cells (lcPA y (X, 3) (adL X L 2)) lcPT (0, 0)) ∧ pbC X L 0 = (g, 0) := by
  obtain ⟨p, L', e, e1, e2⟩ := List.map_eq_cons_iff.1 M.ql
  have hb := M.ring.nod 0 p (by rw [e]; rfl)
  obtain ⟨g, z⟩ := p
  obtain rfl : z = y := e1
  exact ⟨g, L', e, e2, hb, by rw [e]; rfl⟩
set_option maxRecDepth 100000 in
set_option maxHeartbeats 1000000 in
theorem first_any {y : Wq} (I : LcAt w X S h wr (y :: q)) : Calls Try.prog 57 #[bPtr X] w fun e w' => e = .returned (.agg (lcWA y)) ∧ Below w.heap.size w w' := by
  obtain ⟨H, P, L, hs, ps, M⟩ := I.ex
  obtain ⟨g, L', e, e2, hb, e3⟩ := M.head
  have c7 := M.cell 7 _ rfl
  rw [e3] at c7
  have hX := lt_of_block M.ring.blk
  have hg := lt_of_block hb
  obtain ⟨V, hV⟩ : ∃ V, V = w.alloc (.cells #[.int .i64 0, .int .i64 0, .bool false] lcWT) := ⟨_, rfl⟩
  have bV : Below w.heap.size w V := by rw [hV]; exact (Below.refl _ w).alloc (Nat.le_refl _) _
  have nV : V.heap[w.heap.size]? = some (.cells #[.int .i64 0, .int .i64 0, .bool false] lcWT (0, 0)) := by rw [hV]; exact heap_alloc_new w _
  have hb2 := (bV.block _ hg).trans hb
  have z7 : V.cell? ⟨X, 7, none⟩ = some (.pointer (some ⟨g, 0, none⟩)) := (bV.cell (p := ⟨X, 7, none⟩) (by exact hX)).trans c7
  have z0 : V.cell? ⟨g, 0, none⟩ = some (.int .i64 y.s) := by simp [World.cell?, hb2]
  have z1 : V.cell? ⟨g, 1, none⟩ = some (.int .i64 y.n) := by simp [World.cell?, hb2]
  have z2 : V.cell? ⟨g, 2, none⟩ = some (.bool y.rd) := by simp [World.cell?, hb2]
  have HV : Hid (w.alloc (.cells #[.int .i64 0, .int .i64 0, .bool false] lcWT) = V) := hV.symm
  have HB : Hid (Below w.heap.size w V) := bV
  have HN : Hid (V.heap[w.heap.size]? = some (.cells #[.int .i64 0, .int .i64 0, .bool false] lcWT (0, 0))) := nV
  clear M I e e2 hb e3 c7 hX hg hV bV nV hb2
  go_enter Try.func57, Try.ntmps57
  go_upto_region 1 with fail
  rw [HV.out]
  go_wp2_with (show wpList _ _ _ (⟨_, Op.store lcWT _ _, _, _, _, _⟩ :: _) _ _; refine store_row_g rfl lcWT _ _ rfl w.heap.size (lcWA y) rfl rfl lcWT _ HN.out sizeLw rfl (by simp [Value.oneCell']) ?_; intro w4 h4 g4)
  refine bodyPost_ret (results_cell_row Try.results57 _ _ w.heap.size lcWT _ (0, 0) _ rfl h4 Try.underlying70 rfl sizeLw) rfl ?_
  exact ⟨rfl, bel_grown HB.out (Nat.le_refl _) g4⟩
/-- The ring of a lock that is new. -/
theorem ring_new {V : World} {X H P : Nat} (h : V.heap[X]? = some (.cells #[.map (some H), .bool false, .map (some P), .int .i64 0, .int .i64 0, .bool false, .pointer none, .pointer none] lcT (0, 0))) :
    LcC ((V.setCell ⟨X, 6, none⟩ (pt2 (X, 3))).setCell ⟨X, 7, none⟩ (pt2 (X, 3))) X H false P [] := by
  refine ⟨?_, fun i p hp => (by cases hp), List.nodup_nil, by simp⟩
  rw [heap_setCell_same _ X 7 _ _ _ (heap_setCell_same _ X 6 _ _ _ h)]
  rfl
set_option maxRecDepth 100000 in
set_option maxHeartbeats 1000000 in
/-- A lock made. -/
theorem newLock_any (w : World) : Calls Try.prog 22 #[] w fun e w' => ∃ X S, e = .returned (bPtr X) ∧ LcAt w' X S [] false [] ∧ (∀ g, S g → w.heap.size ≤ g) ∧ Below w.heap.size w w' := by
  obtain ⟨a1, a2, a3, a4⟩ := three_blks w (.map #[] 0) (.map #[] 0) (.cells #[.map (some w.heap.size), .bool false, .map (some (w.heap.size + 1)), .int .i64 0, .int .i64 0, .bool false, .pointer none, .pointer none] lcT)
  obtain ⟨V, hV⟩ : ∃ V, V = ((w.alloc (.map #[] 0)).alloc (.map #[] 0)).alloc (.cells #[.map (some w.heap.size), .bool false, .map (some (w.heap.size + 1)), .int .i64 0, .int .i64 0, .bool false, .pointer none, .pointer none] lcT) := ⟨_, rfl⟩
  have bV : Below w.heap.size w V := by rw [hV]; exact (((Below.refl _ w).alloc (Nat.le_refl _) _).alloc (by simp) _).alloc (by simp; omega) _
  rw [← hV] at a1 a2 a3 a4
  have HV : Hid (((w.alloc (.map #[] 0)).alloc (.map #[] 0)).alloc (.cells #[.map (some w.heap.size), .bool false, .map (some (w.heap.size + 1)), .int .i64 0, .int .i64 0, .bool false, .pointer none, .pointer none] lcT) = V) := hV.symm
  obtain ⟨V2, hV2⟩ : ∃ V2, V2 = ((V.setCell ⟨w.heap.size + 1 + 1, 6, none⟩ (.pointer (some ⟨w.heap.size + 1 + 1, 3, none⟩))).setCell ⟨w.heap.size + 1 + 1, 7, none⟩ (.pointer (some ⟨w.heap.size + 1 + 1, 3, none⟩))).drew := ⟨_, rfl⟩
  have o2 : ∀ g, g ≠ w.heap.size + 1 + 1 → V2.heap[g]? = V.heap[g]? := fun g hg => by
    rw [hV2]
    exact (heap_setCell_other _ _ _ _ (by simpa using hg)).trans (heap_setCell_other _ _ _ _ (by simpa using hg))
  have b2 : Below w.heap.size w V2 := by
    rw [hV2]
    exact ((bV.setCell (p := ⟨w.heap.size + 1 + 1, 6, none⟩) (by show w.heap.size ≤ w.heap.size + 1 + 1; omega) _).setCell (p := ⟨w.heap.size + 1 + 1, 7, none⟩) (by show w.heap.size ≤ w.heap.size + 1 + 1; omega) _).drew
  have n6 : V.cell? ⟨w.heap.size + 1 + 1, 6, none⟩ = some (.pointer none) := by simp [World.cell?, show V.heap[w.heap.size + 1 + 1]? = _ from a3]
  have n7 : V.cell? ⟨w.heap.size + 1 + 1, 7, none⟩ = some (.pointer none) := by simp [World.cell?, show V.heap[w.heap.size + 1 + 1]? = _ from a3]
  have f6 : V.frozen? ⟨w.heap.size + 1 + 1, 6, none⟩ = false := by simp [World.frozen?, show V.heap[w.heap.size + 1 + 1]? = _ from a3]
  have f7 : V.frozen? ⟨w.heap.size + 1 + 1, 7, none⟩ = false := by simp [World.frozen?, show V.heap[w.heap.size + 1 + 1]? = _ from a3]
  have HE : Hid (LcAt V2 (w.heap.size + 1 + 1) (fun g => g = w.heap.size + 1 + 1 ∨ g = w.heap.size ∨ g = w.heap.size + 1) [] false [] ∧ (∀ g, (g = w.heap.size + 1 + 1 ∨ g = w.heap.size ∨ g = w.heap.size + 1) → w.heap.size ≤ g) ∧ Below w.heap.size w V2) := (show Hid _ from (⟨⟨w.heap.size, w.heap.size + 1, [], [], [], by rw [hV2]; exact (ring_new (V := V) a3).keep (fun _ _ => rfl), rfl, SetAt.keep (w := w.alloc (.map #[] 0)) (set_new w) ((o2 _ (by omega)).trans (a1.trans (heap_alloc_new w _).symm)), List.Perm.refl _,
    MapOf.At.keep (w := (w.alloc (.map #[] 0)).alloc (.map #[] 0)) (by have := MapOf.new mPl (w.alloc (.map #[] 0)); rwa [World.size_alloc] at this) ((o2 _ (by omega)).trans (a2.trans (by have := heap_alloc_new (w.alloc (.map #[] 0)) (.map #[] 0); rw [World.size_alloc] at this; exact this.symm))), fun s => rfl, List.nodup_nil, fun y hy => (by cases hy), by omega, fun g => by simp⟩, fun g hg => by omega, b2⟩ : _ ∧ _ ∧ _))
  have HV2 : Hid (((V.setCell ⟨w.heap.size + 1 + 1, 6, none⟩ (.pointer (some ⟨w.heap.size + 1 + 1, 3, none⟩))).setCell ⟨w.heap.size + 1 + 1, 7, none⟩ (.pointer (some ⟨w.heap.size + 1 + 1, 3, none⟩))).drew = V2) := hV2.symm
  have mkA : ∀ w : World, (Instr.makeMap 83 none).run Try.prog w = .ok (.map (some w.heap.size)) (w.alloc (.map #[] 0)) := fun w => run_makeMap _ _
  have mkB : ∀ w : World, (Instr.makeMap 84 none).run Try.prog w = .ok (.map (some w.heap.size)) (w.alloc (.map #[] 0)) := fun w => run_makeMap _ _
  clear hV hV2 a1 a2 a3 a4 bV o2 b2
  go_enter Try.func22, Try.ntmps22
  go_upto_region 2 with fail
  rw [HV.out]
  refine wp_region_held_drew (S := (fun _ : World => True)) (by kernel_rfl) ?_ (fun hHeld0 => ?_)
  · trivial
  refine tk0 (.pointer (some ⟨w.heap.size + 1 + 1, 0, none⟩)) (by kernel_rfl) (by kernel_rfl) (by kernel_rfl) (fun _ _ _ h => h) rfl (fun w hSw => by (try dsimp only at hSw); go_simp) trivial ?_
  try simp only [Act.put, List.setIfInBounds_toArray, List.set_cons_zero, List.set_cons_succ]
  refine tk1 (.pointer (some ⟨w.heap.size + 1 + 1, 0, none⟩)) (by kernel_rfl) (by kernel_rfl) (by kernel_rfl) (fun _ _ _ h => h) rfl (fun w hSw => by (try dsimp only at hSw); go_simp) trivial ?_
  try simp only [Act.put, List.setIfInBounds_toArray, List.set_cons_zero, List.set_cons_succ]
  refine tk2 (.pointer (some ⟨w.heap.size + 1 + 1, 0, none⟩)) (by kernel_rfl) (by kernel_rfl) (by kernel_rfl) (fun _ _ _ h => h) rfl (fun w hSw => by (try dsimp only at hSw); go_simp) trivial ?_
  try simp only [Act.put, List.setIfInBounds_toArray, List.set_cons_zero, List.set_cons_succ]
  refine tk3 (.pointer (some ⟨w.heap.size + 1 + 1, 0, none⟩)) (by kernel_rfl) (by kernel_rfl) (by kernel_rfl) (fun _ _ _ h => h) rfl (fun w hSw => by (try dsimp only at hSw); go_simp) trivial ?_
  try simp only [Act.put, List.setIfInBounds_toArray, List.set_cons_zero, List.set_cons_succ]
  refine tk4 (.pointer (some ⟨w.heap.size + 1 + 1, 3, none⟩)) (by kernel_rfl) (by kernel_rfl) (by kernel_rfl) (fun _ _ _ h => h) rfl (fun w hSw => by (try dsimp only at hSw); go_simp) trivial ?_
  try simp only [Act.put, List.setIfInBounds_toArray, List.set_cons_zero, List.set_cons_succ]
  refine tk5 (.pointer (some ⟨w.heap.size + 1 + 1, 0, none⟩)) (by kernel_rfl) (by kernel_rfl) (by kernel_rfl) (fun _ _ _ h => h) rfl (fun w hSw => by (try dsimp only at hSw); go_simp) trivial ?_
  try simp only [Act.put, List.setIfInBounds_toArray, List.set_cons_zero, List.set_cons_succ]
  refine tk6 (.pointer (some ⟨w.heap.size + 1 + 1, 0, none⟩)) (by kernel_rfl) (by kernel_rfl) (by kernel_rfl) (fun _ _ _ h => h) rfl (fun w hSw => by (try dsimp only at hSw); go_simp) trivial ?_
  try simp only [Act.put, List.setIfInBounds_toArray, List.set_cons_zero, List.set_cons_succ]
  refine tk7 (.pointer (some ⟨w.heap.size + 1 + 1, 3, none⟩)) (by kernel_rfl) (by kernel_rfl) (by kernel_rfl) (fun _ _ _ h => h) rfl (fun w hSw => by (try dsimp only at hSw); go_simp) trivial ?_
  try simp only [Act.put, List.setIfInBounds_toArray, List.set_cons_zero, List.set_cons_succ]
  refine tk8 (.pointer (some ⟨w.heap.size + 1 + 1, 0, none⟩)) (by kernel_rfl) (by kernel_rfl) (by kernel_rfl) (fun _ _ _ h => h) rfl (fun w hSw => by (try dsimp only at hSw); go_simp) trivial ?_
  try simp only [Act.put, List.setIfInBounds_toArray, List.set_cons_zero, List.set_cons_succ]
  refine tk9 (.pointer (some ⟨w.heap.size + 1 + 1, 3, none⟩)) (by kernel_rfl) (by kernel_rfl) (by kernel_rfl) (fun _ _ _ h => h) rfl (fun w hSw => by (try dsimp only at hSw); go_simp) trivial ?_
  try simp only [Act.put, List.setIfInBounds_toArray, List.set_cons_zero, List.set_cons_succ]
  refine tk10 (.pointer (some ⟨w.heap.size + 1 + 1, 6, none⟩)) (by kernel_rfl) (by kernel_rfl) (by kernel_rfl) (fun _ _ _ h => h) rfl (fun w hSw => by (try dsimp only at hSw); go_simp) trivial ?_
  try simp only [Act.put, List.setIfInBounds_toArray, List.set_cons_zero, List.set_cons_succ]
  refine cl11 (by kernel_rfl) rfl (fun K hK => ?_)
  go_simp
  refine hK.out _ _ ?_ (fun hHeld => ?_)
  · trivial
  clear hK K
  try simp only [Act.put, List.setIfInBounds_toArray, List.set_cons_zero, List.set_cons_succ]
  refine tk12 (.pointer (some ⟨w.heap.size + 1 + 1, 0, none⟩)) (by kernel_rfl) (by kernel_rfl) (by kernel_rfl) (fun _ _ _ h => h) rfl (fun w hSw => by (try dsimp only at hSw); go_simp) trivial ?_
  try simp only [Act.put, List.setIfInBounds_toArray, List.set_cons_zero, List.set_cons_succ]
  refine tk13 (.pointer (some ⟨w.heap.size + 1 + 1, 3, none⟩)) (by kernel_rfl) (by kernel_rfl) (by kernel_rfl) (fun _ _ _ h => h) rfl (fun w hSw => by (try dsimp only at hSw); go_simp) trivial ?_
  try simp only [Act.put, List.setIfInBounds_toArray, List.set_cons_zero, List.set_cons_succ]
  refine tk14 (.pointer (some ⟨w.heap.size + 1 + 1, 7, none⟩)) (by kernel_rfl) (by kernel_rfl) (by kernel_rfl) (fun _ _ _ h => h) rfl (fun w hSw => by (try dsimp only at hSw); go_simp) trivial ?_
  try simp only [Act.put, List.setIfInBounds_toArray, List.set_cons_zero, List.set_cons_succ]
  refine cl15 (by kernel_rfl) rfl (fun K hK => ?_)
  go_simp
  refine hK.out _ _ ?_ (fun hHeld => ?_)
  · trivial
  clear hK K
  try simp only [Act.put, List.setIfInBounds_toArray, List.set_cons_zero, List.set_cons_succ]
  refine wpAnyH_done (by kernel_rfl) ?_ _
  go_wp2
  go_ret
  rw [HV2.out]
  exact ⟨_, _, rfl, HE.out.1, HE.out.2.1, HE.out.2.2⟩
end
end Go.Proofs.Ytmfadmhbkgemmaa
