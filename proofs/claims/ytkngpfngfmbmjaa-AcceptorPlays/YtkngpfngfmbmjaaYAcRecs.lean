/-
  Package acceptor: the record of an acceptance, a promise raised. The conditions: a text has at most 2^48 bytes; at most 1000 records.
-/
import Derived.Test.YtkngpfngfmbmjaaYAcSmall
import Derived.Test.YtkngpfngfmbmjaaYPackQ
namespace Go.Proofs.Ytkngpfngfmbmjaa
open Go.Shelf Go.RowKit Go.Lib Go.Sort

section
variable {P : Program} {md : Region.Mode} {Q : Exit → Act → World → Prop} {S : World → Prop} {fuel : Nat} {listed : Array Bool} {a : Act} {w : World} {l : List Oper}
theorem rd4_8 {o0 o1 o2 o3 o4 o5 o6 o7 o8 : Oper} (hr : Region.ready md (o0 :: o1 :: o2 :: o3 :: o4 :: o5 :: o6 :: o7 :: o8 :: l).toArray listed = [4, 8]) (hw0 : Region.wanted o4 (yielded (o0 :: o1 :: o2 :: o3 :: o4 :: o5 :: o6 :: o7 :: o8 :: l).toArray a.tmps) = true) (hw1 : Region.wanted o8 (yielded (o0 :: o1 :: o2 :: o3 :: o4 :: o5 :: o6 :: o7 :: o8 :: l).toArray a.tmps) = true)
    (h0 : ∀ K' : Act → World → Prop, Shut (∀ a w, S w → (S w → wpAnyH P md (o0 :: o1 :: o2 :: o3 :: o4 :: o5 :: o6 :: o7 :: o8 :: l).toArray Q S fuel (listed.setIfInBounds 4 true) a w) → K' a w) → Oper.wp P o4 a w K' Q)
    (h1 : ∀ K' : Act → World → Prop, Shut (∀ a w, S w → (S w → wpAnyH P md (o0 :: o1 :: o2 :: o3 :: o4 :: o5 :: o6 :: o7 :: o8 :: l).toArray Q S fuel (listed.setIfInBounds 8 true) a w) → K' a w) → Oper.wp P o8 a w K' Q) : wpAnyH P md (o0 :: o1 :: o2 :: o3 :: o4 :: o5 :: o6 :: o7 :: o8 :: l).toArray Q S (fuel + 1) listed a w :=
  wpAnyH_ready hr (by simp) (AllReadyH.cons (o := o4) rfl (fun K hK => by rw [if_pos hw0]; exact h0 K hK) (AllReadyH.cons (o := o8) rfl (fun K hK => by rw [if_pos hw1]; exact h1 K hK) AllReadyH.nil))
end

theorem EnAt.boxed {w : World} {B : Nat} {e : En} (h : EnAt w B e) (j : Nat) (u : Value) (hu : (enA e)[j]? = some u) : w.cell? ⟨B, j, none⟩ = some u := by
  simp only [World.cell?, h]
  simpa using hu
section
variable {w w' : World} {M : Nat} {u : Value} {l : List Rc}
set_option maxHeartbeats 6400000 in
set_option maxRecDepth 100000 in
theorem paccept_any (h : RrAt w M u l) (hl : l.length ≤ 1000) (e : En) (hn : nameOk e.cmd.name) : Calls Try.prog 36 #[.pointer (some ⟨M, 0, none⟩), .agg (enA e)] w (RecPost w M u l (accR e)) := by
  obtain ⟨i0, hi, hz0, hz1, hz2⟩ := info_parts infoRec
  obtain ⟨W, hW⟩ : ∃ W, W = w.alloc (.cells (enA e) 36) := ⟨_, rfl⟩
  have bW : Below w.heap.size w W := by rw [hW]; exact (Below.refl _ w).alloc (Nat.le_refl _) _
  have eW : EnAt W w.heap.size e := by rw [hW]; exact heap_alloc_new w _
  have szW : W.heap.size = w.heap.size + 1 := by rw [hW]; simp
  obtain ⟨pu, nu, cu, rfl⟩ := own_form h.own
  have HR : Hid (∀ y, Below w.heap.size w y → RrAt y M (.slice pu nu cu) l) := fun y b => h.fresh b
  have HH : Hid _ := h
  have hM := h.lt
  have hne : ¬ M = w.heap.size := by omega
  have c0 : W.cell? ⟨M, 0, none⟩ = some (.slice pu nu cu) := (h.fresh bW).c0
  have za0 := EnAt.boxed eW 0 _ rfl
  have za1 := EnAt.boxed eW 1 _ rfl
  have za2 := EnAt.boxed eW 2 _ rfl
  have za3 := EnAt.boxed eW 3 _ rfl
  have za4 := EnAt.boxed eW 4 _ rfl
  have za5 := EnAt.boxed eW 5 _ rfl
  have za6 := EnAt.boxed eW 6 _ rfl
  have HW : Hid (w.alloc (.cells (enA e) 36) = W) := hW.symm
  have BW : Hid (Below w.heap.size w W ∧ EnAt W w.heap.size e ∧ W.heap.size = w.heap.size + 1) := ⟨bW, eW, szW⟩
  clear h hW bW eW szW
  go_enter Try.func36, Try.ntmps36
  go_upto_region 1 with fail
  rw [HW.out]
  refine wp_region_held_drew (S := (fun y : World => y.cell? ⟨w.heap.size, 0, none⟩ = some (.int .i64 e.slot) ∧ y.cell? ⟨w.heap.size, 1, none⟩ = some (.int .i64 e.ballot) ∧ y.cell? ⟨w.heap.size, 2, none⟩ = some (.int .i64 e.cmd.kind) ∧ y.cell? ⟨w.heap.size, 3, none⟩ = some (.int .i64 e.cmd.session) ∧ y.cell? ⟨w.heap.size, 4, none⟩ = some (.int .i64 e.cmd.seq) ∧ y.cell? ⟨w.heap.size, 5, none⟩ = some (.string e.cmd.name) ∧ y.cell? ⟨w.heap.size, 6, none⟩ = some (.int .i64 e.cmd.n))) (by kernel_rfl) ?_ (fun hHeld0 => ?_)
  · try dsimp only
    go_keep
  refine tk0 (.pointer (some ⟨M, 0, none⟩)) (by kernel_rfl) (by kernel_rfl) (by kernel_rfl) (fun _ _ _ h => h) rfl (fun w hSw => by (try dsimp only at hSw); obtain ⟨q0, q1, q2, q3, q4, q5, q6⟩ := hSw; go_simp) (by assumption) ?_
  try simp only [Act.put, List.setIfInBounds_toArray, List.set_cons_zero, List.set_cons_succ]
  refine tk1 (.pointer (some ⟨M, 0, none⟩)) (by kernel_rfl) (by kernel_rfl) (by kernel_rfl) (fun _ _ _ h => h) rfl (fun w hSw => by (try dsimp only at hSw); obtain ⟨q0, q1, q2, q3, q4, q5, q6⟩ := hSw; go_simp) (by assumption) ?_
  try simp only [Act.put, List.setIfInBounds_toArray, List.set_cons_zero, List.set_cons_succ]
  refine tk2 (.pointer (some ⟨M, 0, none⟩)) (by kernel_rfl) (by kernel_rfl) (by kernel_rfl) (fun _ _ _ h => h) rfl (fun w hSw => by (try dsimp only at hSw); obtain ⟨q0, q1, q2, q3, q4, q5, q6⟩ := hSw; go_simp) (by assumption) ?_
  try simp only [Act.put, List.setIfInBounds_toArray, List.set_cons_zero, List.set_cons_succ]
  refine tk3 (.pointer (some ⟨M, 0, none⟩)) (by kernel_rfl) (by kernel_rfl) (by kernel_rfl) (fun _ _ _ h => h) rfl (fun w hSw => by (try dsimp only at hSw); obtain ⟨q0, q1, q2, q3, q4, q5, q6⟩ := hSw; go_simp) (by assumption) ?_
  try simp only [Act.put, List.setIfInBounds_toArray, List.set_cons_zero, List.set_cons_succ]
  refine tk5 (.agg (enA e)) (by kernel_rfl) (by kernel_rfl) (by kernel_rfl) (fun _ _ _ h => h) rfl (fun w hSw => by (try dsimp only at hSw); obtain ⟨q0, q1, q2, q3, q4, q5, q6⟩ := hSw; go_simp) (by assumption) ?_
  try simp only [Act.put, List.setIfInBounds_toArray, List.set_cons_zero, List.set_cons_succ]
  refine rd4_6 (by kernel_rfl) rfl rfl (fun K hK => ?_) (fun K hK => ?_)
  · go_simp
    refine hK.out _ _ ?_ (fun hHeld => ?_)
    · try dsimp only
      go_keep
    clear hK K
    try simp only [Act.put, List.setIfInBounds_toArray, List.set_cons_zero, List.set_cons_succ]
    refine cl6 (by kernel_rfl) rfl (fun K hK => ?_)
    go_simp
    go_at_call 40
    refine (aclone_any _ e hn).mono ?_
    rintro r w2 ⟨rfl, b2⟩
    have B2 : Hid (Below w.heap.size w w2) := bmm BW.out.1 BW.out.1.size (undrew b2)
    have e2 : EnAt w2 w.heap.size e := ((undrew b2).block _ (by have := BW.out.2.2; omega)).trans BW.out.2.1
    have ze0 := EnAt.boxed e2 0 _ rfl
    have ze1 := EnAt.boxed e2 1 _ rfl
    have ze2 := EnAt.boxed e2 2 _ rfl
    have ze3 := EnAt.boxed e2 3 _ rfl
    have ze4 := EnAt.boxed e2 4 _ rfl
    have ze5 := EnAt.boxed e2 5 _ rfl
    have ze6 := EnAt.boxed e2 6 _ rfl
    have c2 : w2.cell? ⟨M, 0, none⟩ = some (.slice pu nu cu) := (HR.out _ B2.out).c0
    have cA : ∀ o, (w2.alloc o).cell? ⟨M, 0, none⟩ = some (.slice pu nu cu) := fun o => (HR.out _ (B2.out.alloc B2.out.size o)).c0
    have E2 : Hid _ := e2
    clear b2 e2
    refine hK.out _ _ ?_ (fun hHeld => ?_)
    · try dsimp only
      go_keep
    clear hK K
    try simp only [Act.put, List.setIfInBounds_toArray, List.set_cons_zero, List.set_cons_succ]
    refine tk7 (.agg #[.int .i64 2, .int .i64 0, .int .i64 e.slot, .int .i64 e.ballot, .int .i64 e.cmd.kind, .int .i64 e.cmd.session, .int .i64 e.cmd.seq, .string e.cmd.name, .int .i64 e.cmd.n]) (by kernel_rfl) (by kernel_rfl) (by kernel_rfl) (fun _ _ _ h => h) rfl (fun w hSw => by (try dsimp only at hSw); obtain ⟨q0, q1, q2, q3, q4, q5, q6⟩ := hSw; go_simp) (by assumption) ?_
    try simp only [Act.put, List.setIfInBounds_toArray, List.set_cons_zero, List.set_cons_succ]
    refine cl8 (by kernel_rfl) rfl (fun K hK => ?_)
    go_simp
    refine hK.out _ _ ?_ (fun hHeld => ?_)
    · try dsimp only
      go_keep
    clear hK K
    try simp only [Act.put, List.setIfInBounds_toArray, List.set_cons_zero, List.set_cons_succ]
    refine cl9 (by kernel_rfl) rfl (fun K hK => ?_)
    refine wp_app_row (k := 9) (enc := rcC) (l := [accR e]) (.tmp 8) (.tmp 12) 39 65 rfl i0 _ 80 Try.underlying39 hi hz0 hz1 hz2 rfl (by decide) rcC_len rcC_ones (base := M) rfl rfl (World.ownsRow.alloc (HR.out _ B2.out).own _) (RowAt.built (heap_alloc_new _ _) rfl 1 rfl rfl) (by simp; have := B2.out.size; omega) (by simp; omega) (by simp; omega) ?_
    intro u6 w6 o6 a6
    obtain ⟨p6, n6, q6, rfl⟩ := own_form o6
    have R6 : Hid _ := HH.out.more (B2.out.alloc B2.out.size _) o6 a6
    have k6 := (a6.rest M (by simp; have := B2.out.size; omega) (fun e => HH.out.ne e.symm)).trans (((B2.out.alloc B2.out.size _).block M hM).trans HH.out.blk)
    have z6 : w6.cell? ⟨M, 0, none⟩ = some (.slice pu nu cu) := by simp [World.cell?, k6]
    have f6 : w6.frozen? ⟨M, 0, none⟩ = false := by simp [World.frozen?, k6]
    have e6 : EnAt w6 w.heap.size e := (a6.rest w.heap.size (by simp; have := lt_of_block E2.out; omega) (fun e => by have h1 := (World.ownsRow.lt HH.out.own _ e.symm).2; omega)).trans ((Below.heap_alloc w2 _ w.heap.size (lt_of_block E2.out)).trans E2.out)
    have zf0 := EnAt.boxed e6 0 _ rfl
    have zf1 := EnAt.boxed e6 1 _ rfl
    have zf2 := EnAt.boxed e6 2 _ rfl
    have zf3 := EnAt.boxed e6 3 _ rfl
    have zf4 := EnAt.boxed e6 4 _ rfl
    have zf5 := EnAt.boxed e6 5 _ rfl
    have zf6 := EnAt.boxed e6 6 _ rfl
    clear o6 a6 k6 e6
    refine hK.out _ _ ?_ (fun hHeld => ?_)
    · try dsimp only
      go_keep
    clear hK K
    try simp only [Act.put, List.setIfInBounds_toArray, List.set_cons_zero, List.set_cons_succ]
    refine tk10 (.pointer (some ⟨M, 0, none⟩)) (by kernel_rfl) (by kernel_rfl) (by kernel_rfl) (fun _ _ _ h => h) rfl (fun w hSw => by (try dsimp only at hSw); obtain ⟨q0, q1, q2, q3, q4, q5, q6⟩ := hSw; go_simp) (by assumption) ?_
    try simp only [Act.put, List.setIfInBounds_toArray, List.set_cons_zero, List.set_cons_succ]
    refine tk11 (.pointer (some ⟨M, 0, none⟩)) (by kernel_rfl) (by kernel_rfl) (by kernel_rfl) (fun _ _ _ h => h) rfl (fun w hSw => by (try dsimp only at hSw); obtain ⟨q0, q1, q2, q3, q4, q5, q6⟩ := hSw; go_simp) (by assumption) ?_
    try simp only [Act.put, List.setIfInBounds_toArray, List.set_cons_zero, List.set_cons_succ]
    refine cl12 (by kernel_rfl) rfl (fun K hK => ?_)
    go_simp
    refine hK.out _ _ ?_ (fun hHeld => ?_)
    · try dsimp only
      go_keep
    clear hK K
    try simp only [Act.put, List.setIfInBounds_toArray, List.set_cons_zero, List.set_cons_succ]
    refine wpAnyH_done (by kernel_rfl) ?_ _
    go_wp2
    go_returns
    exact ⟨_, rfl, R6.out.1, R6.out.2⟩
  · go_simp
    go_at_call 40
    refine (aclone_any _ e hn).mono ?_
    rintro r w2 ⟨rfl, b2⟩
    have B2 : Hid (Below w.heap.size w w2) := bmm BW.out.1 BW.out.1.size (undrew b2)
    have e2 : EnAt w2 w.heap.size e := ((undrew b2).block _ (by have := BW.out.2.2; omega)).trans BW.out.2.1
    have ze0 := EnAt.boxed e2 0 _ rfl
    have ze1 := EnAt.boxed e2 1 _ rfl
    have ze2 := EnAt.boxed e2 2 _ rfl
    have ze3 := EnAt.boxed e2 3 _ rfl
    have ze4 := EnAt.boxed e2 4 _ rfl
    have ze5 := EnAt.boxed e2 5 _ rfl
    have ze6 := EnAt.boxed e2 6 _ rfl
    have c2 : w2.cell? ⟨M, 0, none⟩ = some (.slice pu nu cu) := (HR.out _ B2.out).c0
    have cA : ∀ o, (w2.alloc o).cell? ⟨M, 0, none⟩ = some (.slice pu nu cu) := fun o => (HR.out _ (B2.out.alloc B2.out.size o)).c0
    have E2 : Hid _ := e2
    clear b2 e2
    refine hK.out _ _ ?_ (fun hHeld => ?_)
    · try dsimp only
      go_keep
    clear hK K
    try simp only [Act.put, List.setIfInBounds_toArray, List.set_cons_zero, List.set_cons_succ]
    refine tk7 (.agg #[.int .i64 2, .int .i64 0, .int .i64 e.slot, .int .i64 e.ballot, .int .i64 e.cmd.kind, .int .i64 e.cmd.session, .int .i64 e.cmd.seq, .string e.cmd.name, .int .i64 e.cmd.n]) (by kernel_rfl) (by kernel_rfl) (by kernel_rfl) (fun _ _ _ h => h) rfl (fun w hSw => by (try dsimp only at hSw); obtain ⟨q0, q1, q2, q3, q4, q5, q6⟩ := hSw; go_simp) (by assumption) ?_
    try simp only [Act.put, List.setIfInBounds_toArray, List.set_cons_zero, List.set_cons_succ]
    refine rd4_8 (by kernel_rfl) rfl rfl (fun K hK => ?_) (fun K hK => ?_)
    · go_simp
      refine hK.out _ _ ?_ (fun hHeld => ?_)
      · try dsimp only
        go_keep
      clear hK K
      try simp only [Act.put, List.setIfInBounds_toArray, List.set_cons_zero, List.set_cons_succ]
      refine cl8 (by kernel_rfl) rfl (fun K hK => ?_)
      go_simp
      refine hK.out _ _ ?_ (fun hHeld => ?_)
      · try dsimp only
        go_keep
      clear hK K
      try simp only [Act.put, List.setIfInBounds_toArray, List.set_cons_zero, List.set_cons_succ]
      refine cl9 (by kernel_rfl) rfl (fun K hK => ?_)
      refine wp_app_row (k := 9) (enc := rcC) (l := [accR e]) (.tmp 8) (.tmp 12) 39 65 rfl i0 _ 80 Try.underlying39 hi hz0 hz1 hz2 rfl (by decide) rcC_len rcC_ones (base := M) rfl rfl (World.ownsRow.alloc (HR.out _ B2.out).own _) (RowAt.built (heap_alloc_new _ _) rfl 1 rfl rfl) (by simp; have := B2.out.size; omega) (by simp; omega) (by simp; omega) ?_
      intro u6 w6 o6 a6
      obtain ⟨p6, n6, q6, rfl⟩ := own_form o6
      have R6 : Hid _ := HH.out.more (B2.out.alloc B2.out.size _) o6 a6
      have k6 := (a6.rest M (by simp; have := B2.out.size; omega) (fun e => HH.out.ne e.symm)).trans (((B2.out.alloc B2.out.size _).block M hM).trans HH.out.blk)
      have z6 : w6.cell? ⟨M, 0, none⟩ = some (.slice pu nu cu) := by simp [World.cell?, k6]
      have f6 : w6.frozen? ⟨M, 0, none⟩ = false := by simp [World.frozen?, k6]
      have e6 : EnAt w6 w.heap.size e := (a6.rest w.heap.size (by simp; have := lt_of_block E2.out; omega) (fun e => by have h1 := (World.ownsRow.lt HH.out.own _ e.symm).2; omega)).trans ((Below.heap_alloc w2 _ w.heap.size (lt_of_block E2.out)).trans E2.out)
      have zf0 := EnAt.boxed e6 0 _ rfl
      have zf1 := EnAt.boxed e6 1 _ rfl
      have zf2 := EnAt.boxed e6 2 _ rfl
      have zf3 := EnAt.boxed e6 3 _ rfl
      have zf4 := EnAt.boxed e6 4 _ rfl
      have zf5 := EnAt.boxed e6 5 _ rfl
      have zf6 := EnAt.boxed e6 6 _ rfl
      clear o6 a6 k6 e6
      refine hK.out _ _ ?_ (fun hHeld => ?_)
      · try dsimp only
        go_keep
      clear hK K
      try simp only [Act.put, List.setIfInBounds_toArray, List.set_cons_zero, List.set_cons_succ]
      refine tk10 (.pointer (some ⟨M, 0, none⟩)) (by kernel_rfl) (by kernel_rfl) (by kernel_rfl) (fun _ _ _ h => h) rfl (fun w hSw => by (try dsimp only at hSw); obtain ⟨q0, q1, q2, q3, q4, q5, q6⟩ := hSw; go_simp) (by assumption) ?_
      try simp only [Act.put, List.setIfInBounds_toArray, List.set_cons_zero, List.set_cons_succ]
      refine tk11 (.pointer (some ⟨M, 0, none⟩)) (by kernel_rfl) (by kernel_rfl) (by kernel_rfl) (fun _ _ _ h => h) rfl (fun w hSw => by (try dsimp only at hSw); obtain ⟨q0, q1, q2, q3, q4, q5, q6⟩ := hSw; go_simp) (by assumption) ?_
      try simp only [Act.put, List.setIfInBounds_toArray, List.set_cons_zero, List.set_cons_succ]
      refine cl12 (by kernel_rfl) rfl (fun K hK => ?_)
      go_simp
      refine hK.out _ _ ?_ (fun hHeld => ?_)
      · try dsimp only
        go_keep
      clear hK K
      try simp only [Act.put, List.setIfInBounds_toArray, List.set_cons_zero, List.set_cons_succ]
      refine wpAnyH_done (by kernel_rfl) ?_ _
      go_wp2
      go_returns
      exact ⟨_, rfl, R6.out.1, R6.out.2⟩
    · go_simp
      refine hK.out _ _ ?_ (fun hHeld => ?_)
      · try dsimp only
        go_keep
      clear hK K
      try simp only [Act.put, List.setIfInBounds_toArray, List.set_cons_zero, List.set_cons_succ]
      refine cl4 (by kernel_rfl) rfl (fun K hK => ?_)
      go_simp
      refine hK.out _ _ ?_ (fun hHeld => ?_)
      · try dsimp only
        go_keep
      clear hK K
      try simp only [Act.put, List.setIfInBounds_toArray, List.set_cons_zero, List.set_cons_succ]
      refine cl9 (by kernel_rfl) rfl (fun K hK => ?_)
      refine wp_app_row (k := 9) (enc := rcC) (l := [accR e]) (.tmp 8) (.tmp 12) 39 65 rfl i0 _ 80 Try.underlying39 hi hz0 hz1 hz2 rfl (by decide) rcC_len rcC_ones (base := M) rfl rfl (World.ownsRow.alloc (HR.out _ B2.out).own _) (RowAt.built (heap_alloc_new _ _) rfl 1 rfl rfl) (by simp; have := B2.out.size; omega) (by simp; omega) (by simp; omega) ?_
      intro u6 w6 o6 a6
      obtain ⟨p6, n6, q6, rfl⟩ := own_form o6
      have R6 : Hid _ := HH.out.more (B2.out.alloc B2.out.size _) o6 a6
      have k6 := (a6.rest M (by simp; have := B2.out.size; omega) (fun e => HH.out.ne e.symm)).trans (((B2.out.alloc B2.out.size _).block M hM).trans HH.out.blk)
      have z6 : w6.cell? ⟨M, 0, none⟩ = some (.slice pu nu cu) := by simp [World.cell?, k6]
      have f6 : w6.frozen? ⟨M, 0, none⟩ = false := by simp [World.frozen?, k6]
      have e6 : EnAt w6 w.heap.size e := (a6.rest w.heap.size (by simp; have := lt_of_block E2.out; omega) (fun e => by have h1 := (World.ownsRow.lt HH.out.own _ e.symm).2; omega)).trans ((Below.heap_alloc w2 _ w.heap.size (lt_of_block E2.out)).trans E2.out)
      have zf0 := EnAt.boxed e6 0 _ rfl
      have zf1 := EnAt.boxed e6 1 _ rfl
      have zf2 := EnAt.boxed e6 2 _ rfl
      have zf3 := EnAt.boxed e6 3 _ rfl
      have zf4 := EnAt.boxed e6 4 _ rfl
      have zf5 := EnAt.boxed e6 5 _ rfl
      have zf6 := EnAt.boxed e6 6 _ rfl
      clear o6 a6 k6 e6
      refine hK.out _ _ ?_ (fun hHeld => ?_)
      · try dsimp only
        go_keep
      clear hK K
      try simp only [Act.put, List.setIfInBounds_toArray, List.set_cons_zero, List.set_cons_succ]
      refine tk10 (.pointer (some ⟨M, 0, none⟩)) (by kernel_rfl) (by kernel_rfl) (by kernel_rfl) (fun _ _ _ h => h) rfl (fun w hSw => by (try dsimp only at hSw); obtain ⟨q0, q1, q2, q3, q4, q5, q6⟩ := hSw; go_simp) (by assumption) ?_
      try simp only [Act.put, List.setIfInBounds_toArray, List.set_cons_zero, List.set_cons_succ]
      refine tk11 (.pointer (some ⟨M, 0, none⟩)) (by kernel_rfl) (by kernel_rfl) (by kernel_rfl) (fun _ _ _ h => h) rfl (fun w hSw => by (try dsimp only at hSw); obtain ⟨q0, q1, q2, q3, q4, q5, q6⟩ := hSw; go_simp) (by assumption) ?_
      try simp only [Act.put, List.setIfInBounds_toArray, List.set_cons_zero, List.set_cons_succ]
      refine cl12 (by kernel_rfl) rfl (fun K hK => ?_)
      go_simp
      refine hK.out _ _ ?_ (fun hHeld => ?_)
      · try dsimp only
        go_keep
      clear hK K
      try simp only [Act.put, List.setIfInBounds_toArray, List.set_cons_zero, List.set_cons_succ]
      refine wpAnyH_done (by kernel_rfl) ?_ _
      go_wp2
      go_returns
      exact ⟨_, rfl, R6.out.1, R6.out.2⟩
end
/-- A promise raised, where less was promised. -/
structure RaisePost (w : World) (base : Nat) (S : Nat → Prop) (X M : Nat) (d : Du) (v u : Value) (b : Int) (e : Ending) (w' : World) : Prop where
  ex : ∃ u', e = .returned (.tuple #[]) ∧ PA w' base S X ⟨b, d.b, d.s, d.es⟩ v ∧ RrAt w' M u' (promD d b).recs ∧ Kept w w' (fun x => S x ∨ RS M u x) (fun x => S x ∨ RS M u' x)
theorem Kept.both {w w1 w2 : World} {S R R' : Nat → Prop} (h : Kept w w1 S S) (k : Kept w1 w2 R R') : Kept w w2 (fun x => S x ∨ R x) (fun x => S x ∨ R' x) := by
  refine ⟨k.os.trans h.os, k.tape.trans h.tape, k.output.trans h.output, Nat.le_trans h.size k.size, fun x hx => ?_, fun x hx hn => (k.kept x (Nat.lt_of_lt_of_le hx h.size) (fun e => hn (Or.inr e))).trans (h.kept x hx (fun e => hn (Or.inl e)))⟩
  rcases hx with hx | hx
  · exact Or.inl (Or.inl hx)
  · rcases k.old x hx with h1 | h1
    · exact Or.inl (Or.inr h1)
    · exact Or.inr (Nat.le_trans h.size h1)
section
variable {w : World} {base X M : Nat} {S : Nat → Prop} {d : Du} {v : Value}
set_option maxHeartbeats 6400000 in
set_option maxRecDepth 100000 in
theorem praise_any (h : PA w base S X d v) (r : RrAt w M (.slice none 0 0) []) (hX : ∀ x, S x → x ≠ M) (b : Int) (hb : d.p ≤ b) : Calls Try.prog 32 #[.pointer (some ⟨X, 0, none⟩), .int .i64 b, .func (.func 33) #[.pointer (some ⟨M, 0, none⟩)] #[]] w (RaisePost w base S X M d v (.slice none 0 0) b) := by
  have c0 := h.c0
  have f0 := h.fz 0
  by_cases hlt : d.p < b
  · have q0 : decide (d.p < b) = true := decide_eq_true hlt
    have r2 : RrAt (w.setCell ⟨X, 0, none⟩ (.int .i64 b)) M (.slice none 0 0) [] := r.keep fun g hg => heap_setCell_other _ _ _ _ (fun e => by
      rcases hg with hg | hg
      · exact hX X ((h.set X).2 (Or.inl rfl)) (e.symm.trans hg)
      · simp [Value.ownBlock] at hg)
    have q1 := ppromise_any r2 (by simp) b
    have HE : Hid ((promD d b).recs = [] ++ [promR b]) := by
      show (if b = d.p then [] else [promR b]) = _
      rw [if_neg (by omega)]
      rfl
    have HH : Hid _ := h
    have HP : Hid _ := h.set0 b
    have HK : Hid _ := h.kept0 0 (.int .i64 b)
    have HX : Hid _ := hX
    clear h r r2 hlt hX
    go_enter Try.func32, Try.ntmps32
    go_wp2_with (go_at_call 33; refine q1.mono ?_; rintro e w2 ⟨u2, rfl, r2, k2⟩; have R2 : Hid _ := r2; have K2 : Hid _ := k2; clear r2 k2)
    go_returns
    refine ⟨u2, rfl, HP.out.keep fun x hx => K2.out.kept x (HP.out.bd x hx).2 (fun e => ?_), by rw [HE.out]; exact R2.out, Kept.both HK.out K2.out⟩
    rcases e with e | e
    · exact HX.out x hx e
    · simp [Value.ownBlock] at e
  · have q0 : decide (d.p < b) = false := decide_eq_false hlt
    obtain rfl : b = d.p := by omega
    have HE : Hid ((promD d d.p).recs = []) := by
      show (if d.p = d.p then [] else [promR d.p]) = _
      rw [if_pos rfl]
    have HH : Hid _ := h
    have HR : Hid _ := r
    clear h r
    go_enter Try.func32, Try.ntmps32
    go_wp2
    go_returns
    exact ⟨_, rfl, HH.out, by rw [HE.out]; exact HR.out, Kept.refl _ _⟩
end
end Go.Proofs.Ytkngpfngfmbmjaa
