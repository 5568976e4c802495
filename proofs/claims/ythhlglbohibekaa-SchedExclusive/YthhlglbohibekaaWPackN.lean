/-
  Parts of the proof, laid together: SlAwake, SlSmall, SlSteps, SlOpen, SlTasks. The conditions stand at each part.
-/
import Derived.Test.YthhlglbohibekaaWPackA
import Derived.Test.YthhlglbohibekaaWPackM
/-
  Chapter 10's examples, by the program itself: 'awake' answers true. No condition.
-/
namespace Go.Proofs.Ythhlglbohibekaa
open Go.RowKit

theorem infoOp3 : (Try.prog.info? 45).map (·.size) = some 3 := by kernel_rfl
set_option maxRecDepth 100000 in
theorem op_lock (n : Int) (w : World) : Calls Try.prog 25 #[.int .i64 n] w fun e w' => e = .returned (.agg #[.int .i64 1, .int .i64 n, .int .i64 0]) ∧ Below w.heap.size w w' := by
  have HB : Hid _ := (Below.refl _ w).alloc (Nat.le_refl _) (.cells #[.int .i64 1, .int .i64 n, .int .i64 0] 45)
  go_enter Try.func25, Try.ntmps25
  go_wp2
  refine bodyPost_ret (results_cell_row Try.results25 _ _ w.heap.size 45 _ (0, 0) _ rfl (heap_alloc_new w _) Try.underlying45 rfl infoOp3) rfl ?_
  exact ⟨rfl, HB.out⟩
set_option maxRecDepth 100000 in
theorem op_unlock (n : Int) (w : World) : Calls Try.prog 26 #[.int .i64 n] w fun e w' => e = .returned (.agg #[.int .i64 2, .int .i64 n, .int .i64 0]) ∧ Below w.heap.size w w' := by
  have HB : Hid _ := (Below.refl _ w).alloc (Nat.le_refl _) (.cells #[.int .i64 2, .int .i64 n, .int .i64 0] 45)
  go_enter Try.func26, Try.ntmps26
  go_wp2
  refine bodyPost_ret (results_cell_row Try.results26 _ _ w.heap.size 45 _ (0, 0) _ rfl (heap_alloc_new w _) Try.underlying45 rfl infoOp3) rfl ?_
  exact ⟨rfl, HB.out⟩
/-- Two tasks of two operations each, just built, and picks behind them. -/
theorem tasks_two (w : World) (B : Nat) (a b c d : Opx) (h : w.heap[B]? = some (.cells #[.int .i64 a.1, .int .i64 a.2.1, .int .i64 a.2.2, .int .i64 b.1, .int .i64 b.2.1, .int .i64 b.2.2] 45 (0, 0))) (o : Obj) :
    TasksAt (((w.alloc (.cells #[.int .i64 c.1, .int .i64 c.2.1, .int .i64 c.2.2, .int .i64 d.1, .int .i64 d.2.1, .int .i64 d.2.2] 45)).alloc (.cells #[.slice (some ⟨B, 0, none⟩) 2 2, .slice (some ⟨w.heap.size, 0, none⟩) 2 2] 47)).alloc o) (.slice (some ⟨w.heap.size + 1, 0, none⟩) 2 2) [[a, b], [c, d]] := by
  have hB := lt_of_block h
  have b0 := (((Below.refl _ w).alloc (Nat.le_refl _) (.cells #[.int .i64 c.1, .int .i64 c.2.1, .int .i64 c.2.2, .int .i64 d.1, .int .i64 d.2.1, .int .i64 d.2.2] 45)).alloc (by simp) (.cells #[.slice (some ⟨B, 0, none⟩) 2 2, .slice (some ⟨w.heap.size, 0, none⟩) 2 2] 47)).alloc (by simp; omega) o
  refine ⟨[.slice (some ⟨B, 0, none⟩) 2 2, .slice (some ⟨w.heap.size, 0, none⟩) 2 2], rfl, ?_, fun i h1 h2 => ?_⟩
  · refine RowAt.fresh (w := (w.alloc _).alloc _) ?_ ((Below.refl _ _).alloc (Nat.le_refl _) o)
    exact RowAt.built (alloc2_new w _ _ _) rfl 2 rfl rfl
  · match i, h1, h2 with
    | 0, _, _ => exact (RowAt.built (enc := opC) (l := [a, b]) h rfl 2 rfl rfl).fresh b0
    | 1, _, _ =>
      refine RowAt.fresh (w := w.alloc _) ?_ (((Below.refl _ _).alloc (Nat.le_refl _) _).alloc (by simp) o)
      exact RowAt.built (enc := opC) (l := [c, d]) (heap_alloc_new w _) rfl 2 rfl rfl
theorem alloc3_new (w : World) (o o' : Obj) (cs : Array Value) (t : TypeId) : (((w.alloc o).alloc o').alloc (.cells cs t)).heap[w.heap.size + 2]? = some (.cells cs t (0, 0)) := by
  have := heap_alloc_new ((w.alloc o).alloc o') (.cells cs t)
  simpa using this
def awA : List (List Opx) := [[(1, 1, 0), (2, 1, 0)], [(1, 1, 0), (2, 1, 0)]]
def awB : List (List Opx) := [[(1, 1, 0), (1, 2, 0)], [(1, 2, 0), (1, 1, 0)]]
theorem awA_run : (runR [0, 1] 10000 0 (awA.map tkNew) []).1 = [(0, 0, 0), (1, 0, 0), (0, 1, 0), (1, 1, 0)] ∧ endedB (runR [0, 1] 10000 0 (awA.map tkNew) []).2.1 = true := ⟨by kernel_rfl, by kernel_rfl⟩
theorem awB_run : (runR [0, 1, 0, 0] 10000 0 (awB.map tkNew) []).1 = [(0, 0, 0), (1, 0, 0), (0, 1, 0), (1, 1, 0)] ∧ endedB (runR [0, 1, 0, 0] 10000 0 (awB.map tkNew) []).2.1 = false := ⟨by kernel_rfl, by kernel_rfl⟩
theorem ev_eql_same (x y z : Int) (w : World) : (binOp .eql 32 (.agg #[.int .i64 x, .int .i64 y, .int .i64 z]) (.agg #[.int .i64 x, .int .i64 y, .int .i64 z])).run Try.prog w = .ok (.bool true) w := by simp [go_sem]
theorem ops_small {ts : List (List Opx)} (h : ts = awA ∨ ts = awB) : ts.length ≤ 65536 ∧ (∀ o ∈ ts, o.length ≤ 65536) ∧ opsOk ts := by
  refine ⟨?_, ?_, ?_⟩
  · rcases h with rfl | rfl <;> decide
  · rcases h with rfl | rfl <;> decide
  · have hd : ∀ t : List (List Opx), (∀ o ∈ t, ∀ x ∈ o, (-9 ≤ x.1 ∧ x.1 ≤ 9) ∧ (-9 ≤ x.2.1 ∧ x.2.1 ≤ 9) ∧ (-9 ≤ x.2.2 ∧ x.2.2 ≤ 9)) → opsOk t := fun t ht o ho x hx => by
      have := ht o ho x hx
      unfold okI
      omega
    rcases h with rfl | rfl
    · exact hd _ (by decide)
    · exact hd _ (by decide)
/-- What a row of four events holds, the second and the third. -/
theorem four_evs {w : World} {u : Value} {a b c d : Opx} (h : RowAt opC w u [a, b, c, d]) : ∃ bk off cap, u = .slice (some ⟨bk, off, none⟩) 4 cap ∧ 4 ≤ cap ∧ bk < w.heap.size ∧ (w.cell? ⟨bk, off + 3, none⟩ = some (.int .i64 b.1) ∧ w.cell? ⟨bk, off + 3 + 1, none⟩ = some (.int .i64 b.2.1) ∧ w.cell? ⟨bk, off + 3 + 2, none⟩ = some (.int .i64 b.2.2)) ∧ w.cell? ⟨bk, off + 6, none⟩ = some (.int .i64 c.1) ∧ w.cell? ⟨bk, off + 6 + 1, none⟩ = some (.int .i64 c.2.1) ∧ w.cell? ⟨bk, off + 6 + 2, none⟩ = some (.int .i64 c.2.2) := by
  obtain ⟨bk, off, cap, e, hc, hb, hx⟩ := h.cells opC_len (by simp)
  exact ⟨bk, off, cap, e, hc, hb, ⟨hx 1 (by simp) 0 _ (by decide) rfl, hx 1 (by simp) 1 _ (by decide) rfl, hx 1 (by simp) 2 _ (by decide) rfl⟩, hx 2 (by simp) 0 _ (by decide) rfl, hx 2 (by simp) 1 _ (by decide) rfl, hx 2 (by simp) 2 _ (by decide) rfl⟩
theorem aw_A (w : World) (B : Nat) (h : w.heap[B]? = some (.cells #[.int .i64 1, .int .i64 1, .int .i64 0, .int .i64 2, .int .i64 1, .int .i64 0] 45 (0, 0))) : Calls Try.prog 22 #[.slice (some ⟨w.heap.size + 1, 0, none⟩) 2 2, .slice (some ⟨w.heap.size + 2, 0, none⟩) 2 2] (((w.alloc (.cells #[.int .i64 1, .int .i64 1, .int .i64 0, .int .i64 2, .int .i64 1, .int .i64 0] 45)).alloc (.cells #[.slice (some ⟨B, 0, none⟩) 2 2, .slice (some ⟨w.heap.size, 0, none⟩) 2 2] 47)).alloc (.cells #[.int .i64 0, .int .i64 1] 3)) fun e w' => ∃ u, e = .returned (.tuple #[u, .bool true]) ∧ RowAt opC w' u [(0, 0, 0), (1, 0, 0), (0, 1, 0), (1, 1, 0)] ∧ Below w.heap.size w w' := by
  obtain ⟨s1, s2, s3⟩ := ops_small (ts := awA) (Or.inl rfl)
  have h1 := ps_run (tasks_two w B (1, 1, 0) (2, 1, 0) (1, 1, 0) (2, 1, 0) h (.cells #[.int .i64 0, .int .i64 1] 3)) s1 s2 s3 (RowAt.built (enc := intC) (l := [0, 1]) (alloc3_new w _ _ _ _) rfl 2 rfl rfl) (by intro x hx; unfold okI; simp at hx; omega) (by decide)
  have e1 := awA_run
  unfold awA at e1
  rw [e1.1, e1.2] at h1
  exact h1.mono fun _ _ ⟨u, e2, e3, e4⟩ => ⟨u, e2, e3, ((((Below.refl _ w).alloc (Nat.le_refl _) _).alloc (by simp) _).alloc (by simp; omega) _).trans (e4.mono (by simp; omega))⟩
theorem aw_B (w : World) (B : Nat) (h : w.heap[B]? = some (.cells #[.int .i64 1, .int .i64 1, .int .i64 0, .int .i64 1, .int .i64 2, .int .i64 0] 45 (0, 0))) : Calls Try.prog 22 #[.slice (some ⟨w.heap.size + 1, 0, none⟩) 2 2, .slice (some ⟨w.heap.size + 2, 0, none⟩) 4 4] (((w.alloc (.cells #[.int .i64 1, .int .i64 2, .int .i64 0, .int .i64 1, .int .i64 1, .int .i64 0] 45)).alloc (.cells #[.slice (some ⟨B, 0, none⟩) 2 2, .slice (some ⟨w.heap.size, 0, none⟩) 2 2] 47)).alloc (.cells #[.int .i64 0, .int .i64 1, .int .i64 0, .int .i64 0] 3)) fun e w' => ∃ u, e = .returned (.tuple #[u, .bool false]) ∧ RowAt opC w' u [(0, 0, 0), (1, 0, 0), (0, 1, 0), (1, 1, 0)] ∧ Below w.heap.size w w' := by
  obtain ⟨s1, s2, s3⟩ := ops_small (ts := awB) (Or.inr rfl)
  have h1 := ps_run (tasks_two w B (1, 1, 0) (1, 2, 0) (1, 2, 0) (1, 1, 0) h (.cells #[.int .i64 0, .int .i64 1, .int .i64 0, .int .i64 0] 3)) s1 s2 s3 (RowAt.built (enc := intC) (l := [0, 1, 0, 0]) (alloc3_new w _ _ _ _) rfl 4 rfl rfl) (by intro x hx; unfold okI; simp at hx; omega) (by decide)
  have e1 := awB_run
  unfold awB at e1
  rw [e1.1, e1.2] at h1
  exact h1.mono fun _ _ ⟨u, e2, e3, e4⟩ => ⟨u, e2, e3, ((((Below.refl _ w).alloc (Nat.le_refl _) _).alloc (by simp) _).alloc (by simp; omega) _).trans (e4.mono (by simp; omega))⟩
theorem two_calls {w2 w3 w4 : World} {cs : Array Value} {t : TypeId} (b3 : Below (w2.alloc (.cells cs t)).heap.size (w2.alloc (.cells cs t)) w3) (b4 : Below w3.heap.size w3 w4) : w4.heap[w2.heap.size]? = some (.cells cs t (0, 0)) ∧ Below w2.heap.size w2 w4 := by
  have h3 := b3.size
  have hs : (w2.alloc (.cells cs t)).heap.size = w2.heap.size + 1 := by simp
  have bb := ((Below.refl _ w2).alloc (Nat.le_refl _) (.cells cs t)).trans (b3.mono (by omega))
  exact ⟨(b4.block _ (by omega)).trans ((b3.block _ (by omega)).trans (heap_alloc_new w2 _)), bmm bb bb.size b4⟩
set_option maxHeartbeats 6400000 in
set_option maxRecDepth 100000 in
theorem awake10_any (w : World) : Calls Try.prog 10 #[] w fun e w' => e = .returned (.bool true) ∧ Below w.heap.size w w' := by
  have heq := ev_eql_same
  go_enter Try.func10, Try.ntmps10
  go_wp2_with (first
    | (go_at_call 22; refine (aw_B w9 _ HB9.out).mono ?_; rintro e wB ⟨u9, rfl, r9, b10⟩; obtain ⟨bb, ob, cb, rfl, _⟩ := four_evs r9; clear r9; have bE := bmm (bmm (bmm b6 b6.size b7) (bmm b6 b6.size b7).size b79) (bmm (bmm b6 b6.size b7) (bmm b6 b6.size b7).size b79).size b10; have x0 := (bE.cell (p := ⟨ba, oa + 3, none⟩) (by exact hba)).trans y0; have x1 := (bE.cell (p := ⟨ba, oa + 3 + 1, none⟩) (by exact hba)).trans y1; have x2 := (bE.cell (p := ⟨ba, oa + 3 + 2, none⟩) (by exact hba)).trans y2; have x3 := (bE.cell (p := ⟨ba, oa + 6, none⟩) (by exact hba)).trans y3; have x4 := (bE.cell (p := ⟨ba, oa + 6 + 1, none⟩) (by exact hba)).trans y4; have x5 := (bE.cell (p := ⟨ba, oa + 6 + 2, none⟩) (by exact hba)).trans y5)
    | (go_at_call 25; refine (op_lock 1 w8).mono ?_; rintro e w9 ⟨rfl, b9⟩; obtain ⟨hB9, b79⟩ := two_calls b8 b9; have HB9 : Hid _ := hB9; clear hB9)
    | (go_at_call 25; refine (op_lock 2 (w7.alloc _)).mono ?_; rintro e w8 ⟨rfl, b8⟩)
    | (go_at_call 25; refine (op_lock 2 w6).mono ?_; rintro e w7 ⟨rfl, b7⟩)
    | (go_at_call 25; refine (op_lock 1 w5).mono ?_; rintro e w6 ⟨rfl, b6⟩)
    | (go_at_call 22; refine (aw_A w4 _ HB4.out).mono ?_; rintro e w5 ⟨u5, rfl, r5, b5⟩; obtain ⟨ba, oa, ca, rfl, hca, hba, ⟨y0, y1, y2⟩, y3, y4, y5⟩ := four_evs r5; clear r5)
    | (go_at_call 26; refine (op_unlock 1 w3).mono ?_; rintro e w4 ⟨rfl, b4⟩; obtain ⟨hB4, b24⟩ := two_calls b3 b4; have HB4 : Hid _ := hB4; clear hB4)
    | (go_at_call 25; refine (op_lock 1 (w2.alloc _)).mono ?_; rintro e w3 ⟨rfl, b3⟩)
    | (go_at_call 26; refine (op_unlock 1 w1).mono ?_; rintro e w2 ⟨rfl, b2⟩)
    | (go_at_call 25; refine (op_lock 1 w).mono ?_; rintro e w1 ⟨rfl, b1⟩))
  go_ret
  have f1 := bmm b1 b1.size b2
  have f2 := bmm f1 f1.size b24
  have f3 := bmm f2 f2.size b5
  exact ⟨rfl, bmm f3 f3.size bE⟩
end Go.Proofs.Ythhlglbohibekaa
/-
  'small' of the laws of layer 10; two rows of events held against each other; a scheduler that is none. The condition: the tasks and their operations are fewer than 2^40 in all.
-/
namespace Go.Proofs.Ythhlglbohibekaa
open Go.RowKit

section
variable {w : World} {v : Value} {ts : List (List Opx)}
end
section
variable {w : World} {v u : Value} {l : List Opx}
end
set_option maxHeartbeats 3200000 in
set_option maxRecDepth 100000 in
theorem snone_walk (z : Int) (w : World) : Calls Try.prog 8 #[.int .i64 z] w fun e w' => e = .returned (.bool true) ∧ Below w.heap.size w w' := by
  go_enter Try.func8, Try.ntmps8
  go_wp2_with (first
    | (go_at_call 10; refine (awake10_any w4).mono ?_; rintro e w5 ⟨rfl, b5⟩)
    | (go_at_call 20; refine (ps_Ended_nil w3).mono ?_; rintro e w4 ⟨rfl, b4⟩)
    | (go_at_call 18; refine (ps_Blocked_nil w2).mono ?_; rintro e w3 ⟨u3, rfl, r3, b3⟩; obtain ⟨a3, c3, rfl⟩ := r3.none0; clear r3)
    | (go_at_call 16; refine (ps_Ready_nil _).mono ?_; rintro e w2 ⟨u2, rfl, r2, b2'⟩; have b2 := bel_box b2'; obtain ⟨a2, c2, rfl⟩ := r2.none0; clear r2)
    | (go_at_call 13; refine (ps_step_nil z w).mono ?_; rintro e w1 ⟨x, y, t, rfl, b1⟩))
  go_ret
  have f1 := bmm b1 b1.size b2
  have f2 := bmm f1 f1.size b3
  have f3 := bmm f2 f2.size b4
  exact ⟨rfl, bmm f3 f3.size b5⟩
end Go.Proofs.Ythhlglbohibekaa
/-
  SchedSteps of layer 10, walked: any tasks, any one stepped at any time: the program and the document answer the same. The conditions: the tasks and their operations are fewer than 2^40 in all; each number is an int's.
-/
namespace Go.Proofs.Ythhlglbohibekaa
open Go.RowKit

section
variable {w w' : World} {B Dx Dy : Nat} {Sx Sy : Nat → Prop} {j k : Nat} {T' T : List Tk} {L' L : List (Int × Ob)}
theorem PSk.fresh {base D : Nat} {S : Nat → Prop} (h : PSk w base D S k T L) (b : Below w.heap.size w w') : PSk w' base D S k T L := h.keep b.size (fun c hc => b.block c (h.bd c hc).2)
theorem PSk.base_le {base D : Nat} {S : Nat → Prop} (h : PSk w base D S k T L) : base ≤ w.heap.size := by have := h.bd D h.sD; omega
theorem PSk.below {base D : Nat} {S S' : Nat → Prop} (h : PSk w base D S k T L) (q : Kept w w' S S') : Below base w w' := q.low h.base_le (fun b hb => (h.bd b hb).1)
end
theorem readyL_ok {k : Nat} {T : List Tk} {L : List (Int × Ob)} (h : StOk k T L) : (∀ x ∈ readyL T, okI x) ∧ (readyL T).length ≤ 65536 := by
  refine ⟨fun x hx => ?_, Nat.le_trans (upto_le _ _ _) h.nt⟩
  have := upto_range tkR T 0 x hx
  have := h.nt
  unfold okI
  omega
theorem runR_len (picks : List Int) : ∀ (f i : Nat) (T : List Tk) (L : List (Int × Ob)), (runR picks f i T L).1.length ≤ f
  | 0, _, _, _ => Nat.le_refl _
  | f + 1, i, T, L => by
    rw [runR]
    split
    · exact Nat.zero_le _
    · have := runR_len picks f (i + 1)
      simp only [List.length_cons]
      exact Nat.succ_le_succ (this _ _)
section
variable {w : World} {v vp : Value} {ts : List (List Opx)} {picks : List Int}
end
end Go.Proofs.Ythhlglbohibekaa
/-
  Tasks that a law builds, one behind the other: a row of rows of its own. No condition.
-/
namespace Go.Proofs.Ythhlglbohibekaa
open Go.RowKit

abbrev OpT : TypeId := 45
abbrev SoT : TypeId := 47
/-- A task of one's own: its block, length, room. -/
def slC (x : Nat × Nat × Nat) : List Value := [.slice (some ⟨x.1, 0, none⟩) x.2.1 x.2.2]
theorem slC_len (x : Nat × Nat × Nat) : (slC x).length = 1 := rfl
theorem slC_one (x : Nat × Nat × Nat) : ∀ u ∈ slC x, u.oneCell' = true := fun u hu => by
  simp only [slC, List.mem_cons, List.not_mem_nil, or_false] at hu
  subst hu
  rfl
theorem infoS1 : (Try.prog.info? SoT).map (fun i => (i.zero, i.size, i.bytes)) = some (some (.slice none 0 0), 1, 24) := by kernel_rfl
/-- A task that lies in a block of its own. -/
structure OwnOps (w : World) (x : Nat × Nat × Nat) (o : List Opx) : Prop where
  row : RowAt opC w (.slice (some ⟨x.1, 0, none⟩) x.2.1 x.2.2) o
  blk : ∃ cs fr, w.heap[x.1]? = some (.cells cs OpT fr)
theorem OwnOps.keep {w w' : World} {x : Nat × Nat × Nat} {o : List Opx} (h : OwnOps w x o) (hs : w.heap.size ≤ w'.heap.size) (hk : w'.heap[x.1]? = w.heap[x.1]?) : OwnOps w' x o := by
  obtain ⟨cs, fr, hb⟩ := h.blk
  refine ⟨h.row.keep hs (fun bk off n cap _ e => ?_), cs, fr, hk.trans hb⟩
  simp only [Value.slice.injEq, Option.some.injEq, Addr.mk.injEq] at e
  rw [← e.1.1]
  exact hk
/-- Tasks of one's own. -/
structure OTs (w : World) (base : Nat) (v : Value) (bs : List (Nat × Nat × Nat)) (ts : List (List Opx)) : Prop where
  ln : bs.length = ts.length
  own : w.ownsRow base SoT 1 v ts.length (rowL slC bs)
  each : ∀ i (_ : i < bs.length) (_ : i < ts.length), OwnOps w bs[i] ts[i]
section
variable {w w' w5 : World} {base : Nat} {v u : Value} {ts : List (List Opx)} {bs : List (Nat × Nat × Nat)} {o : List Opx}
theorem OTs.nil (w : World) (base : Nat) : OTs w base (.slice none 0 0) [] [] := ⟨rfl, World.ownsRow_nil _ _ _ _, fun _ h => absurd h (Nat.not_lt_zero _)⟩
theorem OTs.fresh (h : OTs w base v bs ts) (k : Below w.heap.size w w') : OTs w' base v bs ts := by
  obtain ⟨h1, h2, h3⟩ := h
  refine ⟨h1, own_keep h2 (fun g hg => k.block g (h2.lt g hg).2), fun i a b => (h3 i a b).keep k.size ?_⟩
  obtain ⟨cs, fr, hb⟩ := (h3 i a b).blk
  exact k.block _ (lt_of_block hb)
theorem OTs.form (h : OTs w base v bs ts) : ∃ p c, v = .slice p ts.length c := by
  exact own_formN h.own
theorem OTs.tasks (h : OTs w base v bs ts) : TasksAt w v ts := by
  obtain ⟨h1, h2, h3⟩ := h
  have h4 : RowAt slC w v bs := RowAt.own (k := 1) (T := SoT) (base := base) slC_len (by rw [h1]; exact h2)
  refine ⟨bs.map fun x => .slice (some ⟨x.1, 0, none⟩) x.2.1 x.2.2, by simpa using h1, ?_, fun i a b => ?_⟩
  · obtain ⟨a2, c2, e2, h4, h5, h6⟩ := h4.ex
    refine ⟨a2, c2, by rw [e2]; simp, by simpa using h4, by simpa using h5, ?_⟩
    rcases h6 with h6 | ⟨bk, off, e3, h7, h8⟩
    · exact Or.inl (by simpa using h6)
    · refine Or.inr ⟨bk, off, e3, h7, fun j u hu => h8 j u ?_⟩
      rw [← hu]
      unfold rowL
      rw [List.flatMap_map]
      rfl
  · rw [List.getElem_map]
    exact (h3 i (by simpa using a) b).row
/-- One more, which lies in w; the row grows from w to w5. -/
theorem OTs.add (h : OTs w base v bs ts) {x : Nat × Nat × Nat} (hx : OwnOps w x o) (hu : w5.ownsRow base SoT 1 u (ts.length + 1) (rowL slC bs ++ rowL slC [x])) (a5 : Appended base w w5 v u) : OTs w5 base u (bs ++ [x]) (ts ++ [o]) := by
  obtain ⟨h1, h2, h3⟩ := h
  have key : ∀ (y : Nat × Nat × Nat) (q : List Opx), OwnOps w y q → OwnOps w5 y q := fun y q hy => by
    obtain ⟨cs, fr, hb⟩ := hy.blk
    refine hy.keep a5.below.size (a5.rest _ (lt_of_block hb) (fun e => ?_))
    exact own_ne h2 hb (by decide) e.symm
  refine ⟨by simp [h1], ?_, fun i a b => ?_⟩
  · rw [rowL_append, List.length_append]
    exact hu
  · by_cases hi : i < ts.length
    · rw [List.getElem_append_left (by omega), List.getElem_append_left hi]
      exact key _ _ (h3 i (by omega) hi)
    · have hie : i = ts.length := by
        rw [List.length_append] at b
        simp at b
        omega
      subst hie
      rw [List.getElem_append_right (by omega), List.getElem_append_right (by omega)]
      simp only [h1, Nat.sub_self, List.getElem_singleton]
      exact key _ _ hx
/-- A task just built. -/
theorem OwnOps.new (w : World) (o : List Opx) (cs : Array Value) (hc : cs.toList = rowL opC o) (n : Nat) (hn : n = o.length) : OwnOps (w.alloc (.cells cs OpT)) (w.heap.size, n, n) o :=
  ⟨RowAt.built (heap_alloc_new w _) hc n hn rfl, _, _, heap_alloc_new w _⟩
theorem OwnOps.fresh {x : Nat × Nat × Nat} (h : OwnOps w x o) (k : Below w.heap.size w w') : OwnOps w' x o := by
  obtain ⟨cs, fr, hb⟩ := h.blk
  exact h.keep k.size (k.block _ (lt_of_block hb))
end
end Go.Proofs.Ythhlglbohibekaa
