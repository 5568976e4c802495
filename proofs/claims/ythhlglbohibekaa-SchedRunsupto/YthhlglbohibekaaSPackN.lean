/-
  Parts of the proof, laid together: SlAwake, SlSmall, SlSteps, SlOpen. The conditions stand at each part.
-/
import Derived.Test.YthhlglbohibekaaSPackA
import Derived.Test.YthhlglbohibekaaSPackY
namespace Go.Proofs.Ythhlglbohibekaa
open Go.RowKit

theorem infoOp3 : (Try.prog.info? 45).map (·.size) = some 3 := by kernel_rfl
set_option maxRecDepth 100000 in
theorem op_lock (n : Int) (w : World) : Calls Try.prog 25 #[.int .i64 n] w fun e w' => e = .returned (.agg #[.int .i64 1, .int .i64 n, .int .i64 0]) ∧ Below w.heap.size w w' := by
  have HB : Hid _ := (Below.refl _ w).alloc (Nat.le_refl _) (.cells #[.int .i64 1, .int .i64 n, .int .i64 0] 45)
  go_enter Try.func25, Try.ntmps25
  go_wp2
  refine bodyPost_ret (results_cell_row Try.results25 _ _ w.heap.size 45 _ (0, 0) _ rfl (heap_alloc_new w _) Try.underlying45 rfl infoOp3) rfl ?_
  exact ⟨rfl, HB.out⟩
set_option maxRecDepth 100000 in
theorem op_unlock (n : Int) (w : World) : Calls Try.prog 26 #[.int .i64 n] w fun e w' => e = .returned (.agg #[.int .i64 2, .int .i64 n, .int .i64 0]) ∧ Below w.heap.size w w' := by
  have HB : Hid _ := (Below.refl _ w).alloc (Nat.le_refl _) (.cells #[.int .i64 2, .int .i64 n, .int .i64 0] 45)
  go_enter Try.func26, Try.ntmps26
  go_wp2
  refine bodyPost_ret (results_cell_row Try.results26 _ _ w.heap.size 45 _ (0, 0) _ rfl (heap_alloc_new w _) Try.underlying45 rfl infoOp3) rfl ?_
  exact ⟨rfl, HB.out⟩
theorem tasks_two (w : World) (B : Nat) (a b c d : Opx) (h : w.heap[B]? = some (.cells #[.int .i64 a.1, .int .i64 a.2.1, .int .i64 a.2.2, .int .i64 b.1, .int .i64 b.2.1, .int .i64 b.2.2] 45 (0, 0))) (o : Obj) :
    TasksAt (((w.alloc (.cells #[.int .i64 c.1, .int .i64 c.2.1, .int .i64 c.2.2, .int .i64 d.1, .int .i64 d.2.1, .int .i64 d.2.2] 45)).alloc (.cells #[.slice (some ⟨B, 0, none⟩) 2 2, .slice (some ⟨w.heap.size, 0, none⟩) 2 2] 47)).alloc o) (.slice (some ⟨w.heap.size + 1, 0, none⟩) 2 2) [[a, b], [c, d]] := by
  have hB := lt_of_block h
  have b0 := (((Below.refl _ w).alloc (Nat.le_refl _) (.cells #[.int .i64 c.1, .int .i64 c.2.1, .int .i64 c.2.2, .int .i64 d.1, .int .i64 d.2.1, .int .i64 d.2.2] 45)).alloc (by simp) (.cells #[.slice (some ⟨B, 0, none⟩) 2 2, .slice (some ⟨w.heap.size, 0, none⟩) 2 2] 47)).alloc (by simp; omega) o
  refine ⟨[.slice (some ⟨B, 0, none⟩) 2 2, .slice (some ⟨w.heap.size, 0, none⟩) 2 2], rfl, ?_, fun i h1 h2 => ?_⟩
  · refine RowAt.fresh (w := (w.alloc _).alloc _) ?_ ((Below.refl _ _).alloc (Nat.le_refl _) o)
    exact RowAt.built (alloc2_new w _ _ _) rfl 2 rfl rfl
  · match i, h1, h2 with
    | 0, _, _ => exact (RowAt.built (enc := opC) (l := [a, b]) h rfl 2 rfl rfl).fresh b0
    | 1, _, _ =>
      refine RowAt.fresh (w := w.alloc _) ?_ (((Below.refl _ _).alloc (Nat.le_refl _) _).alloc (by simp) o)
      exact RowAt.built (enc := opC) (l := [c, d]) (heap_alloc_new w _) rfl 2 rfl rfl
theorem alloc3_new (w : World) (o o' : Obj) (cs : Array Value) (t : TypeId) : (((w.alloc o).alloc o').alloc (.cells cs t)).heap[w.heap.size + 2]? = some (.cells cs t (0, 0)) := by
  have := heap_alloc_new ((w.alloc o).alloc o') (.cells cs t)
  simpa using this
def awA : List (List Opx) := [[(1, 1, 0), (2, 1, 0)], [(1, 1, 0), (2, 1, 0)]]
def awB : List (List Opx) := [[(1, 1, 0), (1, 2, 0)], [(1, 2, 0), (1, 1, 0)]]
theorem awA_run : (runR [0, 1] 10000 0 (awA.map tkNew) []).1 = [(0, 0, 0), (1, 0, 0), (0, 1, 0), (1, 1, 0)] ∧ endedB (runR [0, 1] 10000 0 (awA.map tkNew) []).2.1 = true := ⟨by kernel_rfl, by kernel_rfl⟩
theorem awB_run : (runR [0, 1, 0, 0] 10000 0 (awB.map tkNew) []).1 = [(0, 0, 0), (1, 0, 0), (0, 1, 0), (1, 1, 0)] ∧ endedB (runR [0, 1, 0, 0] 10000 0 (awB.map tkNew) []).2.1 = false := ⟨by kernel_rfl, by kernel_rfl⟩
theorem ev_neq_same (x y z : Int) (w : World) : (binOp .neq 32 (.agg #[.int .i64 x, .int .i64 y, .int .i64 z]) (.agg #[.int .i64 x, .int .i64 y, .int .i64 z])).run Try.prog w = .ok (.bool false) w := by simp [go_sem]
theorem ev_eql_same (x y z : Int) (w : World) : (binOp .eql 32 (.agg #[.int .i64 x, .int .i64 y, .int .i64 z]) (.agg #[.int .i64 x, .int .i64 y, .int .i64 z])).run Try.prog w = .ok (.bool true) w := by simp [go_sem]
theorem ops_small {ts : List (List Opx)} (h : ts = awA ∨ ts = awB) : ts.length ≤ 65536 ∧ (∀ o ∈ ts, o.length ≤ 65536) ∧ opsOk ts := by
  refine ⟨?_, ?_, ?_⟩
  · rcases h with rfl | rfl <;> decide
  · rcases h with rfl | rfl <;> decide
  · have hd : ∀ t : List (List Opx), (∀ o ∈ t, ∀ x ∈ o, (-9 ≤ x.1 ∧ x.1 ≤ 9) ∧ (-9 ≤ x.2.1 ∧ x.2.1 ≤ 9) ∧ (-9 ≤ x.2.2 ∧ x.2.2 ≤ 9)) → opsOk t := fun t ht o ho x hx => by
      have := ht o ho x hx
      unfold okI
      omega
    rcases h with rfl | rfl
    · exact hd _ (by decide)
    · exact hd _ (by decide)
theorem four_evs {w : World} {u : Value} {a b c d : Opx} (h : RowAt opC w u [a, b, c, d]) : ∃ bk off cap, u = .slice (some ⟨bk, off, none⟩) 4 cap ∧ 4 ≤ cap ∧ bk < w.heap.size ∧ (w.cell? ⟨bk, off + 3, none⟩ = some (.int .i64 b.1) ∧ w.cell? ⟨bk, off + 3 + 1, none⟩ = some (.int .i64 b.2.1) ∧ w.cell? ⟨bk, off + 3 + 2, none⟩ = some (.int .i64 b.2.2)) ∧ w.cell? ⟨bk, off + 6, none⟩ = some (.int .i64 c.1) ∧ w.cell? ⟨bk, off + 6 + 1, none⟩ = some (.int .i64 c.2.1) ∧ w.cell? ⟨bk, off + 6 + 2, none⟩ = some (.int .i64 c.2.2) := by
  obtain ⟨bk, off, cap, e, hc, hb, hx⟩ := h.cells opC_len (by simp)
  exact ⟨bk, off, cap, e, hc, hb, ⟨hx 1 (by simp) 0 _ (by decide) rfl, hx 1 (by simp) 1 _ (by decide) rfl, hx 1 (by simp) 2 _ (by decide) rfl⟩, hx 2 (by simp) 0 _ (by decide) rfl, hx 2 (by simp) 1 _ (by decide) rfl, hx 2 (by simp) 2 _ (by decide) rfl⟩
theorem aw_A (w : World) (B : Nat) (h : w.heap[B]? = some (.cells #[.int .i64 1, .int .i64 1, .int .i64 0, .int .i64 2, .int .i64 1, .int .i64 0] 45 (0, 0))) : Calls Try.prog 22 #[.slice (some ⟨w.heap.size + 1, 0, none⟩) 2 2, .slice (some ⟨w.heap.size + 2, 0, none⟩) 2 2] (((w.alloc (.cells #[.int .i64 1, .int .i64 1, .int .i64 0, .int .i64 2, .int .i64 1, .int .i64 0] 45)).alloc (.cells #[.slice (some ⟨B, 0, none⟩) 2 2, .slice (some ⟨w.heap.size, 0, none⟩) 2 2] 47)).alloc (.cells #[.int .i64 0, .int .i64 1] 3)) fun e w' => ∃ u, e = .returned (.tuple #[u, .bool true]) ∧ RowAt opC w' u [(0, 0, 0), (1, 0, 0), (0, 1, 0), (1, 1, 0)] ∧ Below w.heap.size w w' := by
  obtain ⟨s1, s2, s3⟩ := ops_small (ts := awA) (Or.inl rfl)
  have h1 := ps_run (tasks_two w B (1, 1, 0) (2, 1, 0) (1, 1, 0) (2, 1, 0) h (.cells #[.int .i64 0, .int .i64 1] 3)) s1 s2 s3 (RowAt.built (enc := intC) (l := [0, 1]) (alloc3_new w _ _ _ _) rfl 2 rfl rfl) (by intro x hx; unfold okI; simp at hx; omega) (by decide)
  have e1 := awA_run
  unfold awA at e1
  rw [e1.1, e1.2] at h1
  exact h1.mono fun _ _ ⟨u, e2, e3, e4⟩ => ⟨u, e2, e3, ((((Below.refl _ w).alloc (Nat.le_refl _) _).alloc (by simp) _).alloc (by simp; omega) _).trans (e4.mono (by simp; omega))⟩
theorem aw_B (w : World) (B : Nat) (h : w.heap[B]? = some (.cells #[.int .i64 1, .int .i64 1, .int .i64 0, .int .i64 1, .int .i64 2, .int .i64 0] 45 (0, 0))) : Calls Try.prog 22 #[.slice (some ⟨w.heap.size + 1, 0, none⟩) 2 2, .slice (some ⟨w.heap.size + 2, 0, none⟩) 4 4] (((w.alloc (.cells #[.int .i64 1, .int .i64 2, .int .i64 0, .int .i64 1, .int .i64 1, .int .i64 0] 45)).alloc (.cells #[.slice (some ⟨B, 0, none⟩) 2 2, .slice (some ⟨w.heap.size, 0, none⟩) 2 2] 47)).alloc (.cells #[.int .i64 0, .int .i64 1, .int .i64 0, .int .i64 0] 3)) fun e w' => ∃ u, e = .returned (.tuple #[u, .bool false]) ∧ RowAt opC w' u [(0, 0, 0), (1, 0, 0), (0, 1, 0), (1, 1, 0)] ∧ Below w.heap.size w w' := by
  obtain ⟨s1, s2, s3⟩ := ops_small (ts := awB) (Or.inr rfl)
  have h1 := ps_run (tasks_two w B (1, 1, 0) (1, 2, 0) (1, 2, 0) (1, 1, 0) h (.cells #[.int .i64 0, .int .i64 1, .int .i64 0, .int .i64 0] 3)) s1 s2 s3 (RowAt.built (enc := intC) (l := [0, 1, 0, 0]) (alloc3_new w _ _ _ _) rfl 4 rfl rfl) (by intro x hx; unfold okI; simp at hx; omega) (by decide)
  have e1 := awB_run
  unfold awB at e1
  rw [e1.1, e1.2] at h1
  exact h1.mono fun _ _ ⟨u, e2, e3, e4⟩ => ⟨u, e2, e3, ((((Below.refl _ w).alloc (Nat.le_refl _) _).alloc (by simp) _).alloc (by simp; omega) _).trans (e4.mono (by simp; omega))⟩
theorem two_calls {w2 w3 w4 : World} {cs : Array Value} {t : TypeId} (b3 : Below (w2.alloc (.cells cs t)).heap.size (w2.alloc (.cells cs t)) w3) (b4 : Below w3.heap.size w3 w4) : w4.heap[w2.heap.size]? = some (.cells cs t (0, 0)) ∧ Below w2.heap.size w2 w4 := by
  have h3 := b3.size
  have hs : (w2.alloc (.cells cs t)).heap.size = w2.heap.size + 1 := by simp
  have bb := ((Below.refl _ w2).alloc (Nat.le_refl _) (.cells cs t)).trans (b3.mono (by omega))
  exact ⟨(b4.block _ (by omega)).trans ((b3.block _ (by omega)).trans (heap_alloc_new w2 _)), bmm bb bb.size b4⟩
set_option maxHeartbeats 6400000 in
set_option maxRecDepth 100000 in
theorem awake10_any (w : World) : Calls Try.prog 10 #[] w fun e w' => e = .returned (.bool true) ∧ Below w.heap.size w w' := by
  have heq := ev_eql_same
  go_enter Try.func10, Try.ntmps10
  go_wp2_with (first
    | (go_at_call 22; refine (aw_B w9 _ HB9.out).mono ?_; rintro e wB ⟨u9, rfl, r9, b10⟩; obtain ⟨bb, ob, cb, rfl, _⟩ := four_evs r9; clear r9; have bE := bmm (bmm (bmm b6 b6.size b7) (bmm b6 b6.size b7).size b79) (bmm (bmm b6 b6.size b7) (bmm b6 b6.size b7).size b79).size b10; have x0 := (bE.cell (p := ⟨ba, oa + 3, none⟩) (by exact hba)).trans y0; have x1 := (bE.cell (p := ⟨ba, oa + 3 + 1, none⟩) (by exact hba)).trans y1; have x2 := (bE.cell (p := ⟨ba, oa + 3 + 2, none⟩) (by exact hba)).trans y2; have x3 := (bE.cell (p := ⟨ba, oa + 6, none⟩) (by exact hba)).trans y3; have x4 := (bE.cell (p := ⟨ba, oa + 6 + 1, none⟩) (by exact hba)).trans y4; have x5 := (bE.cell (p := ⟨ba, oa + 6 + 2, none⟩) (by exact hba)).trans y5)
    | (go_at_call 25; refine (op_lock 1 w8).mono ?_; rintro e w9 ⟨rfl, b9⟩; obtain ⟨hB9, b79⟩ := two_calls b8 b9; have HB9 : Hid _ := hB9; clear hB9)
    | (go_at_call 25; refine (op_lock 2 (w7.alloc _)).mono ?_; rintro e w8 ⟨rfl, b8⟩)
    | (go_at_call 25; refine (op_lock 2 w6).mono ?_; rintro e w7 ⟨rfl, b7⟩)
    | (go_at_call 25; refine (op_lock 1 w5).mono ?_; rintro e w6 ⟨rfl, b6⟩)
    | (go_at_call 22; refine (aw_A w4 _ HB4.out).mono ?_; rintro e w5 ⟨u5, rfl, r5, b5⟩; obtain ⟨ba, oa, ca, rfl, hca, hba, ⟨y0, y1, y2⟩, y3, y4, y5⟩ := four_evs r5; clear r5)
    | (go_at_call 26; refine (op_unlock 1 w3).mono ?_; rintro e w4 ⟨rfl, b4⟩; obtain ⟨hB4, b24⟩ := two_calls b3 b4; have HB4 : Hid _ := hB4; clear hB4)
    | (go_at_call 25; refine (op_lock 1 (w2.alloc _)).mono ?_; rintro e w3 ⟨rfl, b3⟩)
    | (go_at_call 26; refine (op_unlock 1 w1).mono ?_; rintro e w2 ⟨rfl, b2⟩)
    | (go_at_call 25; refine (op_lock 1 w).mono ?_; rintro e w1 ⟨rfl, b1⟩))
  go_ret
  have f1 := bmm b1 b1.size b2
  have f2 := bmm f1 f1.size b24
  have f3 := bmm f2 f2.size b5
  exact ⟨rfl, bmm f3 f3.size bE⟩
end Go.Proofs.Ythhlglbohibekaa
namespace Go.Proofs.Ythhlglbohibekaa
open Go.RowKit

def sumT (ts : List (List Opx)) : Nat := (ts.map fun o => o.length + 1).sum
theorem sumT_take (ts : List (List Opx)) (k : Nat) (hk : k < ts.length) : sumT (ts.take (k + 1)) = sumT (ts.take k) + (ts[k].length + 1) := by
  unfold sumT
  rw [List.take_succ_eq_append_getElem hk, List.map_append, List.sum_append]
  simp
theorem sumT_le (ts : List (List Opx)) : ∀ k, sumT (ts.take k) ≤ sumT ts := fun k => by
  unfold sumT
  conv => rhs; rw [← List.take_append_drop k ts, List.map_append, List.sum_append]
  omega
theorem sumT_mem {ts : List (List Opx)} : ∀ {o : List Opx}, o ∈ ts → o.length + 1 ≤ sumT ts := by
  induction ts with
  | nil => intro o h; cases h
  | cons x l ih =>
    intro o h
    unfold sumT at ih ⊢
    rw [List.map_cons, List.sum_cons]
    rcases List.mem_cons.1 h with rfl | h
    · omega
    · have := ih h
      omega
theorem sumT_len (ts : List (List Opx)) : ts.length ≤ sumT ts := by
  induction ts with
  | nil => exact Nat.zero_le _
  | cons x l ih =>
    unfold sumT at ih ⊢
    rw [List.map_cons, List.sum_cons, List.length_cons]
    omega
section
variable {w : World} {v : Value} {ts : List (List Opx)}
set_option maxHeartbeats 3200000 in
set_option maxRecDepth 100000 in
theorem small_any (h : TasksAt w v ts) (hb : sumT ts ≤ 1099511627776) : Calls Try.prog 9 #[v] w fun e w' => e = .returned (.bool (decide (sumT ts ≤ 500))) ∧ w = w' := by
  obtain ⟨av, cv, rfl⟩ := h.form
  have HT : Hid (TasksAt w (.slice av ts.length cv) ts) := h
  clear h
  go_enter Try.func9, Try.ntmps9
  go_wp2
  go_loopw [3, 4] (fun n i wr => ∃ k : Nat, k ≤ ts.length ∧ n = .int .i64 (sumT (ts.take k) : Nat) ∧ i = .int .i64 k ∧ Hid (wr = w)) (fun _ i _ => ts.length - (RowKit.intOf i).toNat)
  case atStart => exact ⟨0, Nat.zero_le _, rfl, rfl, (rfl : w = w)⟩
  case round =>
    obtain ⟨k, hk, rfl, rfl, hw⟩ := hrel
    obtain rfl : wr = w := hw.out
    clear hw
    by_cases hkl : k < ts.length
    · have q0 : decide ((k : Int) < (ts.length : Int)) = true := decide_eq_true (by omega)
      obtain ⟨bk, off, cap, ev, hbk, hx⟩ := HT.out.cells (by omega)
      simp only [Value.slice.injEq] at ev
      obtain ⟨rfl, _, rfl⟩ := ev
      obtain ⟨ai, ci, hc, hr⟩ := hx k hkl
      have HS : Hid _ := sumT_take ts k hkl
      have h1 := sumT_le ts k
      have h2 := sumT_mem (List.getElem_mem hkl)
      have q1 : IntKind.i64.wrap ((ts[k].length : Int) + 1) = (ts[k].length : Int) + 1 := by rw [IntKind.wrap_i64]; omega
      have q2 : IntKind.i64.wrap ((sumT (ts.take k) : Int) + ((ts[k].length : Int) + 1)) = (sumT (ts.take k) : Int) + ((ts[k].length : Int) + 1) := by rw [IntKind.wrap_i64]; omega
      have h3 := sumT_len ts
      clear hx hr HT h1 h2
      go_wp2
      go_roundw
      case rel =>
        exact ⟨k + 1, hkl, by rw [HS.out]; push_cast; rfl, by go_num, (show Hid True from trivial)⟩
      case measure => simp [RowKit.intOf]; omega
    · have q0 : decide ((k : Int) < (ts.length : Int)) = false := decide_eq_false (by omega)
      have hke : ts.take k = ts := List.take_of_length_le (by omega)
      rw [hke] at *
      by_cases hs : sumT ts ≤ 500
      · have q1 : decide ((sumT ts : Int) ≤ 500) = true := decide_eq_true (by omega)
        have HD : Hid (decide (sumT ts ≤ 500) = true) := decide_eq_true hs
        clear hs hke
        go_wp2
        go_ret
        exact ⟨by rw [HD.out]; rfl, rfl⟩
      · have q1 : decide ((sumT ts : Int) ≤ 500) = false := decide_eq_false (by omega)
        have HD : Hid (decide (sumT ts ≤ 500) = false) := decide_eq_false hs
        clear hs hke
        go_wp2
        go_ret
        exact ⟨by rw [HD.out]; rfl, rfl⟩
end
section
variable {w : World} {v u : Value} {l : List Opx}
set_option maxHeartbeats 3200000 in
set_option maxRecDepth 100000 in
theorem events_same (hv : RowAt opC w v l) (hu : RowAt opC w u l) (hmx : l.length ≤ 65536) : Calls Try.prog 24 #[v, u] w fun e w' => e = .returned (.bool true) ∧ Below w.heap.size w w' := by
  obtain ⟨a, cap, rfl⟩ := hv.form
  obtain ⟨b, cup, rfl⟩ := hu.form
  have HX : Hid _ := hv
  have HY : Hid _ := hu
  have heq := ev_neq_same
  have q0 : ((l.length : Int) != (l.length : Int)) = false := by rw [bne_eq_false_iff_eq]
  clear hv hu
  go_enter Try.func24, Try.ntmps24
  go_wp2
  go_loopw [5] (fun i wr => ∃ k : Nat, k ≤ l.length ∧ i = .int .i64 k ∧ Below w.heap.size w wr) (fun i _ => l.length - (RowKit.intOf i).toNat)
  case atStart => exact ⟨0, Nat.zero_le _, rfl, Below.refl _ _⟩
  case round =>
    obtain ⟨k, hk, rfl, bel⟩ := hrel
    by_cases hkl : k < l.length
    · have q1 : decide ((k : Int) < (l.length : Int)) = true := decide_eq_true (by omega)
      obtain ⟨bk, off, c1, ev, _, hbk, hx⟩ := (HX.out.fresh bel).cells opC_len (by omega)
      obtain ⟨bm, ofm, c2, eu, _, hbm, hy⟩ := (HY.out.fresh bel).cells opC_len (by omega)
      simp only [Value.slice.injEq] at ev eu
      obtain ⟨rfl, _, rfl⟩ := ev
      obtain ⟨rfl, _, rfl⟩ := eu
      have x0 : wr.cell? ⟨bk, off + k * 3, none⟩ = some (.int .i64 l[k].1) := hx k hkl 0 _ (by decide) rfl
      have x1 := hx k hkl 1 _ (by decide) rfl
      have x2 := hx k hkl 2 _ (by decide) rfl
      have y0 : wr.cell? ⟨bm, ofm + k * 3, none⟩ = some (.int .i64 l[k].1) := hy k hkl 0 _ (by decide) rfl
      have y1 := hy k hkl 1 _ (by decide) rfl
      have y2 := hy k hkl 2 _ (by decide) rfl
      clear hx hy
      generalize l[k] = o at *
      obtain ⟨o0, o1, o2⟩ := o
      simp only at x0 x1 x2 y0 y1 y2
      go_wp2
      go_region_held3 (fun w' => w'.cell? ⟨bk, off + k * 3, none⟩ = some (.int .i64 o0) ∧ w'.cell? ⟨bk, off + k * 3 + 1, none⟩ = some (.int .i64 o1) ∧ w'.cell? ⟨bk, off + k * 3 + 2, none⟩ = some (.int .i64 o2) ∧ w'.cell? ⟨bm, ofm + k * 3, none⟩ = some (.int .i64 o0) ∧ w'.cell? ⟨bm, ofm + k * 3 + 1, none⟩ = some (.int .i64 o1) ∧ w'.cell? ⟨bm, ofm + k * 3 + 2, none⟩ = some (.int .i64 o2)) (go_keep) (fail)
      go_wp2
      go_roundw
      case rel => exact ⟨k + 1, hkl, by go_num, bel.drew⟩
      case measure => simp [RowKit.intOf]; omega
    · have q1 : decide ((k : Int) < (l.length : Int)) = false := decide_eq_false (by omega)
      go_wp2
      go_ret
      exact ⟨rfl, bel⟩
end
end Go.Proofs.Ythhlglbohibekaa
namespace Go.Proofs.Ythhlglbohibekaa
open Go.RowKit

structure SD (w : World) (B Dx Dy : Nat) (Sx Sy : Nat → Prop) (j k : Nat) (T' T : List Tk) (L' L : List (Int × Ob)) : Prop where
  x : PSk w B Dx Sx j T' L'
  y : RSk w B Dy Sy k T L
  ap : ∀ b, Sx b → ¬ Sy b
section
variable {w w' : World} {B Dx Dy : Nat} {Sx Sy : Nat → Prop} {j k : Nat} {T' T : List Tk} {L' L : List (Int × Ob)}
theorem PSk.fresh {base D : Nat} {S : Nat → Prop} (h : PSk w base D S k T L) (b : Below w.heap.size w w') : PSk w' base D S k T L := h.keep b.size (fun c hc => b.block c (h.bd c hc).2)
theorem PSk.base_le {base D : Nat} {S : Nat → Prop} (h : PSk w base D S k T L) : base ≤ w.heap.size := by have := h.bd D h.sD; omega
theorem PSk.below {base D : Nat} {S S' : Nat → Prop} (h : PSk w base D S k T L) (q : Kept w w' S S') : Below base w w' := q.low h.base_le (fun b hb => (h.bd b hb).1)
theorem SD.fresh (h : SD w B Dx Dy Sx Sy j k T' T L' L) (b : Below w.heap.size w w') : SD w' B Dx Dy Sx Sy j k T' T L' L := ⟨h.x.fresh b, h.y.fresh b, h.ap⟩
theorem SD.stepX (h : SD w B Dx Dy Sx Sy k k T T L L) (z : Int) (hz : okI z) (hk : k < 65535) : Calls Try.prog 13 #[.pointer (some ⟨Dx, 0, none⟩), .int .i64 z] w fun e w' => e = .returned (.tuple #[.agg #[.int .i64 (spR T L z).1.1, .int .i64 (spR T L z).1.2.1, .int .i64 (spR T L z).1.2.2], .int .i64 (spR T L z).2.1]) ∧ ∃ S', SD w' B Dx Dy S' Sy (k + 1) k (spR T L z).2.2.1 T (spR T L z).2.2.2 L ∧ Below B w w' :=
  (ps_step h.x z hz hk).mono fun _ _ ⟨e, S', h1, h2⟩ => ⟨e, S', ⟨h1, h.y.keep h2.size (fun b hb => h2.kept b (h.y.bd b hb).2 (fun hs => h.ap b hs hb)), fun b h3 h4 => by
    rcases h2.old b h3 with h5 | h5
    · exact h.ap b h5 h4
    · have := (h.y.bd b h4).2
      omega⟩, h.x.below h2⟩
theorem SD.stepY {z : Int} (h : SD w B Dx Dy Sx Sy (k + 1) k (spR T L z).2.2.1 T (spR T L z).2.2.2 L) (hk : k < 65535) (cs : Array Value) (t : TypeId) : Calls Try.prog 14 #[.pointer (some ⟨Dy, 0, none⟩), .int .i64 z] (w.alloc (.cells cs t)) fun e w' => e = .returned (.tuple #[.agg #[.int .i64 (spR T L z).1.1, .int .i64 (spR T L z).1.2.1, .int .i64 (spR T L z).1.2.2], .int .i64 (spR T L z).2.1]) ∧ ∃ S', SD w' B Dx Dy Sx S' (k + 1) (k + 1) (spR T L z).2.2.1 (spR T L z).2.2.1 (spR T L z).2.2.2 (spR T L z).2.2.2 ∧ Below B w w' ∧ w'.heap[w.heap.size]? = some (.cells cs t (0, 0)) := by
  have h1 := h.fresh ((Below.refl _ w).alloc (Nat.le_refl _) (.cells cs t))
  refine (rs_step h1.y z hk).mono fun _ w' ⟨e, S', h3, h4⟩ => ⟨e, S', ⟨h1.x.keep h4.size (fun b hb => h4.kept b (h1.x.bd b hb).2 (fun hs => h1.ap b hb hs)), h3, fun b h5 h6 => ?_⟩, ((Below.refl _ w).alloc (Nat.le_refl _) (.cells cs t) |>.mono h.y.base_le).trans (h1.y.below h4), ?_⟩
  · rcases h4.old b h6 with h7 | h7
    · exact h1.ap b h5 h7
    · have := (h1.x.bd b h5).2
      omega
  · rw [h4.kept w.heap.size (by simp) (fun hs => by have := (h.y.bd _ hs).2; omega)]
    exact heap_alloc_new w _
end
theorem readyL_ok {k : Nat} {T : List Tk} {L : List (Int × Ob)} (h : StOk k T L) : (∀ x ∈ readyL T, okI x) ∧ (readyL T).length ≤ 65536 := by
  refine ⟨fun x hx => ?_, Nat.le_trans (upto_le _ _ _) h.nt⟩
  have := upto_range tkR T 0 x hx
  have := h.nt
  unfold okI
  omega
theorem blockedL_ok {k : Nat} {T : List Tk} {L : List (Int × Ob)} (h : StOk k T L) : (∀ x ∈ blockedL T, okI x) ∧ (blockedL T).length ≤ 65536 := by
  refine ⟨fun x hx => ?_, Nat.le_trans (upto_le _ _ _) h.nt⟩
  have := upto_range (fun t => t.bl) T 0 x hx
  have := h.nt
  unfold okI
  omega
theorem runR_len (picks : List Int) : ∀ (f i : Nat) (T : List Tk) (L : List (Int × Ob)), (runR picks f i T L).1.length ≤ f
  | 0, _, _, _ => Nat.le_refl _
  | f + 1, i, T, L => by
    rw [runR]
    split
    · exact Nat.zero_le _
    · have := runR_len picks f (i + 1)
      simp only [List.length_cons]
      exact Nat.succ_le_succ (this _ _)
section
variable {w : World} {v vp : Value} {ts : List (List Opx)} {picks : List Int}
set_option maxHeartbeats 6400000 in
set_option maxRecDepth 100000 in
theorem ssteps_walk (h : TasksAt w v ts) (hb : sumT ts ≤ 1099511627776) (ho : opsOk ts) (hp : RowAt intC w vp picks) (hpo : ∀ x ∈ picks, okI x) (hpl : picks.length ≤ 9223372036854775807) : Calls Try.prog 3 #[v, vp] w fun e w' => e = .returned (.bool true) ∧ Below w.heap.size w w' := by
  have hsm := small_any h hb
  by_cases hs : sumT ts ≤ 500
  case neg =>
    rw [decide_eq_false hs] at hsm
    obtain ⟨av, cv, rfl⟩ := h.form
    clear h hb ho hp hpo hs
    go_enter Try.func3, Try.ntmps3
    go_wp2_with (first
      | (go_at_call 10; refine (awake10_any _).mono ?_; rintro e w2 ⟨rfl, b2⟩)
      | (go_at_call 9; refine hsm.mono ?_; rintro e w1 ⟨rfl, rfl⟩))
    go_ret
    exact ⟨rfl, b2⟩
  case pos =>
    rw [decide_eq_true hs] at hsm
    have hn : ts.length ≤ 65536 := by have := sumT_len ts; omega
    have hl : ∀ o ∈ ts, o.length ≤ 65536 := fun o ho => by have := sumT_mem ho; omega
    have hx := ps_new h hn hl ho
    have HY : Hid (∀ w1 : World, Below w.heap.size w w1 → Calls Try.prog 12 #[v] w1 fun e w' => ∃ D S, e = .returned (.pointer (some ⟨D, 0, none⟩)) ∧ RSk w' w1.heap.size D S 0 (ts.map tkNew) [] ∧ Below w1.heap.size w1 w') := fun w1 b1 => rs_new (h.fresh b1) hn hl
    obtain ⟨av, cv, rfl⟩ := h.form
    obtain ⟨ap, cp, rfl⟩ := hp.form
    have HP : Hid (RowAt intC w (.slice ap picks.length cp) picks) := hp
    have HPO : Hid (∀ x ∈ picks, okI x) := hpo
    clear h hb ho hp hpo hs hn hl
    generalize ts.map tkNew = T0 at *
    have heq := ev_neq_same
    go_enter Try.func3, Try.ntmps3
    go_wp2_with (first
      | (go_at_call 12; refine (HY.out _ b1).mono ?_; rintro e w2 ⟨Dy, Sy0, rfl, y2, b2⟩; have HSD : Hid (SD w2 w.heap.size Dx Dy Sx0 Sy0 0 0 T0 T0 [] []) := ⟨HX1.out.fresh b2, y2.low b1.size, fun b h5 h6 => by have := (HX1.out.bd b h5).2; have := (y2.bd b h6).1; omega⟩; clear y2)
      | (go_at_call 11; refine hx.mono ?_; rintro e w1 ⟨Dx, Sx0, rfl, x1, b1⟩; have HX1 : Hid _ := x1; clear x1)
      | (go_at_call 9; refine hsm.mono ?_; rintro e w0 ⟨rfl, rfl⟩))
    have b12 : Below w.heap.size w w2 := bmm b1 b1.size b2
    go_loopw [7] (fun i wr => ∃ (k : Nat) (Sx Sy : Nat → Prop) (T : List Tk) (L : List (Int × Ob)), k ≤ picks.length ∧ k ≤ 300 ∧ i = .int .i64 k ∧ SD wr w.heap.size Dx Dy Sx Sy k k T T L L ∧ Below w.heap.size w wr) (fun i _ => picks.length - (RowKit.intOf i).toNat)
    case atStart => exact ⟨0, _, _, _, _, Nat.zero_le _, Nat.zero_le _, rfl, HSD.out, b12⟩
    case round =>
      obtain ⟨k, Sx, Sy, T, L, hk, hk3, rfl, hM, bel⟩ := hrel
      by_cases hkl : k < picks.length
      · by_cases hk4 : k < 300
        · have q0 : decide ((k : Int) < (picks.length : Int)) = true := decide_eq_true (by omega)
          have q1 : decide ((k : Int) < (300 : Int)) = true := decide_eq_true (by omega)
          obtain ⟨bk, off, cap, ev, _, hbk, hxp⟩ := HP.out.cells intC_len (by omega)
          simp only [Value.slice.injEq] at ev
          obtain ⟨rfl, _, rfl⟩ := ev
          have zp : wr.cell? ⟨bk, off + k, none⟩ = some (.int .i64 picks[k]) := (bel.cell (p := ⟨bk, off + k, none⟩) (by exact hbk)).trans (by have := hxp k hkl 0 _ (by decide) rfl; simpa using this)
          have hok := HPO.out _ (List.getElem_mem hkl)
          clear hxp
          generalize picks[k] = z at *
          have HM : Hid (SD wr w.heap.size Dx Dy Sx Sy k k T T L L) := hM
          have hsx := hM.stepX z hok (by omega)
          have HSY : Hid (∀ (w2 : World) (S2 : Nat → Prop), SD w2 w.heap.size Dx Dy S2 Sy (k + 1) k (spR T L z).2.2.1 T (spR T L z).2.2.2 L → ∀ cs t, Calls Try.prog 14 #[.pointer (some ⟨Dy, 0, none⟩), .int .i64 z] (w2.alloc (.cells cs t)) fun e w' => e = .returned (.tuple #[.agg #[.int .i64 (spR T L z).1.1, .int .i64 (spR T L z).1.2.1, .int .i64 (spR T L z).1.2.2], .int .i64 (spR T L z).2.1]) ∧ ∃ S', SD w' w.heap.size Dx Dy S2 S' (k + 1) (k + 1) (spR T L z).2.2.1 (spR T L z).2.2.1 (spR T L z).2.2.2 (spR T L z).2.2.2 ∧ Below w.heap.size w2 w' ∧ w'.heap[w2.heap.size]? = some (.cells cs t (0, 0))) := fun w2 S2 h2 cs t => h2.stepY (by omega) cs t
          clear hM
          generalize spR T L z = r at *
          obtain ⟨⟨e0, e1, e2⟩, er, T2, L2⟩ := r
          simp only at hsx HSY
          have HSR : Hid (sameB (readyL T2) (readyL T2) = true) := decide_eq_true rfl
          have HSB : Hid (sameB (blockedL T2) (blockedL T2) = true) := decide_eq_true rfl
          have ZP2 : Hid (∀ w2 : World, Below w.heap.size wr w2 → ∀ o, (w2.alloc o).cell? ⟨bk, off + k, none⟩ = some (.int .i64 z)) := fun w2 b2 o => ((b2.alloc (by have := bel.size; have := b2.size; omega) o).cell (p := ⟨bk, off + k, none⟩) (by exact hbk)).trans zp
          go_wp2_with (first
            | (go_at_call 21; refine (rs_Ended (H3.out.fresh b10).y).mono ?_; rintro e w11 ⟨rfl, b11'⟩; have b11 := bmm b10 b10.size b11')
            | (go_at_call 20; refine (ps_Ended (H3.out.fresh b9).x).mono ?_; rintro e w10 ⟨rfl, b10'⟩; have b10 := bmm b9 b9.size b10')
            | (go_at_call 15; refine (ints_same w8 _ _ _ _ ((r7.fresh b8').ints (blockedL_ok H3.out.y.ok).1 (blockedL_ok H3.out.y.ok).2) (r8.ints (blockedL_ok H3.out.y.ok).1 (blockedL_ok H3.out.y.ok).2)).mono ?_; rw [HSB.out]; rintro e w9 ⟨rfl, b9'⟩; have b9 := bmm b8 b8.size b9'; clear r7 r8)
            | (go_at_call 19; refine (rs_Blocked (H3.out.fresh b7).y).mono ?_; rintro e w8 ⟨u8, rfl, r8, b8'⟩; have b8 := bmm b7 b7.size b8')
            | (go_at_call 18; refine (ps_Blocked (H3.out.fresh b6).x).mono ?_; rintro e w7 ⟨u7, rfl, r7, b7'⟩; have b7 := bmm b6 b6.size b7')
            | (go_at_call 15; refine (ints_same w5 _ _ _ _ ((r4.fresh b5').ints (readyL_ok H3.out.y.ok).1 (readyL_ok H3.out.y.ok).2) (r5.ints (readyL_ok H3.out.y.ok).1 (readyL_ok H3.out.y.ok).2)).mono ?_; rw [HSR.out]; rintro e w6 ⟨rfl, b6'⟩; have b6 := bmm b5 b5.size b6'; clear r4 r5)
            | (go_at_call 17; refine (rs_Ready (H3.out.fresh b4).y).mono ?_; rintro e w5 ⟨u5, rfl, r5, b5'⟩; have b5 := bmm b4 b4.size b5')
            | (go_at_call 16; refine (ps_Ready (H3.out.fresh ((Below.refl _ w3).alloc (Nat.le_refl _) _)).x).mono ?_; rintro e w4 ⟨u4, rfl, r4, b4'⟩; have b4 := bel_box b4')
            | (go_at_call 14; refine (HSY.out w2 S2 H2.out _ _).mono ?_; rintro e w3 ⟨rfl, S3, k3, bb3, he⟩; have H3 : Hid _ := k3; clear k3; have x0 : w3.cell? ⟨w2.heap.size, 0, none⟩ = some (.int .i64 e0) := (by simp [World.cell?, he]); have x1 : w3.cell? ⟨w2.heap.size, 1, none⟩ = some (.int .i64 e1) := (by simp [World.cell?, he]); have x2 : w3.cell? ⟨w2.heap.size, 2, none⟩ = some (.int .i64 e2) := (by simp [World.cell?, he]); have hl3 := lt_of_block he; clear he)
            | (go_at_call 13; refine hsx.mono ?_; rintro e w2 ⟨rfl, S2, k2, bb2⟩; have H2 : Hid _ := k2; clear k2; have zp2 : (w2.alloc (.cells #[.int .i64 e0, .int .i64 e1, .int .i64 e2] 32)).cell? ⟨bk, off + k, none⟩ = some (.int .i64 z) := ZP2.out w2 bb2 _))
          have belW : Below w.heap.size w w11 := ((bel.trans bb2).trans bb3).trans (b11.mono (by have := H3.out.y.base_le; exact this))
          go_roundw
          case rel => exact ⟨k + 1, _, _, _, _, hkl, by omega, by go_num, H3.out.fresh b11, belW⟩
          case measure => simp [RowKit.intOf]; omega
        · have hke : k = 300 := by omega
          have q0 : decide ((k : Int) < (picks.length : Int)) = true := decide_eq_true (by omega)
          have q1 : decide ((k : Int) < (300 : Int)) = false := decide_eq_false (by omega)
          clear hM
          go_wp2_with (go_at_call 10; refine (awake10_any _).mono ?_; rintro e w9 ⟨rfl, b9⟩)
          go_ret
          exact ⟨rfl, bmm bel bel.size b9⟩
      · have q0 : decide ((k : Int) < (picks.length : Int)) = false := decide_eq_false (by omega)
        clear hM
        go_wp2_with (go_at_call 10; refine (awake10_any _).mono ?_; rintro e w9 ⟨rfl, b9⟩)
        go_ret
        exact ⟨rfl, bmm bel bel.size b9⟩
set_option maxHeartbeats 6400000 in
set_option maxRecDepth 100000 in
theorem sruns_walk (h : TasksAt w v ts) (hb : sumT ts ≤ 1099511627776) (ho : opsOk ts) (hp : RowAt intC w vp picks) (hpo : ∀ x ∈ picks, okI x) : Calls Try.prog 4 #[v, vp] w fun e w' => e = .returned (.bool true) ∧ Below w.heap.size w w' := by
  have hsm := small_any h hb
  obtain ⟨av, cv, ev⟩ := h.form
  obtain ⟨ap, cp, ep⟩ := hp.form
  by_cases hs : sumT ts ≤ 500
  case neg =>
    rw [decide_eq_false hs] at hsm
    subst ev ep
    clear h hb ho hp hpo hs
    go_enter Try.func4, Try.ntmps4
    go_wp2_with (first
      | (go_at_call 10; refine (awake10_any _).mono ?_; rintro e w2 ⟨rfl, b2⟩)
      | (go_at_call 9; refine hsm.mono ?_; rintro e w1 ⟨rfl, rfl⟩))
    go_ret
    exact ⟨rfl, b2⟩
  case pos =>
    rw [decide_eq_true hs] at hsm
    by_cases hl : picks.length ≤ 1000
    case neg =>
      have q1 : decide ((1000 : Int) < (picks.length : Int)) = true := decide_eq_true (by omega)
      subst ev ep
      clear h hb ho hp hpo hs hl
      go_enter Try.func4, Try.ntmps4
      go_wp2_with (first
        | (go_at_call 10; refine (awake10_any _).mono ?_; rintro e w2 ⟨rfl, b2⟩)
        | (go_at_call 9; refine hsm.mono ?_; rintro e w1 ⟨rfl, rfl⟩))
      go_ret
      exact ⟨rfl, b2⟩
    case pos =>
      have q1 : decide ((1000 : Int) < (picks.length : Int)) = false := decide_eq_false (by omega)
      have hn : ts.length ≤ 65536 := by have := sumT_len ts; omega
      have hlo : ∀ o ∈ ts, o.length ≤ 65536 := fun o ho => by have := sumT_mem ho; omega
      have hx := ps_run h hn hlo ho hp hpo (by omega)
      have HY : Hid (∀ w1 : World, Below w.heap.size w w1 → _) := fun w1 b1 => rs_run (h.fresh b1) hn hlo (hp.fresh b1) hpo (by omega)
      have hlen := runR_len picks 10000 0 (ts.map tkNew) []
      generalize runR picks 10000 0 (ts.map tkNew) [] = r at *
      obtain ⟨evs, T2, L2⟩ := r
      simp only at hx HY hlen
      subst ev ep
      clear h hb ho hp hpo hs hl hn hlo
      go_enter Try.func4, Try.ntmps4
      go_wp2_with (first
        | (go_at_call 10; refine (awake10_any w4).mono ?_; rintro e w5 ⟨rfl, b5⟩)
        | (go_at_call 24; refine (events_same (r2.fresh b3) r3 (by omega)).mono ?_; rintro e w4 ⟨rfl, b4⟩; clear r2 r3)
        | (go_at_call 23; refine (HY.out w2 b2).mono ?_; rintro e w3 ⟨u3, rfl, r3, b3⟩)
        | (go_at_call 22; refine hx.mono ?_; rintro e w2 ⟨u2, rfl, r2, b2⟩)
        | (go_at_call 9; refine hsm.mono ?_; rintro e w1 ⟨rfl, rfl⟩))
      go_ret
      have f1 := bmm b2 b2.size b3
      have f2 := bmm f1 f1.size b4
      exact ⟨rfl, bmm f2 f2.size b5⟩
end
end Go.Proofs.Ythhlglbohibekaa
namespace Go.Proofs.Ythhlglbohibekaa
open Go.ChangeShapes Go.WideShapes Go.ChangeAt Go.RowKit Go.Joins Go.Deep

theorem kcOp : Try.prog.cellsOf 45 = 3 := by kernel_rfl
theorem kcOps : Try.prog.cellsOf 47 = 1 := by kernel_rfl
theorem bulk_one {H : Type} (d : DataW H) : 1 ≤ Rows.uptoBulk d := by
  cases d with
  | lit l => cases l <;> simp [Rows.uptoBulk]
  | nil => simp [Rows.uptoBulk]
  | ptr d => simp [Rows.uptoBulk]
  | slice elems spare => simp [Rows.uptoBulk]
  | agg parts => simp [Rows.uptoBulk]
  | iface t d => simp [Rows.uptoBulk]
  | map entries => simp [Rows.uptoBulk]
  | held h => simp [Rows.uptoBulk]
theorem bulk_len {H : Type} : ∀ l : List (DataW H), l.length ≤ Rows.uptoBulkAll l
  | [] => Nat.zero_le _
  | x :: r => by
    have h1 := bulk_one x
    have h2 := bulk_len r
    simp only [Rows.uptoBulkAll, List.length_cons]
    omega
section
variable {H : Type} {enc : TypeId × Value → H} {w : World}
def OpL (o : Opx) (cs : List Value) (_ : DataW H) : Prop := cs = opC o ∧ okI o.1 ∧ okI o.2.1 ∧ okI o.2.2
set_option maxRecDepth 100000 in
theorem op_open {fuel : Nat} {cs : List Value} {x : DataW H × List MemPlace} (h : DataW.trod enc Try.prog w 0 (fun _ => true) true fuel 45 cs = some x) : ∃ s : Opx, OpL s cs x.1 := by
  obtain ⟨y0, y1, y2, n, hx, hl, h0, h1, h2⟩ := trod_three_of Try.underlying45 h
  rw [kcOp] at hl
  match cs, hl with
  | [a0, a1, a2], _ =>
    simp only [kcInt] at h0 h1 h2
    obtain ⟨T, e0, _, wT⟩ := DataW.trod_int Try.underlying3 h0
    obtain ⟨u, e1, _, wU⟩ := DataW.trod_int Try.underlying3 h1
    obtain ⟨r, e2, _, wR⟩ := DataW.trod_int Try.underlying3 h2
    simp at e0 e1 e2
    subst e0 e1 e2
    exact ⟨(T, u, r), rfl, bounds_i64 wT, bounds_i64 wU, bounds_i64 wR⟩
def OpsL (w : World) (q : Value × List Opx) (cs : List Value) (y : DataW H) : Prop := cs = oneC q.1 ∧ RowAt opC w q.1 q.2 ∧ (∀ x ∈ q.2, okI x.1 ∧ okI x.2.1 ∧ okI x.2.2) ∧ q.2.length + 1 ≤ Rows.uptoBulk y
set_option maxRecDepth 100000 in
theorem ops_open {fuel : Nat} {cs : List Value} {x : DataW H × List MemPlace} (h : DataW.trod enc Try.prog w 0 (fun _ => true) true fuel 47 cs = some x) : ∃ q : Value × List Opx, OpsL w q cs x.1 := by
  obtain ⟨v, rfl⟩ : ∃ v, cs = [v] := by
    rcases open_slice Try.underlying47 h with ⟨e, _⟩ | ⟨y, len, cap, m, n, D, Pl, e, _⟩
    · exact ⟨_, e⟩
    · exact ⟨_, e⟩
  obtain ⟨a, len, cap, l, rfl, hr⟩ := open_row Try.underlying47 kcOp (by omega) (OpL (H := H)) (fun _ _ _ h => op_open h) h
  refine ⟨(.slice a len cap, l), rfl, hr.row (by decide) opC_len (fun _ _ _ h => h.1), hr.all (fun x => okI x.1 ∧ okI x.2.1 ∧ okI x.2.2) (fun _ _ _ h => h.2), ?_⟩
  show l.length + 1 ≤ _
  rw [hr.len_eq]
  rcases hr.ex with ⟨_, h0, _⟩ | ⟨x0, es, sp, _, e, he, _⟩
  · rw [h0]
    exact bulk_one _
  · rw [e]
    simp only [Rows.uptoBulk]
    have := bulk_len es
    omega
theorem sum_bulk : ∀ (l : List (Value × List Opx)) (es : List (DataW H)), l.length = es.length → (∀ j (hj : j < l.length) (he : j < es.length), l[j].2.length + 1 ≤ Rows.uptoBulk es[j]) → sumT (l.map (·.2)) ≤ Rows.uptoBulkAll es
  | [], es, _, _ => by simp [sumT]
  | q :: l, [], hl, _ => by simp at hl
  | q :: l, e :: es, hl, h => by
    have h0 := h 0 (by simp) (by simp)
    have ih := sum_bulk l es (by simpa using hl) (fun j hj he => by
      have := h (j + 1) (by simpa using hj) (by simpa using he)
      simpa using this)
    unfold sumT at ih ⊢
    simp only [List.map_cons, List.sum_cons, Rows.uptoBulkAll]
    simp only [List.getElem_cons_zero] at h0
    omega
set_option maxRecDepth 100000 in
theorem open_tasks {v : Value} {d : DataW H} {p : List MemPlace} {r : Reach} {b0 : Nat} (hv : Value.okWide Try.prog w r b0 22 v) (h : DataW.Trod enc Try.prog w 0 (fun _ => true) true 22 v d p) : ∃ ts : List (List Opx), TasksAt w v ts ∧ opsOk ts ∧ sumT ts ≤ Rows.uptoBulk d := by
  obtain ⟨a, len, cap, rfl⟩ := okWide_slice Try.underlying22 hv
  obtain ⟨fuel, hf⟩ := h
  obtain ⟨a', len', cap', l, e, hr⟩ := open_row Try.underlying22 kcOps (by omega) (OpsL (H := H) w) (fun _ _ _ h => ops_open h) hf
  cases e
  have hall := hr.all (fun q => RowAt opC w q.1 q.2 ∧ ∀ x ∈ q.2, okI x.1 ∧ okI x.2.1 ∧ okI x.2.2) (fun _ _ _ h => ⟨h.2.1, h.2.2.1⟩)
  refine ⟨l.map (·.2), ⟨l.map (·.1), by simp, ?_, fun i h1 h2 => ?_⟩, fun o ho x hx => ?_, ?_⟩
  · have h3 : RowAt (fun q : Value × List Opx => oneC q.1) w (.slice a len cap) l := hr.row (by decide) (fun _ => rfl) (fun _ _ _ h => h.1)
    obtain ⟨a2, c2, e2, h4, h5, h6⟩ := h3.ex
    refine ⟨a2, c2, by rw [e2]; simp, by simpa using h4, by simpa using h5, ?_⟩
    rcases h6 with h6 | ⟨bk, off, e3, h7, h8⟩
    · exact Or.inl (by simpa using h6)
    · refine Or.inr ⟨bk, off, e3, h7, fun j u hu => h8 j u ?_⟩
      rw [← hu]
      unfold rowL
      rw [List.flatMap_map]
  · rw [List.getElem_map, List.getElem_map]
    exact (hall _ (List.getElem_mem _)).1
  · obtain ⟨q, hq, rfl⟩ := List.mem_map.1 ho
    exact (hall q hq).2 x hx
  · rcases hr.ex with ⟨_, h0, _⟩ | ⟨x0, es, sp, _, e, he, hj, _⟩
    · have : l = [] := List.eq_nil_of_length_eq_zero (by rw [hr.len_eq]; exact h0)
      rw [this]
      exact Nat.zero_le _
    · have h3 := sum_bulk l es (by rw [hr.len_eq, he]) (fun j h1 h2 => by
        obtain ⟨cs, h4, _⟩ := hj j h1 h2
        exact h4.2.2.2)
      rw [show d = .slice es sp from e]
      simp only [Rows.uptoBulk]
      omega
end
end Go.Proofs.Ythhlglbohibekaa
