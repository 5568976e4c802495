/-
  Clocks in memory: a block with a row of numbers and a number; the document's own (package latchkeyref07): new ones, one read, one set. No condition.
-/
import Derived.Test.YtcecgphjaofgbaaCkRef
import Derived.Test.YtcecgphjaofgbaaRTake
namespace Go.Proofs.Ytcecgphjaofgbaa
open Go.RowKit

def natL (l : List Nat) : List Value := l.map fun (x : Nat) => Value.int .i64 (x : Int)
theorem natL_length (l : List Nat) : (natL l).length = l.length := by unfold natL; simp
abbrev RT : TypeId := 38
abbrev PT : TypeId := 54
/-- The program's clocks lie the other way round. -/
def ckC (T : TypeId) (s r : Value) : Array Value := if T = PT then #[r, s] else #[s, r]
theorem ckC_R (s r : Value) : ckC RT s r = #[s, r] := rfl
theorem ckC_P (s r : Value) : ckC PT s r = #[r, s] := rfl
/-- Clocks in block D: each, and real time; 'S': the blocks that are their own. -/
structure CkAt (T : TypeId) (w : World) (base D : Nat) (S : Nat → Prop) (l : List Nat) (real : Nat) : Prop where
  ex : ∃ g c, w.heap[D]? = some (.cells (ckC T (.slice (some ⟨g, 0, none⟩) l.length c) (.int .i64 (real : Int))) T (0, 0)) ∧ w.ownsRow base 3 1 (.slice (some ⟨g, 0, none⟩) l.length c) l.length (natL l) ∧ S g ∧ g ≠ D
  sD : S D
  bd : ∀ b, S b → base ≤ b ∧ b < w.heap.size
  n1 : 1 ≤ l.length
  n2 : l.length ≤ 13
  le : ∀ x ∈ l, x ≤ 1099511627776
  rl : real ≤ 1099511627776
section
variable {T : TypeId} {w w' : World} {base D : Nat} {S S' : Nat → Prop} {l l' : List Nat} {real real' : Nat}
theorem CkAt.keep (h : CkAt T w base D S l real) (hs : w.heap.size ≤ w'.heap.size) (hk : ∀ b, S b → w'.heap[b]? = w.heap[b]?) : CkAt T w' base D S l real := by
  obtain ⟨g, c, h1, h2, h3, h4⟩ := h.ex
  exact ⟨⟨g, c, (hk D h.sD).trans h1, own_keep h2 (fun q e => by simp only [Value.ownBlock, Option.some.injEq] at e; subst e; exact hk _ h3), h3, h4⟩, h.sD, fun b hb => ⟨(h.bd b hb).1, Nat.lt_of_lt_of_le (h.bd b hb).2 hs⟩, h.n1, h.n2, h.le, h.rl⟩
theorem CkAt.fresh (h : CkAt T w base D S l real) (k : Below w.heap.size w w') : CkAt T w' base D S l real := h.keep k.size (fun b hb => k.block b (h.bd b hb).2)
theorem CkAt.drew (h : CkAt T w base D S l real) : CkAt T w.drew base D S l real := h.keep (Nat.le_refl _) (fun _ _ => rfl)
theorem CkAt.base_le (h : CkAt T w base D S l real) : base ≤ w.heap.size := by have := h.bd D h.sD; omega
theorem CkAt.below (h : CkAt T w base D S l real) (k : Kept w w' S S') : Below base w w' := k.low h.base_le (fun b hb => (h.bd b hb).1)
/-- A number of the row is another one. -/
theorem CkAt.put (h : CkAt RT w base D S l real) {g c n x : Nat} (hb : w.heap[D]? = some (.cells #[.slice (some ⟨g, 0, none⟩) l.length c, .int .i64 (real : Int)] RT (0, 0))) (hx : x ≤ 1099511627776) : CkAt RT (w.setCell ⟨g, n, none⟩ (.int .i64 (x : Int))) base D S (l.set n x) real ∧ Kept w (w.setCell ⟨g, n, none⟩ (.int .i64 (x : Int))) S S := by
  obtain ⟨g', c', h1, h2, h3, h4⟩ := h.ex
  rw [ckC_R] at h1
  rw [hb] at h1
  simp only [Option.some.injEq, Obj.cells.injEq, Array.mk.injEq, List.cons.injEq, Value.slice.injEq, Addr.mk.injEq, and_true, true_and] at h1
  obtain ⟨rfl, rfl⟩ := h1
  have hst := h2.stored n (.int .i64 (x : Int))
  have e : (natL l).set n (.int .i64 (x : Int)) = natL (l.set n x) := by unfold natL; rw [List.map_set]
  rw [e] at hst
  refine ⟨⟨⟨g, c, ?_, ?_, h3, h4⟩, h.sD, fun b hb2 => ⟨(h.bd b hb2).1, by simpa using (h.bd b hb2).2⟩, by rw [List.length_set]; exact h.n1, by rw [List.length_set]; exact h.n2, fun y hy => ?_, h.rl⟩, ⟨hst.2.os, hst.2.tape, hst.2.output, hst.2.size, fun _ hs => Or.inl hs, fun b hb2 hs => hst.2.block b hb2 (fun e => hs (by have := Option.some.inj e; subst this; exact h3))⟩⟩
  · rw [heap_setCell_other _ _ _ _ (by
      show D ≠ g
      exact Ne.symm h4), List.length_set]
    exact hb
  · rw [List.length_set]
    exact hst.1
  · rcases List.mem_or_eq_of_mem_set hy with h5 | h5
    · exact h.le y h5
    · rw [h5]
      exact hx
/-- Real time is another one. -/
theorem CkAt.go (h : CkAt RT w base D S l real) {g c x : Nat} (hb : w.heap[D]? = some (.cells #[.slice (some ⟨g, 0, none⟩) l.length c, .int .i64 (real : Int)] RT (0, 0))) (hx : x ≤ 1099511627776) : CkAt RT (w.setCell ⟨D, 1, none⟩ (.int .i64 (x : Int))) base D S l x ∧ Kept w (w.setCell ⟨D, 1, none⟩ (.int .i64 (x : Int))) S S ∧ (w.setCell ⟨D, 1, none⟩ (.int .i64 (x : Int))).heap[D]? = some (.cells #[.slice (some ⟨g, 0, none⟩) l.length c, .int .i64 (x : Int)] RT (0, 0)) := by
  obtain ⟨g', c', h1, h2, h3, h4⟩ := h.ex
  rw [ckC_R] at h1
  have h5 : (w.setCell ⟨D, 1, none⟩ (.int .i64 (x : Int))).heap[D]? = some (.cells #[.slice (some ⟨g, 0, none⟩) l.length c, .int .i64 (x : Int)] RT (0, 0)) := by
    rw [heap_setCell_same w D 1 _ _ _ hb]
    rfl
  rw [hb] at h1
  simp only [Option.some.injEq, Obj.cells.injEq, Array.mk.injEq, List.cons.injEq, Value.slice.injEq, Addr.mk.injEq, and_true, true_and] at h1
  obtain ⟨rfl, rfl⟩ := h1
  have ho : ∀ q, q ≠ D → (w.setCell ⟨D, 1, none⟩ (.int .i64 (x : Int))).heap[q]? = w.heap[q]? := fun q hq => heap_setCell_other _ _ _ _ (by simpa using hq)
  exact ⟨⟨⟨g, c, h5, own_keep h2 (fun q e => by simp only [Value.ownBlock, Option.some.injEq] at e; subst e; exact ho _ h4), h3, h4⟩, h.sD, fun b hb2 => ⟨(h.bd b hb2).1, by simpa using (h.bd b hb2).2⟩, h.n1, h.n2, h.le, hx⟩, ⟨rfl, rfl, rfl, by simp, fun _ hs => Or.inl hs, fun b _ hs => ho b (fun e => hs (by rw [e]; exact h.sD))⟩, h5⟩
/-- What a walk needs of clocks. -/
theorem CkAt.cells (h : CkAt RT w base D S l real) : ∃ g c, w.heap[D]? = some (.cells #[.slice (some ⟨g, 0, none⟩) l.length c, .int .i64 (real : Int)] RT (0, 0)) ∧ w.cell? ⟨D, 0, none⟩ = some (.slice (some ⟨g, 0, none⟩) l.length c) ∧ w.cell? ⟨D, 1, none⟩ = some (.int .i64 (real : Int)) ∧ w.frozen? ⟨D, 1, none⟩ = false ∧ S g ∧ g < w.heap.size ∧ (∀ n (hn : n < l.length), w.cell? ⟨g, n, none⟩ = some (.int .i64 (l[n] : Int))) ∧ (∀ n, w.frozen? ⟨g, n, none⟩ = false) ∧ g ≠ D := by
  obtain ⟨g, c, h1, h2, h3, h4⟩ := h.ex
  rw [ckC_R] at h1
  refine ⟨g, c, h1, by simp [World.cell?, h1], by simp [World.cell?, h1], by simp [World.frozen?, h1], h3, (h2.lt g rfl).2, fun n hn => ?_, fun n => h2.frozenAt n, h4⟩
  have := World.ownsRow.cellAt h2 n (by omega)
  rw [this]
  unfold natL
  rw [List.getElem?_map, List.getElem?_eq_getElem hn]
  rfl
/-- A number of the row is another one. -/
theorem CkAt.putP (h : CkAt PT w base D S l real) {g c n x : Nat} (hb : w.heap[D]? = some (.cells #[.int .i64 (real : Int), .slice (some ⟨g, 0, none⟩) l.length c] PT (0, 0))) (hx : x ≤ 1099511627776) : CkAt PT (w.setCell ⟨g, n, none⟩ (.int .i64 (x : Int))) base D S (l.set n x) real ∧ Kept w (w.setCell ⟨g, n, none⟩ (.int .i64 (x : Int))) S S := by
  obtain ⟨g', c', h1, h2, h3, h4⟩ := h.ex
  rw [ckC_P] at h1
  rw [hb] at h1
  simp only [Option.some.injEq, Obj.cells.injEq, Array.mk.injEq, List.cons.injEq, Value.slice.injEq, Addr.mk.injEq, and_true, true_and] at h1
  obtain ⟨rfl, rfl⟩ := h1
  have hst := h2.stored n (.int .i64 (x : Int))
  have e : (natL l).set n (.int .i64 (x : Int)) = natL (l.set n x) := by unfold natL; rw [List.map_set]
  rw [e] at hst
  refine ⟨⟨⟨g, c, ?_, ?_, h3, h4⟩, h.sD, fun b hb2 => ⟨(h.bd b hb2).1, by simpa using (h.bd b hb2).2⟩, by rw [List.length_set]; exact h.n1, by rw [List.length_set]; exact h.n2, fun y hy => ?_, h.rl⟩, ⟨hst.2.os, hst.2.tape, hst.2.output, hst.2.size, fun _ hs => Or.inl hs, fun b hb2 hs => hst.2.block b hb2 (fun e => hs (by have := Option.some.inj e; subst this; exact h3))⟩⟩
  · rw [heap_setCell_other _ _ _ _ (by
      show D ≠ g
      exact Ne.symm h4), List.length_set]
    exact hb
  · rw [List.length_set]
    exact hst.1
  · rcases List.mem_or_eq_of_mem_set hy with h5 | h5
    · exact h.le y h5
    · rw [h5]
      exact hx
/-- Real time is another one. -/
theorem CkAt.goP (h : CkAt PT w base D S l real) {g c x : Nat} (hb : w.heap[D]? = some (.cells #[.int .i64 (real : Int), .slice (some ⟨g, 0, none⟩) l.length c] PT (0, 0))) (hx : x ≤ 1099511627776) : CkAt PT (w.setCell ⟨D, 0, none⟩ (.int .i64 (x : Int))) base D S l x ∧ Kept w (w.setCell ⟨D, 0, none⟩ (.int .i64 (x : Int))) S S ∧ (w.setCell ⟨D, 0, none⟩ (.int .i64 (x : Int))).heap[D]? = some (.cells #[.int .i64 (x : Int), .slice (some ⟨g, 0, none⟩) l.length c] PT (0, 0)) := by
  obtain ⟨g', c', h1, h2, h3, h4⟩ := h.ex
  rw [ckC_P] at h1
  have h5 : (w.setCell ⟨D, 0, none⟩ (.int .i64 (x : Int))).heap[D]? = some (.cells #[.int .i64 (x : Int), .slice (some ⟨g, 0, none⟩) l.length c] PT (0, 0)) := by
    rw [heap_setCell_same w D 0 _ _ _ hb]
    rfl
  rw [hb] at h1
  simp only [Option.some.injEq, Obj.cells.injEq, Array.mk.injEq, List.cons.injEq, Value.slice.injEq, Addr.mk.injEq, and_true, true_and] at h1
  obtain ⟨rfl, rfl⟩ := h1
  have ho : ∀ q, q ≠ D → (w.setCell ⟨D, 0, none⟩ (.int .i64 (x : Int))).heap[q]? = w.heap[q]? := fun q hq => heap_setCell_other _ _ _ _ (by simpa using hq)
  exact ⟨⟨⟨g, c, h5, own_keep h2 (fun q e => by simp only [Value.ownBlock, Option.some.injEq] at e; subst e; exact ho _ h4), h3, h4⟩, h.sD, fun b hb2 => ⟨(h.bd b hb2).1, by simpa using (h.bd b hb2).2⟩, h.n1, h.n2, h.le, hx⟩, ⟨rfl, rfl, rfl, by simp, fun _ hs => Or.inl hs, fun b _ hs => ho b (fun e => hs (by rw [e]; exact h.sD))⟩, h5⟩
/-- What a walk needs of clocks. -/
theorem CkAt.cellsP (h : CkAt PT w base D S l real) : ∃ g c, w.heap[D]? = some (.cells #[.int .i64 (real : Int), .slice (some ⟨g, 0, none⟩) l.length c] PT (0, 0)) ∧ w.cell? ⟨D, 1, none⟩ = some (.slice (some ⟨g, 0, none⟩) l.length c) ∧ w.cell? ⟨D, 0, none⟩ = some (.int .i64 (real : Int)) ∧ w.frozen? ⟨D, 0, none⟩ = false ∧ S g ∧ g < w.heap.size ∧ (∀ n (hn : n < l.length), w.cell? ⟨g, n, none⟩ = some (.int .i64 (l[n] : Int))) ∧ (∀ n, w.frozen? ⟨g, n, none⟩ = false) ∧ g ≠ D := by
  obtain ⟨g, c, h1, h2, h3, h4⟩ := h.ex
  rw [ckC_P] at h1
  refine ⟨g, c, h1, by simp [World.cell?, h1], by simp [World.cell?, h1], by simp [World.frozen?, h1], h3, (h2.lt g rfl).2, fun n hn => ?_, fun n => h2.frozenAt n, h4⟩
  have := World.ownsRow.cellAt h2 n (by omega)
  rw [this]
  unfold natL
  rw [List.getElem?_map, List.getElem?_eq_getElem hn]
  rfl
end
theorem infoI : (Try.prog.info? 3).map (fun i => (i.zero, i.size, i.bytes)) = some (some (.int .i64 0), 1, 8) := by kernel_rfl
/-- So many noughts. -/
def zi (w : World) (n : Nat) : World := w.alloc (.cells (madeCells #[.int .i64 0] n) 3)
theorem make_ints (n : Nat) (z : Int) (hz : (n : Int) = z) (hn : n ≤ 13) (w : World) : (Instr.makeSlice 27 (.int .i64 z) (.int .i64 z)).run Try.prog w = .ok (.slice (some ⟨w.heap.size, 0, none⟩) n n) (zi w n) := by
  obtain ⟨i0, hi, hz0, hz1, hz2⟩ := info_parts infoI
  subst hz
  have h := run_make (P := Try.prog) w 27 3 i0 (.int .i64 0) Try.underlying27 hi hz0 .i64 .i64 (n : Int) (n : Int) (by omega) (by omega) (by rw [hz2]; omega) (by omega)
  rw [hz1] at h
  simpa [zi, Value.cells] using h
theorem CkAt.new (w : World) (n : Nat) (h1 : 1 ≤ n) (h2 : n ≤ 13) : CkAt RT ((zi w n).alloc (.cells #[.slice (some ⟨w.heap.size, 0, none⟩) n n, .int .i64 0] RT)) w.heap.size (w.heap.size + 1) (fun b => b = w.heap.size ∨ b = w.heap.size + 1) (List.replicate n 0) 0 := by
  have e1 : (zi w n).heap.size = w.heap.size + 1 := by unfold zi; simp
  have e2 : (zi w n).heap[w.heap.size]? = some (.cells (madeCells #[.int .i64 0] n) 3 (0, 0)) := heap_alloc_new w _
  refine ⟨⟨w.heap.size, n, ?_, ?_, Or.inl rfl, by omega⟩, Or.inr rfl, fun b hb => ?_, by simpa using h1, by simpa using h2, fun x hx => ?_, by omega⟩
  · have h3 := heap_alloc_new (zi w n) (.cells #[.slice (some ⟨w.heap.size, 0, none⟩) n n, .int .i64 0] RT)
    rw [e1] at h3
    rw [List.length_replicate]
    rw [ckC_R]
    exact h3
  · rw [List.length_replicate]
    refine ⟨by rw [natL_length]; simp, Or.inr ⟨w.heap.size, n, madeCells #[.int .i64 0] n, rfl, Nat.le_refl _, ?_, Nat.le_refl _, by unfold maxLen; omega, by simp [size_madeCells], ?_⟩⟩
    · rw [heap_alloc_old _ _ (by omega)]
      exact e2
    · rw [toList_madeCells_one]
      unfold natL
      simp
  · rcases hb with rfl | rfl
    · exact ⟨Nat.le_refl _, by simp [zi]; omega⟩
    · exact ⟨by omega, by simp [zi]⟩
  · rw [List.mem_replicate] at hx
    omega
theorem CkAt.newP (w : World) (n : Nat) (h1 : 1 ≤ n) (h2 : n ≤ 13) : CkAt PT ((zi w n).alloc (.cells #[.int .i64 0, .slice (some ⟨w.heap.size, 0, none⟩) n n] PT)) w.heap.size (w.heap.size + 1) (fun b => b = w.heap.size ∨ b = w.heap.size + 1) (List.replicate n 0) 0 := by
  have e1 : (zi w n).heap.size = w.heap.size + 1 := by unfold zi; simp
  have e2 : (zi w n).heap[w.heap.size]? = some (.cells (madeCells #[.int .i64 0] n) 3 (0, 0)) := heap_alloc_new w _
  refine ⟨⟨w.heap.size, n, ?_, ?_, Or.inl rfl, by omega⟩, Or.inr rfl, fun b hb => ?_, by simpa using h1, by simpa using h2, fun x hx => ?_, by omega⟩
  · have h3 := heap_alloc_new (zi w n) (.cells #[.int .i64 0, .slice (some ⟨w.heap.size, 0, none⟩) n n] PT)
    rw [e1] at h3
    rw [List.length_replicate]
    rw [ckC_P]
    exact h3
  · rw [List.length_replicate]
    refine ⟨by rw [natL_length]; simp, Or.inr ⟨w.heap.size, n, madeCells #[.int .i64 0] n, rfl, Nat.le_refl _, ?_, Nat.le_refl _, by unfold maxLen; omega, by simp [size_madeCells], ?_⟩⟩
    · rw [heap_alloc_old _ _ (by omega)]
      exact e2
    · rw [toList_madeCells_one]
      unfold natL
      simp
  · rcases hb with rfl | rfl
    · exact ⟨Nat.le_refl _, by simp [zi]; omega⟩
    · exact ⟨by omega, by simp [zi]⟩
  · rw [List.mem_replicate] at hx
    omega
theorem rnew_no (n : Int) (hn : n < 1 ∨ 13 < n) (w : World) : Calls Try.prog 9 #[.int .i64 n] w fun e w' => e = .returned (.pointer none) ∧ w = w' := by
  by_cases h1 : n < 1
  · have q1 : decide (n < 1) = true := decide_eq_true h1
    go_enter Try.func9, Try.ntmps9
    go_wp2
    go_ret
    exact ⟨rfl, rfl⟩
  · have h2 : 13 < n := by omega
    have q1 : decide (n < 1) = false := decide_eq_false h1
    have q2 : decide (13 < n) = true := decide_eq_true h2
    go_enter Try.func9, Try.ntmps9
    go_wp2
    go_ret
    exact ⟨rfl, rfl⟩
theorem rnew_yes (n : Nat) (h1 : 1 ≤ n) (h2 : n ≤ 13) (w : World) : Calls Try.prog 9 #[.int .i64 (n : Int)] w fun e w' => e = .returned (.pointer (some ⟨w.heap.size + 1, 0, none⟩)) ∧ w' = (zi w n).alloc (.cells #[.slice (some ⟨w.heap.size, 0, none⟩) n n, .int .i64 0] RT) := by
  have q1 : decide ((n : Int) < 1) = false := decide_eq_false (by omega)
  have q2 : decide ((13 : Int) < (n : Int)) = false := decide_eq_false (by omega)
  have hmk := make_ints n (n : Int) rfl h2
  have e1 : (zi w n).heap.size = w.heap.size + 1 := by unfold zi; simp
  go_enter Try.func9, Try.ntmps9
  go_wp2
  go_ret
  exact ⟨rfl, rfl⟩
/-- A clock; 0 for one that is not there. -/
def atI (l : List Nat) (n : Int) : Int := if 0 ≤ n ∧ n < (l.length : Int) then ((l.getD n.toNat 0 : Nat) : Int) else 0
theorem rat_any {w : World} {base D : Nat} {S : Nat → Prop} {l : List Nat} {real : Nat} (h : CkAt RT w base D S l real) (n : Int) : Calls Try.prog 15 #[.pointer (some ⟨D, 0, none⟩), .int .i64 n] w fun e w' => e = .returned (.int .i64 (atI l n)) ∧ w = w' := by
  obtain ⟨g, c, _, c0, _, _, _, _, hc, _, _⟩ := h.cells
  have hn2 := h.n2
  clear h
  by_cases h1 : n < 0
  · have q1 : decide (n < 0) = true := decide_eq_true h1
    have e : atI l n = 0 := by unfold atI; rw [if_neg (by omega)]
    rw [e]
    go_enter Try.func15, Try.ntmps15
    go_wp2
    go_ret
    exact ⟨rfl, rfl⟩
  · have q1 : decide (n < 0) = false := decide_eq_false h1
    by_cases h2 : (l.length : Int) ≤ n
    · have q2 : decide ((l.length : Int) ≤ n) = true := decide_eq_true h2
      have e : atI l n = 0 := by unfold atI; rw [if_neg (by omega)]
      rw [e]
      go_enter Try.func15, Try.ntmps15
      go_wp2
      go_ret
      exact ⟨rfl, rfl⟩
    · have q2 : decide ((l.length : Int) ≤ n) = false := decide_eq_false h2
      obtain ⟨m, rfl⟩ : ∃ m : Nat, n = (m : Int) := ⟨n.toNat, by omega⟩
      have hm : m < l.length := by omega
      have e : atI l (m : Int) = (l[m] : Int) := by
        unfold atI
        rw [if_pos (by omega)]
        simp [List.getD, hm]
      have z := hc m hm
      rw [e]
      generalize l[m] = x at *
      clear hc e
      go_enter Try.func15, Try.ntmps15
      go_wp2
      go_ret
      exact ⟨rfl, rfl⟩
/-- Whether a clock may be set. -/
def setOk (l : List Nat) (n x : Int) : Prop := 0 ≤ n ∧ n < (l.length : Int) ∧ 0 ≤ x ∧ x ≤ 1099511627776
instance (l : List Nat) (n x : Int) : Decidable (setOk l n x) := by unfold setOk; infer_instance
theorem rset_no {w : World} {base D : Nat} {S : Nat → Prop} {l : List Nat} {real : Nat} (h : CkAt RT w base D S l real) (n x : Int) (hs : ¬ setOk l n x) : Calls Try.prog 11 #[.pointer (some ⟨D, 0, none⟩), .int .i64 n, .int .i64 x] w fun e w' => e = .returned (.int .i64 1) ∧ w = w' := by
  obtain ⟨g, c, _, c0, _, _, _, _, hc, _, _⟩ := h.cells
  have hn2 := h.n2
  unfold setOk at hs
  clear h hc
  by_cases h1 : n < 0
  · have q1 : decide (n < 0) = true := decide_eq_true h1
    clear hs
    go_enter Try.func11, Try.ntmps11
    go_wp2
    go_ret
    exact ⟨rfl, rfl⟩
  have q1 : decide (n < 0) = false := decide_eq_false h1
  by_cases h2 : (l.length : Int) ≤ n
  · have q2 : decide ((l.length : Int) ≤ n) = true := decide_eq_true h2
    clear hs
    go_enter Try.func11, Try.ntmps11
    go_wp2
    go_ret
    exact ⟨rfl, rfl⟩
  have q2 : decide ((l.length : Int) ≤ n) = false := decide_eq_false h2
  by_cases h3 : x < 0
  · have q3 : decide (x < 0) = true := decide_eq_true h3
    clear hs
    go_enter Try.func11, Try.ntmps11
    go_wp2
    go_ret
    exact ⟨rfl, rfl⟩
  have q3 : decide (x < 0) = false := decide_eq_false h3
  have h4 : 1099511627776 < x := by omega
  have q4 : decide (1099511627776 < x) = true := decide_eq_true h4
  clear hs
  go_enter Try.func11, Try.ntmps11
  go_wp2
  go_ret
  exact ⟨rfl, rfl⟩
theorem rset_yes {w : World} {base D : Nat} {S : Nat → Prop} {l : List Nat} {real : Nat} (h : CkAt RT w base D S l real) (n x : Nat) (hn : n < l.length) (hx : x ≤ 1099511627776) : Calls Try.prog 11 #[.pointer (some ⟨D, 0, none⟩), .int .i64 (n : Int), .int .i64 (x : Int)] w fun e w' => e = .returned (.int .i64 0) ∧ CkAt RT w' base D S (l.set n x) real ∧ Kept w w' S S := by
  obtain ⟨g, c, hb, c0, _, _, _, _, hc, hf, _⟩ := h.cells
  have hn2 := h.n2
  have HP : Hid _ := h.put (n := n) hb hx
  have z := hc n hn
  have fz := hf n
  have q1 : decide ((n : Int) < 0) = false := decide_eq_false (by omega)
  have q2 : decide ((l.length : Int) ≤ (n : Int)) = false := decide_eq_false (by omega)
  have q3 : decide ((x : Int) < 0) = false := decide_eq_false (by omega)
  have q4 : decide ((1099511627776 : Int) < (x : Int)) = false := decide_eq_false (by omega)
  clear h hb hc hf
  generalize l[n] = y at z
  go_enter Try.func11, Try.ntmps11
  go_wp2
  go_ret
  exact ⟨rfl, HP.out.1, HP.out.2⟩
end Go.Proofs.Ytcecgphjaofgbaa
