/-
  Bytes as a record (package latchkeyref11): an entry. The condition: the text is no longer than a text may be.
-/
import Derived.Test.YtdhlbldmdeepiaaGreatDoorRWlDecP
namespace Go.Proofs.YtdhlbldmdeepiaaGreatDoor
open Go.RowKit

theorem storeCells_from (g i0 : Nat) : ∀ (vs : List Value) (i : Nat), storeCells ⟨g, i0, none⟩ vs i = storeCells ⟨g, 0, none⟩ vs (i0 + i)
  | [], _ => by simp only [storeCells]
  | v :: vs, i => by
    have e : (⟨g, i0, none⟩ : Addr).add i = (⟨g, 0, none⟩ : Addr).add (i0 + i) := by
      unfold Addr.add
      by_cases h : i = 0
      · subst h
        by_cases h2 : i0 = 0
        · subst h2; simp
        · simp [h2]
      · simp [h]
    simp only [storeCells, e, storeCells_from g i0 vs (i + 1), Nat.add_assoc]
section
variable {P : Program} {ops : Array Oper} {rest : List Oper} {o : Oper} {a : Act} {w : World} {Q : Exit → Act → World → Prop}
/-- A store of a struct that is the end of a block. -/
theorem store_tail_g (hw : Region.wanted o (yielded ops a.tmps) = true) (ty : TypeId) (x y : Operand) (ho : o.op = .store ty x y)
    (g i0 : Nat) (cells : Array Value) (hx : a.eval x = .pointer (some ⟨g, i0, none⟩)) (hy : a.eval y = .agg cells)
    (t : TypeId) (old : Array Value) (hg : w.heap[g]? = some (.cells old t (0, 0))) (hi : (P.info? ty).map (·.size) = some cells.size)
    (hold : old.size = i0 + cells.size) (h1 : cells.all (·.oneCell') = true)
    (h : ∀ w', w'.heap[g]? = some (.cells (old.toList.take i0 ++ cells.toList).toArray t (0, 0)) → w.grownBy w' (some g) → wpList P ops Q rest (a.put o.dst undef) w') : wpList P ops Q (o :: rest) a w :=
  BigFrame.wpList_want hw fun _ hK => by
    have hr := run_storeCells_from (P := P) g t cells.toList i0 old w hg (by simp; omega) (fun v hv => (Array.all_eq_true_iff_forall_mem.1 h1) v (by simpa using hv))
    have hs : (storeVar ty ⟨g, i0, none⟩ (.agg cells)).run P w = .ok () (w.setRow g (old.toList.take i0 ++ cells.toList).toArray) := by
      cases hq : P.info? ty with
      | none => simp [hq] at hi
      | some i =>
        have hz : cells.size = i.size := by simp [hq] at hi; omega
        have e := storeCells_from g i0 cells.toList 0
        rw [Nat.add_zero] at e
        simp [storeVar, sizeOf, typeInfo, hq, Value.cells, hz, e]
        exact hr
    unfold Oper.wp execOp
    simp only [ho, hx, hy, Instr.storeAt, Instr.sureAddr, Sem.run_bind, Sem.run_pure, Result.andThen_ok, hs]
    exact hK _ _ (h _ (setRow_heap w g old _ t _ hg) (grown_setRow_g w g _))
end
theorem infoE7 : (Tryz.prog.info? 25).map (·.size) = some 7 := by kernel_rfl
set_option maxHeartbeats 3200000 in
set_option maxRecDepth 100000 in
theorem rdec_b1 (s : ByteArray) (w : World) (A B k S Q n z : Int) (T : ByteArray) (q : ∀ w, Calls Tryz.prog 36 #[.string (s.extract 1 s.size)] w fun e w' => e = .returned (.tuple #[.agg #[.int .i64 A, .int .i64 B, .int .i64 k, .int .i64 S, .int .i64 Q, .string T, .int .i64 n], .int .i64 z]) ∧ Below w.heap.size w w')
    (k0 : 0 < s.size) (h2 : s[0].toNat = 2) (hm : mayR ⟨2, 0, ⟨A, B, ⟨k, S, Q, T, n⟩⟩⟩ = false) :
    Calls Tryz.prog 11 #[.string s] w fun e w' => e = .returned (.tuple #[.agg (rz), .int .i64 2]) ∧ Below w.heap.size w w' := by
  obtain ⟨d0, e0⟩ : ∃ d, s[0].toNat = d := ⟨_, rfl⟩
  rw [e0] at h2
  have kx : (1 : Int) ≤ (s.size : Int) := by omega
  have f0_1 : ((d0 : Int) == 1) = false := by simpa using (by omega : ¬ (d0 : Int) = 1)
  have f0_2 : ((d0 : Int) == 2) = true := by simpa using (by omega : (d0 : Int) = 2)
  have qe := rencR_any 2 0 A B k S Q n T
  rw [encRT_no hm] at qe
  clear hm
  by_cases h9s : s.size = 9
  · have f9 : ((s.size : Int) == 9) = true := by simpa using (by omega : (s.size : Int) = 9)
    clear h9s
    go_enter Tryz.func11, Tryz.ntmps11
    go_wp2_with (first
      | (show wpList _ _ _ (⟨_, Op.store 27 _ _, _, _, _, _⟩ :: _) _ _; have y0 := hR3; refine store_row_g rfl 27 _ _ rfl w.heap.size (rz) rfl rfl 27 rz hR3.out infoR9 rfl (by simp [Value.oneCell']) ?_; intro w9 h9 g9)
      | (show wpList _ _ _ (⟨_, Op.load 27 _, _, _, _, _⟩ :: _) _ _; have y0 := hV3; refine load_row_g rfl 27 _ rfl (w.heap.size + 1) rfl 27 _ (0, 0) _ hV3.out Tryz.underlying27 rfl infoR9 ?_)
      | (go_at_call 9; refine (qe _).mono ?_; rintro e w3 ⟨rfl, b3⟩; have hR3 : Hid (w3.heap[w.heap.size]? = some (.cells rz 27 (0, 0))) := (b3.block w.heap.size (lt_of_block hR4.out)).trans hR4.out; have hV3 : Hid (w3.heap[w.heap.size + 1]? = some (.cells (rcA 2 0 A B k S Q n T) 27 (0, 0))) := (b3.block (w.heap.size + 1) (lt_of_block hV4.out)).trans hV4.out)
      | (show wpList _ _ _ (⟨_, Op.load 27 _, _, _, _, _⟩ :: _) _ _; have y0 := hV4; refine load_row_g rfl 27 _ rfl (w.heap.size + 1) rfl 27 _ (0, 0) _ hV4.out Tryz.underlying27 rfl infoR9 ?_)
      | (show wpList _ _ _ (⟨_, Op.store 25 _ _, _, _, _, _⟩ :: _) _ _; have y0 := hV2; refine store_tail_g rfl 25 _ _ rfl (w.heap.size + 1) 2 #[.int .i64 A, .int .i64 B, .int .i64 k, .int .i64 S, .int .i64 Q, .string T, .int .i64 n] rfl rfl 27 (rcA 2 0 0 0 0 0 0 0 ⟨#[]⟩) hV2.out infoE7 rfl (by simp [Value.oneCell']) ?_; intro w4 hV4 g4; have hV4 : Hid (w4.heap[w.heap.size + 1]? = some (.cells (rcA 2 0 A B k S Q n T) 27 (0, 0))) := hV4; have hR4 : Hid (w4.heap[w.heap.size]? = some (.cells rz 27 (0, 0))) := (g4.block w.heap.size (lt_of_block hR2.out) (fun e => by have := Option.some.inj e; omega)).trans hR2.out)
      | (go_at_call 36; refine (q _).mono ?_; rintro e w2 ⟨rfl, b2⟩; have hR2 : Hid (w2.heap[w.heap.size]? = some (.cells rz 27 (0, 0))) := (b2.block w.heap.size (by simp; omega)).trans (two_new w (.cells rz 27) (.cells (rcA 2 0 0 0 0 0 0 0 ⟨#[]⟩) 27)).1; have hV2 : Hid (w2.heap[w.heap.size + 1]? = some (.cells (rcA 2 0 0 0 0 0 0 0 ⟨#[]⟩) 27 (0, 0))) := (b2.block (w.heap.size + 1) (by simp)).trans (two_new w (.cells rz 27) (.cells (rcA 2 0 0 0 0 0 0 0 ⟨#[]⟩) 27)).2))
    refine bodyPost_ret (results_rec Tryz.results11 _ _ rfl h9) rfl ?_
    have f0 : Below w.heap.size w ((w.alloc (.cells rz 27)).alloc (.cells (rcA 2 0 0 0 0 0 0 0 ⟨#[]⟩) 27)) := ((Below.refl _ w).alloc (Nat.le_refl _) _).alloc (by simp) _
    have f1 := bmm f0 f0.size b2
    have f2 := f1.grown g4 f1.size (fun k hk => by have := Option.some.inj hk; omega)
    exact ⟨rfl, low_set (bmm f2 f2.size b3) (Nat.le_refl _) g9⟩
  · have f9 : ((s.size : Int) == 9) = false := by simpa using (by omega : ¬ (s.size : Int) = 9)
    clear h9s
    go_enter Tryz.func11, Tryz.ntmps11
    go_wp2_with (first
      | (show wpList _ _ _ (⟨_, Op.store 27 _ _, _, _, _, _⟩ :: _) _ _; have y0 := hR3; refine store_row_g rfl 27 _ _ rfl w.heap.size (rz) rfl rfl 27 rz hR3.out infoR9 rfl (by simp [Value.oneCell']) ?_; intro w9 h9 g9)
      | (show wpList _ _ _ (⟨_, Op.load 27 _, _, _, _, _⟩ :: _) _ _; have y0 := hV3; refine load_row_g rfl 27 _ rfl (w.heap.size + 1) rfl 27 _ (0, 0) _ hV3.out Tryz.underlying27 rfl infoR9 ?_)
      | (go_at_call 9; refine (qe _).mono ?_; rintro e w3 ⟨rfl, b3⟩; have hR3 : Hid (w3.heap[w.heap.size]? = some (.cells rz 27 (0, 0))) := (b3.block w.heap.size (lt_of_block hR4.out)).trans hR4.out; have hV3 : Hid (w3.heap[w.heap.size + 1]? = some (.cells (rcA 2 0 A B k S Q n T) 27 (0, 0))) := (b3.block (w.heap.size + 1) (lt_of_block hV4.out)).trans hV4.out)
      | (show wpList _ _ _ (⟨_, Op.load 27 _, _, _, _, _⟩ :: _) _ _; have y0 := hV4; refine load_row_g rfl 27 _ rfl (w.heap.size + 1) rfl 27 _ (0, 0) _ hV4.out Tryz.underlying27 rfl infoR9 ?_)
      | (show wpList _ _ _ (⟨_, Op.store 25 _ _, _, _, _, _⟩ :: _) _ _; have y0 := hV2; refine store_tail_g rfl 25 _ _ rfl (w.heap.size + 1) 2 #[.int .i64 A, .int .i64 B, .int .i64 k, .int .i64 S, .int .i64 Q, .string T, .int .i64 n] rfl rfl 27 (rcA 2 0 0 0 0 0 0 0 ⟨#[]⟩) hV2.out infoE7 rfl (by simp [Value.oneCell']) ?_; intro w4 hV4 g4; have hV4 : Hid (w4.heap[w.heap.size + 1]? = some (.cells (rcA 2 0 A B k S Q n T) 27 (0, 0))) := hV4; have hR4 : Hid (w4.heap[w.heap.size]? = some (.cells rz 27 (0, 0))) := (g4.block w.heap.size (lt_of_block hR2.out) (fun e => by have := Option.some.inj e; omega)).trans hR2.out)
      | (go_at_call 36; refine (q _).mono ?_; rintro e w2 ⟨rfl, b2⟩; have hR2 : Hid (w2.heap[w.heap.size]? = some (.cells rz 27 (0, 0))) := (b2.block w.heap.size (by simp; omega)).trans (two_new w (.cells rz 27) (.cells (rcA 2 0 0 0 0 0 0 0 ⟨#[]⟩) 27)).1; have hV2 : Hid (w2.heap[w.heap.size + 1]? = some (.cells (rcA 2 0 0 0 0 0 0 0 ⟨#[]⟩) 27 (0, 0))) := (b2.block (w.heap.size + 1) (by simp)).trans (two_new w (.cells rz 27) (.cells (rcA 2 0 0 0 0 0 0 0 ⟨#[]⟩) 27)).2))
    refine bodyPost_ret (results_rec Tryz.results11 _ _ rfl h9) rfl ?_
    have f0 : Below w.heap.size w ((w.alloc (.cells rz 27)).alloc (.cells (rcA 2 0 0 0 0 0 0 0 ⟨#[]⟩) 27)) := ((Below.refl _ w).alloc (Nat.le_refl _) _).alloc (by simp) _
    have f1 := bmm f0 f0.size b2
    have f2 := f1.grown g4 f1.size (fun k hk => by have := Option.some.inj hk; omega)
    exact ⟨rfl, low_set (bmm f2 f2.size b3) (Nat.le_refl _) g9⟩
set_option maxHeartbeats 3200000 in
set_option maxRecDepth 100000 in
theorem rdec_b2 (s : ByteArray) (w : World) (A B k S Q n z : Int) (T : ByteArray) (q : ∀ w, Calls Tryz.prog 36 #[.string (s.extract 1 s.size)] w fun e w' => e = .returned (.tuple #[.agg #[.int .i64 A, .int .i64 B, .int .i64 k, .int .i64 S, .int .i64 Q, .string T, .int .i64 n], .int .i64 z]) ∧ Below w.heap.size w w')
    (k0 : 0 < s.size) (h2 : s[0].toNat = 2) (hm : mayR ⟨2, 0, ⟨A, B, ⟨k, S, Q, T, n⟩⟩⟩ = true) (he : (⟨(encR ⟨2, 0, ⟨A, B, ⟨k, S, Q, T, n⟩⟩⟩).toArray⟩ : ByteArray) = s) :
    Calls Tryz.prog 11 #[.string s] w fun e w' => e = .returned (.tuple #[.agg (rcA 2 0 A B k S Q n T), .int .i64 0]) ∧ Below w.heap.size w w' := by
  obtain ⟨d0, e0⟩ : ∃ d, s[0].toNat = d := ⟨_, rfl⟩
  rw [e0] at h2
  have kx : (1 : Int) ≤ (s.size : Int) := by omega
  have f0_1 : ((d0 : Int) == 1) = false := by simpa using (by omega : ¬ (d0 : Int) = 1)
  have f0_2 : ((d0 : Int) == 2) = true := by simpa using (by omega : (d0 : Int) = 2)
  have qe := rencR_any 2 0 A B k S Q n T
  rw [encRT_yes hm, he] at qe
  clear hm he
  by_cases h9s : s.size = 9
  · have f9 : ((s.size : Int) == 9) = true := by simpa using (by omega : (s.size : Int) = 9)
    clear h9s
    go_enter Tryz.func11, Tryz.ntmps11
    go_wp2_with (first
      | (show wpList _ _ _ (⟨_, Op.store 27 _ _, _, _, _, _⟩ :: _) _ _; have y0 := hR3; refine store_row_g rfl 27 _ _ rfl w.heap.size (rcA 2 0 A B k S Q n T) rfl rfl 27 rz hR3.out infoR9 rfl (by simp [Value.oneCell']) ?_; intro w9 h9 g9)
      | (show wpList _ _ _ (⟨_, Op.load 27 _, _, _, _, _⟩ :: _) _ _; have y0 := hV3; refine load_row_g rfl 27 _ rfl (w.heap.size + 1) rfl 27 _ (0, 0) _ hV3.out Tryz.underlying27 rfl infoR9 ?_)
      | (go_at_call 9; refine (qe _).mono ?_; rintro e w3 ⟨rfl, b3⟩; have hR3 : Hid (w3.heap[w.heap.size]? = some (.cells rz 27 (0, 0))) := (b3.block w.heap.size (lt_of_block hR4.out)).trans hR4.out; have hV3 : Hid (w3.heap[w.heap.size + 1]? = some (.cells (rcA 2 0 A B k S Q n T) 27 (0, 0))) := (b3.block (w.heap.size + 1) (lt_of_block hV4.out)).trans hV4.out)
      | (show wpList _ _ _ (⟨_, Op.load 27 _, _, _, _, _⟩ :: _) _ _; have y0 := hV4; refine load_row_g rfl 27 _ rfl (w.heap.size + 1) rfl 27 _ (0, 0) _ hV4.out Tryz.underlying27 rfl infoR9 ?_)
      | (show wpList _ _ _ (⟨_, Op.store 25 _ _, _, _, _, _⟩ :: _) _ _; have y0 := hV2; refine store_tail_g rfl 25 _ _ rfl (w.heap.size + 1) 2 #[.int .i64 A, .int .i64 B, .int .i64 k, .int .i64 S, .int .i64 Q, .string T, .int .i64 n] rfl rfl 27 (rcA 2 0 0 0 0 0 0 0 ⟨#[]⟩) hV2.out infoE7 rfl (by simp [Value.oneCell']) ?_; intro w4 hV4 g4; have hV4 : Hid (w4.heap[w.heap.size + 1]? = some (.cells (rcA 2 0 A B k S Q n T) 27 (0, 0))) := hV4; have hR4 : Hid (w4.heap[w.heap.size]? = some (.cells rz 27 (0, 0))) := (g4.block w.heap.size (lt_of_block hR2.out) (fun e => by have := Option.some.inj e; omega)).trans hR2.out)
      | (go_at_call 36; refine (q _).mono ?_; rintro e w2 ⟨rfl, b2⟩; have hR2 : Hid (w2.heap[w.heap.size]? = some (.cells rz 27 (0, 0))) := (b2.block w.heap.size (by simp; omega)).trans (two_new w (.cells rz 27) (.cells (rcA 2 0 0 0 0 0 0 0 ⟨#[]⟩) 27)).1; have hV2 : Hid (w2.heap[w.heap.size + 1]? = some (.cells (rcA 2 0 0 0 0 0 0 0 ⟨#[]⟩) 27 (0, 0))) := (b2.block (w.heap.size + 1) (by simp)).trans (two_new w (.cells rz 27) (.cells (rcA 2 0 0 0 0 0 0 0 ⟨#[]⟩) 27)).2))
    refine bodyPost_ret (results_rec Tryz.results11 _ _ rfl h9) rfl ?_
    have f0 : Below w.heap.size w ((w.alloc (.cells rz 27)).alloc (.cells (rcA 2 0 0 0 0 0 0 0 ⟨#[]⟩) 27)) := ((Below.refl _ w).alloc (Nat.le_refl _) _).alloc (by simp) _
    have f1 := bmm f0 f0.size b2
    have f2 := f1.grown g4 f1.size (fun k hk => by have := Option.some.inj hk; omega)
    exact ⟨rfl, low_set (bmm f2 f2.size b3) (Nat.le_refl _) g9⟩
  · have f9 : ((s.size : Int) == 9) = false := by simpa using (by omega : ¬ (s.size : Int) = 9)
    clear h9s
    go_enter Tryz.func11, Tryz.ntmps11
    go_wp2_with (first
      | (show wpList _ _ _ (⟨_, Op.store 27 _ _, _, _, _, _⟩ :: _) _ _; have y0 := hR3; refine store_row_g rfl 27 _ _ rfl w.heap.size (rcA 2 0 A B k S Q n T) rfl rfl 27 rz hR3.out infoR9 rfl (by simp [Value.oneCell']) ?_; intro w9 h9 g9)
      | (show wpList _ _ _ (⟨_, Op.load 27 _, _, _, _, _⟩ :: _) _ _; have y0 := hV3; refine load_row_g rfl 27 _ rfl (w.heap.size + 1) rfl 27 _ (0, 0) _ hV3.out Tryz.underlying27 rfl infoR9 ?_)
      | (go_at_call 9; refine (qe _).mono ?_; rintro e w3 ⟨rfl, b3⟩; have hR3 : Hid (w3.heap[w.heap.size]? = some (.cells rz 27 (0, 0))) := (b3.block w.heap.size (lt_of_block hR4.out)).trans hR4.out; have hV3 : Hid (w3.heap[w.heap.size + 1]? = some (.cells (rcA 2 0 A B k S Q n T) 27 (0, 0))) := (b3.block (w.heap.size + 1) (lt_of_block hV4.out)).trans hV4.out)
      | (show wpList _ _ _ (⟨_, Op.load 27 _, _, _, _, _⟩ :: _) _ _; have y0 := hV4; refine load_row_g rfl 27 _ rfl (w.heap.size + 1) rfl 27 _ (0, 0) _ hV4.out Tryz.underlying27 rfl infoR9 ?_)
      | (show wpList _ _ _ (⟨_, Op.store 25 _ _, _, _, _, _⟩ :: _) _ _; have y0 := hV2; refine store_tail_g rfl 25 _ _ rfl (w.heap.size + 1) 2 #[.int .i64 A, .int .i64 B, .int .i64 k, .int .i64 S, .int .i64 Q, .string T, .int .i64 n] rfl rfl 27 (rcA 2 0 0 0 0 0 0 0 ⟨#[]⟩) hV2.out infoE7 rfl (by simp [Value.oneCell']) ?_; intro w4 hV4 g4; have hV4 : Hid (w4.heap[w.heap.size + 1]? = some (.cells (rcA 2 0 A B k S Q n T) 27 (0, 0))) := hV4; have hR4 : Hid (w4.heap[w.heap.size]? = some (.cells rz 27 (0, 0))) := (g4.block w.heap.size (lt_of_block hR2.out) (fun e => by have := Option.some.inj e; omega)).trans hR2.out)
      | (go_at_call 36; refine (q _).mono ?_; rintro e w2 ⟨rfl, b2⟩; have hR2 : Hid (w2.heap[w.heap.size]? = some (.cells rz 27 (0, 0))) := (b2.block w.heap.size (by simp; omega)).trans (two_new w (.cells rz 27) (.cells (rcA 2 0 0 0 0 0 0 0 ⟨#[]⟩) 27)).1; have hV2 : Hid (w2.heap[w.heap.size + 1]? = some (.cells (rcA 2 0 0 0 0 0 0 0 ⟨#[]⟩) 27 (0, 0))) := (b2.block (w.heap.size + 1) (by simp)).trans (two_new w (.cells rz 27) (.cells (rcA 2 0 0 0 0 0 0 0 ⟨#[]⟩) 27)).2))
    refine bodyPost_ret (results_rec Tryz.results11 _ _ rfl h9) rfl ?_
    have f0 : Below w.heap.size w ((w.alloc (.cells rz 27)).alloc (.cells (rcA 2 0 0 0 0 0 0 0 ⟨#[]⟩) 27)) := ((Below.refl _ w).alloc (Nat.le_refl _) _).alloc (by simp) _
    have f1 := bmm f0 f0.size b2
    have f2 := f1.grown g4 f1.size (fun k hk => by have := Option.some.inj hk; omega)
    exact ⟨rfl, low_set (bmm f2 f2.size b3) (Nat.le_refl _) g9⟩
set_option maxHeartbeats 3200000 in
set_option maxRecDepth 100000 in
theorem rdec_b3 (s : ByteArray) (w : World) (A B k S Q n z : Int) (T : ByteArray) (q : ∀ w, Calls Tryz.prog 36 #[.string (s.extract 1 s.size)] w fun e w' => e = .returned (.tuple #[.agg #[.int .i64 A, .int .i64 B, .int .i64 k, .int .i64 S, .int .i64 Q, .string T, .int .i64 n], .int .i64 z]) ∧ Below w.heap.size w w')
    (k0 : 0 < s.size) (h2 : s[0].toNat = 2) (hm : mayR ⟨2, 0, ⟨A, B, ⟨k, S, Q, T, n⟩⟩⟩ = true) (he : (⟨(encR ⟨2, 0, ⟨A, B, ⟨k, S, Q, T, n⟩⟩⟩).toArray⟩ : ByteArray) ≠ s) :
    Calls Tryz.prog 11 #[.string s] w fun e w' => e = .returned (.tuple #[.agg (rz), .int .i64 2]) ∧ Below w.heap.size w w' := by
  obtain ⟨d0, e0⟩ : ∃ d, s[0].toNat = d := ⟨_, rfl⟩
  rw [e0] at h2
  have kx : (1 : Int) ≤ (s.size : Int) := by omega
  have f0_1 : ((d0 : Int) == 1) = false := by simpa using (by omega : ¬ (d0 : Int) = 1)
  have f0_2 : ((d0 : Int) == 2) = true := by simpa using (by omega : (d0 : Int) = 2)
  have qe := rencR_any 2 0 A B k S Q n T
  rw [encRT_yes hm] at qe
  obtain ⟨X, hX⟩ : ∃ X : ByteArray, X = ⟨(encR ⟨2, 0, ⟨A, B, ⟨k, S, Q, T, n⟩⟩⟩).toArray⟩ := ⟨_, rfl⟩
  rw [← hX] at qe he
  have hne : ¬ X.toList = s.toList := fun e => he (by
    apply ByteArray.ext
    apply Array.ext'
    rw [← Lib.toList_data, ← Lib.toList_data, e])
  have hneb : (X.toList == s.toList) = false := beq_eq_false_iff_ne.mpr hne
  have hneb2 : (X.toList != s.toList) = true := by simpa using hne
  clear hm he hX
  by_cases h9s : s.size = 9
  · have f9 : ((s.size : Int) == 9) = true := by simpa using (by omega : (s.size : Int) = 9)
    clear h9s
    go_enter Tryz.func11, Tryz.ntmps11
    go_wp2_with (first
      | (show wpList _ _ _ (⟨_, Op.store 27 _ _, _, _, _, _⟩ :: _) _ _; have y0 := hR3; refine store_row_g rfl 27 _ _ rfl w.heap.size (rz) rfl rfl 27 rz hR3.out infoR9 rfl (by simp [Value.oneCell']) ?_; intro w9 h9 g9)
      | (show wpList _ _ _ (⟨_, Op.load 27 _, _, _, _, _⟩ :: _) _ _; have y0 := hV3; refine load_row_g rfl 27 _ rfl (w.heap.size + 1) rfl 27 _ (0, 0) _ hV3.out Tryz.underlying27 rfl infoR9 ?_)
      | (go_at_call 9; refine (qe _).mono ?_; rintro e w3 ⟨rfl, b3⟩; have hR3 : Hid (w3.heap[w.heap.size]? = some (.cells rz 27 (0, 0))) := (b3.block w.heap.size (lt_of_block hR4.out)).trans hR4.out; have hV3 : Hid (w3.heap[w.heap.size + 1]? = some (.cells (rcA 2 0 A B k S Q n T) 27 (0, 0))) := (b3.block (w.heap.size + 1) (lt_of_block hV4.out)).trans hV4.out)
      | (show wpList _ _ _ (⟨_, Op.load 27 _, _, _, _, _⟩ :: _) _ _; have y0 := hV4; refine load_row_g rfl 27 _ rfl (w.heap.size + 1) rfl 27 _ (0, 0) _ hV4.out Tryz.underlying27 rfl infoR9 ?_)
      | (show wpList _ _ _ (⟨_, Op.store 25 _ _, _, _, _, _⟩ :: _) _ _; have y0 := hV2; refine store_tail_g rfl 25 _ _ rfl (w.heap.size + 1) 2 #[.int .i64 A, .int .i64 B, .int .i64 k, .int .i64 S, .int .i64 Q, .string T, .int .i64 n] rfl rfl 27 (rcA 2 0 0 0 0 0 0 0 ⟨#[]⟩) hV2.out infoE7 rfl (by simp [Value.oneCell']) ?_; intro w4 hV4 g4; have hV4 : Hid (w4.heap[w.heap.size + 1]? = some (.cells (rcA 2 0 A B k S Q n T) 27 (0, 0))) := hV4; have hR4 : Hid (w4.heap[w.heap.size]? = some (.cells rz 27 (0, 0))) := (g4.block w.heap.size (lt_of_block hR2.out) (fun e => by have := Option.some.inj e; omega)).trans hR2.out)
      | (go_at_call 36; refine (q _).mono ?_; rintro e w2 ⟨rfl, b2⟩; have hR2 : Hid (w2.heap[w.heap.size]? = some (.cells rz 27 (0, 0))) := (b2.block w.heap.size (by simp; omega)).trans (two_new w (.cells rz 27) (.cells (rcA 2 0 0 0 0 0 0 0 ⟨#[]⟩) 27)).1; have hV2 : Hid (w2.heap[w.heap.size + 1]? = some (.cells (rcA 2 0 0 0 0 0 0 0 ⟨#[]⟩) 27 (0, 0))) := (b2.block (w.heap.size + 1) (by simp)).trans (two_new w (.cells rz 27) (.cells (rcA 2 0 0 0 0 0 0 0 ⟨#[]⟩) 27)).2))
    refine bodyPost_ret (results_rec Tryz.results11 _ _ rfl h9) rfl ?_
    have f0 : Below w.heap.size w ((w.alloc (.cells rz 27)).alloc (.cells (rcA 2 0 0 0 0 0 0 0 ⟨#[]⟩) 27)) := ((Below.refl _ w).alloc (Nat.le_refl _) _).alloc (by simp) _
    have f1 := bmm f0 f0.size b2
    have f2 := f1.grown g4 f1.size (fun k hk => by have := Option.some.inj hk; omega)
    exact ⟨rfl, low_set (bmm f2 f2.size b3) (Nat.le_refl _) g9⟩
  · have f9 : ((s.size : Int) == 9) = false := by simpa using (by omega : ¬ (s.size : Int) = 9)
    clear h9s
    go_enter Tryz.func11, Tryz.ntmps11
    go_wp2_with (first
      | (show wpList _ _ _ (⟨_, Op.store 27 _ _, _, _, _, _⟩ :: _) _ _; have y0 := hR3; refine store_row_g rfl 27 _ _ rfl w.heap.size (rz) rfl rfl 27 rz hR3.out infoR9 rfl (by simp [Value.oneCell']) ?_; intro w9 h9 g9)
      | (show wpList _ _ _ (⟨_, Op.load 27 _, _, _, _, _⟩ :: _) _ _; have y0 := hV3; refine load_row_g rfl 27 _ rfl (w.heap.size + 1) rfl 27 _ (0, 0) _ hV3.out Tryz.underlying27 rfl infoR9 ?_)
      | (go_at_call 9; refine (qe _).mono ?_; rintro e w3 ⟨rfl, b3⟩; have hR3 : Hid (w3.heap[w.heap.size]? = some (.cells rz 27 (0, 0))) := (b3.block w.heap.size (lt_of_block hR4.out)).trans hR4.out; have hV3 : Hid (w3.heap[w.heap.size + 1]? = some (.cells (rcA 2 0 A B k S Q n T) 27 (0, 0))) := (b3.block (w.heap.size + 1) (lt_of_block hV4.out)).trans hV4.out)
      | (show wpList _ _ _ (⟨_, Op.load 27 _, _, _, _, _⟩ :: _) _ _; have y0 := hV4; refine load_row_g rfl 27 _ rfl (w.heap.size + 1) rfl 27 _ (0, 0) _ hV4.out Tryz.underlying27 rfl infoR9 ?_)
      | (show wpList _ _ _ (⟨_, Op.store 25 _ _, _, _, _, _⟩ :: _) _ _; have y0 := hV2; refine store_tail_g rfl 25 _ _ rfl (w.heap.size + 1) 2 #[.int .i64 A, .int .i64 B, .int .i64 k, .int .i64 S, .int .i64 Q, .string T, .int .i64 n] rfl rfl 27 (rcA 2 0 0 0 0 0 0 0 ⟨#[]⟩) hV2.out infoE7 rfl (by simp [Value.oneCell']) ?_; intro w4 hV4 g4; have hV4 : Hid (w4.heap[w.heap.size + 1]? = some (.cells (rcA 2 0 A B k S Q n T) 27 (0, 0))) := hV4; have hR4 : Hid (w4.heap[w.heap.size]? = some (.cells rz 27 (0, 0))) := (g4.block w.heap.size (lt_of_block hR2.out) (fun e => by have := Option.some.inj e; omega)).trans hR2.out)
      | (go_at_call 36; refine (q _).mono ?_; rintro e w2 ⟨rfl, b2⟩; have hR2 : Hid (w2.heap[w.heap.size]? = some (.cells rz 27 (0, 0))) := (b2.block w.heap.size (by simp; omega)).trans (two_new w (.cells rz 27) (.cells (rcA 2 0 0 0 0 0 0 0 ⟨#[]⟩) 27)).1; have hV2 : Hid (w2.heap[w.heap.size + 1]? = some (.cells (rcA 2 0 0 0 0 0 0 0 ⟨#[]⟩) 27 (0, 0))) := (b2.block (w.heap.size + 1) (by simp)).trans (two_new w (.cells rz 27) (.cells (rcA 2 0 0 0 0 0 0 0 ⟨#[]⟩) 27)).2))
    refine bodyPost_ret (results_rec Tryz.results11 _ _ rfl h9) rfl ?_
    have f0 : Below w.heap.size w ((w.alloc (.cells rz 27)).alloc (.cells (rcA 2 0 0 0 0 0 0 0 ⟨#[]⟩) 27)) := ((Below.refl _ w).alloc (Nat.le_refl _) _).alloc (by simp) _
    have f1 := bmm f0 f0.size b2
    have f2 := f1.grown g4 f1.size (fun k hk => by have := Option.some.inj hk; omega)
    exact ⟨rfl, low_set (bmm f2 f2.size b3) (Nat.le_refl _) g9⟩
end Go.Proofs.YtdhlbldmdeepiaaGreatDoor
