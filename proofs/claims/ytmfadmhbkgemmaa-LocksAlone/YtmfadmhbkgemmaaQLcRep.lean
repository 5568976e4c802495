/-
  Package locks: the answers: reply, refused, behind; the first that waits; a lock made. The condition: a session is an int.
-/
import Derived.Test.YtmfadmhbkgemmaaQLcMeth
import Derived.Test.YtmfadmhbkgemmaaQPackC
namespace Go.Proofs.Ytmfadmhbkgemmaa
open Go.RowKit

theorem lc_two_blks (w : World) (o1 o2 : Obj) : ((w.alloc o1).alloc o2).heap[w.heap.size]? = some o1 ∧ ((w.alloc o1).alloc o2).heap[w.heap.size + 1]? = some o2 ∧ ((w.alloc o1).alloc o2).heap.size = w.heap.size + 2 ∧ Below w.heap.size w ((w.alloc o1).alloc o2) := by
  have s1 : (w.alloc o1).heap.size = w.heap.size + 1 := by simp
  have a1 := heap_alloc_new w o1
  have a2 := heap_alloc_new (w.alloc o1) o2
  rw [s1] at a2
  exact ⟨(Below.heap_alloc _ _ _ (by rw [s1]; omega)).trans a1, a2, by simp, ((Below.refl _ w).alloc (Nat.le_refl _) _).alloc (by simp) _⟩
theorem bel_grown {w W w4 : World} {g : Nat} (b : Below w.heap.size w W) (hg : w.heap.size ≤ g) (k : W.grownBy w4 (some g)) : Below w.heap.size w w4 :=
  ⟨k.os.trans b.os, k.tape.trans b.tape, k.output.trans b.output, Nat.le_trans b.size k.size, fun i hi => (k.block i (by have := b.size; omega) (fun e => by have := Option.some.inj e; omega)).trans (b.block i hi)⟩
abbrev repX (x : Wq) : SeR := ⟨x.s, x.n, 0, 0, 0⟩
set_option maxRecDepth 100000 in
set_option maxHeartbeats 1000000 in
theorem reply_any (w : World) (x : Wq) : Calls Try.prog 37 #[.agg (lcWA x)] w fun e w' => e = .returned (.agg (rpA (repX x))) ∧ Below w.heap.size w w' := by
  obtain ⟨e1, e2, e3, bW⟩ := lc_two_blks w (.cells (lcWA x) lcWT) (.cells (rpA SeR.zero) rpT)
  obtain ⟨W, hW⟩ : ∃ W, W = (w.alloc (.cells (lcWA x) lcWT)).alloc (.cells (rpA SeR.zero) rpT) := ⟨_, rfl⟩
  rw [← hW] at e1 e2 e3 bW
  have z0 : W.cell? ⟨w.heap.size, 0, none⟩ = some (.int .i64 x.s) := by simp [World.cell?, e1]
  have z1 : W.cell? ⟨w.heap.size, 1, none⟩ = some (.int .i64 x.n) := by simp [World.cell?, e1]
  have HW : Hid ((w.alloc (.cells #[.int .i64 x.s, .int .i64 x.n, .bool x.rd] lcWT)).alloc (.cells #[.int .i64 0, .int .i64 0, .int .i64 0, .int .u64 0, .int .i64 0] rpT) = W) := hW.symm
  have HB : Hid (Below w.heap.size w W) := bW
  have H2 : Hid (W.heap[w.heap.size + 1]? = some (.cells (rpA SeR.zero) rpT (0, 0))) := e2
  clear hW e1 e2 e3 bW
  go_enter Try.func37, Try.ntmps37
  go_upto_region 1 with fail
  rw [HW.out]
  go_wp2_with (show wpList _ _ _ (⟨_, Op.store rpT _ _, _, _, _, _⟩ :: _) _ _; refine store_row_g rfl rpT _ _ rfl (w.heap.size + 1) (rpA (repX x)) rfl rfl rpT _ H2.out sizeRp rfl (by simp [Value.oneCell']) ?_; intro w4 h4 g4)
  refine bodyPost_ret (results_cell_row Try.results37 _ _ (w.heap.size + 1) rpT _ (0, 0) _ rfl h4 Try.underlying52 rfl sizeRp) rfl ?_
  exact ⟨rfl, bel_grown HB.out (Nat.le_succ _) g4⟩
set_option maxRecDepth 100000 in
set_option maxHeartbeats 1000000 in
theorem refused_any (w : World) (x : Wq) (e : Int) : Calls Try.prog 26 #[.agg (lcWA x), .int .i64 e] w fun e' w' => e' = .returned (.agg (rpA ⟨x.s, x.n, e, 0, 0⟩)) ∧ Below w.heap.size w w' := by
  obtain ⟨e1, e2, e3, bW⟩ := lc_two_blks w (.cells (lcWA x) lcWT) (.cells (rpA SeR.zero) rpT)
  obtain ⟨W, hW⟩ : ∃ W, W = (w.alloc (.cells (lcWA x) lcWT)).alloc (.cells (rpA SeR.zero) rpT) := ⟨_, rfl⟩
  rw [← hW] at e1 e2 e3 bW
  have HW : Hid ((w.alloc (.cells #[.int .i64 x.s, .int .i64 x.n, .bool x.rd] lcWT)).alloc (.cells #[.int .i64 0, .int .i64 0, .int .i64 0, .int .u64 0, .int .i64 0] rpT) = W) := hW.symm
  have HB : Hid (Below w.heap.size w W ∧ W.heap.size = w.heap.size + 2) := (show Hid _ from (⟨bW, e3⟩ : _ ∧ _))
  have H1 : Hid (W.heap[w.heap.size]? = some (.cells (lcWA x) lcWT (0, 0)) ∧ W.heap[w.heap.size + 1]? = some (.cells (rpA SeR.zero) rpT (0, 0))) := (show Hid _ from (⟨e1, e2⟩ : _ ∧ _))
  clear hW e1 e2 e3 bW
  go_enter Try.func26, Try.ntmps26
  go_upto_region 1 with fail
  rw [HW.out]
  go_upto_region 2 with (first
    | (show wpList _ _ _ (⟨_, Op.store rpT _ _, _, _, _, _⟩ :: _) _ _; refine store_row_g rfl rpT _ _ rfl w5.heap.size (rpA (repX x)) rfl rfl rpT _ (heap_alloc_new w5 _) sizeRp rfl (by simp [Value.oneCell']) ?_; intro w4 h4 g4)
    | (go_at_call 37; refine (reply_any _ x).mono ?_; rintro e' w5 ⟨rfl, b5⟩)
    | (show wpList _ _ _ (⟨_, Op.load lcWT _, _, _, _, _⟩ :: _) _ _; refine load_row_g rfl lcWT _ rfl w.heap.size rfl lcWT (lcWA x) (0, 0) _ H1.out.1 Try.underlying70 rfl sizeLw ?_))
  have hs5 := b5.size
  have b5' : Below w.heap.size w w5 := HB.out.1.trans (b5.mono (by have := HB.out.2; omega))
  have b4 : Below w5.heap.size w5 w4 := bel_grown ((Below.refl _ w5).alloc (Nat.le_refl _) _) (Nat.le_refl _) g4
  have hz4 := lt_of_block h4
  have n2 : w4.heap[w.heap.size + 1]? = some (.cells (rpA SeR.zero) rpT (0, 0)) := (b4.block _ (by have := HB.out.2; omega)).trans ((b5.block _ (by have := HB.out.2; omega)).trans H1.out.2)
  obtain ⟨B, hB⟩ : ∃ B, B = w5.heap.size := ⟨_, rfl⟩
  rw [← hB] at h4 hz4 b4 ⊢
  have f2 : w4.frozen? ⟨B, 2, none⟩ = false := by simp [World.frozen?, h4]
  have c2 : w4.cell? ⟨B, 2, none⟩ = some (.int .i64 0) := by simp [World.cell?, h4]
  have h6 : (w4.setCell ⟨B, 2, none⟩ (.int .i64 e)).heap[B]? = some (.cells (rpA ⟨x.s, x.n, e, 0, 0⟩) rpT (0, 0)) := by
    rw [heap_setCell_same _ B 2 _ _ _ h4]
    rfl
  have hne : w.heap.size + 1 ≠ B := by have := HB.out.2; omega
  have n6 : (w4.setCell ⟨B, 2, none⟩ (.int .i64 e)).heap[w.heap.size + 1]? = some (.cells (rpA SeR.zero) rpT (0, 0)) := (heap_setCell_other _ _ _ _ hne).trans n2
  have H6 : Hid _ := h6
  have N6 : Hid _ := n6
  have B6 : Hid (Below w.heap.size w (w4.setCell ⟨B, 2, none⟩ (.int .i64 e))) := (show Hid _ from (by
    have b9 : Below w.heap.size w w4 := b5'.trans (b4.mono (by rw [hB]; have := HB.out.2; omega))
    exact b9.setCell (p := ⟨B, 2, none⟩) (by show w.heap.size ≤ B; have := HB.out.2; omega) _))
  clear h4 hz4 b4 h6 n2 n6 b5 b5' hs5 g4 hB
  go_wp2_with (first
    | (show wpList _ _ _ (⟨_, Op.store rpT _ _, _, _, _, _⟩ :: _) _ _; refine store_row_g rfl rpT _ _ rfl (w.heap.size + 1) (rpA ⟨x.s, x.n, e, 0, 0⟩) rfl rfl rpT _ N6.out sizeRp rfl (by simp [Value.oneCell']) ?_; intro w7 h7 g7)
    | (show wpList _ _ _ (⟨_, Op.load rpT _, _, _, _, _⟩ :: _) _ _; refine load_row_g rfl rpT _ rfl B rfl rpT (rpA ⟨x.s, x.n, e, 0, 0⟩) (0, 0) _ H6.out Try.underlying52 rfl sizeRp ?_))
  refine bodyPost_ret (results_cell_row Try.results26 _ _ (w.heap.size + 1) rpT _ (0, 0) _ rfl h7 Try.underlying52 rfl sizeRp) rfl ?_
  exact ⟨rfl, bel_grown B6.out (Nat.le_succ _) g7⟩
end Go.Proofs.Ytmfadmhbkgemmaa
