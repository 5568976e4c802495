/-
  Package acceptor: an acceptor that is none; a deed in memory; AcceptorNone. No condition.
-/
import Derived.Test.YtkngpfngfmbmjaaVAcAwake
namespace Go.Proofs.Ytkngpfngfmbmjaa
open Go.Shelf Go.RowKit Go.Lib Go.Sort

set_option maxRecDepth 100000 in
theorem nmay_any (w : World) (b : Int) : Calls Try.prog 31 #[.pointer none, .int .i64 b] w fun e w' => e = .returned (.bool false) ∧ w' = w := by
  go_enter Try.func31, Try.ntmps31
  go_wp2
  go_ret
  exact ⟨rfl, rfl⟩
set_option maxRecDepth 100000 in
theorem nprom_any (w : World) : Calls Try.prog 20 #[.pointer none] w fun e w' => e = .returned (.int .i64 0) ∧ w' = w := by
  go_enter Try.func20, Try.ntmps20
  go_wp2
  go_ret
  exact ⟨rfl, rfl⟩
set_option maxRecDepth 100000 in
theorem nprep_any (w : World) (b : Int) : Calls Try.prog 13 #[.pointer none, .int .i64 b] w fun e w' => e = .returned (.tuple #[.agg (outA (.slice none 0 0)), .bool false]) ∧ Below w.heap.size w w' := by
  obtain ⟨W, hW⟩ : ∃ W, W = w.alloc (.cells (outA (.slice none 0 0)) 42) := ⟨_, rfl⟩
  have bW : Below w.heap.size w W := by rw [hW]; exact (Below.refl _ w).alloc (Nat.le_refl _) _
  have OW : Hid (W.heap[w.heap.size]? = some (.cells (outA (.slice none 0 0)) 42 (0, 0))) := by show _ = _; rw [hW]; exact heap_alloc_new w _
  have HW : Hid (w.alloc (.cells (outA (.slice none 0 0)) 42) = W) := hW.symm
  have BW : Hid _ := bW
  clear hW bW
  go_enter Try.func13, Try.ntmps13
  go_upto_region 1 with fail
  rw [HW.out]
  go_wp2_with (first
    | (show wpList _ _ _ (⟨_, Op.store 42 _ _, _, _, _, _⟩ :: _) _ _; refine store_row_g rfl 42 _ _ rfl w.heap.size (outA (.slice none 0 0)) rfl rfl 42 _ OW.out sizeOut rfl (by simp [Value.oneCell']) ?_; intro w6 h6 g6)
    | (go_at_call 31; refine (nmay_any _ _).mono ?_; rintro e w2 ⟨rfl, hw2⟩; rw [hw2]; clear hw2))
  refine bodyPost_ret (results_two Try.results13 _ _ w.heap.size _ rfl (load_out h6)) rfl ?_
  exact ⟨rfl, BW.out.grown g6 BW.out.size (fun k hk => by have := Option.some.inj hk; omega)⟩
set_option maxRecDepth 100000 in
theorem nacc_any (w : World) (b : Int) (e : En) : Calls Try.prog 15 #[.pointer none, .int .i64 b, .agg (enA e)] w fun e w' => e = .returned (.tuple #[.agg (outA (.slice none 0 0)), .bool false]) ∧ Below w.heap.size w w' := by
  obtain ⟨W, hW⟩ : ∃ W, W = (w.alloc (.cells (enA e) 36)).alloc (.cells (outA (.slice none 0 0)) 42) := ⟨_, rfl⟩
  have bW : Below w.heap.size w W := by rw [hW]; exact ((Below.refl _ w).alloc (Nat.le_refl _) _).alloc (by simp) _
  have h2 := two_blocks w (.cells (enA e) 36) (.cells (outA (.slice none 0 0)) 42)
  have OW : Hid (W.heap[w.heap.size + 1]? = some (.cells (outA (.slice none 0 0)) 42 (0, 0))) := by show _ = _; rw [hW]; exact h2.2.trans (heap_alloc_new _ _)
  have HW : Hid ((w.alloc (.cells (enA e) 36)).alloc (.cells (outA (.slice none 0 0)) 42) = W) := hW.symm
  have BW : Hid _ := bW
  clear hW bW h2
  go_enter Try.func15, Try.ntmps15
  go_upto_region 1 with fail
  rw [HW.out]
  go_wp2_with (first
    | (show wpList _ _ _ (⟨_, Op.store 42 _ _, _, _, _, _⟩ :: _) _ _; refine store_row_g rfl 42 _ _ rfl (w.heap.size + 1) (outA (.slice none 0 0)) rfl rfl 42 _ OW.out sizeOut rfl (by simp [Value.oneCell']) ?_; intro w6 h6 g6)
    | (go_at_call 31; refine (nmay_any _ _).mono ?_; rintro e w2 ⟨rfl, hw2⟩; rw [hw2]; clear hw2))
  refine bodyPost_ret (results_two Try.results15 _ _ (w.heap.size + 1) _ rfl (load_out h6)) rfl ?_
  exact ⟨rfl, BW.out.grown g6 BW.out.size (fun k hk => by have := Option.some.inj hk; omega)⟩
set_option maxRecDepth 100000 in
theorem ncut_any (w : World) (b : Int) (s : ByteArray) : Calls Try.prog 17 #[.pointer none, .int .i64 b, .string s] w fun e w' => e = .returned (.tuple #[]) ∧ w' = w := by
  go_enter Try.func17, Try.ntmps17
  go_wp2
  go_returns
  exact ⟨rfl, rfl⟩
set_option maxRecDepth 100000 in
theorem nfrom_any (w : World) (b : Int) : Calls Try.prog 21 #[.pointer none, .int .i64 b] w fun e w' => e = .returned (.slice none 0 0) ∧ w' = w := by
  go_enter Try.func21, Try.ntmps21
  go_wp2
  go_ret
  exact ⟨rfl, rfl⟩
set_option maxRecDepth 100000 in
theorem nat_any (w : World) (b : Int) : Calls Try.prog 22 #[.pointer none, .int .i64 b] w fun e w' => e = .returned (.tuple #[.agg (enA En.zero), .bool false]) ∧ Below w.heap.size w w' := by
  obtain ⟨W, hW⟩ : ∃ W, W = w.alloc (.cells (enA En.zero) 36) := ⟨_, rfl⟩
  have bW : Below w.heap.size w W := by rw [hW]; exact (Below.refl _ w).alloc (Nat.le_refl _) _
  have OW : Hid (EnAt W w.heap.size En.zero) := by show _ = _; rw [hW]; exact heap_alloc_new w _
  have HW : Hid (w.alloc (.cells #[.int .i64 0, .int .i64 0, .int .i64 0, .int .i64 0, .int .i64 0, .string ⟨#[]⟩, .int .i64 0] 36) = W) := hW.symm
  have BW : Hid _ := bW
  clear hW bW
  go_enter Try.func22, Try.ntmps22
  go_upto_region 1 with fail
  rw [HW.out]
  go_wp2_with (show wpList _ _ _ (⟨_, Op.store 36 _ _, _, _, _, _⟩ :: _) _ _; refine store_row_g rfl 36 _ _ rfl w.heap.size (enA En.zero) rfl rfl 36 _ OW.out sizeEn rfl (by simp [Value.oneCell']) ?_; intro w6 h6 g6)
  refine bodyPost_ret (results_two Try.results22 _ _ w.heap.size _ rfl (load_ent h6)) rfl ?_
  exact ⟨rfl, BW.out.grown g6 BW.out.size (fun k hk => by have := Option.some.inj hk; omega)⟩
set_option maxRecDepth 100000 in
theorem ndur_any (w : World) : Calls Try.prog 25 #[.pointer none] w fun e w' => e = .returned (.agg (duA aw0 (.slice none 0 0))) ∧ Below w.heap.size w w' := by
  obtain ⟨W, hW⟩ : ∃ W, W = w.alloc (.cells #[.int .i64 0, .int .i64 0, .string ⟨#[]⟩, .slice none 0 0] 24) := ⟨_, rfl⟩
  have bW : Below w.heap.size w W := by rw [hW]; exact (Below.refl _ w).alloc (Nat.le_refl _) _
  have OW : Hid (DuAt W w.heap.size aw0 (.slice none 0 0)) := by show _ = _; rw [hW]; exact heap_alloc_new w _
  have HW : Hid (w.alloc (.cells #[.int .i64 0, .int .i64 0, .string ⟨#[]⟩, .slice none 0 0] 24) = W) := hW.symm
  have BW : Hid _ := bW
  clear hW bW
  go_enter Try.func25, Try.ntmps25
  go_upto_region 1 with fail
  rw [HW.out]
  go_wp2_with (show wpList _ _ _ (⟨_, Op.store 24 _ _, _, _, _, _⟩ :: _) _ _; refine store_row_g rfl 24 _ _ rfl w.heap.size (duA aw0 (.slice none 0 0)) rfl rfl 24 _ OW.out sizeDu rfl (by simp [Value.oneCell']) ?_; intro w6 h6 g6)
  refine bodyPost_ret (results_cell_row Try.results25 _ _ w.heap.size 24 _ (0, 0) _ rfl h6 Try.underlying24 rfl sizeDu) rfl ?_
  exact ⟨rfl, BW.out.grown g6 BW.out.size (fun k hk => by have := Option.some.inj hk; omega)⟩
/-- A deed. -/
structure Ad where
  kind : Int
  b : Int
  e : En
  s : ByteArray
/-- Deeds whose texts can be cloned. -/
structure OkAd (v : Ad) : Prop where
  name : nameOk v.e.cmd.name
  snap : nameOk v.s
  bb : v.b ≤ 9223372036854775807
  slot : v.e.slot ≤ 9223372036854775807
abbrev adA (v : Ad) : Array Value := #[.int .i64 v.kind, .int .i64 v.b, .int .i64 v.e.slot, .int .i64 v.e.ballot, .int .i64 v.e.cmd.kind, .int .i64 v.e.cmd.session, .int .i64 v.e.cmd.seq, .string v.e.cmd.name, .int .i64 v.e.cmd.n, .string v.s]
def adC (v : Ad) : List Value := [.int .i64 v.kind, .int .i64 v.b, .int .i64 v.e.slot, .int .i64 v.e.ballot, .int .i64 v.e.cmd.kind, .int .i64 v.e.cmd.session, .int .i64 v.e.cmd.seq, .string v.e.cmd.name, .int .i64 v.e.cmd.n, .string v.s]
theorem adC_len (v : Ad) : (adC v).length = 10 := rfl
abbrev AdAt (w : World) (B : Nat) (v : Ad) : Prop := w.heap[B]? = some (.cells (adA v) 38 (0, 0))
theorem AdAt.box {w : World} {B : Nat} {v : Ad} (h : AdAt w B v) (j : Nat) (u : Value) (hu : (adC v)[j]? = some u) : w.cell? ⟨B, j, none⟩ = some u := by
  simp only [World.cell?, h]
  simpa [adC] using hu
set_option maxHeartbeats 6400000 in
set_option maxRecDepth 100000 in
theorem none_walk (w : World) (v : Ad) : Calls Try.prog 7 #[.agg (adA v)] w fun e w' => e = .returned (.bool true) ∧ Below w.heap.size w w' := by
  obtain ⟨W, hW⟩ : ∃ W, W = w.alloc (.cells (adA v) 38) := ⟨_, rfl⟩
  have bW : Below w.heap.size w W := by rw [hW]; exact (Below.refl _ w).alloc (Nat.le_refl _) _
  have dW : AdAt W w.heap.size v := by rw [hW]; exact heap_alloc_new w _
  have HD : Hid (∀ y, Below W.heap.size W y → AdAt y w.heap.size v) := fun y b => (b.block _ (lt_of_block dW)).trans dW
  have HW : Hid (w.alloc (.cells (adA v) 38) = W) := hW.symm
  have BW : Hid (Below w.heap.size w W) := bW
  have z1 := dW.box 1 _ rfl
  clear hW bW dW
  go_enter Try.func7, Try.ntmps7
  go_upto_region 1 with fail
  rw [HW.out]
  go_upto_region 3 with (go_at_call 13; refine (nprep_any _ _).mono ?_; rintro x w1 ⟨rfl, b1⟩)
  obtain ⟨y1, hy1⟩ : ∃ y, y = w1.alloc (.cells (outA (.slice none 0 0)) 42) := ⟨_, rfl⟩
  have a1 : Below W.heap.size W y1 := by rw [hy1]; exact b1.alloc b1.size _
  have A1 : Hid _ := a1
  have HY1 : Hid (w1.alloc (.cells (outA (.slice none 0 0)) 42) = y1) := hy1.symm
  rw [HY1.out]
  have d1 := HD.out _ a1
  clear hy1 b1 a1 z1
  have z1 := d1.box 1 _ rfl
  have z2 := d1.box 2 _ rfl
  have z3 := d1.box 3 _ rfl
  have z4 := d1.box 4 _ rfl
  have z5 := d1.box 5 _ rfl
  have z6 := d1.box 6 _ rfl
  have z7 := d1.box 7 _ rfl
  have z8 := d1.box 8 _ rfl
  clear d1
  go_upto_region 4 with (go_at_call 15; refine (nacc_any _ _ v.e).mono ?_; rintro x w2 ⟨rfl, b2⟩)
  obtain ⟨y2, hy2⟩ : ∃ y, y = w2.alloc (.cells (outA (.slice none 0 0)) 42) := ⟨_, rfl⟩
  have a2 : Below W.heap.size W y2 := by rw [hy2]; exact (bmm A1.out A1.out.size b2).alloc (bmm A1.out A1.out.size b2).size _
  have A2 : Hid _ := a2
  have HY2 : Hid (w2.alloc (.cells (outA (.slice none 0 0)) 42) = y2) := hy2.symm
  rw [HY2.out]
  have d2 := HD.out _ a2
  clear hy2 b2 a2 z1 z2 z3 z4 z5 z6 z7 z8
  have z1 := d2.box 1 _ rfl
  have z9 := d2.box 9 _ rfl
  clear d2
  go_upto_region 6 with (first
    | (go_at_call 22; refine (nat_any _ _).mono ?_; rintro x w3 ⟨rfl, b3⟩)
    | (go_at_call 17; refine (ncut_any _ _ _).mono ?_; rintro x wc ⟨rfl, hwc⟩; rw [hwc]; clear hwc))
  obtain ⟨y3, hy3⟩ : ∃ y, y = w3.alloc (.cells (enA En.zero) 36) := ⟨_, rfl⟩
  have a3 : Below W.heap.size W y3 := by rw [hy3]; exact (bmm A2.out A2.out.size b3).alloc (bmm A2.out A2.out.size b3).size _
  have A3 : Hid _ := a3
  have HY3 : Hid (w3.alloc (.cells (enA En.zero) 36) = y3) := hy3.symm
  rw [HY3.out]
  have d3 := HD.out _ a3
  clear hy3 b3 a3 z1 z9
  have z1 := d3.box 1 _ rfl
  clear d3
  go_wp2_with (first
    | (go_at_call 9; refine (awake_any _).mono ?_; rintro x w7 ⟨rfl, b7⟩; have A7 : Hid (Below W.heap.size W w7) := bmm A6.out A6.out.size b7; clear b7)
    | (go_at_call 23; refine (rsameD_any _ aw0 aw0 (.slice none 0 0) (.slice none 0 0) (RowAt.nil _) (RowAt.nil _) (by simp [aw0]) true (by simp)).mono ?_; rintro x w6 ⟨rfl, b6⟩; have A6 : Hid (Below W.heap.size W w6) := bmm A5.out A5.out.size b6; clear b6)
    | (go_at_call 25; refine (ndur_any _).mono ?_; rintro x w5 ⟨rfl, b5⟩; have A5 : Hid (Below W.heap.size W w5) := bmm A3.out A3.out.size b5; clear b5)
    | (go_at_call 21; refine (nfrom_any _ _).mono ?_; rintro x wc ⟨rfl, hwc⟩; rw [hwc]; clear hwc)
    | (go_at_call 20; refine (nprom_any _).mono ?_; rintro x wc ⟨rfl, hwc⟩; rw [hwc]; clear hwc))
  go_ret
  exact ⟨rfl, BW.out.trans (A7.out.mono BW.out.size)⟩
end Go.Proofs.Ytkngpfngfmbmjaa
