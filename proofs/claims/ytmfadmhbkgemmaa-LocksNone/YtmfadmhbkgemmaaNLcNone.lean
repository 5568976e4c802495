/-
  LocksNone: locks that are none. No condition.
-/
import Derived.Test.YtmfadmhbkgemmaaNLcOpen
namespace Go.Proofs.Ytmfadmhbkgemmaa
open Go.RowKit

abbrev LdAt (w : World) (B : Nat) (v : Ld) : Prop := w.heap[B]? = some (.cells (ldA v) 33 (0, 0))
theorem LdAt.box {w : World} {B : Nat} {v : Ld} (h : LdAt w B v) (j : Nat) (u : Value) (hu : (ldC v)[j]? = some u) : w.cell? ⟨B, j, none⟩ = some u := by
  simp only [World.cell?, h]
  simpa [ldC] using hu
set_option maxHeartbeats 6400000 in
set_option maxRecDepth 100000 in
theorem lnone_walk (w : World) (v : Ld) : Calls Try.prog 6 #[.agg (ldA v)] w fun e w' => e = .returned (.bool true) ∧ Below w.heap.size w w' := by
  obtain ⟨W, hW⟩ : ∃ W, W = w.alloc (.cells (ldA v) 33) := ⟨_, rfl⟩
  have bW : Below w.heap.size w W := by rw [hW]; exact (Below.refl _ w).alloc (Nat.le_refl _) _
  have dW : LdAt W w.heap.size v := by rw [hW]; exact heap_alloc_new w _
  have HW : Hid (w.alloc (.cells (ldA v) 33) = W) := hW.symm
  have BW : Hid (Below w.heap.size w W) := bW
  have HZ : Hid (∀ y, Below W.heap.size W y → LdAt y w.heap.size v) := fun y b => (b.block _ (lt_of_block dW)).trans dW
  have z1 := dW.box 1 _ rfl
  have z2 := dW.box 2 _ rfl
  have z3 := dW.box 3 _ rfl
  have z4 := dW.box 4 _ rfl
  have z5 := dW.box 5 _ rfl
  have z6 := dW.box 6 _ rfl
  clear hW bW dW
  go_enter Try.func6, Try.ntmps6
  go_upto_region 1 with fail
  rw [HW.out]
  go_upto_region 4 with (first
    | (go_at_call 10; refine (lask_nil _).mono ?_; rintro r w2 ⟨rfl, b2⟩; have B2 : Hid (Below W.heap.size W w2) := b2; clear b2)
    | (go_at_call 19; refine (lsett_nil _).mono ?_; rintro r w1 ⟨⟨v1, rfl⟩, hw1⟩; rw [hw1]; clear hw1))
  have d2 := HZ.out w2 B2.out
  have a1 := d2.box 1 _ rfl
  have a2 := d2.box 2 _ rfl
  have a3 := d2.box 3 _ rfl
  have a4 := d2.box 4 _ rfl
  have a5 := d2.box 5 _ rfl
  clear d2 z1 z2 z3 z4 z5 z6
  go_wp2_with (first
    | (go_at_call 18; refine (awake_any _).mono ?_; rintro r w9 ⟨rfl, b9⟩; have B9 : Hid (Below w.heap.size w w9) := bmm BW.out BW.out.size (bmm B4.out B4.out.size b9); clear b9)
    | (go_at_call 21; refine (lenc_nil _).mono ?_; rintro r w8 ⟨rfl, hw8⟩; rw [hw8]; clear hw8)
    | (go_at_call 20; refine (ltoken_nil _).mono ?_; rintro r w7 ⟨rfl, hw7⟩; rw [hw7]; clear hw7)
    | (go_at_call 17; refine (lqueue_nil _).mono ?_; rintro r w6 ⟨rfl, hw6⟩; rw [hw6]; clear hw6)
    | (go_at_call 14; refine (lgone_nil _).mono ?_; rintro r w5 ⟨rfl, hw5⟩; rw [hw5]; clear hw5)
    | (go_at_call 12; refine (lrel_nil _).mono ?_; rintro r w4 ⟨rfl, b4⟩; have B4 : Hid (Below W.heap.size W w4) := bmm B2.out B2.out.size b4; have d4 := HZ.out w4 B4.out; have c2 := d4.box 2 _ rfl; have c4 := d4.box 4 _ rfl; clear b4 d4)
    | (go_at_call 16; refine (lhold_nil _).mono ?_; rintro r w3 ⟨rfl, hw3⟩; rw [hw3]; clear hw3))
  go_ret
  exact ⟨rfl, B9.out⟩
end Go.Proofs.Ytmfadmhbkgemmaa
