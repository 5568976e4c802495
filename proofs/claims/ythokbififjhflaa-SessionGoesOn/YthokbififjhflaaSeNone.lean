/-
  A deed in memory; SessionNone. The conditions: numbers are ints.
-/
import Derived.Test.YthokbififjhflaaSeAwake
import Derived.Test.YthokbififjhflaaSeNil
namespace Go.Proofs.Ythokbififjhflaa
open Go.RowKit

/-- A deed. -/
structure Sd where
  kind : Int
  n : Int
  seq : Int
  r : SeR
abbrev sdA (v : Sd) : Array Value := #[.int .i64 v.kind, .int .i64 v.n, .int .i64 v.seq, .int .i64 v.r.session, .int .i64 v.r.seq, .int .i64 v.r.err, .int .u64 v.r.token, .int .i64 v.r.n]
def sdC (v : Sd) : List Value := [.int .i64 v.kind, .int .i64 v.n, .int .i64 v.seq, .int .i64 v.r.session, .int .i64 v.r.seq, .int .i64 v.r.err, .int .u64 v.r.token, .int .i64 v.r.n]
theorem sdC_len (v : Sd) : (sdC v).length = 8 := rfl
abbrev SdAt (w : World) (B : Nat) (v : Sd) : Prop := w.heap[B]? = some (.cells (sdA v) 38 (0, 0))
theorem SdAt.box {w : World} {B : Nat} {v : Sd} (h : SdAt w B v) (j : Nat) (u : Value) (hu : (sdC v)[j]? = some u) : w.cell? ⟨B, j, none⟩ = some u := by
  simp only [World.cell?, h]
  simpa [sdC] using hu
set_option maxHeartbeats 6400000 in
set_option maxRecDepth 100000 in
theorem none_walk (w : World) (v : Sd) : Calls Try.prog 8 #[.agg (sdA v)] w fun e w' => e = .returned (.bool true) ∧ Below w.heap.size w w' := by
  obtain ⟨W, hW⟩ : ∃ W, W = w.alloc (.cells (sdA v) 38) := ⟨_, rfl⟩
  have bW : Below w.heap.size w W := by rw [hW]; exact (Below.refl _ w).alloc (Nat.le_refl _) _
  have dW : SdAt W w.heap.size v := by rw [hW]; exact heap_alloc_new w _
  have HW : Hid (w.alloc (.cells (sdA v) 38) = W) := hW.symm
  have BW : Hid (Below w.heap.size w W) := bW
  have HZ : Hid (∀ y, Below W.heap.size W y → SdAt y w.heap.size v) := fun y b => (b.block _ (lt_of_block dW)).trans dW
  have z1 := dW.box 1 _ rfl
  have z2 := dW.box 2 _ rfl
  clear hW bW dW
  go_enter Try.func8, Try.ntmps8
  go_upto_region 1 with fail
  rw [HW.out]
  go_upto_region 5 with (first
    | (go_at_call 23; refine (sbegin_nil _ _ _).mono ?_; rintro r w3 ⟨rfl, b3⟩; have B3 : Hid _ := b3; clear b3)
    | (go_at_call 17; refine (client_nil _ _).mono ?_; rintro r w2 ⟨rfl, hw2⟩; rw [hw2]; clear hw2)
    | (go_at_call 22; refine (sopen_nil _ _ _).mono ?_; rintro r w1 ⟨rfl, hw1⟩; rw [hw1]; clear hw1))
  obtain ⟨y3, hy3⟩ : ∃ y, y = w3.alloc (.cells (seRA SeR.zero) 36) := ⟨_, rfl⟩
  have b3 : Below W.heap.size W y3 := by rw [hy3]; exact B3.out.trans (((Below.refl _ w3).alloc (Nat.le_refl _) _).mono B3.out.size)
  have HY3 : Hid (w3.alloc (.cells (seRA SeR.zero) 36) = y3) := hy3.symm
  have d3 := HZ.out y3 b3
  have a1 := d3.box 1 _ rfl
  have a3 := d3.box 3 _ rfl
  have a4 := d3.box 4 _ rfl
  have a5 := d3.box 5 _ rfl
  have a6 := d3.box 6 _ rfl
  have a7 := d3.box 7 _ rfl
  have B3' : Hid (Below W.heap.size W y3) := b3
  clear hy3 b3 d3 z1 z2 B3
  rw [HY3.out]
  go_wp2_with (first
    | (go_at_call 19; refine (awake_any _).mono ?_; rintro r w9 ⟨rfl, b9⟩; have B9 : Hid (Below w.heap.size w w9) := bmm BW.out BW.out.size (bmm B5.out B5.out.size b9); clear b9)
    | (go_at_call 15; refine (sencode_nil _).mono ?_; rintro r w8 ⟨rfl, hw8⟩; rw [hw8]; clear hw8)
    | (go_at_call 13; refine (sall_nil _).mono ?_; rintro r w7 ⟨rfl, hw7⟩; rw [hw7]; clear hw7)
    | (go_at_call 24; refine (send_nil v.r _).mono ?_; rintro r w5 ⟨rfl, b5⟩; have B5 : Hid (Below W.heap.size W w5) := bmm B3'.out B3'.out.size b5; clear b5)
    | (go_at_call 25; refine (close_nil _ _).mono ?_; rintro r w4 ⟨rfl, hw4⟩; rw [hw4]; clear hw4))
  go_ret
  exact ⟨rfl, B9.out⟩
end Go.Proofs.Ythokbififjhflaa
