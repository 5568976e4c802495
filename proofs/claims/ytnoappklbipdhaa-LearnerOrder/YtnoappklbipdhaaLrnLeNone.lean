/-
  A deed in memory; LearnerNone. No condition.
-/
import Derived.Test.YtnoappklbipdhaaLrnLeAwake
namespace Go.Proofs.Ytnoappklbipdhaa
open Go.RowKit

/-- A deed. -/
structure Ld where
  kind : Int
  n : Int
  most : Int
  e : En
abbrev ldA (v : Ld) : Array Value := #[.int .i64 v.kind, .int .i64 v.n, .int .i64 v.most, .int .i64 v.e.slot, .int .i64 v.e.ballot, .int .i64 v.e.cmd.kind, .int .i64 v.e.cmd.session, .int .i64 v.e.cmd.seq, .string v.e.cmd.name, .int .i64 v.e.cmd.n]
def ldC (v : Ld) : List Value := [.int .i64 v.kind, .int .i64 v.n, .int .i64 v.most, .int .i64 v.e.slot, .int .i64 v.e.ballot, .int .i64 v.e.cmd.kind, .int .i64 v.e.cmd.session, .int .i64 v.e.cmd.seq, .string v.e.cmd.name, .int .i64 v.e.cmd.n]
abbrev LdAt (w : World) (B : Nat) (v : Ld) : Prop := w.heap[B]? = some (.cells (ldA v) 32 (0, 0))
theorem LdAt.box {w : World} {B : Nat} {v : Ld} (h : LdAt w B v) (j : Nat) (u : Value) (hu : (ldC v)[j]? = some u) : w.cell? ⟨B, j, none⟩ = some u := by
  simp only [World.cell?, h]
  simpa [ldC] using hu
set_option maxHeartbeats 6400000 in
set_option maxRecDepth 100000 in
theorem none_walk (w : World) (v : Ld) : Calls Try.prog 6 #[.agg (ldA v)] w fun e w' => e = .returned (.bool true) ∧ Below w.heap.size w w' := by
  obtain ⟨W, hW⟩ : ∃ W, W = w.alloc (.cells (ldA v) 32) := ⟨_, rfl⟩
  have bW : Below w.heap.size w W := by rw [hW]; exact (Below.refl _ w).alloc (Nat.le_refl _) _
  have dW : LdAt W w.heap.size v := by rw [hW]; exact heap_alloc_new w _
  have HW : Hid (w.alloc (.cells (ldA v) 32) = W) := hW.symm
  have BW : Hid (Below w.heap.size w W) := bW
  have HZ : Hid (∀ y, Below W.heap.size W y → LdAt y w.heap.size v) := fun y b => (b.block _ (lt_of_block dW)).trans dW
  have z1 := dW.box 1 _ rfl
  clear hW bW dW
  go_enter Try.func6, Try.ntmps6
  go_upto_region 1 with fail
  rw [HW.out]
  go_upto_region 4 with (first
    | (go_at_call 17; refine (known_nil _ _).mono ?_; rintro r w3 ⟨⟨rfl, b3⟩⟩; have B3 : Hid _ := b3; clear b3)
    | (go_at_call 15; refine (forget_nil _ _).mono ?_; rintro r w2 ⟨rfl, hw2⟩; rw [hw2]; clear hw2))
  obtain ⟨y3, hy3⟩ : ∃ y, y = w3.alloc (.cells (cmdA Cm.zero) 28) := ⟨_, rfl⟩
  have b3 : Below W.heap.size W y3 := by rw [hy3]; exact B3.out.trans (((Below.refl _ w3).alloc (Nat.le_refl _) _).mono B3.out.size)
  have HY3 : Hid (w3.alloc (.cells (cmdA Cm.zero) 28) = y3) := hy3.symm
  have d3 := HZ.out y3 b3
  have a1 := d3.box 1 _ rfl
  have a3 := d3.box 3 _ rfl
  have a4 := d3.box 4 _ rfl
  have a5 := d3.box 5 _ rfl
  have a6 := d3.box 6 _ rfl
  have a7 := d3.box 7 _ rfl
  have a8 := d3.box 8 _ rfl
  have a9 := d3.box 9 _ rfl
  have B3' : Hid (Below W.heap.size W y3) := b3
  clear hy3 b3 d3 z1 B3
  rw [HY3.out]
  go_wp2_with (first
    | (go_at_call 21; refine (awake_any _).mono ?_; rintro r w9 ⟨rfl, b9⟩; have B9 : Hid (Below w.heap.size w w9) := bmm BW.out BW.out.size (bmm B7.out B7.out.size b9); clear b9)
    | (go_at_call 13; refine (since_nil _ _ _).mono ?_; rintro r w7 ⟨⟨rfl, b7⟩⟩; have B7 : Hid (Below W.heap.size W w7) := bmm B6.out B6.out.size b7; clear b7)
    | (go_at_call 11; refine (jump_nil _ _).mono ?_; rintro r w6 ⟨⟨rfl, b6⟩⟩; have B6 : Hid (Below W.heap.size W w6) := bmm B4.out B4.out.size b6; have e1 := (HZ.out w6 B6.out).box 1 _ rfl; have e2 := (HZ.out w6 B6.out).box 2 _ rfl; clear b6)
    | (go_at_call 20; refine (applied_nil _).mono ?_; rintro r w5 ⟨rfl, hw5⟩; rw [hw5]; clear hw5)
    | (go_at_call 9; refine (learn_nil _ v.e).mono ?_; rintro r w4 ⟨⟨rfl, b4⟩⟩; have B4 : Hid (Below W.heap.size W w4) := bmm B3'.out B3'.out.size b4; have c1 := (HZ.out w4 B4.out).box 1 _ rfl; clear b4))
  go_ret
  exact ⟨rfl, B9.out⟩
end Go.Proofs.Ytnoappklbipdhaa
