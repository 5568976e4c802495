/-
  Package proposer: a proposer that is none; a deed in memory; ProposerNone. No condition.
-/
import Derived.Test.YtmlgoecdefeapaaNPxAwake
namespace Go.Proofs.Ytmlgoecdefeapaa
open Go.RowKit

set_option maxRecDepth 100000 in
theorem pcho_nil (w : World) (s : Int) : Calls Try.prog 17 #[.pointer none, .int .i64 s] w fun e w' => e = .returned (.tuple #[]) ∧ w' = w := by
  go_enter Try.func17, Try.ntmps17
  go_wp2_with (go_at_call 19; refine (xready_nil _).mono ?_; rintro r w1 ⟨rfl, rfl⟩)
  go_returns
  exact ⟨rfl, rfl⟩
/-- A deed: the row of its entries is a value of its own. -/
structure Pd where
  kind : Int
  who : Int
  slot : Int
  u : Value
  es : List En
  c : Cm
abbrev pdA (v : Pd) : Array Value := #[.int .i64 v.kind, .int .i64 v.who, .int .i64 v.slot, v.u, .int .i64 v.c.kind, .int .i64 v.c.session, .int .i64 v.c.seq, .string v.c.name, .int .i64 v.c.n]
def pdC (v : Pd) : List Value := [.int .i64 v.kind, .int .i64 v.who, .int .i64 v.slot, v.u, .int .i64 v.c.kind, .int .i64 v.c.session, .int .i64 v.c.seq, .string v.c.name, .int .i64 v.c.n]
abbrev PdAt (w : World) (B : Nat) (v : Pd) : Prop := w.heap[B]? = some (.cells (pdA v) 34 (0, 0))
theorem PdAt.box {w : World} {B : Nat} {v : Pd} (h : PdAt w B v) (j : Nat) (u : Value) (hu : (pdC v)[j]? = some u) : w.cell? ⟨B, j, none⟩ = some u := by
  simp only [World.cell?, h]
  simpa [pdC] using hu
set_option maxHeartbeats 6400000 in
set_option maxRecDepth 100000 in
theorem none_walk (w : World) (v : Pd) (a : Option Addr) (n c : Nat) (hu : v.u = .slice a n c) : Calls Try.prog 6 #[.agg (pdA v)] w fun e w' => e = .returned (.bool true) ∧ Below w.heap.size w w' := by
  obtain ⟨W, hW⟩ : ∃ W, W = w.alloc (.cells (pdA v) 34) := ⟨_, rfl⟩
  have bW : Below w.heap.size w W := by rw [hW]; exact (Below.refl _ w).alloc (Nat.le_refl _) _
  have dW : PdAt W w.heap.size v := by rw [hW]; exact heap_alloc_new w _
  have HW : Hid (w.alloc (.cells (pdA v) 34) = W) := hW.symm
  have BW : Hid (Below w.heap.size w W) := bW
  have z1 := dW.box 1 _ rfl
  have z2 := dW.box 2 _ rfl
  have z3 := dW.box 3 _ rfl
  rw [hu] at z3
  have z4 := dW.box 4 _ rfl
  have z5 := dW.box 5 _ rfl
  have z6 := dW.box 6 _ rfl
  have z7 := dW.box 7 _ rfl
  have z8 := dW.box 8 _ rfl
  have HP : Hid (∀ y, Calls Try.prog 15 #[.pointer none, .agg (cmA v.c)] y fun e w' => e = .returned (.agg #[.int .i64 0, .int .i64 0, .int .i64 0, .int .i64 0, .int .i64 0, .string ⟨#[]⟩, .int .i64 0]) ∧ Below y.heap.size y w') := fun y => pprop_nil y v.c
  clear hW bW dW hu
  go_enter Try.func6, Try.ntmps6
  go_upto_region 1 with fail
  rw [HW.out]
  go_wp2_with (first
    | (go_at_call 8; refine (awake_any _).mono ?_; rintro r w9 ⟨rfl, b9⟩)
    | (go_at_call 22; refine (popen_nil _).mono ?_; rintro r w8 ⟨rfl, hw8⟩; rw [hw8]; clear hw8)
    | (go_at_call 15; refine Calls.mono (HP.out _) ?_; rintro r w7 ⟨rfl, b7⟩)
    | (go_at_call 13; refine (pacc_nil _ _ _).mono ?_; rintro r w6 ⟨rfl, hw6⟩; rw [hw6]; clear hw6)
    | (go_at_call 21; refine (pvals_nil _).mono ?_; rintro r w5 ⟨rfl, hw5⟩; rw [hw5]; clear hw5)
    | (go_at_call 19; refine (xready_nil _).mono ?_; rintro r w4 ⟨rfl, hw4⟩; rw [hw4]; clear hw4)
    | (go_at_call 11; refine (pprom_nil _ _ _).mono ?_; rintro r w3 ⟨rfl, hw3⟩; rw [hw3]; clear hw3)
    | (go_at_call 17; refine (pcho_nil _ _).mono ?_; rintro r w2 ⟨rfl, hw2⟩; rw [hw2]; clear hw2))
  go_ret
  exact ⟨rfl, bmm (bmm BW.out BW.out.size b7) (bmm BW.out BW.out.size b7).size b9⟩
end Go.Proofs.Ytmlgoecdefeapaa
