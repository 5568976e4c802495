/-
  DiskNone of layer 5, walked: a disk that is none. No condition.
-/
import Derived.Test.YtihlbdjghofblaaQAwake
namespace Go.Proofs.Ytihlbdjghofblaa
open Go.RowKit

theorem bel_alloc {w w' : World} {o : Obj} (b : Below (w.alloc o).heap.size (w.alloc o) w') : Below w.heap.size w w' :=
  ⟨b.os, b.tape, b.output, by have := b.size; simp at this; omega, fun k hk => (b.block k (by simp; omega)).trans (heap_alloc_old w o hk)⟩
set_option maxHeartbeats 3200000 in
set_option maxRecDepth 100000 in
theorem none_walk (K N : Int) (F T S : ByteArray) (w : World) :
    Calls Try.prog 7 #[.agg #[.int .i64 K, .int .i64 N, .string F, .string T, .string S]] w fun e w' => e = .returned (.bool true) ∧ Below w.heap.size w w' := by
  go_enter Try.func7, Try.ntmps7
  go_wp2_with (first
    | (go_at_call 11; refine (awake_any _).mono ?_; rintro e w9 ⟨rfl, bel⟩)
    | (go_at_call 19; refine (files_nil _).mono ?_; rintro e w1 ⟨rfl, rfl⟩)
    | (go_at_call 16; refine (unsynced_nil _ _).mono ?_; rintro e w1 ⟨rfl, rfl⟩)
    | (go_at_call 18; refine (rename_nil _ _ _).mono ?_; rintro e w1 ⟨rfl, rfl⟩)
    | (go_at_call 17; refine (remove_nil _ _).mono ?_; rintro e w1 ⟨rfl, rfl⟩)
    | (go_at_call 13; refine (sync_nil _ _).mono ?_; rintro e w1 ⟨rfl, rfl⟩)
    | (go_at_call 12; refine (append_nil _ _ _).mono ?_; rintro e w1 ⟨rfl, rfl⟩)
    | (go_at_call 15; refine (read_nil _ _).mono ?_; rintro e w1 ⟨rfl, rfl⟩)
    | (go_at_call 14; refine (crash_nil _ _).mono ?_; rintro e w1 ⟨rfl, rfl⟩))
  go_ret
  exact ⟨rfl, bel_alloc bel⟩
end Go.Proofs.Ytihlbdjghofblaa
