/-
  NetNone of layer 6, walked: a net that is none. No condition.
-/
import Derived.Test.YtpbkpaendhpbfaaNtAwake
namespace Go.Proofs.Ytpbkpaendhpbfaa
open Go.RowKit

theorem nbel_alloc {w w' : World} {o : Obj} (b : Below (w.alloc o).heap.size (w.alloc o) w') : Below w.heap.size w w' :=
  ⟨b.os, b.tape, b.output, by have := b.size; simp at this; omega, fun k hk => (b.block k (by simp; omega)).trans (heap_alloc_old w o hk)⟩
set_option maxHeartbeats 3200000 in
set_option maxRecDepth 100000 in
theorem nnone_walk (K N : Int) (S : ByteArray) (w : World) :
    Calls Try.prog 7 #[.agg #[.int .i64 K, .int .i64 N, .string S]] w fun e w' => e = .returned (.bool true) ∧ Below w.heap.size w w' := by
  go_enter Try.func7, Try.ntmps7
  go_wp2_with (first
    | (go_at_call 24; refine (nawake_any _).mono ?_; rintro e w9 ⟨rfl, bel⟩)
    | (go_at_call 23; refine (pall_nil _).mono ?_; rintro e w1 ⟨rfl, rfl⟩)
    | (go_at_call 21; refine (plen_nil _).mono ?_; rintro e w1 ⟨rfl, rfl⟩)
    | (go_at_call 19; refine (pdouble_nil _ _).mono ?_; rintro e w1 ⟨rfl, rfl⟩)
    | (go_at_call 13; refine (psend_nil _ _).mono ?_; rintro e w1 ⟨rfl, rfl⟩)
    | (go_at_call 17; refine (ppeek_nil _ _).mono ?_; rintro e w1 ⟨rfl, rfl⟩)
    | (go_at_call 15; refine (ptake_nil _ _).mono ?_; rintro e w1 ⟨rfl, rfl⟩))
  go_ret
  exact ⟨rfl, nbel_alloc bel⟩
end Go.Proofs.Ytpbkpaendhpbfaa
