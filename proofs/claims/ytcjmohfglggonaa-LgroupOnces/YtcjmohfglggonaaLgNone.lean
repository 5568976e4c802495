/-
  LgroupNone of layer 9, walked: things that are none. No condition.
-/
import Derived.Test.YtcjmohfglggonaaLgAwake
namespace Go.Proofs.Ytcjmohfglggonaa
open Go.RowKit

set_option maxHeartbeats 6400000 in
set_option maxRecDepth 100000 in
theorem gnone_walk (t k : Int) (r : Bool) (w : World) :
    Calls Try.prog 7 #[.agg #[.int .i64 t, .int .i64 k, .bool r]] w fun e w' => e = .returned (.bool true) ∧ Below w.heap.size w w' := by
  have C0 : Hid ((w.alloc (.cells #[.int .i64 t, .int .i64 k, .bool r] 30)).cell? ⟨w.heap.size, 0, none⟩ = some (.int .i64 t)) := World.cell?_alloc_new w _ _ 0
  go_enter Try.func7, Try.ntmps7
  go_wp2_with (first
    | (go_at_call 16; refine (awake9_any _).mono ?_; rintro e w9 ⟨rfl, b9⟩)
    | (go_at_call 15; refine (pg_queue_nil _).mono ?_; rintro e w8 ⟨u8, rfl, r8, b8⟩; obtain ⟨a8, c8, rfl⟩ := r8.none0)
    | (go_at_call 14; refine (pg_count_nil _).mono ?_; rintro e w7 ⟨rfl, rfl⟩)
    | (go_at_call 23; refine (po_state_nil _).mono ?_; rintro e w6 ⟨rfl, rfl⟩)
    | (go_at_call 19; refine (po_done_nil _ _).mono ?_; rintro e w5 ⟨u5, rfl, b5⟩)
    | (go_at_call 21; refine (po_do_nil _ _).mono ?_; rintro e w4 ⟨g4, h4, rfl, rfl⟩)
    | (go_at_call 9; refine (pg_wait_nil _ _).mono ?_; rintro e w3 ⟨g3, rfl, rfl⟩)
    | (go_at_call 11; refine (pg_add_nil _ _).mono ?_; rintro e w2 ⟨u2, rfl, b2⟩; have y0 := (b2.cell (p := ⟨w.heap.size, 0, none⟩) (by simp)).trans C0.out))
  go_ret
  exact ⟨rfl, bel_box (bmm (bmm (bmm b2 b2.size b5) (Nat.le_trans b2.size b5.size) b8) (Nat.le_trans (Nat.le_trans b2.size b5.size) b8.size) b9)⟩
end Go.Proofs.Ytcjmohfglggonaa
