/-
  LmutexNone of layer 8, walked: locks that are none. No condition.
-/
import Derived.Test.YtlcacjekpdmigaaMxAwake
namespace Go.Proofs.Ytlcacjekpdmigaa
open Go.RowKit

theorem bel_box {w w' : World} {o : Obj} (b : Below (w.alloc o).heap.size (w.alloc o) w') : Below w.heap.size w w' :=
  ((Below.refl _ w).alloc (Nat.le_refl _) o).trans (b.mono (by simp))
theorem RowAt.none0 {α : Type} {enc : α → List Value} {w : World} {u : Value} (r : RowAt enc w u ([] : List α)) : ∃ a cap, u = .slice a 0 cap := r.form
set_option maxHeartbeats 6400000 in
set_option maxRecDepth 100000 in
theorem none_walk (t : Int) (u r : Bool) (w : World) :
    Calls Try.prog 7 #[.agg #[.int .i64 t, .bool u, .bool r]] w fun e w' => e = .returned (.bool true) ∧ Below w.heap.size w w' := by
  go_enter Try.func7, Try.ntmps7
  go_wp2_with (first
    | (go_at_call 17; refine (awake_any _).mono ?_; rintro e w9 ⟨rfl, b9⟩)
    | (go_at_call 25; refine (pr_queue_nil _).mono ?_; rintro e w8 ⟨u8, rfl, r8, b8⟩; obtain ⟨a8, c8, rfl⟩ := r8.none0)
    | (go_at_call 16; refine (pm_queue_nil _).mono ?_; rintro e w7 ⟨u7, rfl, r7, b7⟩; obtain ⟨a7, c7, rfl⟩ := r7.none0)
    | (go_at_call 14; refine (pm_holder_nil _).mono ?_; rintro e w6 ⟨rfl, rfl⟩)
    | (go_at_call 23; refine (pr_holders_nil _).mono ?_; rintro e w5 ⟨u5, rfl, r5, b5⟩; obtain ⟨a5, c5, rfl⟩ := r5.none0)
    | (go_at_call 19; refine (pr_unlock_nil _ _ _).mono ?_; rintro e w4 ⟨u4, rfl, r4, b4⟩; obtain ⟨a4, c4, rfl⟩ := r4.none0)
    | (go_at_call 21; refine (pr_lock_nil _ _ _).mono ?_; rintro e w3 ⟨g3, rfl, rfl⟩)
    | (go_at_call 10; refine (pm_unlock_nil _ _).mono ?_; rintro e w2 ⟨rfl, rfl⟩)
    | (go_at_call 12; refine (pm_lock_nil _ _).mono ?_; rintro e w1 ⟨g1, rfl, rfl⟩))
  go_ret
  exact ⟨rfl, bel_box (bmm (bmm (bmm (bmm b4 b4.size b5) (Nat.le_trans b4.size b5.size) b7) (Nat.le_trans (Nat.le_trans b4.size b5.size) b7.size) b8) (Nat.le_trans (Nat.le_trans (Nat.le_trans b4.size b5.size) b7.size) b8.size) b9)⟩
end Go.Proofs.Ytlcacjekpdmigaa
