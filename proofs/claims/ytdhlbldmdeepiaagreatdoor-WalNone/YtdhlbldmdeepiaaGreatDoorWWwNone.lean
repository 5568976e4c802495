/-
  WalNone of layer 11, walked: a log that is none. The condition: package frame's table lies in memory.
-/
import Derived.Test.YtdhlbldmdeepiaaGreatDoorWWwAwake
namespace Go.Proofs.YtdhlbldmdeepiaaGreatDoor
open Go.RowKit

set_option maxHeartbeats 3200000 in
set_option maxRecDepth 100000 in
theorem none_walk (a : Option Addr) (n cap : Nat) (w : World) (hT : Tab w) : Calls Tryz.prog 7 #[.slice a n cap] w fun e w' => e = .returned (.bool true) ∧ Below w.heap.size w w' := by
  have qa := awake_any w hT
  go_enter Tryz.func7, Tryz.ntmps7
  go_wp2_with (first
    | (go_at_call 12; refine qa.mono ?_; rintro e w' ⟨rfl, b⟩)
    | (go_at_call 26; refine (segment_nil _).mono ?_; rintro e w' ⟨rfl, rfl⟩)
    | (go_at_call 19; refine (reset_nil _ _).mono ?_; rintro e w' ⟨rfl, rfl⟩)
    | (go_at_call 18; refine (write_nil _ _).mono ?_; rintro e w' ⟨rfl, rfl⟩)
    | (go_at_call 16; refine (wappend_nil _ _ _ _).mono ?_; rintro e w' ⟨rfl, rfl⟩)
    | (go_at_call 14; refine (open_nil _).mono ?_; rintro e w' ⟨rfl, rfl⟩))
  go_ret
  exact ⟨rfl, b⟩
end Go.Proofs.YtdhlbldmdeepiaaGreatDoor
