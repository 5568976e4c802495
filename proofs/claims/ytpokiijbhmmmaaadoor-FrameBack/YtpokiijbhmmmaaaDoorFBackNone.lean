/-
  FrameBack, no text at all: nothing is laid and nothing is read; the call answers true. The condition: package frame's table lies in memory.
-/
import Derived.Test.YtpokiijbhmmmaaaDoorFBackHead
namespace Go.Proofs.YtpokiijbhmmmaaaDoor.frameBack
open Go.RowKit

theorem all_nothing (Z : ByteArray) (hZ : Z.data.toList = []) (w0 : World) (hT : Tab w0) :
    Calls Tryd.prog 14 #[.string Z] w0 fun e w' => ∃ ad cp, e = .returned (.tuple #[.slice ad 0 cp, .int .i64 0]) ∧ Below w0.heap.size w0 w' := by
  have hZs : Z.size ≤ 1099511627776 := by rw [Lib.size_eq, hZ]; decide
  refine (frameOk.all Z w0 hZs hT).mono fun e w' ⟨v, he, ht, hb⟩ => ?_
  rw [hZ] at he ht
  have e0 : allT [] = ([], 0) := rfl
  rw [e0] at he ht
  obtain ⟨ad, cp, rfl, _⟩ := shape ht
  exact ⟨ad, cp, he, hb⟩

set_option maxHeartbeats 1600000 in
set_option maxRecDepth 100000 in
theorem walk_none (a : Option Addr) (cap : Nat) (cut : Int) (w : World) (t0 : Tab w) :
    Calls Tryd.prog 5 #[.slice a 0 cap, .int .i64 cut] w fun e w' => e = .returned (.bool true) ∧ Below w.heap.size w w' := by
  have qa := awake_any frameOk
  have ta : Tab (w.alloc (.cells #[.int .i64 0] 3)) := t0.below ((Below.refl _ w).alloc (Nat.le_refl _) _)
  have ba : Below w.heap.size w (w.alloc (.cells #[.int .i64 0] 3)) := (Below.refl _ w).alloc (Nat.le_refl _) _
  have qA := all_nothing ByteArray.empty rfl _ ta
  have hcell : (w.alloc (.cells #[.int .i64 0] 3)).cell? ⟨w.heap.size, 0, none⟩ = some (.int .i64 0) := by simp
  rcases (show cut < 0 ∨ cut = 0 ∨ 0 < cut by omega) with hc | hc | hc
  all_goals (
    go_enter Tryd.func5, Tryd.ntmps5
    go_wp2
    refine wp_loop_rounds 1 ?_
    rw [rounds_succ]
    go_wp2_with (go_at_call 14; refine qA.mono ?_; rintro e w1 ⟨ad, cp, rfl, b1⟩)
    have t1 := ta.below b1
    have b1' := ba.trans (b1.mono ba.size)
    have c1 : w1.cell? ⟨w.heap.size, 0, none⟩ = some (.int .i64 0) := (b1.cell (by simp)).trans hcell
    refine wp_loop_rounds 1 ?_
    rw [rounds_succ]
    go_wp2
    refine wp_loop_rounds 1 ?_
    rw [rounds_succ]
    go_wp2_with (go_at_call 7; refine (qa _ (by exact t1)).mono ?_; rintro e w2 ⟨rfl, b2⟩)
    go_ret
    exact ⟨rfl, bm b1' b2⟩)
end Go.Proofs.YtpokiijbhmmmaaaDoor.frameBack
