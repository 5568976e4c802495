/-
  Which commands may be, by the document's own (package latchkeyref03): for every command. No condition.
-/
import Derived.Test.YtdhlbldmdeepiaaGreatDoorRCmMayA
import Derived.Test.YtdhlbldmdeepiaaGreatDoorRCmMayB
import Derived.Test.YtdhlbldmdeepiaaGreatDoorRCmMayC
import Derived.Test.YtdhlbldmdeepiaaGreatDoorRCmMayD
namespace Go.Proofs.YtdhlbldmdeepiaaGreatDoor
open Go.RowKit

theorem kind_cases (K : Int) : (K < 0 ∨ 12 < K) ∨ K = 0 ∨ K = 1 ∨ K = 2 ∨ K = 3 ∨ K = 4 ∨ K = 5 ∨ K = 6 ∨ K = 7 ∨ K = 8 ∨ K = 9 ∨ K = 10 ∨ K = 11 ∨ K = 12 := by omega
theorem rmay_any (K S Q N : Int) (T : ByteArray) (w : World) :
    Calls Tryz.prog 101 #[.agg #[.int .i64 K, .int .i64 S, .int .i64 Q, .string T, .int .i64 N]] w fun e w' => e = .returned (.bool (mayB ⟨K, S, Q, T, N⟩)) ∧ Below w.heap.size w w' := by
  rcases kind_cases K with h | rfl | rfl | rfl | rfl | rfl | rfl | rfl | rfl | rfl | rfl | rfl | rfl | rfl
  · exact rmay_no K S Q N T h w
  · exact rmay_0 S Q N T w
  · exact rmay_1 S Q N T w
  · exact rmay_2 S Q N T w
  · exact rmay_3 S Q N T w
  · exact rmay_4 S Q N T w
  · exact rmay_5 S Q N T w
  · exact rmay_6 S Q N T w
  · exact rmay_7 S Q N T w
  · exact rmay_8 S Q N T w
  · exact rmay_9 S Q N T w
  · exact rmay_10 S Q N T w
  · exact rmay_11 S Q N T w
  · exact rmay_12 S Q N T w
end Go.Proofs.YtdhlbldmdeepiaaGreatDoor
