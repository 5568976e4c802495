/-
  What the rows' list of package-level variables gives: package frame's table lies in memory ('Tab'), and a world for the witnesses that holds it. No condition.
-/
import Derived.Test.YtpokiijbhmmmaaaDoorCards
import Derived.Test.YtpokiijbhmmmaaaDoorTie
import Derived.Test.YtpokiijbhmmmaaaDoorFAwake
import Derived.ProofKit
import Derived.OpenShut
import Derived.Deep.DeepHandedRow
import Derived.Lib.LaidTab
namespace Go.Proofs.YtpokiijbhmmmaaaDoor
open Go.ChangeShapes Go.WideShapes Go.ChangeAt Go.RowKit

theorem own : ownKnob Tryd.prog.godebug = none := by kernel_rfl
theorem gTab : Tryd.prog.globalNamed "latchkey/frame.halves" = some 0 := by kernel_rfl
theorem gTabType : (Tryd.prog.globals[0]?).map (·.type) = some 49 := by kernel_rfl
theorem cells49 : Tryd.prog.cellsOf 49 = 16 := by kernel_rfl
theorem cells45 : Tryd.prog.cellsOf 45 = 1 := by kernel_rfl

def tabNumbers : List Int := [0, 498536548, 997073096, 651767980, 1994146192, 1802195444, 1303535960, 1342533948, 3988292384, 4027552580, 3604390888, 3412177804, 2607071920, 2262029012, 2685067896, 3183342108]
theorem tabNumbers_are : ∀ i, i < 16 → tabNumbers.getD i 0 = ((bitSteps 4 i : Nat) : Int) := by decide +kernel

theorem tab_of {W : World} (h : laidMetH Tryd.prog [("latchkey/frame.halves", Rows.laid_latchkey_frame_halves)] W) : Tab W := by
  have ht : Lib.TabIs Tryd.prog W "latchkey/frame.halves" .u32 tabNumbers :=
    Lib.tabIs_of_head (rest := []) gTab gTabType Tryd.underlying49 Tryd.underlying45 cells45 cells49 h
  have hc : ∀ i, i < 16 → W.cell? ⟨0, i, none⟩ = some (.int .u32 ((bitSteps 4 i : Nat) : Int)) := fun i hi => by
    rw [ht.cell gTab i hi, tabNumbers_are i hi]
  exact ⟨World.block_lt_of_cell? W _ (hc 0 (by decide)), hc⟩

/-- A world for a witness: the settled one, the table (block 0) holding what its initialiser lays. -/
noncomputable def laidWorld (os : Os) : World :=
  { World.holding Tryd.prog os ⟨#[], #[], []⟩ with heap := (World.holding Tryd.prog os ⟨#[], #[], []⟩).heap.modify 0 fun
      | .cells _ t frozen => .cells #[.int .u32 0, .int .u32 498536548, .int .u32 997073096, .int .u32 651767980, .int .u32 1994146192, .int .u32 1802195444, .int .u32 1303535960, .int .u32 1342533948, .int .u32 3988292384, .int .u32 4027552580, .int .u32 3604390888, .int .u32 3412177804, .int .u32 2607071920, .int .u32 2262029012, .int .u32 2685067896, .int .u32 3183342108] t frozen
      | o => o }
end Go.Proofs.YtpokiijbhmmmaaaDoor
