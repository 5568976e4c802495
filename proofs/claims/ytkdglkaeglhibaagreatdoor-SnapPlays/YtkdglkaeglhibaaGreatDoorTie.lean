/-
  DERIVED. GIVEN WITH THE SEED: THE PROGRAM's TIES (one call each: nine closed facts by the kernel) AND EACH ROW's TIE, after the 31st guide's Derived/Test/Toyas{Tie, Card}.lean. No idea stands in it: it is a product of the set-up. Laid BY PROGRAM, IN A SANDBOX (cutbox-door.mjs). By AI agents, Wed Nov 11 2026. No macro, syntax, notation, axiom, sorry.
-/
import Derived.Test.YtkdglkaeglhibaaGreatDoorRows
import Derived.LaidByTextLater
import Derived.SevenTiedAt
import Derived.LaidSub
import Derived.LaidOnce
namespace Go.Proofs.YtkdglkaeglhibaaGreatDoor
open Go
set_option maxRecDepth 100000
theorem seatTie1 : Tryz.prog.laidByTextLater [("latchkey/frame.halves", Rows.laid_latchkey_frame_halves), ("latchkey/snap.errNoDisk", Rows.laid_latchkey_snap_errNoDisk), ("latchkey/snap.errNoFile", Rows.laid_latchkey_snap_errNoFile), ("latchkey/snap.errNotSaved", Rows.laid_latchkey_snap_errNotSaved)] [.data, .sentinel, .sentinel, .sentinel] true :=
  Program.laidByTextLater_by_one 71 8 17 (by kernel_rfl) (by kernel_rfl) (by kernel_rfl) (by kernel_rfl) (by kernel_rfl) (by kernel_rfl) (fun _ _ => by kernel_rfl)
theorem noOwnUnsafe : Tryz.pinned.checked.prog.headLifts.contains "ownunsafe" = false := by kernel_rfl
theorem tie : Tryz.prog.laidByTextLater [("latchkey/frame.halves", Rows.laid_latchkey_frame_halves), ("latchkey/snap.errNoDisk", Rows.laid_latchkey_snap_errNoDisk), ("latchkey/snap.errNoFile", Rows.laid_latchkey_snap_errNoFile), ("latchkey/snap.errNotSaved", Rows.laid_latchkey_snap_errNotSaved)] [.data, .sentinel, .sentinel, .sentinel] true :=
  Program.laidByTextLater.sub seatTie1 ["latchkey/frame.halves", "latchkey/snap.errNoDisk", "latchkey/snap.errNoFile", "latchkey/snap.errNotSaved"] (by kernel_rfl) (by kernel_rfl)
theorem snapPlays_row_tie : Rows.snapPlaysRow.laidByTextAt .later Tryz.pinned [.data, .sentinel, .sentinel, .sentinel] true :=
  OpenClaim.laidByTextAt_later rfl rfl tie noOwnUnsafe
theorem snapPlaysUpto_row_tie : Rows.snapPlaysUptoRow.laidByTextAt .later Tryz.pinned [.data, .sentinel, .sentinel, .sentinel] true :=
  OpenClaim.laidByTextAt_later rfl rfl tie noOwnUnsafe
end Go.Proofs.YtkdglkaeglhibaaGreatDoor
