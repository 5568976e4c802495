/-
  DERIVED. GIVEN WITH THE SEED: THE CARDS: each row of YtkdglkaeglhibaaDoorRows.lean that lists a variable, with what it lists TIED to the program's text (the seventh form; the later family's looks); each row that meets fmt, with fmt's text TOLD by the authors' own Lean function (tested against real Go, not proved from fmt's source: count such statements apart). THE CARD IS WHAT COUNTS. Prove the row's statement (the work); the ties are given (YtkdglkaeglhibaaDoorTie.lean); close each card by the builder's one call (the guide's Derived/Test/ToyasCard.lean, 'card_holds'). Laid BY PROGRAM, IN A SANDBOX (cutbox-door.mjs). By AI agents, Wed Nov 11 2026. No macro, syntax, notation, axiom, sorry.
-/
import Derived.Test.YtkdglkaeglhibaaDoorRows
import GoSem.ClaimSeven
namespace Go.Proofs.YtkdglkaeglhibaaDoor
namespace Rows

/-- THE TIED CARD OF 'latchkeylaw12.SnapLast'. -/
def snapLastCard : Claim7 := { stood := { row := snapLastRow, standIns := [], harness := (true, "a90aa4a4a18c7963c2280286b47718cc929315703a818c667185f4c1ffc3e2be"), looks := true }, kinds := [], alts := [], laidByText := true, laidKinds := [.data, .sentinel, .sentinel, .sentinel], laidTests := true, laidLooks := .later }
def SnapLastCardSaid : Prop := Claim7.holds Tryd.pinned (.plain (OpenSpec.ofChange snapLastSpec)) snapLastCard

/-- THE TIED CARD OF 'latchkeylaw12.SnapTurned'. -/
def snapTurnedCard : Claim7 := { stood := { row := snapTurnedRow, standIns := [], harness := (true, "a90aa4a4a18c7963c2280286b47718cc929315703a818c667185f4c1ffc3e2be"), looks := true }, kinds := [], alts := [], laidByText := true, laidKinds := [.data, .sentinel, .sentinel, .sentinel], laidTests := true, laidLooks := .later }
def SnapTurnedCardSaid : Prop := Claim7.holds Tryd.pinned (.plain (OpenSpec.ofChange snapTurnedSpec)) snapTurnedCard

/-- THE SECOND FORM's CARD OF 'latchkeylaw12.SnapLast'. -/
def snapLastUptoCard : Claim7 := { stood := { row := snapLastUptoRow, standIns := [], harness := (true, "a90aa4a4a18c7963c2280286b47718cc929315703a818c667185f4c1ffc3e2be"), looks := true }, kinds := [], alts := [], laidByText := true, laidKinds := [.data, .sentinel, .sentinel, .sentinel], laidTests := true, laidLooks := .later }
def SnapLastUptoCardSaid : Prop := Claim7.holds Tryd.pinned (.plain (OpenSpec.upto snapLastSpec)) snapLastUptoCard

/-- THE SECOND FORM's CARD OF 'latchkeylaw12.SnapTurned'. -/
def snapTurnedUptoCard : Claim7 := { stood := { row := snapTurnedUptoRow, standIns := [], harness := (true, "a90aa4a4a18c7963c2280286b47718cc929315703a818c667185f4c1ffc3e2be"), looks := true }, kinds := [], alts := [], laidByText := true, laidKinds := [.data, .sentinel, .sentinel, .sentinel], laidTests := true, laidLooks := .later }
def SnapTurnedUptoCardSaid : Prop := Claim7.holds Tryd.pinned (.plain (OpenSpec.upto snapTurnedSpec)) snapTurnedUptoCard
end Rows
end Go.Proofs.YtkdglkaeglhibaaDoor
