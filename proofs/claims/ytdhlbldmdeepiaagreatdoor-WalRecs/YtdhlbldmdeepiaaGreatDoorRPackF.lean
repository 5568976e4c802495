/-
  Parts of the proof, laid together: WtTab, WtOpen, WtRec. The conditions stand at each part.
-/
import Derived.ProofKit
import Derived.OpenShut
import Derived.Deep.DeepHandedRow
import Derived.Deep.DeepWitnessRowRef
import Derived.Lib.LaidTab
import Derived.Lay
import Derived.LaidSub
import Derived.MakeChecks
import Derived.Test.YtdhlbldmdeepiaaGreatDoorCards
import Derived.Test.YtdhlbldmdeepiaaGreatDoorTie
import Derived.Test.YtdhlbldmdeepiaaGreatDoorRPackA
import Derived.Test.YtdhlbldmdeepiaaGreatDoorRPackD
import Derived.Test.YtdhlbldmdeepiaaGreatDoorRPackE
/-
  What the rows' list of package-level variables gives: package frame's table lies in memory ('Tab'), and a world for the witnesses that holds all listed ones. No condition.
-/
namespace Go.Proofs.YtdhlbldmdeepiaaGreatDoor
open Go.ChangeShapes Go.WideShapes Go.ChangeAt Go.RowKit

theorem own : ownKnob Tryz.prog.godebug = none := by kernel_rfl
theorem gTab : Tryz.prog.globalNamed "latchkey/frame.halves" = some 0 := by kernel_rfl
theorem gTabType : (Tryz.prog.globals[0]?).map (·.type) = some 214 := by kernel_rfl
theorem cellsA16 : Tryz.prog.cellsOf 214 = 16 := by kernel_rfl
theorem cellsU32 : Tryz.prog.cellsOf 186 = 1 := by kernel_rfl
def tabNumbers : List Int := [0, 498536548, 997073096, 651767980, 1994146192, 1802195444, 1303535960, 1342533948, 3988292384, 4027552580, 3604390888, 3412177804, 2607071920, 2262029012, 2685067896, 3183342108]
theorem tabNumbers_are : ∀ i, i < 16 → tabNumbers.getD i 0 = ((bitSteps 4 i : Nat) : Int) := by decide +kernel
theorem laid_plain : (Rows.walNoneRow.laid.all fun x => x.2.handleName?.isNone) = true := by kernel_rfl
theorem laid_halves : (Rows.walNoneRow.laid.filter fun x => x.1 == "latchkey/frame.halves") = [("latchkey/frame.halves", Rows.laid_latchkey_frame_halves)] := by kernel_rfl
theorem tab_of {W : World} (h0 : laidMetH Tryz.prog Rows.walNoneRow.laid W) : Tab W := by
  rw [MakeChecks.laidMetH_plain _ _ _ laid_plain] at h0
  have h := h0.filter (fun x => x.1 == "latchkey/frame.halves")
  rw [laid_halves] at h
  have ht : Lib.TabIs Tryz.prog W "latchkey/frame.halves" .u32 tabNumbers :=
    Lib.tabIs_of_head (rest := []) gTab gTabType Tryz.underlying214 Tryz.underlying186 cellsU32 cellsA16 h
  have hc : ∀ i, i < 16 → W.cell? ⟨0, i, none⟩ = some (.int .u32 ((bitSteps 4 i : Nat) : Int)) := fun i hi => by
    rw [ht.cell gTab i hi, tabNumbers_are i hi]
  exact ⟨World.block_lt_of_cell? W _ (hc 0 (by decide)), hc⟩
/-- A world for a witness. -/
noncomputable abbrev laidWorld (os : Os) : World := World.laidAll Tryz.prog os Rows.walNoneRow.laid
theorem laid_fits (os : Os) : (World.holding Tryz.prog os ⟨#[], #[], []⟩).layFits Tryz.prog Rows.walNoneRow.laid [] = true := by kernel_rfl
theorem laid_ifaces (os : Os) : (World.holding Tryz.prog os ⟨#[], #[], []⟩).layIfaces Tryz.prog Rows.walNoneRow.laid (laidWorld os) = true := by kernel_rfl
theorem laid_met (os : Os) (args : Array Value) : laidMet Tryz.prog Rows.walNoneRow.laid ((laidWorld os).forCall (fun _ _ => 0) ⟨#[], args, []⟩).memory := laidMet_laidAll args (laid_fits os) (laid_ifaces os)
end Go.Proofs.YtdhlbldmdeepiaaGreatDoor
/-
  What layer 11's laws are handed, opened: a record, a row of records. No condition.
-/
namespace Go.Proofs.YtdhlbldmdeepiaaGreatDoor
open Go.ChangeShapes Go.WideShapes Go.ChangeAt Go.RowKit Go.Joins Go.Deep

theorem laidOut : laidOutB Tryz.prog = true := by kernel_rfl
theorem kcRec : Tryz.prog.cellsOf 27 = 9 := by kernel_rfl
section
variable {H : Type} {enc : TypeId × Value → H} {w : World}
set_option maxRecDepth 100000 in
theorem rec_cells {base : Nat} {spare : Nat → Bool} {held : Bool} {fuel : Nat} {cs : List Value} {x : DataW H × List MemPlace} (h : DataW.trod enc Tryz.prog w base spare held fuel 27 cs = some x) : ∃ r : Rc, cs = rcC r ∧ r.en.cmd.name.size ≤ maxLen := by
  obtain ⟨y0, y1, y2, n, _, hl, h0, h1, h2⟩ := Go.Deep.trod_struct3 Tryz.underlying27 h
  rw [kcRec] at hl
  match cs, hl with
  | [a0, a1, a2, a3, a4, a5, a6, a7, a8], _ =>
    simp only [cells3, cells25] at h0 h1 h2
    obtain ⟨K, e0, _⟩ := DataW.trod_int Tryz.underlying3 h0
    obtain ⟨M, e1, _⟩ := DataW.trod_int Tryz.underlying3 h1
    obtain ⟨A, B, k, S, Q, T, N, e2, hT⟩ := entry_cells h2
    simp at e0 e1 e2
    obtain ⟨rfl, rfl, rfl, rfl, rfl, rfl, rfl⟩ := e2
    subst e0 e1
    exact ⟨⟨K, M, ⟨A, B, ⟨k, S, Q, T, N⟩⟩⟩, rfl, hT⟩
end
end Go.Proofs.YtdhlbldmdeepiaaGreatDoor
/-
  A record that came in, opened. No condition.
-/
namespace Go.Proofs.YtdhlbldmdeepiaaGreatDoor
open Go.ChangeShapes Go.WideShapes Go.ChangeAt Go.RowKit Go.Joins Go.Deep

set_option maxRecDepth 100000 in
theorem open_rec {H : Type} {enc : TypeId × Value → H} {w : World} {r : Reach} {b0 b1 : Nat} {spare : Nat → Bool} {held : Bool} {v : Value} {d : DataW H} {p : List MemPlace}
    (hv : Value.okWide Tryz.prog w r b0 27 v) (h : DataW.Trod enc Tryz.prog w b1 spare held 27 v d p) :
    ∃ q : Rc, v = .agg #[.int .i64 q.kind, .int .i64 q.n, .int .i64 q.en.slot, .int .i64 q.en.ballot, .int .i64 q.en.cmd.kind, .int .i64 q.en.cmd.session, .int .i64 q.en.cmd.seq, .string q.en.cmd.name, .int .i64 q.en.cmd.n] := by
  obtain ⟨cs, rfl, _⟩ := okWide_struct Tryz.underlying27 hv
  obtain ⟨fuel, hf⟩ := h
  obtain ⟨q, e, _⟩ := rec_cells hf
  refine ⟨q, ?_⟩
  have e' : cs.toList = rcC q := by simpa [Value.cells] using e
  rw [← Array.toArray_toList (xs := cs), e']
  rfl
end Go.Proofs.YtdhlbldmdeepiaaGreatDoor
