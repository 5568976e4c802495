/-
  What the rows' list of package-level variables gives: package frame's table and package snap's three errors lie in memory ('Env'), and a world for the witnesses that holds all listed ones. No condition.
-/
import Derived.Test.YtkdglkaeglhibaaGreatDoorCards
import Derived.Test.YtkdglkaeglhibaaGreatDoorTie
import Derived.Test.YtkdglkaeglhibaaGreatDoorPSvIs
import Derived.ProofKit
import Derived.OpenShut
import Derived.Deep.DeepHandedRow
import Derived.Deep.DeepWitnessRowRef
import Derived.Lib.LaidTab
import Derived.Lay
import Derived.LaidSub
import Derived.MakeChecks
import Derived.Stop.LaidTwo
namespace Go.Proofs.YtkdglkaeglhibaaGreatDoor
open Go.ChangeShapes Go.WideShapes Go.ChangeAt Go.RowKit Go.Extern.Stop Go.Stop Go.Extern

theorem own : ownKnob Tryz.prog.godebug = none := by kernel_rfl
theorem gTab : Tryz.prog.globalNamed "latchkey/frame.halves" = some 3 := by kernel_rfl
theorem gTabType : (Tryz.prog.globals[3]?).map (·.type) = some 156 := by kernel_rfl
theorem cellsA16 : Tryz.prog.cellsOf 156 = 16 := by kernel_rfl
theorem cellsU32 : Tryz.prog.cellsOf 111 = 1 := by kernel_rfl
def tabNumbers : List Int := [0, 498536548, 997073096, 651767980, 1994146192, 1802195444, 1303535960, 1342533948, 3988292384, 4027552580, 3604390888, 3412177804, 2607071920, 2262029012, 2685067896, 3183342108]
theorem tabNumbers_are : ∀ i, i < 16 → tabNumbers.getD i 0 = ((bitSteps 4 i : Nat) : Int) := by decide +kernel
theorem laid_plain : (Rows.snapPlaysRow.laid.all fun x => x.2.handleName?.isNone) = true := by kernel_rfl
theorem laid_halves : (Rows.snapPlaysRow.laid.filter fun x => x.1 == "latchkey/frame.halves") = [("latchkey/frame.halves", Rows.laid_latchkey_frame_halves)] := by kernel_rfl
theorem tab_of {W : World} (h0 : laidMetH Tryz.prog Rows.snapPlaysRow.laid W) : Tab W := by
  rw [MakeChecks.laidMetH_plain _ _ _ laid_plain] at h0
  have h := h0.filter (fun x => x.1 == "latchkey/frame.halves")
  rw [laid_halves] at h
  have ht : Lib.TabIs Tryz.prog W "latchkey/frame.halves" .u32 tabNumbers :=
    Lib.tabIs_of_head (rest := []) gTab gTabType Tryz.underlying156 Tryz.underlying111 cellsU32 cellsA16 h
  have hc : ∀ i, i < 16 → W.cell? ⟨3, i, none⟩ = some (.int .u32 ((bitSteps 4 i : Nat) : Int)) := fun i hi => by
    rw [ht.cell gTab i hi, tabNumbers_are i hi]
  exact ⟨World.block_lt_of_cell? W _ (hc 0 (by decide)), hc⟩
theorem gE0 : Tryz.prog.globalNamed "latchkey/snap.errNoDisk" = some 0 := by kernel_rfl
theorem gE1 : Tryz.prog.globalNamed "latchkey/snap.errNoFile" = some 1 := by kernel_rfl
theorem gE2 : Tryz.prog.globalNamed "latchkey/snap.errNotSaved" = some 2 := by kernel_rfl
theorem gE0T : (Tryz.prog.globals[0]?).map (·.type) = some 75 := by kernel_rfl
theorem gE1T : (Tryz.prog.globals[1]?).map (·.type) = some 75 := by kernel_rfl
theorem gE2T : (Tryz.prog.globals[2]?).map (·.type) = some 75 := by kernel_rfl
theorem cellsE : Tryz.prog.cellsOf 187 = 1 := by kernel_rfl
theorem cellsS : Tryz.prog.cellsOf 9 = 1 := by kernel_rfl
theorem starE : "*" ++ "errors.errorString" = "*errors.errorString" := by decide
theorem rowE (u : TypeId) (h : Tryz.prog.typeName? 3 u = some "*errors.errorString") : u = 165 :=
  typeName_ptr_named (nm := "errors.errorString") (by rw [starE]; kernel_rfl) (by kernel_rfl) (by decide) u (by rw [starE]; exact h)
theorem laid_01 : (Rows.snapPlaysRow.laid.filter fun x => x.1 == "latchkey/snap.errNoDisk" || x.1 == "latchkey/snap.errNoFile") = [("latchkey/snap.errNoDisk", Rows.laid_latchkey_snap_errNoDisk), ("latchkey/snap.errNoFile", Rows.laid_latchkey_snap_errNoFile)] := by kernel_rfl
theorem laid_02 : (Rows.snapPlaysRow.laid.filter fun x => x.1 == "latchkey/snap.errNoDisk" || x.1 == "latchkey/snap.errNotSaved") = [("latchkey/snap.errNoDisk", Rows.laid_latchkey_snap_errNoDisk), ("latchkey/snap.errNotSaved", Rows.laid_latchkey_snap_errNotSaved)] := by kernel_rfl
theorem laid_12 : (Rows.snapPlaysRow.laid.filter fun x => x.1 == "latchkey/snap.errNoFile" || x.1 == "latchkey/snap.errNotSaved") = [("latchkey/snap.errNoFile", Rows.laid_latchkey_snap_errNoFile), ("latchkey/snap.errNotSaved", Rows.laid_latchkey_snap_errNotSaved)] := by kernel_rfl
theorem var_one {W : World} {n : String} {T : TypeId} {a a' : Addr} (h : W.var? Tryz.prog n = some #[.iface T (.pointer (some a))]) (h' : W.var? Tryz.prog n = some #[.iface T (.pointer (some a'))]) : a' = a := by
  have := h.symm.trans h'
  simpa using this.symm
theorem var_cell {W : World} {n : String} {g : Nat} {v : Value} (hg : Tryz.prog.globalNamed n = some g) (h : W.var? Tryz.prog n = some #[v]) : W.cell? ⟨g, 0, none⟩ = some v := by
  simpa using World.var?_cell hg h 0
theorem env_of {W : World} (h0 : laidMetH Tryz.prog Rows.snapPlaysRow.laid W) : Env W W.heap.size := by
  have hT := tab_of h0
  rw [MakeChecks.laidMetH_plain _ _ _ laid_plain] at h0
  have h01 := h0.filter (fun x => x.1 == "latchkey/snap.errNoDisk" || x.1 == "latchkey/snap.errNoFile")
  have h02 := h0.filter (fun x => x.1 == "latchkey/snap.errNoDisk" || x.1 == "latchkey/snap.errNotSaved")
  have h12 := h0.filter (fun x => x.1 == "latchkey/snap.errNoFile" || x.1 == "latchkey/snap.errNotSaved")
  rw [laid_01] at h01
  rw [laid_02] at h02
  rw [laid_12] at h12
  obtain ⟨a0, a1, _, _, _, _, _, _, v0, v1, _, _, _, _, _, _, n01, r0, r1⟩ := laid_sentinels2 h01 gE0 gE0T gE1 gE1T Tryz.underlying75 rowE Tryz.underlying165 Tryz.underlying187 rfl rfl Tryz.underlying9 cellsE cellsS
  obtain ⟨b0, a2, _, _, _, _, _, _, u0, v2, _, _, _, _, _, _, n02, _, r2⟩ := laid_sentinels2 h02 gE0 gE0T gE2 gE2T Tryz.underlying75 rowE Tryz.underlying165 Tryz.underlying187 rfl rfl Tryz.underlying9 cellsE cellsS
  obtain ⟨b1, b2, _, _, _, _, _, _, u1, u2, _, _, _, _, _, _, n12, _, _⟩ := laid_sentinels2 h12 gE1 gE1T gE2 gE2T Tryz.underlying75 rowE Tryz.underlying165 Tryz.underlying187 rfl rfl Tryz.underlying9 cellsE cellsS
  rw [var_one v0 u0] at n02
  rw [var_one v1 u1, var_one v2 u2] at n12
  have l4 : 4 ≤ W.heap.size := hT.1
  exact ⟨⟨a0, a1, a2, var_cell gE0 v0, var_cell gE1 v1, var_cell gE2 v2, ⟨_, _, r0⟩, ⟨_, _, r1⟩, ⟨_, _, r2⟩, lt_of_block r0, lt_of_block r1, lt_of_block r2, n01, n02, n12⟩, hT, l4, Nat.le_refl _⟩
/-- A world for a witness. -/
noncomputable abbrev laidWorld (os : Os) : World := World.laidAll Tryz.prog os Rows.snapPlaysRow.laid
theorem laid_fits (os : Os) : (World.holding Tryz.prog os ⟨#[], #[], []⟩).layFits Tryz.prog Rows.snapPlaysRow.laid [] = true := by kernel_rfl
theorem laid_ifaces (os : Os) : (World.holding Tryz.prog os ⟨#[], #[], []⟩).layIfaces Tryz.prog Rows.snapPlaysRow.laid (laidWorld os) = true := by kernel_rfl
theorem laid_met (os : Os) (args : Array Value) : laidMet Tryz.prog Rows.snapPlaysRow.laid ((laidWorld os).forCall (fun _ _ => 0) ⟨#[], args, []⟩).memory := laidMet_laidAll args (laid_fits os) (laid_ifaces os)
theorem laidOut : laidOutB Tryz.prog = true := by kernel_rfl
end Go.Proofs.YtkdglkaeglhibaaGreatDoor
