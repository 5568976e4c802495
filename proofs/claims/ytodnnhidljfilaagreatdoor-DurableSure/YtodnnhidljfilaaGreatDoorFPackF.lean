/-
  Parts of the proof, laid together: DvTab, DvOpen. The conditions stand at each part.
-/
import Derived.ProofKit
import Derived.OpenShut
import Derived.Deep.DeepHandedRow
import Derived.Deep.DeepWitnessRowRef
import Derived.Lib.LaidTab
import Derived.Lay
import Derived.LaidSub
import Derived.MakeChecks
import Derived.Stop.LaidTwo
import Derived.Test.YtodnnhidljfilaaGreatDoorCards
import Derived.Test.YtodnnhidljfilaaGreatDoorTie
import Derived.Test.YtodnnhidljfilaaGreatDoorFPackA
import Derived.Test.YtodnnhidljfilaaGreatDoorFPackD
import Derived.Test.YtodnnhidljfilaaGreatDoorFPackI
import Derived.Test.YtodnnhidljfilaaGreatDoorFSvIs
/-
  What the rows' list of package-level variables gives: package frame's table and package snap's three errors lie in memory ('Env'), and a world for the witnesses that holds all listed ones. No condition.
-/
namespace Go.Proofs.YtodnnhidljfilaaGreatDoor
open Go.ChangeShapes Go.WideShapes Go.ChangeAt Go.RowKit Go.Extern.Stop Go.Stop Go.Extern

theorem own : ownKnob Tryz.prog.godebug = none := by kernel_rfl
theorem gTab : Tryz.prog.globalNamed "latchkey/frame.halves" = some 3 := by kernel_rfl
theorem gTabType : (Tryz.prog.globals[3]?).map (·.type) = some 278 := by kernel_rfl
theorem cellsA16 : Tryz.prog.cellsOf 278 = 16 := by kernel_rfl
theorem cellsU32 : Tryz.prog.cellsOf 198 = 1 := by kernel_rfl
def tabNumbers : List Int := [0, 498536548, 997073096, 651767980, 1994146192, 1802195444, 1303535960, 1342533948, 3988292384, 4027552580, 3604390888, 3412177804, 2607071920, 2262029012, 2685067896, 3183342108]
theorem tabNumbers_are : ∀ i, i < 16 → tabNumbers.getD i 0 = ((bitSteps 4 i : Nat) : Int) := by decide +kernel
theorem laid_plain : (Rows.durableNoneRow.laid.all fun x => x.2.handleName?.isNone) = true := by kernel_rfl
theorem laid_halves : (Rows.durableNoneRow.laid.filter fun x => x.1 == "latchkey/frame.halves") = [("latchkey/frame.halves", Rows.laid_latchkey_frame_halves)] := by kernel_rfl
theorem tab_of {W : World} (h0 : laidMetH Tryz.prog Rows.durableNoneRow.laid W) : Tab W := by
  rw [MakeChecks.laidMetH_plain _ _ _ laid_plain] at h0
  have h := h0.filter (fun x => x.1 == "latchkey/frame.halves")
  rw [laid_halves] at h
  have ht : Lib.TabIs Tryz.prog W "latchkey/frame.halves" .u32 tabNumbers :=
    Lib.tabIs_of_head (rest := []) gTab gTabType Tryz.underlying278 Tryz.underlying198 cellsU32 cellsA16 h
  have hc : ∀ i, i < 16 → W.cell? ⟨3, i, none⟩ = some (.int .u32 ((bitSteps 4 i : Nat) : Int)) := fun i hi => by
    rw [ht.cell gTab i hi, tabNumbers_are i hi]
  exact ⟨World.block_lt_of_cell? W _ (hc 0 (by decide)), hc⟩
theorem gE0 : Tryz.prog.globalNamed "latchkey/snap.errNoDisk" = some 0 := by kernel_rfl
theorem gE1 : Tryz.prog.globalNamed "latchkey/snap.errNoFile" = some 1 := by kernel_rfl
theorem gE2 : Tryz.prog.globalNamed "latchkey/snap.errNotSaved" = some 2 := by kernel_rfl
theorem gE0T : (Tryz.prog.globals[0]?).map (·.type) = some 117 := by kernel_rfl
theorem gE1T : (Tryz.prog.globals[1]?).map (·.type) = some 117 := by kernel_rfl
theorem gE2T : (Tryz.prog.globals[2]?).map (·.type) = some 117 := by kernel_rfl
theorem cellsE : Tryz.prog.cellsOf 298 = 1 := by kernel_rfl
theorem cellsS : Tryz.prog.cellsOf 9 = 1 := by kernel_rfl
theorem starE : "*" ++ "errors.errorString" = "*errors.errorString" := by decide
theorem rowE (u : TypeId) (h : Tryz.prog.typeName? 3 u = some "*errors.errorString") : u = 296 :=
  typeName_ptr_named (nm := "errors.errorString") (by rw [starE]; kernel_rfl) (by kernel_rfl) (by decide) u (by rw [starE]; exact h)
theorem laid_01 : (Rows.durableNoneRow.laid.filter fun x => x.1 == "latchkey/snap.errNoDisk" || x.1 == "latchkey/snap.errNoFile") = [("latchkey/snap.errNoDisk", Rows.laid_latchkey_snap_errNoDisk), ("latchkey/snap.errNoFile", Rows.laid_latchkey_snap_errNoFile)] := by kernel_rfl
theorem laid_02 : (Rows.durableNoneRow.laid.filter fun x => x.1 == "latchkey/snap.errNoDisk" || x.1 == "latchkey/snap.errNotSaved") = [("latchkey/snap.errNoDisk", Rows.laid_latchkey_snap_errNoDisk), ("latchkey/snap.errNotSaved", Rows.laid_latchkey_snap_errNotSaved)] := by kernel_rfl
theorem laid_12 : (Rows.durableNoneRow.laid.filter fun x => x.1 == "latchkey/snap.errNoFile" || x.1 == "latchkey/snap.errNotSaved") = [("latchkey/snap.errNoFile", Rows.laid_latchkey_snap_errNoFile), ("latchkey/snap.errNotSaved", Rows.laid_latchkey_snap_errNotSaved)] := by kernel_rfl
theorem var_one {W : World} {n : String} {T : TypeId} {a a' : Addr} (h : W.var? Tryz.prog n = some #[.iface T (.pointer (some a))]) (h' : W.var? Tryz.prog n = some #[.iface T (.pointer (some a'))]) : a' = a := by
  have := h.symm.trans h'
  simpa using this.symm
theorem var_cell {W : World} {n : String} {g : Nat} {v : Value} (hg : Tryz.prog.globalNamed n = some g) (h : W.var? Tryz.prog n = some #[v]) : W.cell? ⟨g, 0, none⟩ = some v := by
  simpa using World.var?_cell hg h 0
theorem env_of {W : World} (h0 : laidMetH Tryz.prog Rows.durableNoneRow.laid W) : Env W W.heap.size := by
  have hT := tab_of h0
  rw [MakeChecks.laidMetH_plain _ _ _ laid_plain] at h0
  have h01 := h0.filter (fun x => x.1 == "latchkey/snap.errNoDisk" || x.1 == "latchkey/snap.errNoFile")
  have h02 := h0.filter (fun x => x.1 == "latchkey/snap.errNoDisk" || x.1 == "latchkey/snap.errNotSaved")
  have h12 := h0.filter (fun x => x.1 == "latchkey/snap.errNoFile" || x.1 == "latchkey/snap.errNotSaved")
  rw [laid_01] at h01
  rw [laid_02] at h02
  rw [laid_12] at h12
  obtain ⟨a0, a1, _, _, _, _, _, _, v0, v1, _, _, _, _, _, _, n01, r0, r1⟩ := laid_sentinels2 h01 gE0 gE0T gE1 gE1T Tryz.underlying117 rowE Tryz.underlying296 Tryz.underlying298 rfl rfl Tryz.underlying9 cellsE cellsS
  obtain ⟨b0, a2, _, _, _, _, _, _, u0, v2, _, _, _, _, _, _, n02, _, r2⟩ := laid_sentinels2 h02 gE0 gE0T gE2 gE2T Tryz.underlying117 rowE Tryz.underlying296 Tryz.underlying298 rfl rfl Tryz.underlying9 cellsE cellsS
  obtain ⟨b1, b2, _, _, _, _, _, _, u1, u2, _, _, _, _, _, _, n12, _, _⟩ := laid_sentinels2 h12 gE1 gE1T gE2 gE2T Tryz.underlying117 rowE Tryz.underlying296 Tryz.underlying298 rfl rfl Tryz.underlying9 cellsE cellsS
  rw [var_one v0 u0] at n02
  rw [var_one v1 u1, var_one v2 u2] at n12
  have l4 : 4 ≤ W.heap.size := hT.1
  exact ⟨⟨a0, a1, a2, var_cell gE0 v0, var_cell gE1 v1, var_cell gE2 v2, ⟨_, _, r0⟩, ⟨_, _, r1⟩, ⟨_, _, r2⟩, lt_of_block r0, lt_of_block r1, lt_of_block r2, n01, n02, n12⟩, hT, l4, Nat.le_refl _⟩
/-- A world for a witness. -/
noncomputable abbrev laidWorld (os : Os) : World := World.laidAll Tryz.prog os Rows.durableNoneRow.laid
theorem laid_fits (os : Os) : (World.holding Tryz.prog os ⟨#[], #[], []⟩).layFits Tryz.prog Rows.durableNoneRow.laid [] = true := by kernel_rfl
theorem laid_ifaces (os : Os) : (World.holding Tryz.prog os ⟨#[], #[], []⟩).layIfaces Tryz.prog Rows.durableNoneRow.laid (laidWorld os) = true := by kernel_rfl
theorem laid_met (os : Os) (args : Array Value) : laidMet Tryz.prog Rows.durableNoneRow.laid ((laidWorld os).forCall (fun _ _ => 0) ⟨#[], args, []⟩).memory := laidMet_laidAll args (laid_fits os) (laid_ifaces os)
theorem laidOut : laidOutB Tryz.prog = true := by kernel_rfl
end Go.Proofs.YtodnnhidljfilaaGreatDoor
/-
  What layer 13's laws are handed, opened: a row of records, a state with its entries. No condition.
-/
namespace Go.Proofs.YtodnnhidljfilaaGreatDoor
open Go.ChangeShapes Go.WideShapes Go.ChangeAt Go.RowKit Go.Joins Go.Deep

theorem kcRec : Tryz.prog.cellsOf 69 = 9 := by kernel_rfl
theorem kcDu : Tryz.prog.cellsOf 24 = 4 := by kernel_rfl
theorem kcSE : Tryz.prog.cellsOf 22 = 1 := by kernel_rfl
section
variable {H : Type} {enc : TypeId × Value → H} {w : World}
set_option maxRecDepth 100000 in
theorem rec_cells {base : Nat} {spare : Nat → Bool} {held : Bool} {fuel : Nat} {cs : List Value} {x : DataW H × List MemPlace} (h : DataW.trod enc Tryz.prog w base spare held fuel 69 cs = some x) : ∃ r : Rc, cs = rcC r ∧ r.en.cmd.name.size ≤ maxLen := by
  obtain ⟨y0, y1, y2, n, _, hl, h0, h1, h2⟩ := Go.Deep.trod_struct3 Tryz.underlying69 h
  rw [kcRec] at hl
  match cs, hl with
  | [a0, a1, a2, a3, a4, a5, a6, a7, a8], _ =>
    simp only [cells3, cells25] at h0 h1 h2
    obtain ⟨K, e0, _⟩ := DataW.trod_int Tryz.underlying3 h0
    obtain ⟨M, e1, _⟩ := DataW.trod_int Tryz.underlying3 h1
    obtain ⟨A, B, k, S, Q, T, N, e2, hT⟩ := entry_cells h2
    simp at e0 e1 e2
    obtain ⟨rfl, rfl, rfl, rfl, rfl, rfl, rfl⟩ := e2
    subst e0 e1
    exact ⟨⟨K, M, ⟨A, B, ⟨k, S, Q, T, N⟩⟩⟩, rfl, hT⟩
def RcL (r : Rc) (cs : List Value) (_ : DataW H) : Prop := cs = rcC r
/-- A row of records that came in. -/
theorem recs_open {a : Option Addr} {n cap : Nat} {d : DataW H} {p : List MemPlace} (h : DataW.Trod enc Tryz.prog w 0 (fun _ => true) true 25 (.slice a n cap) d p) : ∃ l : List Rc, n = l.length ∧ RowAt rcC w (.slice a n cap) l ∧ l.length ≤ maxLen := by
  obtain ⟨fuel, hf0⟩ := h
  have hf : DataW.trod enc Tryz.prog w 0 (fun _ => true) true fuel 25 [.slice a n cap] = some (d, p) := hf0
  obtain ⟨a', len, cap', l, hv, hr⟩ := open_row Tryz.underlying25 kcRec (by omega) (RcL (H := H)) (fun _ _ _ h => by obtain ⟨r, e, _⟩ := rec_cells h; exact ⟨r, e⟩) hf
  injection hv with e1 e2 e3
  subst e1 e2 e3
  have hrow := hr.row (by decide) rcC_len (fun _ _ _ h => h)
  have hlen := hr.len_eq
  have hmax := hr.le_max
  exact ⟨l, hlen.symm, hrow, by omega⟩
end
end Go.Proofs.YtodnnhidljfilaaGreatDoor
