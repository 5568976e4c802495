/-
  Parts of the proof, laid together: DvTab, DvOpen, DvBulk. The conditions stand at each part.
-/
import Derived.ProofKit
import Derived.OpenShut
import Derived.Deep.DeepHandedRow
import Derived.Deep.DeepWitnessRowRef
import Derived.Lib.LaidTab
import Derived.Lay
import Derived.LaidSub
import Derived.MakeChecks
import Derived.Stop.LaidTwo
import Derived.Test.YtgecfplaimabpaaGreatDoorCards
import Derived.Test.YtgecfplaimabpaaGreatDoorTie
import Derived.Test.YtgecfplaimabpaaGreatDoorAPackA
import Derived.Test.YtgecfplaimabpaaGreatDoorAPackD
import Derived.Test.YtgecfplaimabpaaGreatDoorAPackI
import Derived.Test.YtgecfplaimabpaaGreatDoorAPackR
import Derived.Test.YtgecfplaimabpaaGreatDoorASvIs
/-
  What the rows' list of package-level variables gives: package frame's table and package snap's three errors lie in memory ('Env'), and a world for the witnesses that holds all listed ones. No condition.
-/
namespace Go.Proofs.YtgecfplaimabpaaGreatDoor
open Go.ChangeShapes Go.WideShapes Go.ChangeAt Go.RowKit Go.Extern.Stop Go.Stop Go.Extern

theorem own : ownKnob Tryz.prog.godebug = none := by kernel_rfl
theorem gTab : Tryz.prog.globalNamed "latchkey/frame.halves" = some 3 := by kernel_rfl
theorem gTabType : (Tryz.prog.globals[3]?).map (·.type) = some 278 := by kernel_rfl
theorem cellsA16 : Tryz.prog.cellsOf 278 = 16 := by kernel_rfl
theorem cellsU32 : Tryz.prog.cellsOf 198 = 1 := by kernel_rfl
def tabNumbers : List Int := [0, 498536548, 997073096, 651767980, 1994146192, 1802195444, 1303535960, 1342533948, 3988292384, 4027552580, 3604390888, 3412177804, 2607071920, 2262029012, 2685067896, 3183342108]
theorem tabNumbers_are : ∀ i, i < 16 → tabNumbers.getD i 0 = ((bitSteps 4 i : Nat) : Int) := by decide +kernel
theorem laid_plain : (Rows.durableNoneRow.laid.all fun x => x.2.handleName?.isNone) = true := by kernel_rfl
theorem laid_halves : (Rows.durableNoneRow.laid.filter fun x => x.1 == "latchkey/frame.halves") = [("latchkey/frame.halves", Rows.laid_latchkey_frame_halves)] := by kernel_rfl
theorem tab_of {W : World} (h0 : laidMetH Tryz.prog Rows.durableNoneRow.laid W) : Tab W := by
  rw [MakeChecks.laidMetH_plain _ _ _ laid_plain] at h0
  have h := h0.filter (fun x => x.1 == "latchkey/frame.halves")
  rw [laid_halves] at h
  have ht : Lib.TabIs Tryz.prog W "latchkey/frame.halves" .u32 tabNumbers :=
    Lib.tabIs_of_head (rest := []) gTab gTabType Tryz.underlying278 Tryz.underlying198 cellsU32 cellsA16 h
  have hc : ∀ i, i < 16 → W.cell? ⟨3, i, none⟩ = some (.int .u32 ((bitSteps 4 i : Nat) : Int)) := fun i hi => by
    rw [ht.cell gTab i hi, tabNumbers_are i hi]
  exact ⟨World.block_lt_of_cell? W _ (hc 0 (by decide)), hc⟩
theorem gE0 : Tryz.prog.globalNamed "latchkey/snap.errNoDisk" = some 0 := by kernel_rfl
theorem gE1 : Tryz.prog.globalNamed "latchkey/snap.errNoFile" = some 1 := by kernel_rfl
theorem gE2 : Tryz.prog.globalNamed "latchkey/snap.errNotSaved" = some 2 := by kernel_rfl
theorem gE0T : (Tryz.prog.globals[0]?).map (·.type) = some 117 := by kernel_rfl
theorem gE1T : (Tryz.prog.globals[1]?).map (·.type) = some 117 := by kernel_rfl
theorem gE2T : (Tryz.prog.globals[2]?).map (·.type) = some 117 := by kernel_rfl
theorem cellsE : Tryz.prog.cellsOf 298 = 1 := by kernel_rfl
theorem cellsS : Tryz.prog.cellsOf 9 = 1 := by kernel_rfl
theorem starE : "*" ++ "errors.errorString" = "*errors.errorString" := by decide
theorem rowE (u : TypeId) (h : Tryz.prog.typeName? 3 u = some "*errors.errorString") : u = 296 :=
  typeName_ptr_named (nm := "errors.errorString") (by rw [starE]; kernel_rfl) (by kernel_rfl) (by decide) u (by rw [starE]; exact h)
theorem laid_01 : (Rows.durableNoneRow.laid.filter fun x => x.1 == "latchkey/snap.errNoDisk" || x.1 == "latchkey/snap.errNoFile") = [("latchkey/snap.errNoDisk", Rows.laid_latchkey_snap_errNoDisk), ("latchkey/snap.errNoFile", Rows.laid_latchkey_snap_errNoFile)] := by kernel_rfl
theorem laid_02 : (Rows.durableNoneRow.laid.filter fun x => x.1 == "latchkey/snap.errNoDisk" || x.1 == "latchkey/snap.errNotSaved") = [("latchkey/snap.errNoDisk", Rows.laid_latchkey_snap_errNoDisk), ("latchkey/snap.errNotSaved", Rows.laid_latchkey_snap_errNotSaved)] := by kernel_rfl
theorem laid_12 : (Rows.durableNoneRow.laid.filter fun x => x.1 == "latchkey/snap.errNoFile" || x.1 == "latchkey/snap.errNotSaved") = [("latchkey/snap.errNoFile", Rows.laid_latchkey_snap_errNoFile), ("latchkey/snap.errNotSaved", Rows.laid_latchkey_snap_errNotSaved)] := by kernel_rfl
theorem var_one {W : World} {n : String} {T : TypeId} {a a' : Addr} (h : W.var? Tryz.prog n = some #[.iface T (.pointer (some a))]) (h' : W.var? Tryz.prog n = some #[.iface T (.pointer (some a'))]) : a' = a := by
  have := h.symm.trans h'
  simpa using this.symm
theorem var_cell {W : World} {n : String} {g : Nat} {v : Value} (hg : Tryz.prog.globalNamed n = some g) (h : W.var? Tryz.prog n = some #[v]) : W.cell? ⟨g, 0, none⟩ = some v := by
  simpa using World.var?_cell hg h 0
theorem env_of {W : World} (h0 : laidMetH Tryz.prog Rows.durableNoneRow.laid W) : Env W W.heap.size := by
  have hT := tab_of h0
  rw [MakeChecks.laidMetH_plain _ _ _ laid_plain] at h0
  have h01 := h0.filter (fun x => x.1 == "latchkey/snap.errNoDisk" || x.1 == "latchkey/snap.errNoFile")
  have h02 := h0.filter (fun x => x.1 == "latchkey/snap.errNoDisk" || x.1 == "latchkey/snap.errNotSaved")
  have h12 := h0.filter (fun x => x.1 == "latchkey/snap.errNoFile" || x.1 == "latchkey/snap.errNotSaved")
  rw [laid_01] at h01
  rw [laid_02] at h02
  rw [laid_12] at h12
  obtain ⟨a0, a1, _, _, _, _, _, _, v0, v1, _, _, _, _, _, _, n01, r0, r1⟩ := laid_sentinels2 h01 gE0 gE0T gE1 gE1T Tryz.underlying117 rowE Tryz.underlying296 Tryz.underlying298 rfl rfl Tryz.underlying9 cellsE cellsS
  obtain ⟨b0, a2, _, _, _, _, _, _, u0, v2, _, _, _, _, _, _, n02, _, r2⟩ := laid_sentinels2 h02 gE0 gE0T gE2 gE2T Tryz.underlying117 rowE Tryz.underlying296 Tryz.underlying298 rfl rfl Tryz.underlying9 cellsE cellsS
  obtain ⟨b1, b2, _, _, _, _, _, _, u1, u2, _, _, _, _, _, _, n12, _, _⟩ := laid_sentinels2 h12 gE1 gE1T gE2 gE2T Tryz.underlying117 rowE Tryz.underlying296 Tryz.underlying298 rfl rfl Tryz.underlying9 cellsE cellsS
  rw [var_one v0 u0] at n02
  rw [var_one v1 u1, var_one v2 u2] at n12
  have l4 : 4 ≤ W.heap.size := hT.1
  exact ⟨⟨a0, a1, a2, var_cell gE0 v0, var_cell gE1 v1, var_cell gE2 v2, ⟨_, _, r0⟩, ⟨_, _, r1⟩, ⟨_, _, r2⟩, lt_of_block r0, lt_of_block r1, lt_of_block r2, n01, n02, n12⟩, hT, l4, Nat.le_refl _⟩
/-- A world for a witness. -/
noncomputable abbrev laidWorld (os : Os) : World := World.laidAll Tryz.prog os Rows.durableNoneRow.laid
theorem laid_fits (os : Os) : (World.holding Tryz.prog os ⟨#[], #[], []⟩).layFits Tryz.prog Rows.durableNoneRow.laid [] = true := by kernel_rfl
theorem laid_ifaces (os : Os) : (World.holding Tryz.prog os ⟨#[], #[], []⟩).layIfaces Tryz.prog Rows.durableNoneRow.laid (laidWorld os) = true := by kernel_rfl
theorem laid_met (os : Os) (args : Array Value) : laidMet Tryz.prog Rows.durableNoneRow.laid ((laidWorld os).forCall (fun _ _ => 0) ⟨#[], args, []⟩).memory := laidMet_laidAll args (laid_fits os) (laid_ifaces os)
theorem laidOut : laidOutB Tryz.prog = true := by kernel_rfl
end Go.Proofs.YtgecfplaimabpaaGreatDoor
/-
  What layer 13's laws are handed, opened: a row of records, a state with its entries. No condition.
-/
namespace Go.Proofs.YtgecfplaimabpaaGreatDoor
open Go.ChangeShapes Go.WideShapes Go.ChangeAt Go.RowKit Go.Joins Go.Deep

theorem kcDu : Tryz.prog.cellsOf 24 = 4 := by kernel_rfl
theorem kcSE : Tryz.prog.cellsOf 22 = 1 := by kernel_rfl
section
variable {H : Type} {enc : TypeId × Value → H} {w : World}
end
end Go.Proofs.YtgecfplaimabpaaGreatDoor
/-
  How much a state is of all that came in: its text, its entries' names, how many they are. No condition.
-/
namespace Go.Proofs.YtgecfplaimabpaaGreatDoor
open Go.ChangeShapes Go.WideShapes Go.ChangeAt Go.RowKit Go.Joins Go.Deep

theorem bulk_one {H : Type} (d : DataW H) : 1 ≤ Rows.uptoBulk d := by
  cases d with
  | lit l => cases l <;> simp [Rows.uptoBulk]
  | nil => simp [Rows.uptoBulk]
  | ptr d => simp [Rows.uptoBulk]
  | slice elems spare => simp [Rows.uptoBulk]
  | agg parts => simp [Rows.uptoBulk]
  | iface t d => simp [Rows.uptoBulk]
  | map entries => simp [Rows.uptoBulk]
  | held h => simp [Rows.uptoBulk]
theorem bulk_len {H : Type} : ∀ l : List (DataW H), l.length ≤ Rows.uptoBulkAll l
  | [] => Nat.zero_le _
  | x :: r => by
    have h1 := bulk_one x
    have h2 := bulk_len r
    simp only [Rows.uptoBulkAll, List.length_cons]
    omega
theorem bulk_mem {H : Type} : ∀ {l : List (DataW H)} {x : DataW H}, x ∈ l → Rows.uptoBulk x ≤ Rows.uptoBulkAll l
  | y :: r, x, h => by
    simp only [Rows.uptoBulkAll]
    rcases List.mem_cons.1 h with rfl | h
    · omega
    · have := bulk_mem h
      omega
theorem bulk_text {H : Type} (s : ByteArray) : s.size ≤ Rows.uptoBulk (DataW.lit (H := H) (.string s.data.toList)) := by
  simp only [Rows.uptoBulk]
  have : s.data.toList.length = s.size := by rw [Array.length_toList]; rfl
  omega
theorem bulk_part {H : Type} {parts : List (DataW H)} {x : DataW H} (h : x ∈ parts) : Rows.uptoBulk x ≤ Rows.uptoBulk (.agg parts) := by
  have := bulk_mem h
  simp only [Rows.uptoBulk]
  omega
section
variable {H : Type} {enc : TypeId × Value → H} {w : World}
set_option maxRecDepth 100000 in
theorem cmd_bulk {base : Nat} {spare : Nat → Bool} {held : Bool} {fuel : Nat} {cs : List Value} {x : DataW H × List MemPlace} (h : DataW.trod enc Tryz.prog w base spare held fuel 64 cs = some x) :
    ∃ (K S Q : Int) (T : ByteArray) (N : Int), cs = [.int .i64 K, .int .i64 S, .int .i64 Q, .string T, .int .i64 N] ∧ T.size ≤ Rows.uptoBulk x.1 := by
  obtain ⟨xs, n, _, rfl, hl, hlen, hf⟩ := DataW.trod_struct Tryz.underlying64 h
  rw [cells23] at hl
  match cs, hl, xs, hlen with
  | [a0, a1, a2, a3, a4], _, [y0, y1, y2, y3, y4], _ =>
    have h0 := by simpa using hf 0 _ rfl
    have h1 := by simpa using hf 1 _ rfl
    have h2 := by simpa using hf 2 _ rfl
    have h3 := by simpa using hf 3 _ rfl
    have h4 := by simpa using hf 4 _ rfl
    simp only [cells3, cells9, List.take_succ_cons, List.take_zero] at h0 h1 h2 h3 h4
    obtain ⟨K, e0, _⟩ := DataW.trod_int Tryz.underlying3 h0
    obtain ⟨S, e1, _⟩ := DataW.trod_int Tryz.underlying3 h1
    obtain ⟨Q, e2, _⟩ := DataW.trod_int Tryz.underlying3 h2
    obtain ⟨T, e3, e5, _⟩ := DataW.trod_string Tryz.underlying9 h3
    obtain ⟨N, e4, _⟩ := DataW.trod_int Tryz.underlying3 h4
    simp at e0 e1 e2 e3 e4
    refine ⟨K, S, Q, T, N, by rw [e0, e1, e2, e3, e4], ?_⟩
    have h6 : T.size ≤ Rows.uptoBulk y3.1 := by rw [e5]; exact bulk_text T
    have h7 : Rows.uptoBulk y3.1 ≤ _ := bulk_part (parts := [y0.1, y1.1, y2.1, y3.1, y4.1]) (by simp)
    exact Nat.le_trans h6 h7
set_option maxRecDepth 100000 in
theorem ent_bulk {base : Nat} {spare : Nat → Bool} {held : Bool} {fuel : Nat} {cs : List Value} {x : DataW H × List MemPlace} (h : DataW.trod enc Tryz.prog w base spare held fuel 66 cs = some x) : ∃ e : En, cs = enC e ∧ e.cmd.name.size ≤ Rows.uptoBulk x.1 := by
  obtain ⟨y0, y1, y2, n, hx, hl, h0, h1, h2⟩ := Go.Deep.trod_struct3 Tryz.underlying66 h
  rw [cells25] at hl
  match cs, hl with
  | [a, b, c, d, e, f, g], _ =>
    simp only [cells3, cells23] at h0 h1 h2
    obtain ⟨A, e0, _⟩ := DataW.trod_int Tryz.underlying3 h0
    obtain ⟨B, e1, _⟩ := DataW.trod_int Tryz.underlying3 h1
    obtain ⟨K, S, Q, T, N, e2, hT⟩ := cmd_bulk h2
    simp at e0 e1 e2
    obtain ⟨rfl, rfl, rfl, rfl, rfl⟩ := e2
    refine ⟨⟨A, B, ⟨K, S, Q, T, N⟩⟩, by rw [e0, e1]; rfl, ?_⟩
    rw [hx]
    exact Nat.le_trans hT (bulk_part (by simp))
def EnB (e : En) (cs : List Value) (y : DataW H) : Prop := cs = enC e ∧ e.cmd.name.size ≤ Rows.uptoBulk y
theorem ents_bulk {fuel : Nat} {c : Value} {x : DataW H × List MemPlace} (h : DataW.trod enc Tryz.prog w 0 (fun _ => true) true fuel 22 [c] = some x) : ∃ es : List En, RowAt enC w c es ∧ es.length ≤ Rows.uptoBulk x.1 ∧ ∀ e ∈ es, e.cmd.name.size ≤ Rows.uptoBulk x.1 := by
  obtain ⟨a', len, cap', l, hv, hr⟩ := open_row Tryz.underlying22 cells25 (by omega) (EnB (H := H)) (fun _ _ _ h => ent_bulk h) h
  have hrow := hr.row (by decide) enC_len (fun _ _ _ h => h.1)
  have hlen := hr.len_eq
  subst hv
  refine ⟨l, hrow, ?_⟩
  rcases hr.ex with ⟨_, h0, _, hd⟩ | ⟨x0, es, sp, _, e, he, hj, _⟩
  · have : l = [] := List.eq_nil_of_length_eq_zero (by omega)
    subst this
    exact ⟨Nat.zero_le _, fun e he => by cases he⟩
  · rw [e]
    simp only [Rows.uptoBulk]
    have hb := bulk_len es
    refine ⟨by omega, fun q hq => ?_⟩
    obtain ⟨j, hj1, rfl⟩ := List.mem_iff_getElem.1 hq
    obtain ⟨cs, hL, _⟩ := hj j hj1 (by omega)
    have := bulk_mem (List.getElem_mem (l := es) (n := j) (by omega))
    have := hL.2
    omega
set_option maxRecDepth 100000 in
theorem du_bulk {fuel : Nat} {cs : List Value} {x : DataW H × List MemPlace} (h : DataW.trod enc Tryz.prog w 0 (fun _ => true) true fuel 24 cs = some x) : ∃ (d : Du) (u : Value), cs = (duA d u).toList ∧ RowAt enC w u d.es ∧ d.es.length ≤ Rows.uptoBulk x.1 ∧ d.s.size ≤ Rows.uptoBulk x.1 ∧ ∀ e ∈ d.es, e.cmd.name.size ≤ Rows.uptoBulk x.1 := by
  obtain ⟨xs, n, _, rfl, hl, hlen, hf⟩ := DataW.trod_struct Tryz.underlying24 h
  rw [kcDu] at hl
  match cs, hl, xs, hlen with
  | [a0, a1, a2, a3], _, [y0, y1, y2, y3], _ =>
    have h0 := by simpa using hf 0 _ rfl
    have h1 := by simpa using hf 1 _ rfl
    have h2 := by simpa using hf 2 _ rfl
    have h3 := by simpa using hf 3 _ rfl
    simp only [cells3, cells9, kcSE, List.take_succ_cons, List.take_zero] at h0 h1 h2 h3
    obtain ⟨P, e0, _⟩ := DataW.trod_int Tryz.underlying3 h0
    obtain ⟨Q, e1, _⟩ := DataW.trod_int Tryz.underlying3 h1
    obtain ⟨S, e2, e5, _⟩ := DataW.trod_string Tryz.underlying9 h2
    obtain ⟨es, hr, hm, hn⟩ := ents_bulk h3
    simp at e0 e1 e2
    subst e0 e1 e2
    have k2 : Rows.uptoBulk y2.1 ≤ _ := bulk_part (parts := [y0.1, y1.1, y2.1, y3.1]) (by simp)
    have k3 : Rows.uptoBulk y3.1 ≤ _ := bulk_part (parts := [y0.1, y1.1, y2.1, y3.1]) (by simp)
    have h6 : S.size ≤ Rows.uptoBulk y2.1 := by rw [e5]; exact bulk_text S
    exact ⟨⟨P, Q, S, es⟩, a3, rfl, hr, Nat.le_trans hm k3, Nat.le_trans h6 k2, fun e he => Nat.le_trans (hn e he) k3⟩
end
set_option maxRecDepth 100000 in
theorem open_duB {H : Type} {enc : TypeId × Value → H} {w : World} {r : Reach} {b0 : Nat} {v : Value} {x : DataW H} {p : List MemPlace}
    (hv : Value.okWide Tryz.prog w r b0 24 v) (h : DataW.Trod enc Tryz.prog w 0 (fun _ => true) true 24 v x p) : ∃ (d : Du) (u : Value), v = .agg (duA d u) ∧ RowAt enC w u d.es ∧ d.es.length ≤ Rows.uptoBulk x ∧ (Rows.uptoBulk x ≤ 1048576 → SzD d) := by
  obtain ⟨cs, rfl, _⟩ := okWide_struct Tryz.underlying24 hv
  obtain ⟨fuel, hf⟩ := h
  obtain ⟨d, u, e, h1, h2, h3, h4⟩ := du_bulk hf
  have e' : cs.toList = (duA d u).toList := by simpa [Value.cells] using e
  refine ⟨d, u, ?_, h1, h2, fun hb => ⟨?_, fun e he => ?_⟩⟩
  · rw [Array.toList_inj.1 e']
  · have h5 : d.s.size ≤ Rows.uptoBulk x := h3
    omega
  · have h5 : e.cmd.name.size ≤ Rows.uptoBulk x := h4 e he
    omega
end Go.Proofs.YtgecfplaimabpaaGreatDoor
