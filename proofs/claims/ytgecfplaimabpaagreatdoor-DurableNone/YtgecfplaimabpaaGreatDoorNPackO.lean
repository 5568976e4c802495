/-
  Parts of the proof, laid together: DuRefA, DuRefB, DuRefC, DuRefD. The conditions stand at each part.
-/
import Derived.Deep.QuietTactic
import Derived.BigQuiet
import Derived.Lib.MinMax
import Derived.RegionTactic
import Derived.ChangeAlike
import Derived.Test.YtgecfplaimabpaaGreatDoorNPackD
import Derived.Test.YtgecfplaimabpaaGreatDoorNPackI
import Derived.Test.YtgecfplaimabpaaGreatDoorNPack5
/-
  The document's state (package latchkeyref13): an entry put among those that rise. The condition: at most 2^30 entries.
-/
namespace Go.Proofs.YtgecfplaimabpaaGreatDoor
open Go.RowKit

section
variable {α : Type} {enc : α → List Value} {w : World} {v : Value} {l : List α}
/-- A row from a place on. -/
theorem RowAt.from {k : Nat} (h : RowAt enc w v l) (T E : TypeId) (i0 : TypeInfo) (hu : Tryz.prog.underlying T = some (.slice E)) (he : Tryz.prog.elem T = E) (hi : Tryz.prog.info? E = some i0) (hz1 : i0.size = k) (hk : ∀ x, (enc x).length = k) (n : Nat) (hn : n ≤ l.length) :
    ∃ u, (∀ w', (Instr.sliceAt T v (some (.int .i64 (n : Int))) none none).run Tryz.prog w' = .ok u w') ∧ RowAt enc w u (l.drop n) := by
  obtain ⟨u, h1, h2⟩ := OwnRow.from (S := fun _ => True) (D := w.heap.size) ⟨h, fun bk off n cap h0 e => ⟨trivial, by have := h.lt h0 e; omega⟩⟩ T E i0 hu he hi hz1 hk n hn
  exact ⟨u, h1, h2.at'⟩
end
end Go.Proofs.YtgecfplaimabpaaGreatDoor
/-
  The document's Fold (package latchkeyref13): records put to a state. The conditions: the state's entries and the records lie in memory as their readings say; at most 2^29 of each.
-/
namespace Go.Proofs.YtgecfplaimabpaaGreatDoor
open Go.RowKit

section
variable {w wr w' : World} {d : Du} {v : Value}
end
theorem stepD_one {d : Du} {r : Rc} (h : r.kind = 1) : stepD d r = { d with p := max d.p r.n } := by unfold stepD; rw [if_pos h]
theorem stepD_two {d : Du} {r : Rc} (h : r.kind = 2) (hs : d.b < r.en.slot) : stepD d r = { d with p := max d.p r.en.ballot, es := putE d.es r.en } := by
  unfold stepD
  rw [if_neg (by rw [h]; decide), if_pos h, if_pos hs]
theorem stepD_low {d : Du} {r : Rc} (h : r.kind = 2) (hs : ¬ d.b < r.en.slot) : stepD d r = { d with p := max d.p r.en.ballot } := by
  unfold stepD
  rw [if_neg (by rw [h]; decide), if_pos h, if_neg hs]
theorem stepD_else {d : Du} {r : Rc} (h1 : ¬ r.kind = 1) (h2 : ¬ r.kind = 2) : stepD d r = d := by
  unfold stepD
  rw [if_neg h1, if_neg h2]
end Go.Proofs.YtgecfplaimabpaaGreatDoor
/-
  The document's records of a state (package latchkeyref13). The condition: at most 2^29 entries.
-/
namespace Go.Proofs.YtgecfplaimabpaaGreatDoor
open Go.RowKit

theorem rcC_ones : ∀ x : Rc, ∀ u ∈ rcC x, u.oneCell' = true := by
  intro x u hu
  simp only [rcC, List.mem_cons, List.not_mem_nil, or_false] at hu
  rcases hu with rfl | rfl | rfl | rfl | rfl | rfl | rfl | rfl | rfl <;> rfl
theorem infoRec : (Tryz.prog.info? 69).map (fun i => (i.zero, i.size, i.bytes)) = some (some (.agg #[.int .i64 0, .int .i64 0, .int .i64 0, .int .i64 0, .int .i64 0, .int .i64 0, .int .i64 0, .string ⟨#[]⟩, .int .i64 0]), 9, 80) := by kernel_rfl
/-- A row of records of the call's own. -/
abbrev OwnRc (w : World) (base : Nat) (v : Value) (l : List Rc) : Prop := w.ownsRow base 69 9 v l.length (rowL rcC l)
theorem OwnRc.row {w : World} {base : Nat} {v : Value} {l : List Rc} (h : OwnRc w base v l) : RowAt rcC w v l := RowAt.own rcC_len h
def firstRc (d : Du) : List Rc := if 0 < d.p then [⟨1, d.p, En.zero⟩] else []
/-- Behind k entries. -/
structure RecI (w wr : World) (d : Du) (v u : Value) (l : List Rc) : Prop where
  own : OwnRc wr (w.heap.size + 1) u l
  box : DuAt wr w.heap.size d v
  bel : Below w.heap.size w wr
  sz : w.heap.size + 1 ≤ wr.heap.size
theorem RecI.step {w wr w' : World} {d : Du} {v u u' : Value} {l : List Rc} {r : Rc} (h : RecI w wr d v u l) (ho : w'.ownsRow (w.heap.size + 1) 69 9 u' (l.length + 1) (rowL rcC l ++ rowL rcC [r])) (b : Below (w.heap.size + 1) wr w') : RecI w w' d v u' (l ++ [r]) := by
  refine ⟨?_, (b.block _ (by omega)).trans h.box, h.bel.trans (b.mono (by omega)), Nat.le_trans h.sz b.size⟩
  show w'.ownsRow _ _ _ _ _ _
  rw [rowL_append, List.length_append]
  exact ho
end Go.Proofs.YtgecfplaimabpaaGreatDoor
