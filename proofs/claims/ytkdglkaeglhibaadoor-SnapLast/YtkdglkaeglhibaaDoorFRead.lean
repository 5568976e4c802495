/-
  The contracts of the document's own reader of frames (package latchkeyref02): First, All, Texts, for every text. No condition but on sizes.
-/
import Derived.Test.YtkdglkaeglhibaaDoorFRef
import Derived.Deep.RegionHeld3
namespace Go.Proofs.YtkdglkaeglhibaaDoor
open Go.RowKit

theorem bel_step {base : Nat} {w W w2 : World} (h : Below base w W) (hs : w.heap.size = base) (b : Below W.heap.size W w2) : Below base w w2 := h.trans (b.mono (by have := h.size; omega))

/-- First's three answers on a text. -/
def firstT (s : ByteArray) : ByteArray × Nat × Nat := (⟨(firstOf s.data.toList).1.toArray⟩, (firstOf s.data.toList).2.1, (firstOf s.data.toList).2.2)

end Go.Proofs.YtkdglkaeglhibaaDoor
