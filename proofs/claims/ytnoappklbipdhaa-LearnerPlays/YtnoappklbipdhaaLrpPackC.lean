/-
  Parts of the proof, laid together: CmPlain, CmRef, CmMayA, CmMayB, CmMayC, CmMayD, CmMay, CmREnc, CmRDec, CmRDecE. The conditions stand at each part.
-/
import Derived.Deep.RegionHeld3
import Derived.BigQuiet
import Derived.WalkSmall
import Derived.Test.YtnoappklbipdhaaLrpPackB
/-
  Commands and entries, as plain data: which may be, their bytes, how bytes are read as one; what is read of bytes has just these bytes. No condition.
-/
namespace Go.Proofs.Ytnoappklbipdhaa

/-! ### A number has one row of bytes -/
/-! ### Commands -/
/-- A command. -/
structure Cm where
  kind : Int
  session : Int
  seq : Int
  name : ByteArray
  n : Int

/-- The command all of whose fields are 0 and "". -/
def Cm.zero : Cm := ⟨0, 0, 0, ⟨#[]⟩, 0⟩

/-! ### Entries -/
/-- An entry. -/
structure En where
  slot : Int
  ballot : Int
  cmd : Cm
def En.zero : En := ⟨0, 0, Cm.zero⟩
end Go.Proofs.Ytnoappklbipdhaa
/-
  The contracts of the document's own encoding of commands and entries (package latchkeyref03). The condition: numbers are of 64 bits.
-/
namespace Go.Proofs.Ytnoappklbipdhaa
open Go.RowKit

theorem bmm {w w1 w2 : World} {b : Nat} (h : Below b w w1) (hb : b ≤ w1.heap.size) (k : Below w1.heap.size w1 w2) : Below b w w2 := h.trans (k.mono hb)

theorem undrew {w w2 : World} (b : Below w.drew.heap.size w.drew w2) : Below w.heap.size w w2 := ⟨b.os, b.tape, b.output, b.size, b.block⟩

/-! ### Entries -/
end Go.Proofs.Ytnoappklbipdhaa
