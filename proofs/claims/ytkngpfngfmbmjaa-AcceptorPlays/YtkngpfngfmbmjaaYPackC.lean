/-
  Parts of the proof, laid together: CmPlain, CmRef, CmMayA, CmMayB, CmMayC, CmMayD, CmMay, CmREnc, CmRDec, CmRDecE. The conditions stand at each part.
-/
import Derived.Deep.RegionHeld3
import Derived.BigQuiet
import Derived.WalkSmall
import Derived.Test.YtkngpfngfmbmjaaYPackB
/-
  Commands and entries, as plain data: which may be, their bytes, how bytes are read as one; what is read of bytes has just these bytes. No condition.
-/
namespace Go.Proofs.Ytkngpfngfmbmjaa

/-! ### A number has one row of bytes -/
/-! ### Commands -/
/-- A command. -/
structure Cm where
  kind : Int
  session : Int
  seq : Int
  name : ByteArray
  n : Int

/-- The command all of whose fields are 0 and "". -/
def Cm.zero : Cm := ⟨0, 0, 0, ⟨#[]⟩, 0⟩

/-- A number from 1 to 2^30. -/
def great (n : Int) : Bool := decide (1 ≤ n) && decide (n ≤ 1073741824)
/-- A ballot. -/
def isBallot (n : Int) : Bool := decide (1 ≤ n) && decide (n ≤ 1099511627776)
/-- A name. -/
def isName (s : ByteArray) : Bool := decide (1 ≤ s.size) && decide (s.size ≤ 64)

/-- Which commands may be. -/
def mayB (c : Cm) : Bool :=
  if c.kind = 0 then decide (c.session = 0) && (decide (c.seq = 0) && (decide (c.name.size = 0) && decide (c.n = 0)))
  else if c.kind = 1 then decide (c.session = 0) && (decide (c.seq = 0) && (decide (c.name.size = 0) && isBallot c.n))
  else if c.kind = 4 then great c.session && (decide (c.seq = 0) && (decide (c.name.size = 0) && isBallot c.n))
  else if c.kind = 2 then (decide (0 ≤ c.session) && decide (c.session ≤ 7)) && (great c.seq && (decide (c.name.size = 0) && decide (c.n = 0)))
  else if c.kind = 3 then great c.session && (great c.seq && (decide (c.name.size = 0) && decide (c.n = 0)))
  else if c.kind = 9 then great c.session && (great c.seq && (isName c.name && (decide (-1073741824 ≤ c.n) && decide (c.n ≤ 1073741824))))
  else if 5 ≤ c.kind ∧ c.kind ≤ 12 then great c.session && (great c.seq && (isName c.name && decide (c.n = 0)))
  else false

/-- A command's bytes. -/
def encC (c : Cm) : List UInt8 := enc (zig c.kind) ++ (enc (zig c.session) ++ (enc (zig c.seq) ++ (lenText c.name ++ enc (zig c.n))))

/-- What is read of bytes as a command, and what Done says. -/
def readC (s : ByteArray) : Cm × Int :=
  let a := rU s false
  let b := rU a.2.1 a.2.2
  let c := rU b.2.1 b.2.2
  let d := rT c.2.1 c.2.2
  let e := rU d.2.1 d.2.2
  (⟨zag a.1, zag b.1, zag c.1, d.1, zag e.1⟩, rD e.2.1 e.2.2)

/-- Bytes as a command. -/
def decC (s : ByteArray) : Option Cm := if (readC s).2 = 0 ∧ mayB (readC s).1 = true then some (readC s).1 else none

/-! ### Entries -/
/-- An entry. -/
structure En where
  slot : Int
  ballot : Int
  cmd : Cm
def En.zero : En := ⟨0, 0, Cm.zero⟩
def mayE (e : En) : Bool := (decide (1 ≤ e.slot) && decide (e.slot ≤ 1099511627776)) && ((decide (0 ≤ e.ballot) && decide (e.ballot ≤ 1099511627776)) && mayB e.cmd)
/-- An entry's bytes. -/
def encE (e : En) : List UInt8 := enc (zig e.slot) ++ (enc (zig e.ballot) ++ lenText ⟨(encC e.cmd).toArray⟩)
/-- What is read of bytes as an entry: its numbers, its command's bytes, what Done says. -/
def readE (s : ByteArray) : Int × Int × ByteArray × Int :=
  let a := rU s false
  let b := rU a.2.1 a.2.2
  let d := rT b.2.1 b.2.2
  (zag a.1, zag b.1, d.1, rD d.2.1 d.2.2)
/-- Bytes as an entry. -/
def decE (s : ByteArray) : Option En :=
  match decC (readE s).2.2.1 with
  | none => none
  | some c => if (readE s).2.2.2 = 0 ∧ mayE ⟨(readE s).1, (readE s).2.1, c⟩ = true then some ⟨(readE s).1, (readE s).2.1, c⟩ else none

end Go.Proofs.Ytkngpfngfmbmjaa
/-
  The contracts of the document's own encoding of commands and entries (package latchkeyref03). The condition: numbers are of 64 bits.
-/
namespace Go.Proofs.Ytkngpfngfmbmjaa
open Go.RowKit

theorem bmm {w w1 w2 : World} {b : Nat} (h : Below b w w1) (hb : b ≤ w1.heap.size) (k : Below w1.heap.size w1 w2) : Below b w w2 := h.trans (k.mono hb)

theorem undrew {w w2 : World} (b : Below w.drew.heap.size w.drew w2) : Below w.heap.size w w2 := ⟨b.os, b.tape, b.output, b.size, b.block⟩

/-! ### Entries -/
end Go.Proofs.Ytkngpfngfmbmjaa
/-
  The contract of the document's own decoding of entries (package latchkeyref03). The condition: the text is no longer than a text of 64 bits' length.
-/
namespace Go.Proofs.Ytkngpfngfmbmjaa
open Go.RowKit

/-- DecodeEntry's two answers. -/
def decET (s : ByteArray) : En × Int := match decE s with | some e => (e, 0) | none => (En.zero, 2)
end Go.Proofs.Ytkngpfngfmbmjaa
