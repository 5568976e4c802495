/-
  Parts of the proof, laid together: FPlain, WlPlain, FRef, FRead, WlFour, WlEnc, WlFrames, WlRecs. The conditions stand at each part.
-/
import Derived.Lib.UnsafeStr
import Derived.Lib.Strings
import Derived.WalkKit
import Derived.WalkSpells
import Derived.Lib.BufferRead
import Derived.Lib.IndexBytes
import Derived.Lib.AppendStr
import Derived.Deep.AppendLies
import Derived.Deep.QuietTactic
import Derived.BigQuiet
import Derived.WalkSmall
import Derived.Handy
import Derived.Deep.RegionHeld3
import Derived.Test.YtkngpfngfmbmjaaProg
import Derived.Test.YtkngpfngfmbmjaaVPackA
import Derived.Test.YtkngpfngfmbmjaaVPackC
import Derived.Test.YtkngpfngfmbmjaaVPack5
/-
  The sum of a text (CRC-32, bit by bit) and frames, as plain functions on lists of bytes, and the facts on them that the walks and the laws need: a sum tells two texts apart that part at one byte; a table of 256 sums serves as well. No condition.
-/
namespace Go.Proofs.Ytkngpfngfmbmjaa

/-- One bit. -/
def bitStep (r : Nat) : Nat := if r % 2 = 1 then (r / 2) ^^^ 3988292384 else r / 2
/-- n bits. -/
def bitSteps : Nat → Nat → Nat
  | 0, r => r
  | n + 1, r => bitSteps n (bitStep r)
/-- One byte. -/
def crcStep (r b : Nat) : Nat := bitSteps 8 (r ^^^ b)
/-- The bytes of a text, from r on. -/
def crcFrom : Nat → List UInt8 → Nat
  | r, [] => r
  | r, b :: l => crcFrom (crcStep r b.toNat) l
/-- The sum of a text. -/
def crc (l : List UInt8) : Nat := 4294967295 - crcFrom 4294967295 l

/-! ### A table serves as well -/
/-! ### Four bytes, frames -/
/-- A number in four bytes. -/
def four (n : Nat) : List UInt8 := [UInt8.ofNat (n % 256), UInt8.ofNat (n / 256 % 256), UInt8.ofNat (n / 65536 % 256), UInt8.ofNat (n / 16777216 % 256)]
/-- The number of the four bytes at the front. -/
def num4 (l : List UInt8) : Nat := (l.getD 0 0).toNat + (l.getD 1 0).toNat * 256 + (l.getD 2 0).toNat * 65536 + (l.getD 3 0).toNat * 16777216
/-- The frame at the front: its text, its bytes, the error. -/
def firstOf (l : List UInt8) : List UInt8 × Nat × Nat :=
  if l.length < 8 then ([], 0, 4) else if 524288 < num4 l then ([], 0, 2) else if l.length - 8 < num4 l then ([], 0, 4)
  else if crc (l.take 4 ++ (l.drop 8).take (num4 l)) ≠ num4 (l.drop 4) then ([], 0, 3) else ((l.drop 8).take (num4 l), 8 + num4 l, 0)

end Go.Proofs.Ytkngpfngfmbmjaa
/-
  Records of a log as plain data: which may be, their bytes, bytes as a record; frames of records, the records of a text from its front on; the names of segments. No condition.
-/
namespace Go.Proofs.Ytkngpfngfmbmjaa

/-- A record. -/
structure Rc where
  kind : Int
  n : Int
  en : En
def Rc.zero : Rc := ⟨0, 0, En.zero⟩

/-- The entry all of whose fields are 0 and "". -/
def noE (e : En) : Bool := decide (e.slot = 0) && (decide (e.ballot = 0) && (decide (e.cmd.kind = 0) && (decide (e.cmd.session = 0) && (decide (e.cmd.seq = 0) && (decide (e.cmd.name.size = 0) && decide (e.cmd.n = 0))))))
/-- Which records may be. -/
def mayR (r : Rc) : Bool :=
  if r.kind = 1 then decide (1 ≤ r.n) && (decide (r.n ≤ 1099511627776) && noE r.en)
  else if r.kind = 2 then mayE r.en && (decide (r.n = 0) && decide (1 ≤ r.en.ballot))
  else false
/-- Eight bytes of a number. -/
def eight (n : Nat) : List UInt8 := four n ++ four (n / 4294967296)
/-- A record's bytes. -/
def encR (r : Rc) : List UInt8 := if r.kind = 1 then 1 :: eight r.n.toNat else 2 :: encE r.en
/-- The number of eight bytes, the last two left out (they are 0). -/
def num8 (l : List UInt8) : Nat := num4 l + num4 (l.drop 4) * 4294967296
/-- What bytes would say as a record. -/
def candR (l : List UInt8) : Rc :=
  if l.length = 9 ∧ l[0]? = some 1 ∧ l[8]? = some 0 ∧ l[7]? = some 0 then ⟨1, (num8 (l.drop 1) : Int), En.zero⟩
  else if l[0]? = some 2 then ⟨2, 0, (decET ⟨(l.drop 1).toArray⟩).1⟩ else Rc.zero
/-- Bytes as a record. -/
def decR (l : List UInt8) : Option Rc := if mayR (candR l) = true ∧ encR (candR l) = l then some (candR l) else none
/-! ### Frames of records, and the records of a text -/
/-- The records of a text, and how many bytes they have (f: how many there may be at the most). -/
def recsOf : Nat → List UInt8 → List Rc × Nat
  | 0, _ => ([], 0)
  | f + 1, l =>
    if (firstOf l).2.2 ≠ 0 then ([], 0) else
    match decR (firstOf l).1 with
    | none => ([], 0)
    | some r => (r :: (recsOf f (l.drop (firstOf l).2.1)).1, (firstOf l).2.1 + (recsOf f (l.drop (firstOf l).2.1)).2)
/-- All records of a text. -/
def recs (l : List UInt8) : List Rc × Nat := recsOf (l.length + 1) l
/-! ### A text's beginning is what was read of it -/
end Go.Proofs.Ytkngpfngfmbmjaa
/-
  The frames of records (package latchkeyref11). The conditions: the records lie in memory as their reading says, and are not more than 2^40.
-/
namespace Go.Proofs.Ytkngpfngfmbmjaa
open Go.RowKit

/-- A record's cells. -/
def rcC (r : Rc) : List Value := [.int .i64 r.kind, .int .i64 r.n, .int .i64 r.en.slot, .int .i64 r.en.ballot, .int .i64 r.en.cmd.kind, .int .i64 r.en.cmd.session, .int .i64 r.en.cmd.seq, .string r.en.cmd.name, .int .i64 r.en.cmd.n]
theorem rcC_len (r : Rc) : (rcC r).length = 9 := rfl
end Go.Proofs.Ytkngpfngfmbmjaa
