/-
  Parts of the proof, laid together: Plain, Writer, Reader, CRef, CRefText, CPair, CRp. The conditions stand at each part.
-/
import Derived.Lib.UnsafeStr
import Derived.Lib.Strings
import Derived.WalkKit
import Derived.WalkSpells
import Derived.Deep.AppendLies
import Derived.Lib.AppendStr
import Derived.Lib.BufferRead
import Derived.Handy
import Derived.Lib.IndexBytes
import Derived.Lib.BufferWrite
import Derived.Laws.MakeOwn
import Derived.Test.YtkngpfngfmbmjaaRows
/-
  What a number is as bytes, and how it is read back, as plain functions on lists of bytes; the facts on them that the walks and the laws need. No condition.
-/
namespace Go.Proofs.Ytkngpfngfmbmjaa

/-- A number from 0 on as bytes: seven bits a byte, the low ones first, 128 on each but the last. (f: how often it may go on; n itself is always enough.) -/
def encF : Nat → Nat → List UInt8
  | 0, n => [UInt8.ofNat n]
  | f + 1, n => if n < 128 then [UInt8.ofNat n] else UInt8.ofNat (n % 128 + 128) :: encF f (n / 128)
def enc (n : Nat) : List UInt8 := encF n n

/-- A signed number laid among those from 0 on. -/
def zig (n : Int) : Nat := if n < 0 then (-2 * n - 1).toNat else (2 * n).toNat
/-- The way back. -/
def zag (n : Nat) : Int := if n % 2 = 1 then -((n / 2 : Nat) : Int) - 1 else ((n / 2 : Nat) : Int)
/-- The number at the front of a row of bytes, k bytes of which were read and gave X: its value and how many bytes it has in all; (0, 0) if there is none. -/
def num (X k : Nat) : List UInt8 → Nat × Nat
  | [] => (0, 0)
  | c :: r => if k = 9 ∧ 1 < c.toNat then (0, 0) else if 128 ≤ c.toNat then num (X + c.toNat % 128 * 2 ^ (7 * k)) (k + 1) r else if c.toNat = 0 ∧ 0 < k then (0, 0) else (X + c.toNat % 128 * 2 ^ (7 * k), k + 1)

end Go.Proofs.Ytkngpfngfmbmjaa
/-
  The contracts of the reader (package codec: Of, Int, U64, Text, Done) and of strings.Clone: what a reader answers and what is left in it, for every text, and what has not turned. No condition but that a text is no longer than a text may be.
-/
namespace Go.Proofs.Ytkngpfngfmbmjaa
open Go.RowKit

theorem grown_trans {w w1 w2 : World} {row : Option Nat} (h : w.grownBy w1 row) (k : w1.grownBy w2 row) : w.grownBy w2 row :=
  ⟨k.os.trans h.os, k.tape.trans h.tape, k.output.trans h.output, Nat.le_trans h.size k.size, fun i hi hr => (k.block i (Nat.lt_of_lt_of_le hi h.size) hr).trans (h.block i hi hr)⟩
theorem grown_refl (w : World) (row : Option Nat) : w.grownBy w row := ⟨rfl, rfl, rfl, Nat.le_refl _, fun _ _ _ => rfl⟩
/-- What reading a number makes of a reader: the number, what is left, whether it is bad. -/
def rU (s : ByteArray) (b : Bool) : Nat × ByteArray × Bool :=
  if (num 0 0 s.data.toList).2 = 0 then (0, ⟨#[]⟩, true) else ((num 0 0 s.data.toList).1, s.extract (num 0 0 s.data.toList).2 s.size, b)

/-- Whether all was read, and well. -/
def rD (s : ByteArray) (b : Bool) : Int := if b = true ∨ s.size ≠ 0 then 2 else 0

/-- What reading a text makes of a reader. -/
def rT (s : ByteArray) (b : Bool) : ByteArray × ByteArray × Bool :=
  if 524288 < (rU s b).1 ∨ (rU s b).2.1.size < (rU s b).1 then (⟨#[]⟩, ⟨#[]⟩, true) else ((rU s b).2.1.extract 0 (rU s b).1, (rU s b).2.1.extract (rU s b).1 (rU s b).2.1.size, (rU s b).2.2)

end Go.Proofs.Ytkngpfngfmbmjaa
/-
  The contracts of the document's own reader (numbers, texts, the end) and writer (numbers, texts), for every number and every text. No condition but on sizes.
-/
namespace Go.Proofs.Ytkngpfngfmbmjaa
open Go.RowKit

/-- A text as bytes: its length, and it. -/
def lenText (s : ByteArray) : List UInt8 := enc s.size ++ s.data.toList

end Go.Proofs.Ytkngpfngfmbmjaa
