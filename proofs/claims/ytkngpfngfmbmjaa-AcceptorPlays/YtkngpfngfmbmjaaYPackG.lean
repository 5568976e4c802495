/-
  Parts of the proof, laid together: DkMem, KMap, DkMake, KMem. The conditions stand at each part.
-/
import Derived.WalkKit
import Derived.WalkSpells
import Derived.Lib.SmallJoins
import Derived.Deep.AppendLies
import Derived.Below
import Derived.Handy
import Derived.Maps.RangeWalk
import Derived.Laws.AppendOwnNone
import Derived.Deep.MidRow
import Derived.Lib.BufferWrite
import Derived.Test.YtkngpfngfmbmjaaYPackA
/-
  The program's disk (package disk) in memory: a map from names to files, each with its bytes and its pieces; whose block is whose. No condition.
-/
namespace Go.Proofs.Ytkngpfngfmbmjaa
open Go.RowKit Go.MapKept

/-- A file: its name, its block, the values of its two slices, its bytes, how many are sure, what each append brought (its turn, its size). -/
structure CF where
  name : ByteArray
  c : Nat
  bv : Value
  lv : Value
  bs : List UInt8
  sure : Nat
  ps : List (Nat × Nat)
/-- A file by its name; a file put in its own place. -/
def lk (l : List CF) (n : ByteArray) : Option CF := l.find? fun f => decide (f.name = n)
end Go.Proofs.Ytkngpfngfmbmjaa
