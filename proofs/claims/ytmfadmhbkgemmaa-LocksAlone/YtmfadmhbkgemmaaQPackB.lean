/-
  Parts of the proof, laid together: Plain, Writer, Reader, CRef, CRefText. The conditions stand at each part.
-/
import Derived.Lib.UnsafeStr
import Derived.Lib.Strings
import Derived.WalkKit
import Derived.WalkSpells
import Derived.Deep.AppendLies
import Derived.Lib.AppendStr
import Derived.Lib.BufferRead
import Derived.Handy
import Derived.Lib.IndexBytes
import Derived.Lib.BufferWrite
import Derived.Laws.MakeOwn
import Derived.Test.YtmfadmhbkgemmaaRows
/-
  What a number is as bytes, and how it is read back, as plain functions on lists of bytes; the facts on them that the walks and the laws need. No condition.
-/
namespace Go.Proofs.Ytmfadmhbkgemmaa

/-- A number from 0 on as bytes: seven bits a byte, the low ones first, 128 on each but the last. (f: how often it may go on; n itself is always enough.) -/
def encF : Nat → Nat → List UInt8
  | 0, n => [UInt8.ofNat n]
  | f + 1, n => if n < 128 then [UInt8.ofNat n] else UInt8.ofNat (n % 128 + 128) :: encF f (n / 128)
def enc (n : Nat) : List UInt8 := encF n n

end Go.Proofs.Ytmfadmhbkgemmaa
