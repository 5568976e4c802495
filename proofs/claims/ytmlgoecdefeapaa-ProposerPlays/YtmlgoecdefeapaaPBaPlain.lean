/-
  Ballots as plain numbers: what is one, of which round and server, the next one, majorities. No condition.
-/
import Derived.Test.YtmlgoecdefeapaaPPackA
import Derived.Lib.MinMax
namespace Go.Proofs.Ytmlgoecdefeapaa
open Go.RowKit

def maR (n : Int) : Int := if n < 1 then 1 else n / 2 + 1
end Go.Proofs.Ytmlgoecdefeapaa
