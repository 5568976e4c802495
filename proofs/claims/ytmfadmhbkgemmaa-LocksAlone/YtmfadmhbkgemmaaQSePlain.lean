/-
  Sessions as plain data: what each call answers and leaves, and the bytes. No condition.
-/
import Derived.Test.YtmfadmhbkgemmaaQPackB
namespace Go.Proofs.Ytmfadmhbkgemmaa

/-- A reply. -/
structure SeR where
  session : Int
  seq : Int
  err : Int
  token : Int
  n : Int
def SeR.zero : SeR := ⟨0, 0, 0, 0, 0⟩
end Go.Proofs.Ytmfadmhbkgemmaa
