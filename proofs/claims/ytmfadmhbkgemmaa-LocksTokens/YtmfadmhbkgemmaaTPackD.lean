/-
  Parts of the proof, laid together: MxRef, MxMem, MxDrop, MxPut, RwMem. The conditions stand at each part.
-/
import Derived.Laws.AppendOwnNone
import Derived.Test.YtmfadmhbkgemmaaTPackA
import Derived.Test.YtmfadmhbkgemmaaTPack5
/-
  Rows of numbers read: is a number among some, are two rows one (package latchkeyref08). The condition: the rows lie in memory as their reading says.
-/
namespace Go.Proofs.Ytmfadmhbkgemmaa
open Go.RowKit

def hasB (l : List Int) (n : Int) : Bool := decide (n ∈ l)
end Go.Proofs.Ytmfadmhbkgemmaa
/-
  A number out of some (package latchkeyref08): the others, in a row of their own. The conditions: the row lies in memory as its reading says, and is no longer than 65536.
-/
namespace Go.Proofs.Ytmfadmhbkgemmaa
open Go.RowKit

def dropL (l : List Int) (n : Int) : List Int := l.filter fun x => !(x == n)
theorem dropL_le (l : List Int) (n : Int) : (dropL l n).length ≤ l.length := List.length_filter_le _ _
end Go.Proofs.Ytmfadmhbkgemmaa
/-
  A number where it belongs (package latchkeyref08): the row with it, in a row of its own. The conditions: the row lies in memory as its reading says, and is shorter than 65536.
-/
namespace Go.Proofs.Ytmfadmhbkgemmaa
open Go.RowKit

def putL (l : List Int) (n : Int) : List Int := l.takeWhile (fun x => decide (x < n)) ++ n :: l.dropWhile (fun x => decide (x < n))
end Go.Proofs.Ytmfadmhbkgemmaa
/-
  The document's rwlock in memory (package latchkeyref08): who holds it, whether for writing, who waits; whether one may have it; given to one. The condition: fewer than 65536 hold it.
-/
namespace Go.Proofs.Ytmfadmhbkgemmaa
open Go.RowKit

/-- A task that waits: who, for reading, blocked. -/
abbrev Wt : Type := Int × Bool × Bool
theorem putL_mem {l : List Int} {n x : Int} (h : x ∈ putL l n) : x = n ∨ x ∈ l := by
  unfold putL at h
  rw [List.mem_append, List.mem_cons] at h
  rcases h with h | h | h
  · exact Or.inr ((List.takeWhile_sublist _).subset h)
  · exact Or.inl h
  · exact Or.inr ((List.dropWhile_sublist _).subset h)
theorem putL_length (l : List Int) (n : Int) : (putL l n).length = l.length + 1 := by
  unfold putL
  have := congrArg List.length (List.takeWhile_append_dropWhile (p := fun x => decide (x < n)) (l := l))
  rw [List.length_append] at this
  rw [List.length_append, List.length_cons]
  omega
section
variable {w w' : World} {base D : Nat} {S S' : Nat → Prop} {L L' : List Int} {wt wt' : Bool} {q q' : List Wt}
end
end Go.Proofs.Ytmfadmhbkgemmaa
