/-
  A range over a function none of whose rounds stops it: the iterator's own contract over the rounds' own blocks, and the statement: at the wide fence, for any program. No condition.
-/
import Derived.Test.YtmfadmhbkgemmaaQPackA
import Derived.RangeFuncNested
import Derived.RangeFuncBound
import Derived.RangeFuncCalls
import Derived.RangeFuncLeaves
import Derived.Shelf.Abstract
import Derived.Shelf.RegionOpen
import Derived.OwnWalkIn
import Derived.TacticsInMore
import Derived.LoopNIn
import Derived.LoopIn
namespace Go.Proofs.Ytmfadmhbkgemmaa
open Go.RowKit Go.Shelf

/-- Blocks that were there and are told by an invariant: it holds wherever they lie as they lay. -/
structure Stays {β : Type} (J : β → World → (Nat → Prop) → Prop) : Prop where
  lt : ∀ p W S, J p W S → ∀ b, S b → b < W.heap.size
  st : ∀ p W W' S, J p W S → W.heap.size ≤ W'.heap.size → (∀ b, S b → W'.heap[b]? = W.heap[b]?) → J p W' S
theorem kept_put {w : World} {S : Nat → Prop} {l : Nat} (o : Obj) (hl : S l) : Kept w (w.putObj l o) S S :=
  ⟨rfl, rfl, rfl, by simp, fun _ h => Or.inl h, fun b _ hn => World.putObj_heap_other (fun e => hn (by rw [e]; exact hl))⟩
theorem kept_more {w w' : World} {S S' T T' : Nat → Prop} (k : Kept w w' S S') (h1 : ∀ b, S b → T b) (h2 : ∀ b, T' b → S' b ∨ T b) : Kept w w' T T' :=
  ⟨k.os, k.tape, k.output, k.size, fun b hb => by
    rcases h2 b hb with h | h
    · rcases k.old b h with h | h
      · exact Or.inl (h1 b h)
      · exact Or.inr h
    · exact Or.inl h, fun b hb hn => k.kept b hb (fun hs => hn (h1 b hs))⟩
section
variable {P : Program} {n : Nat}
end
end Go.Proofs.Ytmfadmhbkgemmaa
