/-
  Rows of structs in a block of one's own: a piece copied over another, pieces cleared, a cell set: for any program. No condition.
-/
import Derived.Test.YtmfadmhbkgemmaaQPackA
import Derived.Laws.CopyOwn
import Derived.Deep.RegionLaw
import Derived.Shelf.RegionOpenPlain
namespace Go.Proofs.Ytmfadmhbkgemmaa
open Go.RowKit

section
variable {P : Program} {w : World}
end
section
variable {P : Program} {w : World}
end
/-- A row of one's own, its block laid open. -/
theorem own_open {w : World} {base k n : Nat} {e : TypeId} {g c : Nat} {xs : List Value} (h : w.ownsRow base e k (.slice (some ⟨g, 0, none⟩) n c) n xs) : ∃ cur : List Value, w.heap[g]? = some (.cells cur.toArray e (0, 0)) ∧ base ≤ g ∧ n ≤ c ∧ c ≤ maxLen ∧ cur.length = c * k ∧ cur.take (n * k) = xs := by
  rcases h.2 with ⟨e1, _⟩ | ⟨g', c', cur, e1, h2, h3, h4, h5, h6, h7⟩
  · cases e1
  · simp only [Value.slice.injEq, Option.some.injEq, Addr.mk.injEq, and_true] at e1
    obtain ⟨rfl, _, rfl⟩ := e1
    exact ⟨cur.toList, by rw [Array.toArray_toList]; exact h3, h2, h4, h5, by rw [Array.length_toList]; exact h6, h7⟩
theorem own_shut {w : World} {base k n : Nat} {e : TypeId} {g c : Nat} {xs cur : List Value} (hb : w.heap[g]? = some (.cells cur.toArray e (0, 0))) (h1 : base ≤ g) (h2 : n ≤ c) (h3 : c ≤ maxLen) (h4 : cur.length = c * k) (h5 : cur.take (n * k) = xs) (h6 : xs.length = n * k) : w.ownsRow base e k (.slice (some ⟨g, 0, none⟩) n c) n xs :=
  ⟨h6, Or.inr ⟨g, c, cur.toArray, rfl, h1, hb, h2, h3, by simpa using h4, by simpa using h5⟩⟩
end Go.Proofs.Ytmfadmhbkgemmaa
