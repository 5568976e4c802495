/-
  Parts of the proof, laid together: MxRef, MxMem, MxDrop, MxPut, RwMem. The conditions stand at each part.
-/
import Derived.Laws.AppendOwnNone
import Derived.Test.YtmfadmhbkgemmaaOPackA
import Derived.Test.YtmfadmhbkgemmaaOPack5
/-
  Rows of numbers read: is a number among some, are two rows one (package latchkeyref08). The condition: the rows lie in memory as their reading says.
-/
namespace Go.Proofs.Ytmfadmhbkgemmaa
open Go.RowKit

def hasB (l : List Int) (n : Int) : Bool := decide (n ∈ l)
end Go.Proofs.Ytmfadmhbkgemmaa
/-
  The document's mutex in memory (package latchkeyref08): who holds it, who waits; a new one, locked, unlocked. No condition.
-/
namespace Go.Proofs.Ytmfadmhbkgemmaa
open Go.RowKit

/-- A row of numbers in the thing's own blocks. -/
structure OwnInts (w : World) (S : Nat → Prop) (D : Nat) (v : Value) (l : List Int) : Prop where
  at' : IntsAt w v l
  own : ∀ a bk off n cap, 0 < n → v = .slice a n cap → a = some ⟨bk, off, none⟩ → S bk ∧ bk ≠ D
  mx : l.length ≤ 65536
  nn : ∀ n cap, v = .slice none n cap → n = 0 ∧ cap = 0
theorem OwnInts.keep {w w' : World} {S : Nat → Prop} {D : Nat} {v : Value} {l : List Int} (h : OwnInts w S D v l) (hs : w.heap.size ≤ w'.heap.size) (hk : ∀ b, S b → b ≠ D → w'.heap[b]? = w.heap[b]?) : OwnInts w' S D v l := by
  refine ⟨?_, h.own, h.mx, h.nn⟩
  obtain ⟨a, cap, hv, hc, he⟩ := h.at'.ex
  refine ⟨⟨a, cap, hv, hc, ?_⟩, h.at'.lo, h.at'.mx⟩
  rcases he with h0 | ⟨bk, off, ha, hb, hx⟩
  · exact Or.inl h0
  · by_cases h0 : l.length = 0
    · exact Or.inl h0
    have hS := h.own a bk off _ cap (by omega) hv ha
    exact Or.inr ⟨bk, off, ha, Nat.lt_of_lt_of_le hb hs, fun j hj => (World.cell?_of_block (hk bk hS.1 hS.2)).trans (hx j hj)⟩
theorem OwnInts.form {w : World} {S : Nat → Prop} {D : Nat} {v : Value} {l : List Int} (h : OwnInts w S D v l) : ∃ a cap, v = .slice a l.length cap := by
  obtain ⟨a, cap, e, _⟩ := h.at'.ex
  exact ⟨a, cap, e⟩
/-- A row that was made behind a world. -/
theorem OwnInts.new {w' : World} {base D : Nat} {v : Value} {l : List Int} (h : w'.ownsRow base 3 1 v l.length (intL l)) (hD : D < base) (hlo : ∀ x ∈ l, -9223372036854775808 ≤ x ∧ x ≤ 9223372036854775807) (hl : l.length ≤ 65536) : OwnInts w' (fun b => base ≤ b ∧ b < w'.heap.size) D v l := by
  refine ⟨⟨?_, hlo, by unfold maxLen; omega⟩, ?_, hl, ?_⟩
  · rcases h.2 with ⟨rfl, h0⟩ | ⟨g, cap, cur, rfl, _, hg, hc, _, _, _⟩
    · exact ⟨none, 0, by rw [h0], by omega, Or.inl h0⟩
    · refine ⟨_, _, rfl, hc, Or.inr ⟨g, 0, rfl, lt_of_block hg, fun j hj => ?_⟩⟩
      have := World.ownsRow.cellAt h j (by omega)
      rw [Nat.zero_add, this]
      unfold intL
      rw [List.getElem?_map, List.getElem?_eq_getElem hj]
      rfl
  · intro a bk off n cap _ e1 e2
    subst e1 e2
    have := h.lt bk rfl
    exact ⟨this, by omega⟩
  · intro n cap e
    subst e
    rcases h.2 with ⟨e, _⟩ | ⟨g, cap', cur, e, _⟩
    · simp only [Value.slice.injEq] at e
      exact e.2
    · simp only [Value.slice.injEq] at e
      cases e.1
section
variable {w w' : World} {base D : Nat} {S S' : Nat → Prop} {l l' : List Int} {who who' : Int}
end
end Go.Proofs.Ytmfadmhbkgemmaa
/-
  A number out of some (package latchkeyref08): the others, in a row of their own. The conditions: the row lies in memory as its reading says, and is no longer than 65536.
-/
namespace Go.Proofs.Ytmfadmhbkgemmaa
open Go.RowKit

def dropL (l : List Int) (n : Int) : List Int := l.filter fun x => !(x == n)
theorem dropL_le (l : List Int) (n : Int) : (dropL l n).length ≤ l.length := List.length_filter_le _ _
end Go.Proofs.Ytmfadmhbkgemmaa
/-
  A number where it belongs (package latchkeyref08): the row with it, in a row of its own. The conditions: the row lies in memory as its reading says, and is shorter than 65536.
-/
namespace Go.Proofs.Ytmfadmhbkgemmaa
open Go.RowKit

def putL (l : List Int) (n : Int) : List Int := l.takeWhile (fun x => decide (x < n)) ++ n :: l.dropWhile (fun x => decide (x < n))
end Go.Proofs.Ytmfadmhbkgemmaa
/-
  The document's rwlock in memory (package latchkeyref08): who holds it, whether for writing, who waits; whether one may have it; given to one. The condition: fewer than 65536 hold it.
-/
namespace Go.Proofs.Ytmfadmhbkgemmaa
open Go.RowKit

/-- A task that waits: who, for reading, blocked. -/
abbrev Wt : Type := Int × Bool × Bool
def waitC (x : Wt) : List Value := [.int .i64 x.1, .bool x.2.1, .bool x.2.2]
theorem waitC_len (x : Wt) : (waitC x).length = 3 := rfl
theorem waitC_one (x : Wt) : ∀ u ∈ waitC x, u.oneCell' = true := fun u hu => by
  simp only [waitC, List.mem_cons, List.not_mem_nil, or_false] at hu
  rcases hu with rfl | rfl | rfl <;> rfl
theorem OwnRow.ints {w : World} {S : Nat → Prop} {D : Nat} {v : Value} {l : List Int} (h : OwnRow intC w S D v l) (hlo : ∀ x ∈ l, okI x) (hl : l.length ≤ 65536) : OwnInts w S D v l := by
  refine ⟨h.at'.ints hlo hl, fun a bk off n cap h0 e1 e2 => h.own bk off n cap h0 (by rw [e1, e2]), hl, fun n cap e => ?_⟩
  obtain ⟨a, cap', e', _, h2, _⟩ := h.at'.ex
  rw [e] at e'
  simp only [Value.slice.injEq] at e'
  obtain ⟨e1, e2, e3⟩ := e'
  have := h2 e1.symm
  omega
theorem putL_mem {l : List Int} {n x : Int} (h : x ∈ putL l n) : x = n ∨ x ∈ l := by
  unfold putL at h
  rw [List.mem_append, List.mem_cons] at h
  rcases h with h | h | h
  · exact Or.inr ((List.takeWhile_sublist _).subset h)
  · exact Or.inl h
  · exact Or.inr ((List.dropWhile_sublist _).subset h)
theorem putL_length (l : List Int) (n : Int) : (putL l n).length = l.length + 1 := by
  unfold putL
  have := congrArg List.length (List.takeWhile_append_dropWhile (p := fun x => decide (x < n)) (l := l))
  rw [List.length_append] at this
  rw [List.length_append, List.length_cons]
  omega
section
variable {w w' : World} {base D : Nat} {S S' : Nat → Prop} {L L' : List Int} {wt wt' : Bool} {q q' : List Wt}
end
end Go.Proofs.Ytmfadmhbkgemmaa
