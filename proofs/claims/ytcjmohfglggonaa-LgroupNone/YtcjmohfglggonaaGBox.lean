/-
  A thing of few cells, one of them a row of numbers of its own: for any program. No condition.
-/
import Derived.Test.YtcjmohfglggonaaGInts
import Derived.Test.YtcjmohfglggonaaMxRef
namespace Go.Proofs.Ytcjmohfglggonaa
open Go.RowKit

/-- A thing in block D: 'mk v': its cells, v the row; 'S': the blocks that are its own. -/
structure BoxAt (w : World) (base D : Nat) (S : Nat → Prop) (T : TypeId) (mk : Value → Array Value) (l : List Int) : Prop where
  ex : ∃ v, w.heap[D]? = some (.cells (mk v) T (0, 0)) ∧ OwnRow intC w S D v l
  sD : S D
  bd : ∀ b, S b → base ≤ b ∧ b < w.heap.size
  lo : ∀ x ∈ l, okI x
section
variable {w w' w1 : World} {base base' D : Nat} {S S' : Nat → Prop} {T : TypeId} {mk mk' : Value → Array Value} {l l' : List Int}
theorem BoxAt.keep (h : BoxAt w base D S T mk l) (hs : w.heap.size ≤ w'.heap.size) (hk : ∀ b, S b → w'.heap[b]? = w.heap[b]?) : BoxAt w' base D S T mk l := by
  obtain ⟨v, h1, h2⟩ := h.ex
  exact ⟨⟨v, (hk D h.sD).trans h1, h2.keep hs (fun b hb _ => hk b hb)⟩, h.sD, fun b hb => ⟨(h.bd b hb).1, Nat.lt_of_lt_of_le (h.bd b hb).2 hs⟩, h.lo⟩
theorem BoxAt.fresh (h : BoxAt w base D S T mk l) (k : Below w.heap.size w w') : BoxAt w' base D S T mk l := h.keep k.size (fun b hb => k.block b (h.bd b hb).2)
theorem BoxAt.drew (h : BoxAt w base D S T mk l) : BoxAt w.drew base D S T mk l := h.keep (Nat.le_refl _) (fun _ _ => rfl)
theorem BoxAt.low (h : BoxAt w base D S T mk l) (hb : base' ≤ base) : BoxAt w base' D S T mk l := ⟨h.ex, h.sD, fun b hs => ⟨Nat.le_trans hb (h.bd b hs).1, (h.bd b hs).2⟩, h.lo⟩
theorem BoxAt.base_le (h : BoxAt w base D S T mk l) : base ≤ w.heap.size := by have := h.bd D h.sD; omega
theorem BoxAt.below (h : BoxAt w base D S T mk l) (k : Kept w w' S S') : Below base w w' := k.low h.base_le (fun b hb => (h.bd b hb).1)
/-- The thing's cells turn, and its row: in the thing's own blocks, or in new ones. -/
theorem BoxAt.turn (h : BoxAt w base D S T mk l) (b : Below w.heap.size w w1) {v : Value} (hD : w'.heap[D]? = some (.cells (mk' v) T (0, 0))) (ho : ∀ c, c ≠ D → w'.heap[c]? = w1.heap[c]?) (hs : w'.heap.size = w1.heap.size) (h3 : w'.os = w1.os ∧ w'.tape = w1.tape ∧ w'.output = w1.output)
    (hv : OwnRow intC w1 (fun x => S x ∨ w.heap.size ≤ x ∧ x < w1.heap.size) D v l') (hlo : ∀ x ∈ l', okI x) : BoxAt w' base D (fun x => S x ∨ w.heap.size ≤ x ∧ x < w1.heap.size) T mk' l' ∧ Kept w w' S (fun x => S x ∨ w.heap.size ≤ x ∧ x < w1.heap.size) := by
  have hbs := h.base_le
  refine ⟨⟨⟨v, hD, hv.keep (by omega) (fun c _ hc => ho c hc)⟩, Or.inl h.sD, fun x hx => ?_, hlo⟩, ⟨h3.1.trans b.os, h3.2.1.trans b.tape, h3.2.2.trans b.output, by have := b.size; omega, fun x hx => hx.imp id (fun h => h.1), fun x hx hn => ?_⟩⟩
  · rcases hx with hx | hx
    · have := h.bd x hx
      have := b.size
      exact ⟨by omega, by omega⟩
    · exact ⟨by omega, by omega⟩
  · rw [ho x (fun e => hn (by rw [e]; exact h.sD)), b.block x hx]
theorem OwnRow.nilAny (w : World) (S : Nat → Prop) (D : Nat) : OwnRow intC w S D (.slice none 0 0) [] := OwnRow.nil w S D
end
end Go.Proofs.Ytcjmohfglggonaa
