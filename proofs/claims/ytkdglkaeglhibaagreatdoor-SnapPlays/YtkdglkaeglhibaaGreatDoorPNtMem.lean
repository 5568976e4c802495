/-
  Packets on their way in memory: a block with a row of texts; which blocks are a net's own. No condition.
-/
import Derived.Test.YtkdglkaeglhibaaGreatDoorPDkFiles
import Derived.Deep.AppendLies
namespace Go.Proofs.YtkdglkaeglhibaaGreatDoor
open Go.RowKit

theorem nkeep {w w' : World} {base size n : Nat} {e : TypeId} {v : Value} {xs : List Value} (h : w.ownsRow base e size v n xs) (hk : ∀ g, v.ownBlock = some g → w'.heap[g]? = w.heap[g]?) : w'.ownsRow base e size v n xs := by
  refine ⟨h.1, ?_⟩
  rcases h.2 with h0 | ⟨g, cap, cur, rfl, h2, h3, h4⟩
  · exact Or.inl h0
  · exact Or.inr ⟨g, cap, cur, rfl, h2, (hk g rfl).trans h3, h4⟩
/-- A net in block D with the packets L; 'S': the blocks that are its own. -/
structure NtAt (T : TypeId) (w : World) (base D : Nat) (S : Nat → Prop) (L : List ByteArray) : Prop where
  ex : ∃ v, w.heap[D]? = some (.cells #[v] T (0, 0)) ∧ w.ownsRow base 9 1 v L.length (strL L) ∧ ∀ g, v.ownBlock = some g → S g
  sD : S D
  bd : ∀ b, S b → base ≤ b ∧ b < w.heap.size
  mx : L.length ≤ 4096
  sz : ∀ s ∈ L, s.size ≤ 524288
theorem Kept.below {T : TypeId} {w w' : World} {base D : Nat} {S S' : Nat → Prop} {L : List ByteArray} (h : NtAt T w base D S L) (k : Kept w w' S S') : Below base w w' :=
  ⟨k.os, k.tape, k.output, k.size, fun i hi => k.kept i (by have := h.bd D h.sD; omega) (fun hs => by have := h.bd i hs; omega)⟩
theorem NtAt.keep {T : TypeId} {w w' : World} {base D : Nat} {S : Nat → Prop} {L : List ByteArray} (h : NtAt T w base D S L) (hs : w.heap.size ≤ w'.heap.size) (hk : ∀ b, S b → w'.heap[b]? = w.heap[b]?) : NtAt T w' base D S L := by
  obtain ⟨v, hv, hr, ho⟩ := h.ex
  exact ⟨⟨v, (hk D h.sD).trans hv, nkeep hr (fun g e => hk g (ho g e)), ho⟩, h.sD, fun b hb => ⟨(h.bd b hb).1, Nat.lt_of_lt_of_le (h.bd b hb).2 hs⟩, h.mx, h.sz⟩
theorem NtAt.fresh {T : TypeId} {w w' : World} {base D : Nat} {S : Nat → Prop} {L : List ByteArray} (h : NtAt T w base D S L) (k : Below w.heap.size w w') : NtAt T w' base D S L := h.keep k.size (fun b hb => k.block b (h.bd b hb).2)
theorem NtAt.drew {T : TypeId} {w : World} {base D : Nat} {S : Nat → Prop} {L : List ByteArray} (h : NtAt T w base D S L) : NtAt T w.drew base D S L := h.keep (Nat.le_refl _) (fun _ _ => rfl)
theorem Kept.apart {w w' : World} {S S' S2 : Nat → Prop} (k : Kept w w' S S') (hb : ∀ b, S2 b → b < w.heap.size) (hd : ∀ b, S2 b → ¬ S b) : ∀ b, S2 b → ¬ S' b := fun b h2 h' => by
  rcases k.old b h' with h1 | h1
  · exact hd b h2 h1
  · have := hb b h2; omega
/-- The row has turned. -/
theorem NtAt.upd {T : TypeId} {w w' : World} {base D : Nat} {S : Nat → Prop} {L L' : List ByteArray} {v' : Value} (h : NtAt T w base D S L) (hD : w'.heap[D]? = some (.cells #[v'] T (0, 0))) (hr : w'.ownsRow base 9 1 v' L'.length (strL L')) (hb : ∀ g, v'.ownBlock = some g → S g ∨ w.heap.size ≤ g)
    (hos : w'.os = w.os) (htp : w'.tape = w.tape) (hot : w'.output = w.output) (hs : w.heap.size ≤ w'.heap.size) (hk : ∀ b, b < w.heap.size → ¬ S b → w'.heap[b]? = w.heap[b]?) (hmx : L'.length ≤ 4096) (hsz : ∀ s ∈ L', s.size ≤ 524288) :
    ∃ S', NtAt T w' base D S' L' ∧ Kept w w' S S' := by
  have hbase := (h.bd D h.sD).1
  have hDl := (h.bd D h.sD).2
  refine ⟨fun b => S b ∨ (w.heap.size ≤ b ∧ b < w'.heap.size), ⟨⟨v', hD, hr, fun g e => ?_⟩, Or.inl h.sD, fun b hb => ?_, hmx, hsz⟩, ⟨hos, htp, hot, hs, fun b hb => ?_, hk⟩⟩
  · rcases hb g e with h1 | h1
    · exact Or.inl h1
    · exact Or.inr ⟨h1, (hr.lt g e).2⟩
  · rcases hb with h1 | h1
    · exact ⟨(h.bd b h1).1, Nat.lt_of_lt_of_le (h.bd b h1).2 hs⟩
    · exact ⟨by omega, h1.2⟩
  · rcases hb with h1 | h1
    · exact Or.inl h1
    · exact Or.inr h1.1
/-- A new one. -/
theorem NtAt.new (T : TypeId) (w : World) : NtAt T (w.alloc (.cells #[.slice none 0 0] T)) w.heap.size w.heap.size (fun b => b = w.heap.size) [] :=
  ⟨⟨_, heap_alloc_new w _, World.ownsRow_nil _ _ _ _, fun g e => by simp [Value.ownBlock] at e⟩, rfl, fun b hb => by subst hb; exact ⟨Nat.le_refl _, by simp⟩, by simp, fun s hs => by simp at hs⟩
/-- What the walk needs of a net. -/
theorem NtAt.cells {T : TypeId} {w : World} {base D : Nat} {S : Nat → Prop} {L : List ByteArray} (h : NtAt T w base D S L) :
    ∃ p c, w.heap[D]? = some (.cells #[.slice p L.length c] T (0, 0)) ∧ w.ownsRow base 9 1 (.slice p L.length c) L.length (strL L) ∧ (∀ g, (Value.slice p L.length c).ownBlock = some g → S g) ∧ (L.length = 0 ∨ ∃ g, p = some ⟨g, 0, none⟩ ∧ L.length ≤ c) := by
  obtain ⟨v, hv, hr, ho⟩ := h.ex
  rcases hr.2 with ⟨rfl, h0⟩ | ⟨g, cap, cur, rfl, h1, h2, h3, _⟩
  · rw [h0] at hr
    refine ⟨none, 0, ?_, ?_, ?_, Or.inl h0⟩
    · rw [h0]; exact hv
    · rw [h0]; exact hr
    · rw [h0]; exact ho
  · exact ⟨_, _, hv, hr, ho, Or.inr ⟨g, rfl, h3⟩⟩
end Go.Proofs.YtkdglkaeglhibaaGreatDoor
