/-
  The program's learner as the document's plain data: its map holds the same, its row of slots that wait is a heap of just those above what is applied. No condition.
-/
import Derived.Test.YtnoappklbipdhaaLrpLeClone
import Derived.Test.YtnoappklbipdhaaLrpLePush
import Derived.Test.YtnoappklbipdhaaLrpLeIter
namespace Go.Proofs.Ytnoappklbipdhaa
open Go.RowKit

/-- What the program keeps, held against the plain data. -/
structure LnRel (p : Ln) (n : Nat) (F : Int) (l : List (Int × En)) (hs : List Int) : Prop where
  ok : LnOk p n
  lk : ∀ s, lookM l s = leF p.l s
  f0 : 0 ≤ F ∧ F ≤ p.ap
  fg : ∀ e ∈ p.l, F < e.slot
  hp : HeapN hs hs.length
  nd : hs.Nodup
  hm : ∀ s, s ∈ hs ↔ p.ap < s ∧ (leF p.l s).isSome = true
  hl : hs.length ≤ n
structure LnAt (w : World) (base X : Nat) (S : Nat → Prop) (p : Ln) (n : Nat) : Prop where
  ex : ∃ F l hs mb v, LrAt w base X S p.ap F l hs mb v ∧ LnRel p n F l hs
section
variable {w w' : World} {base X : Nat} {S : Nat → Prop} {p : Ln} {n : Nat}
theorem LnAt.keep (h : LnAt w base X S p n) (hk : ∀ g, S g → w'.heap[g]? = w.heap[g]?) : LnAt w' base X S p n := by
  obtain ⟨F, l, hs, mb, v, h1, h2⟩ := h.ex
  exact ⟨F, l, hs, mb, v, h1.keep hk, h2⟩
theorem LnAt.bd (h : LnAt w base X S p n) : ∀ g, S g → base ≤ g ∧ g < w.heap.size := fun g hg => by
  obtain ⟨F, l, hs, mb, v, h1, h2⟩ := h.ex
  exact ⟨h1.lo g hg, h1.bd g hg⟩
theorem LnAt.fresh (h : LnAt w base X S p n) (k : Below w.heap.size w w') : LnAt w' base X S p n := h.keep fun g hg => k.block g (h.bd g hg).2
theorem LnAt.ok (h : LnAt w base X S p n) : LnOk p n := by
  obtain ⟨F, l, hs, mb, v, h1, h2⟩ := h.ex
  exact h2.ok
end
/-- Entries that are answered: to be read, in no block of the thing's own. -/
structure AnsE (w w' : World) (S : Nat → Prop) (u : Value) (xs : List En) : Prop where
  row : RowAt enC w' u xs
  new : ∀ bk off n c, 0 < n → u = .slice (some ⟨bk, off, none⟩) n c → w.heap.size ≤ bk ∧ ¬ S bk
theorem AnsE.nil (w w' : World) (S : Nat → Prop) : AnsE w w' S (.slice none 0 0) [] := ⟨RowAt.nil w', fun _ _ _ _ _ e => (by simp at e)⟩
/-- The least slot that waits: at the row's front. -/
theorem LnRel.least {p : Ln} {n : Nat} {F : Int} {l : List (Int × En)} {hs : List Int} (h : LnRel p n F l hs) {s : Int} (hs1 : s ∈ hs) : 0 < hs.length ∧ atI hs 0 ≤ s ∧ atI hs 0 ∈ hs := by
  have h0 : 0 < hs.length := List.length_pos_of_mem hs1
  refine ⟨h0, h.hp.first s hs1, ?_⟩
  rw [← atI_get h0]
  exact List.getElem_mem h0
/-- The next slot applied: the least one that waits is taken out. -/
theorem LnRel.next {p : Ln} {n : Nat} {F : Int} {l : List (Int × En)} {hs hs' : List Int} (h : LnRel p n F l hs) (hn : (leF p.l (p.ap + 1)).isSome = true) (hmx : p.ap + 1 ≤ MXi) (hp : hs.Perm (atI hs 0 :: hs')) (hh : HeapN hs' hs'.length) : LnRel ⟨p.ap + 1, p.l⟩ n F l hs' := by
  have hm1 : p.ap + 1 ∈ hs := (h.hm _).2 ⟨by omega, hn⟩
  obtain ⟨h0, h1, h2⟩ := h.least hm1
  have h3 := ((h.hm _).1 h2).1
  have he : atI hs 0 = p.ap + 1 := by omega
  rw [he] at hp
  have nd := hp.nodup_iff.1 h.nd
  rw [List.nodup_cons] at nd
  have hl := hp.length_eq
  have := h.ok.ap
  have := h.f0
  refine ⟨⟨⟨by show 0 ≤ p.ap + 1; omega, hmx⟩, h.ok.sl, h.ok.nm, h.ok.ln⟩, h.lk, ⟨h.f0.1, by show F ≤ p.ap + 1; omega⟩, h.fg, hh, nd.2, fun s => ?_, by have := h.hl; simp at hl; omega⟩
  have hs1 := h.hm s
  rw [hp.mem_iff, List.mem_cons] at hs1
  show s ∈ hs' ↔ p.ap + 1 < s ∧ _
  constructor
  · intro hs2
    have := hs1.1 (Or.inr hs2)
    refine ⟨?_, this.2⟩
    by_cases hse : s = p.ap + 1
    · rw [hse] at hs2
      exact absurd hs2 nd.1
    · omega
  · rintro ⟨h4, h5⟩
    rcases hs1.2 ⟨by omega, h5⟩ with h6 | h6
    · omega
    · exact h6
end Go.Proofs.Ytnoappklbipdhaa
