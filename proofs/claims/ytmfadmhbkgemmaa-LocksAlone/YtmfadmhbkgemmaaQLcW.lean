/-
  The program's locks whole: with what they keep: how many there are. No condition.
-/
import Derived.Test.YtmfadmhbkgemmaaQLcPlain
import Derived.Test.YtmfadmhbkgemmaaQPackC
namespace Go.Proofs.Ytmfadmhbkgemmaa
open Go.RowKit

structure LcW (w : World) (base D : Nat) (S : Nat → Prop) (N : Nat) (c : Int) (l : List Lk) : Prop where
  ex : ∃ M T own, LcL w base D M c (lookK l) T own ∧ S = setL D M own
  ok : LcOk l
  fit : LoFit N c l
section
variable {w w' : World} {base D N : Nat} {S : Nat → Prop} {c : Int} {l : List Lk}
theorem LcL.len {M : Nat} {T : List (ByteArray × Nat)} {own : ByteArray → Nat → Prop} (I : LcL w base D M c (lookK l) T own) (hn : (l.map (·.name)).Nodup) : T.length = l.length := by
  have hp := keysM_perm (ks := l.map (·.name)) I.map.nodup hn fun a => by
    rw [I.some']
    constructor
    · intro h
      obtain ⟨x, hx⟩ := Option.isSome_iff_exists.1 h
      obtain ⟨h1, h2⟩ := lookK_name hx
      exact List.mem_map.2 ⟨x, h2, h1⟩
    · intro h
      obtain ⟨x, hx, rfl⟩ := List.mem_map.1 h
      rw [lookK_of hn hx]
      rfl
  have := hp.length_eq
  simpa using this
theorem LcW.bd (h : LcW w base D S N c l) : ∀ g, S g → base ≤ g ∧ g < w.heap.size := by
  obtain ⟨M, T, own, I, rfl⟩ := h.ex
  exact I.bd
theorem LcW.keep (h : LcW w base D S N c l) (hk : ∀ g, S g → w'.heap[g]? = w.heap[g]?) : LcW w' base D S N c l := by
  obtain ⟨M, T, own, I, rfl⟩ := h.ex
  exact ⟨⟨M, T, own, I.keep hk, rfl⟩, h.ok, h.fit⟩
theorem LcW.fresh (h : LcW w base D S N c l) (k : Below w.heap.size w w') : LcW w' base D S N c l := h.keep fun g hg => k.block g (h.bd g hg).2
theorem LcW.up (h : LcW w base D S N c l) {M : Nat} (hn : N ≤ M) : LcW w base D S M c l := ⟨h.ex, h.ok, h.fit.up hn⟩
end
/-- A row that was handed out lies beside them. -/
def SepR (u : Value) (S : Nat → Prop) : Prop := ∀ bk off n cap, 0 < n → u = .slice (some ⟨bk, off, none⟩) n cap → ¬ S bk
theorem sep_nil (S : Nat → Prop) : SepR (.slice none 0 0) S := fun _ _ _ _ _ e => (by simp at e)
theorem sep_own {w : World} {base n : Nat} {u : Value} {xs : List Value} {S : Nat → Prop} (o : w.ownsRow base rpT 5 u n xs) (h : ∀ g, u.ownBlock = some g → ¬ S g) : SepR u S := fun bk off m cap _ e => by
  rcases o.2 with ⟨e1, _⟩ | ⟨g, c, cur, e1, _⟩
  · rw [e1] at e
    simp at e
  · refine h bk ?_
    rw [e1] at e ⊢
    simp only [Value.slice.injEq, Option.some.injEq, Addr.mk.injEq] at e
    rw [← e.1.1]
    rfl
theorem sep_new {w : World} {base n : Nat} {u : Value} {xs : List Value} {S : Nat → Prop} (o : w.ownsRow base rpT 5 u n xs) (h : ∀ g, S g → g < base) : SepR u S := sep_own o fun g e hg => by
  have := (o.lt g e).1
  have := h g hg
  omega
theorem RowAt.sep {w w' : World} {u : Value} {xs : List SeR} {S S' : Nat → Prop} (r : RowAt rpC w u xs) (h : SepR u S) (k : Kept w w' S S') : RowAt rpC w' u xs ∧ SepR u S' := by
  have hlt : ∀ bk off n cap, 0 < n → u = .slice (some ⟨bk, off, none⟩) n cap → bk < w.heap.size := fun bk off n cap h0 e => r.lt h0 e
  refine ⟨r.keep k.size fun bk off n cap h0 e => k.kept bk (hlt bk off n cap h0 e) (h bk off n cap h0 e), fun bk off n cap h0 e e2 => ?_⟩
  rcases k.old bk e2 with e3 | e3
  · exact h bk off n cap h0 e e3
  · have := hlt bk off n cap h0 e
    omega
/-- Behind an answer. -/
structure AnsP (w : World) (base D : Nat) (S : Nat → Prop) (N : Nat) (q : Int × List Lk × List SeR × Bool) (e : Ending) (w' : World) : Prop where
  ex : ∃ u S', e = .returned (.tuple #[u, .bool q.2.2.2]) ∧ RowAt rpC w' u q.2.2.1 ∧ LcW w' base D S' N q.1 q.2.1 ∧ Kept w w' S S' ∧ SepR u S'
structure RepP (w : World) (base D : Nat) (S : Nat → Prop) (N : Nat) (q : Int × List Lk × List SeR) (e : Ending) (w' : World) : Prop where
  ex : ∃ u S', e = .returned u ∧ RowAt rpC w' u q.2.2 ∧ LcW w' base D S' N q.1 q.2.1 ∧ Kept w w' S S' ∧ SepR u S'
end Go.Proofs.Ytmfadmhbkgemmaa
