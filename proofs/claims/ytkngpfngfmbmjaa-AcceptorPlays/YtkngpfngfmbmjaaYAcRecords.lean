/-
  AcceptorRecords walked: the records that it gave, put to what it knew at first, are what it knows. The condition: a text has at most 2^48 bytes.
-/
import Derived.Test.YtkngpfngfmbmjaaYAcSane
namespace Go.Proofs.Ytkngpfngfmbmjaa
open Go.Shelf Go.RowKit Go.Lib Go.Sort


theorem apart_PO {T : TypeId} {w : World} {base base' X n : Nat} {S : Nat → Prop} {d : Du} {v u : Value} {xs : List Value} (h : AcAt T w base S X d v) (o : w.ownsRow base' 65 9 u n xs) (hT : 65 ≠ T) : ∀ b, S b → u.ownBlock ≠ some b := fun b hb e => by
  rcases (h.set b).1 hb with rfl | e1
  · exact own_ne o h.blk hT e
  · rcases h.own.2 with ⟨e2, _⟩ | ⟨g, cap, cur, e2, _, hc, _⟩
    · rw [e2] at e1; simp [Value.ownBlock] at e1
    · rw [e2] at e1
      simp only [Value.ownBlock, Option.some.injEq] at e1
      rw [e1] at hc
      exact own_ne o hc (by decide) e
theorem AcAt.mono {T : TypeId} {w : World} {base base' X : Nat} {S : Nat → Prop} {d : Du} {v : Value} (h : AcAt T w base S X d v) (hb : base' ≤ base) : AcAt T w base' S X d v := ⟨h.blk, own_mono h.own hb, Nat.le_trans hb h.lo, h.ne, h.set⟩
end Go.Proofs.Ytkngpfngfmbmjaa
