/-
  Rows of one's own, rows that came in, and what a call leaves alone: for any program. No condition.
-/
import Derived.Test.YthokbififjhflaaRows
import Derived.WalkKit
import Derived.WalkSpells
import Derived.Lib.SmallJoins
import Derived.Deep.AppendLies
import Derived.Deep.RegionHeld3
import Derived.Laws.OwnMore
import Derived.Laws.MakeOwn
import Derived.Below
import Derived.Handy
namespace Go.Proofs.Ythokbififjhflaa
open Go.RowKit

/-- A hypothesis that is no rule. -/
def Hid (p : Prop) : Prop := p
theorem Hid.out {p : Prop} (h : Hid p) : p := h
theorem undrew {w w2 : World} (b : Below w.drew.heap.size w.drew w2) : Below w.heap.size w w2 := ⟨b.os, b.tape, b.output, b.size, b.block⟩
theorem undrB {w w' : World} {B : Nat} (k : Below B w.drew w') : Below B w w' := ⟨k.os, k.tape, k.output, k.size, k.block⟩
theorem bmm {w w1 w2 : World} {b : Nat} (h : Below b w w1) (hb : b ≤ w1.heap.size) (k : Below w1.heap.size w1 w2) : Below b w w2 := h.trans (k.mono hb)
theorem own_keep {w w' : World} {base size n : Nat} {e : TypeId} {v : Value} {xs : List Value} (h : w.ownsRow base e size v n xs) (hk : ∀ g, v.ownBlock = some g → w'.heap[g]? = w.heap[g]?) : w'.ownsRow base e size v n xs := by
  refine ⟨h.1, ?_⟩
  rcases h.2 with h0 | ⟨g, cap, cur, rfl, h2, h3, h4⟩
  · exact Or.inl h0
  · exact Or.inr ⟨g, cap, cur, rfl, h2, (hk g rfl).trans h3, h4⟩
theorem own_ne {w : World} {base n c size : Nat} {e t : TypeId} {v : Value} {xs : List Value} {cs : Array Value} {fr : Nat × Nat} (h : w.ownsRow base e size v n xs) (hc : w.heap[c]? = some (.cells cs t fr)) (hne : e ≠ t) : v.ownBlock ≠ some c := by
  intro e1
  rcases h.2 with ⟨e, e0⟩ | ⟨g', cap, cur, e, _, hb, _⟩
  · rw [e] at e1; simp [Value.ownBlock] at e1
  · rw [e] at e1
    simp only [Value.ownBlock, Option.some.injEq] at e1
    rw [e1, hc] at hb
    simp only [Option.some.injEq, Obj.cells.injEq] at hb
    exact hne hb.2.1.symm
theorem own_mono {w : World} {base base' size n : Nat} {e : TypeId} {v : Value} {xs : List Value} (h : w.ownsRow base e size v n xs) (hb : base' ≤ base) : w.ownsRow base' e size v n xs := by
  refine ⟨h.1, ?_⟩
  rcases h.2 with h0 | ⟨g, cap, cur, h1, h2, h3⟩
  · exact Or.inl h0
  · exact Or.inr ⟨g, cap, cur, h1, Nat.le_trans hb h2, h3⟩
theorem own_form {w : World} {base size n : Nat} {e : TypeId} {v : Value} {xs : List Value} (h : w.ownsRow base e size v n xs) : ∃ pv nv cv, v = .slice pv nv cv := by
  rcases h.2 with ⟨rfl, _⟩ | ⟨g, c, cur, rfl, _⟩
  · exact ⟨_, _, _, rfl⟩
  · exact ⟨_, _, _, rfl⟩
/-- What a call leaves: what is not the thing's own has not turned. -/
structure Kept (w w' : World) (S S' : Nat → Prop) : Prop where
  os : w'.os = w.os
  tape : w'.tape = w.tape
  output : w'.output = w.output
  size : w.heap.size ≤ w'.heap.size
  old : ∀ b, S' b → S b ∨ w.heap.size ≤ b
  kept : ∀ b, b < w.heap.size → ¬ S b → w'.heap[b]? = w.heap[b]?
theorem Kept.refl (w : World) (S : Nat → Prop) : Kept w w S S := ⟨rfl, rfl, rfl, Nat.le_refl _, fun _ h => Or.inl h, fun _ _ _ => rfl⟩
theorem Kept.of {w w' : World} {S : Nat → Prop} (k : Below w.heap.size w w') : Kept w w' S S := ⟨k.os, k.tape, k.output, k.size, fun _ h => Or.inl h, fun b hb _ => k.block b hb⟩
theorem Kept.trans {a b c : World} {S S1 S2 : Nat → Prop} (h : Kept a b S S1) (k : Kept b c S1 S2) : Kept a c S S2 := by
  refine ⟨k.os.trans h.os, k.tape.trans h.tape, k.output.trans h.output, Nat.le_trans h.size k.size, fun x hx => ?_, fun x hx hn => ?_⟩
  · rcases k.old x hx with h1 | h1
    · exact h.old x h1
    · exact Or.inr (Nat.le_trans h.size h1)
  · have h1 : ¬ S1 x := fun h1 => by
      rcases h.old x h1 with h2 | h2
      · exact hn h2
      · omega
    exact (k.kept x (Nat.lt_of_lt_of_le hx h.size) h1).trans (h.kept x hx hn)
theorem Kept.low {w w' : World} {S S' : Nat → Prop} {base : Nat} (k : Kept w w' S S') (hb : base ≤ w.heap.size) (hS : ∀ b, S b → base ≤ b) : Below base w w' :=
  ⟨k.os, k.tape, k.output, k.size, fun i hi => k.kept i (by omega) (fun hs => by have := hS i hs; omega)⟩
/-- A row of numbers that came in, as a slice. -/
structure IntsAt (w : World) (v : Value) (l : List Int) : Prop where
  ex : ∃ (a : Option Addr) (cap : Nat), v = .slice a l.length cap ∧ l.length ≤ cap ∧ (l.length = 0 ∨ ∃ bk off, a = some ⟨bk, off, none⟩ ∧ bk < w.heap.size ∧ ∀ j (hj : j < l.length), w.cell? ⟨bk, off + j, none⟩ = some (.int .i64 l[j]))
  lo : ∀ x ∈ l, -9223372036854775808 ≤ x ∧ x ≤ 9223372036854775807
  mx : l.length ≤ maxLen
theorem IntsAt.keep {w w' : World} {v : Value} {l : List Int} (h : IntsAt w v l) (hs : w.heap.size ≤ w'.heap.size) (hk : ∀ a bk off n cap, v = .slice a n cap → a = some ⟨bk, off, none⟩ → w'.heap[bk]? = w.heap[bk]?) : IntsAt w' v l := by
  obtain ⟨a, cap, hv, hc, he⟩ := h.ex
  refine ⟨⟨a, cap, hv, hc, ?_⟩, h.lo, h.mx⟩
  rcases he with h0 | ⟨bk, off, ha, hb, hx⟩
  · exact Or.inl h0
  · exact Or.inr ⟨bk, off, ha, Nat.lt_of_lt_of_le hb hs, fun j hj => (World.cell?_of_block (hk a bk off _ cap hv ha)).trans (hx j hj)⟩
theorem IntsAt.below {w w' : World} {v : Value} {l : List Int} {B : Nat} (h : IntsAt w v l) (k : Below B w w') (hB : ∀ a bk off n cap, v = .slice a n cap → a = some ⟨bk, off, none⟩ → bk < B) : IntsAt w' v l :=
  h.keep k.size (fun a bk off n cap e1 e2 => k.block bk (hB a bk off n cap e1 e2))
/-- Two things that lie apart lie apart behind a call on one of them. -/
theorem apart_old {w w' : World} {S S' T : Nat → Prop} (hb : ∀ b, T b → b < w.heap.size) (ha : ∀ b, S b → ¬ T b) (k : Kept w w' S S') : ∀ b, S' b → ¬ T b := fun b h1 h2 => by
  rcases k.old b h1 with h | h
  · exact ha b h h2
  · have := hb b h2
    omega
theorem bel_box {w w' : World} {o : Obj} (b : Below (w.alloc o).heap.size (w.alloc o) w') : Below w.heap.size w w' :=
  ((Below.refl _ w).alloc (Nat.le_refl _) o).trans (b.mono (by simp))
theorem ints_fresh {w w' : World} {v : Value} {l : List Int} (h : IntsAt w v l) (k : Below w.heap.size w w') : IntsAt w' v l := by
  obtain ⟨a, cap, hv, hc, he⟩ := h.ex
  refine ⟨⟨a, cap, hv, hc, ?_⟩, h.lo, h.mx⟩
  rcases he with h0 | ⟨bk, off, ha, hb, hx⟩
  · exact Or.inl h0
  · exact Or.inr ⟨bk, off, ha, Nat.lt_of_lt_of_le hb k.size, fun j hj => (k.cell (by exact hb)).trans (hx j hj)⟩
end Go.Proofs.Ythokbififjhflaa
