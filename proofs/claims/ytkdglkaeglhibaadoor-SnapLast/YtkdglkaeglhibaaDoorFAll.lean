/-
  The contracts of the document's own reader of all frames (package latchkeyref02): All, Texts, for every text that is not too long. The condition: at most 2^40 bytes.
-/
import Derived.Test.YtkdglkaeglhibaaDoorFRead
namespace Go.Proofs.YtkdglkaeglhibaaDoor
open Go.RowKit

theorem Tryd.info9 : (Tryd.prog.info? 9).map (fun i => (i.zero, i.size, i.bytes)) = some (some (.string ⟨#[]⟩), 1, 16) := by kernel_rfl

theorem grownB {w w1 : World} (h : Below w.heap.size w w1) (row : Option Nat) : w.grownBy w1 row := ⟨h.os, h.tape, h.output, h.size, fun k hk _ => h.block k hk⟩

/-- Texts as cells. -/
def strs (l : List (List UInt8)) : List Value := l.map fun t => .string ⟨t.toArray⟩
theorem strs_push (l : List (List UInt8)) (t : List UInt8) : strs l ++ [.string ⟨t.toArray⟩] = strs (l ++ [t]) := by simp [strs]

/-- All frames of a text, and their bytes. -/
def allT (l : List UInt8) : List (List UInt8) × Nat := allOf (l.length + 1) l

theorem allOf_step {f : Nat} {l : List UInt8} (h : (firstOf l).2.2 = 0) : allOf (f + 1) l = ((firstOf l).1 :: (allOf f (l.drop (firstOf l).2.1)).1, (firstOf l).2.1 + (allOf f (l.drop (firstOf l).2.1)).2) := by
  rw [allOf, if_neg (by simpa using h)]
theorem allOf_stop {f : Nat} {l : List UInt8} (h : (firstOf l).2.2 ≠ 0) : allOf (f + 1) l = ([], 0) := by
  rw [allOf, if_pos h]

/-- A row of texts in memory: nil, or cells that hold them. -/
def HasTexts (w : World) (v : Value) (l : List (List UInt8)) : Prop :=
  (v = .slice Option.none 0 0 ∧ l = []) ∨ ∃ b cap, v = .slice (some ⟨b, 0, none⟩) l.length cap ∧ b < w.heap.size ∧ ∀ j, j < l.length → w.cell? ⟨b, j, none⟩ = some (.string ⟨(l.getD j []).toArray⟩)

theorem has_of_owns {w : World} {base : Nat} {v : Value} {l : List (List UInt8)} (h : w.ownsRow base 9 1 v l.length (strs l)) : HasTexts w v l := by
  rcases h.2 with ⟨rfl, h0⟩ | ⟨g, cap, cur, rfl, _, hg, _, _, _, htk⟩
  · exact Or.inl ⟨rfl, List.eq_nil_of_length_eq_zero h0⟩
  · refine Or.inr ⟨g, cap, rfl, lt_of_block hg, fun j hj => ?_⟩
    have hc := Lib.cells_of_row hg (l.length * 1) j (.string ⟨(l.getD j []).toArray⟩) (by rw [htk]; simp [strs, hj])
    rw [Lib.addr_add, Nat.zero_add] at hc
    exact hc
theorem HasTexts.below {w w1 : World} {v : Value} {l : List (List UInt8)} (h : HasTexts w v l) (hb : Below w.heap.size w w1) : HasTexts w1 v l := by
  rcases h with h | ⟨b, cap, rfl, hlt, hc⟩
  · exact Or.inl h
  · exact Or.inr ⟨b, cap, rfl, Nat.lt_of_lt_of_le hlt hb.size, fun j hj => (hb.cell (by exact hlt)).trans (hc j hj)⟩

end Go.Proofs.YtkdglkaeglhibaaDoor
