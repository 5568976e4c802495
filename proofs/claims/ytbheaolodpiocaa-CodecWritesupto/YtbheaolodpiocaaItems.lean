/-
  A row of items that came in, opened at every place: its four cells, and that its numbers fit their kinds. No condition.
-/
import Derived.Test.YtbheaolodpiocaaRefText
import Derived.ProofKit
import Derived.OpenShut
import Derived.ShutString
import Derived.ChangeOld
import Derived.Below
import Derived.Deep.Slices
import Derived.Lib.SmallJoins
namespace Go.Proofs.Ytbheaolodpiocaa
open Go.ChangeShapes Go.WideShapes Go.ChangeAt Go.RowKit Go.Joins Go.Deep

theorem Try.cells27 : Try.prog.cellsOf 27 = 4 := by kernel_rfl
theorem Try.cells3 : Try.prog.cellsOf 3 = 1 := by kernel_rfl
theorem Try.cells25 : Try.prog.cellsOf 25 = 1 := by kernel_rfl
theorem Try.cells9 : Try.prog.cellsOf 9 = 1 := by kernel_rfl

/-- An item: its kind, its signed number, its number from 0 on, its text. -/
abbrev It := Int × Int × Nat × ByteArray

structure IsItem (w : World) (bk o : Nat) (x : It) : Prop where
  c0 : w.cell? ⟨bk, o, none⟩ = some (.int .i64 x.1)
  c1 : w.cell? ⟨bk, o + 1, none⟩ = some (.int .i64 x.2.1)
  c2 : w.cell? ⟨bk, o + 2, none⟩ = some (.int .u64 x.2.2.1)
  c3 : w.cell? ⟨bk, o + 3, none⟩ = some (.string x.2.2.2)
  lo : -9223372036854775808 ≤ x.2.1
  hi : x.2.1 ≤ 9223372036854775807
  u : x.2.2.1 < 18446744073709551616
  s : x.2.2.2.size ≤ 9223372036854775807

theorem open_items {H : Type} {enc : TypeId × Value → H} {w : World} {a : Option Addr} {len cap : Nat} {d : DataW H} {p : List MemPlace} (h : DataW.Trod enc Try.prog w 0 (fun _ => true) true 22 (.slice a len cap) d p) :
    len = 0 ∨ ∃ (bk off : Nat) (X : Nat → It) (elems spare : List (DataW H)), a = some ⟨bk, off, none⟩ ∧ len ≤ cap ∧ cap ≤ 9223372036854775807 ∧ bk < w.heap.size ∧ (∀ j, j < len → IsItem w bk (off + j * 4) (X j)) ∧
      d = .slice elems spare ∧ ∀ j, j < len → ∃ y0 y1 y2, .agg [y0, y1, y2, .lit (.string (X j).2.2.2.data.toList)] ∈ elems := by
  obtain ⟨fuel, hf⟩ := h
  rcases open_slice Try.underlying22 hf with ⟨h0, _⟩ | ⟨x, l, c, m, n, D, Pl, hcs, _, hl, hm, hmm, hx, hel⟩
  · left
    simp [Value.cells] at h0
    exact h0.2.1
  · simp [Value.cells] at hcs
    obtain ⟨rfl, rfl, rfl⟩ := hcs
    by_cases h0 : len = 0
    · exact Or.inl h0
    right
    rw [Try.cells27] at hel
    have hmc : m = cap := by simpa using hmm
    have each : ∀ j, j < len → ∃ q : It, w.cell? (x.add (j * 4)) = some (.int .i64 q.1) ∧ w.cell? (x.add (j * 4 + 1)) = some (.int .i64 q.2.1) ∧ w.cell? (x.add (j * 4 + 2)) = some (.int .u64 q.2.2.1) ∧
        w.cell? (x.add (j * 4 + 3)) = some (.string q.2.2.2) ∧ -9223372036854775808 ≤ q.2.1 ∧ q.2.1 ≤ 9223372036854775807 ∧ q.2.2.1 < 18446744073709551616 ∧ q.2.2.2.size ≤ 9223372036854775807 ∧ ∃ y0 y1 y2, D j = .agg [y0, y1, y2, .lit (.string q.2.2.2.data.toList)] := by
      intro j hj
      obtain ⟨cs', h1, h2⟩ := hel j (by omega)
      obtain ⟨_, hlen, hcell⟩ := World.cells?_some h1
      obtain ⟨y0, y1, y2, y3, k, hxy, _, t0, t1, t2, t3⟩ := trod_struct4 Try.underlying27 h2
      match cs', hlen with
      | [v0, v1, v2, v3], _ =>
        obtain ⟨a0, e0, _, _⟩ := DataW.trod_int Try.underlying3 t0
        obtain ⟨a1, e1, _, w1⟩ := DataW.trod_int Try.underlying3 t1
        obtain ⟨a2, e2, _, w2⟩ := DataW.trod_int Try.underlying25 t2
        obtain ⟨a3, e3, r3, w3⟩ := DataW.trod_string Try.underlying9 t3
        simp [Try.cells3] at e0 e1
        simp [Try.cells25] at e2
        simp [Try.cells9] at e3
        subst e0 e1 e2 e3
        have b1 := bounds_i64 w1
        have b2 := bounds_u64 w2
        obtain ⟨u, rfl⟩ := Int.eq_ofNat_of_zero_le b2.1
        have g0 := hcell 0 (by omega)
        have g1 := hcell 1 (by omega)
        have g2 := hcell 2 (by omega)
        have g3 := hcell 3 (by omega)
        rw [add_add] at g0 g1 g2 g3
        simp only [Prod.mk.injEq] at hxy
        exact ⟨(a0, a1, u, a3), g0, g1, g2, g3, b1.1, b1.2, (by have := b2.2; show u < _; omega), by simpa [maxLen] using w3, y0.1, y1.1, y2.1, by rw [hxy.1, r3]⟩
    obtain ⟨X, hX⟩ := choose_lt each
    have c00 := (hX 0 (by omega)).1
    obtain ⟨bk, off, spot⟩ := x
    have hspot : spot = none := by simpa [Addr.add] using World.cell?_spot c00
    subst hspot
    have hadd : ∀ k, (⟨bk, off, none⟩ : Addr).add k = ⟨bk, off + k, none⟩ := fun k => add_plain _ _ _
    have hb := World.block_lt_of_cell? w _ c00
    refine ⟨bk, off, X, _, _, rfl, hl, by simpa [maxLen] using hm, by rw [hadd] at hb; exact hb, fun j hj => ?_, (Prod.mk.inj hx).1, fun j hj => ?_⟩
    · obtain ⟨g0, g1, g2, g3, q1, q2, q3, q4, _⟩ := hX j hj
      rw [hadd] at g0 g1 g2 g3
      exact ⟨g0, by rw [Nat.add_assoc]; exact g1, by rw [Nat.add_assoc]; exact g2, by rw [Nat.add_assoc]; exact g3, q1, q2, q3, q4⟩
    · obtain ⟨_, _, _, _, _, _, _, _, y0, y1, y2, hD⟩ := hX j hj
      exact ⟨y0, y1, y2, List.mem_map.2 ⟨j, List.mem_range.2 hj, hD⟩⟩
end Go.Proofs.Ytbheaolodpiocaa
