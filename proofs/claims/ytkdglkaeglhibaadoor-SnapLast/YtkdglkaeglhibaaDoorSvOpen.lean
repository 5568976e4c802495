/-
  What SnapLast is handed, opened: a row of numbers, a row of texts. No condition.
-/
import Derived.Test.YtkdglkaeglhibaaDoorGOpenInts
import Derived.SliceStrings
import Derived.Lib.SmallJoins
import Derived.ProofKit
import Derived.OpenShut
import Derived.ShutString
import Derived.ChangeOld
import Derived.Below
namespace Go.Proofs.YtkdglkaeglhibaaDoor
open Go.ChangeShapes Go.WideShapes Go.ChangeAt Go.RowKit Go.Joins Go.Deep

theorem strings_at {w : World} {a : Addr} {ss : List ByteArray} (h : ∀ i, i < ss.length → w.cell? (a.add i) = some (.string (ss.getD i ByteArray.empty))) (hp : 0 < ss.length) :
    ∃ b off, a = ⟨b, off, none⟩ ∧ ∀ j, j < ss.length → w.cell? ⟨b, off + j, none⟩ = some (.string (ss.getD j ByteArray.empty)) := by
  obtain ⟨b, off, spot⟩ := a
  have hspot : spot = none := by simpa [Addr.add] using World.cell?_spot (h 0 hp)
  subst hspot
  exact ⟨b, off, rfl, fun j hj => by rw [← Go.WideShapes.add_plain]; exact h j hj⟩
section
variable {H : Type} {enc : TypeId × Value → H} {w : World}
set_option maxRecDepth 100000 in
theorem texts_open {a : Option Addr} {len cap : Nat} {d : DataW H} {p : List MemPlace} (h : DataW.Trod enc Tryd.prog w 0 (fun _ => true) true 23 (.slice a len cap) d p) :
    ∃ Y : Nat → ByteArray, len = 0 ∨ ∃ bk off, a = some ⟨bk, off, none⟩ ∧ bk < w.heap.size ∧ ∀ j, j < len → w.cell? ⟨bk, off + j, none⟩ = some (.string (Y j)) := by
  obtain ⟨fuel, hf⟩ := h
  rcases open_strings Tryd.underlying23 Tryd.underlying9 (by kernel_rfl) hf with ⟨hcs, _⟩ | ⟨x, l, c, ss, hcs, _, hl, hm, hz, _, hcell, _⟩
  · simp [Value.cells] at hcs
    obtain ⟨rfl, rfl, rfl⟩ := hcs
    exact ⟨fun _ => ⟨#[]⟩, Or.inl rfl⟩
  · simp [Value.cells] at hcs
    obtain ⟨rfl, rfl, rfl⟩ := hcs
    have hz' : ss.length = cap := by simpa using hz
    by_cases h0 : len = 0
    · exact ⟨fun _ => ⟨#[]⟩, Or.inl h0⟩
    · obtain ⟨bk, off, rfl, hc⟩ := strings_at hcell (by omega)
      exact ⟨fun j => ss.getD j ByteArray.empty, Or.inr ⟨bk, off, rfl, World.block_lt_of_cell? w _ (hc 0 (by omega)), fun j hj => hc j (by omega)⟩⟩
set_option maxRecDepth 100000 in
theorem ints_open {a : Option Addr} {len cap : Nat} {d : DataW H} {p : List MemPlace} {r : Reach} {b0 : Nat} (hv : Value.okWide Tryd.prog w r b0 22 (.slice a len cap)) (h : DataW.Trod enc Tryd.prog w 0 (fun _ => true) true 22 (.slice a len cap) d p) :
    ∃ X : Nat → Int, len = 0 ∨ ∃ bk off, a = some ⟨bk, off, none⟩ ∧ bk < w.heap.size ∧ ∀ j, j < len → w.cell? ⟨bk, off + j, none⟩ = some (.int .i64 (X j)) := by
  obtain ⟨l, hr, _, _⟩ := open_ints hv h
  obtain ⟨a', cap', e, h1, h2, h3⟩ := hr.ex
  injection e with e1 e2 e3
  subst e1 e2 e3
  refine ⟨fun j => l.getD j 0, ?_⟩
  rcases h3 with h3 | ⟨bk, off, ha, hb, hx⟩
  · exact Or.inl h3
  · refine Or.inr ⟨bk, off, ha, hb, fun j hj => hx j _ ?_⟩
    rw [rowL_int]
    unfold intL
    simp [hj]
end
end Go.Proofs.YtkdglkaeglhibaaDoor
