/-
  What layer 16's laws are handed, opened: a deed with its entries, a row of deeds, a row of entries, a number; how much each text is by the form's own reach. No condition.
-/
import Derived.Test.YtmlgoecdefeapaaMPackA
import Derived.Test.YtmlgoecdefeapaaMPxNone
import Derived.SizedLaws
namespace Go.Proofs.Ytmlgoecdefeapaa
open Go.ChangeShapes Go.WideShapes Go.ChangeAt Go.RowKit Go.Joins Go.Deep

theorem own : ownKnob Try.prog.godebug = none := by kernel_rfl
theorem laidOut : laidOutB Try.prog = true := by kernel_rfl
section
variable {H : Type} {enc : TypeId × Value → H} {w : World}
set_option maxRecDepth 100000 in
/-- A number by value. -/
theorem open_int {v : Value} {d : DataW H} {p : List MemPlace} {r : Reach} {b0 : Nat} (hv : Value.okWide Try.prog w r b0 3 v) (h : DataW.Trod enc Try.prog w 0 (fun _ => true) true 3 v d p) : ∃ x : Int, v = .int .i64 x ∧ inI x := by
  obtain ⟨x, rfl⟩ := okWide_int Try.underlying3 hv
  obtain ⟨fuel, hf⟩ := h
  obtain ⟨n, e, _, hw⟩ := DataW.trod_int Try.underlying3 hf
  simp [Value.cells] at e
  subst e
  exact ⟨_, rfl, bounds_i64 hw⟩
end
end Go.Proofs.Ytmlgoecdefeapaa
