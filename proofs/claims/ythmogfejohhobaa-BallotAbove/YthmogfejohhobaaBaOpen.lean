/-
  What layer 14's laws are handed, opened: numbers and pairs of numbers by value. No condition.
-/
import Derived.Test.YthmogfejohhobaaGOpen
import Derived.Test.YthmogfejohhobaaBaOwn
namespace Go.Proofs.Ythmogfejohhobaa
open Go.ChangeShapes Go.WideShapes Go.ChangeAt Go.RowKit Go.Joins Go.Deep

theorem kcInt : Try.prog.cellsOf 3 = 1 := by kernel_rfl
theorem kcTwo : Try.prog.cellsOf 26 = 2 := by kernel_rfl
section
variable {H : Type} {enc : TypeId × Value → H} {w : World}
/-- A number by value. -/
theorem open_int {v : Value} {d : DataW H} {p : List MemPlace} {r : Reach} {b0 : Nat} (hv : Value.okWide Try.prog w r b0 3 v) (h : DataW.Trod enc Try.prog w 0 (fun _ => true) true 3 v d p) : ∃ x : Int, v = .int .i64 x ∧ x ≤ 9223372036854775807 := by
  obtain ⟨x, rfl⟩ := okWide_int Try.underlying3 hv
  obtain ⟨fuel, hf⟩ := h
  obtain ⟨n, e, _, hw⟩ := DataW.trod_int Try.underlying3 hf
  simp [Value.cells] at e
  subst e
  exact ⟨_, rfl, (bounds_i64 hw).2⟩
set_option maxRecDepth 100000 in
/-- A pair by value. -/
theorem open_pair {v : Value} {d : DataW H} {p : List MemPlace} {r : Reach} {b0 : Nat} (hv : Value.okWide Try.prog w r b0 26 v) (h : DataW.Trod enc Try.prog w 0 (fun _ => true) true 26 v d p) : ∃ x y : Int, v = .agg #[.int .i64 x, .int .i64 y] := by
  have hv' : ∃ cs, v = .agg cs := by
    unfold Value.okWide at hv
    rw [Try.underlying26] at hv
    obtain ⟨cs, e, _⟩ := hv
    exact ⟨cs, e⟩
  obtain ⟨cs, rfl⟩ := hv'
  obtain ⟨fuel, hf⟩ := h
  obtain ⟨c0, c1, y0, y1, n, e, _, h0, h1⟩ := trod_two_of Try.underlying26 kcInt kcTwo hf
  obtain ⟨A, e0, _⟩ := DataW.trod_int Try.underlying3 h0
  obtain ⟨B, e1, _⟩ := DataW.trod_int Try.underlying3 h1
  simp at e0 e1
  subst e0 e1
  refine ⟨A, B, ?_⟩
  have e' : cs.toList = [.int .i64 A, .int .i64 B] := by simpa [Value.cells] using e
  rw [← Array.toArray_toList (xs := cs), e']
end
end Go.Proofs.Ythmogfejohhobaa
