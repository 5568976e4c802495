/-
  A row of numbers that a law is handed, opened: for any program. No condition.
-/
import Derived.Test.YthokbififjhflaaGOpenRow
import Derived.Test.YthokbififjhflaaGInts
namespace Go.Proofs.Ythokbififjhflaa
open Go.ChangeShapes Go.WideShapes Go.ChangeAt Go.RowKit Go.Joins Go.Deep

theorem kcInt : Try.prog.cellsOf 3 = 1 := by kernel_rfl
theorem kcBool : Try.prog.cellsOf 4 = 1 := by kernel_rfl
section
variable {H : Type} {enc : TypeId × Value → H} {w : World}
set_option maxRecDepth 100000 in
/-- A row of numbers. -/
theorem open_ints {v : Value} {d : DataW H} {p : List MemPlace} {r : Reach} {b0 : Nat} (hv : Value.okWide Try.prog w r b0 41 v) (h : DataW.Trod enc Try.prog w 0 (fun _ => true) true 41 v d p) : ∃ l : List Int, RowAt intC w v l ∧ (∀ x ∈ l, okI x) ∧ l.length ≤ 9223372036854775807 := by
  obtain ⟨a, len, cap, rfl⟩ := okWide_slice Try.underlying41 hv
  obtain ⟨fuel, hf⟩ := h
  obtain ⟨a', len', cap', l, e, hr⟩ := open_row Try.underlying41 kcInt (by omega) (fun (n : Int) cs (_ : DataW H) => cs = intC n ∧ okI n) (fun fuel cs x h => by
    obtain ⟨n, e, _, hw⟩ := DataW.trod_int Try.underlying3 h
    exact ⟨n, e, bounds_i64 hw⟩) hf
  cases e
  exact ⟨l, hr.row (by decide) intC_len (fun _ _ _ h => h.1), hr.all okI (fun _ _ _ h => h.2), by rw [hr.len_eq]; exact hr.le_max⟩
end
end Go.Proofs.Ythokbififjhflaa
