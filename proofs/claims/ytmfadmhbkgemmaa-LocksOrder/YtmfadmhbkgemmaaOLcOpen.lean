/-
  What layer 19's laws are handed, opened: a deed, a row of deeds, a counter, a row of truths. No condition.
-/
import Derived.Test.YtmfadmhbkgemmaaOPackA
import Derived.Test.YtmfadmhbkgemmaaOLcAwake
import Derived.SizedLaws
namespace Go.Proofs.Ytmfadmhbkgemmaa
open Go.ChangeShapes Go.WideShapes Go.ChangeAt Go.RowKit Go.Joins Go.Deep

theorem own : ownKnob Try.prog.godebug = none := by kernel_rfl
theorem laidOut : laidOutB Try.prog = true := by kernel_rfl
section
variable {H : Type} {enc : TypeId × Value → H} {w : World}
def blC (x : Bool) : List Value := [.bool x]
theorem blC_len (x : Bool) : (blC x).length = 1 := rfl
set_option maxRecDepth 100000 in
/-- A row of truths. -/
theorem bools_open {a : Option Addr} {n cap : Nat} {d : DataW H} {p : List MemPlace} (h : DataW.Trod enc Try.prog w 0 (fun _ => true) true 54 (.slice a n cap) d p) : ∃ l : List Bool, n = l.length ∧ RowAt blC w (.slice a n cap) l ∧ l.length ≤ maxLen := by
  obtain ⟨fuel, hf0⟩ := h
  have hf : DataW.trod enc Try.prog w 0 (fun _ => true) true fuel 54 [.slice a n cap] = some (d, p) := hf0
  obtain ⟨a', len, cap', l, hv, hr⟩ := open_row Try.underlying54 kcBool (by omega) (fun (n : Bool) cs (_ : DataW H) => cs = blC n) (fun fuel cs x h => by
    obtain ⟨b, e, _⟩ := DataW.trod_bool Try.underlying4 h
    exact ⟨b, e⟩) hf
  injection hv with e1 e2 e3
  subst e1 e2 e3
  have hrow := hr.row (by decide) blC_len (fun _ _ _ h => h)
  have hlen := hr.len_eq
  have hmax := hr.le_max
  exact ⟨l, hlen.symm, hrow, by omega⟩
end
end Go.Proofs.Ytmfadmhbkgemmaa
