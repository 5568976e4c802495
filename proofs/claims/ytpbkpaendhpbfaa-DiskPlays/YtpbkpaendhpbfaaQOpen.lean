/-
  A deed handed over by value: its cells. No condition.
-/
import Derived.Test.YtpbkpaendhpbfaaRows
import Derived.ProofKit
import Derived.OpenShut
import Derived.ShutString
import Derived.ChangeOld
import Derived.Below
import Derived.Lib.SmallJoins
namespace Go.Proofs.Ytpbkpaendhpbfaa
open Go.ChangeShapes Go.WideShapes Go.ChangeAt Go.RowKit

theorem cellsDeed : Try.prog.cellsOf 30 = 5 := by kernel_rfl
theorem cellsInt : Try.prog.cellsOf 3 = 1 := by kernel_rfl
theorem cellsStr : Try.prog.cellsOf 9 = 1 := by kernel_rfl
section
variable {H : Type} {enc : TypeId × Value → H} {w : World} {base : Nat} {spare : Nat → Bool} {held : Bool}
set_option maxRecDepth 100000 in
theorem trod_five {P : Program} {t : TypeId} {f0 f1 f2 f3 f4 : Field} {fuel : Nat} {cs : List Value} {x : DataW H × List MemPlace} (ht : P.underlying t = some (.struct #[f0, f1, f2, f3, f4])) (h : DataW.trod enc P w base spare held fuel t cs = some x) :
    ∃ y0 y1 y2 y3 y4 n, cs.length = P.cellsOf t ∧ DataW.trod enc P w base spare held n f0.type ((cs.drop f0.offset).take (P.cellsOf f0.type)) = some y0 ∧ DataW.trod enc P w base spare held n f1.type ((cs.drop f1.offset).take (P.cellsOf f1.type)) = some y1 ∧
      DataW.trod enc P w base spare held n f2.type ((cs.drop f2.offset).take (P.cellsOf f2.type)) = some y2 ∧ DataW.trod enc P w base spare held n f3.type ((cs.drop f3.offset).take (P.cellsOf f3.type)) = some y3 ∧ DataW.trod enc P w base spare held n f4.type ((cs.drop f4.offset).take (P.cellsOf f4.type)) = some y4 := by
  obtain ⟨xs, n, _, rfl, hl, hlen, hf⟩ := DataW.trod_struct ht h
  match xs, hlen with
  | [y0, y1, y2, y3, y4], _ => exact ⟨y0, y1, y2, y3, y4, n, hl, by simpa using hf 0 f0 rfl, by simpa using hf 1 f1 rfl, by simpa using hf 2 f2 rfl, by simpa using hf 3 f3 rfl, by simpa using hf 4 f4 rfl⟩
set_option maxRecDepth 100000 in
theorem deed_cells {fuel : Nat} {cs : List Value} {x : DataW H × List MemPlace} (h : DataW.trod enc Try.prog w base spare held fuel 30 cs = some x) :
    ∃ (K N : Int) (F T S : ByteArray), cs = [.int .i64 K, .int .i64 N, .string F, .string T, .string S] ∧ F.size ≤ maxLen ∧ T.size ≤ maxLen ∧ S.size ≤ maxLen ∧ (-9223372036854775808 ≤ N ∧ N ≤ 9223372036854775807) := by
  obtain ⟨y0, y1, y2, y3, y4, n, hl, h0, h1, h2, h3, h4⟩ := trod_five Try.underlying30 h
  rw [cellsDeed] at hl
  match cs, hl with
  | [a, b, c, d, e], _ =>
    simp only [cellsInt, cellsStr] at h0 h1 h2 h3 h4
    obtain ⟨K, e0, _⟩ := DataW.trod_int Try.underlying3 h0
    obtain ⟨N, e1, _, hN⟩ := DataW.trod_int Try.underlying3 h1
    obtain ⟨F, e2, _, hF⟩ := DataW.trod_string Try.underlying9 h2
    obtain ⟨T, e3, _, hT⟩ := DataW.trod_string Try.underlying9 h3
    obtain ⟨S, e4, _, hS⟩ := DataW.trod_string Try.underlying9 h4
    simp at e0 e1 e2 e3 e4
    exact ⟨K, N, F, T, S, by rw [e0, e1, e2, e3, e4], hF, hT, hS, by
      have h5 := hN
      simp [Lit.wf] at h5
      exact ⟨h5.1, h5.2⟩⟩
end
set_option maxRecDepth 100000 in
theorem open_deed {H : Type} {enc : TypeId × Value → H} {w : World} {r : Reach} {b0 b1 : Nat} {spare : Nat → Bool} {held : Bool} {v : Value} {d : DataW H} {p : List MemPlace}
    (hv : Value.okWide Try.prog w r b0 30 v) (h : DataW.Trod enc Try.prog w b1 spare held 30 v d p) :
    ∃ (K N : Int) (F T S : ByteArray), v = .agg #[.int .i64 K, .int .i64 N, .string F, .string T, .string S] ∧ F.size ≤ maxLen ∧ T.size ≤ maxLen ∧ S.size ≤ maxLen ∧ (-9223372036854775808 ≤ N ∧ N ≤ 9223372036854775807) := by
  obtain ⟨cs, rfl, _⟩ := okWide_struct Try.underlying30 hv
  obtain ⟨fuel, hf⟩ := h
  obtain ⟨K, N, F, T, S, e, h1⟩ := deed_cells hf
  refine ⟨K, N, F, T, S, ?_, h1⟩
  have e' : cs.toList = [.int .i64 K, .int .i64 N, .string F, .string T, .string S] := by simpa [Value.cells] using e
  rw [← Array.toArray_toList (xs := cs), e']
end Go.Proofs.Ytpbkpaendhpbfaa
