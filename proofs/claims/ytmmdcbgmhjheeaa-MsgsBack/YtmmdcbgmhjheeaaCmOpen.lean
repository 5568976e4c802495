/-
  A command, an entry handed over by value: its cells. No condition.
-/
import Derived.Test.YtmmdcbgmhjheeaaRows
import Derived.ProofKit
import Derived.OpenShut
import Derived.ShutString
import Derived.ChangeOld
import Derived.Below
import Derived.Lib.SmallJoins
namespace Go.Proofs.Ytmmdcbgmhjheeaa
open Go.ChangeShapes Go.WideShapes Go.ChangeAt Go.RowKit

theorem cells23 : Try.prog.cellsOf 25 = 5 := by kernel_rfl
theorem cells25 : Try.prog.cellsOf 57 = 7 := by kernel_rfl
theorem cells3 : Try.prog.cellsOf 3 = 1 := by kernel_rfl
theorem cells9 : Try.prog.cellsOf 9 = 1 := by kernel_rfl

section
variable {H : Type} {enc : TypeId × Value → H} {w : World} {base : Nat} {spare : Nat → Bool} {held : Bool}

set_option maxRecDepth 100000 in
theorem trod_struct5 {P : Program} {t : TypeId} {f0 f1 f2 f3 f4 : Field} {fuel : Nat} {cs : List Value} {x : DataW H × List MemPlace} (ht : P.underlying t = some (.struct #[f0, f1, f2, f3, f4])) (h : DataW.trod enc P w base spare held fuel t cs = some x) :
    ∃ y0 y1 y2 y3 y4 n, cs.length = P.cellsOf t ∧ DataW.trod enc P w base spare held n f0.type ((cs.drop f0.offset).take (P.cellsOf f0.type)) = some y0 ∧ DataW.trod enc P w base spare held n f1.type ((cs.drop f1.offset).take (P.cellsOf f1.type)) = some y1 ∧
      DataW.trod enc P w base spare held n f2.type ((cs.drop f2.offset).take (P.cellsOf f2.type)) = some y2 ∧ DataW.trod enc P w base spare held n f3.type ((cs.drop f3.offset).take (P.cellsOf f3.type)) = some y3 ∧ DataW.trod enc P w base spare held n f4.type ((cs.drop f4.offset).take (P.cellsOf f4.type)) = some y4 := by
  obtain ⟨xs, n, _, rfl, hl, hlen, hf⟩ := DataW.trod_struct ht h
  match xs, hlen with
  | [y0, y1, y2, y3, y4], _ => exact ⟨y0, y1, y2, y3, y4, n, hl, by simpa using hf 0 f0 rfl, by simpa using hf 1 f1 rfl, by simpa using hf 2 f2 rfl, by simpa using hf 3 f3 rfl, by simpa using hf 4 f4 rfl⟩

set_option maxRecDepth 100000 in
theorem cmd_cells {fuel : Nat} {cs : List Value} {x : DataW H × List MemPlace} (h : DataW.trod enc Try.prog w base spare held fuel 25 cs = some x) :
    ∃ (K S Q : Int) (T : ByteArray) (N : Int), cs = [.int .i64 K, .int .i64 S, .int .i64 Q, .string T, .int .i64 N] ∧ T.size ≤ maxLen := by
  obtain ⟨y0, y1, y2, y3, y4, n, hl, h0, h1, h2, h3, h4⟩ := trod_struct5 Try.underlying25 h
  rw [cells23] at hl
  match cs, hl with
  | [a, b, c, d, e], _ =>
    simp only [cells3, cells9] at h0 h1 h2 h3 h4
    obtain ⟨K, e0, _⟩ := DataW.trod_int Try.underlying3 h0
    obtain ⟨S, e1, _⟩ := DataW.trod_int Try.underlying3 h1
    obtain ⟨Q, e2, _⟩ := DataW.trod_int Try.underlying3 h2
    obtain ⟨T, e3, _, hT⟩ := DataW.trod_string Try.underlying9 h3
    obtain ⟨N, e4, _⟩ := DataW.trod_int Try.underlying3 h4
    simp at e0 e1 e2 e3 e4
    exact ⟨K, S, Q, T, N, by rw [e0, e1, e2, e3, e4], hT⟩

set_option maxRecDepth 100000 in
theorem entry_cells {fuel : Nat} {cs : List Value} {x : DataW H × List MemPlace} (h : DataW.trod enc Try.prog w base spare held fuel 57 cs = some x) :
    ∃ (A B K S Q : Int) (T : ByteArray) (N : Int), cs = [.int .i64 A, .int .i64 B, .int .i64 K, .int .i64 S, .int .i64 Q, .string T, .int .i64 N] ∧ T.size ≤ maxLen := by
  obtain ⟨y0, y1, y2, n, _, hl, h0, h1, h2⟩ := Go.Deep.trod_struct3 Try.underlying57 h
  rw [cells25] at hl
  match cs, hl with
  | [a, b, c, d, e, f, g], _ =>
    simp only [cells3, cells23] at h0 h1 h2
    obtain ⟨A, e0, _⟩ := DataW.trod_int Try.underlying3 h0
    obtain ⟨B, e1, _⟩ := DataW.trod_int Try.underlying3 h1
    obtain ⟨K, S, Q, T, N, e2, hT⟩ := cmd_cells h2
    simp at e0 e1 e2
    obtain ⟨rfl, rfl, rfl, rfl, rfl⟩ := e2
    exact ⟨A, B, K, S, Q, T, N, by rw [e0, e1], hT⟩
end

set_option maxRecDepth 100000 in
theorem open_cmd {H : Type} {enc : TypeId × Value → H} {w : World} {r : Reach} {b0 b1 : Nat} {spare : Nat → Bool} {held : Bool} {v : Value} {d : DataW H} {p : List MemPlace}
    (hv : Value.okWide Try.prog w r b0 25 v) (h : DataW.Trod enc Try.prog w b1 spare held 25 v d p) :
    ∃ (K S Q : Int) (T : ByteArray) (N : Int), v = .agg #[.int .i64 K, .int .i64 S, .int .i64 Q, .string T, .int .i64 N] ∧ T.size ≤ maxLen := by
  obtain ⟨cs, rfl, _⟩ := okWide_struct Try.underlying25 hv
  obtain ⟨fuel, hf⟩ := h
  obtain ⟨K, S, Q, T, N, e, hT⟩ := cmd_cells hf
  refine ⟨K, S, Q, T, N, ?_, hT⟩
  have e' : cs.toList = [.int .i64 K, .int .i64 S, .int .i64 Q, .string T, .int .i64 N] := by simpa [Value.cells] using e
  rw [← Array.toArray_toList (xs := cs), e']
set_option maxRecDepth 100000 in
theorem open_entry {H : Type} {enc : TypeId × Value → H} {w : World} {r : Reach} {b0 b1 : Nat} {spare : Nat → Bool} {held : Bool} {v : Value} {d : DataW H} {p : List MemPlace}
    (hv : Value.okWide Try.prog w r b0 57 v) (h : DataW.Trod enc Try.prog w b1 spare held 57 v d p) :
    ∃ (A B K S Q : Int) (T : ByteArray) (N : Int), v = .agg #[.int .i64 A, .int .i64 B, .int .i64 K, .int .i64 S, .int .i64 Q, .string T, .int .i64 N] ∧ T.size ≤ maxLen := by
  obtain ⟨cs, rfl, _⟩ := okWide_struct Try.underlying57 hv
  obtain ⟨fuel, hf⟩ := h
  obtain ⟨A, B, K, S, Q, T, N, e, hT⟩ := entry_cells hf
  refine ⟨A, B, K, S, Q, T, N, ?_, hT⟩
  have e' : cs.toList = [.int .i64 A, .int .i64 B, .int .i64 K, .int .i64 S, .int .i64 Q, .string T, .int .i64 N] := by simpa [Value.cells] using e
  rw [← Array.toArray_toList (xs := cs), e']
end Go.Proofs.Ytmmdcbgmhjheeaa
