/-
  What layer 9's laws are handed, opened: a deed, a row of deeds. No condition.
-/
import Derived.Test.YtcjmohfglggonaaGOpenInts
import Derived.Test.YtcjmohfglggonaaLgPlays
namespace Go.Proofs.Ytcjmohfglggonaa
open Go.ChangeShapes Go.WideShapes Go.ChangeAt Go.RowKit Go.Joins Go.Deep

theorem kcDd : Try.prog.cellsOf 30 = 3 := by kernel_rfl
section
variable {H : Type} {enc : TypeId × Value → H} {w : World}
def DdL (d : Dd) (cs : List Value) (_ : DataW H) : Prop := cs = ddC d ∧ okI d.1 ∧ okI d.2.1
set_option maxRecDepth 100000 in
theorem dd_open {fuel : Nat} {cs : List Value} {x : DataW H × List MemPlace} (h : DataW.trod enc Try.prog w 0 (fun _ => true) true fuel 30 cs = some x) : ∃ s : Dd, DdL s cs x.1 := by
  obtain ⟨y0, y1, y2, n, hx, hl, h0, h1, h2⟩ := trod_three_of Try.underlying30 h
  rw [kcDd] at hl
  match cs, hl with
  | [a0, a1, a2], _ =>
    simp only [kcInt, kcBool] at h0 h1 h2
    obtain ⟨T, e0, _, wT⟩ := DataW.trod_int Try.underlying3 h0
    obtain ⟨u, e1, _, wU⟩ := DataW.trod_int Try.underlying3 h1
    obtain ⟨r, e2, _⟩ := DataW.trod_bool Try.underlying4 h2
    simp at e0 e1 e2
    subst e0 e1 e2
    exact ⟨(T, u, r), rfl, bounds_i64 wT, bounds_i64 wU⟩
set_option maxRecDepth 100000 in
/-- A deed by value. -/
theorem open_dd {v : Value} {d : DataW H} {p : List MemPlace} {r : Reach} {b0 : Nat} (hv : Value.okWide Try.prog w r b0 30 v) (h : DataW.Trod enc Try.prog w 0 (fun _ => true) true 30 v d p) :
    ∃ (t k : Int) (r : Bool), v = .agg #[.int .i64 t, .int .i64 k, .bool r] := by
  obtain ⟨cs, rfl, _⟩ := okWide_struct Try.underlying30 hv
  obtain ⟨fuel, hf⟩ := h
  obtain ⟨⟨t, u, r⟩, e, _⟩ := dd_open hf
  refine ⟨t, u, r, ?_⟩
  have e' : cs.toList = [.int .i64 t, .int .i64 u, .bool r] := by simpa [Value.cells, ddC] using e
  rw [← Array.toArray_toList (xs := cs), e']
set_option maxRecDepth 100000 in
/-- A row of deeds. -/
theorem open_dds {v : Value} {d : DataW H} {p : List MemPlace} {r : Reach} {b0 : Nat} (hv : Value.okWide Try.prog w r b0 22 v) (h : DataW.Trod enc Try.prog w 0 (fun _ => true) true 22 v d p) : ∃ ds : List Dd, RowAt ddC w v ds ∧ (∀ x ∈ ds, okI x.1 ∧ okI x.2.1) ∧ ds.length ≤ 9223372036854775807 := by
  obtain ⟨a, len, cap, rfl⟩ := okWide_slice Try.underlying22 hv
  obtain ⟨fuel, hf⟩ := h
  obtain ⟨a', len', cap', l, e, hr⟩ := open_row Try.underlying22 kcDd (by omega) (DdL (H := H)) (fun _ _ _ h => dd_open h) hf
  cases e
  exact ⟨l, hr.row (by decide) ddC_len (fun _ _ _ h => h.1), hr.all (fun x => okI x.1 ∧ okI x.2.1) (fun _ _ _ h => h.2), by rw [hr.len_eq]; exact hr.le_max⟩
end
end Go.Proofs.Ytcjmohfglggonaa
