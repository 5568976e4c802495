/-
  What layer 8's laws are handed, opened: a deed, a row of deeds, a row of numbers. No condition.
-/
import Derived.Test.YtlcacjekpdmigaaGOpenRow
import Derived.Test.YtlcacjekpdmigaaRwFair
import Derived.Test.YtlcacjekpdmigaaMxOrder
namespace Go.Proofs.Ytlcacjekpdmigaa
open Go.ChangeShapes Go.WideShapes Go.ChangeAt Go.RowKit Go.Joins Go.Deep

theorem kcInt : Try.prog.cellsOf 3 = 1 := by kernel_rfl
theorem kcBool : Try.prog.cellsOf 4 = 1 := by kernel_rfl
theorem kcDeed : Try.prog.cellsOf 28 = 3 := by kernel_rfl
section
variable {H : Type} {enc : TypeId × Value → H} {w : World}
def DeedL (d : Wt) (cs : List Value) (_ : DataW H) : Prop := cs = waitC d ∧ okI d.1
set_option maxRecDepth 100000 in
theorem deed_open {fuel : Nat} {cs : List Value} {x : DataW H × List MemPlace} (h : DataW.trod enc Try.prog w 0 (fun _ => true) true fuel 28 cs = some x) : ∃ s : Wt, DeedL s cs x.1 := by
  obtain ⟨y0, y1, y2, n, hx, hl, h0, h1, h2⟩ := trod_three_of Try.underlying28 h
  rw [kcDeed] at hl
  match cs, hl with
  | [a0, a1, a2], _ =>
    simp only [kcInt, kcBool] at h0 h1 h2
    obtain ⟨T, e0, _, wT⟩ := DataW.trod_int Try.underlying3 h0
    obtain ⟨u, e1, _⟩ := DataW.trod_bool Try.underlying4 h1
    obtain ⟨r, e2, _⟩ := DataW.trod_bool Try.underlying4 h2
    simp at e0 e1 e2
    subst e0 e1 e2
    exact ⟨(T, u, r), rfl, bounds_i64 wT⟩
set_option maxRecDepth 100000 in
/-- A deed by value. -/
theorem open_deed {v : Value} {d : DataW H} {p : List MemPlace} {r : Reach} {b0 : Nat} (hv : Value.okWide Try.prog w r b0 28 v) (h : DataW.Trod enc Try.prog w 0 (fun _ => true) true 28 v d p) :
    ∃ (t : Int) (u r : Bool), v = .agg #[.int .i64 t, .bool u, .bool r] := by
  obtain ⟨cs, rfl, _⟩ := okWide_struct Try.underlying28 hv
  obtain ⟨fuel, hf⟩ := h
  obtain ⟨⟨t, u, r⟩, e, _⟩ := deed_open hf
  refine ⟨t, u, r, ?_⟩
  have e' : cs.toList = [.int .i64 t, .bool u, .bool r] := by simpa [Value.cells, waitC] using e
  rw [← Array.toArray_toList (xs := cs), e']
set_option maxRecDepth 100000 in
/-- A row of deeds. -/
theorem open_deeds {v : Value} {d : DataW H} {p : List MemPlace} {r : Reach} {b0 : Nat} (hv : Value.okWide Try.prog w r b0 22 v) (h : DataW.Trod enc Try.prog w 0 (fun _ => true) true 22 v d p) : ∃ ds : List Wt, RowAt waitC w v ds ∧ (∀ x ∈ ds, okI x.1) ∧ ds.length ≤ 9223372036854775807 := by
  obtain ⟨a, len, cap, rfl⟩ := okWide_slice Try.underlying22 hv
  obtain ⟨fuel, hf⟩ := h
  obtain ⟨a', len', cap', l, e, hr⟩ := open_row Try.underlying22 kcDeed (by omega) (DeedL (H := H)) (fun _ _ _ h => deed_open h) hf
  cases e
  exact ⟨l, hr.row (by decide) waitC_len (fun _ _ _ h => h.1), hr.all (fun x => okI x.1) (fun _ _ _ h => h.2), by rw [hr.len_eq]; exact hr.le_max⟩
set_option maxRecDepth 100000 in
/-- A row of numbers. -/
theorem open_ints {v : Value} {d : DataW H} {p : List MemPlace} {r : Reach} {b0 : Nat} (hv : Value.okWide Try.prog w r b0 39 v) (h : DataW.Trod enc Try.prog w 0 (fun _ => true) true 39 v d p) : ∃ l : List Int, RowAt intC w v l ∧ (∀ x ∈ l, okI x) ∧ l.length ≤ 9223372036854775807 := by
  obtain ⟨a, len, cap, rfl⟩ := okWide_slice Try.underlying39 hv
  obtain ⟨fuel, hf⟩ := h
  obtain ⟨a', len', cap', l, e, hr⟩ := open_row Try.underlying39 kcInt (by omega) (fun (n : Int) cs (_ : DataW H) => cs = intC n ∧ okI n) (fun fuel cs x h => by
    obtain ⟨n, e, _, hw⟩ := DataW.trod_int Try.underlying3 h
    exact ⟨n, e, bounds_i64 hw⟩) hf
  cases e
  exact ⟨l, hr.row (by decide) intC_len (fun _ _ _ h => h.1), hr.all okI (fun _ _ _ h => h.2), by rw [hr.len_eq]; exact hr.le_max⟩
end
end Go.Proofs.Ytlcacjekpdmigaa
