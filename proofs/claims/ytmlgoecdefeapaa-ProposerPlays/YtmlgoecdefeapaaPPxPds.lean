/-
  What ProposerPlays is handed, opened: three numbers, a row of deeds. No condition.
-/
import Derived.Test.YtmlgoecdefeapaaPPxOpen
import Derived.Test.YtmlgoecdefeapaaPPxDuo
import Derived.Test.YtmlgoecdefeapaaPPackA
namespace Go.Proofs.Ytmlgoecdefeapaa
open Go.ChangeShapes Go.WideShapes Go.ChangeAt Go.RowKit Go.Joins Go.Deep

theorem kcThree : Try.prog.cellsOf 22 = 3 := by kernel_rfl
theorem kcIn : Try.prog.cellsOf 3 = 1 := by kernel_rfl
section
variable {H : Type} {enc : TypeId × Value → H} {w : World}
theorem trod_arr3 {P : Program} {t e : TypeId} {fuel : Nat} {cs : List Value} {base : Nat} {spare : Nat → Bool} {held : Bool} {x : DataW H × List MemPlace} (ht : P.underlying t = some (.array 3 e)) (hc : P.cellsOf e = 1) (hC : P.cellsOf t = 3) (h : DataW.trod enc P w base spare held fuel t cs = some x) :
    ∃ c0 c1 c2 y0 y1 y2 n, cs = [c0, c1, c2] ∧ DataW.trod enc P w base spare held n e [c0] = some y0 ∧ DataW.trod enc P w base spare held n e [c1] = some y1 ∧ DataW.trod enc P w base spare held n e [c2] = some y2 := by
  obtain ⟨xs, n, _, rfl, hl, hlen, hf⟩ := DataW.trod_array ht h
  rw [hC] at hl
  rw [hc] at hf
  match xs, hlen, cs, hl with
  | [y0, y1, y2], _, [c0, c1, c2], _ => exact ⟨c0, c1, c2, y0, y1, y2, n, rfl, by simpa using hf 0 (by omega), by simpa using hf 1 (by omega), by simpa using hf 2 (by omega)⟩
set_option maxRecDepth 100000 in
/-- Three numbers by value. -/
theorem open_three {v : Value} {d : DataW H} {p : List MemPlace} {r : Reach} {b0 : Nat} (hv : Value.okWide Try.prog w r b0 22 v) (h : DataW.Trod enc Try.prog w 0 (fun _ => true) true 22 v d p) : ∃ x y z : Int, v = .agg #[.int .i64 x, .int .i64 y, .int .i64 z] := by
  have hv' : ∃ cs, v = .agg cs := by
    unfold Value.okWide at hv
    rw [Try.underlying22] at hv
    obtain ⟨cs, e, _⟩ := hv
    exact ⟨cs, e⟩
  obtain ⟨cs, rfl⟩ := hv'
  obtain ⟨fuel, hf⟩ := h
  obtain ⟨c0, c1, c2, y0, y1, y2, n, e, h0, h1, h2⟩ := trod_arr3 Try.underlying22 kcIn kcThree hf
  obtain ⟨A, e0, _⟩ := DataW.trod_int Try.underlying3 h0
  obtain ⟨B, e1, _⟩ := DataW.trod_int Try.underlying3 h1
  obtain ⟨C, e2, _⟩ := DataW.trod_int Try.underlying3 h2
  simp at e0 e1 e2
  subst e0 e1 e2
  refine ⟨A, B, C, ?_⟩
  have e' : cs.toList = [.int .i64 A, .int .i64 B, .int .i64 C] := by simpa [Value.cells] using e
  rw [← Array.toArray_toList (xs := cs), e']
set_option maxRecDepth 100000 in
/-- A row of deeds that came in. -/
theorem pds_open {a : Option Addr} {n cap : Nat} {d : DataW H} {p : List MemPlace} (h : DataW.Trod enc Try.prog w 0 (fun _ => true) true 23 (.slice a n cap) d p) (hz : ∀ n ∈ d.weights Try.prog 23, n ≤ reachBytes) : ∃ l : List Pd, n = l.length ∧ RowAt pdC w (.slice a n cap) l ∧ l.length ≤ maxLen ∧ ∀ x ∈ l, PdOk w x := by
  obtain ⟨fuel, hf0⟩ := h
  have hf : DataW.trod enc Try.prog w 0 (fun _ => true) true fuel 23 [.slice a n cap] = some (d, p) := hf0
  obtain ⟨a', len, cap', l, hv, hr⟩ := open_row Try.underlying23 kcPd (by omega) (PdW (H := H) w) (fun _ _ _ h => pd_weigh h) hf
  injection hv with e1 e2 e3
  subst e1 e2 e3
  have hrow := hr.row (by decide) pdC_len (fun _ _ _ h => h.cells)
  have hlen := hr.len_eq
  have hmax := hr.le_max
  refine ⟨l, hlen.symm, hrow, by omega, ?_⟩
  rcases hr.ex with ⟨_, h0, _, hd⟩ | ⟨x0, es, sp, _, e, he, hj, _⟩
  · have : l = [] := List.eq_nil_of_length_eq_zero (by omega)
    subst this
    exact fun e he => by cases he
  · have e' : d = .slice es sp := e
    rw [e'] at hz
    simp only [DataW.weights, Try.underlying23] at hz
    intro q hq
    obtain ⟨j, hj1, rfl⟩ := List.mem_iff_getElem.1 hq
    obtain ⟨cs, hL, _⟩ := hj j hj1 (by omega)
    have hw : ∀ n ∈ (es[j]'(by omega)).weights Try.prog 34, n ≤ reachBytes := fun n hn => hz _ (List.mem_cons_of_mem _ (List.mem_append_left _ (weights_all (List.getElem_mem (l := es) (n := j) (by omega)) hn)))
    have r0 : reachBytes ≤ 281474976710656 := by decide
    have h1 := hL.es.len hw
    refine ⟨hL.es.row, hL.who, hL.slot, fun e he => Nat.le_trans (hL.es.names hw e he) r0, Nat.le_trans (hw _ hL.name) r0, by omega⟩
end
end Go.Proofs.Ytmlgoecdefeapaa
