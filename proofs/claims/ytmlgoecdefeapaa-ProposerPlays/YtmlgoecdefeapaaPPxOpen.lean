/-
  What layer 16's laws are handed, opened: a deed with its entries, a row of deeds, a row of entries, a number; how much each text is by the form's own reach. No condition.
-/
import Derived.Test.YtmlgoecdefeapaaPPackA
import Derived.Test.YtmlgoecdefeapaaPPxNone
import Derived.SizedLaws
namespace Go.Proofs.Ytmlgoecdefeapaa
open Go.ChangeShapes Go.WideShapes Go.ChangeAt Go.RowKit Go.Joins Go.Deep

theorem own : ownKnob Try.prog.godebug = none := by kernel_rfl
theorem laidOut : laidOutB Try.prog = true := by kernel_rfl
theorem kcSE : Try.prog.cellsOf 30 = 1 := by kernel_rfl
theorem kcPd : Try.prog.cellsOf 34 = 9 := by kernel_rfl
theorem weights_all {H : Type} {P : Program} {e : TypeId} {n : Nat} {d : DataW H} : ∀ {l : List (DataW H)}, d ∈ l → n ∈ d.weights P e → n ∈ DataW.weightsAll P e l
  | [], h, _ => by cases h
  | x :: r, h, hn => by
    simp only [DataW.weightsAll, List.mem_append]
    cases List.mem_cons.1 h with
    | inl e => subst e; exact Or.inl hn
    | inr e => exact Or.inr (weights_all e hn)
theorem kbEnt : Try.prog.bytesOf 38 = 64 := by kernel_rfl
theorem size_len (T : ByteArray) : T.data.toList.length = T.size := by rw [Array.length_toList]; rfl
section
variable {H : Type} {enc : TypeId × Value → H} {w : World}
set_option maxRecDepth 100000 in
theorem cmd_weigh {base : Nat} {spare : Nat → Bool} {held : Bool} {fuel : Nat} {cs : List Value} {x : DataW H × List MemPlace} (h : DataW.trod enc Try.prog w base spare held fuel 32 cs = some x) :
    ∃ (K S Q : Int) (T : ByteArray) (N : Int), cs = [.int .i64 K, .int .i64 S, .int .i64 Q, .string T, .int .i64 N] ∧ T.size ∈ x.1.weights Try.prog 32 := by
  obtain ⟨xs, n, _, rfl, hl, hlen, hf⟩ := DataW.trod_struct Try.underlying32 h
  rw [cells23] at hl
  match cs, hl, xs, hlen with
  | [a0, a1, a2, a3, a4], _, [y0, y1, y2, y3, y4], _ =>
    have h0 := by simpa using hf 0 _ rfl
    have h1 := by simpa using hf 1 _ rfl
    have h2 := by simpa using hf 2 _ rfl
    have h3 := by simpa using hf 3 _ rfl
    have h4 := by simpa using hf 4 _ rfl
    simp only [cells3, cells9, List.take_succ_cons, List.take_zero] at h0 h1 h2 h3 h4
    obtain ⟨K, e0, _⟩ := DataW.trod_int Try.underlying3 h0
    obtain ⟨S, e1, _⟩ := DataW.trod_int Try.underlying3 h1
    obtain ⟨Q, e2, _⟩ := DataW.trod_int Try.underlying3 h2
    obtain ⟨T, e3, e5, _⟩ := DataW.trod_string Try.underlying9 h3
    obtain ⟨N, e4, _⟩ := DataW.trod_int Try.underlying3 h4
    simp at e0 e1 e2 e3 e4
    refine ⟨K, S, Q, T, N, by rw [e0, e1, e2, e3, e4], ?_⟩
    have e6 := size_len T
    simp [DataW.weights, DataW.weightsEach, Try.underlying32, e5, e6]
set_option maxRecDepth 100000 in
theorem ent_weigh {base : Nat} {spare : Nat → Bool} {held : Bool} {fuel : Nat} {cs : List Value} {x : DataW H × List MemPlace} (h : DataW.trod enc Try.prog w base spare held fuel 38 cs = some x) : ∃ e : En, cs = enC e ∧ e.cmd.name.size ∈ x.1.weights Try.prog 38 ∧ inI e.slot := by
  obtain ⟨y0, y1, y2, n, hx, hl, h0, h1, h2⟩ := Go.Deep.trod_struct3 Try.underlying38 h
  rw [cells25] at hl
  match cs, hl with
  | [a, b, c, d, e, f, g], _ =>
    simp only [cells3, cells23] at h0 h1 h2
    obtain ⟨A, e0, _, hA⟩ := DataW.trod_int Try.underlying3 h0
    obtain ⟨B, e1, _⟩ := DataW.trod_int Try.underlying3 h1
    obtain ⟨K, S, Q, T, N, e2, hT⟩ := cmd_weigh h2
    simp at e0 e1 e2
    obtain ⟨rfl, rfl, rfl, rfl, rfl⟩ := e2
    refine ⟨⟨A, B, ⟨K, S, Q, T, N⟩⟩, by rw [e0, e1]; rfl, ?_, bounds_i64 hA⟩
    rw [hx]
    have hT' : T.size ∈ y2.1.weights Try.prog 32 := hT
    simp only [DataW.weights, Try.underlying38]
    simp [DataW.weightsEach, hT']
def EnW (e : En) (cs : List Value) (y : DataW H) : Prop := cs = enC e ∧ e.cmd.name.size ∈ y.weights Try.prog 38 ∧ inI e.slot
/-- What a row of entries that came in is. -/
structure EsOk (w : World) (u : Value) (es : List En) (ok : Prop) : Prop where
  row : RowAt enC w u es
  slots : ∀ e ∈ es, inI e.slot
  len : ok → es.length ≤ reachBytes
  names : ok → ∀ e ∈ es, e.cmd.name.size ≤ reachBytes
theorem ents_weigh {fuel : Nat} {c : Value} {x : DataW H × List MemPlace} (h : DataW.trod enc Try.prog w 0 (fun _ => true) true fuel 30 [c] = some x) : ∃ es : List En, EsOk w c es (∀ n ∈ x.1.weights Try.prog 30, n ≤ reachBytes) := by
  obtain ⟨a', len, cap', l, hv, hr⟩ := open_row Try.underlying30 cells25 (by omega) (EnW (H := H)) (fun _ _ _ h => ent_weigh h) h
  have hrow := hr.row (by decide) enC_len (fun _ _ _ h => h.1)
  have hlen := hr.len_eq
  subst hv
  refine ⟨l, hrow, hr.all (fun e => inI e.slot) (fun _ _ _ h => h.2.2), fun hz => ?_, fun hz => ?_⟩
  · rcases hr.ex with ⟨_, h0, _, hd⟩ | ⟨x0, es, sp, _, e, he, hj, _⟩
    · have : l = [] := List.eq_nil_of_length_eq_zero (by omega)
      subst this
      exact Nat.zero_le _
    · rw [e] at hz
      simp only [DataW.weights, Try.underlying30, kbEnt] at hz
      have h1 := hz _ (List.mem_cons_self ..)
      omega
  · rcases hr.ex with ⟨_, h0, _, hd⟩ | ⟨x0, es, sp, _, e, he, hj, _⟩
    · have : l = [] := List.eq_nil_of_length_eq_zero (by omega)
      subst this
      exact fun e he => (by cases he)
    · rw [e] at hz
      simp only [DataW.weights, Try.underlying30, kbEnt] at hz
      intro q hq
      obtain ⟨j, hj1, rfl⟩ := List.mem_iff_getElem.1 hq
      obtain ⟨cs, hL, _⟩ := hj j hj1 (by omega)
      exact hz _ (List.mem_cons_of_mem _ (List.mem_append_left _ (weights_all (List.getElem_mem (l := es) (n := j) (by omega)) hL.2.1)))
/-- A deed: its cells, its entries, how much its texts are. -/
structure PdW (w : World) (v : Pd) (cs : List Value) (y : DataW H) : Prop where
  cells : cs = pdC v
  who : inI v.who
  slot : inI v.slot
  es : EsOk w v.u v.es (∀ n ∈ y.weights Try.prog 34, n ≤ reachBytes)
  name : v.c.name.size ∈ y.weights Try.prog 34
set_option maxRecDepth 100000 in
theorem pd_weigh {fuel : Nat} {cs : List Value} {x : DataW H × List MemPlace} (h : DataW.trod enc Try.prog w 0 (fun _ => true) true fuel 34 cs = some x) : ∃ v : Pd, PdW w v cs x.1 := by
  obtain ⟨xs, n, _, rfl, hl, hlen, hf⟩ := DataW.trod_struct Try.underlying34 h
  rw [kcPd] at hl
  match cs, hl, xs, hlen with
  | [a0, a1, a2, a3, a4, a5, a6, a7, a8], _, [y0, y1, y2, y3, y4], _ =>
    have h0 := by simpa using hf 0 _ rfl
    have h1 := by simpa using hf 1 _ rfl
    have h2 := by simpa using hf 2 _ rfl
    have h3 := by simpa using hf 3 _ rfl
    have h4 := by simpa using hf 4 _ rfl
    simp only [cells3, cells23, kcSE, List.take_succ_cons, List.take_zero] at h0 h1 h2 h3 h4
    obtain ⟨K, e0, _⟩ := DataW.trod_int Try.underlying3 h0
    obtain ⟨B, e1, _, hB⟩ := DataW.trod_int Try.underlying3 h1
    obtain ⟨C, e2, _, hC⟩ := DataW.trod_int Try.underlying3 h2
    obtain ⟨es, hes⟩ := ents_weigh h3
    obtain ⟨K2, S2, Q2, T2, N2, e4, hT⟩ := cmd_weigh h4
    simp at e0 e1 e2 e4
    obtain ⟨rfl, rfl, rfl, rfl, rfl⟩ := e4
    subst e0 e1 e2
    have hw3 : ∀ n, n ∈ y3.1.weights Try.prog 30 → n ∈ (DataW.agg [y0.1, y1.1, y2.1, y3.1, y4.1]).weights Try.prog 34 := fun n hn => by
      simp only [DataW.weights, Try.underlying34]
      show _ ∈ DataW.weightsEach Try.prog [_, _, _, _, _] [y0.1, y1.1, y2.1, y3.1, y4.1]
      simp only [DataW.weightsEach, List.mem_append]
      exact Or.inr (Or.inr (Or.inr (Or.inl hn)))
    refine ⟨⟨K, B, C, a3, es, ⟨K2, S2, Q2, T2, N2⟩⟩, rfl, bounds_i64 hB, bounds_i64 hC, ⟨hes.row, hes.slots, fun hz => hes.len (fun n hn => hz n (hw3 n hn)), fun hz => hes.names (fun n hn => hz n (hw3 n hn))⟩, ?_⟩
    show T2.size ∈ (DataW.agg [y0.1, y1.1, y2.1, y3.1, y4.1]).weights Try.prog 34
    simp only [DataW.weights, Try.underlying34]
    show _ ∈ DataW.weightsEach Try.prog [_, _, _, _, _] [y0.1, y1.1, y2.1, y3.1, y4.1]
    simp only [DataW.weightsEach, List.mem_append]
    exact Or.inr (Or.inr (Or.inr (Or.inr (Or.inl hT))))
end
end Go.Proofs.Ytmlgoecdefeapaa
