/-
  What layer 17's laws are handed, opened: a deed, a row of deeds, an entry, a number, a row of numbers; how much each text is by the form's own reach. No condition.
-/
import Derived.Test.YtnoappklbipdhaaLrpPackA
import Derived.Test.YtnoappklbipdhaaLrpLeFirst
import Derived.SizedLaws
namespace Go.Proofs.Ytnoappklbipdhaa
open Go.ChangeShapes Go.WideShapes Go.ChangeAt Go.RowKit Go.Joins Go.Deep

theorem own : ownKnob Try.prog.godebug = none := by kernel_rfl
theorem laidOut : laidOutB Try.prog = true := by kernel_rfl
theorem kcLd : Try.prog.cellsOf 32 = 10 := by kernel_rfl
theorem weights_all {H : Type} {P : Program} {e : TypeId} {n : Nat} {d : DataW H} : ∀ {l : List (DataW H)}, d ∈ l → n ∈ d.weights P e → n ∈ DataW.weightsAll P e l
  | [], h, _ => by cases h
  | x :: r, h, hn => by
    simp only [DataW.weightsAll, List.mem_append]
    cases List.mem_cons.1 h with
    | inl e => subst e; exact Or.inl hn
    | inr e => exact Or.inr (weights_all e hn)
theorem size_len (T : ByteArray) : T.data.toList.length = T.size := by rw [Array.length_toList]; rfl
section
variable {H : Type} {enc : TypeId × Value → H} {w : World}
set_option maxRecDepth 100000 in
theorem cmd_weigh {base : Nat} {spare : Nat → Bool} {held : Bool} {fuel : Nat} {cs : List Value} {x : DataW H × List MemPlace} (h : DataW.trod enc Try.prog w base spare held fuel 28 cs = some x) :
    ∃ (K S Q : Int) (T : ByteArray) (N : Int), cs = [.int .i64 K, .int .i64 S, .int .i64 Q, .string T, .int .i64 N] ∧ T.size ∈ x.1.weights Try.prog 28 := by
  obtain ⟨xs, n, _, rfl, hl, hlen, hf⟩ := DataW.trod_struct Try.underlying28 h
  rw [cells23] at hl
  match cs, hl, xs, hlen with
  | [a0, a1, a2, a3, a4], _, [y0, y1, y2, y3, y4], _ =>
    have h0 := by simpa using hf 0 _ rfl
    have h1 := by simpa using hf 1 _ rfl
    have h2 := by simpa using hf 2 _ rfl
    have h3 := by simpa using hf 3 _ rfl
    have h4 := by simpa using hf 4 _ rfl
    simp only [cells3, cells9, List.take_succ_cons, List.take_zero] at h0 h1 h2 h3 h4
    obtain ⟨K, e0, _⟩ := DataW.trod_int Try.underlying3 h0
    obtain ⟨S, e1, _⟩ := DataW.trod_int Try.underlying3 h1
    obtain ⟨Q, e2, _⟩ := DataW.trod_int Try.underlying3 h2
    obtain ⟨T, e3, e5, _⟩ := DataW.trod_string Try.underlying9 h3
    obtain ⟨N, e4, _⟩ := DataW.trod_int Try.underlying3 h4
    simp at e0 e1 e2 e3 e4
    refine ⟨K, S, Q, T, N, by rw [e0, e1, e2, e3, e4], ?_⟩
    have e6 := size_len T
    simp [DataW.weights, DataW.weightsEach, Try.underlying28, e5, e6]
set_option maxRecDepth 100000 in
theorem ent_weigh {base : Nat} {spare : Nat → Bool} {held : Bool} {fuel : Nat} {cs : List Value} {x : DataW H × List MemPlace} (h : DataW.trod enc Try.prog w base spare held fuel 30 cs = some x) : ∃ e : En, cs = enC e ∧ e.cmd.name.size ∈ x.1.weights Try.prog 30 ∧ inI e.slot := by
  obtain ⟨y0, y1, y2, n, hx, hl, h0, h1, h2⟩ := Go.Deep.trod_struct3 Try.underlying30 h
  rw [cells25] at hl
  match cs, hl with
  | [a, b, c, d, e, f, g], _ =>
    simp only [cells3, cells23] at h0 h1 h2
    obtain ⟨A, e0, _, hA⟩ := DataW.trod_int Try.underlying3 h0
    obtain ⟨B, e1, _⟩ := DataW.trod_int Try.underlying3 h1
    obtain ⟨K, S, Q, T, N, e2, hT⟩ := cmd_weigh h2
    simp at e0 e1 e2
    obtain ⟨rfl, rfl, rfl, rfl, rfl⟩ := e2
    refine ⟨⟨A, B, ⟨K, S, Q, T, N⟩⟩, by rw [e0, e1]; rfl, ?_, bounds_i64 hA⟩
    rw [hx]
    have hT' : T.size ∈ y2.1.weights Try.prog 28 := hT
    simp only [DataW.weights, Try.underlying30]
    simp [DataW.weightsEach, hT']
/-- A deed: its cells, how much its text is. -/
structure LdW (v : Ld) (cs : List Value) (y : DataW H) : Prop where
  cells : cs = ldC v
  n : inI v.n
  most : inI v.most
  slot : inI v.e.slot
  name : v.e.cmd.name.size ∈ y.weights Try.prog 32
set_option maxRecDepth 100000 in
theorem ld_weigh {base : Nat} {spare : Nat → Bool} {held : Bool} {fuel : Nat} {cs : List Value} {x : DataW H × List MemPlace} (h : DataW.trod enc Try.prog w base spare held fuel 32 cs = some x) : ∃ v : Ld, LdW v cs x.1 := by
  obtain ⟨xs, n, _, rfl, hl, hlen, hf⟩ := DataW.trod_struct Try.underlying32 h
  rw [kcLd] at hl
  match cs, hl, xs, hlen with
  | [a0, a1, a2, a3, a4, a5, a6, a7, a8, a9], _, [y0, y1, y2, y3], _ =>
    have h0 := by simpa using hf 0 _ rfl
    have h1 := by simpa using hf 1 _ rfl
    have h2 := by simpa using hf 2 _ rfl
    have h3 := by simpa using hf 3 _ rfl
    simp only [cells3, cells25, List.take_succ_cons, List.take_zero] at h0 h1 h2 h3
    obtain ⟨K, e0, _⟩ := DataW.trod_int Try.underlying3 h0
    obtain ⟨B, e1, _, hB⟩ := DataW.trod_int Try.underlying3 h1
    obtain ⟨C, e2, _, hC⟩ := DataW.trod_int Try.underlying3 h2
    obtain ⟨e, e3, hT, hsl⟩ := ent_weigh h3
    simp [enC] at e0 e1 e2 e3
    obtain ⟨rfl, rfl, rfl, rfl, rfl, rfl, rfl⟩ := e3
    subst e0 e1 e2
    have hT' : e.cmd.name.size ∈ y3.1.weights Try.prog 30 := hT
    refine ⟨⟨K, B, C, e⟩, rfl, bounds_i64 hB, bounds_i64 hC, hsl, ?_⟩
    show e.cmd.name.size ∈ (DataW.agg [y0.1, y1.1, y2.1, y3.1]).weights Try.prog 32
    simp only [DataW.weights, Try.underlying32]
    show _ ∈ DataW.weightsEach Try.prog [_, _, _, _] [y0.1, y1.1, y2.1, y3.1]
    simp only [DataW.weightsEach, List.mem_append]
    exact Or.inr (Or.inr (Or.inr (Or.inl hT')))
/-- What a deed that came in holds to. -/
structure LdOk (v : Ld) : Prop where
  n : inI v.n
  most : inI v.most
  slot : inI v.e.slot
  name : v.e.cmd.name.size ≤ 281474976710656
set_option maxRecDepth 100000 in
/-- A row of deeds that came in. -/
theorem lds_open {a : Option Addr} {n cap : Nat} {d : DataW H} {p : List MemPlace} (h : DataW.Trod enc Try.prog w 0 (fun _ => true) true 22 (.slice a n cap) d p) (hz : ∀ n ∈ d.weights Try.prog 22, n ≤ reachBytes) : ∃ l : List Ld, n = l.length ∧ RowAt ldC w (.slice a n cap) l ∧ l.length ≤ maxLen ∧ ∀ v ∈ l, LdOk v := by
  obtain ⟨fuel, hf0⟩ := h
  have hf : DataW.trod enc Try.prog w 0 (fun _ => true) true fuel 22 [.slice a n cap] = some (d, p) := hf0
  obtain ⟨a', len, cap', l, hv, hr⟩ := open_row Try.underlying22 kcLd (by omega) (LdW (H := H)) (fun _ _ _ h => ld_weigh h) hf
  injection hv with e1 e2 e3
  subst e1 e2 e3
  have hrow := hr.row (by decide) ldC_len (fun _ _ _ h => h.cells)
  have hlen := hr.len_eq
  have hmax := hr.le_max
  refine ⟨l, hlen.symm, hrow, by omega, ?_⟩
  rcases hr.ex with ⟨_, h0, _, hd⟩ | ⟨x0, es, sp, _, e, he, hj, _⟩
  · have : l = [] := List.eq_nil_of_length_eq_zero (by omega)
    subst this
    exact fun e he => by cases he
  · have e' : d = .slice es sp := e
    rw [e'] at hz
    simp only [DataW.weights, Try.underlying22] at hz
    intro q hq
    obtain ⟨j, hj1, rfl⟩ := List.mem_iff_getElem.1 hq
    obtain ⟨cs, hL, _⟩ := hj j hj1 (by omega)
    have h1 := hz _ (List.mem_cons_of_mem _ (List.mem_append_left _ (weights_all (List.getElem_mem (l := es) (n := j) (by omega)) hL.name)))
    exact ⟨hL.n, hL.most, hL.slot, Nat.le_trans h1 (by decide)⟩
set_option maxRecDepth 100000 in
/-- A number by value. -/
theorem open_int {v : Value} {d : DataW H} {p : List MemPlace} {r : Reach} {b0 : Nat} (hv : Value.okWide Try.prog w r b0 3 v) (h : DataW.Trod enc Try.prog w 0 (fun _ => true) true 3 v d p) : ∃ x : Int, v = .int .i64 x ∧ inI x := by
  obtain ⟨x, rfl⟩ := okWide_int Try.underlying3 hv
  obtain ⟨fuel, hf⟩ := h
  obtain ⟨n, e, _, hw⟩ := DataW.trod_int Try.underlying3 hf
  simp [Value.cells] at e
  subst e
  exact ⟨_, rfl, bounds_i64 hw⟩
end
end Go.Proofs.Ytnoappklbipdhaa
