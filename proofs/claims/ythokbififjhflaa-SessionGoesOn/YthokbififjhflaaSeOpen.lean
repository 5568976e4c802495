/-
  What layer 18's laws are handed, opened: a deed, a row of deeds, a number, a row of numbers; how many there are by the form's own reach. No condition.
-/
import Derived.Test.YthokbififjhflaaGOpenInts
import Derived.Test.YthokbififjhflaaSeNone
import Derived.SizedLaws
namespace Go.Proofs.Ythokbififjhflaa
open Go.ChangeShapes Go.WideShapes Go.ChangeAt Go.RowKit Go.Joins Go.Deep

theorem own : ownKnob Try.prog.godebug = none := by kernel_rfl
theorem laidOut : laidOutB Try.prog = true := by kernel_rfl
theorem kcSd : Try.prog.cellsOf 38 = 8 := by kernel_rfl
theorem kcRep : Try.prog.cellsOf 36 = 5 := by kernel_rfl
theorem kcErr : Try.prog.cellsOf 33 = 1 := by kernel_rfl
theorem kcTok : Try.prog.cellsOf 34 = 1 := by kernel_rfl
/-- What a deed that came in holds to. -/
structure SdOk (v : Sd) : Prop where
  n : okI v.n
  seq : okI v.seq
  rs : okI v.r.session
  rq : okI v.r.seq
  re : okI v.r.err
  t0 : 0 ≤ v.r.token
  t1 : v.r.token < 18446744073709551616
  rn : okI v.r.n
section
variable {H : Type} {enc : TypeId × Value → H} {w : World}
set_option maxRecDepth 100000 in
theorem rep_weigh {base : Nat} {spare : Nat → Bool} {held : Bool} {fuel : Nat} {cs : List Value} {x : DataW H × List MemPlace} (h : DataW.trod enc Try.prog w base spare held fuel 36 cs = some x) :
    ∃ r : SeR, cs = [.int .i64 r.session, .int .i64 r.seq, .int .i64 r.err, .int .u64 r.token, .int .i64 r.n] ∧ okI r.session ∧ okI r.seq ∧ okI r.err ∧ (0 ≤ r.token ∧ r.token < 18446744073709551616) ∧ okI r.n := by
  obtain ⟨xs, n, _, rfl, hl, hlen, hf⟩ := DataW.trod_struct Try.underlying36 h
  rw [kcRep] at hl
  match cs, hl, xs, hlen with
  | [a0, a1, a2, a3, a4], _, [y0, y1, y2, y3, y4], _ =>
    have h0 := by simpa using hf 0 _ rfl
    have h1 := by simpa using hf 1 _ rfl
    have h2 := by simpa using hf 2 _ rfl
    have h3 := by simpa using hf 3 _ rfl
    have h4 := by simpa using hf 4 _ rfl
    simp only [kcInt, kcErr, kcTok, List.take_succ_cons, List.take_zero] at h0 h1 h2 h3 h4
    obtain ⟨A, e0, _, b0⟩ := DataW.trod_int Try.underlying3 h0
    obtain ⟨B, e1, _, b1⟩ := DataW.trod_int Try.underlying3 h1
    obtain ⟨C, e2, _, b2⟩ := DataW.trod_int Try.underlying33 h2
    obtain ⟨D, e3, _, b3⟩ := DataW.trod_int Try.underlying34 h3
    obtain ⟨E, e4, _, b4⟩ := DataW.trod_int Try.underlying3 h4
    simp at e0 e1 e2 e3 e4
    have b3' := bounds_u64 b3
    exact ⟨⟨A, B, C, D, E⟩, by rw [e0, e1, e2, e3, e4], bounds_i64 b0, bounds_i64 b1, bounds_i64 b2, ⟨b3'.1, by show D < 18446744073709551616; omega⟩, bounds_i64 b4⟩
set_option maxRecDepth 100000 in
theorem sd_weigh {base : Nat} {spare : Nat → Bool} {held : Bool} {fuel : Nat} {cs : List Value} {x : DataW H × List MemPlace} (h : DataW.trod enc Try.prog w base spare held fuel 38 cs = some x) : ∃ v : Sd, cs = sdC v ∧ SdOk v := by
  obtain ⟨xs, n, _, rfl, hl, hlen, hf⟩ := DataW.trod_struct Try.underlying38 h
  rw [kcSd] at hl
  match cs, hl, xs, hlen with
  | [a0, a1, a2, a3, a4, a5, a6, a7], _, [y0, y1, y2, y3], _ =>
    have h0 := by simpa using hf 0 _ rfl
    have h1 := by simpa using hf 1 _ rfl
    have h2 := by simpa using hf 2 _ rfl
    have h3 := by simpa using hf 3 _ rfl
    simp only [kcInt, kcRep, List.take_succ_cons, List.take_zero] at h0 h1 h2 h3
    obtain ⟨K, e0, _⟩ := DataW.trod_int Try.underlying3 h0
    obtain ⟨B, e1, _, hB⟩ := DataW.trod_int Try.underlying3 h1
    obtain ⟨C, e2, _, hC⟩ := DataW.trod_int Try.underlying3 h2
    obtain ⟨r, e3, q0, q1, q2, q3, q4⟩ := rep_weigh h3
    simp at e0 e1 e2 e3
    obtain ⟨rfl, rfl, rfl, rfl, rfl⟩ := e3
    subst e0 e1 e2
    exact ⟨⟨K, B, C, r⟩, rfl, bounds_i64 hB, bounds_i64 hC, q0, q1, q2, q3.1, q3.2, q4⟩
set_option maxRecDepth 100000 in
/-- A row of deeds that came in. -/
theorem sds_open {a : Option Addr} {n cap : Nat} {d : DataW H} {p : List MemPlace} (h : DataW.Trod enc Try.prog w 0 (fun _ => true) true 22 (.slice a n cap) d p) : ∃ l : List Sd, n = l.length ∧ RowAt sdC w (.slice a n cap) l ∧ l.length ≤ maxLen ∧ ∀ v ∈ l, SdOk v := by
  obtain ⟨fuel, hf0⟩ := h
  have hf : DataW.trod enc Try.prog w 0 (fun _ => true) true fuel 22 [.slice a n cap] = some (d, p) := hf0
  obtain ⟨a', len, cap', l, hv, hr⟩ := open_row Try.underlying22 kcSd (by omega) (fun (v : Sd) cs (_ : DataW H) => cs = sdC v ∧ SdOk v) (fun _ _ _ h => sd_weigh h) hf
  injection hv with e1 e2 e3
  subst e1 e2 e3
  have hrow := hr.row (by decide) sdC_len (fun _ _ _ h => h.1)
  have hall := hr.all SdOk (fun _ _ _ h => h.2)
  have hlen := hr.len_eq
  have hmax := hr.le_max
  exact ⟨l, hlen.symm, hrow, by omega, hall⟩
set_option maxRecDepth 100000 in
/-- A number by value. -/
theorem open_int {v : Value} {d : DataW H} {p : List MemPlace} {r : Reach} {b0 : Nat} (hv : Value.okWide Try.prog w r b0 3 v) (h : DataW.Trod enc Try.prog w 0 (fun _ => true) true 3 v d p) : ∃ x : Int, v = .int .i64 x ∧ okI x := by
  obtain ⟨x, rfl⟩ := okWide_int Try.underlying3 hv
  obtain ⟨fuel, hf⟩ := h
  obtain ⟨n, e, _, hw⟩ := DataW.trod_int Try.underlying3 hf
  simp [Value.cells] at e
  subst e
  exact ⟨_, rfl, bounds_i64 hw⟩
set_option maxRecDepth 100000 in
/-- A deed by value. -/
theorem open_sd {r : Reach} {b0 : Nat} {v : Value} {x : DataW H} {p : List MemPlace}
    (hv : Value.okWide Try.prog w r b0 38 v) (h : DataW.Trod enc Try.prog w 0 (fun _ => true) true 38 v x p) : ∃ d : Sd, v = .agg (sdA d) := by
  obtain ⟨cs, rfl, _⟩ := okWide_struct Try.underlying38 hv
  obtain ⟨fuel, hf⟩ := h
  obtain ⟨d, hd, _⟩ := sd_weigh hf
  have e' : cs.toList = (sdA d).toList := by simpa [Value.cells, sdC] using hd
  exact ⟨d, by rw [Array.toList_inj.1 e']⟩
set_option maxRecDepth 100000 in
/-- A row of numbers. -/
theorem ints_open {a : Option Addr} {n cap : Nat} {d : DataW H} {p : List MemPlace} (h : DataW.Trod enc Try.prog w 0 (fun _ => true) true 41 (.slice a n cap) d p) : ∃ l : List Int, n = l.length ∧ IntsAt w (.slice a n cap) l := by
  obtain ⟨fuel, hf0⟩ := h
  have hf : DataW.trod enc Try.prog w 0 (fun _ => true) true fuel 41 [.slice a n cap] = some (d, p) := hf0
  obtain ⟨a', len, cap', l, hv, hr⟩ := open_row Try.underlying41 kcInt (by omega) (fun (n : Int) cs (_ : DataW H) => cs = intC n ∧ okI n) (fun fuel cs x h => by
    obtain ⟨n, e, _, hw⟩ := DataW.trod_int Try.underlying3 h
    exact ⟨n, e, bounds_i64 hw⟩) hf
  injection hv with e1 e2 e3
  subst e1 e2 e3
  have hrow := hr.row (by decide) intC_len (fun _ _ _ h => h.1)
  have hall := hr.all okI (fun _ _ _ h => h.2)
  have hlen := hr.len_eq
  have hmax := hr.le_max
  refine ⟨l, hlen.symm, ⟨?_, hall, by omega⟩⟩
  obtain ⟨a, cap, e, h1, h2, h3⟩ := hrow.ex
  refine ⟨a, cap, e, h1, ?_⟩
  rcases h3 with h3 | ⟨bk, off, ha, hb, hx⟩
  · exact Or.inl h3
  · refine Or.inr ⟨bk, off, ha, hb, fun j hj => hx j _ ?_⟩
    rw [rowL_int]
    unfold intL
    rw [List.getElem?_map, List.getElem?_eq_getElem hj]
    rfl
end
end Go.Proofs.Ythokbififjhflaa
