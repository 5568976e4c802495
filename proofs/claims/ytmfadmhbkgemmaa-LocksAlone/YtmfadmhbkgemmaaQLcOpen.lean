/-
  What layer 19's laws are handed, opened: a deed, a row of deeds, a counter, a row of truths. No condition.
-/
import Derived.Test.YtmfadmhbkgemmaaQPackA
import Derived.Test.YtmfadmhbkgemmaaQLcAwake
import Derived.SizedLaws
namespace Go.Proofs.Ytmfadmhbkgemmaa
open Go.ChangeShapes Go.WideShapes Go.ChangeAt Go.RowKit Go.Joins Go.Deep

theorem own : ownKnob Try.prog.godebug = none := by kernel_rfl
theorem laidOut : laidOutB Try.prog = true := by kernel_rfl
theorem kcLd : Try.prog.cellsOf 33 = 7 := by kernel_rfl
theorem kcCmd : Try.prog.cellsOf 31 = 5 := by kernel_rfl
theorem kcStr : Try.prog.cellsOf 9 = 1 := by kernel_rfl
theorem kcU64 : Try.prog.cellsOf 27 = 1 := by kernel_rfl
/-- A deed. -/
structure Ld where
  kind : Int
  k : Int
  s : Int
  n : Int
  nm : ByteArray
  m : Int
  t : Int
abbrev ldA (v : Ld) : Array Value := #[.int .i64 v.kind, .int .i64 v.k, .int .i64 v.s, .int .i64 v.n, .string v.nm, .int .i64 v.m, .int .u64 v.t]
def ldC (v : Ld) : List Value := [.int .i64 v.kind, .int .i64 v.k, .int .i64 v.s, .int .i64 v.n, .string v.nm, .int .i64 v.m, .int .u64 v.t]
theorem ldC_len (v : Ld) : (ldC v).length = 7 := rfl
/-- What a deed that came in holds to. -/
structure LdOk (v : Ld) : Prop where
  t0 : 0 ≤ v.t
  t1 : v.t ≤ 18446744073709551615
section
variable {H : Type} {enc : TypeId × Value → H} {w : World}
set_option maxRecDepth 100000 in
theorem lcmd_weigh {base : Nat} {spare : Nat → Bool} {held : Bool} {fuel : Nat} {cs : List Value} {x : DataW H × List MemPlace} (h : DataW.trod enc Try.prog w base spare held fuel 31 cs = some x) :
    ∃ (K S Q : Int) (T : ByteArray) (N : Int), cs = [.int .i64 K, .int .i64 S, .int .i64 Q, .string T, .int .i64 N] := by
  obtain ⟨xs, n, _, rfl, hl, hlen, hf⟩ := DataW.trod_struct Try.underlying31 h
  rw [kcCmd] at hl
  match cs, hl, xs, hlen with
  | [a0, a1, a2, a3, a4], _, [y0, y1, y2, y3, y4], _ =>
    have h0 := by simpa using hf 0 _ rfl
    have h1 := by simpa using hf 1 _ rfl
    have h2 := by simpa using hf 2 _ rfl
    have h3 := by simpa using hf 3 _ rfl
    have h4 := by simpa using hf 4 _ rfl
    simp only [kcInt, kcStr, List.take_succ_cons, List.take_zero] at h0 h1 h2 h3 h4
    obtain ⟨K, e0, _⟩ := DataW.trod_int Try.underlying3 h0
    obtain ⟨S, e1, _⟩ := DataW.trod_int Try.underlying3 h1
    obtain ⟨Q, e2, _⟩ := DataW.trod_int Try.underlying3 h2
    obtain ⟨T, e3, _⟩ := DataW.trod_string Try.underlying9 h3
    obtain ⟨N, e4, _⟩ := DataW.trod_int Try.underlying3 h4
    simp at e0 e1 e2 e3 e4
    exact ⟨K, S, Q, T, N, by rw [e0, e1, e2, e3, e4]⟩
set_option maxRecDepth 100000 in
theorem ld_weigh {base : Nat} {spare : Nat → Bool} {held : Bool} {fuel : Nat} {cs : List Value} {x : DataW H × List MemPlace} (h : DataW.trod enc Try.prog w base spare held fuel 33 cs = some x) : ∃ v : Ld, cs = ldC v ∧ LdOk v := by
  obtain ⟨xs, n, _, rfl, hl, hlen, hf⟩ := DataW.trod_struct Try.underlying33 h
  rw [kcLd] at hl
  match cs, hl, xs, hlen with
  | [a0, a1, a2, a3, a4, a5, a6], _, [y0, y1, y2], _ =>
    have h0 := by simpa using hf 0 _ rfl
    have h1 := by simpa using hf 1 _ rfl
    have h2 := by simpa using hf 2 _ rfl
    simp only [kcInt, kcCmd, kcU64, List.take_succ_cons, List.take_zero] at h0 h1 h2
    obtain ⟨K, e0, _⟩ := DataW.trod_int Try.underlying3 h0
    obtain ⟨A, B, C, D, E, e1⟩ := lcmd_weigh h1
    obtain ⟨T, e2, _, hT⟩ := DataW.trod_int Try.underlying27 h2
    simp at e0 e1 e2
    obtain ⟨rfl, rfl, rfl, rfl, rfl⟩ := e1
    subst e0 e2
    have hb := bounds_u64 hT
    exact ⟨⟨K, A, B, C, D, E, T⟩, rfl, hb.1, by show T ≤ 18446744073709551615; omega⟩
set_option maxRecDepth 100000 in
/-- A row of deeds that came in. -/
theorem lds_open {a : Option Addr} {n cap : Nat} {d : DataW H} {p : List MemPlace} (h : DataW.Trod enc Try.prog w 0 (fun _ => true) true 22 (.slice a n cap) d p) : ∃ l : List Ld, n = l.length ∧ RowAt ldC w (.slice a n cap) l ∧ l.length ≤ maxLen ∧ ∀ v ∈ l, LdOk v := by
  obtain ⟨fuel, hf0⟩ := h
  have hf : DataW.trod enc Try.prog w 0 (fun _ => true) true fuel 22 [.slice a n cap] = some (d, p) := hf0
  obtain ⟨a', len, cap', l, hv, hr⟩ := open_row Try.underlying22 kcLd (by omega) (fun (v : Ld) cs (_ : DataW H) => cs = ldC v ∧ LdOk v) (fun _ _ _ h => ld_weigh h) hf
  injection hv with e1 e2 e3
  subst e1 e2 e3
  have hrow := hr.row (by decide) ldC_len (fun _ _ _ h => h.1)
  have hall := hr.all LdOk (fun _ _ _ h => h.2)
  have hlen := hr.len_eq
  have hmax := hr.le_max
  exact ⟨l, hlen.symm, hrow, by omega, hall⟩
end
end Go.Proofs.Ytmfadmhbkgemmaa
