/-
  A message handed over by value: its cells, its entries. No condition.
-/
import Derived.Test.YtmmdcbgmhjheeaaCmOpen
import Derived.Test.YtmmdcbgmhjheeaaMgVal
import Derived.Deep.Slices
namespace Go.Proofs.Ytmmdcbgmhjheeaa
open Go.ChangeShapes Go.WideShapes Go.ChangeAt Go.RowKit Go.Joins Go.Deep

theorem cells28 : Try.prog.cellsOf 28 = 5 := by kernel_rfl
theorem cells30 : Try.prog.cellsOf 30 = 20 := by kernel_rfl
theorem cells22 : Try.prog.cellsOf 22 = 1 := by kernel_rfl
theorem cells26 : Try.prog.cellsOf 26 = 1 := by kernel_rfl
theorem cellsES : Try.prog.cellsOf 23 = 1 := by kernel_rfl

section
variable {H : Type} {enc : TypeId × Value → H} {w : World} {base : Nat} {spare : Nat → Bool} {held : Bool}

set_option maxRecDepth 100000 in
theorem rep_cells {fuel : Nat} {cs : List Value} {x : DataW H × List MemPlace} (h : DataW.trod enc Try.prog w base spare held fuel 28 cs = some x) :
    ∃ (A B C : Int) (D : Nat) (E : Int), cs = [.int .i64 A, .int .i64 B, .int .i64 C, .int .u64 D, .int .i64 E] ∧ D < 18446744073709551616 := by
  obtain ⟨y0, y1, y2, y3, y4, n, hl, h0, h1, h2, h3, h4⟩ := trod_struct5 Try.underlying28 h
  rw [cells28] at hl
  match cs, hl with
  | [a, b, c, d, e], _ =>
    simp only [cells3, cells22, cells26] at h0 h1 h2 h3 h4
    obtain ⟨A, e0, _⟩ := DataW.trod_int Try.underlying3 h0
    obtain ⟨B, e1, _⟩ := DataW.trod_int Try.underlying3 h1
    obtain ⟨C, e2, _⟩ := DataW.trod_int Try.underlying22 h2
    obtain ⟨D, e3, _, w3⟩ := DataW.trod_int Try.underlying26 h3
    obtain ⟨E, e4, _⟩ := DataW.trod_int Try.underlying3 h4
    simp at e0 e1 e2 e3 e4
    have b3 := bounds_u64 w3
    obtain ⟨u, rfl⟩ := Int.eq_ofNat_of_zero_le b3.1
    exact ⟨A, B, C, u, E, by rw [e0, e1, e2, e3, e4], by have := b3.2; omega⟩

theorem ents_open {fuel : Nat} {c : Value} {x : DataW H × List MemPlace} (h : DataW.trod enc Try.prog w base spare held fuel 23 [c] = some x) : ∃ es : List En, EntAt w c es ∧ es.length ≤ 9223372036854775807 := by
  rcases open_slice Try.underlying23 h with ⟨h0, _⟩ | ⟨x, l, cp, m, n, D, Pl, hcs, _, hl, hm, hmm, hx, hel⟩
  · simp at h0
    subst h0
    exact ⟨[], ⟨⟨none, 0, rfl, Or.inl rfl⟩⟩, Nat.zero_le _⟩
  · simp at hcs
    subst hcs
    have hlm : l ≤ m := by
      rw [hmm]
      split <;> omega
    by_cases h0 : l = 0
    · subst h0
      exact ⟨[], ⟨⟨_, _, rfl, Or.inl rfl⟩⟩, Nat.zero_le _⟩
    rw [cells25] at hel
    have each : ∀ j, j < l → ∃ q : En, w.cell? (x.add (j * 7)) = some (.int .i64 q.slot) ∧ w.cell? (x.add (j * 7 + 1)) = some (.int .i64 q.ballot) ∧ w.cell? (x.add (j * 7 + 2)) = some (.int .i64 q.cmd.kind) ∧ w.cell? (x.add (j * 7 + 3)) = some (.int .i64 q.cmd.session) ∧ w.cell? (x.add (j * 7 + 4)) = some (.int .i64 q.cmd.seq) ∧ w.cell? (x.add (j * 7 + 5)) = some (.string q.cmd.name) ∧ w.cell? (x.add (j * 7 + 6)) = some (.int .i64 q.cmd.n) := by
      intro j hj
      obtain ⟨cs', h1, h2⟩ := hel j (by omega)
      obtain ⟨_, hlen, hcell⟩ := World.cells?_some h1
      obtain ⟨A, B, K, S, Q, T, N, rfl, _⟩ := entry_cells h2
      have g0 := hcell 0 (by omega)
      have g1 := hcell 1 (by omega)
      have g2 := hcell 2 (by omega)
      have g3 := hcell 3 (by omega)
      have g4 := hcell 4 (by omega)
      have g5 := hcell 5 (by omega)
      have g6 := hcell 6 (by omega)
      rw [add_add] at g0 g1 g2 g3 g4 g5 g6
      exact ⟨⟨A, B, ⟨K, S, Q, T, N⟩⟩, g0, g1, g2, g3, g4, g5, g6⟩
    haveI : Inhabited En := ⟨En.zero⟩
    obtain ⟨X, hX⟩ := choose_lt each
    have c00 := (hX 0 (by omega)).1
    obtain ⟨bk, off, spot⟩ := x
    have hspot : spot = none := by simpa [Addr.add] using World.cell?_spot c00
    subst hspot
    have hadd : ∀ k, (⟨bk, off, none⟩ : Addr).add k = ⟨bk, off + k, none⟩ := fun k => add_plain _ _ _
    have hb := World.block_lt_of_cell? w _ c00
    have hle : ((List.range l).map X).length = l := by simp
    refine ⟨(List.range l).map X, ⟨⟨some ⟨bk, off, none⟩, cp, by rw [hle], Or.inr ⟨bk, off, rfl, by rw [hadd] at hb; exact hb, fun j hj => ?_⟩⟩⟩, by rw [hle]; simp [maxLen] at hm; omega⟩
    rw [hle] at hj
    obtain ⟨g0, g1, g2, g3, g4, g5, g6⟩ := hX j hj
    rw [hadd] at g0 g1 g2 g3 g4 g5 g6
    have ej : ((List.range l).map X)[j]'(by rw [hle]; exact hj) = X j := by simp
    rw [ej]
    exact ⟨g0, by rw [Nat.add_assoc]; exact g1, by rw [Nat.add_assoc]; exact g2, by rw [Nat.add_assoc]; exact g3, by rw [Nat.add_assoc]; exact g4, by rw [Nat.add_assoc]; exact g5, by rw [Nat.add_assoc]; exact g6⟩

set_option maxRecDepth 100000 in
theorem trod_struct12 {P : Program} {t : TypeId} {f0 f1 f2 f3 f4 f5 f6 f7 f8 f9 f10 f11 : Field} {fuel : Nat} {cs : List Value} {x : DataW H × List MemPlace} (ht : P.underlying t = some (.struct #[f0, f1, f2, f3, f4, f5, f6, f7, f8, f9, f10, f11])) (h : DataW.trod enc P w base spare held fuel t cs = some x) :
    ∃ y0 y1 y2 y3 y4 y5 y6 y7 y8 y9 y10 y11 n, cs.length = P.cellsOf t ∧ DataW.trod enc P w base spare held n f0.type ((cs.drop f0.offset).take (P.cellsOf f0.type)) = some y0 ∧ DataW.trod enc P w base spare held n f1.type ((cs.drop f1.offset).take (P.cellsOf f1.type)) = some y1 ∧ DataW.trod enc P w base spare held n f2.type ((cs.drop f2.offset).take (P.cellsOf f2.type)) = some y2 ∧ DataW.trod enc P w base spare held n f3.type ((cs.drop f3.offset).take (P.cellsOf f3.type)) = some y3 ∧ DataW.trod enc P w base spare held n f4.type ((cs.drop f4.offset).take (P.cellsOf f4.type)) = some y4 ∧ DataW.trod enc P w base spare held n f5.type ((cs.drop f5.offset).take (P.cellsOf f5.type)) = some y5 ∧ DataW.trod enc P w base spare held n f6.type ((cs.drop f6.offset).take (P.cellsOf f6.type)) = some y6 ∧ DataW.trod enc P w base spare held n f7.type ((cs.drop f7.offset).take (P.cellsOf f7.type)) = some y7 ∧ DataW.trod enc P w base spare held n f8.type ((cs.drop f8.offset).take (P.cellsOf f8.type)) = some y8 ∧ DataW.trod enc P w base spare held n f9.type ((cs.drop f9.offset).take (P.cellsOf f9.type)) = some y9 ∧ DataW.trod enc P w base spare held n f10.type ((cs.drop f10.offset).take (P.cellsOf f10.type)) = some y10 ∧ DataW.trod enc P w base spare held n f11.type ((cs.drop f11.offset).take (P.cellsOf f11.type)) = some y11 := by
  obtain ⟨xs, n, _, rfl, hl, hlen, hf⟩ := DataW.trod_struct ht h
  match xs, hlen with
  | [y0, y1, y2, y3, y4, y5, y6, y7, y8, y9, y10, y11], _ => exact ⟨y0, y1, y2, y3, y4, y5, y6, y7, y8, y9, y10, y11, n, hl, by simpa using hf 0 f0 rfl, by simpa using hf 1 f1 rfl, by simpa using hf 2 f2 rfl, by simpa using hf 3 f3 rfl, by simpa using hf 4 f4 rfl, by simpa using hf 5 f5 rfl, by simpa using hf 6 f6 rfl, by simpa using hf 7 f7 rfl, by simpa using hf 8 f8 rfl, by simpa using hf 9 f9 rfl, by simpa using hf 10 f10 rfl, by simpa using hf 11 f11 rfl⟩

set_option maxHeartbeats 1600000 in
set_option maxRecDepth 100000 in
theorem msg_cells {fuel : Nat} {cs : List Value} {x : DataW H × List MemPlace} (h : DataW.trod enc Try.prog w base spare held fuel 30 cs = some x) :
    ∃ (m : Ms) (v : Value), cs = [.int .i64 m.k, .int .i64 m.f, .int .i64 m.t, .int .i64 m.b, .int .i64 m.sl, .int .i64 m.ro, .int .i64 m.se, .int .i64 m.er, v, .int .i64 m.c.kind, .int .i64 m.c.session, .int .i64 m.c.seq, .string m.c.name, .int .i64 m.c.n, .int .i64 m.rs, .int .i64 m.rq, .int .i64 m.re, .int .u64 m.tk, .int .i64 m.rn, .string m.x] ∧ EntAt w v m.es ∧ m.tk < 18446744073709551616 ∧ m.es.length ≤ 9223372036854775807 := by
  obtain ⟨y0, y1, y2, y3, y4, y5, y6, y7, y8, y9, y10, y11, n, hl, h0, h1, h2, h3, h4, h5, h6, h7, h8, h9, h10, h11⟩ := trod_struct12 Try.underlying30 h
  rw [cells30] at hl
  match cs, hl with
  | [c0, c1, c2, c3, c4, c5, c6, c7, c8, c9, c10, c11, c12, c13, c14, c15, c16, c17, c18, c19], _ =>
    simp only [cells3, cells9, cells22, cells23, cells28, cellsES] at h0 h1 h2 h3 h4 h5 h6 h7 h8 h9 h10 h11
    obtain ⟨a0, e0, _⟩ := DataW.trod_int Try.underlying3 h0
    obtain ⟨a1, e1, _⟩ := DataW.trod_int Try.underlying3 h1
    obtain ⟨a2, e2, _⟩ := DataW.trod_int Try.underlying3 h2
    obtain ⟨a3, e3, _⟩ := DataW.trod_int Try.underlying3 h3
    obtain ⟨a4, e4, _⟩ := DataW.trod_int Try.underlying3 h4
    obtain ⟨a5, e5, _⟩ := DataW.trod_int Try.underlying3 h5
    obtain ⟨a6, e6, _⟩ := DataW.trod_int Try.underlying3 h6
    obtain ⟨a7, e7, _⟩ := DataW.trod_int Try.underlying22 h7
    obtain ⟨K, S, Q, T, N, e9, _⟩ := cmd_cells h9
    obtain ⟨A, B, C, D, E, e10, hD⟩ := rep_cells h10
    obtain ⟨X, e11, _⟩ := DataW.trod_string Try.underlying9 h11
    obtain ⟨es, hes, hn⟩ := ents_open (c := c8) h8
    simp at e0 e1 e2 e3 e4 e5 e6 e7 e9 e10 e11
    obtain ⟨rfl, rfl, rfl, rfl, rfl⟩ := e9
    obtain ⟨rfl, rfl, rfl, rfl, rfl⟩ := e10
    subst e0 e1 e2 e3 e4 e5 e6 e7 e11
    exact ⟨⟨a0, a1, a2, a3, a4, a5, a6, a7, es, ⟨K, S, Q, T, N⟩, A, B, C, D, E, X⟩, c8, rfl, hes, hD, hn⟩
end

set_option maxRecDepth 100000 in
theorem open_msg {H : Type} {enc : TypeId × Value → H} {w : World} {r : Reach} {b0 b1 : Nat} {spare : Nat → Bool} {held : Bool} {v : Value} {d : DataW H} {p : List MemPlace}
    (hv : Value.okWide Try.prog w r b0 30 v) (h : DataW.Trod enc Try.prog w b1 spare held 30 v d p) :
    ∃ (m : Ms) (u : Value), v = .agg #[.int .i64 m.k, .int .i64 m.f, .int .i64 m.t, .int .i64 m.b, .int .i64 m.sl, .int .i64 m.ro, .int .i64 m.se, .int .i64 m.er, u, .int .i64 m.c.kind, .int .i64 m.c.session, .int .i64 m.c.seq, .string m.c.name, .int .i64 m.c.n, .int .i64 m.rs, .int .i64 m.rq, .int .i64 m.re, .int .u64 m.tk, .int .i64 m.rn, .string m.x] ∧ EntAt w u m.es ∧ m.tk < 18446744073709551616 ∧ m.es.length ≤ 9223372036854775807 := by
  obtain ⟨cs, rfl, _⟩ := okWide_struct Try.underlying30 hv
  obtain ⟨fuel, hf⟩ := h
  obtain ⟨m, u, e, h1, h2, h3⟩ := msg_cells hf
  refine ⟨m, u, ?_, h1, h2, h3⟩
  have e' : cs.toList = [.int .i64 m.k, .int .i64 m.f, .int .i64 m.t, .int .i64 m.b, .int .i64 m.sl, .int .i64 m.ro, .int .i64 m.se, .int .i64 m.er, u, .int .i64 m.c.kind, .int .i64 m.c.session, .int .i64 m.c.seq, .string m.c.name, .int .i64 m.c.n, .int .i64 m.rs, .int .i64 m.rq, .int .i64 m.re, .int .u64 m.tk, .int .i64 m.rn, .string m.x] := by simpa [Value.cells] using e
  rw [← Array.toArray_toList (xs := cs), e']
end Go.Proofs.Ytmmdcbgmhjheeaa
