/-
  When two commands, two entries, two replies, two heads of messages are the same, as values are compared. No condition.
-/
import Derived.Test.YtmmdcbgmhjheeaaMgVal
import Derived.ChangeKeysEq
namespace Go.Proofs.Ytmmdcbgmhjheeaa
open Go.RowKit

theorem toList_inj {x y : ByteArray} (h : x.toList = y.toList) : x = y := by
  rw [Lib.toList_data, Lib.toList_data] at h
  rw [← Lib.mk_data x, ← Lib.mk_data y, h]
theorem toList_beq (x y : ByteArray) : (x.toList == y.toList) = true ↔ x = y := ⟨fun h => toList_inj (by simpa using h), fun h => by rw [h]; simp⟩

/-- The same command, the same entry, reply, head: one bool each. -/
def eqC (a b : Cm) : Bool := a.kind == b.kind && (a.session == b.session && (a.seq == b.seq && (a.name.toList == b.name.toList && a.n == b.n)))
def eqE (a b : En) : Bool := a.slot == b.slot && (a.ballot == b.ballot && eqC a.cmd b.cmd)
def eqR (a b : Ms) : Bool := a.rs == b.rs && (a.rq == b.rq && (a.re == b.re && (((a.tk : Int) == (b.tk : Int)) && a.rn == b.rn)))
def eqH (a b : Ms) : Bool := a.k == b.k && (a.f == b.f && (a.t == b.t && (a.b == b.b && (a.sl == b.sl && (a.ro == b.ro && (a.se == b.se && a.er == b.er))))))
theorem eqC_iff (a b : Cm) : eqC a b = true ↔ a = b := by
  obtain ⟨K, S, Q, T, N⟩ := a
  obtain ⟨K', S', Q', T', N'⟩ := b
  unfold eqC
  simp only [Bool.and_eq_true, beq_iff_eq, Cm.mk.injEq]
  constructor
  · rintro ⟨h1, h2, h3, h4, h5⟩
    exact ⟨h1, h2, h3, toList_inj h4, h5⟩
  · rintro ⟨h1, h2, h3, h4, h5⟩
    exact ⟨h1, h2, h3, by rw [h4], h5⟩
theorem eqE_iff (a b : En) : eqE a b = true ↔ a = b := by
  obtain ⟨A, B, C⟩ := a
  obtain ⟨A', B', C'⟩ := b
  unfold eqE
  simp only [Bool.and_eq_true, beq_iff_eq, eqC_iff, En.mk.injEq]

set_option maxRecDepth 100000 in
theorem cmd_eql (a b : Cm) (w : World) : (binOp .eql 25 (.agg #[.int .i64 a.kind, .int .i64 a.session, .int .i64 a.seq, .string a.name, .int .i64 a.n]) (.agg #[.int .i64 b.kind, .int .i64 b.session, .int .i64 b.seq, .string b.name, .int .i64 b.n])).run Try.prog w = .ok (.bool (eqC a b)) w := by
  unfold eqC
  cases h0 : (a.kind == b.kind) with
  | false => simp [go_sem, h0]
  | true =>
    cases h1 : (a.session == b.session) with
    | false => simp [go_sem, h0, h1]
    | true =>
      cases h2 : (a.seq == b.seq) with
      | false => simp [go_sem, h0, h1, h2]
      | true =>
        cases h3 : (a.name.toList == b.name.toList) with
        | false => simp [go_sem, h0, h1, h2, h3]
        | true =>
          cases h4 : (a.n == b.n) with
          | false => simp [go_sem, h0, h1, h2, h3, h4]
          | true =>
            simp [go_sem, h0, h1, h2, h3, h4]

set_option maxRecDepth 100000 in
theorem ent_neq (a b : En) (w : World) : (binOp .neq 57 (.agg #[.int .i64 a.slot, .int .i64 a.ballot, .int .i64 a.cmd.kind, .int .i64 a.cmd.session, .int .i64 a.cmd.seq, .string a.cmd.name, .int .i64 a.cmd.n]) (.agg #[.int .i64 b.slot, .int .i64 b.ballot, .int .i64 b.cmd.kind, .int .i64 b.cmd.session, .int .i64 b.cmd.seq, .string b.cmd.name, .int .i64 b.cmd.n])).run Try.prog w = .ok (.bool (!eqE a b)) w := by
  unfold eqE eqC
  cases h0 : (a.slot == b.slot) with
  | false => simp [go_sem, h0]
  | true =>
    cases h1 : (a.ballot == b.ballot) with
    | false => simp [go_sem, h0, h1]
    | true =>
      cases h2 : (a.cmd.kind == b.cmd.kind) with
      | false => simp [go_sem, h0, h1, h2]
      | true =>
        cases h3 : (a.cmd.session == b.cmd.session) with
        | false => simp [go_sem, h0, h1, h2, h3]
        | true =>
          cases h4 : (a.cmd.seq == b.cmd.seq) with
          | false => simp [go_sem, h0, h1, h2, h3, h4]
          | true =>
            cases h5 : (a.cmd.name.toList == b.cmd.name.toList) with
            | false => simp [go_sem, h0, h1, h2, h3, h4, h5]
            | true =>
              cases h6 : (a.cmd.n == b.cmd.n) with
              | false => simp [go_sem, h0, h1, h2, h3, h4, h5, h6]
              | true =>
                simp [go_sem, h0, h1, h2, h3, h4, h5, h6]

set_option maxRecDepth 100000 in
theorem rep_eql (a b : Ms) (w : World) : (binOp .eql 28 (.agg #[.int .i64 a.rs, .int .i64 a.rq, .int .i64 a.re, .int .u64 a.tk, .int .i64 a.rn]) (.agg #[.int .i64 b.rs, .int .i64 b.rq, .int .i64 b.re, .int .u64 b.tk, .int .i64 b.rn])).run Try.prog w = .ok (.bool (eqR a b)) w := by
  unfold eqR
  cases h0 : (a.rs == b.rs) with
  | false => simp [go_sem, h0]
  | true =>
    cases h1 : (a.rq == b.rq) with
    | false => simp [go_sem, h0, h1]
    | true =>
      cases h2 : (a.re == b.re) with
      | false => simp [go_sem, h0, h1, h2]
      | true =>
        cases h3 : ((a.tk : Int) == (b.tk : Int)) with
        | false => simp [go_sem, h0, h1, h2, h3]
        | true =>
          cases h4 : (a.rn == b.rn) with
          | false => simp [go_sem, h0, h1, h2, h3, h4]
          | true =>
            simp [go_sem, h0, h1, h2, h3, h4]

theorem Try.cells3 : Try.prog.cellsOf 3 = 1 := by kernel_rfl
theorem Try.info3 : (Try.prog.info? 3).map (fun i => (i.zero, i.size, i.bytes)) = some (some (.int .i64 0), 1, 8) := by kernel_rfl

set_option maxRecDepth 100000 in
theorem head_eql (a b : Ms) (w : World) : (binOp .eql 47 (.agg #[.int .i64 a.k, .int .i64 a.f, .int .i64 a.t, .int .i64 a.b, .int .i64 a.sl, .int .i64 a.ro, .int .i64 a.se, .int .i64 a.er]) (.agg #[.int .i64 b.k, .int .i64 b.f, .int .i64 b.t, .int .i64 b.b, .int .i64 b.sl, .int .i64 b.ro, .int .i64 b.se, .int .i64 b.er])).run Try.prog w = .ok (.bool (eqH a b)) w := by
  obtain ⟨i0, hi, -, -, -⟩ := info_parts Try.info3
  rw [run_eql_struct, show (10000 : Nat) = 9999 + 1 from rfl, run_equalIn_array w 9999 _ _ Try.underlying47 hi]
  rw [show List.range 8 = [0, 1, 2, 3, 4, 5, 6, 7] from rfl, Try.cells3]
  unfold eqH
  cases h0 : (a.k == b.k) with
  | false => simp [go_sem, Op.eqItems, h0]
  | true =>
    cases h1 : (a.f == b.f) with
    | false => simp [go_sem, Op.eqItems, h0, h1]
    | true =>
      cases h2 : (a.t == b.t) with
      | false => simp [go_sem, Op.eqItems, h0, h1, h2]
      | true =>
        cases h3 : (a.b == b.b) with
        | false => simp [go_sem, Op.eqItems, h0, h1, h2, h3]
        | true =>
          cases h4 : (a.sl == b.sl) with
          | false => simp [go_sem, Op.eqItems, h0, h1, h2, h3, h4]
          | true =>
            cases h5 : (a.ro == b.ro) with
            | false => simp [go_sem, Op.eqItems, h0, h1, h2, h3, h4, h5]
            | true =>
              cases h6 : (a.se == b.se) with
              | false => simp [go_sem, Op.eqItems, h0, h1, h2, h3, h4, h5, h6]
              | true =>
                cases h7 : (a.er == b.er) with
                | false => simp [go_sem, Op.eqItems, h0, h1, h2, h3, h4, h5, h6, h7]
                | true =>
                  simp [go_sem, Op.eqItems, h0, h1, h2, h3, h4, h5, h6, h7]

end Go.Proofs.Ytmmdcbgmhjheeaa
