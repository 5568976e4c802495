/-
  A message by value: its cells; a row of entries. No condition.
-/
import Derived.Test.YtmmdcbgmhjheeaaMgPlain
import Derived.Test.YtmmdcbgmhjheeaaCmRef
namespace Go.Proofs.Ytmmdcbgmhjheeaa
open Go.RowKit

/-- An entry's seven cells, from cell o of block bk on. -/
structure IsEn (w : World) (bk o : Nat) (e : En) : Prop where
  c0 : w.cell? ⟨bk, o, none⟩ = some (.int .i64 e.slot)
  c1 : w.cell? ⟨bk, o + 1, none⟩ = some (.int .i64 e.ballot)
  c2 : w.cell? ⟨bk, o + 2, none⟩ = some (.int .i64 e.cmd.kind)
  c3 : w.cell? ⟨bk, o + 3, none⟩ = some (.int .i64 e.cmd.session)
  c4 : w.cell? ⟨bk, o + 4, none⟩ = some (.int .i64 e.cmd.seq)
  c5 : w.cell? ⟨bk, o + 5, none⟩ = some (.string e.cmd.name)
  c6 : w.cell? ⟨bk, o + 6, none⟩ = some (.int .i64 e.cmd.n)
theorem IsEn.below {w w' : World} {bk o B : Nat} {e : En} (h : IsEn w bk o e) (hb : bk < B) (k : Below B w w') : IsEn w' bk o e :=
  ⟨(k.cell (by exact hb)).trans h.c0, (k.cell (by exact hb)).trans h.c1, (k.cell (by exact hb)).trans h.c2, (k.cell (by exact hb)).trans h.c3, (k.cell (by exact hb)).trans h.c4, (k.cell (by exact hb)).trans h.c5, (k.cell (by exact hb)).trans h.c6⟩

/-- A row of entries, as a slice. -/
structure EntAt (w : World) (v : Value) (es : List En) : Prop where
  ex : ∃ (a : Option Addr) (cap : Nat), v = .slice a es.length cap ∧ (es.length = 0 ∨ ∃ bk off, a = some ⟨bk, off, none⟩ ∧ bk < w.heap.size ∧ ∀ j (hj : j < es.length), IsEn w bk (off + j * 7) es[j])
theorem EntAt.below {w w' : World} {v : Value} {es : List En} (h : EntAt w v es) (k : Below w.heap.size w w') : EntAt w' v es := by
  obtain ⟨a, cap, hv, he⟩ := h.ex
  refine ⟨⟨a, cap, hv, ?_⟩⟩
  rcases he with h | ⟨bk, off, ha, hb, hc⟩
  · exact Or.inl h
  · exact Or.inr ⟨bk, off, ha, Nat.lt_of_lt_of_le hb k.size, fun j hj => (hc j hj).below hb k⟩

/-- A message's twenty cells, in block B. -/
structure MBox (w : World) (B : Nat) (m : Ms) (v : Value) : Prop where
  lt : B < w.heap.size
  c0 : w.cell? ⟨B, 0, none⟩ = some (.int .i64 m.k)
  c1 : w.cell? ⟨B, 1, none⟩ = some (.int .i64 m.f)
  c2 : w.cell? ⟨B, 2, none⟩ = some (.int .i64 m.t)
  c3 : w.cell? ⟨B, 3, none⟩ = some (.int .i64 m.b)
  c4 : w.cell? ⟨B, 4, none⟩ = some (.int .i64 m.sl)
  c5 : w.cell? ⟨B, 5, none⟩ = some (.int .i64 m.ro)
  c6 : w.cell? ⟨B, 6, none⟩ = some (.int .i64 m.se)
  c7 : w.cell? ⟨B, 7, none⟩ = some (.int .i64 m.er)
  c8 : w.cell? ⟨B, 8, none⟩ = some (v)
  c9 : w.cell? ⟨B, 9, none⟩ = some (.int .i64 m.c.kind)
  c10 : w.cell? ⟨B, 10, none⟩ = some (.int .i64 m.c.session)
  c11 : w.cell? ⟨B, 11, none⟩ = some (.int .i64 m.c.seq)
  c12 : w.cell? ⟨B, 12, none⟩ = some (.string m.c.name)
  c13 : w.cell? ⟨B, 13, none⟩ = some (.int .i64 m.c.n)
  c14 : w.cell? ⟨B, 14, none⟩ = some (.int .i64 m.rs)
  c15 : w.cell? ⟨B, 15, none⟩ = some (.int .i64 m.rq)
  c16 : w.cell? ⟨B, 16, none⟩ = some (.int .i64 m.re)
  c17 : w.cell? ⟨B, 17, none⟩ = some (.int .u64 m.tk)
  c18 : w.cell? ⟨B, 18, none⟩ = some (.int .i64 m.rn)
  c19 : w.cell? ⟨B, 19, none⟩ = some (.string m.x)
theorem MBox.belowB {w w' : World} {b B : Nat} {m : Ms} {v : Value} (h : MBox w b m v) (hb : b < B) (k : Below B w w') : MBox w' b m v :=
  ⟨Nat.lt_of_lt_of_le h.lt k.size, (k.cell (by exact hb)).trans h.c0, (k.cell (by exact hb)).trans h.c1, (k.cell (by exact hb)).trans h.c2, (k.cell (by exact hb)).trans h.c3, (k.cell (by exact hb)).trans h.c4, (k.cell (by exact hb)).trans h.c5, (k.cell (by exact hb)).trans h.c6, (k.cell (by exact hb)).trans h.c7, (k.cell (by exact hb)).trans h.c8, (k.cell (by exact hb)).trans h.c9, (k.cell (by exact hb)).trans h.c10, (k.cell (by exact hb)).trans h.c11, (k.cell (by exact hb)).trans h.c12, (k.cell (by exact hb)).trans h.c13, (k.cell (by exact hb)).trans h.c14, (k.cell (by exact hb)).trans h.c15, (k.cell (by exact hb)).trans h.c16, (k.cell (by exact hb)).trans h.c17, (k.cell (by exact hb)).trans h.c18, (k.cell (by exact hb)).trans h.c19⟩
theorem MBox.below {w w' : World} {B : Nat} {m : Ms} {v : Value} (h : MBox w B m v) (k : Below w.heap.size w w') : MBox w' B m v := h.belowB h.lt k
theorem MBox.fresh (w : World) (m : Ms) (v : Value) : MBox (w.alloc (.cells #[.int .i64 m.k, .int .i64 m.f, .int .i64 m.t, .int .i64 m.b, .int .i64 m.sl, .int .i64 m.ro, .int .i64 m.se, .int .i64 m.er, v, .int .i64 m.c.kind, .int .i64 m.c.session, .int .i64 m.c.seq, .string m.c.name, .int .i64 m.c.n, .int .i64 m.rs, .int .i64 m.rq, .int .i64 m.re, .int .u64 m.tk, .int .i64 m.rn, .string m.x] 30)) w.heap.size m v :=
  ⟨by simp, by simp, by simp, by simp, by simp, by simp, by simp, by simp, by simp, by simp, by simp, by simp, by simp, by simp, by simp, by simp, by simp, by simp, by simp, by simp, by simp⟩

theorem mwithin_any (n lo hi : Int) (w : World) :
    Calls Try.prog 37 #[.int .i64 n, .int .i64 lo, .int .i64 hi] w fun e w' => e = .returned (.bool (inB n lo hi)) ∧ w = w' := by
  unfold inB
  by_cases h : lo ≤ n
  · go_enter Try.func37, Try.ntmps37
    go_wp2
    go_ret
    exact ⟨by simp [h], rfl⟩
  · have e : decide (lo ≤ n) = false := by simpa using h
    rw [e, Bool.false_and]
    go_enter Try.func37, Try.ntmps37
    go_wp2
    go_ret
    exact ⟨rfl, rfl⟩
end Go.Proofs.Ytmmdcbgmhjheeaa
