/-
  Both proposers in memory, apart; what a call on one of them leaves of the other. No condition.
-/
import Derived.Test.YtmlgoecdefeapaaPPxPlain
import Derived.Test.YtmlgoecdefeapaaPPxCho
import Derived.Test.YtmlgoecdefeapaaPPxSame
import Derived.Test.YtmlgoecdefeapaaPPxFew
namespace Go.Proofs.Ytmlgoecdefeapaa
open Go.RowKit

theorem ent_eql (a : En) (w : World) : (binOp .eql 38 (.agg #[.int .i64 a.slot, .int .i64 a.ballot, .int .i64 a.cmd.kind, .int .i64 a.cmd.session, .int .i64 a.cmd.seq, .string a.cmd.name, .int .i64 a.cmd.n]) (.agg #[.int .i64 a.slot, .int .i64 a.ballot, .int .i64 a.cmd.kind, .int .i64 a.cmd.session, .int .i64 a.cmd.seq, .string a.cmd.name, .int .i64 a.cmd.n])).run Try.prog w = .ok (.bool true) w := by
  simp [go_sem]
/-- What a deed is. -/
structure PdOk (w : World) (x : Pd) : Prop where
  row : RowAt enC w x.u x.es
  who : inI x.who
  slot : inI x.slot
  names : ∀ e ∈ x.es, e.cmd.name.size ≤ 281474976710656
  name : x.c.name.size ≤ 281474976710656
  len : x.es.length ≤ 9223372036854775807
section
variable {w w' : World} {base base0 X : Nat} {S : Nat → Prop} {p : Pp} {a1 a2 a3 a4 : Value} {l : List Sv}
theorem PrAt.mono (h : PrAt w base S X p a1 a2 a3 a4 l) (hb : base0 ≤ base) : PrAt w base0 S X p a1 a2 a3 a4 l :=
  ⟨h.blk, own_mono h.o1 hb, own_mono h.o2 hb, own_mono h.o3 hb, own_mono h.o4 hb, h.sl, fun x hx => own_mono (h.ow x hx) hb, h.ap, h.a23, Nat.le_trans hb h.lo, h.set⟩
theorem PrHas.bd (h : PrHas w base S X p) : ∀ b, S b → base ≤ b ∧ b < w.heap.size := fun b hb => by
  obtain ⟨a1, a2, a3, a4, l, h⟩ := h
  exact h.bd b hb
theorem PrHas.keep (h : PrHas w base S X p) (hk : ∀ b, S b → w'.heap[b]? = w.heap[b]?) : PrHas w' base S X p := by
  obtain ⟨a1, a2, a3, a4, l, h⟩ := h
  exact ⟨a1, a2, a3, a4, l, h.keep hk⟩
end
/-- Both proposers, apart, as one plain datum. -/
structure Duo (W y : World) (X Y : Nat) (q : Pp) : Prop where
  ex : ∃ S S', PS y W.heap.size X S q ∧ PrHas y W.heap.size S' Y q ∧ ∀ b, S b → ¬ S' b
  bel : Below W.heap.size W y
/-- Within a deed. -/
structure DeI (W y : World) (X Y DB : Nat) (S S' : Nat → Prop) (q1 q2 : Pp) (x : Pd) : Prop where
  ps : PS y W.heap.size X S q1
  ra : PrHas y W.heap.size S' Y q2
  ap : ∀ b, S b → ¬ S' b
  db : PdAt y DB x
  dS : ¬ S DB
  dT : ¬ S' DB
  bel : Below W.heap.size W y
section
variable {W y y2 : World} {X Y DB : Nat} {S S' S2 : Nat → Prop} {q1 q2 q3 : Pp} {x : Pd}
theorem DeI.lt (h : DeI W y X Y DB S S' q1 q2 x) : DB < y.heap.size := lt_of_block h.db
theorem DeI.stepA (h : DeI W y X Y DB S S' q1 q2 x) (p : PS y2 W.heap.size X S2 q3) (k : Kept y y2 S S2) : DeI W y2 X Y DB S2 S' q3 q2 x :=
  ⟨p, h.ra.keep fun b hb => k.kept b (h.ra.bd b hb).2 (fun e => h.ap b e hb), fun b hb hs => by
    rcases k.old b hb with e | e
    · exact h.ap b e hs
    · have := (h.ra.bd b hs).2
      omega, (k.kept DB h.lt h.dS).trans h.db, fun e => by
    rcases k.old DB e with e2 | e2
    · exact h.dS e2
    · have := h.lt
      omega, h.dT, h.bel.trans (k.low h.bel.size (fun b hb => (h.ps.bd b hb).1))⟩
theorem DeI.stepX (h : DeI W y X Y DB S S' q1 q2 x) (p : PrHas y2 W.heap.size S2 Y q3) (k : Kept y y2 S' S2) : DeI W y2 X Y DB S S2 q1 q3 x :=
  ⟨h.ps.keep fun b hb => k.kept b (h.ps.bd b hb).2 (h.ap b hb), p, fun b hb hs => by
    rcases k.old b hs with e | e
    · exact h.ap b hb e
    · have := (h.ps.bd b hb).2
      omega, (k.kept DB h.lt h.dT).trans h.db, h.dS, fun e => by
    rcases k.old DB e with e2 | e2
    · exact h.dT e2
    · have := h.lt
      omega, h.bel.trans (k.low h.bel.size (fun b hb => (h.ra.bd b hb).1))⟩
theorem DeI.below (h : DeI W y X Y DB S S' q1 q2 x) (b : Below y.heap.size y y2) : DeI W y2 X Y DB S S' q1 q2 x :=
  ⟨h.ps.keep fun g hg => b.block g (h.ps.bd g hg).2, h.ra.keep fun g hg => b.block g (h.ra.bd g hg).2, h.ap, (b.block DB h.lt).trans h.db, h.dS, h.dT, bmm h.bel h.bel.size b⟩
theorem DeI.drew (h : DeI W y X Y DB S S' q1 q2 x) : DeI W y.drew X Y DB S S' q1 q2 x := h.below (undrew (Below.refl _ _))
theorem DeI.duo (h : DeI W y X Y DB S S' q1 q1 x) : Duo W y X Y q1 := ⟨⟨S, S', h.ps, h.ra, h.ap⟩, h.bel⟩
/-- A promise heard, on both sides. -/
theorem DeI.prom {n f : Int} {k : Nat} (h : DeI W y X Y DB S S' q1 q1 x) (hq : PlQ q1 n f k) (hn : n ≤ 100) (hf : 1 ≤ f ∧ f ≤ 1099511627776) (hk : k ≤ 200) (hx : PdOk W x) (hes : x.es.length ≤ 1000 ∧ ∀ e ∈ x.es, e.slot ≤ f + 1000) :
    Calls Try.prog 11 #[.pointer (some ⟨X, 0, none⟩), .int .i64 x.who, x.u] y (PPost y W.heap.size X S (promP (maR q1.n) q1 x.who x.es).1 (.bool (promP (maR q1.n) q1 x.who x.es).2)) := by
  have hrow := hx.row
  refine pprom_any h.ps (hq.lim hf hk) (by rw [hq.nn]; omega) x.who hx.who x.es x.u (hrow.keep h.bel.size (fun bk off nn cap h0 e => h.bel.block bk (hrow.lt h0 e))) (by omega) (fun e he => ⟨hx.names e he, by rw [hq.ff]; exact hes.2 e he⟩) (fun bk off nn cap h0 e hs => ?_)
  have h1 := (h.ps.bd bk hs).1
  have h2 := hrow.lt h0 e
  omega
theorem DeI.prom2 {n f : Int} {k : Nat} (h : DeI W y X Y DB S S' q3 q1 x) (hq : PlQ q1 n f k) (hn : n ≤ 100) (hf : 1 ≤ f ∧ f ≤ 1099511627776) (hk : k ≤ 200) (hx : PdOk W x) (hes : x.es.length ≤ 1000 ∧ ∀ e ∈ x.es, e.slot ≤ f + 1000) :
    Calls Try.prog 12 #[.pointer (some ⟨Y, 0, none⟩), .int .i64 x.who, x.u] y (PrPost y W.heap.size S' Y (promP (maR q1.n) q1 x.who x.es).1 (.bool (promP (maR q1.n) q1 x.who x.es).2)) := by
  have hrow := hx.row
  obtain ⟨a1, a2, a3, a4, l, hp⟩ := h.ra
  refine hp.rpromise (by rw [hq.nn]; omega) ⟨by have := hq.who.1; omega, hq.who.2⟩ (by have := hq.who.1; omega) (by rw [hq.ff]; exact hf) hq.fit.early (by have := hq.bl; omega) (fun e he => by rw [hq.ff]; exact hq.bs e he) (fun e he => by rw [hq.ff]; exact hes.2 e he) (fun y3 S3 k3 => ?_) x.who
  have hb : Below W.heap.size W y3 := h.bel.trans (k3.low h.bel.size (fun b hb => (h.ra.bd b hb).1))
  exact hrow.keep hb.size (fun bk off nn cap h0 e => hb.block bk (hrow.lt h0 e))
theorem DeI.acc {n f : Int} {k : Nat} (h : DeI W y X Y DB S S' q1 q1 x) (hq : PlQ q1 n f k) (hn : n ≤ 100) (hf : 1 ≤ f ∧ f ≤ 1099511627776) (hk : k ≤ 200) (hx : PdOk W x) :
    Calls Try.prog 13 #[.pointer (some ⟨X, 0, none⟩), .int .i64 x.who, .int .i64 x.slot] y (PPost y W.heap.size X S (accP (maR q1.n) q1 x.who x.slot).1 (.bool (accP (maR q1.n) q1 x.who x.slot).2)) :=
  pacc_any h.ps (hq.lim hf hk) (by rw [hq.nn]; omega) x.who x.slot hx.who hx.slot
theorem DeI.acc2 {n f : Int} {k : Nat} (h : DeI W y X Y DB S S' q3 q1 x) (hq : PlQ q1 n f k) (hn : n ≤ 100) (hk : k ≤ 200) :
    Calls Try.prog 14 #[.pointer (some ⟨Y, 0, none⟩), .int .i64 x.who, .int .i64 x.slot] y (PrPost y W.heap.size S' Y (accP (maR q1.n) q1 x.who x.slot).1 (.bool (accP (maR q1.n) q1 x.who x.slot).2)) := by
  obtain ⟨a1, a2, a3, a4, l, hp⟩ := h.ra
  exact hp.raccepted (by have := hq.ln; omega) (by rw [hq.nn]; omega) (fun z hz => ⟨by have := (hq.sl z hz).1; omega, (hq.sl z hz).2⟩) x.who x.slot
theorem DeI.prop {n f : Int} {k : Nat} (h : DeI W y X Y DB S S' q1 q1 x) (hq : PlQ q1 n f k) (hf : 1 ≤ f ∧ f ≤ 1099511627776) (hk : k ≤ 200) (hx : PdOk W x) :
    Calls Try.prog 15 #[.pointer (some ⟨X, 0, none⟩), .agg (cmA x.c)] y (PPost y W.heap.size X S (propP q1 x.c).1 (.agg (enA (propP q1 x.c).2))) :=
  pprop_any h.ps (hq.lim hf hk) x.c hx.name
theorem DeI.prop2 {n f : Int} {k : Nat} (h : DeI W y X Y DB S S' q3 q1 x) (hq : PlQ q1 n f k) (hf : 1 ≤ f ∧ f ≤ 1099511627776) (hk : k ≤ 200) :
    Calls Try.prog 16 #[.pointer (some ⟨Y, 0, none⟩), .agg (cmA x.c)] y (PrPost y W.heap.size S' Y (propP q1 x.c).1 (.agg (enA (propP q1 x.c).2))) := by
  obtain ⟨a1, a2, a3, a4, l, hp⟩ := h.ra
  exact hp.rpropose (by have := hq.ln; omega) (by have := hq.nx; omega) x.c
theorem DeI.cho {n f : Int} {k : Nat} (h : DeI W y X Y DB S S' q1 q1 x) (hq : PlQ q1 n f k) (hf : 1 ≤ f ∧ f ≤ 1099511627776) (hk : k ≤ 200) (hx : PdOk W x) :
    Calls Try.prog 17 #[.pointer (some ⟨X, 0, none⟩), .int .i64 x.slot] y (PPost y W.heap.size X S (choP q1 x.slot) (.tuple #[])) :=
  pcho_any h.ps (hq.lim hf hk) x.slot hx.slot
theorem DeI.cho2 {n f : Int} {k : Nat} (h : DeI W y X Y DB S S' q3 q1 x) (hq : PlQ q1 n f k) (hk : k ≤ 200) :
    Calls Try.prog 18 #[.pointer (some ⟨Y, 0, none⟩), .int .i64 x.slot] y (PrPost y W.heap.size S' Y (choP q1 x.slot) (.tuple #[])) := by
  obtain ⟨a1, a2, a3, a4, l, hp⟩ := h.ra
  exact hp.rchosen (by have := hq.ln; omega) x.slot
end
end Go.Proofs.Ytmlgoecdefeapaa
