/-
  The program's learner and the document's, side by side, of one plain data; a deed beside them. No condition.
-/
import Derived.Test.YtnoappklbipdhaaLrpLxD
import Derived.Test.YtnoappklbipdhaaLrpLeNone
import Derived.Test.YtnoappklbipdhaaLrpPxSame
namespace Go.Proofs.Ytnoappklbipdhaa
open Go.RowKit

set_option maxRecDepth 100000 in
theorem cmd_ne (a : Cm) (w : World) : (binOp .neq 28 (.agg #[.int .i64 a.kind, .int .i64 a.session, .int .i64 a.seq, .string a.name, .int .i64 a.n]) (.agg #[.int .i64 a.kind, .int .i64 a.session, .int .i64 a.seq, .string a.name, .int .i64 a.n])).run Try.prog w = .ok (.bool false) w := by
  have h0 : (a.kind == a.kind) = true := by simp
  have h1 : (a.session == a.session) = true := by simp
  have h2 : (a.seq == a.seq) = true := by simp
  have h3 : (a.name.toList == a.name.toList) = true := by simp
  have h4 : (a.n == a.n) = true := by simp
  simp [go_sem]
theorem RlAt.keep {w w' : World} {base X : Nat} {S : Nat → Prop} {p : Ln} (h : RlAt w base X S p) (hk : ∀ b, S b → w'.heap[b]? = w.heap[b]?) : RlAt w' base X S p := by
  obtain ⟨u, h1⟩ := h.ex
  exact ⟨u, h1.keep hk⟩
theorem RlAt.bd {w : World} {base X : Nat} {S : Nat → Prop} {p : Ln} (h : RlAt w base X S p) : ∀ b, S b → base ≤ b ∧ b < w.heap.size := by
  obtain ⟨u, h1⟩ := h.ex
  exact h1.bd
theorem RlAt.low {w : World} {base base' X : Nat} {S : Nat → Prop} {p : Ln} (h : RlAt w base X S p) (hb : base' ≤ base) : RlAt w base' X S p := by
  obtain ⟨u, h1⟩ := h.ex
  exact ⟨u, h1.blk, own_low h1.own hb, Nat.le_trans hb h1.lo, h1.set⟩
/-- Both learners, the deed at hand. -/
structure TwI (w y : World) (X Y DB : Nat) (S Sy : Nat → Prop) (p q : Ln) (n : Nat) (x : Ld) : Prop where
  lx : LnAt y w.heap.size X S p n
  ly : RlAt y w.heap.size Y Sy q
  ap : ∀ g, Sy g → ¬ S g
  db : LdAt y DB x
  nx : ¬ S DB
  ny : ¬ Sy DB
  b : Below w.heap.size w y
section
variable {w y y2 : World} {X Y DB : Nat} {S Sy S2 : Nat → Prop} {p q p2 : Ln} {n n2 : Nat} {x : Ld}
theorem TwI.fresh (h : TwI w y X Y DB S Sy p q n x) (b : Below y.heap.size y y2) : TwI w y2 X Y DB S Sy p q n x :=
  ⟨h.lx.fresh b, h.ly.keep fun g hg => b.block g (h.ly.bd g hg).2, h.ap, (b.block _ (lt_of_block h.db)).trans h.db, h.nx, h.ny, bmm h.b h.b.size b⟩
theorem TwI.drew (h : TwI w y X Y DB S Sy p q n x) : TwI w y.drew X Y DB S Sy p q n x := h.fresh (Below.refl _ _).drew
theorem TwI.stepX (h : TwI w y X Y DB S Sy p q n x) (h2 : LnAt y2 w.heap.size X S2 p2 n2) (k : Kept y y2 S S2) : TwI w y2 X Y DB S2 Sy p2 q n2 x := by
  have hd := lt_of_block h.db
  refine ⟨h2, h.ly.keep fun g hg => k.kept g (h.ly.bd g hg).2 (h.ap g hg), fun g hg h3 => ?_, (k.kept _ hd h.nx).trans h.db, fun h3 => ?_, h.ny, h.b.trans (k.low h.b.size fun b hb => (h.lx.bd b hb).1)⟩
  · rcases k.old g h3 with h4 | h4
    · exact h.ap g hg h4
    · have := (h.ly.bd g hg).2
      omega
  · rcases k.old _ h3 with h4 | h4
    · exact h.nx h4
    · omega
theorem TwI.stepY (h : TwI w y X Y DB S Sy p q n x) (h2 : RlAt y2 w.heap.size Y S2 p2) (k : Kept y y2 Sy S2) : TwI w y2 X Y DB S S2 p p2 n x := by
  have hd := lt_of_block h.db
  refine ⟨h.lx.keep fun g hg => k.kept g (h.lx.bd g hg).2 (fun h3 => h.ap g h3 hg), h2, fun g h3 hg => ?_, (k.kept _ hd h.ny).trans h.db, h.nx, fun h3 => ?_, h.b.trans (k.low h.b.size fun b hb => (h.ly.bd b hb).1)⟩
  · rcases k.old g h3 with h4 | h4
    · exact h.ap g h4 hg
    · have := (h.lx.bd g hg).2
      omega
  · rcases k.old _ h3 with h4 | h4
    · exact h.ny h4
    · omega
theorem ans_keep {y4 : World} {u : Value} {xs : List En} (h : AnsE y y2 S2 u xs) (k : Kept y2 y4 Sy S) (hb : ∀ g, Sy g → g < y.heap.size) : RowAt enC y4 u xs :=
  h.row.keep k.size fun bk off m c h0 e => by
    have h1 := h.new bk off m c h0 e
    exact k.kept bk (h.row.lt h0 e) (fun h2 => by have := hb bk h2; omega)
end
/-- Between two deeds. -/
structure Twin (w y : World) (X Y : Nat) (q : Ln) (n : Nat) : Prop where
  ex : ∃ S Sy, LnAt y w.heap.size X S q n ∧ RlAt y w.heap.size Y Sy q ∧ ∀ g, Sy g → ¬ S g
  b : Below w.heap.size w y
theorem TwI.twin {w y : World} {X Y DB : Nat} {S Sy : Nat → Prop} {q : Ln} {n m : Nat} {x : Ld} (h : TwI w y X Y DB S Sy q q n x) (hm : n ≤ m) : Twin w y X Y q m := ⟨⟨S, Sy, h.lx.mono hm, h.ly, h.ap⟩, h.b⟩
end Go.Proofs.Ytnoappklbipdhaa
