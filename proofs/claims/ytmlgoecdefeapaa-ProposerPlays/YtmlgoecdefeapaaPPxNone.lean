/-
  Package proposer: a proposer that is none; a deed in memory; ProposerNone. No condition.
-/
import Derived.Test.YtmlgoecdefeapaaPPxAwake
namespace Go.Proofs.Ytmlgoecdefeapaa
open Go.RowKit

/-- A deed: the row of its entries is a value of its own. -/
structure Pd where
  kind : Int
  who : Int
  slot : Int
  u : Value
  es : List En
  c : Cm
abbrev pdA (v : Pd) : Array Value := #[.int .i64 v.kind, .int .i64 v.who, .int .i64 v.slot, v.u, .int .i64 v.c.kind, .int .i64 v.c.session, .int .i64 v.c.seq, .string v.c.name, .int .i64 v.c.n]
def pdC (v : Pd) : List Value := [.int .i64 v.kind, .int .i64 v.who, .int .i64 v.slot, v.u, .int .i64 v.c.kind, .int .i64 v.c.session, .int .i64 v.c.seq, .string v.c.name, .int .i64 v.c.n]
theorem pdC_len (v : Pd) : (pdC v).length = 9 := rfl
abbrev PdAt (w : World) (B : Nat) (v : Pd) : Prop := w.heap[B]? = some (.cells (pdA v) 34 (0, 0))
theorem PdAt.box {w : World} {B : Nat} {v : Pd} (h : PdAt w B v) (j : Nat) (u : Value) (hu : (pdC v)[j]? = some u) : w.cell? ⟨B, j, none⟩ = some u := by
  simp only [World.cell?, h]
  simpa [pdC] using hu
end Go.Proofs.Ytmlgoecdefeapaa
