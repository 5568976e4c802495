/-
  Package acceptor: an acceptor that is none; a deed in memory; AcceptorNone. No condition.
-/
import Derived.Test.YtkngpfngfmbmjaaYAcAwake
namespace Go.Proofs.Ytkngpfngfmbmjaa
open Go.Shelf Go.RowKit Go.Lib Go.Sort

/-- A deed. -/
structure Ad where
  kind : Int
  b : Int
  e : En
  s : ByteArray
/-- Deeds whose texts can be cloned. -/
structure OkAd (v : Ad) : Prop where
  name : nameOk v.e.cmd.name
  snap : nameOk v.s
  bb : v.b ≤ 9223372036854775807
  slot : v.e.slot ≤ 9223372036854775807
abbrev adA (v : Ad) : Array Value := #[.int .i64 v.kind, .int .i64 v.b, .int .i64 v.e.slot, .int .i64 v.e.ballot, .int .i64 v.e.cmd.kind, .int .i64 v.e.cmd.session, .int .i64 v.e.cmd.seq, .string v.e.cmd.name, .int .i64 v.e.cmd.n, .string v.s]
def adC (v : Ad) : List Value := [.int .i64 v.kind, .int .i64 v.b, .int .i64 v.e.slot, .int .i64 v.e.ballot, .int .i64 v.e.cmd.kind, .int .i64 v.e.cmd.session, .int .i64 v.e.cmd.seq, .string v.e.cmd.name, .int .i64 v.e.cmd.n, .string v.s]
theorem adC_len (v : Ad) : (adC v).length = 10 := rfl
abbrev AdAt (w : World) (B : Nat) (v : Ad) : Prop := w.heap[B]? = some (.cells (adA v) 38 (0, 0))
theorem AdAt.box {w : World} {B : Nat} {v : Ad} (h : AdAt w B v) (j : Nat) (u : Value) (hu : (adC v)[j]? = some u) : w.cell? ⟨B, j, none⟩ = some u := by
  simp only [World.cell?, h]
  simpa [adC] using hu
end Go.Proofs.Ytkngpfngfmbmjaa
