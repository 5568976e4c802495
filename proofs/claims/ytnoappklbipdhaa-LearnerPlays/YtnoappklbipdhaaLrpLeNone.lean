/-
  A deed in memory; LearnerNone. No condition.
-/
import Derived.Test.YtnoappklbipdhaaLrpLeAwake
namespace Go.Proofs.Ytnoappklbipdhaa
open Go.RowKit

/-- A deed. -/
structure Ld where
  kind : Int
  n : Int
  most : Int
  e : En
abbrev ldA (v : Ld) : Array Value := #[.int .i64 v.kind, .int .i64 v.n, .int .i64 v.most, .int .i64 v.e.slot, .int .i64 v.e.ballot, .int .i64 v.e.cmd.kind, .int .i64 v.e.cmd.session, .int .i64 v.e.cmd.seq, .string v.e.cmd.name, .int .i64 v.e.cmd.n]
def ldC (v : Ld) : List Value := [.int .i64 v.kind, .int .i64 v.n, .int .i64 v.most, .int .i64 v.e.slot, .int .i64 v.e.ballot, .int .i64 v.e.cmd.kind, .int .i64 v.e.cmd.session, .int .i64 v.e.cmd.seq, .string v.e.cmd.name, .int .i64 v.e.cmd.n]
theorem ldC_len (v : Ld) : (ldC v).length = 10 := rfl
abbrev LdAt (w : World) (B : Nat) (v : Ld) : Prop := w.heap[B]? = some (.cells (ldA v) 32 (0, 0))
theorem LdAt.box {w : World} {B : Nat} {v : Ld} (h : LdAt w B v) (j : Nat) (u : Value) (hu : (ldC v)[j]? = some u) : w.cell? ⟨B, j, none⟩ = some u := by
  simp only [World.cell?, h]
  simpa [ldC] using hu
end Go.Proofs.Ytnoappklbipdhaa
