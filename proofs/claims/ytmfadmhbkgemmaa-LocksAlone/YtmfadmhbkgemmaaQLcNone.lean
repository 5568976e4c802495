/-
  LocksNone: locks that are none. No condition.
-/
import Derived.Test.YtmfadmhbkgemmaaQLcOpen
namespace Go.Proofs.Ytmfadmhbkgemmaa
open Go.RowKit

abbrev LdAt (w : World) (B : Nat) (v : Ld) : Prop := w.heap[B]? = some (.cells (ldA v) 33 (0, 0))
theorem LdAt.box {w : World} {B : Nat} {v : Ld} (h : LdAt w B v) (j : Nat) (u : Value) (hu : (ldC v)[j]? = some u) : w.cell? ⟨B, j, none⟩ = some u := by
  simp only [World.cell?, h]
  simpa [ldC] using hu
end Go.Proofs.Ytmfadmhbkgemmaa
