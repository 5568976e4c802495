/-
  Parts of the proof, laid together: KRead, KPut. The conditions stand at each part.
-/
import Derived.Lib.BufferRead
import Derived.Deep.RegionHeld3
import Derived.LaidEqlPtr
import Derived.Lib.Builder
import Derived.Test.YtkngpfngfmbmjaaYPackG
import Derived.Test.YtkngpfngfmbmjaaYSA
/-
  The program's disk: a file is laid under a name. The condition: the name has at most 64 bytes.
-/
namespace Go.Proofs.Ytkngpfngfmbmjaa
open Go.RowKit

theorem kclone_any (s : ByteArray) (w : World) (hlim : s.size ≤ 281474976710656) :
    Calls Try.prog 38 #[.string s] w fun e w' => e = .returned (.string s) ∧ Below w.heap.size w w' := by
  go_enter Try.func38, Try.ntmps38
  go_wp2_with (go_at_call 49; refine (Try.stringslite_Clone s _ hlim).mono ?_; rintro e w1 ⟨rfl, bel⟩)
  go_ret
  exact ⟨rfl, bel⟩

end Go.Proofs.Ytkngpfngfmbmjaa
