/-
  CmdsDecodes: every text, read as a command and as an entry, gives what the document says, or the error. No condition but the row's own.
-/
import Derived.Test.YtgkpdbfpajmphaaDOk
namespace Go.Proofs.Ytgkpdbfpajmphaa

theorem cmdsDecodes_holds : Rows.CmdsDecodesSaid := cmdsDecodes_of cmdsOk_any
#print axioms cmdsDecodes_holds
end Go.Proofs.Ytgkpdbfpajmphaa
