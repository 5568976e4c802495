/-
  CmdsEncodes: for every entry, which commands may be, a command's bytes and an entry's bytes, or the error, are as the document says. No condition but the row's own.
-/
import Derived.Test.YtgkpdbfpajmphaaDOk
namespace Go.Proofs.Ytgkpdbfpajmphaa

theorem cmdsEncodes_holds : Rows.CmdsEncodesSaid := cmdsEncodes_of cmdsOk_any
#print axioms cmdsEncodes_holds
end Go.Proofs.Ytgkpdbfpajmphaa
