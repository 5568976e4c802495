/-
  CmdsOnly: two commands that are not the same have not the same bytes. No condition but the row's own.
-/
import Derived.Test.YtgkpdbfpajmphaaDOk
namespace Go.Proofs.Ytgkpdbfpajmphaa

theorem cmdsOnly_holds : Rows.CmdsOnlySaid := cmdsOnly_of cmdsOk_any
#print axioms cmdsOnly_holds
end Go.Proofs.Ytgkpdbfpajmphaa
