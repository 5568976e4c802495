/-
  CmdsBack: for every entry and every text, what was encoded is decoded as it was, and what is decoded of a text is encoded as that text. No condition but the row's own.
-/
import Derived.Test.YtgkpdbfpajmphaaDOk
namespace Go.Proofs.Ytgkpdbfpajmphaa

theorem cmdsBack_holds : Rows.CmdsBackSaid := cmdsBack_of cmdsOk_any
#print axioms cmdsBack_holds
end Go.Proofs.Ytgkpdbfpajmphaa
