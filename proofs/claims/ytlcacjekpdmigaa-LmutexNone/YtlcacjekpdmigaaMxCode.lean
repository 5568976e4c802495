/-
  Package lmutex whole: the program's mutex and rwlock, each call as plain data. The conditions: those of its parts.
-/
import Derived.Test.YtlcacjekpdmigaaRwCodeD
import Derived.Test.YtlcacjekpdmigaaRwWaits
import Derived.Test.YtlcacjekpdmigaaMxUnlock
namespace Go.Proofs.Ytlcacjekpdmigaa
end Go.Proofs.Ytlcacjekpdmigaa
