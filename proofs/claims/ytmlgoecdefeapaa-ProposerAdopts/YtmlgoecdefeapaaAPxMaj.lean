/-
  A part of which nothing is left here but its imports. No condition.
-/
import Derived.Test.YtmlgoecdefeapaaAPxNone
import Derived.Test.YtmlgoecdefeapaaABaRef
import Derived.Test.YtmlgoecdefeapaaAPackA
import Derived.Lib.MinMax

