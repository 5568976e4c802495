/-
  A part of which nothing is left here but its imports. No condition.
-/
import Derived.Test.YtnoappklbipdhaaLrnLeApply
import Derived.Test.YtnoappklbipdhaaLrnGRound
import Derived.Test.YtnoappklbipdhaaLrnPack5

