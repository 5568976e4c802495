/-
  A part of which nothing is left here but its imports. No condition.
-/
import Derived.Test.YtnoappklbipdhaaLrnPackA
import Derived.RangeFuncNested
import Derived.OwnWalkIn
import Derived.OrdersHeld
import Derived.OrdersIn

