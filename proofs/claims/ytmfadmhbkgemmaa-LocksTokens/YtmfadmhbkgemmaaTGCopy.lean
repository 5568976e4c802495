/-
  A part of which nothing is left here but its imports. No condition.
-/
import Derived.Test.YtmfadmhbkgemmaaTPackA
import Derived.Laws.CopyOwn
import Derived.Deep.RegionLaw
import Derived.Shelf.RegionOpenPlain

