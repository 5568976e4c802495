/-
  A part of which nothing is left here but its imports. No condition.
-/
import Derived.Test.YtmfadmhbkgemmaaQLcAwake

