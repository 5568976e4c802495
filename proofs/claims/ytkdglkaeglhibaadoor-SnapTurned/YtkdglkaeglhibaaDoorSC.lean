/-
  Nothing: no law of this seat sorts strings.
-/
import Derived.Test.YtkdglkaeglhibaaDoorSA
