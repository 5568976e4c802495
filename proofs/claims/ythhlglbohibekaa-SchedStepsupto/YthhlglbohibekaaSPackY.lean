/-
  Parts of the proof, laid together: SkCode. The conditions stand at each part.
-/
import Derived.Test.YthhlglbohibekaaSPackX

