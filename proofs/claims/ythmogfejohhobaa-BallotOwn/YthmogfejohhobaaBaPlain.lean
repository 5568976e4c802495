/-
  Ballots as plain numbers: what is one, of which round and server, the next one, majorities. No condition.
-/
import Derived.Test.YthmogfejohhobaaGOwn
import Derived.Lib.MinMax
namespace Go.Proofs.Ythmogfejohhobaa
open Go.RowKit

def isB (b : Int) : Bool := decide (1 ≤ b) && (decide (b ≤ 1099511627776) && decide (b % 8 ≤ 4))
theorem isB_iff (b : Int) : isB b = true ↔ 1 ≤ b ∧ b ≤ 1099511627776 ∧ b % 8 ≤ 4 := by unfold isB; simp
theorem isB_no (b : Int) : isB b = false ↔ ¬ (1 ≤ b ∧ b ≤ 1099511627776 ∧ b % 8 ≤ 4) := by rw [← isB_iff]; simp
def ofR (r i : Int) : Int := if 0 ≤ r ∧ r ≤ 137438953472 ∧ 0 ≤ i ∧ i ≤ 4 ∧ isB (8 * r + i) = true then 8 * r + i else 0
def roR (b : Int) : Int := if isB b = true then b / 8 else -1
def idR (b : Int) : Int := if isB b = true then b % 8 else -1
def nxR (b i : Int) : Int := if 0 ≤ i ∧ i ≤ 4 ∧ b < 1099511627776 ∧ isB (if max b 0 / 8 * 8 + i ≤ max b 0 then max b 0 / 8 * 8 + i + 8 else max b 0 / 8 * 8 + i) = true then (if max b 0 / 8 * 8 + i ≤ max b 0 then max b 0 / 8 * 8 + i + 8 else max b 0 / 8 * 8 + i) else 0
def maR (n : Int) : Int := if n < 1 then 1 else n / 2 + 1
end Go.Proofs.Ythmogfejohhobaa
