/-
  The contracts of the document's own reader and writer (package latchkeyref01): what they answer, for every number and every text, and what has not turned. No condition but on sizes.
-/
import Derived.Test.YtkdglkaeglhibaaDoorReader
namespace Go.Proofs.YtkdglkaeglhibaaDoor
open Go.RowKit

theorem u64_not {a : Int} (h0 : 0 ≤ a) (h1 : a < 18446744073709551616) : bits .xor .u64 18446744073709551615 a = 18446744073709551615 - a := by
  obtain ⟨n, rfl⟩ := Int.eq_ofNat_of_zero_le h0
  show IntKind.u64.wrap ((BitVec.ofInt 64 18446744073709551615 ^^^ BitVec.ofInt 64 (n : Int)).toNat : Int) = _
  have e : BitVec.ofInt 64 18446744073709551615 = BitVec.allOnes 64 := by decide
  rw [e, BitVec.allOnes_xor, BitVec.toNat_not, ofInt_u64 n (by omega), IntKind.wrap_u64]
  omega

theorem mask127 {c : Nat} (h : c < 18446744073709551616) : bits .and .u64 (c : Int) 127 = (c : Int) % 128 := by
  have := u64_and_nat c 127 h (by decide)
  rw [show (127 : Nat) = 2 ^ 7 - 1 from rfl, Nat.and_two_pow_sub_one_eq_mod] at this
  simpa using this
theorem mask1 {c : Nat} (h : c < 18446744073709551616) : bits .and .u64 (c : Int) 1 = (c : Int) % 2 := by
  have := u64_and_nat c 1 h (by decide)
  rw [show (1 : Nat) = 2 ^ 1 - 1 from rfl, Nat.and_two_pow_sub_one_eq_mod] at this
  simpa using this

/-- What reading a number makes of the document's reader. -/
def xU (s : ByteArray) (b : Bool) : Nat × ByteArray × Bool :=
  if b = true ∨ (num 0 0 s.data.toList).2 = 0 then (0, s, true) else ((num 0 0 s.data.toList).1, s.extract (num 0 0 s.data.toList).2 s.size, false)

theorem or_low {X c k : Nat} (h : X < 2 ^ (7 * k)) : X ||| c * 2 ^ (7 * k) = X + c * 2 ^ (7 * k) := by
  rw [Nat.or_comm, Nat.mul_comm, ← Nat.two_pow_add_eq_or_of_lt h, Nat.add_comm]

/-- A digit laid over what was read. -/
theorem or_digit {X Y c k : Nat} (hX : X < 2 ^ (7 * k)) (hY : Y = c % 128 * 2 ^ (7 * k)) (hb : X + Y < 18446744073709551616) : bits .or .u64 (X : Int) (Y : Int) = ((X + Y : Nat) : Int) := by
  rw [u64_or_nat X Y (by omega) (by omega), hY, or_low hX]

end Go.Proofs.YtkdglkaeglhibaaDoor
