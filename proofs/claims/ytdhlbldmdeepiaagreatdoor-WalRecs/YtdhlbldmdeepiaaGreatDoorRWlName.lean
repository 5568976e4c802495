/-
  The names of segments as plain data: a number's digits, a name's number, each back. No condition. No program.
-/
import Derived.Lib.Strings
namespace Go.Proofs.YtdhlbldmdeepiaaGreatDoor

/-- 'log.' -/
def logP : List UInt8 := [108, 111, 103, 46]
/-- The digits of a number (f: how many there may be at the most). -/
def digsF : Nat → Nat → List UInt8
  | 0, _ => []
  | f + 1, n => if n < 10 then [UInt8.ofNat (48 + n)] else digsF f (n / 10) ++ [UInt8.ofNat (48 + n % 10)]
def digs (n : Nat) : List UInt8 := digsF 20 n
/-- A segment's name. -/
def segOf (n : Nat) : List UInt8 := logP ++ digs n

/-- More places than digits say no more. -/
theorem digsF_enough : ∀ (f g n : Nat), n < 10 ^ (f + 1) → n < 10 ^ (g + 1) → digsF (f + 1) n = digsF (g + 1) n
  | f, g, n, hf, hg => by
    rw [digsF, digsF]
    split
    · rfl
    · rename_i h1
      match f, g, hf, hg with
      | 0, _, hf, _ => exact absurd (by simpa using hf) h1
      | _, 0, _, hg => exact absurd (by simpa using hg) h1
      | f + 1, g + 1, hf, hg =>
        have e1 : 10 ^ (f + 1 + 1) = 10 ^ (f + 1) * 10 := Nat.pow_succ ..
        have e2 : 10 ^ (g + 1 + 1) = 10 ^ (g + 1) * 10 := Nat.pow_succ ..
        rw [digsF_enough f g (n / 10) (Nat.div_lt_of_lt_mul (by omega)) (Nat.div_lt_of_lt_mul (by omega))]
theorem digs_few {n : Nat} (h : n < 10) : digs n = [UInt8.ofNat (48 + n)] := by
  unfold digs
  rw [digsF, if_pos h]
theorem digs_more {n : Nat} (h : 10 ≤ n) (hn : n < 100000000000000000000) : digs n = digs (n / 10) ++ [UInt8.ofNat (48 + n % 10)] := by
  have h2 : n / 10 < 10 ^ (18 + 1) := Nat.div_lt_of_lt_mul (by simpa using hn)
  have h3 : n / 10 < 10 ^ (19 + 1) := Nat.lt_trans h2 (by decide)
  unfold digs
  rw [digsF, if_neg (by omega), digsF_enough 18 19 (n / 10) h2 h3]
end Go.Proofs.YtdhlbldmdeepiaaGreatDoor
