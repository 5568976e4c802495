/-
  The sum of a text (CRC-32, bit by bit) and frames, as plain functions on lists of bytes, and the facts on them that the walks and the laws need: a sum tells two texts apart that part at one byte; a table of 256 sums serves as well. No condition.
-/
import Derived.Lib.UnsafeStr
import Derived.Lib.Strings
import Derived.WalkKit
namespace Go.Proofs.YtkdglkaeglhibaaDoor

/-- One bit. -/
def bitStep (r : Nat) : Nat := if r % 2 = 1 then (r / 2) ^^^ 3988292384 else r / 2
/-- n bits. -/
def bitSteps : Nat → Nat → Nat
  | 0, r => r
  | n + 1, r => bitSteps n (bitStep r)
/-- One byte. -/
def crcStep (r b : Nat) : Nat := bitSteps 8 (r ^^^ b)
/-- The bytes of a text, from r on. -/
def crcFrom : Nat → List UInt8 → Nat
  | r, [] => r
  | r, b :: l => crcFrom (crcStep r b.toNat) l
/-- The sum of a text. -/
def crc (l : List UInt8) : Nat := 4294967295 - crcFrom 4294967295 l

theorem bitStep_lt {r : Nat} (h : r < 4294967296) : bitStep r < 4294967296 := by
  unfold bitStep
  split
  · exact Nat.xor_lt_two_pow (n := 32) (by omega) (by decide)
  · omega
theorem bitSteps_lt : ∀ (n : Nat) {r : Nat}, r < 4294967296 → bitSteps n r < 4294967296
  | 0, _, h => h
  | n + 1, _, h => bitSteps_lt n (bitStep_lt h)
theorem byte_lt (b : UInt8) : b.toNat < 256 := UInt8.toNat_lt b
theorem crcStep_lt {r b : Nat} (h : r < 4294967296) (hb : b < 256) : crcStep r b < 4294967296 := bitSteps_lt 8 (Nat.xor_lt_two_pow (n := 32) h (by omega))
theorem crcFrom_lt : ∀ (l : List UInt8) {r : Nat}, r < 4294967296 → crcFrom r l < 4294967296
  | [], _, h => h
  | b :: l, _, h => crcFrom_lt l (crcStep_lt h (byte_lt b))
theorem crc_lt (l : List UInt8) : crc l < 4294967296 := by unfold crc; omega

theorem crcFrom_append : ∀ (l m : List UInt8) (r : Nat), crcFrom r (l ++ m) = crcFrom (crcFrom r l) m
  | [], _, _ => rfl
  | _ :: l, m, _ => crcFrom_append l m _

theorem xor_back (a b : Nat) : (a ^^^ b) ^^^ b = a := by rw [Nat.xor_assoc, Nat.xor_self, Nat.xor_zero]

theorem high_bit {x : Nat} (h : x < 2147483648) : 2147483648 ≤ x ^^^ 3988292384 := by
  have ht : Nat.testBit (x ^^^ 3988292384) 31 = true := by
    rw [Nat.testBit_xor, Nat.testBit_lt_two_pow (i := 31) (by simpa using h)]
    decide
  have := Nat.ge_two_pow_of_testBit ht
  simpa using this

theorem bitStep_inj {a b : Nat} (ha : a < 4294967296) (hb : b < 4294967296) (h : bitStep a = bitStep b) : a = b := by
  unfold bitStep at h
  have ha2 : a / 2 < 2147483648 := by omega
  have hb2 : b / 2 < 2147483648 := by omega
  have ka := high_bit ha2
  have kb := high_bit hb2
  split at h
  · split at h
    · have := congrArg (· ^^^ 3988292384) h
      simp only [xor_back] at this
      omega
    · omega
  · split at h
    · omega
    · omega
theorem bitSteps_inj : ∀ (n : Nat) {a b : Nat}, a < 4294967296 → b < 4294967296 → bitSteps n a = bitSteps n b → a = b
  | 0, _, _, _, _, h => h
  | n + 1, _, _, ha, hb, h => bitStep_inj ha hb (bitSteps_inj n (bitStep_lt ha) (bitStep_lt hb) h)

theorem crcStep_inj {a b x : Nat} (ha : a < 4294967296) (hb : b < 4294967296) (hx : x < 256) (h : crcStep a x = crcStep b x) : a = b := by
  have := bitSteps_inj 8 (Nat.xor_lt_two_pow (n := 32) ha (by omega)) (Nat.xor_lt_two_pow (n := 32) hb (by omega)) h
  have := congrArg (· ^^^ x) this
  simpa only [xor_back] using this
theorem crcStep_inj2 {r x y : Nat} (hr : r < 4294967296) (hx : x < 256) (hy : y < 256) (h : crcStep r x = crcStep r y) : x = y := by
  have := bitSteps_inj 8 (Nat.xor_lt_two_pow (n := 32) hr (by omega)) (Nat.xor_lt_two_pow (n := 32) hr (by omega)) h
  have := congrArg (r ^^^ ·) this
  simpa only [← Nat.xor_assoc, Nat.xor_self, Nat.zero_xor] using this
theorem crcFrom_inj : ∀ (l : List UInt8) {a b : Nat}, a < 4294967296 → b < 4294967296 → crcFrom a l = crcFrom b l → a = b
  | [], _, _, _, _, h => h
  | x :: l, _, _, ha, hb, h => crcStep_inj ha hb (byte_lt x) (crcFrom_inj l (crcStep_lt ha (byte_lt x)) (crcStep_lt hb (byte_lt x)) h)

/-- Two texts that part at one byte have not the same sum. -/
theorem crc_parts (p q : List UInt8) {x y : UInt8} (h : x ≠ y) : crc (p ++ x :: q) ≠ crc (p ++ y :: q) := by
  intro e
  have hp := crcFrom_lt p (r := 4294967295) (by decide)
  have h1 := crcFrom_lt (p ++ x :: q) (r := 4294967295) (by decide)
  have h2 := crcFrom_lt (p ++ y :: q) (r := 4294967295) (by decide)
  unfold crc at e
  have e' : crcFrom 4294967295 (p ++ x :: q) = crcFrom 4294967295 (p ++ y :: q) := by omega
  rw [crcFrom_append, crcFrom_append] at e'
  have := crcFrom_inj q (crcStep_lt hp (byte_lt x)) (crcStep_lt hp (byte_lt y)) e'
  exact h (UInt8.toNat_inj.1 (crcStep_inj2 hp (byte_lt x) (byte_lt y) this))

/-! ### A table serves as well -/
theorem xor_mod2 (a b : Nat) : (a ^^^ b) % 2 = (a + b) % 2 := by
  have h := Nat.xor_mod_two_pow (a := a) (b := b) (n := 1)
  rw [Nat.pow_one] at h
  rcases (show a % 2 = 0 ∨ a % 2 = 1 by omega) with ha | ha
  · rcases (show b % 2 = 0 ∨ b % 2 = 1 by omega) with hb | hb
    · rw [ha, hb] at h
      exact h.trans (show 0 = _ by omega)
    · rw [ha, hb] at h
      exact h.trans (show 1 = _ by omega)
  · rcases (show b % 2 = 0 ∨ b % 2 = 1 by omega) with hb | hb
    · rw [ha, hb] at h
      exact h.trans (show 1 = _ by omega)
    · rw [ha, hb] at h
      exact h.trans (show 0 = _ by omega)
theorem bitStep_xor (a b : Nat) : bitStep (a ^^^ b) = bitStep a ^^^ bitStep b := by
  have hm : (a ^^^ b) % 2 = (a + b) % 2 := xor_mod2 a b
  have hd : (a ^^^ b) / 2 = a / 2 ^^^ b / 2 := Nat.xor_div_two
  unfold bitStep
  rw [hd]
  by_cases ha : a % 2 = 1
  · by_cases hb : b % 2 = 1
    · rw [if_neg (by omega), if_pos ha, if_pos hb]
      rw [Nat.xor_assoc, ← Nat.xor_assoc 3988292384, Nat.xor_comm 3988292384 (b / 2), Nat.xor_assoc (b / 2), Nat.xor_self, Nat.xor_zero]
    · rw [if_pos (by omega), if_pos ha, if_neg hb]
      rw [Nat.xor_assoc, Nat.xor_assoc, Nat.xor_comm (b / 2)]
  · by_cases hb : b % 2 = 1
    · rw [if_pos (by omega), if_neg ha, if_pos hb, Nat.xor_assoc]
    · rw [if_neg (by omega), if_neg ha, if_neg hb]
theorem bitSteps_xor : ∀ (n a b : Nat), bitSteps n (a ^^^ b) = bitSteps n a ^^^ bitSteps n b
  | 0, _, _ => rfl
  | n + 1, a, b => by rw [bitSteps, bitStep_xor, bitSteps_xor n]; rfl
theorem bitSteps_even : ∀ (n h : Nat), bitSteps n (h * 2 ^ n) = h
  | 0, h => by simp [bitSteps]
  | n + 1, h => by
    have e : bitStep (h * 2 ^ (n + 1)) = h * 2 ^ n := by
      unfold bitStep
      rw [Nat.pow_succ, ← Nat.mul_assoc, if_neg (by omega)]
      omega
    rw [bitSteps, e, bitSteps_even n h]
theorem split_byte (x : Nat) : x % 256 ^^^ (x / 256) * 2 ^ 8 = x := by
  apply Nat.eq_of_testBit_eq
  intro i
  rw [Nat.testBit_xor, show (256 : Nat) = 2 ^ 8 from rfl, Nat.testBit_mod_two_pow, Nat.testBit_mul_two_pow, Nat.testBit_div_two_pow]
  by_cases h : i < 8
  · simp [h, show ¬ 8 ≤ i by omega]
  · simp [h, show 8 ≤ i by omega, show i - 8 + 8 = i by omega]
/-- One byte by the table's entry. -/
theorem crcStep_table (r b : Nat) (hb : b < 256) : crcStep r b = bitSteps 8 ((r % 256) ^^^ b) ^^^ (r / 256) := by
  have h1 : (r ^^^ b) % 256 = (r % 256) ^^^ b := by
    have := Nat.xor_mod_two_pow (a := r) (b := b) (n := 8)
    rw [show (2 : Nat) ^ 8 = 256 from rfl, Nat.mod_eq_of_lt hb] at this
    exact this
  have h2 : (r ^^^ b) / 256 = r / 256 := by
    have := Nat.xor_div_two_pow (a := r) (b := b) (n := 8)
    rw [show (2 : Nat) ^ 8 = 256 from rfl, Nat.div_eq_of_lt hb, Nat.xor_zero] at this
    exact this
  unfold crcStep
  rw [← split_byte (r ^^^ b), bitSteps_xor, bitSteps_even, h1, h2]

/-! ### Four bytes, frames -/
/-- A number in four bytes. -/
def four (n : Nat) : List UInt8 := [UInt8.ofNat (n % 256), UInt8.ofNat (n / 256 % 256), UInt8.ofNat (n / 65536 % 256), UInt8.ofNat (n / 16777216 % 256)]
/-- The number of the four bytes at the front. -/
def num4 (l : List UInt8) : Nat := (l.getD 0 0).toNat + (l.getD 1 0).toNat * 256 + (l.getD 2 0).toNat * 65536 + (l.getD 3 0).toNat * 16777216
theorem four_len (n : Nat) : (four n).length = 4 := rfl
theorem ofNat_toNat {n : Nat} (h : n < 256) : (UInt8.ofNat n).toNat = n := by rw [UInt8.toNat_ofNat']; omega
theorem num4_four {n : Nat} (h : n < 4294967296) (l : List UInt8) : num4 (four n ++ l) = n := by
  unfold num4 four
  simp only [List.cons_append, List.nil_append, List.getD_cons_zero, List.getD_cons_succ]
  rw [ofNat_toNat (by omega), ofNat_toNat (by omega), ofNat_toNat (by omega), ofNat_toNat (by omega)]
  omega
theorem num4_lt (l : List UInt8) : num4 l < 4294967296 := by
  unfold num4
  have h0 := byte_lt (l.getD 0 0)
  have h1 := byte_lt (l.getD 1 0)
  have h2 := byte_lt (l.getD 2 0)
  have h3 := byte_lt (l.getD 3 0)
  omega

/-- A text's frame. -/
def frameOf (l : List UInt8) : List UInt8 := four l.length ++ (four (crc (four l.length ++ l)) ++ l)
theorem frameOf_len (l : List UInt8) : (frameOf l).length = l.length + 8 := by
  unfold frameOf
  simp only [List.length_append, four_len]
  omega

/-- The frame at the front: its text, its bytes, the error. -/
def firstOf (l : List UInt8) : List UInt8 × Nat × Nat :=
  if l.length < 8 then ([], 0, 4) else if 524288 < num4 l then ([], 0, 2) else if l.length - 8 < num4 l then ([], 0, 4)
  else if crc (l.take 4 ++ (l.drop 8).take (num4 l)) ≠ num4 (l.drop 4) then ([], 0, 3) else ((l.drop 8).take (num4 l), 8 + num4 l, 0)

theorem firstOf_frame (t rest : List UInt8) (h : t.length ≤ 524288) : firstOf (frameOf t ++ rest) = (t, t.length + 8, 0) := by
  have hl : (frameOf t ++ rest).length = t.length + 8 + rest.length := by rw [List.length_append, frameOf_len]
  have hn : num4 (frameOf t ++ rest) = t.length := by
    unfold frameOf
    rw [List.append_assoc]
    exact num4_four (by omega) _
  have h8 : (frameOf t ++ rest).drop 8 = t ++ rest := by
    unfold frameOf four
    simp
  have h4 : (frameOf t ++ rest).drop 4 = four (crc (four t.length ++ t)) ++ (t ++ rest) := by
    unfold frameOf
    rw [List.append_assoc, List.append_assoc, List.drop_left' (four_len _)]
  have ht4 : (frameOf t ++ rest).take 4 = four t.length := by
    unfold frameOf
    rw [List.append_assoc, List.take_left' (four_len _)]
  unfold firstOf
  rw [hl, hn, h8, h4, ht4, List.take_left' rfl, num4_four (crc_lt _), if_neg (by omega), if_neg (by omega), if_neg (by omega), if_neg (by simp)]
  congr 2
  omega

theorem firstOf_ok {l : List UInt8} (h : (firstOf l).2.2 = 0) : 8 ≤ (firstOf l).2.1 ∧ (firstOf l).2.1 ≤ l.length ∧ (firstOf l).1.length + 8 = (firstOf l).2.1 := by
  unfold firstOf at h ⊢
  split
  · simp_all
  · split
    · simp_all
    · split
      · simp_all
      · split
        · simp_all
        · refine ⟨(show 8 ≤ 8 + num4 l by omega), ?_, ?_⟩
          · show 8 + num4 l ≤ l.length
            omega
          · show ((l.drop 8).take (num4 l)).length + 8 = 8 + num4 l
            rw [List.length_take, List.length_drop]
            omega

/-- All frames from the front on (f: how many there may be at the most). -/
def allOf : Nat → List UInt8 → List (List UInt8) × Nat
  | 0, _ => ([], 0)
  | f + 1, l => if (firstOf l).2.2 ≠ 0 then ([], 0) else ((firstOf l).1 :: (allOf f (l.drop (firstOf l).2.1)).1, (firstOf l).2.1 + (allOf f (l.drop (firstOf l).2.1)).2)
end Go.Proofs.YtkdglkaeglhibaaDoor
