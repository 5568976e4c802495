/-
  What a number is as bytes, and how it is read back, as plain functions on lists of bytes; the facts on them that the walks and the laws need. No condition.
-/
import Derived.Lib.UnsafeStr
import Derived.Lib.Strings
import Derived.WalkKit
namespace Go.Proofs.Ythokbififjhflaa

/-- A number from 0 on as bytes: seven bits a byte, the low ones first, 128 on each but the last. (f: how often it may go on; n itself is always enough.) -/
def encF : Nat → Nat → List UInt8
  | 0, n => [UInt8.ofNat n]
  | f + 1, n => if n < 128 then [UInt8.ofNat n] else UInt8.ofNat (n % 128 + 128) :: encF f (n / 128)
def enc (n : Nat) : List UInt8 := encF n n

theorem encF_eq : ∀ (f g n : Nat), n ≤ f → n ≤ g → encF f n = encF g n
  | 0, 0, _ => fun _ _ => rfl
  | 0, g + 1, n => fun h _ => by
    obtain rfl : n = 0 := by omega
    simp [encF]
  | f + 1, 0, n => fun _ h => by
    obtain rfl : n = 0 := by omega
    simp [encF]
  | f + 1, g + 1, n => fun h k => by
    unfold encF
    split
    · rfl
    · rw [encF_eq f g (n / 128) (by omega) (by omega)]
theorem enc_lt {n : Nat} (h : n < 128) : enc n = [UInt8.ofNat n] := by
  unfold enc
  cases n with
  | zero => rfl
  | succ m => unfold encF; rw [if_pos h]
theorem enc_ge {n : Nat} (h : 128 ≤ n) : enc n = UInt8.ofNat (n % 128 + 128) :: enc (n / 128) := by
  unfold enc
  obtain ⟨m, rfl⟩ : ∃ m, n = m + 1 := ⟨n - 1, by omega⟩
  rw [show encF (m + 1) (m + 1) = UInt8.ofNat ((m + 1) % 128 + 128) :: encF m ((m + 1) / 128) by rw [encF, if_neg (by omega)], encF_eq m _ _ (by omega) (Nat.le_refl _)]
theorem enc_pos (n : Nat) : 1 ≤ (enc n).length := by
  by_cases h : n < 128
  · rw [enc_lt h]; simp
  · rw [enc_ge (by omega)]; simp
theorem enc_len_lt {n : Nat} (h : n < 128) : (enc n).length = 1 := by rw [enc_lt h]; rfl
theorem enc_len_ge {n : Nat} (h : 128 ≤ n) : (enc n).length = (enc (n / 128)).length + 1 := by rw [enc_ge h]; rfl
theorem enc_len_two {n : Nat} (h : 2 ≤ (enc n).length) : 128 ≤ n := by
  by_cases h' : n < 128
  · rw [enc_len_lt h'] at h; omega
  · omega
theorem enc_len_one {n : Nat} (h : (enc n).length = 1) : n < 128 := by
  by_cases h' : n < 128
  · exact h'
  · have := enc_pos (n / 128)
    rw [enc_len_ge (by omega)] at h; omega

theorem enc_len_le : ∀ (k n : Nat), n < 128 ^ (k + 1) → (enc n).length ≤ k + 1
  | 0, n, h => by rw [enc_len_lt (by simpa using h)]; omega
  | k + 1, n, h => by
    by_cases h' : n < 128
    · rw [enc_len_lt h']; omega
    · rw [enc_len_ge (by omega)]
      have := enc_len_le k (n / 128) (by rw [Nat.pow_succ] at h; exact Nat.div_lt_of_lt_mul (by rw [Nat.mul_comm]; exact h))
      omega
theorem enc_len_ten {n : Nat} (h : n < 18446744073709551616) : (enc n).length ≤ 10 := enc_len_le 9 n (by omega)

/-- A signed number laid among those from 0 on. -/
def zig (n : Int) : Nat := if n < 0 then (-2 * n - 1).toNat else (2 * n).toNat
/-- The way back. -/
def zag (n : Nat) : Int := if n % 2 = 1 then -((n / 2 : Nat) : Int) - 1 else ((n / 2 : Nat) : Int)
theorem zag_zig (n : Int) : zag (zig n) = n := by
  unfold zag zig
  split <;> split <;> omega
theorem zig_inj {n m : Int} (h : zig n = zig m) : n = m := by rw [← zag_zig n, ← zag_zig m, h]
theorem zig_neg {n : Int} (h : n < 0) : ((zig n : Nat) : Int) = 2 * -(n + 1) + 1 := by
  unfold zig; rw [if_pos h]; omega
theorem zig_pos {n : Int} (h : 0 ≤ n) : ((zig n : Nat) : Int) = 2 * n := by
  unfold zig; rw [if_neg (by omega)]; omega
theorem zag_odd {n : Nat} (h : n % 2 = 1) : zag n = -((n : Int) / 2) - 1 := by
  unfold zag; rw [if_pos h]; omega
theorem zag_even {n : Nat} (h : ¬ n % 2 = 1) : zag n = (n : Int) / 2 := by
  unfold zag; rw [if_neg h]; omega
theorem zig_bound {n : Int} (h1 : -9223372036854775808 ≤ n) (h2 : n ≤ 9223372036854775807) : zig n < 18446744073709551616 := by
  unfold zig
  split <;> omega

/-- The number at the front of a row of bytes, k bytes of which were read and gave X: its value and how many bytes it has in all; (0, 0) if there is none. -/
def num (X k : Nat) : List UInt8 → Nat × Nat
  | [] => (0, 0)
  | c :: r => if k = 9 ∧ 1 < c.toNat then (0, 0) else if 128 ≤ c.toNat then num (X + c.toNat % 128 * 2 ^ (7 * k)) (k + 1) r else if c.toNat = 0 ∧ 0 < k then (0, 0) else (X + c.toNat % 128 * 2 ^ (7 * k), k + 1)

theorem num_le : ∀ (l : List UInt8) (X k : Nat), (num X k l).2 = 0 ∨ (k < (num X k l).2 ∧ (num X k l).2 ≤ k + l.length)
  | [], _, _ => Or.inl rfl
  | c :: r, X, k => by
    unfold num
    split
    · exact Or.inl rfl
    · split
      · rcases num_le r (X + c.toNat % 128 * 2 ^ (7 * k)) (k + 1) with h | h
        · exact Or.inl h
        · right; simp only [List.length_cons]; omega
      · split
        · exact Or.inl rfl
        · right; simp only [List.length_cons]; omega

theorem num_zero : ∀ (l : List UInt8) (X k : Nat), (num X k l).2 = 0 → (num X k l).1 = 0
  | [], _, _ => fun _ => rfl
  | c :: r, X, k => by
    unfold num
    split
    · exact fun _ => rfl
    · split
      · exact num_zero r _ _
      · split
        · exact fun _ => rfl
        · intro h; simp at h

theorem pow7 (k : Nat) : 2 ^ (7 * (k + 1)) = 128 * 2 ^ (7 * k) := by
  rw [Nat.mul_add, Nat.pow_add, Nat.mul_comm]

theorem num_lt : ∀ (l : List UInt8) (X k : Nat), k ≤ 9 → X < 2 ^ (7 * k) → (num X k l).1 < 18446744073709551616
  | [], _, _ => fun _ _ => by simp [num]
  | c :: r, X, k => fun hk hX => by
    have hc : c.toNat % 128 < 128 := Nat.mod_lt _ (by omega)
    have hm : c.toNat % 128 * 2 ^ (7 * k) ≤ 127 * 2 ^ (7 * k) := Nat.mul_le_mul_right _ (by omega)
    unfold num
    split
    · simp
    · rename_i h9
      split
      · rename_i h128
        have hk9 : k ≠ 9 := fun h => h9 ⟨h, by omega⟩
        exact num_lt r _ _ (by omega) (by rw [pow7]; omega)
      · split
        · simp
        · by_cases hk9 : k = 9
          · subst hk9
            have hc1 : c.toNat ≤ 1 := by
              rcases Nat.lt_or_ge 1 c.toNat with h | h
              · exact absurd ⟨rfl, h⟩ h9
              · exact h
            have : c.toNat % 128 * 2 ^ (7 * 9) ≤ 1 * 2 ^ (7 * 9) := Nat.mul_le_mul_right _ (by omega)
            show X + c.toNat % 128 * 2 ^ (7 * 9) < _
            simp only [Nat.reduceMul, Nat.reducePow] at this hX ⊢
            omega
          · have hp : 128 * 2 ^ (7 * k) ≤ 2 ^ 63 := by
              rw [← pow7]
              exact Nat.pow_le_pow_right (by omega) (by omega)
            show X + c.toNat % 128 * 2 ^ (7 * k) < _
            simp only [Nat.reducePow] at hp
            omega

theorem byte_ofNat {n : Nat} (h : n < 256) : (UInt8.ofNat n).toNat = n := by
  rw [UInt8.toNat_ofNat']
  omega

theorem num_enc (rest : List UInt8) : ∀ (f n : Nat), n ≤ f → ∀ (k X : Nat), n * 2 ^ (7 * k) < 18446744073709551616 → k ≤ 9 → (k = 0 ∨ n ≠ 0) →
    num X k (enc n ++ rest) = (X + n * 2 ^ (7 * k), k + (enc n).length)
  | f, n, hf, k, X, hb, hk, h0 => by
    by_cases h : n < 128
    · rw [enc_lt h]
      have hb9 : k = 9 → n ≤ 1 := fun h9 => by
        subst h9
        simp only [Nat.reduceMul, Nat.reducePow] at hb
        omega
      simp only [List.cons_append, List.nil_append, num, byte_ofNat (show n < 256 by omega), List.length_cons, List.length_nil]
      rw [if_neg (by intro hh; have := hb9 hh.1; omega), if_neg (by omega), if_neg (by omega), Nat.mod_eq_of_lt h]
    · rw [enc_ge (by omega)]
      simp only [List.cons_append, num, byte_ofNat (show n % 128 + 128 < 256 by omega), List.length_cons]
      have hk9 : k ≠ 9 := fun h9 => by
        subst h9
        simp only [Nat.reduceMul, Nat.reducePow] at hb
        omega
      rw [if_neg (by omega), if_pos (by omega)]
      match f, hf with
      | 0, hf => omega
      | f + 1, hf =>
        have e1 : (n % 128 + 128) % 128 = n % 128 := by omega
        have e2 : n / 128 * 2 ^ (7 * (k + 1)) = (128 * (n / 128)) * 2 ^ (7 * k) := by rw [pow7, ← Nat.mul_assoc, Nat.mul_comm (n / 128) 128]
        have e3 : n % 128 * 2 ^ (7 * k) + (128 * (n / 128)) * 2 ^ (7 * k) = n * 2 ^ (7 * k) := by rw [← Nat.add_mul]; congr 1; omega
        rw [e1, num_enc rest f (n / 128) (by omega) (k + 1) _ (by rw [e2]; omega) (by omega) (Or.inr (by omega)), e2, Nat.add_assoc, e3]
        congr 1
        omega

theorem num_enc0 (n : Nat) (h : n < 18446744073709551616) (rest : List UInt8) : num 0 0 (enc n ++ rest) = (n, (enc n).length) := by
  have := num_enc rest n n (Nat.le_refl _) 0 0 (by simpa using h) (by omega) (Or.inl rfl)
  simpa using this

theorem nat_or128 : ∀ a, a < 128 → a ||| 128 = a + 128 := by decide
theorem or128 {a : Int} (h0 : 0 ≤ a) (h1 : a < 128) : bits .or .u8 a 128 = a + 128 := by
  rw [u8_or a 128 h0 (by omega) (by omega) (by omega), show (128 : Int).toNat = 128 from rfl, nat_or128 a.toNat (by omega)]
  omega

/-- Two rows of bytes of which one begins the other are of one number. -/
theorem enc_prefix {n m : Nat} (hn : n < 18446744073709551616) (hm : m < 18446744073709551616) {k : Nat} (hk : k = min (enc n).length (enc m).length) (h : (enc n).take k = (enc m).take k) : n = m := by
  have h1 := num_enc0 n hn []
  have h2 := num_enc0 m hm []
  simp only [List.append_nil] at h1 h2
  rcases Nat.le_total (enc n).length (enc m).length with hl | hl
  · have hk' : k = (enc n).length := by omega
    have e : enc m = enc n ++ (enc m).drop k := by
      have := List.take_append_drop k (enc m)
      rw [← h, hk', List.take_of_length_le (Nat.le_refl _), ← hk'] at this
      exact this.symm
    rw [e, num_enc0 n hn] at h2
    exact (Prod.mk.inj h2).1
  · have hk' : k = (enc m).length := by omega
    have e : enc n = enc m ++ (enc n).drop k := by
      have := List.take_append_drop k (enc n)
      rw [h, hk', List.take_of_length_le (Nat.le_refl _), ← hk'] at this
      exact this.symm
    rw [e, num_enc0 m hm] at h1
    exact (Prod.mk.inj h1).1.symm

end Go.Proofs.Ythokbififjhflaa
