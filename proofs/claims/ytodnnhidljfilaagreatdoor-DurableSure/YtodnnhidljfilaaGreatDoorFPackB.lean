/-
  Parts of the proof, laid together: Plain, Writer, Reader, CRef, CRefText, CPair, CRp. The conditions stand at each part.
-/
import Derived.Lib.UnsafeStr
import Derived.Lib.Strings
import Derived.WalkKit
import Derived.WalkSpells
import Derived.Deep.AppendLies
import Derived.Lib.AppendStr
import Derived.Lib.BufferRead
import Derived.Handy
import Derived.Lib.IndexBytes
import Derived.Lib.BufferWrite
import Derived.Laws.MakeOwn
import Derived.Test.YtodnnhidljfilaaGreatDoorRows
/-
  What a number is as bytes, and how it is read back, as plain functions on lists of bytes; the facts on them that the walks and the laws need. No condition.
-/
namespace Go.Proofs.YtodnnhidljfilaaGreatDoor

/-- A number from 0 on as bytes: seven bits a byte, the low ones first, 128 on each but the last. (f: how often it may go on; n itself is always enough.) -/
def encF : Nat → Nat → List UInt8
  | 0, n => [UInt8.ofNat n]
  | f + 1, n => if n < 128 then [UInt8.ofNat n] else UInt8.ofNat (n % 128 + 128) :: encF f (n / 128)
def enc (n : Nat) : List UInt8 := encF n n

theorem encF_eq : ∀ (f g n : Nat), n ≤ f → n ≤ g → encF f n = encF g n
  | 0, 0, _ => fun _ _ => rfl
  | 0, g + 1, n => fun h _ => by
    obtain rfl : n = 0 := by omega
    simp [encF]
  | f + 1, 0, n => fun _ h => by
    obtain rfl : n = 0 := by omega
    simp [encF]
  | f + 1, g + 1, n => fun h k => by
    unfold encF
    split
    · rfl
    · rw [encF_eq f g (n / 128) (by omega) (by omega)]
theorem enc_lt {n : Nat} (h : n < 128) : enc n = [UInt8.ofNat n] := by
  unfold enc
  cases n with
  | zero => rfl
  | succ m => unfold encF; rw [if_pos h]
theorem enc_ge {n : Nat} (h : 128 ≤ n) : enc n = UInt8.ofNat (n % 128 + 128) :: enc (n / 128) := by
  unfold enc
  obtain ⟨m, rfl⟩ : ∃ m, n = m + 1 := ⟨n - 1, by omega⟩
  rw [show encF (m + 1) (m + 1) = UInt8.ofNat ((m + 1) % 128 + 128) :: encF m ((m + 1) / 128) by rw [encF, if_neg (by omega)], encF_eq m _ _ (by omega) (Nat.le_refl _)]
theorem enc_pos (n : Nat) : 1 ≤ (enc n).length := by
  by_cases h : n < 128
  · rw [enc_lt h]; simp
  · rw [enc_ge (by omega)]; simp
theorem enc_len_lt {n : Nat} (h : n < 128) : (enc n).length = 1 := by rw [enc_lt h]; rfl
theorem enc_len_ge {n : Nat} (h : 128 ≤ n) : (enc n).length = (enc (n / 128)).length + 1 := by rw [enc_ge h]; rfl
theorem enc_len_two {n : Nat} (h : 2 ≤ (enc n).length) : 128 ≤ n := by
  by_cases h' : n < 128
  · rw [enc_len_lt h'] at h; omega
  · omega
theorem enc_len_one {n : Nat} (h : (enc n).length = 1) : n < 128 := by
  by_cases h' : n < 128
  · exact h'
  · have := enc_pos (n / 128)
    rw [enc_len_ge (by omega)] at h; omega

theorem enc_len_le : ∀ (k n : Nat), n < 128 ^ (k + 1) → (enc n).length ≤ k + 1
  | 0, n, h => by rw [enc_len_lt (by simpa using h)]; omega
  | k + 1, n, h => by
    by_cases h' : n < 128
    · rw [enc_len_lt h']; omega
    · rw [enc_len_ge (by omega)]
      have := enc_len_le k (n / 128) (by rw [Nat.pow_succ] at h; exact Nat.div_lt_of_lt_mul (by rw [Nat.mul_comm]; exact h))
      omega
theorem enc_len_ten {n : Nat} (h : n < 18446744073709551616) : (enc n).length ≤ 10 := enc_len_le 9 n (by omega)

/-- A signed number laid among those from 0 on. -/
def zig (n : Int) : Nat := if n < 0 then (-2 * n - 1).toNat else (2 * n).toNat
/-- The way back. -/
def zag (n : Nat) : Int := if n % 2 = 1 then -((n / 2 : Nat) : Int) - 1 else ((n / 2 : Nat) : Int)
theorem zag_zig (n : Int) : zag (zig n) = n := by
  unfold zag zig
  split <;> split <;> omega
theorem zig_neg {n : Int} (h : n < 0) : ((zig n : Nat) : Int) = 2 * -(n + 1) + 1 := by
  unfold zig; rw [if_pos h]; omega
theorem zig_pos {n : Int} (h : 0 ≤ n) : ((zig n : Nat) : Int) = 2 * n := by
  unfold zig; rw [if_neg (by omega)]; omega
theorem zag_odd {n : Nat} (h : n % 2 = 1) : zag n = -((n : Int) / 2) - 1 := by
  unfold zag; rw [if_pos h]; omega
theorem zag_even {n : Nat} (h : ¬ n % 2 = 1) : zag n = (n : Int) / 2 := by
  unfold zag; rw [if_neg h]; omega
theorem zig_bound {n : Int} (h1 : -9223372036854775808 ≤ n) (h2 : n ≤ 9223372036854775807) : zig n < 18446744073709551616 := by
  unfold zig
  split <;> omega

/-- The number at the front of a row of bytes, k bytes of which were read and gave X: its value and how many bytes it has in all; (0, 0) if there is none. -/
def num (X k : Nat) : List UInt8 → Nat × Nat
  | [] => (0, 0)
  | c :: r => if k = 9 ∧ 1 < c.toNat then (0, 0) else if 128 ≤ c.toNat then num (X + c.toNat % 128 * 2 ^ (7 * k)) (k + 1) r else if c.toNat = 0 ∧ 0 < k then (0, 0) else (X + c.toNat % 128 * 2 ^ (7 * k), k + 1)

theorem num_le : ∀ (l : List UInt8) (X k : Nat), (num X k l).2 = 0 ∨ (k < (num X k l).2 ∧ (num X k l).2 ≤ k + l.length)
  | [], _, _ => Or.inl rfl
  | c :: r, X, k => by
    unfold num
    split
    · exact Or.inl rfl
    · split
      · rcases num_le r (X + c.toNat % 128 * 2 ^ (7 * k)) (k + 1) with h | h
        · exact Or.inl h
        · right; simp only [List.length_cons]; omega
      · split
        · exact Or.inl rfl
        · right; simp only [List.length_cons]; omega

theorem pow7 (k : Nat) : 2 ^ (7 * (k + 1)) = 128 * 2 ^ (7 * k) := by
  rw [Nat.mul_add, Nat.pow_add, Nat.mul_comm]

theorem num_lt : ∀ (l : List UInt8) (X k : Nat), k ≤ 9 → X < 2 ^ (7 * k) → (num X k l).1 < 18446744073709551616
  | [], _, _ => fun _ _ => by simp [num]
  | c :: r, X, k => fun hk hX => by
    have hc : c.toNat % 128 < 128 := Nat.mod_lt _ (by omega)
    have hm : c.toNat % 128 * 2 ^ (7 * k) ≤ 127 * 2 ^ (7 * k) := Nat.mul_le_mul_right _ (by omega)
    unfold num
    split
    · simp
    · rename_i h9
      split
      · rename_i h128
        have hk9 : k ≠ 9 := fun h => h9 ⟨h, by omega⟩
        exact num_lt r _ _ (by omega) (by rw [pow7]; omega)
      · split
        · simp
        · by_cases hk9 : k = 9
          · subst hk9
            have hc1 : c.toNat ≤ 1 := by
              rcases Nat.lt_or_ge 1 c.toNat with h | h
              · exact absurd ⟨rfl, h⟩ h9
              · exact h
            have : c.toNat % 128 * 2 ^ (7 * 9) ≤ 1 * 2 ^ (7 * 9) := Nat.mul_le_mul_right _ (by omega)
            show X + c.toNat % 128 * 2 ^ (7 * 9) < _
            simp only [Nat.reduceMul, Nat.reducePow] at this hX ⊢
            omega
          · have hp : 128 * 2 ^ (7 * k) ≤ 2 ^ 63 := by
              rw [← pow7]
              exact Nat.pow_le_pow_right (by omega) (by omega)
            show X + c.toNat % 128 * 2 ^ (7 * k) < _
            simp only [Nat.reducePow] at hp
            omega

theorem byte_ofNat {n : Nat} (h : n < 256) : (UInt8.ofNat n).toNat = n := by
  rw [UInt8.toNat_ofNat']
  omega

theorem num_enc (rest : List UInt8) : ∀ (f n : Nat), n ≤ f → ∀ (k X : Nat), n * 2 ^ (7 * k) < 18446744073709551616 → k ≤ 9 → (k = 0 ∨ n ≠ 0) →
    num X k (enc n ++ rest) = (X + n * 2 ^ (7 * k), k + (enc n).length)
  | f, n, hf, k, X, hb, hk, h0 => by
    by_cases h : n < 128
    · rw [enc_lt h]
      have hb9 : k = 9 → n ≤ 1 := fun h9 => by
        subst h9
        simp only [Nat.reduceMul, Nat.reducePow] at hb
        omega
      simp only [List.cons_append, List.nil_append, num, byte_ofNat (show n < 256 by omega), List.length_cons, List.length_nil]
      rw [if_neg (by intro hh; have := hb9 hh.1; omega), if_neg (by omega), if_neg (by omega), Nat.mod_eq_of_lt h]
    · rw [enc_ge (by omega)]
      simp only [List.cons_append, num, byte_ofNat (show n % 128 + 128 < 256 by omega), List.length_cons]
      have hk9 : k ≠ 9 := fun h9 => by
        subst h9
        simp only [Nat.reduceMul, Nat.reducePow] at hb
        omega
      rw [if_neg (by omega), if_pos (by omega)]
      match f, hf with
      | 0, hf => omega
      | f + 1, hf =>
        have e1 : (n % 128 + 128) % 128 = n % 128 := by omega
        have e2 : n / 128 * 2 ^ (7 * (k + 1)) = (128 * (n / 128)) * 2 ^ (7 * k) := by rw [pow7, ← Nat.mul_assoc, Nat.mul_comm (n / 128) 128]
        have e3 : n % 128 * 2 ^ (7 * k) + (128 * (n / 128)) * 2 ^ (7 * k) = n * 2 ^ (7 * k) := by rw [← Nat.add_mul]; congr 1; omega
        rw [e1, num_enc rest f (n / 128) (by omega) (k + 1) _ (by rw [e2]; omega) (by omega) (Or.inr (by omega)), e2, Nat.add_assoc, e3]
        congr 1
        omega

theorem num_enc0 (n : Nat) (h : n < 18446744073709551616) (rest : List UInt8) : num 0 0 (enc n ++ rest) = (n, (enc n).length) := by
  have := num_enc rest n n (Nat.le_refl _) 0 0 (by simpa using h) (by omega) (Or.inl rfl)
  simpa using this

theorem nat_or128 : ∀ a, a < 128 → a ||| 128 = a + 128 := by decide
theorem or128 {a : Int} (h0 : 0 ≤ a) (h1 : a < 128) : bits .or .u8 a 128 = a + 128 := by
  rw [u8_or a 128 h0 (by omega) (by omega) (by omega), show (128 : Int).toNat = 128 from rfl, nat_or128 a.toNat (by omega)]
  omega

end Go.Proofs.YtodnnhidljfilaaGreatDoor
/-
  The contracts of the writer (package codec: New, Int, U64, Text, String): what a writer holds behind each call, for every number and every text, and what has not turned. The condition: what was written and what is to be written take no more bytes than a slice may.
-/
namespace Go.Proofs.YtodnnhidljfilaaGreatDoor
open Go.RowKit

theorem Tryz.info5 : (Tryz.prog.info? 5).map (fun i => (i.zero, i.size, i.bytes)) = some (some (.int .u8 0), 1, 1) := by kernel_rfl

set_option maxRecDepth 100000 in
theorem fold_any (n : Int) (h1 : -9223372036854775808 ≤ n) (h2 : n ≤ 9223372036854775807) (w : World) :
    Calls Tryz.prog 163 #[.int .i64 n] w fun e w' => e = .returned (.int .u64 (zig n)) ∧ w = w' := by
  by_cases h : n < 0
  · go_enter Tryz.func163, Tryz.ntmps163
    go_wp2
    go_ret
    exact ⟨by rw [zig_neg h]; rfl, rfl⟩
  · go_enter Tryz.func163, Tryz.ntmps163
    go_wp2
    go_ret
    exact ⟨by rw [zig_pos h]; rfl, rfl⟩

set_option maxRecDepth 100000 in
theorem new_any (w : World) :
    Calls Tryz.prog 126 #[] w fun e w' => e = .returned (.pointer (some ⟨w.heap.size, 0, none⟩)) ∧ w.alloc (.cells #[.slice none 0 0] 227) = w' := by
  go_enter Tryz.func126, Tryz.ntmps126
  go_wp2
  go_ret
  exact ⟨rfl, rfl⟩

set_option maxRecDepth 100000 in
theorem unfold_any (n : Nat) (h2 : n < 18446744073709551616) (w : World) :
    Calls Tryz.prog 183 #[.int .u64 n] w fun e w' => e = .returned (.int .i64 (zag n)) ∧ w = w' := by
  by_cases h : n % 2 = 1
  · have hm : (n : Int) % 2 = 1 := by omega
    go_enter Tryz.func183, Tryz.ntmps183
    go_wp2
    go_ret
    exact ⟨by rw [zag_odd h]; rfl, rfl⟩
  · have hm : (n : Int) % 2 = 0 := by omega
    go_enter Tryz.func183, Tryz.ntmps183
    go_wp2
    go_ret
    exact ⟨by rw [zag_even h]; rfl, rfl⟩

set_option maxRecDepth 100000 in
theorem digits_any (n : Nat) (h2 : n < 18446744073709551616) (w : World) :
    Calls Tryz.prog 197 #[.int .u64 n] w fun e w' => e = .returned (.int .i64 ((enc n).length : Nat)) ∧ w = w' := by
  go_enter Tryz.func197, Tryz.ntmps197
  go_wp2
  go_loop [0, 3, 4] (fun x _ i => ∃ (k m : Nat), k ≤ 9 ∧ i = .int .i64 k ∧ x = .int .u64 m ∧ m = n / 128 ^ k ∧ (enc m).length + k = (enc n).length) (fun _ _ i => 9 - (intOf i).toNat)
  case atStart => exact ⟨0, n, by omega, rfl, rfl, by simp, rfl⟩
  case round =>
    obtain ⟨k, m, hk, rfl, rfl, hm, hl⟩ := hrel
    have hmb : m < 18446744073709551616 := by rw [hm]; exact Nat.lt_of_le_of_lt (Nat.div_le_self _ _) h2
    have HM : Hid (m = n / 128 ^ k) := hm
    have HL : Hid ((enc m).length + k = (enc n).length) := hl
    clear hm hl
    go_wp2
    · have hlt : (m : Int) < 128 := by assumption
      have hL := HL.out
      rw [enc_len_lt (by omega)] at hL
      go_ret
      exact ⟨by rw [← hL, Nat.add_comm]; rfl, rfl⟩
    · have hge : (128 : Int) ≤ (m : Int) := by assumption
      have hk9 : (k : Int) < 9 := by assumption
      go_round
      case rel => exact ⟨k + 1, m / 128, by omega, by go_num, by go_num, by rw [HM.out, Nat.div_div_eq_div_mul, Nat.pow_succ], by have := HL.out; rw [enc_len_ge (by omega)] at this; omega⟩
      case measure => simp [intOf]; omega
    · have hk9 : (9 : Int) ≤ (k : Int) := by assumption
      have hk : k = 9 := by omega
      have hL := HL.out
      have hM := HM.out
      subst hk
      have hm2 : m < 2 := by rw [hM]; exact Nat.div_lt_of_lt_mul (by simpa using h2)
      rw [enc_len_lt (by omega)] at hL
      go_ret
      exact ⟨by rw [← hL]; rfl, rfl⟩

/-- A writer at block B, its field v, and the bytes that were written. -/
def Wr (base : Nat) (w : World) (B : Nat) (v : Value) (bs : List UInt8) : Prop :=
  base ≤ B ∧ w.heap[B]? = some (.cells #[v] 227 (0, 0)) ∧ w.ownsRow base 5 1 v bs.length (Lib.byteCells bs)

/-- Nothing has turned but block B, v's own row, and what is new. -/
structure Keep2 (B : Nat) (v : Value) (w w' : World) : Prop where
  os : w'.os = w.os
  tape : w'.tape = w.tape
  output : w'.output = w.output
  size : w.heap.size ≤ w'.heap.size
  block : ∀ k, k < w.heap.size → k ≠ B → v.ownBlock ≠ some k → w'.heap[k]? = w.heap[k]?

/-- Where the row lies: where it lay, or in a new block. -/
def After (w : World) (v v' : Value) : Prop := v'.ownBlock = v.ownBlock ∨ ∃ g, v'.ownBlock = some g ∧ w.heap.size ≤ g

theorem Keep2.refl (B : Nat) (v : Value) (w : World) : Keep2 B v w w := ⟨rfl, rfl, rfl, Nat.le_refl _, fun _ _ _ _ => rfl⟩
theorem Keep2.trans {B : Nat} {v v1 : Value} {w w1 w2 : World} (h : Keep2 B v w w1) (ha : After w v v1) (k : Keep2 B v1 w1 w2) : Keep2 B v w w2 :=
  ⟨k.os.trans h.os, k.tape.trans h.tape, k.output.trans h.output, Nat.le_trans h.size k.size, fun i hi hB hv => by
    have hs := h.size
    refine (k.block i (by omega) hB ?_).trans (h.block i hi hB hv)
    rcases ha with ha | ⟨g, ha, hg⟩
    · rw [ha]; exact hv
    · rw [ha]; intro e; have := Option.some.inj e; omega⟩
theorem After.refl (w : World) (v : Value) : After w v v := Or.inl rfl
theorem After.trans {w w1 : World} {v v1 v2 : Value} (h : After w v v1) (hs : w.heap.size ≤ w1.heap.size) (k : After w1 v1 v2) : After w v v2 := by
  rcases k with k | ⟨g, k, hg⟩
  · rcases h with h | ⟨g, h, hg⟩
    · exact Or.inl (k.trans h)
    · exact Or.inr ⟨g, k.trans h, hg⟩
  · exact Or.inr ⟨g, k, by omega⟩
theorem Keep2.below {base B : Nat} {v : Value} {w w' : World} (h : Keep2 B v w w') (hs : base ≤ w.heap.size) (hB : base ≤ B) (hv : ∀ k, v.ownBlock = some k → base ≤ k) : Below base w w' :=
  ⟨h.os, h.tape, h.output, h.size, fun k hk => h.block k (by omega) (by omega) (fun e => by have := hv k e; omega)⟩

theorem Wr.ne {base B : Nat} {w : World} {v : Value} {bs : List UInt8} (h : Wr base w B v bs) : v.ownBlock ≠ some B := by
  obtain ⟨_, hb, hown⟩ := h
  rcases hown.2 with ⟨rfl, _⟩ | ⟨g, cap, cur, rfl, _, hg, _⟩
  · simp [Value.ownBlock]
  · intro e
    simp [Value.ownBlock] at e
    subst e
    rw [hb] at hg
    simp at hg
theorem Wr.lt {base B : Nat} {w : World} {v : Value} {bs : List UInt8} (h : Wr base w B v bs) : B < w.heap.size := lt_of_block h.2.1
theorem Wr.cell {base B : Nat} {w : World} {v : Value} {bs : List UInt8} (h : Wr base w B v bs) : w.cell? ⟨B, 0, none⟩ = some v := cell_of_one h.2.1

theorem byteCells_push (bs : List UInt8) (b : UInt8) : Lib.byteCells bs ++ [.int .u8 b.toNat] = Lib.byteCells (bs ++ [b]) := by simp [Lib.byteCells]

theorem Wr.field {base B : Nat} {w w1 : World} {v : Value} {bs : List UInt8} (h : Wr base w B v bs) {o : Obj} (hgrow : (w.alloc o).grownBy w1 v.ownBlock) : w1.heap[B]? = some (.cells #[v] 227 (0, 0)) := by
  have hl := h.lt
  rw [hgrow.block B (by simp; omega) (fun e => h.ne e.symm), Below.heap_alloc w o B hl]
  exact h.2.1

theorem Wr.push {base B : Nat} {w w1 : World} {v : Value} {bs : List UInt8} (h : Wr base w B v bs) {o : Obj} {g cap : Nat} (hgrow : (w.alloc o).grownBy w1 v.ownBlock) (b : UInt8)
    (hown : w1.ownsRow base 5 1 (.slice (some ⟨g, 0, none⟩) (bs.length + 1) cap) (bs.length + 1) (Lib.byteCells bs ++ [.int .u8 b.toNat])) (hat : v.ownBlock = some g ∨ g = w.heap.size + 1) :
    Wr base (w1.setCell ⟨B, 0, none⟩ (.slice (some ⟨g, 0, none⟩) (bs.length + 1) cap)) B (.slice (some ⟨g, 0, none⟩) (bs.length + 1) cap) (bs ++ [b]) ∧
      Keep2 B v w (w1.setCell ⟨B, 0, none⟩ (.slice (some ⟨g, 0, none⟩) (bs.length + 1) cap)) ∧ After w v (.slice (some ⟨g, 0, none⟩) (bs.length + 1) cap) := by
  have hl := h.lt
  have hf := h.field hgrow
  have hne := h.ne
  have hgB : g ≠ B := fun e => by
    rcases hat with h' | h'
    · exact hne (by rw [h', e])
    · omega
  refine ⟨⟨h.1, one_setCell hf, ?_⟩, ⟨hgrow.os, hgrow.tape, hgrow.output, ?_, fun k hk hkB hkv => ?_⟩, ?_⟩
  · have := ownsRow_setCell_other hown (a := ⟨B, 0, none⟩) (by simpa [Value.ownBlock] using hgB) (.slice (some ⟨g, 0, none⟩) (bs.length + 1) cap)
    rw [byteCells_push] at this
    simpa using this
  · have := hgrow.size
    simp [World.setCell] at this ⊢
    omega
  · rw [Below.heap_setCell _ _ _ _ hkB, hgrow.block k (by simp; omega) (fun e => hkv e.symm), Below.heap_alloc w o k hk]
  · rcases hat with h' | h'
    · exact Or.inl (by rw [h']; rfl)
    · exact Or.inr ⟨g, rfl, by omega⟩

set_option maxHeartbeats 800000 in
set_option maxRecDepth 100000 in
theorem wu64_any (base B : Nat) (v : Value) (bs : List UInt8) (n : Nat) (h2 : n < 18446744073709551616) (w : World) (h : Wr base w B v bs) (hb : bs.length + 10 ≤ 140737488355328) :
    Calls Tryz.prog 162 #[.pointer (some ⟨B, 0, none⟩), .int .u64 n] w fun e w' => e = .returned (.tuple #[]) ∧ ∃ v', Wr base w' B v' (bs ++ enc n) ∧ Keep2 B v w w' ∧ After w v v' := by
  obtain ⟨i0, hi, hz0, hz1, hz2⟩ := info_parts Tryz.info5
  have hp := enc_pos n
  have ht := enc_len_ten h2
  obtain ⟨D, hD⟩ : ∃ D, D = (enc n).length := ⟨_, rfl⟩
  have hdig : ∀ w, Calls Tryz.prog 197 #[.int .u64 n] w fun e w' => e = .returned (.int .i64 (D : Nat)) ∧ w = w' := by rw [hD]; exact digits_any n h2
  have HD : Hid (D = (enc n).length) := hD
  have hD1 : 1 ≤ D := by omega
  have hD10 : D ≤ 10 := by omega
  clear hD hp ht
  go_enter Tryz.func162, Tryz.ntmps162
  go_wp2_with (go_at_call 197; refine (hdig _).mono ?_; rintro e w' ⟨rfl, rfl⟩)
  go_loopw [1, 9] (fun x i wr => ∃ (k m : Nat) (v1 : Value) (bs1 : List UInt8), k + (enc m).length = D ∧ i = .int .i64 k ∧ x = .int .u64 m ∧ m < 18446744073709551616 ∧ Wr base wr B v1 bs1 ∧ Keep2 B v w wr ∧ After w v v1 ∧ bs1 ++ enc m = bs ++ enc n) (fun _ i _ => D - (intOf i).toNat)
  case atStart => exact ⟨0, n, v, bs, by rw [HD.out, Nat.zero_add], rfl, rfl, h2, h, Keep2.refl _ _ _, After.refl _ _, rfl⟩
  case round =>
    obtain ⟨k, m, v1, bs1, hkD, rfl, rfl, hm, hw1, hk2, haf, hbs⟩ := hrel
    have hpm := enc_pos m
    have hbl : bs1.length + (enc m).length = bs.length + D := by rw [HD.out, ← List.length_append, hbs, List.length_append]
    have hbb : bs1.length + 1 ≤ 140737488355328 := by omega
    have hcell := hw1.cell
    have hfr := free_of_one hw1.2.1
    have hor := or128 (a := (m : Int) % 128) (by omega) (by omega)
    have hlt := hw1.lt
    by_cases hk : k + 1 < D
    · have hm128 : 128 ≤ m := enc_len_two (by omega)
      have HK : Hid (k + (enc m).length = D) := hkD
      have HB : Hid (bs1 ++ enc m = bs ++ enc n) := hbs
      have HL : Hid (bs1.length + (enc m).length = bs.length + D) := hbl
      clear hkD hbs hbl hpm
      go_wp2_with (at_builtin; refine wpList_append_lies _ rfl (.tmp 15) (.tmp 20) 101 rfl base 5 i0 (.int .u8 0) 1 1 Tryz.underlying101 hi hz0 hz1 hz2 rfl (by decide) v1 bs1.length _ rfl (hw1.2.2.alloc _) ⟨wr.heap.size, 0, none⟩ 1 1 [.int .u8 ((m : Int) % 128 + 128)] rfl rfl ?c1 ?c2 (by decide) (by unfold maxLen; omega) (by omega) (by have := hw1.1; simp; omega) (wr.heap.size + 1) (by simp) ?_)
      case c1 =>
        intro j u hj
        match j, hj with
        | 0, hj => simp at hj; subst hj; simp [Addr.add]
      case c2 => intro u hu; simp at hu; subst hu; rfl
      intro g cap w1 hown hgrow hat _
      have hfield := hw1.field hgrow
      have hc1 := cell_of_one hfield
      have hf1 := free_of_one hfield
      have eb : ((UInt8.ofNat (m % 128 + 128)).toNat : Int) = (m : Int) % 128 + 128 := by rw [byte_ofNat (by omega)]; omega
      rw [← eb] at hown
      have R := hw1.push hgrow (UInt8.ofNat (m % 128 + 128)) hown hat
      clear hown hgrow hat hfield eb
      go_wp2
      go_roundw
      case rel =>
        have hk' := HK.out
        have hb' := HB.out
        rw [enc_ge hm128] at hk' hb'
        simp only [List.length_cons] at hk'
        exact ⟨k + 1, m / 128, _, _, by omega, by go_num, by go_num, by omega, R.1, hk2.trans haf R.2.1, haf.trans hk2.size R.2.2, by rw [List.append_assoc]; exact hb'⟩
      case measure => simp [intOf]; omega
    · have hk' : k + 1 = D := by omega
      have hm128 : m < 128 := enc_len_one (by omega)
      have HB : Hid (bs1 ++ enc m = bs ++ enc n) := hbs
      clear hkD hbs hbl hpm
      go_wp2_with (at_builtin; refine wpList_append_lies _ rfl (.tmp 31) (.tmp 34) 101 rfl base 5 i0 (.int .u8 0) 1 1 Tryz.underlying101 hi hz0 hz1 hz2 rfl (by decide) v1 bs1.length _ rfl (hw1.2.2.alloc _) ⟨wr.heap.size, 0, none⟩ 1 1 [.int .u8 (m : Int)] rfl rfl ?d1 ?d2 (by decide) (by unfold maxLen; omega) (by omega) (by have := hw1.1; simp; omega) (wr.heap.size + 1) (by simp) ?_)
      case d1 =>
        intro j u hj
        match j, hj with
        | 0, hj => simp at hj; subst hj; simp [Addr.add]
      case d2 => intro u hu; simp at hu; subst hu; rfl
      intro g cap w1 hown hgrow hat _
      have hfield := hw1.field hgrow
      have hc1 := cell_of_one hfield
      have hf1 := free_of_one hfield
      have eb : ((UInt8.ofNat m).toNat : Int) = (m : Int) := by rw [byte_ofNat (by omega)]
      rw [← eb] at hown
      have R := hw1.push hgrow (UInt8.ofNat m) hown hat
      clear hown hgrow hat hfield eb
      go_wp2
      go_end0
      have hb' := HB.out
      rw [enc_lt hm128] at hb'
      exact ⟨rfl, _, by rw [← hb']; exact R.1, hk2.trans haf R.2.1, haf.trans hk2.size R.2.2⟩

set_option maxRecDepth 100000 in
theorem wint_any (base B : Nat) (v : Value) (bs : List UInt8) (n : Int) (h1 : -9223372036854775808 ≤ n) (h2 : n ≤ 9223372036854775807) (w : World) (h : Wr base w B v bs) (hb : bs.length + 10 ≤ 140737488355328) :
    Calls Tryz.prog 127 #[.pointer (some ⟨B, 0, none⟩), .int .i64 n] w fun e w' => e = .returned (.tuple #[]) ∧ ∃ v', Wr base w' B v' (bs ++ enc (zig n)) ∧ Keep2 B v w w' ∧ After w v v' := by
  have hf := fold_any n h1 h2
  have hz := zig_bound h1 h2
  have hu := wu64_any base B v bs (zig n) hz w h hb
  go_enter Tryz.func127, Tryz.ntmps127
  go_wp2_with (first | (go_at_call 163; refine (hf _).mono ?_; rintro e w' ⟨rfl, rfl⟩) | (go_at_call 162; refine hu.mono ?_; rintro e w' ⟨rfl, hr⟩))
  go_end0
  exact ⟨rfl, hr⟩

/-- What 'string(w.written)' makes of the writer's row. -/
theorem Wr.text {base B : Nat} {w : World} {v : Value} {bs : List UInt8} (h : Wr base w B v bs) : (convert 101 9 v).run Tryz.prog w = .ok (.string ⟨bs.toArray⟩) w := by
  obtain ⟨_, _, hown⟩ := h
  rcases hown.2 with ⟨rfl, h0⟩ | ⟨g, cap, cur, rfl, _, hg, _, _, _, htk⟩
  · have : bs = [] := List.eq_nil_of_length_eq_zero h0
    subst this
    exact Lib.run_convert_nil_bytes w 101 9 5 0 Tryz.underlying101 Tryz.underlying5 Tryz.underlying9
  · exact run_convert_bytes_back w 101 9 5 ⟨g, 0, none⟩ cap bs Tryz.underlying101 Tryz.underlying5 Tryz.underlying9 (Lib.bytes_of_row hg (by simpa using htk))

set_option maxRecDepth 100000 in
theorem wstring_any (base B : Nat) (v : Value) (bs : List UInt8) (w : World) (h : Wr base w B v bs) :
    Calls Tryz.prog 129 #[.pointer (some ⟨B, 0, none⟩)] w fun e w' => e = .returned (.string ⟨bs.toArray⟩) ∧ w = w' := by
  have hc := h.cell
  have ht := h.text
  go_enter Tryz.func129, Tryz.ntmps129
  go_wp2
  go_ret
  exact ⟨rfl, rfl⟩

theorem Wr.size {base B : Nat} {w : World} {v : Value} {bs : List UInt8} (h : Wr base w B v bs) : base ≤ w.heap.size := by
  have := h.lt
  have := h.1
  omega
theorem Wr.below {base B : Nat} {w w' : World} {v : Value} {bs : List UInt8} (h : Wr base w B v bs) (hk : Keep2 B v w w') : Below base w w' :=
  hk.below h.size h.1 (fun k hk => (h.2.2.lt k hk).1)

theorem Wr.more {base B : Nat} {w w1 : World} {v v1 : Value} {bs : List UInt8} (s : ByteArray) (h : Wr base w B v bs) (hgrow : w.grownBy w1 v.ownBlock)
    (hown : w1.ownsRow base 5 1 v1 (bs.length + s.size) (Lib.byteCells bs ++ Lib.strCells s)) :
    Wr base (w1.setCell ⟨B, 0, none⟩ v1) B v1 (bs ++ s.data.toList) ∧ Below base w (w1.setCell ⟨B, 0, none⟩ v1) ∧ w1.heap[B]? = some (.cells #[v] 227 (0, 0)) := by
  have hl := h.lt
  have hne := h.ne
  have hf : w1.heap[B]? = some (.cells #[v] 227 (0, 0)) := by
    rw [hgrow.block B hl (fun e => hne e.symm)]
    exact h.2.1
  have hgB : v1.ownBlock ≠ some B := by
    rcases hown.2 with ⟨rfl, _⟩ | ⟨g, cap, cur, rfl, _, hg, _⟩
    · simp [Value.ownBlock]
    · intro e
      simp [Value.ownBlock] at e
      subst e
      rw [hf] at hg
      simp at hg
  refine ⟨⟨h.1, one_setCell hf, ?_⟩, ?_, hf⟩
  · have := ownsRow_setCell_other hown (a := ⟨B, 0, none⟩) hgB v1
    have e1 : Lib.byteCells bs ++ Lib.strCells s = Lib.byteCells (bs ++ s.data.toList) := by simp [Lib.byteCells, Lib.strCells]
    have e2 : (bs ++ s.data.toList).length = bs.length + s.size := by rw [List.length_append, Lib.size_eq]
    rw [e1] at this
    rw [e2]
    exact this
  · exact ((Below.refl base w).grown hgrow h.size (fun k hk => (h.2.2.lt k hk).1)).setCell (p := ⟨B, 0, none⟩) h.1 v1

set_option maxRecDepth 100000 in
theorem wtext_any (base B : Nat) (v : Value) (bs : List UInt8) (s : ByteArray) (w : World) (h : Wr base w B v bs) (hb : bs.length + s.size + 10 ≤ 140737488355328) :
    Calls Tryz.prog 128 #[.pointer (some ⟨B, 0, none⟩), .string s] w fun e w' => e = .returned (.tuple #[]) ∧ ∃ v', Wr base w' B v' (bs ++ (enc s.size ++ s.data.toList)) ∧ Below base w w' := by
  obtain ⟨i0, hi, hz0, hz1, hz2⟩ := info_parts Tryz.info5
  have hu := wu64_any base B v bs s.size (by omega) w h (by omega)
  have hp := enc_pos s.size
  have ht := enc_len_ten (n := s.size) (by omega)
  go_enter Tryz.func128, Tryz.ntmps128
  go_wp2_with (first | (go_at_call 162; refine hu.mono ?_; rintro e w2 ⟨rfl, v2, hw2, hk2, ha2⟩; have hc2 := hw2.cell; have hl2 : (bs ++ enc s.size).length = bs.length + (enc s.size).length := List.length_append) | (at_builtin; go_must (refine Lib.wpList_append_own_string _ rfl (.tmp 15) (.tmp 16) 101 9 rfl base 5 i0 Tryz.underlying101 Tryz.underlying9 hi hz0 hz1 hz2 v2 (bs ++ enc s.size).length _ rfl hw2.2.2 s rfl (by unfold maxLen; omega) (by omega) hw2.size ?_)))
  intro v3 w3 hown hgrow _
  have R := hw2.more s hgrow (by rw [hl2]; exact hown)
  obtain ⟨g3, c3, hv3, _, _⟩ := hown.form (by omega)
  have hc3 := cell_of_one R.2.2
  have hf3 := free_of_one R.2.2
  have R1 := R.1
  have R2 := (h.below hk2).trans R.2.1
  clear hown hgrow R hu
  rw [hv3] at R1 R2 ⊢
  clear hl2
  go_wp2
  go_end0
  exact ⟨rfl, _, by rw [← List.append_assoc]; exact R1, R2⟩

end Go.Proofs.YtodnnhidljfilaaGreatDoor
/-
  The contracts of the reader (package codec: Of, Int, U64, Text, Done) and of strings.Clone: what a reader answers and what is left in it, for every text, and what has not turned. No condition but that a text is no longer than a text may be.
-/
namespace Go.Proofs.YtodnnhidljfilaaGreatDoor
open Go.RowKit

theorem drop_at (s : ByteArray) (k : Nat) (h : k < s.size) : s.data.toList.drop k = s[k] :: s.data.toList.drop (k + 1) := by
  have h1 : k < s.data.toList.length := by rw [← Lib.size_eq]; exact h
  rw [List.drop_eq_getElem_cons h1]
  rfl
theorem drop_past (s : ByteArray) (k : Nat) (h : s.size ≤ k) : s.data.toList.drop k = [] := List.drop_eq_nil_of_le (by rw [← Lib.size_eq]; exact h)

/-- One step of 'num', its byte a number. -/
theorem num_step (s : ByteArray) (X k c Y : Nat) (h : k < s.size) (hc : s[k].toNat = c) (hY : Y = c % 128 * 2 ^ (7 * k)) :
    num X k (s.data.toList.drop k) = if k = 9 ∧ 1 < c then (0, 0) else if 128 ≤ c then num (X + Y) (k + 1) (s.data.toList.drop (k + 1)) else if c = 0 ∧ 0 < k then (0, 0) else (X + Y, k + 1) := by
  rw [drop_at s k h, num, hc, hY]

/-- The shifted digit fits; so does the sum. -/
theorem digit_fits {k c X Y : Nat} (hk : k ≤ 9) (hY : Y = c % 128 * 2 ^ (7 * k)) (hX : X < 2 ^ (7 * k)) (h9 : ¬ (k = 9 ∧ 1 < c)) : IntKind.u64.wrap ((c : Int) % 128 * 2 ^ (7 * k)) = (Y : Int) ∧ X + Y < 18446744073709551616 ∧ (k ≠ 9 → X + Y < 2 ^ (7 * (k + 1))) := by
  have hc : c % 128 < 128 := Nat.mod_lt _ (by omega)
  have hm : c % 128 * 2 ^ (7 * k) ≤ 127 * 2 ^ (7 * k) := Nat.mul_le_mul_right _ (by omega)
  have hb : X + Y < 18446744073709551616 := by
    by_cases hk9 : k = 9
    · subst hk9
      have hc1 : c ≤ 1 := by
        rcases Nat.lt_or_ge 1 c with h | h
        · exact absurd ⟨rfl, h⟩ h9
        · exact h
      have : c % 128 * 2 ^ (7 * 9) ≤ 1 * 2 ^ (7 * 9) := Nat.mul_le_mul_right _ (by omega)
      simp only [Nat.reduceMul, Nat.reducePow] at this hX hY
      omega
    · have hp : 128 * 2 ^ (7 * k) ≤ 2 ^ 63 := by
        rw [← pow7]
        exact Nat.pow_le_pow_right (by omega) (by omega)
      simp only [Nat.reducePow] at hp
      omega
  refine ⟨?_, hb, fun _ => by rw [pow7]; omega⟩
  have e : ((c : Int) % 128 * 2 ^ (7 * k)) = (Y : Int) := by rw [hY]; simp
  rw [e]
  exact IntWalk.u64_in _ ⟨by omega, by omega⟩

set_option maxRecDepth 100000 in
theorem number_any (s : ByteArray) (hs : s.size ≤ 9223372036854775807) (w : World) :
    Calls Tryz.prog 205 #[.string s] w fun e w' => e = .returned (.tuple #[.int .u64 (num 0 0 s.data.toList).1, .int .i64 (num 0 0 s.data.toList).2]) ∧ w = w' := by
  go_enter Tryz.func205, Tryz.ntmps205
  go_wp2
  go_loop [4, 5, 6, 9] (fun x _ _ i => ∃ (k X : Nat), k ≤ s.size ∧ k ≤ 9 ∧ i = .int .i64 k ∧ x = .int .u64 X ∧ X < 2 ^ (7 * k) ∧ num 0 0 s.data.toList = num X k (s.data.toList.drop k)) (fun _ _ _ i => s.size - (intOf i).toNat)
  case atStart => exact ⟨0, 0, by omega, by omega, rfl, rfl, by simp, by simp⟩
  case round =>
    obtain ⟨k, X, hks, hk9, rfl, rfl, hX, hn⟩ := hrel
    by_cases hk : k < s.size
    · obtain ⟨c, hc⟩ : ∃ c, s[k].toNat = c := ⟨_, rfl⟩
      obtain ⟨Y, hY⟩ : ∃ Y, Y = c % 128 * 2 ^ (7 * k) := ⟨_, rfl⟩
      have hc256 : c < 256 := by rw [← hc]; exact UInt8.toNat_lt _
      rw [num_step s X k c Y hk hc hY] at hn
      by_cases h9 : k = 9 ∧ 1 < c
      · have hv : num 0 0 s.data.toList = (0, 0) := by rw [hn, if_pos h9]
        have HV : Hid (num 0 0 s.data.toList = (0, 0)) := hv
        obtain ⟨hk9', hc1⟩ := h9
        clear hn hX hY hv
        have h1 : (1 : Int) < (c : Int) := by omega
        have h2 : ((k : Int) == 9) = true := by simp [hk9']
        clear hk9'
        go_wp2
        go_ret2
        rw [HV.out]
        exact ⟨rfl, rfl⟩
      · obtain ⟨hsh, hb, hb2⟩ := digit_fits hk9 hY hX h9
        rw [if_neg h9] at hn
        clear hX hY
        by_cases h128 : 128 ≤ c
        · rw [if_pos h128] at hn
          have HN : Hid (num 0 0 s.data.toList = num (X + Y) (k + 1) (s.data.toList.drop (k + 1))) := hn
          have hk9' : k ≠ 9 := fun h => h9 ⟨h, by omega⟩
          have HB : Hid (X + Y < 2 ^ (7 * (k + 1))) := hb2 hk9'
          have h1 : (128 : Int) ≤ (c : Int) := by omega
          have h2 : ((k : Int) == 9) = false := by simp; omega
          clear hn hb2 h9
          go_wp2
          go_round
          case rel => exact ⟨k + 1, X + Y, by omega, by omega, by go_num, by go_num, HB.out, HN.out⟩
          case measure => simp [intOf]; omega
        · rw [if_neg h128] at hn
          have h1 : (c : Int) < 128 := by omega
          by_cases h0 : c = 0 ∧ 0 < k
          · rw [if_pos h0] at hn
            have HV : Hid (num 0 0 s.data.toList = (0, 0)) := hn
            have h3 : ((c : Int) == 0) = true := by simp; omega
            have h4 : (0 : Int) < (k : Int) := by omega
            have h5 : (c : Int) ≤ 1 := by omega
            clear hn hb2 h9 h0
            by_cases hk9' : k = 9
            · have h2 : ((k : Int) == 9) = true := by simp; omega
              clear hk9'
              go_wp2
              go_ret2
              rw [HV.out]
              exact ⟨rfl, rfl⟩
            · have h2 : ((k : Int) == 9) = false := by simp; omega
              clear hk9'
              go_wp2
              go_ret2
              rw [HV.out]
              exact ⟨rfl, rfl⟩
          · rw [if_neg h0] at hn
            have HV : Hid (num 0 0 s.data.toList = (X + Y, k + 1)) := hn
            clear hn hb2
            by_cases hc0 : c = 0
            · have h3 : ((c : Int) == 0) = true := by simp; omega
              have h4 : (k : Int) ≤ 0 := by omega
              have h2 : ((k : Int) == 9) = false := by simp; omega
              clear hc0 h0 h9
              go_wp2
              go_ret2
              rw [HV.out]
              exact ⟨rfl, rfl⟩
            · have h3 : ((c : Int) == 0) = false := by simp; omega
              by_cases hk9' : k = 9
              · have h2 : ((k : Int) == 9) = true := by simp; omega
                have h5 : (c : Int) ≤ 1 := by omega
                clear hk9' hc0 h0 h9
                go_wp2
                go_ret2
                rw [HV.out]
                exact ⟨rfl, rfl⟩
              · have h2 : ((k : Int) == 9) = false := by simp; omega
                clear hk9' hc0 h0 h9
                go_wp2
                go_ret2
                rw [HV.out]
                exact ⟨rfl, rfl⟩
    · have hv : num 0 0 s.data.toList = (0, 0) := by rw [hn, drop_past s k (by omega)]; rfl
      clear hn hX
      have HV : Hid (num 0 0 s.data.toList = (0, 0)) := hv
      clear hv
      go_wp2
      go_ret2
      rw [HV.out]
      exact ⟨rfl, rfl⟩

/-- A reader at block R: what is left, and whether it is bad. -/
def Rd (w : World) (R : Nat) (s : ByteArray) (b : Bool) : Prop := w.heap[R]? = some (.cells #[.string s, .bool b] 245 (0, 0))

theorem Rd.cell0 {w : World} {R : Nat} {s : ByteArray} {b : Bool} (h : Rd w R s b) : w.cell? ⟨R, 0, none⟩ = some (.string s) := by
  unfold Rd at h; simp [World.cell?, h]
theorem Rd.cell1 {w : World} {R : Nat} {s : ByteArray} {b : Bool} (h : Rd w R s b) : w.cell? ⟨R, 1, none⟩ = some (.bool b) := by
  unfold Rd at h; simp [World.cell?, h]
theorem Rd.free0 {w : World} {R : Nat} {s : ByteArray} {b : Bool} (h : Rd w R s b) : w.frozen? ⟨R, 0, none⟩ = false := by
  unfold Rd at h; simp [World.frozen?, h]
theorem Rd.free1 {w : World} {R : Nat} {s : ByteArray} {b : Bool} (h : Rd w R s b) : w.frozen? ⟨R, 1, none⟩ = false := by
  unfold Rd at h; simp [World.frozen?, h]

set_option maxRecDepth 100000 in
theorem of_any (s : ByteArray) (w : World) :
    Calls Tryz.prog 148 #[.string s] w fun e w' => e = .returned (.pointer (some ⟨w.heap.size, 0, none⟩)) ∧ w.alloc (.cells #[.string s, .bool false] 245) = w' := by
  go_enter Tryz.func148, Tryz.ntmps148
  go_wp2
  go_ret
  exact ⟨rfl, rfl⟩

set_option maxRecDepth 100000 in
theorem spoil_any (R : Nat) (s : ByteArray) (b : Bool) (w : World) (h : Rd w R s b) :
    Calls Tryz.prog 185 #[.pointer (some ⟨R, 0, none⟩)] w fun e w' => e = .returned (.tuple #[]) ∧ (w.setCell ⟨R, 0, none⟩ (.string ⟨#[]⟩)).setCell ⟨R, 1, none⟩ (.bool true) = w' := by
  have c0 := h.cell0
  have c1 := h.cell1
  have f0 := h.free0
  have f1 := h.free1
  go_enter Tryz.func185, Tryz.ntmps185
  go_wp2
  go_end0
  exact ⟨rfl, rfl⟩

/-- Behind stores into the reader's own two cells. -/
theorem Rd.set0 {w : World} {R : Nat} {s : ByteArray} {b : Bool} (h : Rd w R s b) (s' : ByteArray) : Rd (w.setCell ⟨R, 0, none⟩ (.string s')) R s' b := by
  unfold Rd at h ⊢
  rw [Lib.heap_setCell_same (i := 0) h]
  rfl
theorem Rd.set1 {w : World} {R : Nat} {s : ByteArray} {b : Bool} (h : Rd w R s b) (b' : Bool) : Rd (w.setCell ⟨R, 1, none⟩ (.bool b')) R s b' := by
  unfold Rd at h ⊢
  rw [Lib.heap_setCell_same (i := 1) h]
  rfl

theorem grown_trans {w w1 w2 : World} {row : Option Nat} (h : w.grownBy w1 row) (k : w1.grownBy w2 row) : w.grownBy w2 row :=
  ⟨k.os.trans h.os, k.tape.trans h.tape, k.output.trans h.output, Nat.le_trans h.size k.size, fun i hi hr => (k.block i (Nat.lt_of_lt_of_le hi h.size) hr).trans (h.block i hi hr)⟩
theorem grown_below {w w1 : World} (h : Below w.heap.size w w1) (row : Option Nat) : w.grownBy w1 row := ⟨h.os, h.tape, h.output, h.size, fun k hk _ => h.block k hk⟩

/-- What reading a number makes of a reader: the number, what is left, whether it is bad. -/
def rU (s : ByteArray) (b : Bool) : Nat × ByteArray × Bool :=
  if (num 0 0 s.data.toList).2 = 0 then (0, ⟨#[]⟩, true) else ((num 0 0 s.data.toList).1, s.extract (num 0 0 s.data.toList).2 s.size, b)

theorem rU_lt (s : ByteArray) (b : Bool) : (rU s b).1 < 18446744073709551616 := by
  unfold rU
  split
  · simp
  · exact num_lt _ 0 0 (by omega) (by simp)
theorem rU_size (s : ByteArray) (b : Bool) : (rU s b).2.1.size ≤ s.size := by
  unfold rU
  split
  · exact Nat.zero_le _
  · rw [Lib.size_eq, Lib.extract_to_end, Lib.size_eq]
    simp

set_option maxRecDepth 100000 in
theorem ru64_any (R : Nat) (s : ByteArray) (b : Bool) (hs : s.size ≤ 9223372036854775807) (w : World) (h : Rd w R s b) :
    Calls Tryz.prog 184 #[.pointer (some ⟨R, 0, none⟩)] w fun e w' => e = .returned (.int .u64 (rU s b).1) ∧ Rd w' R (rU s b).2.1 (rU s b).2.2 ∧ w.grownBy w' (some R) := by
  have c0 := h.cell0
  have f0 := h.free0
  have hnm := number_any s hs
  have hsp := spoil_any R s b w h
  have hle := num_le s.data.toList 0 0
  rw [← Lib.size_eq] at hle
  by_cases hz : (num 0 0 s.data.toList).2 = 0
  · have hr : rU s b = (0, ⟨#[]⟩, true) := by unfold rU; rw [if_pos hz]
    rw [hr]
    obtain ⟨N, hN⟩ : ∃ N, N = (num 0 0 s.data.toList).1 := ⟨_, rfl⟩
    rw [← hN, hz] at hnm
    clear hr hz hN hle
    go_enter Tryz.func184, Tryz.ntmps184
    go_wp2_with (first | (go_at_call 205; refine (hnm _).mono ?_; rintro e w' ⟨rfl, rfl⟩) | (go_at_call 185; refine hsp.mono ?_; rintro e w' ⟨rfl, rfl⟩))
    go_ret
    exact ⟨rfl, (h.set0 _).set1 _, grown_trans (Lib.grownBy_setCell _ _ _ _) (Lib.grownBy_setCell _ _ _ _)⟩
  · have hr : rU s b = ((num 0 0 s.data.toList).1, s.extract (num 0 0 s.data.toList).2 s.size, b) := by unfold rU; rw [if_neg hz]
    rw [hr]
    obtain ⟨N, hN⟩ : ∃ N, N = (num 0 0 s.data.toList).1 := ⟨_, rfl⟩
    obtain ⟨M, hM⟩ : ∃ M, M = (num 0 0 s.data.toList).2 := ⟨_, rfl⟩
    rw [← hN, ← hM] at hnm ⊢
    rw [← hM] at hle hz
    have hMs : M ≤ s.size := by omega
    have hM0 : ((M : Int) == 0) = false := by simp; omega
    clear hr hz hN hM hle hsp
    go_enter Tryz.func184, Tryz.ntmps184
    go_wp2_with (first | (go_at_call 205; refine (hnm _).mono ?_; rintro e w' ⟨rfl, rfl⟩))
    go_ret
    exact ⟨rfl, h.set0 _, Lib.grownBy_setCell _ _ _ _⟩

set_option maxRecDepth 100000 in
theorem rint_any (R : Nat) (s : ByteArray) (b : Bool) (hs : s.size ≤ 9223372036854775807) (w : World) (h : Rd w R s b) :
    Calls Tryz.prog 149 #[.pointer (some ⟨R, 0, none⟩)] w fun e w' => e = .returned (.int .i64 (zag (rU s b).1)) ∧ Rd w' R (rU s b).2.1 (rU s b).2.2 ∧ w.grownBy w' (some R) := by
  have hu := ru64_any R s b hs w h
  have hf := unfold_any (rU s b).1 (rU_lt s b)
  go_enter Tryz.func149, Tryz.ntmps149
  go_wp2_with (first | (go_at_call 184; refine hu.mono ?_; rintro e w' ⟨rfl, hr⟩) | (go_at_call 183; refine (hf _).mono ?_; rintro e w' ⟨rfl, rfl⟩))
  go_ret
  exact ⟨rfl, hr⟩

theorem not_empty {s : ByteArray} (h : s.size ≠ 0) : s.toList.isEmpty = false := by
  rw [Lib.toList_data]
  rw [Lib.size_eq] at h
  cases hl : s.data.toList with
  | nil => rw [hl] at h; exact absurd rfl h
  | cons a l => rfl
theorem is_empty {s : ByteArray} (h : s.size = 0) : s = ⟨#[]⟩ := ByteArray.ext (Array.eq_empty_of_size_eq_zero h)

/-- Whether all was read, and well. -/
def rD (s : ByteArray) (b : Bool) : Int := if b = true ∨ s.size ≠ 0 then 2 else 0

set_option maxRecDepth 100000 in
theorem rdone_any (R : Nat) (s : ByteArray) (b : Bool) (w : World) (h : Rd w R s b) :
    Calls Tryz.prog 151 #[.pointer (some ⟨R, 0, none⟩)] w fun e w' => e = .returned (.int .i64 (rD s b)) ∧ w = w' := by
  have c0 := h.cell0
  have c1 := h.cell1
  cases b with
  | true =>
    go_enter Tryz.func151, Tryz.ntmps151
    go_wp2
    go_ret
    exact ⟨rfl, rfl⟩
  | false =>
    by_cases hz : s.size = 0
    · have hs : s = ⟨#[]⟩ := ByteArray.ext (Array.eq_empty_of_size_eq_zero hz)
      subst hs
      go_enter Tryz.func151, Tryz.ntmps151
      go_wp2
      go_ret
      exact ⟨rfl, rfl⟩
    · have hr : rD s false = 2 := by unfold rD; rw [if_pos (Or.inr hz)]
      rw [hr]
      have hne := not_empty hz
      go_enter Tryz.func151, Tryz.ntmps151
      go_wp2
      go_ret
      exact ⟨rfl, rfl⟩

theorem Tryz.cells5 : Tryz.prog.cellsOf 5 = 1 := by kernel_rfl

set_option maxRecDepth 100000 in
/-- internal/stringslite.Clone: the same bytes, in a row of its own. -/
theorem cloneIn_any (s : ByteArray) (hs : s.size ≤ 281474976710656) (w : World) :
    Calls Tryz.prog 95 #[.string s] w fun e w' => e = .returned (.string s) ∧ Below w.heap.size w w' := by
  by_cases h0 : s.size = 0
  · obtain rfl := is_empty h0
    go_enter Tryz.func95, Tryz.ntmps95
    go_wp2
    go_ret
    exact ⟨rfl, Below.refl _ _⟩
  · obtain ⟨i0, hi, hz0, hz1, hz2⟩ := info_parts Tryz.info5
    have hlen : s.data.toList.length = s.size := (Lib.size_eq s).symm
    -- the new row
    obtain ⟨C0, hC0⟩ : ∃ C0, C0 = madeCells (Value.int .u8 0).cells (((s.size : Nat) : Int).toNat * i0.size) := ⟨_, rfl⟩
    have hC0s : C0.size = s.size := by rw [hC0, size_madeCells, hz1]; simp
    have hmake : ∀ W : World, (Instr.makeSlice 101 (.int .i64 (s.size : Int)) (.int .i64 (s.size : Int))).run Tryz.prog W = .ok (.slice (some ⟨W.heap.size, 0, none⟩) s.size s.size) (W.alloc (.cells C0 5)) := by
      intro W
      have := run_make (P := Tryz.prog) W 101 5 i0 (.int .u8 0) Tryz.underlying101 hi hz0 .i64 .i64 (s.size : Int) (s.size : Int) (by omega) (by omega) (by rw [hz2]; omega) (by omega)
      rw [← hC0] at this
      simpa using this
    -- the bytes, copied into it
    have hcopy := Lib.run_copy_row_string (P := Tryz.prog) (w.alloc (.cells C0 5)) 101 9 3 5 w.heap.size 0 s.size s.size s C0 5 Tryz.underlying101 (by rw [hi]; simp [hz1]) (heap_alloc_new w _) (Nat.le_refl _) (by omega)
    obtain ⟨C1, hC1⟩ : ∃ C1, C1 = (C0.toList.take 0 ++ Lib.byteCells s.data.toList ++ C0.toList.drop (0 + s.size)).toArray := ⟨_, rfl⟩
    rw [← hC1] at hcopy
    have hC1l : C1.toList = Lib.byteCells s.data.toList := by
      rw [hC1]
      simp [List.drop_eq_nil_of_le (show C0.toList.length ≤ s.size by rw [Array.length_toList]; omega)]
    have hC1s : C1.size = s.size := by rw [← Array.length_toList, hC1l, Lib.byteCells_length, hlen]
    have hrow : ((w.alloc (.cells C0 5)).setRow w.heap.size C1).heap[w.heap.size]? = some (.cells C1 5 (0, 0)) := setRow_heap _ _ C0 _ 5 (0, 0) (heap_alloc_new w _)
    -- the row as a string
    have hstr := Lib.run_unsafeString_row (P := Tryz.prog) ((w.alloc (.cells C0 5)).setRow w.heap.size C1) 188 3 9 5 Tryz.underlying188 Tryz.cells5 w.heap.size C1.size (by unfold World.shape?; rw [hrow]) s.data.toList (by intro e; rw [e] at hlen; simp at hlen; omega) (by omega) (by omega)
      (fun j x hx => Lib.cells_of_row hrow C1.size j _ (by rw [List.take_of_length_le (by rw [Array.length_toList]; omega), hC1l]; simp [Lib.byteCells, hx]))
    rw [hlen] at hstr
    clear hC0 hC1 hlen
    go_enter Tryz.func95, Tryz.ntmps95
    go_wp2
    go_ret
    refine ⟨rfl, Lib.below_freeze (((Below.refl _ w).alloc (Nat.le_refl _) (.cells C0 5)).trans ?_) (p := ⟨w.heap.size, 0, none⟩) (Nat.le_refl _) _⟩
    exact ⟨rfl, rfl, rfl, by simp, fun k hk => setRow_other _ _ _ _ (by omega)⟩

set_option maxRecDepth 100000 in
theorem clone_any (s : ByteArray) (hs : s.size ≤ 281474976710656) (w : World) :
    Calls Tryz.prog 53 #[.string s] w fun e w' => e = .returned (.string s) ∧ Below w.heap.size w w' := by
  have hc := cloneIn_any s hs
  go_enter Tryz.func53, Tryz.ntmps53
  go_wp2_with (go_at_call 95; refine (hc _).mono ?_; rintro e w' ⟨rfl, hb⟩)
  go_ret
  exact ⟨rfl, hb⟩

/-- What reading a text makes of a reader. -/
def rT (s : ByteArray) (b : Bool) : ByteArray × ByteArray × Bool :=
  if 524288 < (rU s b).1 ∨ (rU s b).2.1.size < (rU s b).1 then (⟨#[]⟩, ⟨#[]⟩, true) else ((rU s b).2.1.extract 0 (rU s b).1, (rU s b).2.1.extract (rU s b).1 (rU s b).2.1.size, (rU s b).2.2)

theorem Rd.below {w w1 : World} {R : Nat} {s : ByteArray} {b : Bool} (h : Rd w R s b) (hb : Below w.heap.size w w1) : Rd w1 R s b := by
  unfold Rd at h ⊢
  rw [hb.block R (lt_of_block h)]
  exact h

set_option maxRecDepth 100000 in
theorem rtext_any (R : Nat) (s : ByteArray) (b : Bool) (hs : s.size ≤ 9223372036854775807) (w : World) (h : Rd w R s b) :
    Calls Tryz.prog 150 #[.pointer (some ⟨R, 0, none⟩)] w fun e w' => e = .returned (.string (rT s b).1) ∧ Rd w' R (rT s b).2.1 (rT s b).2.2 ∧ w.grownBy w' (some R) := by
  have hu := ru64_any R s b hs w h
  have hlt := rU_lt s b
  have hsz := rU_size s b
  unfold rT
  obtain ⟨N, hN⟩ : ∃ N, N = (rU s b).1 := ⟨_, rfl⟩
  obtain ⟨s1, hs1⟩ : ∃ s1, s1 = (rU s b).2.1 := ⟨_, rfl⟩
  obtain ⟨b1, hb1⟩ : ∃ b1, b1 = (rU s b).2.2 := ⟨_, rfl⟩
  rw [← hN, ← hs1, ← hb1] at hu ⊢
  rw [← hN] at hlt
  rw [← hs1] at hsz
  clear hN hs1 hb1
  by_cases hbig : 524288 < N
  · rw [if_pos (Or.inl hbig)]
    have hb' : (524288 : Int) < (N : Int) := by omega
    go_enter Tryz.func150, Tryz.ntmps150
    go_wp2_with (first | (go_at_call 184; refine hu.mono ?_; rintro e w2 ⟨rfl, hr, hg⟩) | (go_at_call 185; refine (spoil_any R s1 b1 _ hr).mono ?_; rintro e w3 ⟨rfl, rfl⟩))
    go_ret
    exact ⟨rfl, (hr.set0 _).set1 _, grown_trans hg (grown_trans (Lib.grownBy_setCell _ _ _ _) (Lib.grownBy_setCell _ _ _ _))⟩
  · have hb' : (N : Int) ≤ 524288 := by omega
    by_cases hl : s1.size < N
    · rw [if_pos (Or.inr hl)]
      have hl' : (s1.size : Int) < (N : Int) := by omega
      go_enter Tryz.func150, Tryz.ntmps150
      go_wp2_with (first | (go_at_call 184; refine hu.mono ?_; rintro e w2 ⟨rfl, hr, hg⟩; have c0 := hr.cell0) | (go_at_call 185; refine (spoil_any R s1 b1 _ hr).mono ?_; rintro e w3 ⟨rfl, rfl⟩))
      go_ret
      exact ⟨rfl, (hr.set0 _).set1 _, grown_trans hg (grown_trans (Lib.grownBy_setCell _ _ _ _) (Lib.grownBy_setCell _ _ _ _))⟩
    · rw [if_neg (by omega)]
      have hl' : (N : Int) ≤ (s1.size : Int) := by omega
      have hcl := clone_any (s1.extract 0 N) (by rw [Lib.size_eq, Lib.extract_data]; simp; omega)
      go_enter Tryz.func150, Tryz.ntmps150
      go_wp2_with (first | (go_at_call 184; refine hu.mono ?_; rintro e w2 ⟨rfl, hr, hg⟩; have c0 := hr.cell0) | (go_at_call 53; refine (hcl _).mono ?_; rintro e w3 ⟨rfl, hb3⟩; have hr3 := hr.below hb3; have c3 := hr3.cell0; have f3 := hr3.free0))
      go_ret
      exact ⟨rfl, hr3.set0 _, grown_trans hg (grown_trans (grown_below hb3 _) (Lib.grownBy_setCell _ _ _ _))⟩
end Go.Proofs.YtodnnhidljfilaaGreatDoor
/-
  The contracts of the document's own reader and writer (package latchkeyref01): what they answer, for every number and every text, and what has not turned. No condition but on sizes.
-/
namespace Go.Proofs.YtodnnhidljfilaaGreatDoor
open Go.RowKit

/-- What reading a number makes of the document's reader. -/
def xU (s : ByteArray) (b : Bool) : Nat × ByteArray × Bool :=
  if b = true ∨ (num 0 0 s.data.toList).2 = 0 then (0, s, true) else ((num 0 0 s.data.toList).1, s.extract (num 0 0 s.data.toList).2 s.size, false)

end Go.Proofs.YtodnnhidljfilaaGreatDoor
/-
  The contracts of the document's own reader (numbers, texts, the end) and writer (numbers, texts), for every number and every text. No condition but on sizes.
-/
namespace Go.Proofs.YtodnnhidljfilaaGreatDoor
open Go.RowKit

/-- What reading a text makes of the document's reader. -/
def xT (s : ByteArray) (b : Bool) : ByteArray × ByteArray × Bool :=
  if (xU s b).2.2 = true ∨ 524288 < (xU s b).1 ∨ (xU s b).2.1.size < (xU s b).1 then (⟨#[]⟩, (xU s b).2.1, true) else ((xU s b).2.1.extract 0 (xU s b).1, (xU s b).2.1.extract (xU s b).1 (xU s b).2.1.size, (xU s b).2.2)

/-- A text as bytes: its length, and it. -/
def lenText (s : ByteArray) : List UInt8 := enc s.size ++ s.data.toList

theorem append_lists (xs ys : List UInt8) : (⟨xs.toArray⟩ : ByteArray) ++ (⟨ys.toArray⟩ : ByteArray) = ⟨(xs ++ ys).toArray⟩ := by
  apply ByteArray.ext
  rw [ByteArray.data_append]
  simp
theorem size_list (xs : List UInt8) : (⟨xs.toArray⟩ : ByteArray).size = xs.length := by rw [Lib.size_eq]

end Go.Proofs.YtodnnhidljfilaaGreatDoor
/-
  The two readers (package codec's and the document's) read alike; what was written is read. No condition.
-/
namespace Go.Proofs.YtodnnhidljfilaaGreatDoor
open Go.RowKit

theorem rT_size (s : ByteArray) (b : Bool) : (rT s b).2.1.size ≤ s.size := by
  have h := rU_size s b
  unfold rT
  split
  · exact Nat.zero_le _
  · rw [Lib.size_eq, Lib.extract_to_end, List.length_drop, ← Lib.size_eq]
    omega
theorem rU_enc (n : Nat) (hn : n < 18446744073709551616) (rest : List UInt8) : rU ⟨(enc n ++ rest).toArray⟩ false = (n, ⟨rest.toArray⟩, false) := by
  have h := num_enc0 n hn rest
  have hp := enc_pos n
  have e : num 0 0 (⟨(enc n ++ rest).toArray⟩ : ByteArray).data.toList = (n, (enc n).length) := by simpa using h
  unfold rU
  rw [e, if_neg (by simp; intro h; rw [h] at hp; simp at hp)]
  have e2 : (⟨(enc n ++ rest).toArray⟩ : ByteArray).extract (enc n).length (⟨(enc n ++ rest).toArray⟩ : ByteArray).size = ⟨rest.toArray⟩ := by
    rw [Lib.extract_eq, size_list]
    simp
  simp only [e2]

theorem rT_text (S : ByteArray) (hS : S.size ≤ 524288) (rest : List UInt8) : rT ⟨(lenText S ++ rest).toArray⟩ false = (S, ⟨rest.toArray⟩, false) := by
  have h : rU ⟨(lenText S ++ rest).toArray⟩ false = (S.size, ⟨(S.data.toList ++ rest).toArray⟩, false) := by
    unfold lenText
    rw [List.append_assoc]
    exact rU_enc S.size (by omega) _
  have hl := Lib.size_eq S
  have hsz : (⟨(S.data.toList ++ rest).toArray⟩ : ByteArray).size = S.size + rest.length := by rw [size_list, List.length_append, ← hl]
  have x0 : (⟨(S.data.toList ++ rest).toArray⟩ : ByteArray).extract 0 S.size = S := by
    rw [Lib.extract_eq, hl]
    simp
  have x1 : (⟨(S.data.toList ++ rest).toArray⟩ : ByteArray).extract S.size (⟨(S.data.toList ++ rest).toArray⟩ : ByteArray).size = ⟨rest.toArray⟩ := by
    rw [hsz, Lib.extract_eq, hl]
    simp
  unfold rT
  rw [h]
  show (if 524288 < S.size ∨ (⟨(S.data.toList ++ rest).toArray⟩ : ByteArray).size < S.size then _ else ((⟨(S.data.toList ++ rest).toArray⟩ : ByteArray).extract 0 S.size, (⟨(S.data.toList ++ rest).toArray⟩ : ByteArray).extract S.size (⟨(S.data.toList ++ rest).toArray⟩ : ByteArray).size, false)) = _
  rw [if_neg (by rw [hsz]; omega), x0, x1]

end Go.Proofs.YtodnnhidljfilaaGreatDoor
