/-
  Parts of the proof, laid together: FAll, FOwn. The conditions stand at each part.
-/
import Derived.Lib.BufferWrite
import Derived.Laws.MakeOwn
import Derived.Test.YtodnnhidljfilaaGreatDoorFPackD
/-
  The contracts of package frame as it landed: goOn, sumOfBoth, Sum, numberText, number, strings.Clone, Wrap, First, All answer as the document's plain functions. The conditions: the table of 16 numbers holds what its initialiser lays ('Tab'), and sizes.
-/
namespace Go.Proofs.YtodnnhidljfilaaGreatDoor
open Go.RowKit

/-- The table lies in memory: at place i what 4 bits make of i. -/
def Tab (w : World) : Prop := 3 < w.heap.size ∧ ∀ i, i < 16 → w.cell? ⟨3, i, none⟩ = some (.int .u32 ((bitSteps 4 i : Nat) : Int))
theorem Tab.below {w w' : World} (h : Tab w) (b : Below w.heap.size w w') : Tab w' := ⟨Nat.lt_of_lt_of_le h.1 b.size, fun i hi => (b.cell (by exact h.1)).trans (h.2 i hi)⟩

theorem split_half (x : Nat) : x % 16 ^^^ (x / 16) * 2 ^ 4 = x := by
  apply Nat.eq_of_testBit_eq
  intro i
  rw [Nat.testBit_xor, show (16 : Nat) = 2 ^ 4 from rfl, Nat.testBit_mod_two_pow, Nat.testBit_mul_two_pow, Nat.testBit_div_two_pow]
  by_cases h : i < 4
  · simp [h, show ¬ 4 ≤ i by omega]
  · simp [h, show 4 ≤ i by omega, show i - 4 + 4 = i by omega]
theorem half_step (x : Nat) : bitSteps 4 x = (x / 16) ^^^ bitSteps 4 (x % 16) := by
  conv => lhs; rw [← split_half x, bitSteps_xor, bitSteps_even]
  rw [Nat.xor_comm]
theorem u32_low4 {r : Nat} (h : r < 4294967296) : bits .and .u32 (r : Int) 15 = ((r % 16 : Nat) : Int) := by
  have := u32_and_nat r 15 h (by decide)
  rw [show (15 : Nat) = 2 ^ 4 - 1 from rfl, Nat.and_two_pow_sub_one_eq_mod] at this
  simpa using this

set_option maxHeartbeats 800000 in
set_option maxRecDepth 100000 in
theorem goOn_any (r0 : Nat) (hr0 : r0 < 4294967296) (s : ByteArray) (hs : s.size ≤ 9223372036854775807) (w : World) (hT : Tab w) :
    Calls Tryz.prog 193 #[.int .u32 r0, .string s] w fun e w' => e = .returned (.int .u32 (crcFrom r0 s.data.toList)) ∧ w = w' := by
  have HT : Hid (∀ i, i < 16 → w.cell? ⟨3, i, none⟩ = some (.int .u32 ((bitSteps 4 i : Nat) : Int))) := hT.2
  clear hT
  go_enter Tryz.func193, Tryz.ntmps193
  go_wp2
  go_loop [0, 5, 8] (fun x _ i => ∃ (k r : Nat), k ≤ s.size ∧ i = .int .i64 k ∧ x = .int .u32 r ∧ r < 4294967296 ∧ crcFrom r0 s.data.toList = crcFrom r (s.data.toList.drop k)) (fun _ _ i => s.size - (intOf i).toNat)
  case atStart => exact ⟨0, r0, by omega, rfl, rfl, hr0, by simp⟩
  case round =>
    obtain ⟨k, r, hk, rfl, rfl, hr, hc⟩ := hrel
    by_cases hlt : k < s.size
    · obtain ⟨c, hcb⟩ : ∃ c, s[k].toNat = c := ⟨_, rfl⟩
      have hc256 : c < 256 := by rw [← hcb]; exact UInt8.toNat_lt _
      obtain ⟨Z, hZ⟩ : ∃ Z, Z = r ^^^ c := ⟨_, rfl⟩
      have hZl : Z < 4294967296 := by rw [hZ]; exact Nat.xor_lt_two_pow (n := 32) hr (by omega)
      obtain ⟨Y, hY⟩ : ∃ Y, Y = bitSteps 4 Z := ⟨_, rfl⟩
      have hYl : Y < 4294967296 := by rw [hY]; exact bitSteps_lt 4 hZl
      obtain ⟨X, hX⟩ : ∃ X, X = bitSteps 4 Y := ⟨_, rfl⟩
      have hXl : X < 4294967296 := by rw [hX]; exact bitSteps_lt 4 hYl
      have HC : Hid (crcFrom r0 s.data.toList = crcFrom X (s.data.toList.drop (k + 1))) := hc.trans (crc_at s r k c X hlt hcb (by rw [hX, hY, hZ]; rfl))
      have hx := u32_xor_nat r c hr (by omega)
      rw [← hZ] at hx
      have a1 := u32_low4 hZl
      have a2 := u32_low4 hYl
      obtain ⟨i1, hi1⟩ : ∃ i, i = Z % 16 := ⟨_, rfl⟩
      obtain ⟨i2, hi2⟩ : ∃ i, i = Y % 16 := ⟨_, rfl⟩
      have g1 := HT.out i1 (by omega)
      have g2 := HT.out i2 (by omega)
      have l1 : bitSteps 4 i1 < 4294967296 := bitSteps_lt 4 (by omega)
      have l2 : bitSteps 4 i2 < 4294967296 := bitSteps_lt 4 (by omega)
      have e1 : (Z / 16) ^^^ bitSteps 4 i1 = Y := by rw [hY, hi1, ← half_step]
      have e2 : (Y / 16) ^^^ bitSteps 4 i2 = X := by rw [hX, hi2, ← half_step]
      obtain ⟨b1, hb1⟩ : ∃ b, b = bitSteps 4 i1 := ⟨_, rfl⟩
      obtain ⟨b2, hb2⟩ : ∃ b, b = bitSteps 4 i2 := ⟨_, rfl⟩
      rw [← hb1] at g1 l1 e1
      rw [← hb2] at g2 l2 e2
      have x1 : bits .xor .u32 ((Z : Int) / 16) (b1 : Int) = (Y : Int) := by
        have := u32_xor_nat (Z / 16) b1 (by omega) l1
        rw [e1] at this
        exact this
      have x2 : bits .xor .u32 ((Y : Int) / 16) (b2 : Int) = (X : Int) := by
        have := u32_xor_nat (Y / 16) b2 (by omega) l2
        rw [e2] at this
        exact this
      rw [← hi1] at a1
      rw [← hi2] at a2
      have j1 : (i1 : Int) < 16 := by omega
      have j2 : (i2 : Int) < 16 := by omega
      clear hc hZ hY hX hi1 hi2 hb1 hb2 e1 e2 HT
      go_wp2
      go_round
      case rel => exact ⟨k + 1, X, by omega, by go_num, rfl, hXl, HC.out⟩
      case measure => simp [intOf]; omega
    · have HV : Hid (crcFrom r0 s.data.toList = r) := by
        show crcFrom r0 s.data.toList = _
        rw [hc, drop_past s k (by omega)]
        rfl
      clear hc
      go_wp2
      go_ret
      rw [HV.out]
      exact ⟨rfl, rfl⟩

set_option maxRecDepth 100000 in
theorem sumOfBoth_any (a b : ByteArray) (ha : a.size ≤ 9223372036854775807) (hb : b.size ≤ 9223372036854775807) (w : World) (hT : Tab w) :
    Calls Tryz.prog 158 #[.string a, .string b] w fun e w' => e = .returned (.int .i64 (crc (a.data.toList ++ b.data.toList))) ∧ w = w' := by
  have l1 : crcFrom 4294967295 a.data.toList < 4294967296 := crcFrom_lt _ (by decide)
  have q1 := goOn_any 4294967295 (by decide) a ha w hT
  obtain ⟨x, hx⟩ : ∃ x, x = crcFrom 4294967295 a.data.toList := ⟨_, rfl⟩
  rw [← hx] at l1 q1
  have l2 : crcFrom x b.data.toList < 4294967296 := crcFrom_lt _ l1
  have q2 := goOn_any x l1 b hb w hT
  obtain ⟨y, hy⟩ : ∃ y, y = crcFrom x b.data.toList := ⟨_, rfl⟩
  rw [← hy] at l2 q2
  have HV : Hid (crc (a.data.toList ++ b.data.toList) = 4294967295 - y) := by
    show crc _ = _
    unfold crc
    rw [crcFrom_append, ← hx, ← hy]
  have hn : Hid (wrap64 (bits .xor .u32 IntKind.u32.max (y : Int)) = ((4294967295 - y : Nat) : Int)) := back32 l2
  clear hx hy hT
  go_enter Tryz.func158, Tryz.ntmps158
  go_wp2_with (first
    | (go_at_call 193; have d2 := d1; refine q2.mono ?_; rintro e w' ⟨rfl, rfl⟩)
    | (go_at_call 193; refine q1.mono ?_; rintro e w' ⟨rfl, rfl⟩; have d1 : True := trivial))
  go_ret
  rw [HV.out, ← hn.out]
  exact ⟨rfl, rfl⟩

set_option maxRecDepth 100000 in
theorem fnumber_any (s : ByteArray) (h4 : 4 ≤ s.size) (w : World) :
    Calls Tryz.prog 182 #[.string s] w fun e w' => e = .returned (.int .i64 (num4 s.data.toList)) ∧ w = w' := by
  have k0 : 0 < s.size := by omega
  have k1 : 1 < s.size := by omega
  have k2 : 2 < s.size := by omega
  have k3 : 3 < s.size := by omega
  have HN : Hid (num4 s.data.toList = s[0].toNat + s[1].toNat * 256 + s[2].toNat * 65536 + s[3].toNat * 16777216) := num4_at s h4
  obtain ⟨c0, e0⟩ : ∃ c, s[0].toNat = c := ⟨_, rfl⟩
  obtain ⟨c1, e1⟩ : ∃ c, s[1].toNat = c := ⟨_, rfl⟩
  obtain ⟨c2, e2⟩ : ∃ c, s[2].toNat = c := ⟨_, rfl⟩
  obtain ⟨c3, e3⟩ : ∃ c, s[3].toNat = c := ⟨_, rfl⟩
  have b0 : c0 < 256 := by rw [← e0]; exact byte_lt _
  have b1 : c1 < 256 := by rw [← e1]; exact byte_lt _
  have b2 : c2 < 256 := by rw [← e2]; exact byte_lt _
  have b3 : c3 < 256 := by rw [← e3]; exact byte_lt _
  rw [e0, e1, e2, e3] at HN
  go_enter Tryz.func182, Tryz.ntmps182
  go_wp2
  refine wp_loop_rounds 5 ?_
  rw [rounds_succ]
  go_wp2
  rw [rounds_succ]
  go_wp2
  rw [rounds_succ]
  go_wp2
  rw [rounds_succ]
  go_wp2
  rw [rounds_succ]
  go_wp2
  go_ret
  rw [HN.out]
  exact ⟨rfl, rfl⟩

end Go.Proofs.YtodnnhidljfilaaGreatDoor
