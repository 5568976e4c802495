/-
  Parts of the proof, laid together: FPlain, FRef, FRead, FAll, FOwn, FLand, FFirst. The conditions stand at each part.
-/
import Derived.Lib.UnsafeStr
import Derived.Lib.Strings
import Derived.WalkKit
import Derived.WalkSpells
import Derived.Lib.BufferRead
import Derived.Lib.IndexBytes
import Derived.Lib.AppendStr
import Derived.Deep.AppendLies
import Derived.Deep.QuietTactic
import Derived.BigQuiet
import Derived.WalkSmall
import Derived.Handy
import Derived.Deep.RegionHeld3
import Derived.Lib.BufferWrite
import Derived.Laws.MakeOwn
import Derived.Test.YtkdglkaeglhibaaGreatDoorProg
/-
  The sum of a text (CRC-32, bit by bit) and frames, as plain functions on lists of bytes, and the facts on them that the walks and the laws need: a sum tells two texts apart that part at one byte; a table of 256 sums serves as well. No condition.
-/
namespace Go.Proofs.YtkdglkaeglhibaaGreatDoor

/-- One bit. -/
def bitStep (r : Nat) : Nat := if r % 2 = 1 then (r / 2) ^^^ 3988292384 else r / 2
/-- n bits. -/
def bitSteps : Nat → Nat → Nat
  | 0, r => r
  | n + 1, r => bitSteps n (bitStep r)
/-- One byte. -/
def crcStep (r b : Nat) : Nat := bitSteps 8 (r ^^^ b)
/-- The bytes of a text, from r on. -/
def crcFrom : Nat → List UInt8 → Nat
  | r, [] => r
  | r, b :: l => crcFrom (crcStep r b.toNat) l
/-- The sum of a text. -/
def crc (l : List UInt8) : Nat := 4294967295 - crcFrom 4294967295 l

theorem bitStep_lt {r : Nat} (h : r < 4294967296) : bitStep r < 4294967296 := by
  unfold bitStep
  split
  · exact Nat.xor_lt_two_pow (n := 32) (by omega) (by decide)
  · omega
theorem bitSteps_lt : ∀ (n : Nat) {r : Nat}, r < 4294967296 → bitSteps n r < 4294967296
  | 0, _, h => h
  | n + 1, _, h => bitSteps_lt n (bitStep_lt h)
theorem byte_lt (b : UInt8) : b.toNat < 256 := UInt8.toNat_lt b
theorem crcStep_lt {r b : Nat} (h : r < 4294967296) (hb : b < 256) : crcStep r b < 4294967296 := bitSteps_lt 8 (Nat.xor_lt_two_pow (n := 32) h (by omega))
theorem crcFrom_lt : ∀ (l : List UInt8) {r : Nat}, r < 4294967296 → crcFrom r l < 4294967296
  | [], _, h => h
  | b :: l, _, h => crcFrom_lt l (crcStep_lt h (byte_lt b))
theorem crc_lt (l : List UInt8) : crc l < 4294967296 := by unfold crc; omega

theorem crcFrom_append : ∀ (l m : List UInt8) (r : Nat), crcFrom r (l ++ m) = crcFrom (crcFrom r l) m
  | [], _, _ => rfl
  | _ :: l, m, _ => crcFrom_append l m _

/-! ### A table serves as well -/
theorem xor_mod2 (a b : Nat) : (a ^^^ b) % 2 = (a + b) % 2 := by
  have h := Nat.xor_mod_two_pow (a := a) (b := b) (n := 1)
  rw [Nat.pow_one] at h
  rcases (show a % 2 = 0 ∨ a % 2 = 1 by omega) with ha | ha
  · rcases (show b % 2 = 0 ∨ b % 2 = 1 by omega) with hb | hb
    · rw [ha, hb] at h
      exact h.trans (show 0 = _ by omega)
    · rw [ha, hb] at h
      exact h.trans (show 1 = _ by omega)
  · rcases (show b % 2 = 0 ∨ b % 2 = 1 by omega) with hb | hb
    · rw [ha, hb] at h
      exact h.trans (show 1 = _ by omega)
    · rw [ha, hb] at h
      exact h.trans (show 0 = _ by omega)
theorem bitStep_xor (a b : Nat) : bitStep (a ^^^ b) = bitStep a ^^^ bitStep b := by
  have hm : (a ^^^ b) % 2 = (a + b) % 2 := xor_mod2 a b
  have hd : (a ^^^ b) / 2 = a / 2 ^^^ b / 2 := Nat.xor_div_two
  unfold bitStep
  rw [hd]
  by_cases ha : a % 2 = 1
  · by_cases hb : b % 2 = 1
    · rw [if_neg (by omega), if_pos ha, if_pos hb]
      rw [Nat.xor_assoc, ← Nat.xor_assoc 3988292384, Nat.xor_comm 3988292384 (b / 2), Nat.xor_assoc (b / 2), Nat.xor_self, Nat.xor_zero]
    · rw [if_pos (by omega), if_pos ha, if_neg hb]
      rw [Nat.xor_assoc, Nat.xor_assoc, Nat.xor_comm (b / 2)]
  · by_cases hb : b % 2 = 1
    · rw [if_pos (by omega), if_neg ha, if_pos hb, Nat.xor_assoc]
    · rw [if_neg (by omega), if_neg ha, if_neg hb]
theorem bitSteps_xor : ∀ (n a b : Nat), bitSteps n (a ^^^ b) = bitSteps n a ^^^ bitSteps n b
  | 0, _, _ => rfl
  | n + 1, a, b => by rw [bitSteps, bitStep_xor, bitSteps_xor n]; rfl
theorem bitSteps_even : ∀ (n h : Nat), bitSteps n (h * 2 ^ n) = h
  | 0, h => by simp [bitSteps]
  | n + 1, h => by
    have e : bitStep (h * 2 ^ (n + 1)) = h * 2 ^ n := by
      unfold bitStep
      rw [Nat.pow_succ, ← Nat.mul_assoc, if_neg (by omega)]
      omega
    rw [bitSteps, e, bitSteps_even n h]
/-! ### Four bytes, frames -/
/-- A number in four bytes. -/
def four (n : Nat) : List UInt8 := [UInt8.ofNat (n % 256), UInt8.ofNat (n / 256 % 256), UInt8.ofNat (n / 65536 % 256), UInt8.ofNat (n / 16777216 % 256)]
/-- The number of the four bytes at the front. -/
def num4 (l : List UInt8) : Nat := (l.getD 0 0).toNat + (l.getD 1 0).toNat * 256 + (l.getD 2 0).toNat * 65536 + (l.getD 3 0).toNat * 16777216
theorem four_len (n : Nat) : (four n).length = 4 := rfl
theorem ofNat_toNat {n : Nat} (h : n < 256) : (UInt8.ofNat n).toNat = n := by rw [UInt8.toNat_ofNat']; omega
theorem num4_four {n : Nat} (h : n < 4294967296) (l : List UInt8) : num4 (four n ++ l) = n := by
  unfold num4 four
  simp only [List.cons_append, List.nil_append, List.getD_cons_zero, List.getD_cons_succ]
  rw [ofNat_toNat (by omega), ofNat_toNat (by omega), ofNat_toNat (by omega), ofNat_toNat (by omega)]
  omega
theorem num4_lt (l : List UInt8) : num4 l < 4294967296 := by
  unfold num4
  have h0 := byte_lt (l.getD 0 0)
  have h1 := byte_lt (l.getD 1 0)
  have h2 := byte_lt (l.getD 2 0)
  have h3 := byte_lt (l.getD 3 0)
  omega

/-- A text's frame. -/
def frameOf (l : List UInt8) : List UInt8 := four l.length ++ (four (crc (four l.length ++ l)) ++ l)
theorem frameOf_len (l : List UInt8) : (frameOf l).length = l.length + 8 := by
  unfold frameOf
  simp only [List.length_append, four_len]
  omega

/-- The frame at the front: its text, its bytes, the error. -/
def firstOf (l : List UInt8) : List UInt8 × Nat × Nat :=
  if l.length < 8 then ([], 0, 4) else if 524288 < num4 l then ([], 0, 2) else if l.length - 8 < num4 l then ([], 0, 4)
  else if crc (l.take 4 ++ (l.drop 8).take (num4 l)) ≠ num4 (l.drop 4) then ([], 0, 3) else ((l.drop 8).take (num4 l), 8 + num4 l, 0)

theorem firstOf_frame (t rest : List UInt8) (h : t.length ≤ 524288) : firstOf (frameOf t ++ rest) = (t, t.length + 8, 0) := by
  have hl : (frameOf t ++ rest).length = t.length + 8 + rest.length := by rw [List.length_append, frameOf_len]
  have hn : num4 (frameOf t ++ rest) = t.length := by
    unfold frameOf
    rw [List.append_assoc]
    exact num4_four (by omega) _
  have h8 : (frameOf t ++ rest).drop 8 = t ++ rest := by
    unfold frameOf four
    simp
  have h4 : (frameOf t ++ rest).drop 4 = four (crc (four t.length ++ t)) ++ (t ++ rest) := by
    unfold frameOf
    rw [List.append_assoc, List.append_assoc, List.drop_left' (four_len _)]
  have ht4 : (frameOf t ++ rest).take 4 = four t.length := by
    unfold frameOf
    rw [List.append_assoc, List.take_left' (four_len _)]
  unfold firstOf
  rw [hl, hn, h8, h4, ht4, List.take_left' rfl, num4_four (crc_lt _), if_neg (by omega), if_neg (by omega), if_neg (by omega), if_neg (by simp)]
  congr 2
  omega

theorem firstOf_ok {l : List UInt8} (h : (firstOf l).2.2 = 0) : 8 ≤ (firstOf l).2.1 ∧ (firstOf l).2.1 ≤ l.length ∧ (firstOf l).1.length + 8 = (firstOf l).2.1 := by
  unfold firstOf at h ⊢
  split
  · simp_all
  · split
    · simp_all
    · split
      · simp_all
      · split
        · simp_all
        · refine ⟨(show 8 ≤ 8 + num4 l by omega), ?_, ?_⟩
          · show 8 + num4 l ≤ l.length
            omega
          · show ((l.drop 8).take (num4 l)).length + 8 = 8 + num4 l
            rw [List.length_take, List.length_drop]
            omega

end Go.Proofs.YtkdglkaeglhibaaGreatDoor
/-
  The contracts of the document's own sums and frames (package latchkeyref02): what they answer, for every text, and what has not turned. No condition but on sizes.
-/
namespace Go.Proofs.YtkdglkaeglhibaaGreatDoor
open Go.RowKit

theorem drop_at (s : ByteArray) (k : Nat) (h : k < s.size) : s.data.toList.drop k = s[k] :: s.data.toList.drop (k + 1) := by
  have h1 : k < s.data.toList.length := by rw [← Lib.size_eq]; exact h
  rw [List.drop_eq_getElem_cons h1]
  rfl
theorem drop_past (s : ByteArray) (k : Nat) (h : s.size ≤ k) : s.data.toList.drop k = [] := List.drop_eq_nil_of_le (by rw [← Lib.size_eq]; exact h)

theorem u32_low {r : Nat} (h : r < 4294967296) : bits .and .u32 (r : Int) 1 = (r : Int) % 2 := by
  have := u32_and_nat r 1 h (by decide)
  rw [show (1 : Nat) = 2 ^ 1 - 1 from rfl, Nat.and_two_pow_sub_one_eq_mod] at this
  simpa using this
theorem u32_not {r : Nat} (h : r < 4294967296) : bits .xor .u32 4294967295 (r : Int) = ((4294967295 - r : Nat) : Int) := by
  show IntKind.u32.wrap ((BitVec.ofInt 32 4294967295 ^^^ BitVec.ofInt 32 (r : Int)).toNat : Int) = _
  have e : BitVec.ofInt 32 4294967295 = BitVec.allOnes 32 := by decide
  rw [e, BitVec.allOnes_xor, BitVec.toNat_not, ofInt_u32 r (by omega), IntKind.wrap_u32]
  omega

theorem crc_at (s : ByteArray) (r k c T : Nat) (h : k < s.size) (hc : s[k].toNat = c) (hT : T = crcStep r c) : crcFrom r (s.data.toList.drop k) = crcFrom T (s.data.toList.drop (k + 1)) := by
  rw [drop_at s k h]
  show crcFrom (crcStep r s[k].toNat) _ = _
  rw [hc, hT]

theorem back32 {r : Nat} (h : r < 4294967296) : wrap64 (bits .xor .u32 IntKind.u32.max (r : Int)) = ((4294967295 - r : Nat) : Int) := by
  rw [show IntKind.u32.max = 4294967295 from rfl, u32_not h]
  unfold wrap64
  omega

set_option maxHeartbeats 800000 in
set_option maxRecDepth 100000 in
theorem rsum_any (s : ByteArray) (hs : s.size ≤ 9223372036854775807) (w : World) :
    Calls Tryz.prog 51 #[.string s] w fun e w' => e = .returned (.int .i64 (crc s.data.toList)) ∧ w = w' := by
  go_enter Tryz.func51, Tryz.ntmps51
  go_wp2
  go_loop [3, 4, 5, 6] (fun x i _ _ => ∃ (k r : Nat), k ≤ s.size ∧ i = .int .i64 k ∧ x = .int .u32 r ∧ r < 4294967296 ∧ crcFrom 4294967295 s.data.toList = crcFrom r (s.data.toList.drop k)) (fun _ i _ _ => s.size - (intOf i).toNat)
  case atStart => exact ⟨0, 4294967295, by omega, rfl, rfl, by decide, by simp⟩
  case round =>
    obtain ⟨k, r, hk, rfl, rfl, hr, hc⟩ := hrel
    by_cases hlt : k < s.size
    · obtain ⟨c, hcb⟩ : ∃ c, s[k].toNat = c := ⟨_, rfl⟩
      have hc256 : c < 256 := by rw [← hcb]; exact UInt8.toNat_lt _
      obtain ⟨T, hT⟩ : ∃ T, T = crcStep r c := ⟨_, rfl⟩
      have hTl : T < 4294967296 := by rw [hT]; exact crcStep_lt hr hc256
      have HC : Hid (crcFrom 4294967295 s.data.toList = crcFrom T (s.data.toList.drop (k + 1))) := hc.trans (crc_at s r k c T hlt hcb hT)
      obtain ⟨Z, hZ⟩ : ∃ Z, Z = r ^^^ c := ⟨_, rfl⟩
      have HT : Hid (bitSteps 8 Z = T) := by show bitSteps 8 Z = T; rw [hT, hZ]; rfl
      have hx := u32_xor_nat r c hr (by omega)
      have hxl : r ^^^ c < 4294967296 := Nat.xor_lt_two_pow (n := 32) hr (by omega)
      rw [← hZ] at hx hxl
      clear hc hT hZ
      go_wp2
      go_loop [3, 5, 6] (fun x i _ => ∃ (j y : Nat), j ≤ 8 ∧ i = .int .i64 j ∧ x = .int .u32 y ∧ y < 4294967296 ∧ bitSteps (8 - j) y = T) (fun _ i _ => 8 - (intOf i).toNat)
      case atStart => exact ⟨0, Z, by omega, rfl, rfl, hxl, HT.out⟩
      case round =>
        clear HT hx hxl
        obtain ⟨j, y, hj, rfl, rfl, hy, hb⟩ := hrel
        by_cases hj8 : j < 8
        · have hj8' : (j : Int) < 8 := by omega
          rw [show 8 - j = (8 - (j + 1)) + 1 by omega, bitSteps] at hb
          have hlow := u32_low hy
          by_cases hodd : y % 2 = 1
          · have hodd' : (y : Int) % 2 = 1 := by omega
            obtain ⟨Y, hY⟩ : ∃ Y, Y = (y / 2) ^^^ 3988292384 := ⟨_, rfl⟩
            have hYl : Y < 4294967296 := by rw [hY]; exact Nat.xor_lt_two_pow (n := 32) (by omega) (by decide)
            have hq : bits .xor .u32 ((y : Int) / 2) 3988292384 = (Y : Int) := by
              have := u32_xor_nat (y / 2) 3988292384 (by omega) (by decide)
              rw [← hY] at this
              exact this
            have e : bitStep y = Y := by unfold bitStep; rw [if_pos hodd, hY]
            rw [e] at hb
            have HB : Hid (bitSteps (8 - (j + 1)) Y = T) := hb
            clear hb hY e
            go_wp2
            go_round
            case rel => exact ⟨j + 1, Y, by omega, by go_num, rfl, hYl, HB.out⟩
            case measure => simp [intOf]; omega
          · have hodd' : (y : Int) % 2 = 0 := by omega
            have e : bitStep y = y / 2 := by unfold bitStep; rw [if_neg hodd]
            rw [e] at hb
            have HB : Hid (bitSteps (8 - (j + 1)) (y / 2) = T) := hb
            clear hb e
            go_wp2
            go_round
            case rel => exact ⟨j + 1, y / 2, by omega, by go_num, by go_num, by omega, HB.out⟩
            case measure => simp [intOf]; omega
        · have hj8' : (8 : Int) ≤ (j : Int) := by omega
          have e : y = T := by rw [show 8 - j = 0 by omega] at hb; exact hb
          subst e
          clear hb
          go_wp2
          go_round
          case rel => exact ⟨k + 1, y, by omega, by go_num, rfl, hy, HC.out⟩
          case measure => simp [intOf]; omega
    · have HV : Hid (crc s.data.toList = 4294967295 - r) := by
        show crc _ = _
        unfold crc
        rw [hc, drop_past s k (by omega)]
        rfl
      have hn : Hid (wrap64 (bits .xor .u32 IntKind.u32.max (r : Int)) = ((4294967295 - r : Nat) : Int)) := back32 hr
      clear hc
      go_wp2
      go_ret
      rw [HV.out, ← hn.out]
      exact ⟨rfl, rfl⟩

theorem byte_ofNat {n : Nat} (h : n < 256) : (UInt8.ofNat n).toNat = n := by
  rw [UInt8.toNat_ofNat']
  omega

theorem four_text (n : Nat) (h : n < 4294967296) (w : World) :
    (convert 63 9 (.slice (some ⟨w.heap.size, 0, none⟩) 4 4)).run Tryz.prog (w.alloc (.cells #[.int .u8 ((n : Int) % 256), .int .u8 ((n : Int) / 256 % 256), .int .u8 ((n : Int) / 65536 % 256), .int .u8 ((n : Int) / 16777216)] 5)) =
      .ok (.string ⟨(four n).toArray⟩) (w.alloc (.cells #[.int .u8 ((n : Int) % 256), .int .u8 ((n : Int) / 256 % 256), .int .u8 ((n : Int) / 65536 % 256), .int .u8 ((n : Int) / 16777216)] 5)) := by
  have hl : (four n).length = 4 := rfl
  refine run_convert_bytes_back _ 63 9 5 ⟨w.heap.size, 0, none⟩ 4 (four n) Tryz.underlying63 Tryz.underlying5 Tryz.underlying9 ?_
  intro j hj
  have hrow := heap_alloc_new w (.cells #[.int .u8 ((n : Int) % 256), .int .u8 ((n : Int) / 256 % 256), .int .u8 ((n : Int) / 65536 % 256), .int .u8 ((n : Int) / 16777216)] 5)
  have hc := Lib.cells_of_row hrow 4 j
  rw [hc (.int .u8 ((four n)[j].toNat : Int)) ?_]
  rcases (show j = 0 ∨ j = 1 ∨ j = 2 ∨ j = 3 by omega) with rfl | rfl | rfl | rfl
  · simp [four, byte_ofNat (show n % 256 < 256 by omega)]
  · simp [four, byte_ofNat (show n / 256 % 256 < 256 by omega)]
  · simp [four, byte_ofNat (show n / 65536 % 256 < 256 by omega)]
  · simp [four, byte_ofNat (show n / 16777216 % 256 < 256 by omega)]
    omega

set_option maxRecDepth 100000 in
theorem rfour_any (n : Nat) (h : n < 4294967296) (w : World) :
    Calls Tryz.prog 50 #[.int .i64 n] w fun e w' => e = .returned (.string ⟨(four n).toArray⟩) ∧ Below w.heap.size w w' := by
  have ht := four_text n h w
  go_enter Tryz.func50, Tryz.ntmps50
  go_wp2
  go_ret
  exact ⟨rfl, (Below.refl _ w).alloc (Nat.le_refl _) _⟩

theorem num4_at (s : ByteArray) (h4 : 4 ≤ s.size) : num4 s.data.toList = s[0].toNat + s[1].toNat * 256 + s[2].toNat * 65536 + s[3].toNat * 16777216 := by
  have hl := Lib.size_eq s
  have e : ∀ j (hj : j < s.size), s.data.toList.getD j 0 = s[j] := fun j hj => by
    rw [List.getD_eq_getElem?_getD, Lib.data_getElem? s j hj]
    rfl
  unfold num4
  rw [e 0 (by omega), e 1 (by omega), e 2 (by omega), e 3 (by omega)]

set_option maxRecDepth 100000 in
theorem rnum_any (s : ByteArray) (h4 : 4 ≤ s.size) (w : World) :
    Calls Tryz.prog 60 #[.string s] w fun e w' => e = .returned (.int .i64 (num4 s.data.toList)) ∧ ∃ m, w' = w.drewN m := by
  have k0 : 0 < s.size := by omega
  have k1 : 1 < s.size := by omega
  have k2 : 2 < s.size := by omega
  have k3 : 3 < s.size := by omega
  have HN : Hid (num4 s.data.toList = s[0].toNat + s[1].toNat * 256 + s[2].toNat * 65536 + s[3].toNat * 16777216) := num4_at s h4
  obtain ⟨c0, e0⟩ : ∃ c, s[0].toNat = c := ⟨_, rfl⟩
  obtain ⟨c1, e1⟩ : ∃ c, s[1].toNat = c := ⟨_, rfl⟩
  obtain ⟨c2, e2⟩ : ∃ c, s[2].toNat = c := ⟨_, rfl⟩
  obtain ⟨c3, e3⟩ : ∃ c, s[3].toNat = c := ⟨_, rfl⟩
  have b0 : c0 < 256 := by rw [← e0]; exact byte_lt _
  have b1 : c1 < 256 := by rw [← e1]; exact byte_lt _
  have b2 : c2 < 256 := by rw [← e2]; exact byte_lt _
  have b3 : c3 < 256 := by rw [← e3]; exact byte_lt _
  rw [e0, e1, e2, e3] at HN
  go_enter Tryz.func60, Tryz.ntmps60
  go_wp2
  go_region
  all_goals (go_wp2; go_ret)
  rw [HN.out]
  exact ⟨rfl, 1, rfl⟩

theorem append_lists (xs ys : List UInt8) : (⟨xs.toArray⟩ : ByteArray) ++ (⟨ys.toArray⟩ : ByteArray) = ⟨(xs ++ ys).toArray⟩ := by
  apply ByteArray.ext
  rw [ByteArray.data_append]
  simp
theorem size_list (xs : List UInt8) : (⟨xs.toArray⟩ : ByteArray).size = xs.length := by rw [Lib.size_eq]
theorem append_text (xs : List UInt8) (s : ByteArray) : (⟨xs.toArray⟩ : ByteArray) ++ s = ⟨(xs ++ s.data.toList).toArray⟩ := by
  conv => lhs; rw [← Lib.mk_data s]
  rw [append_lists]

/-- Wrap's two answers. -/
def wrapOf (s : ByteArray) : ByteArray × Nat := if 524288 < s.size then (⟨#[]⟩, 1) else (⟨(frameOf s.data.toList).toArray⟩, 0)

set_option maxHeartbeats 800000 in
set_option maxRecDepth 100000 in
theorem rwrap_any (s : ByteArray) (w : World) :
    Calls Tryz.prog 21 #[.string s] w fun e w' => e = .returned (.tuple #[.string (wrapOf s).1, .int .i64 (wrapOf s).2]) ∧ Below w.heap.size w w' := by
  by_cases hb : 524288 < s.size
  · have e : wrapOf s = (⟨#[]⟩, 1) := by unfold wrapOf; rw [if_pos hb]
    rw [e]
    have hb' : (524288 : Int) < (s.size : Int) := by omega
    go_enter Tryz.func21, Tryz.ntmps21
    go_wp2
    go_ret2
    exact ⟨rfl, Below.refl _ _⟩
  · have hl := Lib.size_eq s
    have e : wrapOf s = (⟨(frameOf s.data.toList).toArray⟩, 0) := by unfold wrapOf; rw [if_neg hb]
    rw [e]
    have hb' : (s.size : Int) ≤ 524288 := by omega
    have q1 := rfour_any s.size (by omega)
    obtain ⟨A, hA⟩ : ∃ A : ByteArray, A = ⟨(four s.size).toArray⟩ := ⟨_, rfl⟩
    obtain ⟨B, hB⟩ : ∃ B : ByteArray, B = ⟨(four s.size ++ s.data.toList).toArray⟩ := ⟨_, rfl⟩
    obtain ⟨c, hc⟩ : ∃ c, c = crc (four s.size ++ s.data.toList) := ⟨_, rfl⟩
    obtain ⟨C, hC⟩ : ∃ C : ByteArray, C = ⟨(four c).toArray⟩ := ⟨_, rfl⟩
    obtain ⟨D, hD⟩ : ∃ D : ByteArray, D = ⟨(four s.size ++ four c).toArray⟩ := ⟨_, rfl⟩
    obtain ⟨F, hF⟩ : ∃ F : ByteArray, F = ⟨(frameOf s.data.toList).toArray⟩ := ⟨_, rfl⟩
    have a1 : A ++ s = B := by rw [hA, hB, append_text]
    have a2 : A ++ C = D := by rw [hA, hC, hD, append_lists]
    have a3 : D ++ s = F := by rw [hD, hF, append_text]; unfold frameOf; rw [← hl, ← hc, List.append_assoc]
    have z1 : A.size = 4 := by rw [hA, size_list, four_len]
    have z2 : C.size = 4 := by rw [hC, size_list, four_len]
    have z3 : D.size = 8 := by rw [hD, size_list, List.length_append, four_len, four_len]
    have z4 : B.size = 4 + s.size := by rw [hB, size_list, List.length_append, four_len, hl]
    have s1 : A.size + s.size ≤ 9223372036854775807 := by omega
    have s2 : A.size + C.size ≤ 9223372036854775807 := by omega
    have s3 : D.size + s.size ≤ 9223372036854775807 := by omega
    have q2 := rsum_any B (by omega)
    have q3 := rfour_any c (by rw [hc]; exact crc_lt _)
    rw [← hA] at q1
    rw [← hC] at q3
    have e2 : crc B.data.toList = c := by rw [hB, hc]
    rw [e2] at q2
    rw [← hF]
    clear hA hB hc hC hD hF z1 z2 z3 z4 e e2 hl
    go_enter Tryz.func21, Tryz.ntmps21
    go_wp2_with (first
      | (go_at_call 50; have d2 := d1; refine (q3 _).mono ?_; rintro e w2 ⟨rfl, b2⟩)
      | (go_at_call 51; refine (q2 _).mono ?_; rintro e w' ⟨rfl, rfl⟩)
      | (go_at_call 50; refine (q1 _).mono ?_; rintro e w1 ⟨rfl, b1⟩; have d1 : True := trivial))
    go_ret2
    exact ⟨rfl, b1.trans (b2.mono b1.size)⟩

end Go.Proofs.YtkdglkaeglhibaaGreatDoor
/-
  The contracts of the document's own reader of frames (package latchkeyref02): First, All, Texts, for every text. No condition but on sizes.
-/
namespace Go.Proofs.YtkdglkaeglhibaaGreatDoor
open Go.RowKit

/-- First's three answers on a text. -/
def firstT (s : ByteArray) : ByteArray × Nat × Nat := (⟨(firstOf s.data.toList).1.toArray⟩, (firstOf s.data.toList).2.1, (firstOf s.data.toList).2.2)

set_option maxHeartbeats 800000 in
set_option maxRecDepth 100000 in
theorem rfirst_any (s : ByteArray) (hs : s.size ≤ 9223372036854775000) (w : World) :
    Calls Tryz.prog 36 #[.string s] w fun e w' => e = .returned (.tuple #[.string (firstT s).1, .int .i64 (firstT s).2.1, .int .i64 (firstT s).2.2]) ∧ Below w.heap.size w w' := by
  have hl := Lib.size_eq s
  unfold firstT firstOf
  rw [← hl]
  clear hl
  by_cases h8 : s.size < 8
  · rw [if_pos h8]
    have h8' : (s.size : Int) < 8 := by omega
    go_enter Tryz.func36, Tryz.ntmps36
    go_wp2
    go_ret3
    exact ⟨rfl, Below.refl _ _⟩
  · rw [if_neg h8]
    have h8' : (8 : Int) ≤ (s.size : Int) := by omega
    have q1 := rnum_any s (by omega)
    obtain ⟨n, hn⟩ : ∃ n, n = num4 s.data.toList := ⟨_, rfl⟩
    have hnl := num4_lt s.data.toList
    rw [← hn] at q1 hnl ⊢
    by_cases hbig : 524288 < n
    · rw [if_pos hbig]
      have hbig' : (524288 : Int) < (n : Int) := by omega
      clear hn
      go_enter Tryz.func36, Tryz.ntmps36
      go_wp2_with (go_at_call 60; refine (q1 _).mono ?_; rintro e w1 ⟨rfl, m1, rfl⟩)
      go_ret3
      exact ⟨rfl, below_drewN (Below.refl _ _) _⟩
    · rw [if_neg hbig]
      have hbig' : (n : Int) ≤ 524288 := by omega
      by_cases hend : s.size - 8 < n
      · rw [if_pos hend]
        have hend' : (s.size : Int) - 8 < (n : Int) := by omega
        clear hn
        go_enter Tryz.func36, Tryz.ntmps36
        go_wp2_with (go_at_call 60; refine (q1 _).mono ?_; rintro e w1 ⟨rfl, m1, rfl⟩)
        go_ret3
        exact ⟨rfl, below_drewN (Below.refl _ _) _⟩
      · rw [if_neg hend]
        have hend' : (n : Int) ≤ (s.size : Int) - 8 := by omega
        have x1 : s.extract 8 (8 + n) = ⟨((s.data.toList.drop 8).take n).toArray⟩ := by rw [Lib.extract_eq, show 8 + n - 8 = n by omega]
        have x2 : (s.extract 0 4 ++ s.extract 8 (8 + n)).data.toList = s.data.toList.take 4 ++ (s.data.toList.drop 8).take n := by
          rw [x1, Lib.extract_eq, append_lists]
          simp
        have x3 : (s.extract 4 8).data.toList = (s.data.toList.drop 4).take 4 := Lib.extract_data s 4 8
        have hl := Lib.size_eq s
        have x4 : num4 ((s.data.toList.drop 4).take 4) = num4 (s.data.toList.drop 4) := by
          unfold num4
          simp
        have z1 : (s.extract 0 4).size ≤ 4 := by rw [Lib.size_eq, Lib.extract_data]; simp; omega
        have z2 : (s.extract 8 (8 + n)).size ≤ n := by rw [x1, size_list]; simp; omega
        have z3 : 4 ≤ (s.extract 4 8).size := by rw [Lib.size_eq, x3]; simp; omega
        have z4 : (s.extract 0 4 ++ s.extract 8 (8 + n)).size ≤ 4 + n := by rw [ByteArray.size_append]; omega
        have hsum : (s.extract 0 4).size + (s.extract 8 (8 + n)).size ≤ 9223372036854775807 := by omega
        have q2 := rsum_any (s.extract 0 4 ++ s.extract 8 (8 + n)) (by omega)
        have q3 := rnum_any (s.extract 4 8) z3
        rw [x2] at q2
        rw [x3, x4] at q3
        obtain ⟨c, hc⟩ : ∃ c, c = crc (s.data.toList.take 4 ++ (s.data.toList.drop 8).take n) := ⟨_, rfl⟩
        obtain ⟨m, hm⟩ : ∃ m, m = num4 (s.data.toList.drop 4) := ⟨_, rfl⟩
        rw [← hc] at q2 ⊢
        rw [← hm] at q3 ⊢
        have X1 : Hid (s.extract 8 (8 + n) = ⟨((s.data.toList.drop 8).take n).toArray⟩) := x1
        have i4 : (4 : Int) ≤ (s.size : Int) := by omega
        have i8 : (8 : Int) + (n : Int) ≤ (s.size : Int) := by omega
        have hwr : IntKind.i64.wrap (8 + (n : Int)) = 8 + (n : Int) := IntWalk.i64_in _ ⟨by omega, by omega⟩
        have htn : (8 + (n : Int)).toNat = 8 + n := by omega
        have i0 : (0 : Int) ≤ 8 + (n : Int) := by omega
        have j8 : (8 : Int) ≤ 8 + (n : Int) := by omega
        obtain ⟨X4, he4⟩ : ∃ X4, s.extract 0 4 = X4 := ⟨_, rfl⟩
        obtain ⟨X8, he8⟩ : ∃ X8, s.extract 8 (8 + n) = X8 := ⟨_, rfl⟩
        rw [he8] at X1
        rw [he4, he8] at hsum q2
        have hlt : (9223372036854775807 < X4.size + X8.size) = False := eq_false (by omega)
        have k2 : ∀ w0 : World, Calls Tryz.prog 51 #[.string (X4 ++ X8)] w0 fun e w' => e = .returned (.int .i64 c) ∧ w' = w0 := fun w0 => (q2 w0).mono fun e w' ⟨he, hw⟩ => ⟨he, hw.symm⟩
        clear hn hc hm x1 x2 x3 x4 hl z1 z2 z3 z4 q2
        by_cases hcm : c = m
        · have hcm' : ((c : Int) != (m : Int)) = false := by simp; omega
          rw [if_neg (by simpa using hcm)]
          clear hcm
          go_enter Tryz.func36, Tryz.ntmps36
          go_wp2_with (go_at_call 60; refine (q1 _).mono ?_; rintro e w1 ⟨rfl, m1, hw1⟩; have HW : Hid (w1 = w.drewN m1) := hw1; clear hw1)
          go_quiet (first | (go_at_call 51; refine Calls.quiet_of_same (k2 _)) | (go_at_call 60; refine Calls.quiet_of (q3 _)))
          go_wp2
          go_ret3
          rw [← X1.out]
          exact ⟨rfl, by rw [HW.out]; exact below_drewN (below_drewN (Below.refl _ _) _) _⟩
        · have hcm' : ((c : Int) != (m : Int)) = true := by simp; omega
          rw [if_pos hcm]
          clear hcm
          go_enter Tryz.func36, Tryz.ntmps36
          go_wp2_with (go_at_call 60; refine (q1 _).mono ?_; rintro e w1 ⟨rfl, m1, hw1⟩; have HW : Hid (w1 = w.drewN m1) := hw1; clear hw1)
          go_quiet (first | (go_at_call 51; refine Calls.quiet_of_same (k2 _)) | (go_at_call 60; refine Calls.quiet_of (q3 _)))
          go_wp2
          go_ret3
          exact ⟨rfl, by rw [HW.out]; exact below_drewN (below_drewN (Below.refl _ _) _) _⟩
end Go.Proofs.YtkdglkaeglhibaaGreatDoor
/-
  The contracts of package frame as it landed: goOn, sumOfBoth, Sum, numberText, number, strings.Clone, Wrap, First, All answer as the document's plain functions. The conditions: the table of 16 numbers holds what its initialiser lays ('Tab'), and sizes.
-/
namespace Go.Proofs.YtkdglkaeglhibaaGreatDoor
open Go.RowKit

/-- The table lies in memory: at place i what 4 bits make of i. -/
def Tab (w : World) : Prop := 3 < w.heap.size ∧ ∀ i, i < 16 → w.cell? ⟨3, i, none⟩ = some (.int .u32 ((bitSteps 4 i : Nat) : Int))
theorem Tab.below {w w' : World} (h : Tab w) (b : Below w.heap.size w w') : Tab w' := ⟨Nat.lt_of_lt_of_le h.1 b.size, fun i hi => (b.cell (by exact h.1)).trans (h.2 i hi)⟩

theorem split_half (x : Nat) : x % 16 ^^^ (x / 16) * 2 ^ 4 = x := by
  apply Nat.eq_of_testBit_eq
  intro i
  rw [Nat.testBit_xor, show (16 : Nat) = 2 ^ 4 from rfl, Nat.testBit_mod_two_pow, Nat.testBit_mul_two_pow, Nat.testBit_div_two_pow]
  by_cases h : i < 4
  · simp [h, show ¬ 4 ≤ i by omega]
  · simp [h, show 4 ≤ i by omega, show i - 4 + 4 = i by omega]
theorem half_step (x : Nat) : bitSteps 4 x = (x / 16) ^^^ bitSteps 4 (x % 16) := by
  conv => lhs; rw [← split_half x, bitSteps_xor, bitSteps_even]
  rw [Nat.xor_comm]
theorem u32_low4 {r : Nat} (h : r < 4294967296) : bits .and .u32 (r : Int) 15 = ((r % 16 : Nat) : Int) := by
  have := u32_and_nat r 15 h (by decide)
  rw [show (15 : Nat) = 2 ^ 4 - 1 from rfl, Nat.and_two_pow_sub_one_eq_mod] at this
  simpa using this

set_option maxHeartbeats 800000 in
set_option maxRecDepth 100000 in
theorem goOn_any (r0 : Nat) (hr0 : r0 < 4294967296) (s : ByteArray) (hs : s.size ≤ 9223372036854775807) (w : World) (hT : Tab w) :
    Calls Tryz.prog 88 #[.int .u32 r0, .string s] w fun e w' => e = .returned (.int .u32 (crcFrom r0 s.data.toList)) ∧ w = w' := by
  have HT : Hid (∀ i, i < 16 → w.cell? ⟨3, i, none⟩ = some (.int .u32 ((bitSteps 4 i : Nat) : Int))) := hT.2
  clear hT
  go_enter Tryz.func88, Tryz.ntmps88
  go_wp2
  go_loop [0, 5, 8] (fun x _ i => ∃ (k r : Nat), k ≤ s.size ∧ i = .int .i64 k ∧ x = .int .u32 r ∧ r < 4294967296 ∧ crcFrom r0 s.data.toList = crcFrom r (s.data.toList.drop k)) (fun _ _ i => s.size - (intOf i).toNat)
  case atStart => exact ⟨0, r0, by omega, rfl, rfl, hr0, by simp⟩
  case round =>
    obtain ⟨k, r, hk, rfl, rfl, hr, hc⟩ := hrel
    by_cases hlt : k < s.size
    · obtain ⟨c, hcb⟩ : ∃ c, s[k].toNat = c := ⟨_, rfl⟩
      have hc256 : c < 256 := by rw [← hcb]; exact UInt8.toNat_lt _
      obtain ⟨Z, hZ⟩ : ∃ Z, Z = r ^^^ c := ⟨_, rfl⟩
      have hZl : Z < 4294967296 := by rw [hZ]; exact Nat.xor_lt_two_pow (n := 32) hr (by omega)
      obtain ⟨Y, hY⟩ : ∃ Y, Y = bitSteps 4 Z := ⟨_, rfl⟩
      have hYl : Y < 4294967296 := by rw [hY]; exact bitSteps_lt 4 hZl
      obtain ⟨X, hX⟩ : ∃ X, X = bitSteps 4 Y := ⟨_, rfl⟩
      have hXl : X < 4294967296 := by rw [hX]; exact bitSteps_lt 4 hYl
      have HC : Hid (crcFrom r0 s.data.toList = crcFrom X (s.data.toList.drop (k + 1))) := hc.trans (crc_at s r k c X hlt hcb (by rw [hX, hY, hZ]; rfl))
      have hx := u32_xor_nat r c hr (by omega)
      rw [← hZ] at hx
      have a1 := u32_low4 hZl
      have a2 := u32_low4 hYl
      obtain ⟨i1, hi1⟩ : ∃ i, i = Z % 16 := ⟨_, rfl⟩
      obtain ⟨i2, hi2⟩ : ∃ i, i = Y % 16 := ⟨_, rfl⟩
      have g1 := HT.out i1 (by omega)
      have g2 := HT.out i2 (by omega)
      have l1 : bitSteps 4 i1 < 4294967296 := bitSteps_lt 4 (by omega)
      have l2 : bitSteps 4 i2 < 4294967296 := bitSteps_lt 4 (by omega)
      have e1 : (Z / 16) ^^^ bitSteps 4 i1 = Y := by rw [hY, hi1, ← half_step]
      have e2 : (Y / 16) ^^^ bitSteps 4 i2 = X := by rw [hX, hi2, ← half_step]
      obtain ⟨b1, hb1⟩ : ∃ b, b = bitSteps 4 i1 := ⟨_, rfl⟩
      obtain ⟨b2, hb2⟩ : ∃ b, b = bitSteps 4 i2 := ⟨_, rfl⟩
      rw [← hb1] at g1 l1 e1
      rw [← hb2] at g2 l2 e2
      have x1 : bits .xor .u32 ((Z : Int) / 16) (b1 : Int) = (Y : Int) := by
        have := u32_xor_nat (Z / 16) b1 (by omega) l1
        rw [e1] at this
        exact this
      have x2 : bits .xor .u32 ((Y : Int) / 16) (b2 : Int) = (X : Int) := by
        have := u32_xor_nat (Y / 16) b2 (by omega) l2
        rw [e2] at this
        exact this
      rw [← hi1] at a1
      rw [← hi2] at a2
      have j1 : (i1 : Int) < 16 := by omega
      have j2 : (i2 : Int) < 16 := by omega
      clear hc hZ hY hX hi1 hi2 hb1 hb2 e1 e2 HT
      go_wp2
      go_round
      case rel => exact ⟨k + 1, X, by omega, by go_num, rfl, hXl, HC.out⟩
      case measure => simp [intOf]; omega
    · have HV : Hid (crcFrom r0 s.data.toList = r) := by
        show crcFrom r0 s.data.toList = _
        rw [hc, drop_past s k (by omega)]
        rfl
      clear hc
      go_wp2
      go_ret
      rw [HV.out]
      exact ⟨rfl, rfl⟩

set_option maxRecDepth 100000 in
theorem sumOfBoth_any (a b : ByteArray) (ha : a.size ≤ 9223372036854775807) (hb : b.size ≤ 9223372036854775807) (w : World) (hT : Tab w) :
    Calls Tryz.prog 68 #[.string a, .string b] w fun e w' => e = .returned (.int .i64 (crc (a.data.toList ++ b.data.toList))) ∧ w = w' := by
  have l1 : crcFrom 4294967295 a.data.toList < 4294967296 := crcFrom_lt _ (by decide)
  have q1 := goOn_any 4294967295 (by decide) a ha w hT
  obtain ⟨x, hx⟩ : ∃ x, x = crcFrom 4294967295 a.data.toList := ⟨_, rfl⟩
  rw [← hx] at l1 q1
  have l2 : crcFrom x b.data.toList < 4294967296 := crcFrom_lt _ l1
  have q2 := goOn_any x l1 b hb w hT
  obtain ⟨y, hy⟩ : ∃ y, y = crcFrom x b.data.toList := ⟨_, rfl⟩
  rw [← hy] at l2 q2
  have HV : Hid (crc (a.data.toList ++ b.data.toList) = 4294967295 - y) := by
    show crc _ = _
    unfold crc
    rw [crcFrom_append, ← hx, ← hy]
  have hn : Hid (wrap64 (bits .xor .u32 IntKind.u32.max (y : Int)) = ((4294967295 - y : Nat) : Int)) := back32 l2
  clear hx hy hT
  go_enter Tryz.func68, Tryz.ntmps68
  go_wp2_with (first
    | (go_at_call 88; have d2 := d1; refine q2.mono ?_; rintro e w' ⟨rfl, rfl⟩)
    | (go_at_call 88; refine q1.mono ?_; rintro e w' ⟨rfl, rfl⟩; have d1 : True := trivial))
  go_ret
  rw [HV.out, ← hn.out]
  exact ⟨rfl, rfl⟩

set_option maxRecDepth 100000 in
theorem fnumber_any (s : ByteArray) (h4 : 4 ≤ s.size) (w : World) :
    Calls Tryz.prog 97 #[.string s] w fun e w' => e = .returned (.int .i64 (num4 s.data.toList)) ∧ w = w' := by
  have k0 : 0 < s.size := by omega
  have k1 : 1 < s.size := by omega
  have k2 : 2 < s.size := by omega
  have k3 : 3 < s.size := by omega
  have HN : Hid (num4 s.data.toList = s[0].toNat + s[1].toNat * 256 + s[2].toNat * 65536 + s[3].toNat * 16777216) := num4_at s h4
  obtain ⟨c0, e0⟩ : ∃ c, s[0].toNat = c := ⟨_, rfl⟩
  obtain ⟨c1, e1⟩ : ∃ c, s[1].toNat = c := ⟨_, rfl⟩
  obtain ⟨c2, e2⟩ : ∃ c, s[2].toNat = c := ⟨_, rfl⟩
  obtain ⟨c3, e3⟩ : ∃ c, s[3].toNat = c := ⟨_, rfl⟩
  have b0 : c0 < 256 := by rw [← e0]; exact byte_lt _
  have b1 : c1 < 256 := by rw [← e1]; exact byte_lt _
  have b2 : c2 < 256 := by rw [← e2]; exact byte_lt _
  have b3 : c3 < 256 := by rw [← e3]; exact byte_lt _
  rw [e0, e1, e2, e3] at HN
  go_enter Tryz.func97, Tryz.ntmps97
  go_wp2
  refine wp_loop_rounds 5 ?_
  rw [rounds_succ]
  go_wp2
  rw [rounds_succ]
  go_wp2
  rw [rounds_succ]
  go_wp2
  rw [rounds_succ]
  go_wp2
  rw [rounds_succ]
  go_wp2
  go_ret
  rw [HN.out]
  exact ⟨rfl, rfl⟩

end Go.Proofs.YtkdglkaeglhibaaGreatDoor
/-
  The contracts of package frame as it landed, the rest: numberText, strings.Clone, Wrap, First, All answer as the document's plain functions. The conditions: the table of 16 numbers holds what its initialiser lays ('Tab'), and sizes.
-/
namespace Go.Proofs.YtkdglkaeglhibaaGreatDoor
open Go.RowKit

theorem Tryz.info5 : (Tryz.prog.info? 5).map (fun i => (i.zero, i.size, i.bytes)) = some (some (.int .u8 0), 1, 1) := by kernel_rfl

theorem fown_text (n : Nat) (h : n < 4294967296) (w : World) :
    (convert 63 9 (.slice (some ⟨w.heap.size, 0, none⟩) 4 4)).run Tryz.prog (w.alloc (.cells #[.int .u8 ((n : Int) % 256), .int .u8 ((n : Int) / 256 % 256), .int .u8 ((n : Int) / 256 / 256 % 256), .int .u8 ((n : Int) / 256 / 256 / 256)] 142)) =
      .ok (.string ⟨(four n).toArray⟩) (w.alloc (.cells #[.int .u8 ((n : Int) % 256), .int .u8 ((n : Int) / 256 % 256), .int .u8 ((n : Int) / 256 / 256 % 256), .int .u8 ((n : Int) / 256 / 256 / 256)] 142)) := by
  have hl : (four n).length = 4 := rfl
  refine run_convert_bytes_back _ 63 9 5 ⟨w.heap.size, 0, none⟩ 4 (four n) Tryz.underlying63 Tryz.underlying5 Tryz.underlying9 ?_
  intro j hj
  have hrow := heap_alloc_new w (.cells #[.int .u8 ((n : Int) % 256), .int .u8 ((n : Int) / 256 % 256), .int .u8 ((n : Int) / 256 / 256 % 256), .int .u8 ((n : Int) / 256 / 256 / 256)] 142)
  have hc := Lib.cells_of_row hrow 4 j
  rw [hc (.int .u8 ((four n)[j].toNat : Int)) ?_]
  rcases (show j = 0 ∨ j = 1 ∨ j = 2 ∨ j = 3 by omega) with rfl | rfl | rfl | rfl
  · simp [four, byte_ofNat (show n % 256 < 256 by omega)]
  · simp [four, byte_ofNat (show n / 256 % 256 < 256 by omega)]
  · simp [four, byte_ofNat (show n / 65536 % 256 < 256 by omega)]
    omega
  · simp [four, byte_ofNat (show n / 16777216 % 256 < 256 by omega)]
    omega

set_option maxHeartbeats 800000 in
set_option maxRecDepth 100000 in
theorem numberText_any (n : Nat) (h : n < 4294967296) (w : World) :
    Calls Tryz.prog 67 #[.int .i64 n] w fun e w' => e = .returned (.string ⟨(four n).toArray⟩) ∧ Below w.heap.size w w' := by
  have ht := fown_text n h w
  go_enter Tryz.func67, Tryz.ntmps67
  go_wp2
  refine wp_loop_rounds 5 ?_
  rw [rounds_succ]
  go_wp2
  rw [rounds_succ]
  go_wp2
  rw [rounds_succ]
  go_wp2
  rw [rounds_succ]
  go_wp2
  rw [rounds_succ]
  go_wp2
  go_ret
  exact ⟨rfl, (Below.refl _ w).alloc (Nat.le_refl _) _⟩

theorem is_empty {s : ByteArray} (h : s.size = 0) : s = ⟨#[]⟩ := ByteArray.ext (Array.eq_empty_of_size_eq_zero h)

theorem Tryz.cells5 : Tryz.prog.cellsOf 5 = 1 := by kernel_rfl

set_option maxRecDepth 100000 in
/-- internal/stringslite.Clone: the same bytes, in a row of its own. -/
theorem fclone_any (s : ByteArray) (hs : s.size ≤ 281474976710656) (w : World) :
    Calls Tryz.prog 62 #[.string s] w fun e w' => e = .returned (.string s) ∧ Below w.heap.size w w' := by
  by_cases h0 : s.size = 0
  · obtain rfl := is_empty h0
    go_enter Tryz.func62, Tryz.ntmps62
    go_wp2
    go_ret
    exact ⟨rfl, Below.refl _ _⟩
  · obtain ⟨i0, hi, hz0, hz1, hz2⟩ := info_parts Tryz.info5
    have hlen : s.data.toList.length = s.size := (Lib.size_eq s).symm
    -- the new row
    obtain ⟨C0, hC0⟩ : ∃ C0, C0 = madeCells (Value.int .u8 0).cells (((s.size : Nat) : Int).toNat * i0.size) := ⟨_, rfl⟩
    have hC0s : C0.size = s.size := by rw [hC0, size_madeCells, hz1]; simp
    have hmake : ∀ W : World, (Instr.makeSlice 63 (.int .i64 (s.size : Int)) (.int .i64 (s.size : Int))).run Tryz.prog W = .ok (.slice (some ⟨W.heap.size, 0, none⟩) s.size s.size) (W.alloc (.cells C0 5)) := by
      intro W
      have := run_make (P := Tryz.prog) W 63 5 i0 (.int .u8 0) Tryz.underlying63 hi hz0 .i64 .i64 (s.size : Int) (s.size : Int) (by omega) (by omega) (by rw [hz2]; omega) (by omega)
      rw [← hC0] at this
      simpa using this
    -- the bytes, copied into it
    have hcopy := Lib.run_copy_row_string (P := Tryz.prog) (w.alloc (.cells C0 5)) 63 9 3 5 w.heap.size 0 s.size s.size s C0 5 Tryz.underlying63 (by rw [hi]; simp [hz1]) (heap_alloc_new w _) (Nat.le_refl _) (by omega)
    obtain ⟨C1, hC1⟩ : ∃ C1, C1 = (C0.toList.take 0 ++ Lib.byteCells s.data.toList ++ C0.toList.drop (0 + s.size)).toArray := ⟨_, rfl⟩
    rw [← hC1] at hcopy
    have hC1l : C1.toList = Lib.byteCells s.data.toList := by
      rw [hC1]
      simp [List.drop_eq_nil_of_le (show C0.toList.length ≤ s.size by rw [Array.length_toList]; omega)]
    have hC1s : C1.size = s.size := by rw [← Array.length_toList, hC1l, Lib.byteCells_length, hlen]
    have hrow : ((w.alloc (.cells C0 5)).setRow w.heap.size C1).heap[w.heap.size]? = some (.cells C1 5 (0, 0)) := setRow_heap _ _ C0 _ 5 (0, 0) (heap_alloc_new w _)
    -- the row as a string
    have hstr := Lib.run_unsafeString_row (P := Tryz.prog) ((w.alloc (.cells C0 5)).setRow w.heap.size C1) 130 3 9 5 Tryz.underlying130 Tryz.cells5 w.heap.size C1.size (by unfold World.shape?; rw [hrow]) s.data.toList (by intro e; rw [e] at hlen; simp at hlen; omega) (by omega) (by omega)
      (fun j x hx => Lib.cells_of_row hrow C1.size j _ (by rw [List.take_of_length_le (by rw [Array.length_toList]; omega), hC1l]; simp [Lib.byteCells, hx]))
    rw [hlen] at hstr
    clear hC0 hC1 hlen
    go_enter Tryz.func62, Tryz.ntmps62
    go_wp2
    go_ret
    refine ⟨rfl, Lib.below_freeze (((Below.refl _ w).alloc (Nat.le_refl _) (.cells C0 5)).trans ?_) (p := ⟨w.heap.size, 0, none⟩) (Nat.le_refl _) _⟩
    exact ⟨rfl, rfl, rfl, by simp, fun k hk => setRow_other _ _ _ _ (by omega)⟩

theorem sclone_any (s : ByteArray) (hlim : s.size ≤ 281474976710656) (w : World) :
    Calls Tryz.prog 40 #[.string s] w fun e w' => e = .returned (.string s) ∧ Below w.heap.size w w' := by
  have q := fclone_any s hlim
  go_enter Tryz.func40, Tryz.ntmps40
  go_wp2_with (go_at_call 62; refine (q _).mono ?_; rintro e w1 ⟨rfl, b1⟩)
  go_ret
  exact ⟨rfl, b1⟩

set_option maxHeartbeats 800000 in
set_option maxRecDepth 100000 in
theorem wrap_any (s : ByteArray) (w : World) (hT : Tab w) :
    Calls Tryz.prog 45 #[.string s] w fun e w' => e = .returned (.tuple #[.string (wrapOf s).1, .int .i64 (wrapOf s).2]) ∧ Below w.heap.size w w' := by
  by_cases hb : 524288 < s.size
  · have e : wrapOf s = (⟨#[]⟩, 1) := by unfold wrapOf; rw [if_pos hb]
    rw [e]
    have hb' : (524288 : Int) < (s.size : Int) := by omega
    go_enter Tryz.func45, Tryz.ntmps45
    go_wp2
    go_ret2
    exact ⟨rfl, Below.refl _ _⟩
  · have hl := Lib.size_eq s
    have e : wrapOf s = (⟨(frameOf s.data.toList).toArray⟩, 0) := by unfold wrapOf; rw [if_neg hb]
    rw [e]
    have hb' : (s.size : Int) ≤ 524288 := by omega
    have q1 := numberText_any s.size (by omega)
    obtain ⟨A, hA⟩ : ∃ A : ByteArray, A = ⟨(four s.size).toArray⟩ := ⟨_, rfl⟩
    obtain ⟨c, hc⟩ : ∃ c, c = crc (four s.size ++ s.data.toList) := ⟨_, rfl⟩
    obtain ⟨C, hC⟩ : ∃ C : ByteArray, C = ⟨(four c).toArray⟩ := ⟨_, rfl⟩
    obtain ⟨D, hD⟩ : ∃ D : ByteArray, D = ⟨(four s.size ++ four c).toArray⟩ := ⟨_, rfl⟩
    obtain ⟨F, hF⟩ : ∃ F : ByteArray, F = ⟨(frameOf s.data.toList).toArray⟩ := ⟨_, rfl⟩
    have a2 : A ++ C = D := by rw [hA, hC, hD, append_lists]
    have a3 : D ++ s = F := by rw [hD, hF, append_text]; unfold frameOf; rw [← hl, ← hc, List.append_assoc]
    have z1 : A.size = 4 := by rw [hA, size_list, four_len]
    have z2 : C.size = 4 := by rw [hC, size_list, four_len]
    have z3 : D.size = 8 := by rw [hD, size_list, List.length_append, four_len, four_len]
    have s2 : A.size + C.size ≤ 9223372036854775807 := by omega
    have s3 : D.size + s.size ≤ 9223372036854775807 := by omega
    have q2 := sumOfBoth_any A s (by omega) (by omega)
    have q3 := numberText_any c (by rw [hc]; exact crc_lt _)
    rw [← hA] at q1
    rw [← hC] at q3
    have e2 : crc (A.data.toList ++ s.data.toList) = c := by rw [hA, hc]
    rw [e2] at q2
    rw [← hF]
    clear hA hc hC hD hF z1 z2 z3 e e2 hl
    go_enter Tryz.func45, Tryz.ntmps45
    go_wp2_with (first
      | (go_at_call 67; have d2 := d1; refine (q3 _).mono ?_; rintro e w2 ⟨rfl, b2⟩)
      | (go_at_call 68; refine (q2 _ (by exact hT.below b1)).mono ?_; rintro e w' ⟨rfl, rfl⟩; have d1 : True := trivial)
      | (go_at_call 67; refine (q1 _).mono ?_; rintro e w1 ⟨rfl, b1⟩))
    go_ret2
    exact ⟨rfl, b1.trans (b2.mono b1.size)⟩

end Go.Proofs.YtkdglkaeglhibaaGreatDoor
/-
  The contracts of package frame's First and All as they landed: they answer as the document's plain functions. The conditions: the table of 16 numbers holds what its initialiser lays ('Tab'), and sizes.
-/
namespace Go.Proofs.YtkdglkaeglhibaaGreatDoor
open Go.RowKit

theorem Tab.drewN {w : World} (h : Tab w) (m : Nat) : Tab (w.drewN m) := h.below (below_drewN (Below.refl _ _) m)

set_option maxHeartbeats 800000 in
set_option maxRecDepth 100000 in
theorem first_any (s : ByteArray) (hs : s.size ≤ 1099511627776) (w : World) (hT : Tab w) :
    Calls Tryz.prog 71 #[.string s] w fun e w' => e = .returned (.tuple #[.string (firstT s).1, .int .i64 (firstT s).2.1, .int .i64 (firstT s).2.2]) ∧ Below w.heap.size w w' := by
  have hl := Lib.size_eq s
  unfold firstT firstOf
  rw [← hl]
  by_cases h8 : s.size < 8
  · rw [if_pos h8]
    have h8' : (s.size : Int) < 8 := by omega
    clear hl
    go_enter Tryz.func71, Tryz.ntmps71
    go_wp2
    go_ret3
    exact ⟨rfl, Below.refl _ _⟩
  · rw [if_neg h8]
    have h8' : (8 : Int) ≤ (s.size : Int) := by omega
    have d4 : (s.extract 0 4).data.toList = s.data.toList.take 4 := by rw [Lib.extract_data]; simp
    have d5 : (s.extract 4 8).data.toList = (s.data.toList.drop 4).take 4 := Lib.extract_data s 4 8
    have d8 : (s.extract 8 s.size).data.toList = s.data.toList.drop 8 := Lib.extract_to_end s 8
    obtain ⟨X4, he4⟩ : ∃ X4, s.extract 0 4 = X4 := ⟨_, rfl⟩
    obtain ⟨X5, he5⟩ : ∃ X5, s.extract 4 8 = X5 := ⟨_, rfl⟩
    obtain ⟨X8, he8⟩ : ∃ X8, s.extract 8 s.size = X8 := ⟨_, rfl⟩
    rw [he4] at d4
    rw [he5] at d5
    rw [he8] at d8
    have z4 : 4 ≤ X4.size := by rw [Lib.size_eq, d4]; simp; omega
    have z4' : X4.size ≤ 4 := by rw [Lib.size_eq, d4]; simp; omega
    have z5 : 4 ≤ X5.size := by rw [Lib.size_eq, d5]; simp; omega
    have z8 : X8.size + 8 = s.size := by rw [Lib.size_eq, d8, List.length_drop, ← hl]; omega
    have q1 := fnumber_any X4 z4
    have x1 : num4 X4.data.toList = num4 s.data.toList := by rw [d4]; unfold num4; simp
    rw [x1] at q1
    obtain ⟨n, hn⟩ : ∃ n, n = num4 s.data.toList := ⟨_, rfl⟩
    have hnl := num4_lt s.data.toList
    rw [← hn] at q1 hnl ⊢
    by_cases hbig : 524288 < n
    · rw [if_pos hbig]
      have hbig' : (524288 : Int) < (n : Int) := by omega
      clear hn hl d4 d5 d8 x1
      go_enter Tryz.func71, Tryz.ntmps71
      go_wp2
      go_quiet (fail)
      go_wp2_with (go_at_call 97; refine (q1 _).mono ?_; rintro e w' ⟨rfl, rfl⟩)
      go_ret3
      exact ⟨rfl, below_drewN (Below.refl _ _) _⟩
    · rw [if_neg hbig]
      have hbig' : (n : Int) ≤ 524288 := by omega
      by_cases hend : s.size - 8 < n
      · rw [if_pos hend]
        have hend' : (X8.size : Int) < (n : Int) := by omega
        clear hn hl d4 d5 d8 x1
        go_enter Tryz.func71, Tryz.ntmps71
        go_wp2
        go_quiet (fail)
        go_wp2_with (go_at_call 97; refine (q1 _).mono ?_; rintro e w' ⟨rfl, rfl⟩)
        go_ret3
        exact ⟨rfl, below_drewN (Below.refl _ _) _⟩
      · rw [if_neg hend]
        have hend' : (n : Int) ≤ (X8.size : Int) := by omega
        have dt : (X8.extract 0 n).data.toList = (s.data.toList.drop 8).take n := by rw [Lib.extract_data, d8]; simp
        obtain ⟨X, heX⟩ : ∃ X, X8.extract 0 n = X := ⟨_, rfl⟩
        rw [heX] at dt
        have zX : X.size ≤ n := by rw [Lib.size_eq, dt, List.length_take]; omega
        have q2 := fnumber_any X5 z5
        have x2 : num4 X5.data.toList = num4 (s.data.toList.drop 4) := by rw [d5]; unfold num4; simp
        have q3 := sumOfBoth_any X4 X (by omega) (by omega)
        have q4 := sclone_any X (by omega)
        rw [x2] at q2
        rw [d4, dt] at q3
        have X1 : Hid (X = ⟨((s.data.toList.drop 8).take n).toArray⟩) := by
          show X = _
          rw [← dt, Lib.mk_data]
        obtain ⟨c, hc⟩ : ∃ c, c = crc (s.data.toList.take 4 ++ (s.data.toList.drop 8).take n) := ⟨_, rfl⟩
        obtain ⟨m, hm⟩ : ∃ m, m = num4 (s.data.toList.drop 4) := ⟨_, rfl⟩
        rw [← hc] at q3 ⊢
        rw [← hm] at q2 ⊢
        clear hn hl d4 d5 d8 x1 x2 dt hc hm
        by_cases hcm : c = m
        · have hcm' : ((m : Int) != (c : Int)) = false := by simp; omega
          rw [if_neg (by simpa using hcm)]
          clear hcm
          go_enter Tryz.func71, Tryz.ntmps71
          go_wp2
          go_quiet (fail)
          go_wp2_with (first
            | (go_at_call 40; refine (q4 _).mono ?_; rintro e w4 ⟨rfl, b4⟩)
            | (go_at_call 68; refine (q3 _ (by exact hT.drewN _)).mono ?_; rintro e w' ⟨rfl, rfl⟩)
            | (go_at_call 97; have d2 := d1; refine (q2 _).mono ?_; rintro e w' ⟨rfl, rfl⟩)
            | (go_at_call 97; refine (q1 _).mono ?_; rintro e w' ⟨rfl, rfl⟩; have d1 : True := trivial))
          go_ret3
          rw [← X1.out]
          exact ⟨rfl, (below_drewN (Below.refl _ w) _).trans b4⟩
        · have hcm' : ((m : Int) != (c : Int)) = true := by simp; omega
          rw [if_pos hcm]
          clear hcm
          go_enter Tryz.func71, Tryz.ntmps71
          go_wp2
          go_quiet (fail)
          go_wp2_with (first
            | (go_at_call 68; refine (q3 _ (by exact hT.drewN _)).mono ?_; rintro e w' ⟨rfl, rfl⟩)
            | (go_at_call 97; have d2 := d1; refine (q2 _).mono ?_; rintro e w' ⟨rfl, rfl⟩)
            | (go_at_call 97; refine (q1 _).mono ?_; rintro e w' ⟨rfl, rfl⟩; have d1 : True := trivial))
          go_ret3
          exact ⟨rfl, below_drewN (Below.refl _ w) _⟩

end Go.Proofs.YtkdglkaeglhibaaGreatDoor
