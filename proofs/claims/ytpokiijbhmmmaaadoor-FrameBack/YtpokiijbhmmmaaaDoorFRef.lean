/-
  The contracts of the document's own sums and frames (package latchkeyref02): what they answer, for every text, and what has not turned. No condition but on sizes.
-/
import Derived.Test.YtpokiijbhmmmaaaDoorProg
import Derived.Test.YtpokiijbhmmmaaaDoorFPlain
import Derived.WalkSpells
import Derived.Lib.BufferRead
import Derived.Lib.IndexBytes
import Derived.Lib.AppendStr
import Derived.Deep.AppendLies
import Derived.Deep.QuietTactic
import Derived.BigQuiet
import Derived.WalkSmall
import Derived.Handy
namespace Go.Proofs.YtpokiijbhmmmaaaDoor
open Go.RowKit

theorem drop_at (s : ByteArray) (k : Nat) (h : k < s.size) : s.data.toList.drop k = s[k] :: s.data.toList.drop (k + 1) := by
  have h1 : k < s.data.toList.length := by rw [← Lib.size_eq]; exact h
  rw [List.drop_eq_getElem_cons h1]
  rfl
theorem drop_past (s : ByteArray) (k : Nat) (h : s.size ≤ k) : s.data.toList.drop k = [] := List.drop_eq_nil_of_le (by rw [← Lib.size_eq]; exact h)

theorem u32_low {r : Nat} (h : r < 4294967296) : bits .and .u32 (r : Int) 1 = (r : Int) % 2 := by
  have := u32_and_nat r 1 h (by decide)
  rw [show (1 : Nat) = 2 ^ 1 - 1 from rfl, Nat.and_two_pow_sub_one_eq_mod] at this
  simpa using this
theorem u32_not {r : Nat} (h : r < 4294967296) : bits .xor .u32 4294967295 (r : Int) = ((4294967295 - r : Nat) : Int) := by
  show IntKind.u32.wrap ((BitVec.ofInt 32 4294967295 ^^^ BitVec.ofInt 32 (r : Int)).toNat : Int) = _
  have e : BitVec.ofInt 32 4294967295 = BitVec.allOnes 32 := by decide
  rw [e, BitVec.allOnes_xor, BitVec.toNat_not, ofInt_u32 r (by omega), IntKind.wrap_u32]
  omega

theorem crc_at (s : ByteArray) (r k c T : Nat) (h : k < s.size) (hc : s[k].toNat = c) (hT : T = crcStep r c) : crcFrom r (s.data.toList.drop k) = crcFrom T (s.data.toList.drop (k + 1)) := by
  rw [drop_at s k h]
  show crcFrom (crcStep r s[k].toNat) _ = _
  rw [hc, hT]

theorem back32 {r : Nat} (h : r < 4294967296) : wrap64 (bits .xor .u32 IntKind.u32.max (r : Int)) = ((4294967295 - r : Nat) : Int) := by
  rw [show IntKind.u32.max = 4294967295 from rfl, u32_not h]
  unfold wrap64
  omega

set_option maxHeartbeats 800000 in
set_option maxRecDepth 100000 in
theorem rsum_any (s : ByteArray) (hs : s.size ≤ 9223372036854775807) (w : World) :
    Calls Tryd.prog 11 #[.string s] w fun e w' => e = .returned (.int .i64 (crc s.data.toList)) ∧ w = w' := by
  go_enter Tryd.func11, Tryd.ntmps11
  go_wp2
  go_loop [3, 4, 5, 6] (fun x i _ _ => ∃ (k r : Nat), k ≤ s.size ∧ i = .int .i64 k ∧ x = .int .u32 r ∧ r < 4294967296 ∧ crcFrom 4294967295 s.data.toList = crcFrom r (s.data.toList.drop k)) (fun _ i _ _ => s.size - (intOf i).toNat)
  case atStart => exact ⟨0, 4294967295, by omega, rfl, rfl, by decide, by simp⟩
  case round =>
    obtain ⟨k, r, hk, rfl, rfl, hr, hc⟩ := hrel
    by_cases hlt : k < s.size
    · obtain ⟨c, hcb⟩ : ∃ c, s[k].toNat = c := ⟨_, rfl⟩
      have hc256 : c < 256 := by rw [← hcb]; exact UInt8.toNat_lt _
      obtain ⟨T, hT⟩ : ∃ T, T = crcStep r c := ⟨_, rfl⟩
      have hTl : T < 4294967296 := by rw [hT]; exact crcStep_lt hr hc256
      have HC : Hid (crcFrom 4294967295 s.data.toList = crcFrom T (s.data.toList.drop (k + 1))) := hc.trans (crc_at s r k c T hlt hcb hT)
      obtain ⟨Z, hZ⟩ : ∃ Z, Z = r ^^^ c := ⟨_, rfl⟩
      have HT : Hid (bitSteps 8 Z = T) := by show bitSteps 8 Z = T; rw [hT, hZ]; rfl
      have hx := u32_xor_nat r c hr (by omega)
      have hxl : r ^^^ c < 4294967296 := Nat.xor_lt_two_pow (n := 32) hr (by omega)
      rw [← hZ] at hx hxl
      clear hc hT hZ
      go_wp2
      go_loop [3, 5, 6] (fun x i _ => ∃ (j y : Nat), j ≤ 8 ∧ i = .int .i64 j ∧ x = .int .u32 y ∧ y < 4294967296 ∧ bitSteps (8 - j) y = T) (fun _ i _ => 8 - (intOf i).toNat)
      case atStart => exact ⟨0, Z, by omega, rfl, rfl, hxl, HT.out⟩
      case round =>
        clear HT hx hxl
        obtain ⟨j, y, hj, rfl, rfl, hy, hb⟩ := hrel
        by_cases hj8 : j < 8
        · have hj8' : (j : Int) < 8 := by omega
          rw [show 8 - j = (8 - (j + 1)) + 1 by omega, bitSteps] at hb
          have hlow := u32_low hy
          by_cases hodd : y % 2 = 1
          · have hodd' : (y : Int) % 2 = 1 := by omega
            obtain ⟨Y, hY⟩ : ∃ Y, Y = (y / 2) ^^^ 3988292384 := ⟨_, rfl⟩
            have hYl : Y < 4294967296 := by rw [hY]; exact Nat.xor_lt_two_pow (n := 32) (by omega) (by decide)
            have hq : bits .xor .u32 ((y : Int) / 2) 3988292384 = (Y : Int) := by
              have := u32_xor_nat (y / 2) 3988292384 (by omega) (by decide)
              rw [← hY] at this
              exact this
            have e : bitStep y = Y := by unfold bitStep; rw [if_pos hodd, hY]
            rw [e] at hb
            have HB : Hid (bitSteps (8 - (j + 1)) Y = T) := hb
            clear hb hY e
            go_wp2
            go_round
            case rel => exact ⟨j + 1, Y, by omega, by go_num, rfl, hYl, HB.out⟩
            case measure => simp [intOf]; omega
          · have hodd' : (y : Int) % 2 = 0 := by omega
            have e : bitStep y = y / 2 := by unfold bitStep; rw [if_neg hodd]
            rw [e] at hb
            have HB : Hid (bitSteps (8 - (j + 1)) (y / 2) = T) := hb
            clear hb e
            go_wp2
            go_round
            case rel => exact ⟨j + 1, y / 2, by omega, by go_num, by go_num, by omega, HB.out⟩
            case measure => simp [intOf]; omega
        · have hj8' : (8 : Int) ≤ (j : Int) := by omega
          have e : y = T := by rw [show 8 - j = 0 by omega] at hb; exact hb
          subst e
          clear hb
          go_wp2
          go_round
          case rel => exact ⟨k + 1, y, by omega, by go_num, rfl, hy, HC.out⟩
          case measure => simp [intOf]; omega
    · have HV : Hid (crc s.data.toList = 4294967295 - r) := by
        show crc _ = _
        unfold crc
        rw [hc, drop_past s k (by omega)]
        rfl
      have hn : Hid (wrap64 (bits .xor .u32 IntKind.u32.max (r : Int)) = ((4294967295 - r : Nat) : Int)) := back32 hr
      clear hc
      go_wp2
      go_ret
      rw [HV.out, ← hn.out]
      exact ⟨rfl, rfl⟩

theorem byte_ofNat {n : Nat} (h : n < 256) : (UInt8.ofNat n).toNat = n := by
  rw [UInt8.toNat_ofNat']
  omega

theorem four_text (n : Nat) (h : n < 4294967296) (w : World) :
    (convert 40 9 (.slice (some ⟨w.heap.size, 0, none⟩) 4 4)).run Tryd.prog (w.alloc (.cells #[.int .u8 ((n : Int) % 256), .int .u8 ((n : Int) / 256 % 256), .int .u8 ((n : Int) / 65536 % 256), .int .u8 ((n : Int) / 16777216)] 5)) =
      .ok (.string ⟨(four n).toArray⟩) (w.alloc (.cells #[.int .u8 ((n : Int) % 256), .int .u8 ((n : Int) / 256 % 256), .int .u8 ((n : Int) / 65536 % 256), .int .u8 ((n : Int) / 16777216)] 5)) := by
  have hl : (four n).length = 4 := rfl
  refine run_convert_bytes_back _ 40 9 5 ⟨w.heap.size, 0, none⟩ 4 (four n) Tryd.underlying40 Tryd.underlying5 Tryd.underlying9 ?_
  intro j hj
  have hrow := heap_alloc_new w (.cells #[.int .u8 ((n : Int) % 256), .int .u8 ((n : Int) / 256 % 256), .int .u8 ((n : Int) / 65536 % 256), .int .u8 ((n : Int) / 16777216)] 5)
  have hc := Lib.cells_of_row hrow 4 j
  rw [hc (.int .u8 ((four n)[j].toNat : Int)) ?_]
  rcases (show j = 0 ∨ j = 1 ∨ j = 2 ∨ j = 3 by omega) with rfl | rfl | rfl | rfl
  · simp [four, byte_ofNat (show n % 256 < 256 by omega)]
  · simp [four, byte_ofNat (show n / 256 % 256 < 256 by omega)]
  · simp [four, byte_ofNat (show n / 65536 % 256 < 256 by omega)]
  · simp [four, byte_ofNat (show n / 16777216 % 256 < 256 by omega)]
    omega

set_option maxRecDepth 100000 in
theorem rfour_any (n : Nat) (h : n < 4294967296) (w : World) :
    Calls Tryd.prog 19 #[.int .i64 n] w fun e w' => e = .returned (.string ⟨(four n).toArray⟩) ∧ Below w.heap.size w w' := by
  have ht := four_text n h w
  go_enter Tryd.func19, Tryd.ntmps19
  go_wp2
  go_ret
  exact ⟨rfl, (Below.refl _ w).alloc (Nat.le_refl _) _⟩

theorem num4_at (s : ByteArray) (h4 : 4 ≤ s.size) : num4 s.data.toList = s[0].toNat + s[1].toNat * 256 + s[2].toNat * 65536 + s[3].toNat * 16777216 := by
  have hl := Lib.size_eq s
  have e : ∀ j (hj : j < s.size), s.data.toList.getD j 0 = s[j] := fun j hj => by
    rw [List.getD_eq_getElem?_getD, Lib.data_getElem? s j hj]
    rfl
  unfold num4
  rw [e 0 (by omega), e 1 (by omega), e 2 (by omega), e 3 (by omega)]

set_option maxRecDepth 100000 in
theorem rnum_any (s : ByteArray) (h4 : 4 ≤ s.size) (w : World) :
    Calls Tryd.prog 22 #[.string s] w fun e w' => e = .returned (.int .i64 (num4 s.data.toList)) ∧ ∃ m, w' = w.drewN m := by
  have k0 : 0 < s.size := by omega
  have k1 : 1 < s.size := by omega
  have k2 : 2 < s.size := by omega
  have k3 : 3 < s.size := by omega
  have HN : Hid (num4 s.data.toList = s[0].toNat + s[1].toNat * 256 + s[2].toNat * 65536 + s[3].toNat * 16777216) := num4_at s h4
  obtain ⟨c0, e0⟩ : ∃ c, s[0].toNat = c := ⟨_, rfl⟩
  obtain ⟨c1, e1⟩ : ∃ c, s[1].toNat = c := ⟨_, rfl⟩
  obtain ⟨c2, e2⟩ : ∃ c, s[2].toNat = c := ⟨_, rfl⟩
  obtain ⟨c3, e3⟩ : ∃ c, s[3].toNat = c := ⟨_, rfl⟩
  have b0 : c0 < 256 := by rw [← e0]; exact byte_lt _
  have b1 : c1 < 256 := by rw [← e1]; exact byte_lt _
  have b2 : c2 < 256 := by rw [← e2]; exact byte_lt _
  have b3 : c3 < 256 := by rw [← e3]; exact byte_lt _
  rw [e0, e1, e2, e3] at HN
  go_enter Tryd.func22, Tryd.ntmps22
  go_wp2
  go_region
  all_goals (go_wp2; go_ret)
  rw [HN.out]
  exact ⟨rfl, 1, rfl⟩

theorem append_lists (xs ys : List UInt8) : (⟨xs.toArray⟩ : ByteArray) ++ (⟨ys.toArray⟩ : ByteArray) = ⟨(xs ++ ys).toArray⟩ := by
  apply ByteArray.ext
  rw [ByteArray.data_append]
  simp
theorem size_list (xs : List UInt8) : (⟨xs.toArray⟩ : ByteArray).size = xs.length := by rw [Lib.size_eq]
theorem append_text (xs : List UInt8) (s : ByteArray) : (⟨xs.toArray⟩ : ByteArray) ++ s = ⟨(xs ++ s.data.toList).toArray⟩ := by
  conv => lhs; rw [← Lib.mk_data s]
  rw [append_lists]

/-- Wrap's two answers. -/
def wrapOf (s : ByteArray) : ByteArray × Nat := if 524288 < s.size then (⟨#[]⟩, 1) else (⟨(frameOf s.data.toList).toArray⟩, 0)

set_option maxHeartbeats 800000 in
set_option maxRecDepth 100000 in
theorem rwrap_any (s : ByteArray) (w : World) :
    Calls Tryd.prog 9 #[.string s] w fun e w' => e = .returned (.tuple #[.string (wrapOf s).1, .int .i64 (wrapOf s).2]) ∧ Below w.heap.size w w' := by
  by_cases hb : 524288 < s.size
  · have e : wrapOf s = (⟨#[]⟩, 1) := by unfold wrapOf; rw [if_pos hb]
    rw [e]
    have hb' : (524288 : Int) < (s.size : Int) := by omega
    go_enter Tryd.func9, Tryd.ntmps9
    go_wp2
    go_ret2
    exact ⟨rfl, Below.refl _ _⟩
  · have hl := Lib.size_eq s
    have e : wrapOf s = (⟨(frameOf s.data.toList).toArray⟩, 0) := by unfold wrapOf; rw [if_neg hb]
    rw [e]
    have hb' : (s.size : Int) ≤ 524288 := by omega
    have q1 := rfour_any s.size (by omega)
    obtain ⟨A, hA⟩ : ∃ A : ByteArray, A = ⟨(four s.size).toArray⟩ := ⟨_, rfl⟩
    obtain ⟨B, hB⟩ : ∃ B : ByteArray, B = ⟨(four s.size ++ s.data.toList).toArray⟩ := ⟨_, rfl⟩
    obtain ⟨c, hc⟩ : ∃ c, c = crc (four s.size ++ s.data.toList) := ⟨_, rfl⟩
    obtain ⟨C, hC⟩ : ∃ C : ByteArray, C = ⟨(four c).toArray⟩ := ⟨_, rfl⟩
    obtain ⟨D, hD⟩ : ∃ D : ByteArray, D = ⟨(four s.size ++ four c).toArray⟩ := ⟨_, rfl⟩
    obtain ⟨F, hF⟩ : ∃ F : ByteArray, F = ⟨(frameOf s.data.toList).toArray⟩ := ⟨_, rfl⟩
    have a1 : A ++ s = B := by rw [hA, hB, append_text]
    have a2 : A ++ C = D := by rw [hA, hC, hD, append_lists]
    have a3 : D ++ s = F := by rw [hD, hF, append_text]; unfold frameOf; rw [← hl, ← hc, List.append_assoc]
    have z1 : A.size = 4 := by rw [hA, size_list, four_len]
    have z2 : C.size = 4 := by rw [hC, size_list, four_len]
    have z3 : D.size = 8 := by rw [hD, size_list, List.length_append, four_len, four_len]
    have z4 : B.size = 4 + s.size := by rw [hB, size_list, List.length_append, four_len, hl]
    have s1 : A.size + s.size ≤ 9223372036854775807 := by omega
    have s2 : A.size + C.size ≤ 9223372036854775807 := by omega
    have s3 : D.size + s.size ≤ 9223372036854775807 := by omega
    have q2 := rsum_any B (by omega)
    have q3 := rfour_any c (by rw [hc]; exact crc_lt _)
    rw [← hA] at q1
    rw [← hC] at q3
    have e2 : crc B.data.toList = c := by rw [hB, hc]
    rw [e2] at q2
    rw [← hF]
    clear hA hB hc hC hD hF z1 z2 z3 z4 e e2 hl
    go_enter Tryd.func9, Tryd.ntmps9
    go_wp2_with (first
      | (go_at_call 19; have d2 := d1; refine (q3 _).mono ?_; rintro e w2 ⟨rfl, b2⟩)
      | (go_at_call 11; refine (q2 _).mono ?_; rintro e w' ⟨rfl, rfl⟩)
      | (go_at_call 19; refine (q1 _).mono ?_; rintro e w1 ⟨rfl, b1⟩; have d1 : True := trivial))
    go_ret2
    exact ⟨rfl, b1.trans (b2.mono b1.size)⟩

end Go.Proofs.YtpokiijbhmmmaaaDoor
