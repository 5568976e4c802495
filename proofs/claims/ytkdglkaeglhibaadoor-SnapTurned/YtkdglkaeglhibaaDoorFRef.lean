/-
  The contracts of the document's own sums and frames (package latchkeyref02): what they answer, for every text, and what has not turned. No condition but on sizes.
-/
import Derived.Test.YtkdglkaeglhibaaDoorProg
import Derived.Test.YtkdglkaeglhibaaDoorFPlain
import Derived.WalkSpells
import Derived.Lib.BufferRead
import Derived.Lib.IndexBytes
import Derived.Lib.AppendStr
import Derived.Deep.AppendLies
import Derived.Deep.QuietTactic
import Derived.BigQuiet
import Derived.WalkSmall
import Derived.Handy
namespace Go.Proofs.YtkdglkaeglhibaaDoor
open Go.RowKit

theorem drop_at (s : ByteArray) (k : Nat) (h : k < s.size) : s.data.toList.drop k = s[k] :: s.data.toList.drop (k + 1) := by
  have h1 : k < s.data.toList.length := by rw [← Lib.size_eq]; exact h
  rw [List.drop_eq_getElem_cons h1]
  rfl
theorem drop_past (s : ByteArray) (k : Nat) (h : s.size ≤ k) : s.data.toList.drop k = [] := List.drop_eq_nil_of_le (by rw [← Lib.size_eq]; exact h)

theorem u32_low {r : Nat} (h : r < 4294967296) : bits .and .u32 (r : Int) 1 = (r : Int) % 2 := by
  have := u32_and_nat r 1 h (by decide)
  rw [show (1 : Nat) = 2 ^ 1 - 1 from rfl, Nat.and_two_pow_sub_one_eq_mod] at this
  simpa using this
theorem u32_not {r : Nat} (h : r < 4294967296) : bits .xor .u32 4294967295 (r : Int) = ((4294967295 - r : Nat) : Int) := by
  show IntKind.u32.wrap ((BitVec.ofInt 32 4294967295 ^^^ BitVec.ofInt 32 (r : Int)).toNat : Int) = _
  have e : BitVec.ofInt 32 4294967295 = BitVec.allOnes 32 := by decide
  rw [e, BitVec.allOnes_xor, BitVec.toNat_not, ofInt_u32 r (by omega), IntKind.wrap_u32]
  omega

theorem crc_at (s : ByteArray) (r k c T : Nat) (h : k < s.size) (hc : s[k].toNat = c) (hT : T = crcStep r c) : crcFrom r (s.data.toList.drop k) = crcFrom T (s.data.toList.drop (k + 1)) := by
  rw [drop_at s k h]
  show crcFrom (crcStep r s[k].toNat) _ = _
  rw [hc, hT]

theorem back32 {r : Nat} (h : r < 4294967296) : wrap64 (bits .xor .u32 IntKind.u32.max (r : Int)) = ((4294967295 - r : Nat) : Int) := by
  rw [show IntKind.u32.max = 4294967295 from rfl, u32_not h]
  unfold wrap64
  omega

theorem byte_ofNat {n : Nat} (h : n < 256) : (UInt8.ofNat n).toNat = n := by
  rw [UInt8.toNat_ofNat']
  omega

theorem four_text (n : Nat) (h : n < 4294967296) (w : World) :
    (convert 36 9 (.slice (some ⟨w.heap.size, 0, none⟩) 4 4)).run Tryd.prog (w.alloc (.cells #[.int .u8 ((n : Int) % 256), .int .u8 ((n : Int) / 256 % 256), .int .u8 ((n : Int) / 65536 % 256), .int .u8 ((n : Int) / 16777216)] 5)) =
      .ok (.string ⟨(four n).toArray⟩) (w.alloc (.cells #[.int .u8 ((n : Int) % 256), .int .u8 ((n : Int) / 256 % 256), .int .u8 ((n : Int) / 65536 % 256), .int .u8 ((n : Int) / 16777216)] 5)) := by
  have hl : (four n).length = 4 := rfl
  refine run_convert_bytes_back _ 36 9 5 ⟨w.heap.size, 0, none⟩ 4 (four n) Tryd.underlying36 Tryd.underlying5 Tryd.underlying9 ?_
  intro j hj
  have hrow := heap_alloc_new w (.cells #[.int .u8 ((n : Int) % 256), .int .u8 ((n : Int) / 256 % 256), .int .u8 ((n : Int) / 65536 % 256), .int .u8 ((n : Int) / 16777216)] 5)
  have hc := Lib.cells_of_row hrow 4 j
  rw [hc (.int .u8 ((four n)[j].toNat : Int)) ?_]
  rcases (show j = 0 ∨ j = 1 ∨ j = 2 ∨ j = 3 by omega) with rfl | rfl | rfl | rfl
  · simp [four, byte_ofNat (show n % 256 < 256 by omega)]
  · simp [four, byte_ofNat (show n / 256 % 256 < 256 by omega)]
  · simp [four, byte_ofNat (show n / 65536 % 256 < 256 by omega)]
  · simp [four, byte_ofNat (show n / 16777216 % 256 < 256 by omega)]
    omega

theorem num4_at (s : ByteArray) (h4 : 4 ≤ s.size) : num4 s.data.toList = s[0].toNat + s[1].toNat * 256 + s[2].toNat * 65536 + s[3].toNat * 16777216 := by
  have hl := Lib.size_eq s
  have e : ∀ j (hj : j < s.size), s.data.toList.getD j 0 = s[j] := fun j hj => by
    rw [List.getD_eq_getElem?_getD, Lib.data_getElem? s j hj]
    rfl
  unfold num4
  rw [e 0 (by omega), e 1 (by omega), e 2 (by omega), e 3 (by omega)]

theorem append_lists (xs ys : List UInt8) : (⟨xs.toArray⟩ : ByteArray) ++ (⟨ys.toArray⟩ : ByteArray) = ⟨(xs ++ ys).toArray⟩ := by
  apply ByteArray.ext
  rw [ByteArray.data_append]
  simp
theorem size_list (xs : List UInt8) : (⟨xs.toArray⟩ : ByteArray).size = xs.length := by rw [Lib.size_eq]
theorem append_text (xs : List UInt8) (s : ByteArray) : (⟨xs.toArray⟩ : ByteArray) ++ s = ⟨(xs ++ s.data.toList).toArray⟩ := by
  conv => lhs; rw [← Lib.mk_data s]
  rw [append_lists]

/-- Wrap's two answers. -/
def wrapOf (s : ByteArray) : ByteArray × Nat := if 524288 < s.size then (⟨#[]⟩, 1) else (⟨(frameOf s.data.toList).toArray⟩, 0)

end Go.Proofs.YtkdglkaeglhibaaDoor
