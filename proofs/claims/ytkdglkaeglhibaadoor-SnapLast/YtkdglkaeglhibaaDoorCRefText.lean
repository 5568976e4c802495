/-
  The contracts of the document's own reader (numbers, texts, the end) and writer (numbers, texts), for every number and every text. No condition but on sizes.
-/
import Derived.Test.YtkdglkaeglhibaaDoorCRef
namespace Go.Proofs.YtkdglkaeglhibaaDoor
open Go.RowKit

theorem xU_lt (s : ByteArray) (b : Bool) : (xU s b).1 < 18446744073709551616 := by
  unfold xU
  split
  · simp
  · exact num_lt _ 0 0 (by omega) (by simp)
theorem xU_size (s : ByteArray) (b : Bool) : (xU s b).2.1.size ≤ s.size := by
  unfold xU
  split
  · exact Nat.le_refl _
  · rw [Lib.size_eq, Lib.extract_to_end, Lib.size_eq]
    simp

theorem back_not {N : Nat} (h : N < 18446744073709551616) : wrap64 (bits .xor .u64 IntKind.u64.max ((N : Int) / 2)) = -((N : Int) / 2) - 1 := by
  rw [show IntKind.u64.max = 18446744073709551615 from rfl, u64_not (by omega) (by omega)]
  unfold wrap64
  omega

/-- What reading a text makes of the document's reader. -/
def xT (s : ByteArray) (b : Bool) : ByteArray × ByteArray × Bool :=
  if (xU s b).2.2 = true ∨ 524288 < (xU s b).1 ∨ (xU s b).2.1.size < (xU s b).1 then (⟨#[]⟩, (xU s b).2.1, true) else ((xU s b).2.1.extract 0 (xU s b).1, (xU s b).2.1.extract (xU s b).1 (xU s b).2.1.size, (xU s b).2.2)

theorem own_text {base : Nat} {w : World} {v : Value} {bs : List UInt8} (hown : w.ownsRow base 5 1 v bs.length (Lib.byteCells bs)) : (convert 36 9 v).run Tryd.prog w = .ok (.string ⟨bs.toArray⟩) w := by
  rcases hown.2 with ⟨rfl, h0⟩ | ⟨g, cap, cur, rfl, _, hg, _, _, _, htk⟩
  · have : bs = [] := List.eq_nil_of_length_eq_zero h0
    subst this
    exact Lib.run_convert_nil_bytes w 36 9 5 0 Tryd.underlying36 Tryd.underlying5 Tryd.underlying9
  · exact run_convert_bytes_back w 36 9 5 ⟨g, 0, none⟩ cap bs Tryd.underlying36 Tryd.underlying5 Tryd.underlying9 (Lib.bytes_of_row hg (by simpa using htk))

theorem fold_ref (n : Int) (h1 : -9223372036854775808 ≤ n) (h2 : n < 0) : bits .xor .u64 IntKind.u64.max (IntKind.u64.wrap (IntKind.u64.wrap n * 2)) = ((zig n : Nat) : Int) := by
  have e : IntKind.u64.wrap (IntKind.u64.wrap n * 2) = 2 * n + 18446744073709551616 := by
    rw [IntKind.wrap_u64, IntKind.wrap_u64]
    omega
  rw [e, show IntKind.u64.max = 18446744073709551615 from rfl, u64_not (by omega) (by omega), zig_neg h2]
  omega

/-- A text as bytes: its length, and it. -/
def lenText (s : ByteArray) : List UInt8 := enc s.size ++ s.data.toList

theorem append_lists (xs ys : List UInt8) : (⟨xs.toArray⟩ : ByteArray) ++ (⟨ys.toArray⟩ : ByteArray) = ⟨(xs ++ ys).toArray⟩ := by
  apply ByteArray.ext
  rw [ByteArray.data_append]
  simp
theorem size_list (xs : List UInt8) : (⟨xs.toArray⟩ : ByteArray).size = xs.length := by rw [Lib.size_eq]

end Go.Proofs.YtkdglkaeglhibaaDoor
