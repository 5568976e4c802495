/-
  Package wal's ballots: eight bytes of a number, eight bytes as a number. The conditions: the number is a ballot; the text has eight bytes.
-/
import Derived.Test.YtdhlbldmdeepiaaGreatDoorRPackD
import Derived.Laws.BitsLemmas
import Derived.Laws.BitsAllLaws
namespace Go.Proofs.YtdhlbldmdeepiaaGreatDoor
open Go.RowKit

abbrev c8 (m : Nat) : Array Value := #[.int .u8 ((m : Int) % 256), .int .u8 ((m : Int) / 256 % 256), .int .u8 ((m : Int) / 256 / 256 % 256), .int .u8 ((m : Int) / 256 / 256 / 256 % 256), .int .u8 ((m : Int) / 256 / 256 / 256 / 256 % 256), .int .u8 ((m : Int) / 256 / 256 / 256 / 256 / 256), .int .u8 ((m : Int) / 256 / 256 / 256 / 256 / 256 / 256), .int .u8 ((m : Int) / 256 / 256 / 256 / 256 / 256 / 256 / 256)]
theorem eight_at (m : Nat) (h : m ≤ 1099511627776) : Lib.byteCells (eight m) = (c8 m).toList := by
  show [Value.int .u8 ((UInt8.ofNat (m % 256)).toNat : Int), Value.int .u8 ((UInt8.ofNat (m / 256 % 256)).toNat : Int), Value.int .u8 ((UInt8.ofNat (m / 65536 % 256)).toNat : Int), Value.int .u8 ((UInt8.ofNat (m / 16777216 % 256)).toNat : Int),
    Value.int .u8 ((UInt8.ofNat (m / 4294967296 % 256)).toNat : Int), Value.int .u8 ((UInt8.ofNat (m / 4294967296 / 256 % 256)).toNat : Int), Value.int .u8 ((UInt8.ofNat (m / 4294967296 / 65536 % 256)).toNat : Int), Value.int .u8 ((UInt8.ofNat (m / 4294967296 / 16777216 % 256)).toNat : Int)] = _
  rw [ofNat_toNat (Nat.mod_lt _ (by decide)), ofNat_toNat (Nat.mod_lt _ (by decide)), ofNat_toNat (Nat.mod_lt _ (by decide)), ofNat_toNat (Nat.mod_lt _ (by decide)), ofNat_toNat (Nat.mod_lt _ (by decide)), ofNat_toNat (Nat.mod_lt _ (by decide)), ofNat_toNat (Nat.mod_lt _ (by decide)), ofNat_toNat (Nat.mod_lt _ (by decide))]
  simp only [List.cons.injEq, Value.int.injEq, true_and, and_true]
  refine ⟨?_, ?_, ?_, ?_, ?_, ?_, ?_, ?_⟩ <;> omega
theorem own8 (m : Nat) (h : m ≤ 1099511627776) (w : World) :
    (convert 72 9 (.slice (some ⟨w.heap.size, 0, none⟩) 8 8)).run Tryz.prog (w.alloc (.cells (c8 m) 115)) = .ok (.string ⟨(eight m).toArray⟩) (w.alloc (.cells (c8 m) 115)) := by
  refine run_convert_bytes_back _ 72 9 5 ⟨w.heap.size, 0, none⟩ 8 (eight m) Tryz.underlying72 Tryz.underlying5 Tryz.underlying9 ?_
  intro j hj
  have hrow := heap_alloc_new w (.cells (c8 m) 115)
  refine Lib.cells_of_row hrow 8 j (.int .u8 ((eight m)[j].toNat : Int)) ?_
  rw [List.take_of_length_le (Nat.le_refl 8), ← eight_at m h]
  unfold Lib.byteCells
  rw [List.getElem?_map, List.getElem?_eq_getElem hj]
  rfl
set_option maxHeartbeats 3200000 in
set_option maxRecDepth 100000 in
theorem ballotText_any (m : Nat) (h : m ≤ 1099511627776) (w : World) :
    Calls Tryz.prog 30 #[.int .i64 m] w fun e w' => e = .returned (.string ⟨(eight m).toArray⟩) ∧ Below w.heap.size w w' := by
  have ht := own8 m h w
  go_enter Tryz.func30, Tryz.ntmps30
  go_wp2
  refine wp_loop_rounds 9 ?_
  rw [rounds_succ]
  go_wp2
  rw [rounds_succ]
  go_wp2
  rw [rounds_succ]
  go_wp2
  rw [rounds_succ]
  go_wp2
  rw [rounds_succ]
  go_wp2
  rw [rounds_succ]
  go_wp2
  rw [rounds_succ]
  go_wp2
  rw [rounds_succ]
  go_wp2
  rw [rounds_succ]
  go_wp2
  go_ret
  exact ⟨rfl, (Below.refl _ w).alloc (Nat.le_refl _) _⟩
theorem or_join (i : Nat) (y x : Int) (hy0 : 0 ≤ y) (hy : y < 2 ^ i) (hy1 : y < 9223372036854775808) (hx0 : 0 ≤ x) (hx : x % 2 ^ i = 0) (hx1 : x < 9223372036854775808) : bits .or .i64 y x = y + x := by
  obtain ⟨a, rfl⟩ := Int.eq_ofNat_of_zero_le hx0
  obtain ⟨b, rfl⟩ := Int.eq_ofNat_of_zero_le hy0
  have ha : a < 2 ^ 63 := by omega
  have hb : b < 2 ^ 63 := by omega
  have hd : a % 2 ^ i = 0 := by exact_mod_cast hx
  have hb' : b < 2 ^ i := by exact_mod_cast hy
  rw [(bits_nat .i64 63 (by decide) (fun n h0 h1 => by rw [IntKind.wrap_i64]; omega) b a hb ha).2, Nat.or_comm, nat_join i a b hd hb', Nat.add_comm]
  rfl
theorem or_neg (y x : Int) (h1 : -9223372036854775808 ≤ x) (h2 : x < 0) : bits .or .i64 y x < 0 := by
  have e : (BitVec.ofInt 64 x).toNat = (x + 18446744073709551616).toNat := by
    rw [BitVec.toNat_ofInt]
    congr 1
    omega
  have l1 : (BitVec.ofInt 64 x).toNat ≤ (BitVec.ofInt 64 y ||| BitVec.ofInt 64 x).toNat := by
    rw [BitVec.toNat_or]
    exact Nat.right_le_or
  have l2 := (BitVec.ofInt 64 y ||| BitVec.ofInt 64 x).isLt
  show IntKind.i64.wrap ((BitVec.ofInt 64 y ||| BitVec.ofInt 64 x).toNat : Int) < 0
  rw [IntKind.wrap_i64]
  omega
theorem num8_at (s : ByteArray) (h8 : s.size = 8) : num8 s.data.toList = (s[0].toNat + s[1].toNat * 256 + s[2].toNat * 65536 + s[3].toNat * 16777216) + (s[4].toNat + s[5].toNat * 256 + s[6].toNat * 65536 + s[7].toNat * 16777216) * 4294967296 := by
  have g : ∀ (i : Nat) (h : i < s.size), s.data.toList.getD i 0 = s[i] := fun i h => by
    rw [List.getD_eq_getElem?_getD, List.getElem?_eq_getElem (by rw [← Lib.size_eq]; exact h)]
    rfl
  have g4 : ∀ (i : Nat) (h : 4 + i < s.size), (s.data.toList.drop 4).getD i 0 = s[4 + i] := fun i h => by
    rw [List.getD_eq_getElem?_getD, List.getElem?_drop, List.getElem?_eq_getElem (by rw [← Lib.size_eq]; exact h)]
    rfl
  unfold num8 num4
  rw [g 0 (by omega), g 1 (by omega), g 2 (by omega), g 3 (by omega), g4 0 (by omega), g4 1 (by omega), g4 2 (by omega), g4 3 (by omega)]
/-- A number of eight bytes; where it is no int, one below 0. -/
def BalIs (l : List UInt8) (v : Int) : Prop := (num8 l < 9223372036854775808 ∧ v = (num8 l : Int)) ∨ (9223372036854775808 ≤ num8 l ∧ v < 0)
set_option maxHeartbeats 3200000 in
set_option maxRecDepth 100000 in
theorem ballot_any (s : ByteArray) (h8 : s.size = 8) :
    ∃ v, BalIs s.data.toList v ∧ ∀ w, Calls Tryz.prog 76 #[.string s] w fun e w' => e = .returned (.int .i64 v) ∧ w = w' := by
  have k0 : 0 < s.size := by omega
  have k1 : 1 < s.size := by omega
  have k2 : 2 < s.size := by omega
  have k3 : 3 < s.size := by omega
  have k4 : 4 < s.size := by omega
  have k5 : 5 < s.size := by omega
  have k6 : 6 < s.size := by omega
  have k7 : 7 < s.size := by omega
  have HN : Hid (num8 s.data.toList = _) := num8_at s h8
  obtain ⟨c0, e0⟩ : ∃ c, s[0].toNat = c := ⟨_, rfl⟩
  have b0 : c0 < 256 := by rw [← e0]; exact byte_lt _
  obtain ⟨c1, e1⟩ : ∃ c, s[1].toNat = c := ⟨_, rfl⟩
  have b1 : c1 < 256 := by rw [← e1]; exact byte_lt _
  obtain ⟨c2, e2⟩ : ∃ c, s[2].toNat = c := ⟨_, rfl⟩
  have b2 : c2 < 256 := by rw [← e2]; exact byte_lt _
  obtain ⟨c3, e3⟩ : ∃ c, s[3].toNat = c := ⟨_, rfl⟩
  have b3 : c3 < 256 := by rw [← e3]; exact byte_lt _
  obtain ⟨c4, e4⟩ : ∃ c, s[4].toNat = c := ⟨_, rfl⟩
  have b4 : c4 < 256 := by rw [← e4]; exact byte_lt _
  obtain ⟨c5, e5⟩ : ∃ c, s[5].toNat = c := ⟨_, rfl⟩
  have b5 : c5 < 256 := by rw [← e5]; exact byte_lt _
  obtain ⟨c6, e6⟩ : ∃ c, s[6].toNat = c := ⟨_, rfl⟩
  have b6 : c6 < 256 := by rw [← e6]; exact byte_lt _
  obtain ⟨c7, e7⟩ : ∃ c, s[7].toNat = c := ⟨_, rfl⟩
  have b7 : c7 < 256 := by rw [← e7]; exact byte_lt _
  rw [e0, e1, e2, e3, e4, e5, e6, e7] at HN
  obtain ⟨v0, h0⟩ : ∃ v : Int, v = (c0 : Int) := ⟨_, rfl⟩
  have o0 : bits .or .i64 0 (c0 : Int) = v0 := by rw [or_join 0 0 (c0 : Int) (by omega) (by decide) (by omega) (by omega) (by omega) (by omega), h0, Int.zero_add]
  obtain ⟨v1, h1⟩ : ∃ v : Int, v = v0 + (c1 : Int) * 256 := ⟨_, rfl⟩
  have o1 : bits .or .i64 v0 ((c1 : Int) * 256) = v1 := by rw [or_join 8 v0 ((c1 : Int) * 256) (by omega) (by omega) (by omega) (by omega) (by omega) (by omega), h1]
  obtain ⟨v2, h2⟩ : ∃ v : Int, v = v1 + (c2 : Int) * 65536 := ⟨_, rfl⟩
  have o2 : bits .or .i64 v1 ((c2 : Int) * 65536) = v2 := by rw [or_join 16 v1 ((c2 : Int) * 65536) (by omega) (by omega) (by omega) (by omega) (by omega) (by omega), h2]
  obtain ⟨v3, h3⟩ : ∃ v : Int, v = v2 + (c3 : Int) * 16777216 := ⟨_, rfl⟩
  have o3 : bits .or .i64 v2 ((c3 : Int) * 16777216) = v3 := by rw [or_join 24 v2 ((c3 : Int) * 16777216) (by omega) (by omega) (by omega) (by omega) (by omega) (by omega), h3]
  obtain ⟨v4, h4⟩ : ∃ v : Int, v = v3 + (c4 : Int) * 4294967296 := ⟨_, rfl⟩
  have o4 : bits .or .i64 v3 ((c4 : Int) * 4294967296) = v4 := by rw [or_join 32 v3 ((c4 : Int) * 4294967296) (by omega) (by omega) (by omega) (by omega) (by omega) (by omega), h4]
  obtain ⟨v5, h5⟩ : ∃ v : Int, v = v4 + (c5 : Int) * 1099511627776 := ⟨_, rfl⟩
  have o5 : bits .or .i64 v4 ((c5 : Int) * 1099511627776) = v5 := by rw [or_join 40 v4 ((c5 : Int) * 1099511627776) (by omega) (by omega) (by omega) (by omega) (by omega) (by omega), h5]
  obtain ⟨v6, h6⟩ : ∃ v : Int, v = v5 + (c6 : Int) * 281474976710656 := ⟨_, rfl⟩
  have o6 : bits .or .i64 v5 ((c6 : Int) * 281474976710656) = v6 := by rw [or_join 48 v5 ((c6 : Int) * 281474976710656) (by omega) (by omega) (by omega) (by omega) (by omega) (by omega), h6]
  by_cases h7 : c7 < 128
  · obtain ⟨v7, g7⟩ : ∃ v : Int, v = v6 + (c7 : Int) * 72057594037927936 := ⟨_, rfl⟩
    have o7 : bits .or .i64 v6 ((c7 : Int) * 72057594037927936) = v7 := by rw [or_join 56 v6 ((c7 : Int) * 72057594037927936) (by omega) (by omega) (by omega) (by omega) (by omega) (by omega), g7]
    have HV : Hid (BalIs s.data.toList v7) := Or.inl (by rw [HN.out]; omega)
    clear h0 h1 h2 h3 h4 h5 h6 g7 HN h8
    refine ⟨v7, HV.out, fun w => ?_⟩
    clear HV
    go_enter Tryz.func76, Tryz.ntmps76
    go_wp2
    refine wp_loop_rounds 9 ?_
    rw [rounds_succ]
    go_wp2
    rw [rounds_succ]
    go_wp2
    rw [rounds_succ]
    go_wp2
    rw [rounds_succ]
    go_wp2
    rw [rounds_succ]
    go_wp2
    rw [rounds_succ]
    go_wp2
    rw [rounds_succ]
    go_wp2
    rw [rounds_succ]
    go_wp2
    rw [rounds_succ]
    go_wp2
    go_ret
    exact ⟨rfl, rfl⟩
  · obtain ⟨v7, g7⟩ : ∃ v : Int, v = bits .or .i64 v6 (((c7 : Int) - 256) * 72057594037927936) := ⟨_, rfl⟩
    have n7 : v7 < 0 := by rw [g7]; exact or_neg _ _ (by omega) (by omega)
    have HV : Hid (BalIs s.data.toList v7) := Or.inr ⟨by rw [HN.out]; omega, n7⟩
    have g8 : wrap64 ((c7 : Int) * 72057594037927936) = ((c7 : Int) - 256) * 72057594037927936 := by unfold wrap64; omega
    have o7 : bits .or .i64 v6 (wrap64 ((c7 : Int) * 72057594037927936)) = v7 := by rw [g8, g7]
    clear h0 h1 h2 h3 h4 h5 h6 g7 HN h8 n7 g8
    refine ⟨v7, HV.out, fun w => ?_⟩
    clear HV
    go_enter Tryz.func76, Tryz.ntmps76
    go_wp2
    refine wp_loop_rounds 9 ?_
    rw [rounds_succ]
    go_wp2
    rw [rounds_succ]
    go_wp2
    rw [rounds_succ]
    go_wp2
    rw [rounds_succ]
    go_wp2
    rw [rounds_succ]
    go_wp2
    rw [rounds_succ]
    go_wp2
    rw [rounds_succ]
    go_wp2
    rw [rounds_succ]
    go_wp2
    rw [rounds_succ]
    go_wp2
    go_ret
    exact ⟨rfl, rfl⟩
end Go.Proofs.YtdhlbldmdeepiaaGreatDoor
