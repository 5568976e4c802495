/-
  Parts of the proof, laid together: WvSmall, WvBallot, WvEnc, WvBuild. The conditions stand at each part.
-/
import Derived.Laws.BitsLemmas
import Derived.Laws.BitsAllLaws
import Derived.Lib.BufferRead
import Derived.Lib.AppendStr
import Derived.Test.YtodnnhidljfilaaGreatDoorFPackA
import Derived.Test.YtodnnhidljfilaaGreatDoorFPackD
import Derived.Test.YtodnnhidljfilaaGreatDoorFPackW
import Derived.Test.YtodnnhidljfilaaGreatDoorFPack5
import Derived.Test.YtodnnhidljfilaaGreatDoorFSE
/-
  Package wal's small functions: whether a record is a promise, eight bytes of a number, eight bytes as a number. The conditions: the number is a ballot; the text has eight bytes.
-/
namespace Go.Proofs.YtodnnhidljfilaaGreatDoor
open Go.RowKit

/-- A promise? -/
def promB (r : Rc) : Bool := decide (r.kind = 1) && (decide (1 ≤ r.n) && (decide (r.n ≤ 1099511627776) && noE r.en))
theorem promB_zero (m : Int) : promB ⟨1, m, En.zero⟩ = (decide (1 ≤ m) && decide (m ≤ 1099511627776)) := by
  unfold promB
  have : noE En.zero = true := rfl
  simp [this]
set_option maxHeartbeats 3200000 in
set_option maxRecDepth 100000 in
theorem isPromise_any (K N A B k S Q n : Int) (T : ByteArray) (w : World) :
    Calls Tryz.prog 123 #[.agg (rcA K N A B k S Q n T)] w fun e w' => e = .returned (.bool (promB ⟨K, N, ⟨A, B, ⟨k, S, Q, T, n⟩⟩⟩)) ∧ Below w.heap.size w w' := by
  by_cases h1 : K = 1
  · by_cases h2 : 1 ≤ N
    · by_cases h3 : N ≤ 1099511627776
      · have e : promB ⟨K, N, ⟨A, B, ⟨k, S, Q, T, n⟩⟩⟩ = noE ⟨A, B, ⟨k, S, Q, T, n⟩⟩ := by
          unfold promB
          simp [h1, h2, h3]
        rw [e]
        subst h1
        cases he : noE ⟨A, B, ⟨k, S, Q, T, n⟩⟩ with
        | true =>
          have ez := noE_iff.mp he
          unfold En.zero Cm.zero at ez
          injection ez with e1 e2 e3
          injection e3 with e4 e5 e6 e7 e8
          subst e1 e2 e4 e5 e6 e7 e8
          clear he e
          go_enter Tryz.func123, Tryz.ntmps123
          go_wp2
          go_ret
          exact ⟨rfl, (Below.refl _ w).alloc (Nat.le_refl _) _⟩
        | false =>
          clear e
          rcases name_kinds T with rfl | ⟨hT, _⟩
          · go_enter Tryz.func123, Tryz.ntmps123
            go_wp2 <;> first
              | (go_ret; exact ⟨rfl, (Below.refl _ w).alloc (Nat.le_refl _) _⟩)
              | (exfalso; simp_all [noE]; done)
              | (exfalso; revert he; subst_vars; decide)
          · go_enter Tryz.func123, Tryz.ntmps123
            go_wp2 <;> (go_ret; exact ⟨rfl, (Below.refl _ w).alloc (Nat.le_refl _) _⟩)
      · have e : promB ⟨K, N, ⟨A, B, ⟨k, S, Q, T, n⟩⟩⟩ = false := by
          unfold promB
          simp [h3]
        rw [e]
        clear e
        go_enter Tryz.func123, Tryz.ntmps123
        go_wp2
        go_ret
        exact ⟨rfl, (Below.refl _ w).alloc (Nat.le_refl _) _⟩
    · have e : promB ⟨K, N, ⟨A, B, ⟨k, S, Q, T, n⟩⟩⟩ = false := by
        unfold promB
        simp [h2]
      rw [e]
      clear e
      go_enter Tryz.func123, Tryz.ntmps123
      go_wp2
      go_ret
      exact ⟨rfl, (Below.refl _ w).alloc (Nat.le_refl _) _⟩
  · have e : promB ⟨K, N, ⟨A, B, ⟨k, S, Q, T, n⟩⟩⟩ = false := by
      unfold promB
      simp [h1]
    rw [e]
    clear e
    go_enter Tryz.func123, Tryz.ntmps123
    go_wp2
    go_ret
    exact ⟨rfl, (Below.refl _ w).alloc (Nat.le_refl _) _⟩
end Go.Proofs.YtodnnhidljfilaaGreatDoor
/-
  Package wal's ballots: eight bytes of a number, eight bytes as a number. The conditions: the number is a ballot; the text has eight bytes.
-/
namespace Go.Proofs.YtodnnhidljfilaaGreatDoor
open Go.RowKit

abbrev c8 (m : Nat) : Array Value := #[.int .u8 ((m : Int) % 256), .int .u8 ((m : Int) / 256 % 256), .int .u8 ((m : Int) / 256 / 256 % 256), .int .u8 ((m : Int) / 256 / 256 / 256 % 256), .int .u8 ((m : Int) / 256 / 256 / 256 / 256 % 256), .int .u8 ((m : Int) / 256 / 256 / 256 / 256 / 256), .int .u8 ((m : Int) / 256 / 256 / 256 / 256 / 256 / 256), .int .u8 ((m : Int) / 256 / 256 / 256 / 256 / 256 / 256 / 256)]
theorem eight_at (m : Nat) (h : m ≤ 1099511627776) : Lib.byteCells (eight m) = (c8 m).toList := by
  show [Value.int .u8 ((UInt8.ofNat (m % 256)).toNat : Int), Value.int .u8 ((UInt8.ofNat (m / 256 % 256)).toNat : Int), Value.int .u8 ((UInt8.ofNat (m / 65536 % 256)).toNat : Int), Value.int .u8 ((UInt8.ofNat (m / 16777216 % 256)).toNat : Int),
    Value.int .u8 ((UInt8.ofNat (m / 4294967296 % 256)).toNat : Int), Value.int .u8 ((UInt8.ofNat (m / 4294967296 / 256 % 256)).toNat : Int), Value.int .u8 ((UInt8.ofNat (m / 4294967296 / 65536 % 256)).toNat : Int), Value.int .u8 ((UInt8.ofNat (m / 4294967296 / 16777216 % 256)).toNat : Int)] = _
  rw [ofNat_toNat (Nat.mod_lt _ (by decide)), ofNat_toNat (Nat.mod_lt _ (by decide)), ofNat_toNat (Nat.mod_lt _ (by decide)), ofNat_toNat (Nat.mod_lt _ (by decide)), ofNat_toNat (Nat.mod_lt _ (by decide)), ofNat_toNat (Nat.mod_lt _ (by decide)), ofNat_toNat (Nat.mod_lt _ (by decide)), ofNat_toNat (Nat.mod_lt _ (by decide))]
  simp only [List.cons.injEq, Value.int.injEq, true_and, and_true]
  refine ⟨?_, ?_, ?_, ?_, ?_, ?_, ?_, ?_⟩ <;> omega
theorem own8 (m : Nat) (h : m ≤ 1099511627776) (w : World) :
    (convert 101 9 (.slice (some ⟨w.heap.size, 0, none⟩) 8 8)).run Tryz.prog (w.alloc (.cells (c8 m) 223)) = .ok (.string ⟨(eight m).toArray⟩) (w.alloc (.cells (c8 m) 223)) := by
  refine run_convert_bytes_back _ 101 9 5 ⟨w.heap.size, 0, none⟩ 8 (eight m) Tryz.underlying101 Tryz.underlying5 Tryz.underlying9 ?_
  intro j hj
  have hrow := heap_alloc_new w (.cells (c8 m) 223)
  refine Lib.cells_of_row hrow 8 j (.int .u8 ((eight m)[j].toNat : Int)) ?_
  rw [List.take_of_length_le (Nat.le_refl 8), ← eight_at m h]
  unfold Lib.byteCells
  rw [List.getElem?_map, List.getElem?_eq_getElem hj]
  rfl
set_option maxHeartbeats 3200000 in
set_option maxRecDepth 100000 in
theorem ballotText_any (m : Nat) (h : m ≤ 1099511627776) (w : World) :
    Calls Tryz.prog 124 #[.int .i64 m] w fun e w' => e = .returned (.string ⟨(eight m).toArray⟩) ∧ Below w.heap.size w w' := by
  have ht := own8 m h w
  go_enter Tryz.func124, Tryz.ntmps124
  go_wp2
  refine wp_loop_rounds 9 ?_
  rw [rounds_succ]
  go_wp2
  rw [rounds_succ]
  go_wp2
  rw [rounds_succ]
  go_wp2
  rw [rounds_succ]
  go_wp2
  rw [rounds_succ]
  go_wp2
  rw [rounds_succ]
  go_wp2
  rw [rounds_succ]
  go_wp2
  rw [rounds_succ]
  go_wp2
  rw [rounds_succ]
  go_wp2
  go_ret
  exact ⟨rfl, (Below.refl _ w).alloc (Nat.le_refl _) _⟩
theorem or_join (i : Nat) (y x : Int) (hy0 : 0 ≤ y) (hy : y < 2 ^ i) (hy1 : y < 9223372036854775808) (hx0 : 0 ≤ x) (hx : x % 2 ^ i = 0) (hx1 : x < 9223372036854775808) : bits .or .i64 y x = y + x := by
  obtain ⟨a, rfl⟩ := Int.eq_ofNat_of_zero_le hx0
  obtain ⟨b, rfl⟩ := Int.eq_ofNat_of_zero_le hy0
  have ha : a < 2 ^ 63 := by omega
  have hb : b < 2 ^ 63 := by omega
  have hd : a % 2 ^ i = 0 := by exact_mod_cast hx
  have hb' : b < 2 ^ i := by exact_mod_cast hy
  rw [(bits_nat .i64 63 (by decide) (fun n h0 h1 => by rw [IntKind.wrap_i64]; omega) b a hb ha).2, Nat.or_comm, nat_join i a b hd hb', Nat.add_comm]
  rfl
theorem or_neg (y x : Int) (h1 : -9223372036854775808 ≤ x) (h2 : x < 0) : bits .or .i64 y x < 0 := by
  have e : (BitVec.ofInt 64 x).toNat = (x + 18446744073709551616).toNat := by
    rw [BitVec.toNat_ofInt]
    congr 1
    omega
  have l1 : (BitVec.ofInt 64 x).toNat ≤ (BitVec.ofInt 64 y ||| BitVec.ofInt 64 x).toNat := by
    rw [BitVec.toNat_or]
    exact Nat.right_le_or
  have l2 := (BitVec.ofInt 64 y ||| BitVec.ofInt 64 x).isLt
  show IntKind.i64.wrap ((BitVec.ofInt 64 y ||| BitVec.ofInt 64 x).toNat : Int) < 0
  rw [IntKind.wrap_i64]
  omega
theorem num8_at (s : ByteArray) (h8 : s.size = 8) : num8 s.data.toList = (s[0].toNat + s[1].toNat * 256 + s[2].toNat * 65536 + s[3].toNat * 16777216) + (s[4].toNat + s[5].toNat * 256 + s[6].toNat * 65536 + s[7].toNat * 16777216) * 4294967296 := by
  have g : ∀ (i : Nat) (h : i < s.size), s.data.toList.getD i 0 = s[i] := fun i h => by
    rw [List.getD_eq_getElem?_getD, List.getElem?_eq_getElem (by rw [← Lib.size_eq]; exact h)]
    rfl
  have g4 : ∀ (i : Nat) (h : 4 + i < s.size), (s.data.toList.drop 4).getD i 0 = s[4 + i] := fun i h => by
    rw [List.getD_eq_getElem?_getD, List.getElem?_drop, List.getElem?_eq_getElem (by rw [← Lib.size_eq]; exact h)]
    rfl
  unfold num8 num4
  rw [g 0 (by omega), g 1 (by omega), g 2 (by omega), g 3 (by omega), g4 0 (by omega), g4 1 (by omega), g4 2 (by omega), g4 3 (by omega)]
/-- A number of eight bytes; where it is no int, one below 0. -/
def BalIs (l : List UInt8) (v : Int) : Prop := (num8 l < 9223372036854775808 ∧ v = (num8 l : Int)) ∨ (9223372036854775808 ≤ num8 l ∧ v < 0)
set_option maxHeartbeats 3200000 in
set_option maxRecDepth 100000 in
theorem ballot_any (s : ByteArray) (h8 : s.size = 8) :
    ∃ v, BalIs s.data.toList v ∧ ∀ w, Calls Tryz.prog 212 #[.string s] w fun e w' => e = .returned (.int .i64 v) ∧ w = w' := by
  have k0 : 0 < s.size := by omega
  have k1 : 1 < s.size := by omega
  have k2 : 2 < s.size := by omega
  have k3 : 3 < s.size := by omega
  have k4 : 4 < s.size := by omega
  have k5 : 5 < s.size := by omega
  have k6 : 6 < s.size := by omega
  have k7 : 7 < s.size := by omega
  have HN : Hid (num8 s.data.toList = _) := num8_at s h8
  obtain ⟨c0, e0⟩ : ∃ c, s[0].toNat = c := ⟨_, rfl⟩
  have b0 : c0 < 256 := by rw [← e0]; exact byte_lt _
  obtain ⟨c1, e1⟩ : ∃ c, s[1].toNat = c := ⟨_, rfl⟩
  have b1 : c1 < 256 := by rw [← e1]; exact byte_lt _
  obtain ⟨c2, e2⟩ : ∃ c, s[2].toNat = c := ⟨_, rfl⟩
  have b2 : c2 < 256 := by rw [← e2]; exact byte_lt _
  obtain ⟨c3, e3⟩ : ∃ c, s[3].toNat = c := ⟨_, rfl⟩
  have b3 : c3 < 256 := by rw [← e3]; exact byte_lt _
  obtain ⟨c4, e4⟩ : ∃ c, s[4].toNat = c := ⟨_, rfl⟩
  have b4 : c4 < 256 := by rw [← e4]; exact byte_lt _
  obtain ⟨c5, e5⟩ : ∃ c, s[5].toNat = c := ⟨_, rfl⟩
  have b5 : c5 < 256 := by rw [← e5]; exact byte_lt _
  obtain ⟨c6, e6⟩ : ∃ c, s[6].toNat = c := ⟨_, rfl⟩
  have b6 : c6 < 256 := by rw [← e6]; exact byte_lt _
  obtain ⟨c7, e7⟩ : ∃ c, s[7].toNat = c := ⟨_, rfl⟩
  have b7 : c7 < 256 := by rw [← e7]; exact byte_lt _
  rw [e0, e1, e2, e3, e4, e5, e6, e7] at HN
  obtain ⟨v0, h0⟩ : ∃ v : Int, v = (c0 : Int) := ⟨_, rfl⟩
  have o0 : bits .or .i64 0 (c0 : Int) = v0 := by rw [or_join 0 0 (c0 : Int) (by omega) (by decide) (by omega) (by omega) (by omega) (by omega), h0, Int.zero_add]
  obtain ⟨v1, h1⟩ : ∃ v : Int, v = v0 + (c1 : Int) * 256 := ⟨_, rfl⟩
  have o1 : bits .or .i64 v0 ((c1 : Int) * 256) = v1 := by rw [or_join 8 v0 ((c1 : Int) * 256) (by omega) (by omega) (by omega) (by omega) (by omega) (by omega), h1]
  obtain ⟨v2, h2⟩ : ∃ v : Int, v = v1 + (c2 : Int) * 65536 := ⟨_, rfl⟩
  have o2 : bits .or .i64 v1 ((c2 : Int) * 65536) = v2 := by rw [or_join 16 v1 ((c2 : Int) * 65536) (by omega) (by omega) (by omega) (by omega) (by omega) (by omega), h2]
  obtain ⟨v3, h3⟩ : ∃ v : Int, v = v2 + (c3 : Int) * 16777216 := ⟨_, rfl⟩
  have o3 : bits .or .i64 v2 ((c3 : Int) * 16777216) = v3 := by rw [or_join 24 v2 ((c3 : Int) * 16777216) (by omega) (by omega) (by omega) (by omega) (by omega) (by omega), h3]
  obtain ⟨v4, h4⟩ : ∃ v : Int, v = v3 + (c4 : Int) * 4294967296 := ⟨_, rfl⟩
  have o4 : bits .or .i64 v3 ((c4 : Int) * 4294967296) = v4 := by rw [or_join 32 v3 ((c4 : Int) * 4294967296) (by omega) (by omega) (by omega) (by omega) (by omega) (by omega), h4]
  obtain ⟨v5, h5⟩ : ∃ v : Int, v = v4 + (c5 : Int) * 1099511627776 := ⟨_, rfl⟩
  have o5 : bits .or .i64 v4 ((c5 : Int) * 1099511627776) = v5 := by rw [or_join 40 v4 ((c5 : Int) * 1099511627776) (by omega) (by omega) (by omega) (by omega) (by omega) (by omega), h5]
  obtain ⟨v6, h6⟩ : ∃ v : Int, v = v5 + (c6 : Int) * 281474976710656 := ⟨_, rfl⟩
  have o6 : bits .or .i64 v5 ((c6 : Int) * 281474976710656) = v6 := by rw [or_join 48 v5 ((c6 : Int) * 281474976710656) (by omega) (by omega) (by omega) (by omega) (by omega) (by omega), h6]
  by_cases h7 : c7 < 128
  · obtain ⟨v7, g7⟩ : ∃ v : Int, v = v6 + (c7 : Int) * 72057594037927936 := ⟨_, rfl⟩
    have o7 : bits .or .i64 v6 ((c7 : Int) * 72057594037927936) = v7 := by rw [or_join 56 v6 ((c7 : Int) * 72057594037927936) (by omega) (by omega) (by omega) (by omega) (by omega) (by omega), g7]
    have HV : Hid (BalIs s.data.toList v7) := Or.inl (by rw [HN.out]; omega)
    clear h0 h1 h2 h3 h4 h5 h6 g7 HN h8
    refine ⟨v7, HV.out, fun w => ?_⟩
    clear HV
    go_enter Tryz.func212, Tryz.ntmps212
    go_wp2
    refine wp_loop_rounds 9 ?_
    rw [rounds_succ]
    go_wp2
    rw [rounds_succ]
    go_wp2
    rw [rounds_succ]
    go_wp2
    rw [rounds_succ]
    go_wp2
    rw [rounds_succ]
    go_wp2
    rw [rounds_succ]
    go_wp2
    rw [rounds_succ]
    go_wp2
    rw [rounds_succ]
    go_wp2
    rw [rounds_succ]
    go_wp2
    go_ret
    exact ⟨rfl, rfl⟩
  · obtain ⟨v7, g7⟩ : ∃ v : Int, v = bits .or .i64 v6 (((c7 : Int) - 256) * 72057594037927936) := ⟨_, rfl⟩
    have n7 : v7 < 0 := by rw [g7]; exact or_neg _ _ (by omega) (by omega)
    have HV : Hid (BalIs s.data.toList v7) := Or.inr ⟨by rw [HN.out]; omega, n7⟩
    have g8 : wrap64 ((c7 : Int) * 72057594037927936) = ((c7 : Int) - 256) * 72057594037927936 := by unfold wrap64; omega
    have o7 : bits .or .i64 v6 (wrap64 ((c7 : Int) * 72057594037927936)) = v7 := by rw [g8, g7]
    clear h0 h1 h2 h3 h4 h5 h6 g7 HN h8 n7 g8
    refine ⟨v7, HV.out, fun w => ?_⟩
    clear HV
    go_enter Tryz.func212, Tryz.ntmps212
    go_wp2
    refine wp_loop_rounds 9 ?_
    rw [rounds_succ]
    go_wp2
    rw [rounds_succ]
    go_wp2
    rw [rounds_succ]
    go_wp2
    rw [rounds_succ]
    go_wp2
    rw [rounds_succ]
    go_wp2
    rw [rounds_succ]
    go_wp2
    rw [rounds_succ]
    go_wp2
    rw [rounds_succ]
    go_wp2
    rw [rounds_succ]
    go_wp2
    go_ret
    exact ⟨rfl, rfl⟩
end Go.Proofs.YtodnnhidljfilaaGreatDoor
/-
  A record's bytes (package wal). No condition.
-/
namespace Go.Proofs.YtodnnhidljfilaaGreatDoor
open Go.RowKit

/-- One byte as a string. -/
theorem conv_one (c : UInt8) (b : Nat) (w : World) (h : w.heap[b]? = some (.cells #[.int .u8 (c.toNat : Int)] 5 (0, 0))) :
    (convert 101 9 (.slice (some ⟨b, 0, none⟩) 1 1)).run Tryz.prog w = .ok (.string ⟨#[c]⟩) w := by
  refine run_convert_bytes_back _ 101 9 5 ⟨b, 0, none⟩ 1 [c] Tryz.underlying101 Tryz.underlying5 Tryz.underlying9 ?_
  intro j hj
  refine Lib.cells_of_row h 1 j _ ?_
  have : j = 0 := by simpa using hj
  subst this
  rfl
theorem conv_1 (b : Nat) (w : World) (h : w.heap[b]? = some (.cells #[.int .u8 1] 5 (0, 0))) : (convert 101 9 (.slice (some ⟨b, 0, none⟩) 1 1)).run Tryz.prog w = .ok (.string ⟨#[1]⟩) w := conv_one 1 b w h
theorem conv_2 (w : World) : (convert 101 9 (.slice (some ⟨w.heap.size, 0, none⟩) 1 1)).run Tryz.prog (w.alloc (.cells #[.int .u8 2] 5)) = .ok (.string ⟨#[2]⟩) (w.alloc (.cells #[.int .u8 2] 5)) :=
  conv_one 2 w.heap.size _ (heap_alloc_new w _)
section
variable {P : Program} {md : Region.Mode} {Q : Exit → Act → World → Prop} {S : World → Prop} {fuel : Nat} {listed : Array Bool} {a : Act} {w : World} {l : List Oper}
theorem rd0_4 {o0 o1 o2 o3 o4 : Oper} (hr : Region.ready md (o0 :: o1 :: o2 :: o3 :: o4 :: l).toArray listed = [0, 4]) (hw0 : Region.wanted o0 (yielded (o0 :: o1 :: o2 :: o3 :: o4 :: l).toArray a.tmps) = true) (hw1 : Region.wanted o4 (yielded (o0 :: o1 :: o2 :: o3 :: o4 :: l).toArray a.tmps) = true)
    (h0 : ∀ K' : Act → World → Prop, Shut (∀ a w, S w → (S w → wpAnyH P md (o0 :: o1 :: o2 :: o3 :: o4 :: l).toArray Q S fuel (listed.setIfInBounds 0 true) a w) → K' a w) → Oper.wp P o0 a w K' Q)
    (h1 : ∀ K' : Act → World → Prop, Shut (∀ a w, S w → (S w → wpAnyH P md (o0 :: o1 :: o2 :: o3 :: o4 :: l).toArray Q S fuel (listed.setIfInBounds 4 true) a w) → K' a w) → Oper.wp P o4 a w K' Q) : wpAnyH P md (o0 :: o1 :: o2 :: o3 :: o4 :: l).toArray Q S (fuel + 1) listed a w :=
  wpAnyH_ready hr (by simp) (AllReadyH.cons (o := o0) rfl (fun K hK => by rw [if_pos hw0]; exact h0 K hK) (AllReadyH.cons (o := o4) rfl (fun K hK => by rw [if_pos hw1]; exact h1 K hK) AllReadyH.nil))
theorem rd1_4 {o0 o1 o2 o3 o4 : Oper} (hr : Region.ready md (o0 :: o1 :: o2 :: o3 :: o4 :: l).toArray listed = [1, 4]) (hw0 : Region.wanted o1 (yielded (o0 :: o1 :: o2 :: o3 :: o4 :: l).toArray a.tmps) = true) (hw1 : Region.wanted o4 (yielded (o0 :: o1 :: o2 :: o3 :: o4 :: l).toArray a.tmps) = true)
    (h0 : ∀ K' : Act → World → Prop, Shut (∀ a w, S w → (S w → wpAnyH P md (o0 :: o1 :: o2 :: o3 :: o4 :: l).toArray Q S fuel (listed.setIfInBounds 1 true) a w) → K' a w) → Oper.wp P o1 a w K' Q)
    (h1 : ∀ K' : Act → World → Prop, Shut (∀ a w, S w → (S w → wpAnyH P md (o0 :: o1 :: o2 :: o3 :: o4 :: l).toArray Q S fuel (listed.setIfInBounds 4 true) a w) → K' a w) → Oper.wp P o4 a w K' Q) : wpAnyH P md (o0 :: o1 :: o2 :: o3 :: o4 :: l).toArray Q S (fuel + 1) listed a w :=
  wpAnyH_ready hr (by simp) (AllReadyH.cons (o := o1) rfl (fun K hK => by rw [if_pos hw0]; exact h0 K hK) (AllReadyH.cons (o := o4) rfl (fun K hK => by rw [if_pos hw1]; exact h1 K hK) AllReadyH.nil))
end
set_option maxHeartbeats 3200000 in
set_option maxRecDepth 100000 in
theorem wencR_one (m : Nat) (w : World) (h0 : 1 ≤ m) (h1 : m ≤ 1099511627776) :
    Calls Tryz.prog 80 #[.agg (rcA 1 m 0 0 0 0 0 0 ⟨#[]⟩)] w fun e w' => e = .returned (.tuple #[.string ⟨(1 :: eight m).toArray⟩, .int .i64 0]) ∧ Below w.heap.size w w' := by
  have qp := isPromise_any 1 m 0 0 0 0 0 0 ⟨#[]⟩
  have ep : promB ⟨1, m, ⟨0, 0, ⟨0, 0, 0, ⟨#[]⟩, 0⟩⟩⟩ = true := by
    show promB ⟨1, m, En.zero⟩ = true
    rw [promB_zero]
    simp
    omega
  rw [ep] at qp
  have qb := ballotText_any m h1
  obtain ⟨E, hE⟩ : ∃ E : ByteArray, E = ⟨(eight m).toArray⟩ := ⟨_, rfl⟩
  have zE : E.size = 8 := by rw [hE, size_list]; rfl
  have HB : Hid ((⟨#[1]⟩ : ByteArray) ++ E = ⟨(1 :: eight m).toArray⟩) := by
    show (⟨[1].toArray⟩ : ByteArray) ++ E = _
    rw [hE, append_lists]
    rfl
  rw [← hE] at qb
  rw [← HB.out]
  clear hE HB ep
  have ba : Below w.heap.size w (w.alloc (.cells (rcA 1 m 0 0 0 0 0 0 ⟨#[]⟩) 69)) := (Below.refl _ w).alloc (Nat.le_refl _) _
  have la : w.heap.size < (w.alloc (.cells (rcA 1 m 0 0 0 0 0 0 ⟨#[]⟩) 69)).heap.size := by simp
  have g1 : (w.alloc (.cells (rcA 1 m 0 0 0 0 0 0 ⟨#[]⟩) 69)).cell? ⟨w.heap.size, 1, none⟩ = some (.int .i64 m) := by simp
  go_enter Tryz.func80, Tryz.ntmps80
  go_wp2_with (go_at_call 123; refine (qp _).mono ?_; rintro e w1 ⟨rfl, b1⟩; have f1 := bmm ba ba.size b1; have l1 := Nat.lt_of_lt_of_le la b1.size; have g2 := (b1.cell (p := ⟨w.heap.size, 1, none⟩) (by exact la)).trans g1; have g2d : w1.drew.cell? ⟨w.heap.size, 1, none⟩ = some (.int .i64 m) := g2)
  refine wp_region_held_drew (S := (fun w' : World => w'.cell? ⟨w.heap.size, 1, none⟩ = some (.int .i64 (m : Int)))) (by kernel_rfl) ?_ (fun hHeld0 => ?_)
  · exact g2d
  refine tk2 (.pointer (some ⟨w.heap.size, 1, none⟩)) (by kernel_rfl) (by kernel_rfl) (by kernel_rfl) (fun _ _ _ h => h) rfl (fun w hSw => by (try dsimp only at hSw); go_simp) (by assumption) ?_
  try simp only [Act.put, List.setIfInBounds_toArray, List.set_cons_zero, List.set_cons_succ]
  refine tk3 (.int .i64 (m : Int)) (by kernel_rfl) (by kernel_rfl) (by kernel_rfl) (fun _ _ _ h => h) rfl (fun w hSw => by (try dsimp only at hSw); go_simp) (by assumption) ?_
  try simp only [Act.put, List.setIfInBounds_toArray, List.set_cons_zero, List.set_cons_succ]
  refine rd0_4 (by kernel_rfl) rfl rfl (fun K hK => ?_) (fun K hK => ?_)
  · go_simp
    refine hK.out _ _ ?_ (fun hHeld => ?_)
    · exact (((Below.refl _ w1.drew).alloc (Nat.le_refl _) _).cell (p := ⟨w.heap.size, 1, none⟩) (by exact l1)).trans g2d
    clear hK K
    try simp only [Act.put, List.setIfInBounds_toArray, List.set_cons_zero, List.set_cons_succ]
    refine rd1_4 (by kernel_rfl) rfl rfl (fun K hK => ?_) (fun K hK => ?_)
    · have hc := conv_1 w1.heap.size (w1.alloc (.cells #[.int .u8 1] 5)).drew (heap_alloc_new w1 _)
      go_simp
      refine hK.out _ _ ?_ (fun hHeld => ?_)
      · assumption
      clear hK K
      try simp only [Act.put, List.setIfInBounds_toArray, List.set_cons_zero, List.set_cons_succ]
      refine cl4 (by kernel_rfl) rfl (fun K hK => ?_)
      go_simp
      go_at_call 124
      refine (qb _).mono ?_
      rintro e w2 ⟨rfl, b2⟩
      have b3 : Below w1.drew.heap.size w1.drew w2 := bel_box b2
      have f3 := bmm f1 f1.size (undrew b3)
      have g3 := (b3.cell (p := ⟨w.heap.size, 1, none⟩) (by exact l1)).trans g2d
      refine hK.out _ _ ?_ (fun hHeld => ?_)
      · exact g3
      clear hK K
      try simp only [Act.put, List.setIfInBounds_toArray, List.set_cons_zero, List.set_cons_succ]
      refine tk5 (.string (⟨#[1]⟩ ++ E)) (by kernel_rfl) (by kernel_rfl) (by kernel_rfl) (fun _ _ _ h => h) rfl (fun w hSw => by (try dsimp only at hSw); go_simp) (by assumption) ?_
      try simp only [Act.put, List.setIfInBounds_toArray, List.set_cons_zero, List.set_cons_succ]
      refine tk6 (.string (⟨#[1]⟩ ++ E)) (by kernel_rfl) (by kernel_rfl) (by kernel_rfl) (fun _ _ _ h => h) rfl (fun w hSw => by (try dsimp only at hSw); go_simp) (by assumption) ?_
      try simp only [Act.put, List.setIfInBounds_toArray, List.set_cons_zero, List.set_cons_succ]
      refine tk7 (.int .i64 0) (by kernel_rfl) (by kernel_rfl) (by kernel_rfl) (fun _ _ _ h => h) rfl (fun w hSw => by (try dsimp only at hSw); go_simp) (by assumption) ?_
      try simp only [Act.put, List.setIfInBounds_toArray, List.set_cons_zero, List.set_cons_succ]
      refine wpAnyH_done (by kernel_rfl) ?_ _
      go_wp2
      go_ret2
      exact ⟨rfl, f3⟩
    · go_simp
      go_at_call 124
      refine (qb _).mono ?_
      rintro e w2 ⟨rfl, b2⟩
      have b3 : Below w1.drew.heap.size w1.drew w2 := bel_box b2
      have f3 := bmm f1 f1.size (undrew b3)
      have g3 := (b3.cell (p := ⟨w.heap.size, 1, none⟩) (by exact l1)).trans g2d
      refine hK.out _ _ ?_ (fun hHeld => ?_)
      · exact g3
      clear hK K
      try simp only [Act.put, List.setIfInBounds_toArray, List.set_cons_zero, List.set_cons_succ]
      refine cl1 (by kernel_rfl) rfl (fun K hK => ?_)
      have hc := conv_1 w1.heap.size w2 ((b2.block w1.heap.size (by simp)).trans (heap_alloc_new w1.drew _))
      go_simp
      refine hK.out _ _ ?_ (fun hHeld => ?_)
      · assumption
      clear hK K
      try simp only [Act.put, List.setIfInBounds_toArray, List.set_cons_zero, List.set_cons_succ]
      refine tk5 (.string (⟨#[1]⟩ ++ E)) (by kernel_rfl) (by kernel_rfl) (by kernel_rfl) (fun _ _ _ h => h) rfl (fun w hSw => by (try dsimp only at hSw); go_simp) (by assumption) ?_
      try simp only [Act.put, List.setIfInBounds_toArray, List.set_cons_zero, List.set_cons_succ]
      refine tk6 (.string (⟨#[1]⟩ ++ E)) (by kernel_rfl) (by kernel_rfl) (by kernel_rfl) (fun _ _ _ h => h) rfl (fun w hSw => by (try dsimp only at hSw); go_simp) (by assumption) ?_
      try simp only [Act.put, List.setIfInBounds_toArray, List.set_cons_zero, List.set_cons_succ]
      refine tk7 (.int .i64 0) (by kernel_rfl) (by kernel_rfl) (by kernel_rfl) (fun _ _ _ h => h) rfl (fun w hSw => by (try dsimp only at hSw); go_simp) (by assumption) ?_
      try simp only [Act.put, List.setIfInBounds_toArray, List.set_cons_zero, List.set_cons_succ]
      refine wpAnyH_done (by kernel_rfl) ?_ _
      go_wp2
      go_ret2
      exact ⟨rfl, f3⟩
  · go_simp
    go_at_call 124
    refine (qb _).mono ?_
    rintro e w2 ⟨rfl, b2⟩
    have b3 : Below w1.drew.heap.size w1.drew w2 := b2
    have f3 := bmm f1 f1.size (undrew b3)
    have g3 := (b3.cell (p := ⟨w.heap.size, 1, none⟩) (by exact l1)).trans g2d
    refine hK.out _ _ ?_ (fun hHeld => ?_)
    · exact g3
    clear hK K
    try simp only [Act.put, List.setIfInBounds_toArray, List.set_cons_zero, List.set_cons_succ]
    refine cl0 (by kernel_rfl) rfl (fun K hK => ?_)
    go_simp
    refine hK.out _ _ ?_ (fun hHeld => ?_)
    · exact (((Below.refl _ w2).alloc (Nat.le_refl _) _).cell (p := ⟨w.heap.size, 1, none⟩) (by exact Nat.lt_of_lt_of_le l1 b3.size)).trans g3
    clear hK K
    try simp only [Act.put, List.setIfInBounds_toArray, List.set_cons_zero, List.set_cons_succ]
    refine cl1 (by kernel_rfl) rfl (fun K hK => ?_)
    have hc := conv_1 w2.heap.size (w2.alloc (.cells #[.int .u8 1] 5)) (heap_alloc_new w2 _)
    go_simp
    refine hK.out _ _ ?_ (fun hHeld => ?_)
    · assumption
    clear hK K
    try simp only [Act.put, List.setIfInBounds_toArray, List.set_cons_zero, List.set_cons_succ]
    refine tk5 (.string (⟨#[1]⟩ ++ E)) (by kernel_rfl) (by kernel_rfl) (by kernel_rfl) (fun _ _ _ h => h) rfl (fun w hSw => by (try dsimp only at hSw); go_simp) (by assumption) ?_
    try simp only [Act.put, List.setIfInBounds_toArray, List.set_cons_zero, List.set_cons_succ]
    refine tk6 (.string (⟨#[1]⟩ ++ E)) (by kernel_rfl) (by kernel_rfl) (by kernel_rfl) (fun _ _ _ h => h) rfl (fun w hSw => by (try dsimp only at hSw); go_simp) (by assumption) ?_
    try simp only [Act.put, List.setIfInBounds_toArray, List.set_cons_zero, List.set_cons_succ]
    refine tk7 (.int .i64 0) (by kernel_rfl) (by kernel_rfl) (by kernel_rfl) (fun _ _ _ h => h) rfl (fun w hSw => by (try dsimp only at hSw); go_simp) (by assumption) ?_
    try simp only [Act.put, List.setIfInBounds_toArray, List.set_cons_zero, List.set_cons_succ]
    refine wpAnyH_done (by kernel_rfl) ?_ _
    go_wp2
    go_ret2
    exact ⟨rfl, (f3.alloc f3.size _)⟩
set_option maxHeartbeats 3200000 in
set_option maxRecDepth 100000 in
theorem wencR_two (A B k S Q n : Int) (T : ByteArray) (w : World) (h : mayE ⟨A, B, ⟨k, S, Q, T, n⟩⟩ = true) (hB : 1 ≤ B) :
    Calls Tryz.prog 80 #[.agg (rcA 2 0 A B k S Q n T)] w fun e w' => e = .returned (.tuple #[.string ⟨(2 :: encE ⟨A, B, ⟨k, S, Q, T, n⟩⟩).toArray⟩, .int .i64 0]) ∧ Below w.heap.size w w' := by
  have qp := isPromise_any 2 0 A B k S Q n T
  have ep : promB ⟨2, 0, ⟨A, B, ⟨k, S, Q, T, n⟩⟩⟩ = false := rfl
  rw [ep] at qp
  have q := encodeE_any A B k S Q n T
  have e : encET ⟨A, B, ⟨k, S, Q, T, n⟩⟩ = (⟨(encE ⟨A, B, ⟨k, S, Q, T, n⟩⟩).toArray⟩, 0) := by unfold encET; rw [if_pos h]
  rw [e] at q
  obtain ⟨E, hE⟩ : ∃ E : ByteArray, E = ⟨(encE ⟨A, B, ⟨k, S, Q, T, n⟩⟩).toArray⟩ := ⟨_, rfl⟩
  have zE : E.size ≤ 300 := by rw [hE, size_list]; exact encE_few h
  have HB : Hid ((⟨#[2]⟩ : ByteArray) ++ E = ⟨(2 :: encE ⟨A, B, ⟨k, S, Q, T, n⟩⟩).toArray⟩) := by
    show (⟨[2].toArray⟩ : ByteArray) ++ E = _
    rw [hE, append_lists]
    rfl
  rw [← hE] at q
  rw [← HB.out]
  clear hE HB ep e h
  have cv := conv_2
  have ba : Below w.heap.size w (w.alloc (.cells (rcA 2 0 A B k S Q n T) 69)) := (Below.refl _ w).alloc (Nat.le_refl _) _
  have la : w.heap.size < (w.alloc (.cells (rcA 2 0 A B k S Q n T) 69)).heap.size := by simp
  have g0 : (w.alloc (.cells (rcA 2 0 A B k S Q n T) 69)).cell? ⟨w.heap.size, 0, none⟩ = some (.int .i64 2) := by simp
  have g1 : (w.alloc (.cells (rcA 2 0 A B k S Q n T) 69)).cell? ⟨w.heap.size, 1, none⟩ = some (.int .i64 0) := by simp
  have g2 : (w.alloc (.cells (rcA 2 0 A B k S Q n T) 69)).cell? ⟨w.heap.size, 2, none⟩ = some (.int .i64 A) := by simp
  have g3 : (w.alloc (.cells (rcA 2 0 A B k S Q n T) 69)).cell? ⟨w.heap.size, 3, none⟩ = some (.int .i64 B) := by simp
  have g4 : (w.alloc (.cells (rcA 2 0 A B k S Q n T) 69)).cell? ⟨w.heap.size, 4, none⟩ = some (.int .i64 k) := by simp
  have g5 : (w.alloc (.cells (rcA 2 0 A B k S Q n T) 69)).cell? ⟨w.heap.size, 5, none⟩ = some (.int .i64 S) := by simp
  have g6 : (w.alloc (.cells (rcA 2 0 A B k S Q n T) 69)).cell? ⟨w.heap.size, 6, none⟩ = some (.int .i64 Q) := by simp
  have g7 : (w.alloc (.cells (rcA 2 0 A B k S Q n T) 69)).cell? ⟨w.heap.size, 7, none⟩ = some (.string T) := by simp
  have g8 : (w.alloc (.cells (rcA 2 0 A B k S Q n T) 69)).cell? ⟨w.heap.size, 8, none⟩ = some (.int .i64 n) := by simp
  go_enter Tryz.func80, Tryz.ntmps80
  go_wp2_with (first
    | (go_at_call 125; refine (q _).mono ?_; rintro e w2 ⟨rfl, b2⟩; have f2 := bmm f1 f1.size b2; have cw := cv w2)
    | (go_at_call 123; refine (qp _).mono ?_; rintro e w1 ⟨rfl, b1⟩; have f1 := bmm ba ba.size b1; have k0 := (b1.cell (p := ⟨w.heap.size, 0, none⟩) (by exact la)).trans g0; have k1 := (b1.cell (p := ⟨w.heap.size, 1, none⟩) (by exact la)).trans g1; have k2 := (b1.cell (p := ⟨w.heap.size, 2, none⟩) (by exact la)).trans g2; have k3 := (b1.cell (p := ⟨w.heap.size, 3, none⟩) (by exact la)).trans g3; have k4 := (b1.cell (p := ⟨w.heap.size, 4, none⟩) (by exact la)).trans g4; have k5 := (b1.cell (p := ⟨w.heap.size, 5, none⟩) (by exact la)).trans g5; have k6 := (b1.cell (p := ⟨w.heap.size, 6, none⟩) (by exact la)).trans g6; have k7 := (b1.cell (p := ⟨w.heap.size, 7, none⟩) (by exact la)).trans g7; have k8 := (b1.cell (p := ⟨w.heap.size, 8, none⟩) (by exact la)).trans g8))
  go_ret2
  exact ⟨rfl, f2.alloc f2.size _⟩
set_option maxHeartbeats 3200000 in
set_option maxRecDepth 100000 in
theorem wencR_other (K N A B k S Q n : Int) (T : ByteArray) (w : World) (hp : promB ⟨K, N, ⟨A, B, ⟨k, S, Q, T, n⟩⟩⟩ = false) (h2 : ¬ K = 2) :
    Calls Tryz.prog 80 #[.agg (rcA K N A B k S Q n T)] w fun e w' => e = .returned (.tuple #[.string ⟨#[]⟩, .int .i64 1]) ∧ Below w.heap.size w w' := by
  have qp := isPromise_any K N A B k S Q n T
  rw [hp] at qp
  have ba : Below w.heap.size w (w.alloc (.cells (rcA K N A B k S Q n T) 69)) := (Below.refl _ w).alloc (Nat.le_refl _) _
  have la : w.heap.size < (w.alloc (.cells (rcA K N A B k S Q n T) 69)).heap.size := by simp
  have g0 : (w.alloc (.cells (rcA K N A B k S Q n T) 69)).cell? ⟨w.heap.size, 0, none⟩ = some (.int .i64 K) := by simp
  have g1 : (w.alloc (.cells (rcA K N A B k S Q n T) 69)).cell? ⟨w.heap.size, 1, none⟩ = some (.int .i64 N) := by simp
  have g2 : (w.alloc (.cells (rcA K N A B k S Q n T) 69)).cell? ⟨w.heap.size, 2, none⟩ = some (.int .i64 A) := by simp
  have g3 : (w.alloc (.cells (rcA K N A B k S Q n T) 69)).cell? ⟨w.heap.size, 3, none⟩ = some (.int .i64 B) := by simp
  have g4 : (w.alloc (.cells (rcA K N A B k S Q n T) 69)).cell? ⟨w.heap.size, 4, none⟩ = some (.int .i64 k) := by simp
  have g5 : (w.alloc (.cells (rcA K N A B k S Q n T) 69)).cell? ⟨w.heap.size, 5, none⟩ = some (.int .i64 S) := by simp
  have g6 : (w.alloc (.cells (rcA K N A B k S Q n T) 69)).cell? ⟨w.heap.size, 6, none⟩ = some (.int .i64 Q) := by simp
  have g7 : (w.alloc (.cells (rcA K N A B k S Q n T) 69)).cell? ⟨w.heap.size, 7, none⟩ = some (.string T) := by simp
  have g8 : (w.alloc (.cells (rcA K N A B k S Q n T) 69)).cell? ⟨w.heap.size, 8, none⟩ = some (.int .i64 n) := by simp
  go_enter Tryz.func80, Tryz.ntmps80
  go_wp2_with (go_at_call 123; refine (qp _).mono ?_; rintro e w1 ⟨rfl, b1⟩; have f1 := bmm ba ba.size b1; have k0 := (b1.cell (p := ⟨w.heap.size, 0, none⟩) (by exact la)).trans g0; have k1 := (b1.cell (p := ⟨w.heap.size, 1, none⟩) (by exact la)).trans g1; have k2 := (b1.cell (p := ⟨w.heap.size, 2, none⟩) (by exact la)).trans g2; have k3 := (b1.cell (p := ⟨w.heap.size, 3, none⟩) (by exact la)).trans g3; have k4 := (b1.cell (p := ⟨w.heap.size, 4, none⟩) (by exact la)).trans g4; have k5 := (b1.cell (p := ⟨w.heap.size, 5, none⟩) (by exact la)).trans g5; have k6 := (b1.cell (p := ⟨w.heap.size, 6, none⟩) (by exact la)).trans g6; have k7 := (b1.cell (p := ⟨w.heap.size, 7, none⟩) (by exact la)).trans g7; have k8 := (b1.cell (p := ⟨w.heap.size, 8, none⟩) (by exact la)).trans g8)
  go_ret2
  exact ⟨rfl, f1⟩
set_option maxHeartbeats 3200000 in
set_option maxRecDepth 100000 in
theorem wencR_n (N A B k S Q n : Int) (T : ByteArray) (w : World) (h2 : ¬ N = 0) :
    Calls Tryz.prog 80 #[.agg (rcA 2 N A B k S Q n T)] w fun e w' => e = .returned (.tuple #[.string ⟨#[]⟩, .int .i64 1]) ∧ Below w.heap.size w w' := by
  have qp := isPromise_any 2 N A B k S Q n T
  have hp : promB ⟨2, N, ⟨A, B, ⟨k, S, Q, T, n⟩⟩⟩ = false := rfl
  rw [hp] at qp
  have ba : Below w.heap.size w (w.alloc (.cells (rcA 2 N A B k S Q n T) 69)) := (Below.refl _ w).alloc (Nat.le_refl _) _
  have la : w.heap.size < (w.alloc (.cells (rcA 2 N A B k S Q n T) 69)).heap.size := by simp
  have g0 : (w.alloc (.cells (rcA 2 N A B k S Q n T) 69)).cell? ⟨w.heap.size, 0, none⟩ = some (.int .i64 2) := by simp
  have g1 : (w.alloc (.cells (rcA 2 N A B k S Q n T) 69)).cell? ⟨w.heap.size, 1, none⟩ = some (.int .i64 N) := by simp
  have g2 : (w.alloc (.cells (rcA 2 N A B k S Q n T) 69)).cell? ⟨w.heap.size, 2, none⟩ = some (.int .i64 A) := by simp
  have g3 : (w.alloc (.cells (rcA 2 N A B k S Q n T) 69)).cell? ⟨w.heap.size, 3, none⟩ = some (.int .i64 B) := by simp
  have g4 : (w.alloc (.cells (rcA 2 N A B k S Q n T) 69)).cell? ⟨w.heap.size, 4, none⟩ = some (.int .i64 k) := by simp
  have g5 : (w.alloc (.cells (rcA 2 N A B k S Q n T) 69)).cell? ⟨w.heap.size, 5, none⟩ = some (.int .i64 S) := by simp
  have g6 : (w.alloc (.cells (rcA 2 N A B k S Q n T) 69)).cell? ⟨w.heap.size, 6, none⟩ = some (.int .i64 Q) := by simp
  have g7 : (w.alloc (.cells (rcA 2 N A B k S Q n T) 69)).cell? ⟨w.heap.size, 7, none⟩ = some (.string T) := by simp
  have g8 : (w.alloc (.cells (rcA 2 N A B k S Q n T) 69)).cell? ⟨w.heap.size, 8, none⟩ = some (.int .i64 n) := by simp
  go_enter Tryz.func80, Tryz.ntmps80
  go_wp2_with (go_at_call 123; refine (qp _).mono ?_; rintro e w1 ⟨rfl, b1⟩; have f1 := bmm ba ba.size b1; have k0 := (b1.cell (p := ⟨w.heap.size, 0, none⟩) (by exact la)).trans g0; have k1 := (b1.cell (p := ⟨w.heap.size, 1, none⟩) (by exact la)).trans g1; have k2 := (b1.cell (p := ⟨w.heap.size, 2, none⟩) (by exact la)).trans g2; have k3 := (b1.cell (p := ⟨w.heap.size, 3, none⟩) (by exact la)).trans g3; have k4 := (b1.cell (p := ⟨w.heap.size, 4, none⟩) (by exact la)).trans g4; have k5 := (b1.cell (p := ⟨w.heap.size, 5, none⟩) (by exact la)).trans g5; have k6 := (b1.cell (p := ⟨w.heap.size, 6, none⟩) (by exact la)).trans g6; have k7 := (b1.cell (p := ⟨w.heap.size, 7, none⟩) (by exact la)).trans g7; have k8 := (b1.cell (p := ⟨w.heap.size, 8, none⟩) (by exact la)).trans g8)
  go_ret2
  exact ⟨rfl, f1⟩
set_option maxHeartbeats 3200000 in
set_option maxRecDepth 100000 in
theorem wencR_b (A B k S Q n : Int) (T : ByteArray) (w : World) (h2 : ¬ 1 ≤ B) :
    Calls Tryz.prog 80 #[.agg (rcA 2 0 A B k S Q n T)] w fun e w' => e = .returned (.tuple #[.string ⟨#[]⟩, .int .i64 1]) ∧ Below w.heap.size w w' := by
  have qp := isPromise_any 2 0 A B k S Q n T
  have hp : promB ⟨2, 0, ⟨A, B, ⟨k, S, Q, T, n⟩⟩⟩ = false := rfl
  rw [hp] at qp
  have ba : Below w.heap.size w (w.alloc (.cells (rcA 2 0 A B k S Q n T) 69)) := (Below.refl _ w).alloc (Nat.le_refl _) _
  have la : w.heap.size < (w.alloc (.cells (rcA 2 0 A B k S Q n T) 69)).heap.size := by simp
  have g0 : (w.alloc (.cells (rcA 2 0 A B k S Q n T) 69)).cell? ⟨w.heap.size, 0, none⟩ = some (.int .i64 2) := by simp
  have g1 : (w.alloc (.cells (rcA 2 0 A B k S Q n T) 69)).cell? ⟨w.heap.size, 1, none⟩ = some (.int .i64 0) := by simp
  have g2 : (w.alloc (.cells (rcA 2 0 A B k S Q n T) 69)).cell? ⟨w.heap.size, 2, none⟩ = some (.int .i64 A) := by simp
  have g3 : (w.alloc (.cells (rcA 2 0 A B k S Q n T) 69)).cell? ⟨w.heap.size, 3, none⟩ = some (.int .i64 B) := by simp
  have g4 : (w.alloc (.cells (rcA 2 0 A B k S Q n T) 69)).cell? ⟨w.heap.size, 4, none⟩ = some (.int .i64 k) := by simp
  have g5 : (w.alloc (.cells (rcA 2 0 A B k S Q n T) 69)).cell? ⟨w.heap.size, 5, none⟩ = some (.int .i64 S) := by simp
  have g6 : (w.alloc (.cells (rcA 2 0 A B k S Q n T) 69)).cell? ⟨w.heap.size, 6, none⟩ = some (.int .i64 Q) := by simp
  have g7 : (w.alloc (.cells (rcA 2 0 A B k S Q n T) 69)).cell? ⟨w.heap.size, 7, none⟩ = some (.string T) := by simp
  have g8 : (w.alloc (.cells (rcA 2 0 A B k S Q n T) 69)).cell? ⟨w.heap.size, 8, none⟩ = some (.int .i64 n) := by simp
  go_enter Tryz.func80, Tryz.ntmps80
  go_wp2_with (go_at_call 123; refine (qp _).mono ?_; rintro e w1 ⟨rfl, b1⟩; have f1 := bmm ba ba.size b1; have k0 := (b1.cell (p := ⟨w.heap.size, 0, none⟩) (by exact la)).trans g0; have k1 := (b1.cell (p := ⟨w.heap.size, 1, none⟩) (by exact la)).trans g1; have k2 := (b1.cell (p := ⟨w.heap.size, 2, none⟩) (by exact la)).trans g2; have k3 := (b1.cell (p := ⟨w.heap.size, 3, none⟩) (by exact la)).trans g3; have k4 := (b1.cell (p := ⟨w.heap.size, 4, none⟩) (by exact la)).trans g4; have k5 := (b1.cell (p := ⟨w.heap.size, 5, none⟩) (by exact la)).trans g5; have k6 := (b1.cell (p := ⟨w.heap.size, 6, none⟩) (by exact la)).trans g6; have k7 := (b1.cell (p := ⟨w.heap.size, 7, none⟩) (by exact la)).trans g7; have k8 := (b1.cell (p := ⟨w.heap.size, 8, none⟩) (by exact la)).trans g8)
  go_ret2
  exact ⟨rfl, f1⟩
set_option maxHeartbeats 3200000 in
set_option maxRecDepth 100000 in
theorem wencR_e (A B k S Q n : Int) (T : ByteArray) (w : World) (h2 : 1 ≤ B) (h : mayE ⟨A, B, ⟨k, S, Q, T, n⟩⟩ = false) :
    Calls Tryz.prog 80 #[.agg (rcA 2 0 A B k S Q n T)] w fun e w' => e = .returned (.tuple #[.string ⟨#[]⟩, .int .i64 1]) ∧ Below w.heap.size w w' := by
  have qp := isPromise_any 2 0 A B k S Q n T
  have hp : promB ⟨2, 0, ⟨A, B, ⟨k, S, Q, T, n⟩⟩⟩ = false := rfl
  rw [hp] at qp
  have q := encodeE_any A B k S Q n T
  have e : encET ⟨A, B, ⟨k, S, Q, T, n⟩⟩ = (⟨#[]⟩, 1) := by unfold encET; rw [if_neg (by rw [h]; simp)]
  rw [e] at q
  clear e h
  have ba : Below w.heap.size w (w.alloc (.cells (rcA 2 0 A B k S Q n T) 69)) := (Below.refl _ w).alloc (Nat.le_refl _) _
  have la : w.heap.size < (w.alloc (.cells (rcA 2 0 A B k S Q n T) 69)).heap.size := by simp
  have g0 : (w.alloc (.cells (rcA 2 0 A B k S Q n T) 69)).cell? ⟨w.heap.size, 0, none⟩ = some (.int .i64 2) := by simp
  have g1 : (w.alloc (.cells (rcA 2 0 A B k S Q n T) 69)).cell? ⟨w.heap.size, 1, none⟩ = some (.int .i64 0) := by simp
  have g2 : (w.alloc (.cells (rcA 2 0 A B k S Q n T) 69)).cell? ⟨w.heap.size, 2, none⟩ = some (.int .i64 A) := by simp
  have g3 : (w.alloc (.cells (rcA 2 0 A B k S Q n T) 69)).cell? ⟨w.heap.size, 3, none⟩ = some (.int .i64 B) := by simp
  have g4 : (w.alloc (.cells (rcA 2 0 A B k S Q n T) 69)).cell? ⟨w.heap.size, 4, none⟩ = some (.int .i64 k) := by simp
  have g5 : (w.alloc (.cells (rcA 2 0 A B k S Q n T) 69)).cell? ⟨w.heap.size, 5, none⟩ = some (.int .i64 S) := by simp
  have g6 : (w.alloc (.cells (rcA 2 0 A B k S Q n T) 69)).cell? ⟨w.heap.size, 6, none⟩ = some (.int .i64 Q) := by simp
  have g7 : (w.alloc (.cells (rcA 2 0 A B k S Q n T) 69)).cell? ⟨w.heap.size, 7, none⟩ = some (.string T) := by simp
  have g8 : (w.alloc (.cells (rcA 2 0 A B k S Q n T) 69)).cell? ⟨w.heap.size, 8, none⟩ = some (.int .i64 n) := by simp
  go_enter Tryz.func80, Tryz.ntmps80
  go_wp2_with (first | (go_at_call 125; refine (q _).mono ?_; rintro e w2 ⟨rfl, b2⟩; have f2 := bmm f1 f1.size b2) | (go_at_call 123; refine (qp _).mono ?_; rintro e w1 ⟨rfl, b1⟩; have f1 := bmm ba ba.size b1; have k0 := (b1.cell (p := ⟨w.heap.size, 0, none⟩) (by exact la)).trans g0; have k1 := (b1.cell (p := ⟨w.heap.size, 1, none⟩) (by exact la)).trans g1; have k2 := (b1.cell (p := ⟨w.heap.size, 2, none⟩) (by exact la)).trans g2; have k3 := (b1.cell (p := ⟨w.heap.size, 3, none⟩) (by exact la)).trans g3; have k4 := (b1.cell (p := ⟨w.heap.size, 4, none⟩) (by exact la)).trans g4; have k5 := (b1.cell (p := ⟨w.heap.size, 5, none⟩) (by exact la)).trans g5; have k6 := (b1.cell (p := ⟨w.heap.size, 6, none⟩) (by exact la)).trans g6; have k7 := (b1.cell (p := ⟨w.heap.size, 7, none⟩) (by exact la)).trans g7; have k8 := (b1.cell (p := ⟨w.heap.size, 8, none⟩) (by exact la)).trans g8))
  go_ret2
  exact ⟨rfl, f2⟩
theorem wencR_any (K N A B k S Q n : Int) (T : ByteArray) (w : World) :
    Calls Tryz.prog 80 #[.agg (rcA K N A B k S Q n T)] w fun e w' => e = .returned (.tuple #[.string (encRT ⟨K, N, ⟨A, B, ⟨k, S, Q, T, n⟩⟩⟩).1, .int .i64 (encRT ⟨K, N, ⟨A, B, ⟨k, S, Q, T, n⟩⟩⟩).2]) ∧ Below w.heap.size w w' := by
  by_cases h2 : K = 2
  · subst h2
    by_cases hN : N = 0
    · subst hN
      by_cases hB : 1 ≤ B
      · cases hm : mayE ⟨A, B, ⟨k, S, Q, T, n⟩⟩ with
        | true =>
          have hy : mayR ⟨2, 0, ⟨A, B, ⟨k, S, Q, T, n⟩⟩⟩ = true := by
            unfold mayR
            simp [hm, hB]
          rw [encRT_yes hy]
          exact wencR_two A B k S Q n T w hm hB
        | false =>
          rw [encRT_no (by unfold mayR; simp [hm])]
          exact wencR_e A B k S Q n T w hB hm
      · rw [encRT_no (by unfold mayR; simp; intro _; omega)]
        exact wencR_b A B k S Q n T w hB
    · rw [encRT_no (by unfold mayR; simp [hN])]
      exact wencR_n N A B k S Q n T w hN
  · cases hp : promB ⟨K, N, ⟨A, B, ⟨k, S, Q, T, n⟩⟩⟩ with
    | false =>
      have e : mayR ⟨K, N, ⟨A, B, ⟨k, S, Q, T, n⟩⟩⟩ = false := by
        unfold promB at hp
        unfold mayR
        by_cases h1 : K = 1
        · simp [h1] at hp ⊢
          exact hp
        · simp [h1, h2]
      rw [encRT_no e]
      exact wencR_other K N A B k S Q n T w hp h2
    | true =>
      have hq := hp
      unfold promB at hq
      simp only [Bool.and_eq_true, decide_eq_true_eq] at hq
      obtain ⟨h1, c1, c2, he⟩ := hq
      subst h1
      have ez := noE_iff.mp he
      have hy : mayR ⟨1, N, ⟨A, B, ⟨k, S, Q, T, n⟩⟩⟩ = true := by rw [ez]; exact mayR_one c1 c2
      rw [encRT_yes hy]
      unfold En.zero Cm.zero at ez
      injection ez with e1 e2 e3
      injection e3 with e4 e5 e6 e7 e8
      subst e1 e2 e4 e5 e6 e7 e8
      have r := wencR_one N.toNat w (by omega) (by omega)
      rw [show ((N.toNat : Nat) : Int) = N by omega] at r
      exact r
end Go.Proofs.YtodnnhidljfilaaGreatDoor
/-
  A builder of strings, one string more (strings.Builder's WriteString, walked at this translation). The conditions: the builder is a call's own; together at most 2^47 bytes.
-/
namespace Go.Proofs.YtodnnhidljfilaaGreatDoor
open Go.RowKit

theorem infoBy : (Tryz.prog.info? 5).map (fun i => (i.zero, i.size, i.bytes)) = some (some (.int .u8 0), 1, 1) := by kernel_rfl
/-- The builder in block b holds these bytes. -/
def Bd (w : World) (B b : Nat) (l : List UInt8) : Prop := Lib.IsBuilder 175 5 B b (Lib.byteCells l) w
theorem Bd.new (w : World) : Bd (w.alloc (.cells #[.pointer none, .slice none 0 0] 175)) w.heap.size w.heap.size [] := Lib.fresh_isBuilder _ _ w
theorem Bd.keep {w w' : World} {B b : Nat} {l : List UInt8} (h : Bd w B b l) (k : Below w.heap.size w w') : Bd w' B b l := by
  have go : ∀ p, Lib.BuilderAt 175 5 B b p (Lib.byteCells l) w → Lib.BuilderAt 175 5 B b p (Lib.byteCells l) w' := fun p ⟨h1, v, h2, h3, h4⟩ =>
    ⟨h1, v, (k.block b (lt_of_block h2)).trans h2, own_keep h3 (fun g e => k.block g (h3.lt g e).2), h4⟩
  rcases h with h | h
  · exact Or.inl (go _ h)
  · exact Or.inr (go _ h)
theorem Bd.lt {w : World} {B b : Nat} {l : List UInt8} (h : Bd w B b l) : B ≤ b ∧ b < w.heap.size := by
  rcases h with ⟨h1, v, h2, _⟩ | ⟨h1, v, h2, _⟩
  · exact ⟨h1, lt_of_block h2⟩
  · exact ⟨h1, lt_of_block h2⟩
theorem sizeBd : (Tryz.prog.info? 175).map (·.size) = some 2 := by kernel_rfl
theorem liesBd : liesAt Tryz.prog Tryz.prog.depth 175 (2 / Tryz.prog.cellsOf 175) 0 175 1 = true := by kernel_rfl
set_option maxHeartbeats 1000000 in
set_option maxRecDepth 100000 in
theorem copyCheck_used (b : Nat) (w : World) (h0 : w.cell? ⟨b, 0, none⟩ = some (.pointer (some ⟨b, 0, none⟩))) :
    Calls Tryz.prog 159 #[.pointer (some ⟨b, 0, none⟩)] w fun e w' => e = .returned (.tuple #[]) ∧ w' = w := by
  obtain ⟨j, hj, _⟩ := Option.map_eq_some_iff.1 sizeBd
  go_enter Tryz.func159, Tryz.ntmps159
  go_wp2
  rw [Lib.run_neq_ptr_same w _ Tryz.underlying173 hj]
  go_wp2
  go_end0
  exact ⟨rfl, rfl⟩
set_option maxHeartbeats 1000000 in
set_option maxRecDepth 100000 in
theorem copyCheck_fresh (b : Nat) (w : World) (h0 : w.cell? ⟨b, 0, none⟩ = some (.pointer none)) (hsh : w.shape? b = some (175, 2)) (hfz : w.frozen? ⟨b, 0, none⟩ = false) :
    Calls Tryz.prog 159 #[.pointer (some ⟨b, 0, none⟩)] w fun e w' => e = .returned (.tuple #[]) ∧ w' = w.setCell ⟨b, 0, none⟩ (.pointer (some ⟨b, 0, none⟩)) := by
  obtain ⟨j, hj, hjs⟩ := Option.map_eq_some_iff.1 sizeBd
  have r1 := Lib.run_to_unsafe w ⟨b, 0, none⟩ Tryz.underlying173 Tryz.underlying252 hj (by rw [hjs]; decide) hsh (Nat.zero_lt_succ 1)
  have r2 := Lib.run_from_unsafe w ⟨b, 0, none⟩ Tryz.underlying252 Tryz.underlying173 hj hsh liesBd
  go_enter Tryz.func159, Tryz.ntmps159
  go_wp2
  rw [run_callFunc_extern Tryz.func194 (by kernel_rfl) (by kernel_rfl) (by kernel_rfl) (e := Extern.AbiNoEscape.same) (by kernel_rfl)]
  rw [Lib.run_noEscape]
  simp only [Result.andThen]
  rw [Oper.upon_value]
  go_wp2
  go_end0
  exact ⟨rfl, rfl⟩
theorem copyCheck_any (B b : Nat) (bs : List Value) (w : World) (h : Lib.IsBuilder 175 5 B b bs w) :
    Calls Tryz.prog 159 #[.pointer (some ⟨b, 0, none⟩)] w fun e w' => e = .returned (.tuple #[]) ∧ (Lib.BuilderAt 175 5 B b (.pointer (some ⟨b, 0, none⟩)) bs w' ∧ Below B w w') := by
  rcases h with h | h
  · exact (copyCheck_fresh b w h.cell0 h.shape h.frozen0).mono fun e w' ⟨h1, h2⟩ => ⟨h1, by rw [h2]; exact h.used _, by rw [h2]; exact (Below.refl B w).setCell (p := ⟨b, 0, none⟩) h.1 _⟩
  · exact (copyCheck_used b w h.cell0).mono fun e w' ⟨h1, h2⟩ => ⟨h1, by rw [h2]; exact h, by rw [h2]; exact Below.refl B _⟩
set_option maxHeartbeats 2000000 in
set_option maxRecDepth 100000 in
theorem wstr_any (B b : Nat) (l : List UInt8) (s : ByteArray) (w : World) (h : Bd w B b l) (hlen : l.length + s.size ≤ 140737488355328) (hB : B ≤ w.heap.size) :
    Calls Tryz.prog 117 #[.pointer (some ⟨b, 0, none⟩), .string s] w fun e w' => e = .returned (.tuple #[.int .i64 s.size, .nilIface]) ∧ Bd w' B b (l ++ s.data.toList) ∧ Below B w w' := by
  obtain ⟨i0, hi, hz0, hz1, hz2⟩ := info_parts infoBy
  have hq := copyCheck_any B b (Lib.byteCells l) w h
  have hbl : (Lib.byteCells l).length = l.length := Lib.byteCells_length l
  go_enter Tryz.func117, Tryz.ntmps117
  go_wp2_with (go_at_call 159; refine hq.mono ?_)
  rintro e w1 ⟨rfl, ⟨hBb, v, hbk, hown, hne⟩, hb1⟩
  have hs1 := hb1.size
  have c0 : w1.cell? ⟨b, 0, none⟩ = some (.pointer (some ⟨b, 0, none⟩)) := by rw [Lib.cell_of_heap hbk]; rfl
  have c1 : w1.cell? ⟨b, 1, none⟩ = some v := by rw [Lib.cell_of_heap hbk]; rfl
  go_wp2_with (at_builtin; refine Lib.wpList_append_own_string _ rfl _ _ 101 9 rfl B 5 i0 Tryz.underlying101 Tryz.underlying9 hi hz0 hz1 hz2 _ _ _ rfl hown s rfl (by unfold maxLen; omega) (by omega) (by omega) ?_)
  intro v' w2 hown' hg _
  have hb2 : w2.heap[b]? = some (.cells #[.pointer (some ⟨b, 0, none⟩), v] 175 (0, 0)) := (hg.block b (lt_of_block hbk) (fun e => hne e.symm)).trans hbk
  have d1 : w2.cell? ⟨b, 1, none⟩ = some v := by rw [Lib.cell_of_heap hb2]; rfl
  have f1 : w2.frozen? ⟨b, 1, none⟩ = false := Lib.frozen_of_heap hb2 1
  obtain ⟨ao, n', cap, rfl⟩ := own_form hown'
  go_wp2
  go_ret2
  refine ⟨rfl, Or.inr ?_, ((hb1.grown hg (by omega) (fun k hk => (hown.lt k hk).1)).setCell (p := ⟨b, 1, none⟩) hBb _)⟩
  have e : Lib.byteCells (l ++ s.data.toList) = Lib.byteCells l ++ Lib.strCells s := by
    unfold Lib.strCells Lib.byteCells
    rw [List.map_append]
  rw [e]
  exact Lib.BuilderAt.put hBb hb2 (by rw [List.length_append, Lib.strCells_length, hbl]; exact hown') (by decide)
end Go.Proofs.YtodnnhidljfilaaGreatDoor
