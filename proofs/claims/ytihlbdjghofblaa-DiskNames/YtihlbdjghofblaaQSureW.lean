/-
  DiskSure of layer 5, walked: what was synced is there behind any crash; of what was not, a beginning. No condition.
-/
import Derived.Test.YtihlbdjghofblaaQSure
namespace Go.Proofs.Ytihlbdjghofblaa
open Go.RowKit

theorem bel_next {B : Nat} {w w1 w2 : World} (b : Below B w w1) (hB : B ≤ w.heap.size) (b2 : Below w1.heap.size w1 w2) : Below B w w2 :=
  ⟨b2.os.trans b.os, b2.tape.trans b.tape, b2.output.trans b.output, Nat.le_trans b.size b2.size, fun k hk => (b2.block k (Nat.lt_of_lt_of_le hk (Nat.le_trans hB b.size))).trans (b.block k hk)⟩
section
variable {w : World} {base D : Nat} {ro : Nat → Option Nat}
/-- A crash where all is sure. -/
theorem all_crash {c t : Nat} {bs : List UInt8} (k : DkS w base D (oneF c bs bs.length []) t ro) (keep : Int) (h1 : -9223372036854775808 ≤ keep) (h2 : keep ≤ 9223372036854775807) : Calls Try.prog 14 #[.pointer (some ⟨D, 0, none⟩), .int .i64 keep] w fun e w' => e = .returned (.tuple #[]) ∧
    DkS w' base D (oneF c bs bs.length []) t ro ∧ Below base w w' := by
  refine (one_crash (s := ⟨#[]⟩) (t0 := 0) k keep h1 h2).mono fun _ _ ⟨e1, h3, h4⟩ => ⟨e1, ?_, h4⟩
  have e : bs.length + min (⟨#[]⟩ : ByteArray).size keep.toNat = bs.length := by
    have : (⟨#[]⟩ : ByteArray).size = 0 := rfl
    omega
  rw [e, List.take_length] at h3
  exact h3
theorem all_unsynced {c t sure : Nat} {bs : List UInt8} (k : DkS w base D (oneF c bs sure []) t ro) : Calls Try.prog 16 #[.pointer (some ⟨D, 0, none⟩), .string ⟨#[97]⟩] w fun e w' => e = .returned (.int .i64 0) ∧ Below w.heap.size w w' := one_unsynced k
end
/-- The state behind the crash. -/
theorem sure_crash {w : World} {base D : Nat} {ro : Nat → Option Nat} {c t t0 m : Nat} {s r : ByteArray} {T : List UInt8} (keep : Int) (hm : m = min r.size keep.toNat) (hT : T = s.data.toList ++ r.data.toList.take m) (k : DkS w base D (oneF c (s.data.toList ++ r.data.toList) s.data.toList.length (morePs [] r t0)) t ro) (h1 : -9223372036854775808 ≤ keep) (h2 : keep ≤ 9223372036854775807) : Calls Try.prog 14 #[.pointer (some ⟨D, 0, none⟩), .int .i64 keep] w fun e w' => e = .returned (.tuple #[]) ∧
    DkS w' base D (oneF c T T.length []) t ro ∧ Below base w w' := by
  refine (one_crash k keep h1 h2).mono fun _ _ ⟨e1, h3, h4⟩ => ⟨e1, ?_, h4⟩
  rw [← hm] at h3
  have e2 : (s.data.toList ++ r.data.toList).take (s.data.toList.length + m) = T := by
    rw [hT, List.take_append]
    congr 1
    · rw [List.take_of_length_le (by omega)]
    · congr 1
      omega
  have e3 : T.length = s.data.toList.length + m := by
    rw [hT, List.length_append, List.length_take, ← Lib.size_eq r]
    omega
  rw [e2, ← e3] at h3
  exact h3
theorem text_cut (s r : ByteArray) (m : Nat) : s ++ r.extract 0 m = textOf (s.data.toList ++ r.data.toList.take m) := by
  apply ByteArray.ext
  apply Array.ext'
  simp [textOf, ByteArray.data_append, ByteArray.data_extract]
set_option maxHeartbeats 3200000 in
set_option maxRecDepth 100000 in
theorem sure_walk (s r : ByteArray) (keep : Int) (h1 : -9223372036854775808 ≤ keep) (h2 : keep ≤ 9223372036854775807) (w : World) :
    Calls Try.prog 4 #[.string s, .string r, .int .i64 keep] w fun e w' => e = .returned (.bool true) ∧ Below w.heap.size w w' := by
  by_cases hs : 1000 < s.size
  · have t1 : decide ((1000 : Int) < (s.size : Int)) = true := by simp; omega
    go_enter Try.func4, Try.ntmps4
    go_wp2_with (go_at_call 11; refine (awake_any _).mono ?_; rintro e w9 ⟨rfl, bel⟩)
    go_ret
    exact ⟨rfl, bel⟩
  have t1 : decide ((1000 : Int) < (s.size : Int)) = false := by simp; omega
  by_cases hr : 1000 < r.size
  · have t2 : decide ((1000 : Int) < (r.size : Int)) = true := by simp; omega
    go_enter Try.func4, Try.ntmps4
    go_wp2_with (go_at_call 11; refine (awake_any _).mono ?_; rintro e w9 ⟨rfl, bel⟩)
    go_ret
    exact ⟨rfl, bel⟩
  have t2 : decide ((1000 : Int) < (r.size : Int)) = false := by simp; omega
  obtain ⟨m, hm⟩ : ∃ m, m = min r.size keep.toNat := ⟨_, rfl⟩
  have hmm : max 0 (min keep (r.size : Int)) = (m : Int) := by omega
  have hmr : m ≤ r.size := by omega
  have hmr2 : (m : Int) ≤ (r.size : Int) := by omega
  obtain ⟨T, hT⟩ : ∃ T, T = s.data.toList ++ r.data.toList.take m := ⟨_, rfl⟩
  have hU := text_cut s r m
  rw [← hT] at hU
  obtain ⟨U, hUe⟩ : ∃ U, U = textOf T := ⟨_, rfl⟩
  rw [← hUe] at hU
  have HU : Hid (U = textOf T) := hUe
  clear hUe
  have ht : moreT s 0 < 4611686018427387904 := by unfold moreT; split <;> omega
  have HC : Hid (m = min r.size keep.toNat ∧ T = s.data.toList ++ r.data.toList.take m) := ⟨hm, hT⟩
  have HL : Hid (s.data.toList.length = s.size) := (Lib.size_eq s).symm
  have hn := new_S w
  have HB : Hid (w.heap.size ≤ w.heap.size) := Nat.le_refl _
  obtain ⟨B, hBe⟩ : ∃ B, B = w.heap.size := ⟨_, rfl⟩
  rw [← hBe] at hn ⊢
  have HBL : Hid (B ≤ w.heap.size) := by rw [hBe]; exact Nat.le_refl _
  clear hBe hm hT HB
  go_enter Try.func4, Try.ntmps4
  go_wp2_with (first
    | (go_at_call 11; have bz := bel_next b7 HBL.out b9; refine (awake_any _).mono ?_; rintro e w10 ⟨rfl, b10⟩; have bf := bel_next bz HBL.out b10)
    | (go_at_call 16; refine (all_unsynced k8).mono ?_; rintro e w9 ⟨rfl, b9⟩; clear k8)
    | (go_at_call 15; refine (one_read k7).mono ?_; rw [← HU.out]; rintro e w8 ⟨rfl, rfl⟩; have k8 := k7; clear k7)
    | (go_at_call 14; refine (all_crash k6 0 (by decide) (by decide)).mono ?_; rintro e w7 ⟨rfl, k7, x7⟩; have b7 := b5.trans x7; clear k6 b5 x7)
    | (go_at_call 15; refine (one_read k5).mono ?_; rw [← HU.out]; rintro e w6 ⟨rfl, rfl⟩; have k6 := k5; clear k5)
    | (go_at_call 14; refine (sure_crash keep HC.out.1 HC.out.2 k4 h1 h2).mono ?_; rintro e w5 ⟨rfl, k5, x5⟩; have b5 := b4.trans x5; clear k4 b4 x5)
    | (go_at_call 12; refine (one_more k3 r (by rw [HL.out]; omega) ht).mono ?_; rintro e w4 ⟨rfl, ro4, k4, x4⟩; have b4 := b3.trans x4; clear k3 b3 x4)
    | (go_at_call 13; refine (one_sync k2).mono ?_; rintro e w3 ⟨rfl, k3, x3⟩; have b3 := b2.trans x3; clear k2 b2 x3)
    | (go_at_call 12; refine (one_first k1 s (by omega)).mono ?_; rintro e w2 ⟨rfl, c, ro2, k2, x2⟩; have b2 := b1.trans x2; clear k1 b1 x2)
    | (go_at_call 8; refine hn.mono ?_; rintro e w1 ⟨rfl, ro1, k1, b1⟩))
  go_ret
  exact ⟨rfl, bf⟩
end Go.Proofs.Ytihlbdjghofblaa
