/-
  NetRoom of layer 6, walked: no more packets than there may be. No condition.
-/
import Derived.Test.YtpbkpaendhpbfaaNtAwake
namespace Go.Proofs.Ytpbkpaendhpbfaa
open Go.RowKit

def rep (k : Nat) : List ByteArray := List.replicate (min k 4096) ⟨#[112]⟩
theorem rep_len (k : Nat) : (rep k).length = min k 4096 := by unfold rep; simp
theorem rep_more {k : Nat} (h : k < 4096) : rep k ++ [⟨#[112]⟩] = rep (k + 1) := by
  unfold rep
  rw [Nat.min_eq_left (by omega), Nat.min_eq_left (by omega), List.replicate_succ']
theorem rep_full {k : Nat} (h : ¬ k < 4096) : rep k = rep (k + 1) := by
  unfold rep
  rw [Nat.min_eq_right (by omega), Nat.min_eq_right (by omega)]
section
variable {w : World} {base D : Nat} {S : Nat → Prop}
theorem nr_send {k : Nat} (h : NtAt PT w base D S (rep k)) (hk : k < 4096) : Calls Try.prog 13 #[.pointer (some ⟨D, 0, none⟩), .string ⟨#[112]⟩] w fun e w' => e = .returned (.int .i64 0) ∧ ∃ S', NtAt PT w' base D S' (rep (k + 1)) ∧ Below base w w' :=
  (psend_yes ⟨#[112]⟩ h (by rw [rep_len]; omega) (by decide)).mono fun _ _ ⟨h1, S', h2, h3⟩ => ⟨h1, S', by rw [← rep_more hk]; exact h2, h3.below h⟩
theorem nr_full {k : Nat} (h : NtAt PT w base D S (rep k)) (hk : ¬ k < 4096) : Calls Try.prog 13 #[.pointer (some ⟨D, 0, none⟩), .string ⟨#[112]⟩] w fun e w' => e = .returned (.int .i64 17) ∧ ∃ S', NtAt PT w' base D S' (rep (k + 1)) ∧ Below base w w' :=
  (psend_full ⟨#[112]⟩ h (by rw [rep_len]; omega)).mono fun _ _ ⟨h1, h2⟩ => ⟨h1, S, by rw [← rep_full hk, ← h2]; exact h, by rw [← h2]; exact Below.refl _ _⟩
/-- Double, on a net of so many. -/
theorem nr_double {k : Nat} (h : NtAt PT w base D S (rep k)) : Calls Try.prog 19 #[.pointer (some ⟨D, 0, none⟩), .int .i64 0] w fun e w' => (∃ z : Int, e = .returned (.int .i64 z) ∧ (z == 17) = decide (4096 ≤ k)) ∧ Below base w w' := by
  by_cases h0 : k = 0
  · subst h0
    exact (pdouble_no 0 h (by decide)).mono fun _ _ ⟨h1, h2⟩ => ⟨⟨1, h1, rfl⟩, by rw [← h2]; exact Below.refl _ _⟩
  · have hl : 0 < (rep k).length := by rw [rep_len]; omega
    by_cases h1 : 4096 ≤ k
    · exact (pdouble_full 0 h (by unfold inR; rw [Bool.and_eq_true, decide_eq_true_eq, decide_eq_true_eq]; omega) (by rw [rep_len]; omega)).mono fun _ _ ⟨h2, h3⟩ => ⟨⟨17, h2, by simp [h1]⟩, by rw [← h3]; exact Below.refl _ _⟩
    · exact (pdouble_yes 0 h hl (by rw [rep_len]; omega)).mono fun _ _ ⟨h2, S', h3, h4⟩ => ⟨⟨0, h2, by simp; omega⟩, h4.below h⟩
end
set_option maxHeartbeats 3200000 in
set_option maxRecDepth 100000 in
theorem nroom_walk (z : Int) (w : World) :
    Calls Try.prog 6 #[.int .i64 z] w fun e w' => e = .returned (.bool true) ∧ Below w.heap.size w w' := by
  obtain ⟨m, hm⟩ : ∃ m, m = (min z 4099).toNat := ⟨_, rfl⟩
  have hmm : max 0 (min z 4099) = (m : Int) := by omega
  have hle : m ≤ 4099 := by omega
  clear hm
  have hn := new_N w
  obtain ⟨B, hB⟩ : ∃ B, B = w.heap.size := ⟨_, rfl⟩
  have HB : Hid (B ≤ w.heap.size) := by rw [hB]; exact Nat.le_refl _
  rw [← hB] at hn ⊢
  clear hB
  go_enter Try.func6, Try.ntmps6
  go_wp2_with (go_at_call 12; refine hn.mono ?_; rintro e w1 ⟨rfl, S1, k1, b1⟩)
  have HK1 : Hid _ := k1
  clear k1
  go_loopw [4] (fun i wr => ∃ k : Nat, k ≤ m ∧ i = .int .i64 k ∧ ∃ S, NtAt PT wr B B S (rep k) ∧ Below B w wr) (fun i _ => m - (intOf i).toNat)
  case atStart => exact ⟨0, Nat.zero_le _, rfl, S1, HK1.out, b1⟩
  case round =>
    obtain ⟨k, hk, rfl, S, hN, bel⟩ := hrel
    by_cases hkm : k < m
    · by_cases h4 : k < 4096
      · have q1 : decide ((k : Int) < (4096 : Int)) = true := by simp; omega
        go_wp2_with (go_at_call 13; refine (nr_send hN h4).mono ?_; rintro e w2 ⟨rfl, S2, k2, b2⟩; have HK2 : Hid _ := k2; clear k2)
        go_roundw
        case rel => exact ⟨k + 1, hkm, by go_num, S2, HK2.out, bel.trans b2⟩
        case measure => simp [intOf]; omega
      · have q1 : decide ((k : Int) < (4096 : Int)) = false := by simp; omega
        go_wp2_with (go_at_call 13; refine (nr_full hN h4).mono ?_; rintro e w2 ⟨rfl, S2, k2, b2⟩; have HK2 : Hid _ := k2; clear k2)
        go_roundw
        case rel => exact ⟨k + 1, hkm, by go_num, S2, HK2.out, bel.trans b2⟩
        case measure => simp [intOf]; omega
    · have hke : k = m := by omega
      subst hke
      have hlen := plen_any hN
      rw [rep_len] at hlen
      obtain ⟨q, hq⟩ : ∃ q, q = min k 4096 := ⟨_, rfl⟩
      rw [← hq] at hlen
      have hmin : min (k : Int) 4096 = (q : Int) := by omega
      clear hq
      have hd := nr_double hN
      have HW : Hid (B ≤ wr.heap.size) := Nat.le_trans HB.out bel.size
      clear hN
      by_cases h4 : 4096 ≤ k
      · have q1 : decide ((4096 : Int) ≤ (k : Int)) = true := by simp; omega
        have q2 : decide (4096 ≤ k) = true := by simpa using h4
        rw [q2] at hd
        go_wp2_with (first
          | (go_at_call 24; refine (nawake_any _).mono ?_; rintro e w9 ⟨rfl, b9⟩)
          | (go_at_call 19; refine hd.mono ?_; rintro e w2 ⟨⟨z, rfl, hz⟩, b2⟩)
          | (go_at_call 21; refine hlen.mono ?_; rintro e w1 ⟨rfl, rfl⟩))
        go_ret
        exact ⟨rfl, bmm (bel.trans b2) (Nat.le_trans HW.out b2.size) b9⟩
      · have q1 : decide ((4096 : Int) ≤ (k : Int)) = false := by simp; omega
        have q2 : decide (4096 ≤ k) = false := by simpa using h4
        rw [q2] at hd
        go_wp2_with (first
          | (go_at_call 24; refine (nawake_any _).mono ?_; rintro e w9 ⟨rfl, b9⟩)
          | (go_at_call 19; refine hd.mono ?_; rintro e w2 ⟨⟨z, rfl, hz⟩, b2⟩)
          | (go_at_call 21; refine hlen.mono ?_; rintro e w1 ⟨rfl, rfl⟩))
        go_ret
        exact ⟨rfl, bmm (bel.trans b2) (Nat.le_trans HW.out b2.size) b9⟩
end Go.Proofs.Ytpbkpaendhpbfaa
