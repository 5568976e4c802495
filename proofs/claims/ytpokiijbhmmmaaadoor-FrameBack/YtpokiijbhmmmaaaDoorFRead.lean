/-
  The contracts of the document's own reader of frames (package latchkeyref02): First, All, Texts, for every text. No condition but on sizes.
-/
import Derived.Test.YtpokiijbhmmmaaaDoorFRef
import Derived.Deep.RegionHeld3
namespace Go.Proofs.YtpokiijbhmmmaaaDoor
open Go.RowKit

theorem bel_step {base : Nat} {w W w2 : World} (h : Below base w W) (hs : w.heap.size = base) (b : Below W.heap.size W w2) : Below base w w2 := h.trans (b.mono (by have := h.size; omega))

/-- First's three answers on a text. -/
def firstT (s : ByteArray) : ByteArray × Nat × Nat := (⟨(firstOf s.data.toList).1.toArray⟩, (firstOf s.data.toList).2.1, (firstOf s.data.toList).2.2)

set_option maxHeartbeats 800000 in
set_option maxRecDepth 100000 in
theorem rfirst_any (s : ByteArray) (hs : s.size ≤ 9223372036854775000) (w : World) :
    Calls Tryd.prog 13 #[.string s] w fun e w' => e = .returned (.tuple #[.string (firstT s).1, .int .i64 (firstT s).2.1, .int .i64 (firstT s).2.2]) ∧ Below w.heap.size w w' := by
  have hl := Lib.size_eq s
  unfold firstT firstOf
  rw [← hl]
  clear hl
  by_cases h8 : s.size < 8
  · rw [if_pos h8]
    have h8' : (s.size : Int) < 8 := by omega
    go_enter Tryd.func13, Tryd.ntmps13
    go_wp2
    go_ret3
    exact ⟨rfl, Below.refl _ _⟩
  · rw [if_neg h8]
    have h8' : (8 : Int) ≤ (s.size : Int) := by omega
    have q1 := rnum_any s (by omega)
    obtain ⟨n, hn⟩ : ∃ n, n = num4 s.data.toList := ⟨_, rfl⟩
    have hnl := num4_lt s.data.toList
    rw [← hn] at q1 hnl ⊢
    by_cases hbig : 524288 < n
    · rw [if_pos hbig]
      have hbig' : (524288 : Int) < (n : Int) := by omega
      clear hn
      go_enter Tryd.func13, Tryd.ntmps13
      go_wp2_with (go_at_call 22; refine (q1 _).mono ?_; rintro e w1 ⟨rfl, m1, rfl⟩)
      go_ret3
      exact ⟨rfl, below_drewN (Below.refl _ _) _⟩
    · rw [if_neg hbig]
      have hbig' : (n : Int) ≤ 524288 := by omega
      by_cases hend : s.size - 8 < n
      · rw [if_pos hend]
        have hend' : (s.size : Int) - 8 < (n : Int) := by omega
        clear hn
        go_enter Tryd.func13, Tryd.ntmps13
        go_wp2_with (go_at_call 22; refine (q1 _).mono ?_; rintro e w1 ⟨rfl, m1, rfl⟩)
        go_ret3
        exact ⟨rfl, below_drewN (Below.refl _ _) _⟩
      · rw [if_neg hend]
        have hend' : (n : Int) ≤ (s.size : Int) - 8 := by omega
        have x1 : s.extract 8 (8 + n) = ⟨((s.data.toList.drop 8).take n).toArray⟩ := by rw [Lib.extract_eq, show 8 + n - 8 = n by omega]
        have x2 : (s.extract 0 4 ++ s.extract 8 (8 + n)).data.toList = s.data.toList.take 4 ++ (s.data.toList.drop 8).take n := by
          rw [x1, Lib.extract_eq, append_lists]
          simp
        have x3 : (s.extract 4 8).data.toList = (s.data.toList.drop 4).take 4 := Lib.extract_data s 4 8
        have hl := Lib.size_eq s
        have x4 : num4 ((s.data.toList.drop 4).take 4) = num4 (s.data.toList.drop 4) := by
          unfold num4
          simp
        have z1 : (s.extract 0 4).size ≤ 4 := by rw [Lib.size_eq, Lib.extract_data]; simp; omega
        have z2 : (s.extract 8 (8 + n)).size ≤ n := by rw [x1, size_list]; simp; omega
        have z3 : 4 ≤ (s.extract 4 8).size := by rw [Lib.size_eq, x3]; simp; omega
        have z4 : (s.extract 0 4 ++ s.extract 8 (8 + n)).size ≤ 4 + n := by rw [ByteArray.size_append]; omega
        have hsum : (s.extract 0 4).size + (s.extract 8 (8 + n)).size ≤ 9223372036854775807 := by omega
        have q2 := rsum_any (s.extract 0 4 ++ s.extract 8 (8 + n)) (by omega)
        have q3 := rnum_any (s.extract 4 8) z3
        rw [x2] at q2
        rw [x3, x4] at q3
        obtain ⟨c, hc⟩ : ∃ c, c = crc (s.data.toList.take 4 ++ (s.data.toList.drop 8).take n) := ⟨_, rfl⟩
        obtain ⟨m, hm⟩ : ∃ m, m = num4 (s.data.toList.drop 4) := ⟨_, rfl⟩
        rw [← hc] at q2 ⊢
        rw [← hm] at q3 ⊢
        have X1 : Hid (s.extract 8 (8 + n) = ⟨((s.data.toList.drop 8).take n).toArray⟩) := x1
        have i4 : (4 : Int) ≤ (s.size : Int) := by omega
        have i8 : (8 : Int) + (n : Int) ≤ (s.size : Int) := by omega
        have hwr : IntKind.i64.wrap (8 + (n : Int)) = 8 + (n : Int) := IntWalk.i64_in _ ⟨by omega, by omega⟩
        have htn : (8 + (n : Int)).toNat = 8 + n := by omega
        have i0 : (0 : Int) ≤ 8 + (n : Int) := by omega
        have j8 : (8 : Int) ≤ 8 + (n : Int) := by omega
        obtain ⟨X4, he4⟩ : ∃ X4, s.extract 0 4 = X4 := ⟨_, rfl⟩
        obtain ⟨X8, he8⟩ : ∃ X8, s.extract 8 (8 + n) = X8 := ⟨_, rfl⟩
        rw [he8] at X1
        rw [he4, he8] at hsum q2
        have hlt : (9223372036854775807 < X4.size + X8.size) = False := eq_false (by omega)
        have k2 : ∀ w0 : World, Calls Tryd.prog 11 #[.string (X4 ++ X8)] w0 fun e w' => e = .returned (.int .i64 c) ∧ w' = w0 := fun w0 => (q2 w0).mono fun e w' ⟨he, hw⟩ => ⟨he, hw.symm⟩
        clear hn hc hm x1 x2 x3 x4 hl z1 z2 z3 z4 q2
        by_cases hcm : c = m
        · have hcm' : ((c : Int) != (m : Int)) = false := by simp; omega
          rw [if_neg (by simpa using hcm)]
          clear hcm
          go_enter Tryd.func13, Tryd.ntmps13
          go_wp2_with (go_at_call 22; refine (q1 _).mono ?_; rintro e w1 ⟨rfl, m1, hw1⟩; have HW : Hid (w1 = w.drewN m1) := hw1; clear hw1)
          go_quiet (first | (go_at_call 11; refine Calls.quiet_of_same (k2 _)) | (go_at_call 22; refine Calls.quiet_of (q3 _)))
          go_wp2
          go_ret3
          rw [← X1.out]
          exact ⟨rfl, by rw [HW.out]; exact below_drewN (below_drewN (Below.refl _ _) _) _⟩
        · have hcm' : ((c : Int) != (m : Int)) = true := by simp; omega
          rw [if_pos hcm]
          clear hcm
          go_enter Tryd.func13, Tryd.ntmps13
          go_wp2_with (go_at_call 22; refine (q1 _).mono ?_; rintro e w1 ⟨rfl, m1, hw1⟩; have HW : Hid (w1 = w.drewN m1) := hw1; clear hw1)
          go_quiet (first | (go_at_call 11; refine Calls.quiet_of_same (k2 _)) | (go_at_call 22; refine Calls.quiet_of (q3 _)))
          go_wp2
          go_ret3
          exact ⟨rfl, by rw [HW.out]; exact below_drewN (below_drewN (Below.refl _ _) _) _⟩
end Go.Proofs.YtpokiijbhmmmaaaDoor
