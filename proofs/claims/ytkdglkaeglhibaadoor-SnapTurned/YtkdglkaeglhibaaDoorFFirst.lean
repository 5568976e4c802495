/-
  The contracts of package frame's First and All as they landed: they answer as the document's plain functions. The conditions: the table of 16 numbers holds what its initialiser lays ('Tab'), and sizes.
-/
import Derived.Test.YtkdglkaeglhibaaDoorFLand
namespace Go.Proofs.YtkdglkaeglhibaaDoor
open Go.RowKit

theorem Tab.drewN {w : World} (h : Tab w) (m : Nat) : Tab (w.drewN m) := h.below (below_drewN (Below.refl _ _) m)

set_option maxHeartbeats 800000 in
set_option maxRecDepth 100000 in
theorem first_any (s : ByteArray) (hs : s.size ≤ 1099511627776) (w : World) (hT : Tab w) :
    Calls Tryd.prog 44 #[.string s] w fun e w' => e = .returned (.tuple #[.string (firstT s).1, .int .i64 (firstT s).2.1, .int .i64 (firstT s).2.2]) ∧ Below w.heap.size w w' := by
  have hl := Lib.size_eq s
  unfold firstT firstOf
  rw [← hl]
  by_cases h8 : s.size < 8
  · rw [if_pos h8]
    have h8' : (s.size : Int) < 8 := by omega
    clear hl
    go_enter Tryd.func44, Tryd.ntmps44
    go_wp2
    go_ret3
    exact ⟨rfl, Below.refl _ _⟩
  · rw [if_neg h8]
    have h8' : (8 : Int) ≤ (s.size : Int) := by omega
    have d4 : (s.extract 0 4).data.toList = s.data.toList.take 4 := by rw [Lib.extract_data]; simp
    have d5 : (s.extract 4 8).data.toList = (s.data.toList.drop 4).take 4 := Lib.extract_data s 4 8
    have d8 : (s.extract 8 s.size).data.toList = s.data.toList.drop 8 := Lib.extract_to_end s 8
    obtain ⟨X4, he4⟩ : ∃ X4, s.extract 0 4 = X4 := ⟨_, rfl⟩
    obtain ⟨X5, he5⟩ : ∃ X5, s.extract 4 8 = X5 := ⟨_, rfl⟩
    obtain ⟨X8, he8⟩ : ∃ X8, s.extract 8 s.size = X8 := ⟨_, rfl⟩
    rw [he4] at d4
    rw [he5] at d5
    rw [he8] at d8
    have z4 : 4 ≤ X4.size := by rw [Lib.size_eq, d4]; simp; omega
    have z4' : X4.size ≤ 4 := by rw [Lib.size_eq, d4]; simp; omega
    have z5 : 4 ≤ X5.size := by rw [Lib.size_eq, d5]; simp; omega
    have z8 : X8.size + 8 = s.size := by rw [Lib.size_eq, d8, List.length_drop, ← hl]; omega
    have q1 := fnumber_any X4 z4
    have x1 : num4 X4.data.toList = num4 s.data.toList := by rw [d4]; unfold num4; simp
    rw [x1] at q1
    obtain ⟨n, hn⟩ : ∃ n, n = num4 s.data.toList := ⟨_, rfl⟩
    have hnl := num4_lt s.data.toList
    rw [← hn] at q1 hnl ⊢
    by_cases hbig : 524288 < n
    · rw [if_pos hbig]
      have hbig' : (524288 : Int) < (n : Int) := by omega
      clear hn hl d4 d5 d8 x1
      go_enter Tryd.func44, Tryd.ntmps44
      go_wp2
      go_quiet (fail)
      go_wp2_with (go_at_call 61; refine (q1 _).mono ?_; rintro e w' ⟨rfl, rfl⟩)
      go_ret3
      exact ⟨rfl, below_drewN (Below.refl _ _) _⟩
    · rw [if_neg hbig]
      have hbig' : (n : Int) ≤ 524288 := by omega
      by_cases hend : s.size - 8 < n
      · rw [if_pos hend]
        have hend' : (X8.size : Int) < (n : Int) := by omega
        clear hn hl d4 d5 d8 x1
        go_enter Tryd.func44, Tryd.ntmps44
        go_wp2
        go_quiet (fail)
        go_wp2_with (go_at_call 61; refine (q1 _).mono ?_; rintro e w' ⟨rfl, rfl⟩)
        go_ret3
        exact ⟨rfl, below_drewN (Below.refl _ _) _⟩
      · rw [if_neg hend]
        have hend' : (n : Int) ≤ (X8.size : Int) := by omega
        have dt : (X8.extract 0 n).data.toList = (s.data.toList.drop 8).take n := by rw [Lib.extract_data, d8]; simp
        obtain ⟨X, heX⟩ : ∃ X, X8.extract 0 n = X := ⟨_, rfl⟩
        rw [heX] at dt
        have zX : X.size ≤ n := by rw [Lib.size_eq, dt, List.length_take]; omega
        have q2 := fnumber_any X5 z5
        have x2 : num4 X5.data.toList = num4 (s.data.toList.drop 4) := by rw [d5]; unfold num4; simp
        have q3 := sumOfBoth_any X4 X (by omega) (by omega)
        have q4 := sclone_any X (by omega)
        rw [x2] at q2
        rw [d4, dt] at q3
        have X1 : Hid (X = ⟨((s.data.toList.drop 8).take n).toArray⟩) := by
          show X = _
          rw [← dt, Lib.mk_data]
        obtain ⟨c, hc⟩ : ∃ c, c = crc (s.data.toList.take 4 ++ (s.data.toList.drop 8).take n) := ⟨_, rfl⟩
        obtain ⟨m, hm⟩ : ∃ m, m = num4 (s.data.toList.drop 4) := ⟨_, rfl⟩
        rw [← hc] at q3 ⊢
        rw [← hm] at q2 ⊢
        clear hn hl d4 d5 d8 x1 x2 dt hc hm
        by_cases hcm : c = m
        · have hcm' : ((m : Int) != (c : Int)) = false := by simp; omega
          rw [if_neg (by simpa using hcm)]
          clear hcm
          go_enter Tryd.func44, Tryd.ntmps44
          go_wp2
          go_quiet (fail)
          go_wp2_with (first
            | (go_at_call 29; refine (q4 _).mono ?_; rintro e w4 ⟨rfl, b4⟩)
            | (go_at_call 39; refine (q3 _ (by exact hT.drewN _)).mono ?_; rintro e w' ⟨rfl, rfl⟩)
            | (go_at_call 61; have d2 := d1; refine (q2 _).mono ?_; rintro e w' ⟨rfl, rfl⟩)
            | (go_at_call 61; refine (q1 _).mono ?_; rintro e w' ⟨rfl, rfl⟩; have d1 : True := trivial))
          go_ret3
          rw [← X1.out]
          exact ⟨rfl, (below_drewN (Below.refl _ w) _).trans b4⟩
        · have hcm' : ((m : Int) != (c : Int)) = true := by simp; omega
          rw [if_pos hcm]
          clear hcm
          go_enter Tryd.func44, Tryd.ntmps44
          go_wp2
          go_quiet (fail)
          go_wp2_with (first
            | (go_at_call 39; refine (q3 _ (by exact hT.drewN _)).mono ?_; rintro e w' ⟨rfl, rfl⟩)
            | (go_at_call 61; have d2 := d1; refine (q2 _).mono ?_; rintro e w' ⟨rfl, rfl⟩)
            | (go_at_call 61; refine (q1 _).mono ?_; rintro e w' ⟨rfl, rfl⟩; have d1 : True := trivial))
          go_ret3
          exact ⟨rfl, below_drewN (Below.refl _ w) _⟩

end Go.Proofs.YtkdglkaeglhibaaDoor
