/-
  The laws of layer 14 over package ballot and the document's ballots. No condition.
-/
import Derived.Test.YthmogfejohhobaaBaCode
import Derived.Test.YthmogfejohhobaaBaRef
namespace Go.Proofs.Ythmogfejohhobaa
open Go.RowKit

set_option maxHeartbeats 3200000 in
theorem awake_any (w : World) : Calls Try.prog 14 #[] w fun e w' => e = .returned (.bool true) ∧ w = w' := by
  have H0 : Hid _ := pof_any 2 1
  rw [show ofR 2 1 = 17 from by decide] at H0
  have H1 : Hid _ := pnext_any 17 0 (by decide)
  rw [show nxR 17 0 = 24 from by decide] at H1
  have H2 : Hid _ := pnext_any 17 2 (by decide)
  rw [show nxR 17 2 = 18 from by decide] at H2
  have H3 : Hid _ := pof_any 0 0
  rw [show ofR 0 0 = 0 from by decide] at H3
  have H4 : Hid _ := pmaj_any 3 (by decide)
  rw [show maR 3 = 2 from by decide] at H4
  have H5 : Hid _ := pmaj_any 4 (by decide)
  rw [show maR 4 = 3 from by decide] at H5
  have H6 : Hid _ := pRound_any 17
  rw [show roR 17 = 2 from by decide] at H6
  have H7 : Hid _ := pId_any 17
  rw [show idR 17 = 1 from by decide] at H7
  have H8 : Hid _ := pId_any 15
  rw [show idR 15 = -1 from by decide] at H8
  go_enter Try.func14, Try.ntmps14
  go_wp2_with (first
    | (have z8 := d8; go_at_call 12; refine (H8.out _).mono ?_; rintro e w1 ⟨rfl, rfl⟩; have d9 : True := trivial)
    | (have z7 := d7; go_at_call 12; refine (H7.out _).mono ?_; rintro e w1 ⟨rfl, rfl⟩; have d8 : True := trivial)
    | (have z6 := d6; go_at_call 10; refine (H6.out _).mono ?_; rintro e w1 ⟨rfl, rfl⟩; have d7 : True := trivial)
    | (have z5 := d5; go_at_call 17; refine (H5.out _).mono ?_; rintro e w1 ⟨rfl, rfl⟩; have d6 : True := trivial)
    | (have z4 := d4; go_at_call 17; refine (H4.out _).mono ?_; rintro e w1 ⟨rfl, rfl⟩; have d5 : True := trivial)
    | (have z3 := d3; go_at_call 8; refine (H3.out _).mono ?_; rintro e w1 ⟨rfl, rfl⟩; have d4 : True := trivial)
    | (have z2 := d2; go_at_call 15; refine (H2.out _).mono ?_; rintro e w1 ⟨rfl, rfl⟩; have d3 : True := trivial)
    | (have z1 := d1; go_at_call 15; refine (H1.out _).mono ?_; rintro e w1 ⟨rfl, rfl⟩; have d2 : True := trivial)
    | (go_at_call 8; refine (H0.out _).mono ?_; rintro e w1 ⟨rfl, rfl⟩; have d1 : True := trivial))
  go_ret
  exact ⟨rfl, rfl⟩
theorem parts_walk (r i b : Int) (w : World) : Calls Try.prog 3 #[.int .i64 r, .int .i64 i, .int .i64 b] w fun e w' => e = .returned (.bool true) ∧ w = w' := by
  have H0 : Hid _ := pof_any r i
  have H1 : Hid _ := rof_any r i
  have H2 : Hid _ := pRound_any b
  have H3 : Hid _ := rround_any b
  have H4 : Hid _ := pId_any b
  have H5 : Hid _ := rid_any b
  have H6 : Hid _ := awake_any
  generalize ofR r i = x at H0 H1
  generalize roR b = y at H2 H3
  generalize idR b = z at H4 H5
  go_enter Try.func3, Try.ntmps3
  go_wp2_with (first
    | (go_at_call 8; refine (H0.out _).mono ?_; rintro e w1 ⟨rfl, rfl⟩)
    | (go_at_call 9; refine (H1.out _).mono ?_; rintro e w1 ⟨rfl, rfl⟩)
    | (go_at_call 10; refine (H2.out _).mono ?_; rintro e w1 ⟨rfl, rfl⟩)
    | (go_at_call 11; refine (H3.out _).mono ?_; rintro e w1 ⟨rfl, rfl⟩)
    | (go_at_call 12; refine (H4.out _).mono ?_; rintro e w1 ⟨rfl, rfl⟩)
    | (go_at_call 13; refine (H5.out _).mono ?_; rintro e w1 ⟨rfl, rfl⟩)
    | (go_at_call 14; refine (H6.out _).mono ?_; rintro e w1 ⟨rfl, rfl⟩))
  go_ret
  exact ⟨rfl, rfl⟩
theorem nexts_walk (b i n : Int) (hb : b ≤ 9223372036854775807) (hn : n ≤ 9223372036854775807) (w : World) : Calls Try.prog 4 #[.int .i64 b, .int .i64 i, .int .i64 n] w fun e w' => e = .returned (.bool true) ∧ w = w' := by
  have H0 : Hid _ := pnext_any b i hb
  have H1 : Hid _ := rnext_any b i
  have H2 : Hid _ := pmaj_any n hn
  have H3 : Hid _ := rmaj_any n hn
  have H6 : Hid _ := awake_any
  generalize nxR b i = x at H0 H1
  generalize maR n = y at H2 H3
  go_enter Try.func4, Try.ntmps4
  go_wp2_with (first
    | (go_at_call 15; refine (H0.out _).mono ?_; rintro e w1 ⟨rfl, rfl⟩)
    | (go_at_call 16; refine (H1.out _).mono ?_; rintro e w1 ⟨rfl, rfl⟩)
    | (go_at_call 17; refine (H2.out _).mono ?_; rintro e w1 ⟨rfl, rfl⟩)
    | (go_at_call 18; refine (H3.out _).mono ?_; rintro e w1 ⟨rfl, rfl⟩)
    | (go_at_call 14; refine (H6.out _).mono ?_; rintro e w1 ⟨rfl, rfl⟩))
  go_ret
  exact ⟨rfl, rfl⟩
theorem nx_none (b i : Int) (h : nxR b i = 0) : i < 0 ∨ 4 < i ∨ 1099511627768 ≤ b := by
  unfold nxR at h
  simp only [isB_iff] at h
  obtain ⟨x, hx⟩ : ∃ x, x = max b 0 := ⟨_, rfl⟩
  rw [← hx] at h
  split at h <;> split at * <;> omega
theorem nx_some (b i : Int) (h : nxR b i ≠ 0) : 0 ≤ i ∧ i ≤ 4 ∧ b < nxR b i ∧ idR (nxR b i) = i ∧ nxR b i - 8 ≤ max b 0 ∧ 1 ≤ nxR b i ∧ nxR b i ≤ 1099511627776 := by
  obtain ⟨n, hn⟩ : ∃ n, n = nxR b i := ⟨_, rfl⟩
  rw [← hn] at h ⊢
  unfold nxR at hn
  unfold idR
  simp only [isB_iff] at hn ⊢
  obtain ⟨x, hx⟩ : ∃ x, x = max b 0 := ⟨_, rfl⟩
  rw [← hx] at hn ⊢
  by_cases h2 : x / 8 * 8 + i ≤ x
  · simp only [if_pos h2] at hn
    split at hn <;> rename_i h3
    · rw [if_pos (by omega)]
      omega
    · omega
  · simp only [if_neg h2] at hn
    split at hn <;> rename_i h3
    · rw [if_pos (by omega)]
      omega
    · omega
theorem above_walk (b i : Int) (hb : b ≤ 9223372036854775807) (w : World) : Calls Try.prog 6 #[.int .i64 b, .int .i64 i] w fun e w' => e = .returned (.bool true) ∧ w = w' := by
  have H0 : Hid _ := pnext_any b i hb
  have H6 : Hid _ := awake_any
  by_cases h0 : nxR b i = 0
  · have HN := nx_none b i h0
    rw [h0] at H0
    clear h0
    have E : ∀ (A : Prop) [Decidable A], A → decide A = true := fun A _ h => decide_eq_true h
    by_cases h1 : i < 0
    · have q1 := decide_eq_true h1
      clear h1 HN
      go_enter Try.func6, Try.ntmps6
      go_wp2_with (first | (go_at_call 15; refine (H0.out _).mono ?_; rintro e w1 ⟨rfl, rfl⟩) | (go_at_call 14; refine (H6.out _).mono ?_; rintro e w1 ⟨rfl, rfl⟩))
      go_ret
      exact ⟨rfl, rfl⟩
    have q1 : decide (i < 0) = false := decide_eq_false h1
    by_cases h2 : 4 < i
    · have q2 := decide_eq_true h2
      clear h1 h2 HN
      go_enter Try.func6, Try.ntmps6
      go_wp2_with (first | (go_at_call 15; refine (H0.out _).mono ?_; rintro e w1 ⟨rfl, rfl⟩) | (go_at_call 14; refine (H6.out _).mono ?_; rintro e w1 ⟨rfl, rfl⟩))
      go_ret
      exact ⟨rfl, rfl⟩
    have q2 : decide (4 < i) = false := decide_eq_false h2
    have q3 : decide (1099511627768 ≤ b) = true := decide_eq_true (by omega)
    clear h1 h2 HN
    go_enter Try.func6, Try.ntmps6
    go_wp2_with (first | (go_at_call 15; refine (H0.out _).mono ?_; rintro e w1 ⟨rfl, rfl⟩) | (go_at_call 14; refine (H6.out _).mono ?_; rintro e w1 ⟨rfl, rfl⟩))
    go_ret
    exact ⟨rfl, rfl⟩
  · obtain ⟨i0, i1, h1, h2, h3, h4, h5⟩ := nx_some b i h0
    have H1 : Hid _ := pId_any (nxR b i)
    rw [h2] at H1
    clear h2
    obtain ⟨x, hx⟩ : ∃ x, x = max b 0 := ⟨_, rfl⟩
    have hx' : max b 0 = x := hx.symm
    rw [← hx] at h3
    clear hx
    generalize nxR b i = n at *
    have q0 : (n == 0) = false := by simp; omega
    have q1 : decide (b < n) = true := decide_eq_true h1
    have q2 : decide (n - 8 ≤ x) = true := decide_eq_true h3
    go_enter Try.func6, Try.ntmps6
    go_wp2_with (first | (go_at_call 15; refine (H0.out _).mono ?_; rintro e w1 ⟨rfl, rfl⟩) | (go_at_call 12; refine (H1.out _).mono ?_; rintro e w1 ⟨rfl, rfl⟩) | (go_at_call 14; refine (H6.out _).mono ?_; rintro e w1 ⟨rfl, rfl⟩))
    go_ret
    exact ⟨rfl, rfl⟩
theorem maj_walk (n : Int) (hn : n ≤ 9223372036854775807) (w : World) : Calls Try.prog 7 #[.int .i64 n] w fun e w' => e = .returned (.bool true) ∧ w = w' := by
  have H0 : Hid _ := pmaj_any n hn
  have H6 : Hid _ := awake_any
  by_cases h1 : n < 1
  · rw [show maR n = 1 from if_pos h1] at H0
    have q1 := decide_eq_true h1
    have q2 : decide (0 < n) = false := decide_eq_false (by omega)
    clear h1
    go_enter Try.func7, Try.ntmps7
    go_wp2_with (first | (go_at_call 17; refine (H0.out _).mono ?_; rintro e w1 ⟨rfl, rfl⟩) | (go_at_call 14; refine (H6.out _).mono ?_; rintro e w1 ⟨rfl, rfl⟩))
    go_ret
    exact ⟨rfl, rfl⟩
  have hm : maR n = n / 2 + 1 := if_neg h1
  obtain ⟨m, h2⟩ : ∃ m, m = maR n := ⟨_, rfl⟩
  rw [← h2] at H0 hm
  clear h2
  have q1 : decide (n < 1) = false := decide_eq_false h1
  by_cases h3 : 1099511627776 < n
  · have q3 := decide_eq_true h3
    have q2 : decide (0 < n) = true := decide_eq_true (by omega)
    clear hm h1
    go_enter Try.func7, Try.ntmps7
    go_wp2_with (first | (go_at_call 17; refine (H0.out _).mono ?_; rintro e w1 ⟨rfl, rfl⟩) | (go_at_call 14; refine (H6.out _).mono ?_; rintro e w1 ⟨rfl, rfl⟩))
    go_ret
    exact ⟨rfl, rfl⟩
  have q3 : decide (1099511627776 < n) = false := decide_eq_false h3
  have q4 : decide (n < 2 * m) = true := decide_eq_true (by omega)
  have q5 : decide (m ≤ n) = true := decide_eq_true (by omega)
  have q6 : decide (2 * (m - 1) ≤ n) = true := decide_eq_true (by omega)
  have m0 : 0 ≤ m ∧ m ≤ 1099511627776 := by omega
  clear hm
  go_enter Try.func7, Try.ntmps7
  go_wp2_with (first | (go_at_call 17; refine (H0.out _).mono ?_; rintro e w1 ⟨rfl, rfl⟩) | (go_at_call 14; refine (H6.out _).mono ?_; rintro e w1 ⟨rfl, rfl⟩))
  go_ret
  exact ⟨rfl, rfl⟩
end Go.Proofs.Ythmogfejohhobaa
