/-
  The document's ballots: each call as a plain number. No condition.
-/
import Derived.Test.YthmogfejohhobaaBaPlain
namespace Go.Proofs.Ythmogfejohhobaa
open Go.RowKit

theorem ris_any (b : Int) (w : World) : Calls Try.prog 21 #[.int .i64 b] w fun e w' => e = .returned (.bool (isB b)) ∧ w = w' := by
  unfold isB
  cases q1 : decide (1 ≤ b) with
  | false =>
    go_enter Try.func21, Try.ntmps21
    go_wp2
    go_ret
    exact ⟨rfl, rfl⟩
  | true =>
    cases q2 : decide (b ≤ 1099511627776) with
    | false =>
      go_enter Try.func21, Try.ntmps21
      go_wp2
      go_ret
      exact ⟨rfl, rfl⟩
    | true =>
      have h1 := of_decide_eq_true q1
      have h2 := of_decide_eq_true q2
      have e1 : b.tmod 8 = b % 8 := Int.tmod_eq_emod_of_nonneg (by omega)
      obtain ⟨m, hm⟩ : ∃ m, m = b % 8 := ⟨_, rfl⟩
      have m0 : 0 ≤ m ∧ m < 8 := by omega
      rw [← hm] at e1 ⊢
      clear hm
      go_enter Try.func21, Try.ntmps21
      go_wp2
      go_ret
      exact ⟨rfl, rfl⟩
theorem rof_any (r i : Int) (w : World) : Calls Try.prog 9 #[.int .i64 r, .int .i64 i] w fun e w' => e = .returned (.int .i64 (ofR r i)) ∧ w = w' := by
  by_cases h1 : r < 0
  · have q1 : decide (r < 0) = true := decide_eq_true h1
    have HB : Hid (ofR r i = 0) := if_neg (by omega)
    go_enter Try.func9, Try.ntmps9
    go_wp2
    go_ret
    exact ⟨congrArg (fun z => Ending.returned (Value.int .i64 z)) HB.out.symm, rfl⟩
  have q1 : decide (r < 0) = false := decide_eq_false h1
  by_cases h2 : 137438953472 < r
  · have q2 : decide (137438953472 < r) = true := decide_eq_true h2
    have HB : Hid (ofR r i = 0) := if_neg (by omega)
    go_enter Try.func9, Try.ntmps9
    go_wp2
    go_ret
    exact ⟨congrArg (fun z => Ending.returned (Value.int .i64 z)) HB.out.symm, rfl⟩
  have q2 : decide (137438953472 < r) = false := decide_eq_false h2
  by_cases h3 : i < 0
  · have q3 : decide (i < 0) = true := decide_eq_true h3
    have HB : Hid (ofR r i = 0) := if_neg (by omega)
    go_enter Try.func9, Try.ntmps9
    go_wp2
    go_ret
    exact ⟨congrArg (fun z => Ending.returned (Value.int .i64 z)) HB.out.symm, rfl⟩
  have q3 : decide (i < 0) = false := decide_eq_false h3
  by_cases h4 : 4 < i
  · have q4 : decide (4 < i) = true := decide_eq_true h4
    have HB : Hid (ofR r i = 0) := if_neg (by omega)
    go_enter Try.func9, Try.ntmps9
    go_wp2
    go_ret
    exact ⟨congrArg (fun z => Ending.returned (Value.int .i64 z)) HB.out.symm, rfl⟩
  have q4 : decide (4 < i) = false := decide_eq_false h4
  cases h5 : isB (8 * r + i) with
  | false =>
    have HB : Hid (ofR r i = 0) := if_neg (by rw [h5]; simp)
    go_enter Try.func9, Try.ntmps9
    go_wp2_with (go_at_call 21; refine (ris_any (8 * r + i) _).mono ?_; rw [h5]; rintro e w1 ⟨rfl, rfl⟩)
    go_ret
    exact ⟨congrArg (fun z => Ending.returned (Value.int .i64 z)) HB.out.symm, rfl⟩
  | true =>
    have HB : Hid (ofR r i = 8 * r + i) := if_pos ⟨by omega, by omega, by omega, by omega, h5⟩
    go_enter Try.func9, Try.ntmps9
    go_wp2_with (go_at_call 21; refine (ris_any (8 * r + i) _).mono ?_; rw [h5]; rintro e w1 ⟨rfl, rfl⟩)
    go_ret
    exact ⟨congrArg (fun z => Ending.returned (Value.int .i64 z)) HB.out.symm, rfl⟩
theorem rround_any (b : Int) (w : World) : Calls Try.prog 11 #[.int .i64 b] w fun e w' => e = .returned (.int .i64 (roR b)) ∧ w = w' := by
  cases h5 : isB b with
  | false =>
    have HB : Hid (roR b = -1) := if_neg (by rw [h5]; simp)
    go_enter Try.func11, Try.ntmps11
    go_wp2_with (go_at_call 21; refine (ris_any b _).mono ?_; rw [h5]; rintro e w1 ⟨rfl, rfl⟩)
    go_ret
    exact ⟨congrArg (fun z => Ending.returned (Value.int .i64 z)) HB.out.symm, rfl⟩
  | true =>
    have HB : Hid (roR b = b / 8) := if_pos h5
    obtain ⟨b0, b1, _⟩ := (isB_iff b).1 h5
    have e1 : b.tdiv 8 = b / 8 := Int.tdiv_eq_ediv_of_nonneg (by omega)
    obtain ⟨m, hm⟩ : ∃ m, m = b / 8 := ⟨_, rfl⟩
    have m0 : 0 ≤ m ∧ m ≤ 1099511627776 := by omega
    rw [← hm] at e1 HB
    clear hm
    go_enter Try.func11, Try.ntmps11
    go_wp2_with (go_at_call 21; refine (ris_any b _).mono ?_; rw [h5]; rintro e w1 ⟨rfl, rfl⟩)
    go_ret
    exact ⟨congrArg (fun z => Ending.returned (Value.int .i64 z)) HB.out.symm, rfl⟩
theorem rid_any (b : Int) (w : World) : Calls Try.prog 13 #[.int .i64 b] w fun e w' => e = .returned (.int .i64 (idR b)) ∧ w = w' := by
  cases h5 : isB b with
  | false =>
    have HB : Hid (idR b = -1) := if_neg (by rw [h5]; simp)
    go_enter Try.func13, Try.ntmps13
    go_wp2_with (go_at_call 21; refine (ris_any b _).mono ?_; rw [h5]; rintro e w1 ⟨rfl, rfl⟩)
    go_ret
    exact ⟨congrArg (fun z => Ending.returned (Value.int .i64 z)) HB.out.symm, rfl⟩
  | true =>
    have HB : Hid (idR b = b % 8) := if_pos h5
    obtain ⟨b0, b1, _⟩ := (isB_iff b).1 h5
    have e1 : b.tmod 8 = b % 8 := Int.tmod_eq_emod_of_nonneg (by omega)
    obtain ⟨m, hm⟩ : ∃ m, m = b % 8 := ⟨_, rfl⟩
    have m0 : 0 ≤ m ∧ m ≤ 1099511627776 := by omega
    rw [← hm] at e1 HB
    clear hm
    go_enter Try.func13, Try.ntmps13
    go_wp2_with (go_at_call 21; refine (ris_any b _).mono ?_; rw [h5]; rintro e w1 ⟨rfl, rfl⟩)
    go_ret
    exact ⟨congrArg (fun z => Ending.returned (Value.int .i64 z)) HB.out.symm, rfl⟩
theorem rnext_any (b i : Int) (w : World) : Calls Try.prog 16 #[.int .i64 b, .int .i64 i] w fun e w' => e = .returned (.int .i64 (nxR b i)) ∧ w = w' := by
  by_cases h3 : i < 0
  · have q3 : decide (i < 0) = true := decide_eq_true h3
    have HB : Hid (nxR b i = 0) := if_neg (by omega)
    go_enter Try.func16, Try.ntmps16
    go_wp2
    go_ret
    exact ⟨congrArg (fun z => Ending.returned (Value.int .i64 z)) HB.out.symm, rfl⟩
  have q3 : decide (i < 0) = false := decide_eq_false h3
  by_cases h4 : 4 < i
  · have q4 : decide (4 < i) = true := decide_eq_true h4
    have HB : Hid (nxR b i = 0) := if_neg (by omega)
    go_enter Try.func16, Try.ntmps16
    go_wp2
    go_ret
    exact ⟨congrArg (fun z => Ending.returned (Value.int .i64 z)) HB.out.symm, rfl⟩
  have q4 : decide (4 < i) = false := decide_eq_false h4
  by_cases h5 : 1099511627776 ≤ b
  · have q5 : decide (1099511627776 ≤ b) = true := decide_eq_true h5
    have HB : Hid (nxR b i = 0) := if_neg (by omega)
    go_enter Try.func16, Try.ntmps16
    go_wp2
    go_ret
    exact ⟨congrArg (fun z => Ending.returned (Value.int .i64 z)) HB.out.symm, rfl⟩
  have q5 : decide (1099511627776 ≤ b) = false := decide_eq_false h5
  have HN : Hid (nxR b i = if isB (if max b 0 / 8 * 8 + i ≤ max b 0 then max b 0 / 8 * 8 + i + 8 else max b 0 / 8 * 8 + i) = true then (if max b 0 / 8 * 8 + i ≤ max b 0 then max b 0 / 8 * 8 + i + 8 else max b 0 / 8 * 8 + i) else 0) := by
    show _ = _
    unfold nxR
    by_cases hz : isB (if max b 0 / 8 * 8 + i ≤ max b 0 then max b 0 / 8 * 8 + i + 8 else max b 0 / 8 * 8 + i) = true
    · rw [if_pos ⟨by omega, by omega, by omega, hz⟩, if_pos hz]
    · rw [if_neg (fun h => hz h.2.2.2), if_neg hz]
  obtain ⟨x, hx⟩ : ∃ x, x = max b 0 := ⟨_, rfl⟩
  have x0 : 0 ≤ x ∧ x < 1099511627776 := by omega
  have hx' : max b 0 = x := hx.symm
  rw [← hx] at HN
  clear hx
  have e1 : x.tdiv 8 = x / 8 := Int.tdiv_eq_ediv_of_nonneg x0.1
  obtain ⟨m, hm⟩ : ∃ m, m = x / 8 := ⟨_, rfl⟩
  have m0 : 0 ≤ m ∧ m ≤ 1099511627776 := by omega
  rw [← hm] at e1 HN
  clear hm
  by_cases h6 : m * 8 + i ≤ x
  · have q6 : decide (m * 8 + i ≤ x) = true := decide_eq_true h6
    have HN2 : Hid (nxR b i = if isB (m * 8 + i + 8) = true then m * 8 + i + 8 else 0) := by
      show _ = _
      rw [HN.out, if_pos h6]
    clear HN
    cases h7 : isB (m * 8 + i + 8) with
    | false =>
      have HB : Hid (nxR b i = 0) := by show _ = _; rw [HN2.out, h7]; rfl
      clear HN2
      go_enter Try.func16, Try.ntmps16
      go_wp2_with (go_at_call 21; refine (ris_any (m * 8 + i + 8) _).mono ?_; rw [h7]; rintro e w1 ⟨rfl, rfl⟩)
      go_ret
      exact ⟨congrArg (fun z => Ending.returned (Value.int .i64 z)) HB.out.symm, rfl⟩
    | true =>
      have HB : Hid (nxR b i = m * 8 + i + 8) := by show _ = _; rw [HN2.out, h7]; rfl
      clear HN2
      go_enter Try.func16, Try.ntmps16
      go_wp2_with (go_at_call 21; refine (ris_any (m * 8 + i + 8) _).mono ?_; rw [h7]; rintro e w1 ⟨rfl, rfl⟩)
      go_ret
      exact ⟨congrArg (fun z => Ending.returned (Value.int .i64 z)) HB.out.symm, rfl⟩
  · have q6 : decide (m * 8 + i ≤ x) = false := decide_eq_false h6
    have HN2 : Hid (nxR b i = if isB (m * 8 + i) = true then m * 8 + i else 0) := by
      show _ = _
      rw [HN.out, if_neg h6]
    clear HN
    cases h7 : isB (m * 8 + i) with
    | false =>
      have HB : Hid (nxR b i = 0) := by show _ = _; rw [HN2.out, h7]; rfl
      clear HN2
      go_enter Try.func16, Try.ntmps16
      go_wp2_with (go_at_call 21; refine (ris_any (m * 8 + i) _).mono ?_; rw [h7]; rintro e w1 ⟨rfl, rfl⟩)
      go_ret
      exact ⟨congrArg (fun z => Ending.returned (Value.int .i64 z)) HB.out.symm, rfl⟩
    | true =>
      have HB : Hid (nxR b i = m * 8 + i) := by show _ = _; rw [HN2.out, h7]; rfl
      clear HN2
      go_enter Try.func16, Try.ntmps16
      go_wp2_with (go_at_call 21; refine (ris_any (m * 8 + i) _).mono ?_; rw [h7]; rintro e w1 ⟨rfl, rfl⟩)
      go_ret
      exact ⟨congrArg (fun z => Ending.returned (Value.int .i64 z)) HB.out.symm, rfl⟩
theorem rmaj_any (n : Int) (hn : n ≤ 9223372036854775807) (w : World) : Calls Try.prog 18 #[.int .i64 n] w fun e w' => e = .returned (.int .i64 (maR n)) ∧ w = w' := by
  by_cases h1 : n < 1
  · have q1 : decide (n < 1) = true := decide_eq_true h1
    have HB : Hid (maR n = 1) := if_pos h1
    go_enter Try.func18, Try.ntmps18
    go_wp2
    go_ret
    exact ⟨congrArg (fun z => Ending.returned (Value.int .i64 z)) HB.out.symm, rfl⟩
  · have q1 : decide (n < 1) = false := decide_eq_false h1
    have HB : Hid (maR n = n / 2 + 1) := if_neg h1
    have e1 : n.tdiv 2 = n / 2 := Int.tdiv_eq_ediv_of_nonneg (by omega)
    obtain ⟨m, hm⟩ : ∃ m, m = n / 2 := ⟨_, rfl⟩
    have m0 : 0 ≤ m ∧ m ≤ 4611686018427387904 := by omega
    rw [← hm] at e1 HB
    clear hm
    go_enter Try.func18, Try.ntmps18
    go_wp2
    go_ret
    exact ⟨congrArg (fun z => Ending.returned (Value.int .i64 z)) HB.out.symm, rfl⟩
end Go.Proofs.Ythmogfejohhobaa
