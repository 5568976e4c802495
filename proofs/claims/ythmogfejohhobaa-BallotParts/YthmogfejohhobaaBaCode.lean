/-
  Package ballot: each call as a plain number. No condition.
-/
import Derived.Test.YthmogfejohhobaaBaPlain
namespace Go.Proofs.Ythmogfejohhobaa
open Go.RowKit

theorem tmod8 (b : Int) : -8 < b.tmod 8 ∧ b.tmod 8 < 8 := by
  have h1 := Int.tmod_lt_of_pos b (b := 8) (by omega)
  have h2 := Int.tmod_lt_of_pos (-b) (b := 8) (by omega)
  rw [Int.neg_tmod] at h2
  omega
theorem pserv_any (i : Int) (w : World) : Calls Try.prog 19 #[.int .i64 i] w fun e w' => e = .returned (.bool (decide (0 ≤ i) && decide (i < 5))) ∧ w = w' := by
  cases q1 : decide (0 ≤ i) with
  | false =>
    go_enter Try.func19, Try.ntmps19
    go_wp2
    go_ret
    exact ⟨rfl, rfl⟩
  | true =>
    go_enter Try.func19, Try.ntmps19
    go_wp2
    go_ret
    exact ⟨rfl, rfl⟩
theorem prest_any (b m : Int) (hm : b.tmod 8 = m) (w : World) : Calls Try.prog 24 #[.int .i64 b] w fun e w' => e = .returned (.int .i64 m) ∧ w = w' := by
  have m0 : -8 < m ∧ m < 8 := by have := tmod8 b; omega
  go_enter Try.func24, Try.ntmps24
  go_wp2
  go_ret
  exact ⟨rfl, rfl⟩
theorem pround_any (b m : Int) (hm : b.tdiv 8 = m) (h0 : -9223372036854775808 ≤ m) (h1 : m ≤ 9223372036854775807) (w : World) : Calls Try.prog 23 #[.int .i64 b] w fun e w' => e = .returned (.int .i64 m) ∧ w = w' := by
  go_enter Try.func23, Try.ntmps23
  go_wp2
  go_ret
  exact ⟨rfl, rfl⟩
theorem pis_any (b : Int) (w : World) : Calls Try.prog 20 #[.int .i64 b] w fun e w' => e = .returned (.bool (isB b)) ∧ w = w' := by
  unfold isB
  cases q1 : decide (1 ≤ b) with
  | false =>
    go_enter Try.func20, Try.ntmps20
    go_wp2
    go_ret
    exact ⟨rfl, rfl⟩
  | true =>
    cases q2 : decide (b ≤ 1099511627776) with
    | false =>
      go_enter Try.func20, Try.ntmps20
      go_wp2
      go_ret
      exact ⟨rfl, rfl⟩
    | true =>
      have h1 := of_decide_eq_true q1
      have h2 := of_decide_eq_true q2
      have e1 : b.tmod 8 = b % 8 := Int.tmod_eq_emod_of_nonneg (by omega)
      obtain ⟨m, hm⟩ : ∃ m, m = b % 8 := ⟨_, rfl⟩
      have m0 : 0 ≤ m ∧ m < 8 := by omega
      rw [← hm] at e1 ⊢
      clear hm
      have hS : Hid ((decide (0 ≤ m) && decide (m < 5)) = decide (m ≤ 4)) := by
        show _ = _
        rw [decide_eq_true m0.1, Bool.true_and]
        exact decide_eq_decide.2 (by omega)
      have QR : ∀ w : World, Calls Try.prog 24 #[.int .i64 b] w fun e w' => e = .returned (.int .i64 m) ∧ w = w' := prest_any b m e1
      have QS : ∀ w : World, Calls Try.prog 19 #[.int .i64 m] w fun e w' => e = .returned (.bool (decide (m ≤ 4))) ∧ w = w' := fun w => (pserv_any m w).mono fun e w' h => by rw [hS.out] at h; exact h
      cases q3 : decide (m ≤ 4) <;> rw [q3] at QS <;> have HS : Hid _ := QS <;> have HR : Hid _ := QR <;> clear QS QR m0 e1 h1 h2 hS
      · go_enter Try.func20, Try.ntmps20
        go_wp2_with (first
          | (go_at_call 24; refine (HR.out _).mono ?_; rintro e w1 ⟨rfl, rfl⟩)
          | (go_at_call 19; refine (HS.out _).mono ?_; rintro e w1 ⟨rfl, rfl⟩))
        go_ret
        exact ⟨rfl, rfl⟩
      · go_enter Try.func20, Try.ntmps20
        go_wp2_with (first
          | (go_at_call 24; refine (HR.out _).mono ?_; rintro e w1 ⟨rfl, rfl⟩)
          | (go_at_call 19; refine (HS.out _).mono ?_; rintro e w1 ⟨rfl, rfl⟩))
        go_ret
        exact ⟨rfl, rfl⟩
theorem pof_any (r i : Int) (w : World) : Calls Try.prog 8 #[.int .i64 r, .int .i64 i] w fun e w' => e = .returned (.int .i64 (ofR r i)) ∧ w = w' := by
  by_cases h1 : r < 0
  · have q1 : decide (r < 0) = true := decide_eq_true h1
    have HB : Hid (ofR r i = 0) := if_neg (by omega)
    go_enter Try.func8, Try.ntmps8
    go_wp2
    go_ret
    exact ⟨congrArg (fun z => Ending.returned (Value.int .i64 z)) HB.out.symm, rfl⟩
  have q1 : decide (r < 0) = false := decide_eq_false h1
  by_cases h2 : 137438953472 < r
  · have q2 : decide (137438953472 < r) = true := decide_eq_true h2
    have HB : Hid (ofR r i = 0) := if_neg (by omega)
    go_enter Try.func8, Try.ntmps8
    go_wp2
    go_ret
    exact ⟨congrArg (fun z => Ending.returned (Value.int .i64 z)) HB.out.symm, rfl⟩
  have q2 : decide (137438953472 < r) = false := decide_eq_false h2
  cases h3 : (decide (0 ≤ i) && decide (i < 5)) with
  | false =>
    have HB : Hid (ofR r i = 0) := if_neg (by rw [Bool.and_eq_false_iff, decide_eq_false_iff_not, decide_eq_false_iff_not] at h3; omega)
    have HS : Hid _ := pserv_any i
    rw [h3] at HS
    clear h3
    go_enter Try.func8, Try.ntmps8
    go_wp2_with (go_at_call 19; refine (HS.out _).mono ?_; rintro e w1 ⟨rfl, rfl⟩)
    go_ret
    exact ⟨congrArg (fun z => Ending.returned (Value.int .i64 z)) HB.out.symm, rfl⟩
  | true =>
    have i0 : 0 ≤ i ∧ i < 5 := by rw [Bool.and_eq_true, decide_eq_true_eq, decide_eq_true_eq] at h3; exact h3
    have HS : Hid _ := pserv_any i
    rw [h3] at HS
    clear h3
    have e1 : r * 8 + i = 8 * r + i := by omega
    have HI : Hid _ := pis_any (8 * r + i)
    obtain ⟨x, hx⟩ : ∃ x, x = 8 * r + i := ⟨_, rfl⟩
    have x0 : 0 ≤ x ∧ x ≤ 1099511627790 := by omega
    have HB0 : Hid (ofR r i = if isB x = true then x else 0) := by
      show _ = _
      unfold ofR
      rw [← hx]
      by_cases hz : isB x = true
      · rw [if_pos ⟨by omega, by omega, by omega, by omega, hz⟩, if_pos hz]
      · rw [if_neg (fun h => hz h.2.2.2.2), if_neg hz]
    rw [← hx] at HI e1
    clear hx
    cases h5 : isB x with
    | false =>
      have HB : Hid (ofR r i = 0) := by show _ = _; rw [HB0.out, h5]; rfl
      rw [h5] at HI
      clear h5 HB0
      go_enter Try.func8, Try.ntmps8
      go_wp2_with (first
        | (go_at_call 19; refine (HS.out _).mono ?_; rintro e w1 ⟨rfl, rfl⟩)
        | (go_at_call 20; refine (HI.out _).mono ?_; rintro e w1 ⟨rfl, rfl⟩))
      go_ret
      exact ⟨congrArg (fun z => Ending.returned (Value.int .i64 z)) HB.out.symm, rfl⟩
    | true =>
      have HB : Hid (ofR r i = x) := by show _ = _; rw [HB0.out, h5]; rfl
      rw [h5] at HI
      clear h5 HB0
      go_enter Try.func8, Try.ntmps8
      go_wp2_with (first
        | (go_at_call 19; refine (HS.out _).mono ?_; rintro e w1 ⟨rfl, rfl⟩)
        | (go_at_call 20; refine (HI.out _).mono ?_; rintro e w1 ⟨rfl, rfl⟩))
      go_ret
      exact ⟨congrArg (fun z => Ending.returned (Value.int .i64 z)) HB.out.symm, rfl⟩
theorem pRound_any (b : Int) (w : World) : Calls Try.prog 10 #[.int .i64 b] w fun e w' => e = .returned (.int .i64 (roR b)) ∧ w = w' := by
  have HI : Hid _ := pis_any b
  have HA : Hid (∀ w : World, Calls Try.prog 22 #[.int .i64 b, .func (.func 23) #[] #[]] w fun e w' => e = .returned (.int .i64 (roR b)) ∧ w = w') := by
    intro w
    cases h5 : isB b with
    | false =>
      have HB : Hid (roR b = -1) := if_neg (by rw [h5]; simp)
      rw [h5] at HI
      clear h5
      go_enter Try.func22, Try.ntmps22
      go_wp2_with (go_at_call 20; refine (HI.out _).mono ?_; rintro e w1 ⟨rfl, rfl⟩)
      go_ret
      exact ⟨congrArg (fun z => Ending.returned (Value.int .i64 z)) HB.out.symm, rfl⟩
    | true =>
      have HB : Hid (roR b = b / 8) := if_pos h5
      obtain ⟨b0, b1, _⟩ := (isB_iff b).1 h5
      have e1 : b.tdiv 8 = b / 8 := Int.tdiv_eq_ediv_of_nonneg (by omega)
      obtain ⟨m, hm⟩ : ∃ m, m = b / 8 := ⟨_, rfl⟩
      have m0 : 0 ≤ m ∧ m ≤ 1099511627776 := by omega
      rw [← hm] at e1 HB
      clear hm
      have HM : Hid _ := pround_any b m e1 (by omega) (by omega)
      rw [h5] at HI
      clear h5 e1
      go_enter Try.func22, Try.ntmps22
      go_wp2_with (first
        | (go_at_call 20; refine (HI.out _).mono ?_; rintro e w1 ⟨rfl, rfl⟩)
        | (go_at_call 23; refine (HM.out _).mono ?_; rintro e w1 ⟨rfl, rfl⟩))
      go_ret
      exact ⟨congrArg (fun z => Ending.returned (Value.int .i64 z)) HB.out.symm, rfl⟩
  clear HI
  go_enter Try.func10, Try.ntmps10
  go_wp2_with (go_at_call 22; refine (HA.out _).mono ?_; rintro e w1 ⟨rfl, rfl⟩)
  go_ret
  exact ⟨rfl, rfl⟩
theorem pId_any (b : Int) (w : World) : Calls Try.prog 12 #[.int .i64 b] w fun e w' => e = .returned (.int .i64 (idR b)) ∧ w = w' := by
  have HI : Hid _ := pis_any b
  have HA : Hid (∀ w : World, Calls Try.prog 22 #[.int .i64 b, .func (.func 24) #[] #[]] w fun e w' => e = .returned (.int .i64 (idR b)) ∧ w = w') := by
    intro w
    cases h5 : isB b with
    | false =>
      have HB : Hid (idR b = -1) := if_neg (by rw [h5]; simp)
      rw [h5] at HI
      clear h5
      go_enter Try.func22, Try.ntmps22
      go_wp2_with (go_at_call 20; refine (HI.out _).mono ?_; rintro e w1 ⟨rfl, rfl⟩)
      go_ret
      exact ⟨congrArg (fun z => Ending.returned (Value.int .i64 z)) HB.out.symm, rfl⟩
    | true =>
      have HB : Hid (idR b = b % 8) := if_pos h5
      obtain ⟨b0, b1, _⟩ := (isB_iff b).1 h5
      have e1 : b.tmod 8 = b % 8 := Int.tmod_eq_emod_of_nonneg (by omega)
      obtain ⟨m, hm⟩ : ∃ m, m = b % 8 := ⟨_, rfl⟩
      have m0 : 0 ≤ m ∧ m ≤ 1099511627776 := by omega
      rw [← hm] at e1 HB
      clear hm
      have HM : Hid _ := prest_any b m e1
      rw [h5] at HI
      clear h5 e1
      go_enter Try.func22, Try.ntmps22
      go_wp2_with (first
        | (go_at_call 20; refine (HI.out _).mono ?_; rintro e w1 ⟨rfl, rfl⟩)
        | (go_at_call 24; refine (HM.out _).mono ?_; rintro e w1 ⟨rfl, rfl⟩))
      go_ret
      exact ⟨congrArg (fun z => Ending.returned (Value.int .i64 z)) HB.out.symm, rfl⟩
  clear HI
  go_enter Try.func12, Try.ntmps12
  go_wp2_with (go_at_call 22; refine (HA.out _).mono ?_; rintro e w1 ⟨rfl, rfl⟩)
  go_ret
  exact ⟨rfl, rfl⟩
theorem next_of (b i : Int) : (if i ≤ max b 0 % 8 then ofR (max b 0 / 8 + 1) i else ofR (max b 0 / 8) i) = nxR b i := by
  unfold ofR nxR
  simp only [isB_iff]
  obtain ⟨x, hx⟩ : ∃ x, x = max b 0 := ⟨_, rfl⟩
  rw [← hx]
  split <;> split <;> split <;> first | omega | (split <;> omega) | skip
theorem pnext_any (b i : Int) (hb : b ≤ 9223372036854775807) (w : World) : Calls Try.prog 15 #[.int .i64 b, .int .i64 i] w fun e w' => e = .returned (.int .i64 (nxR b i)) ∧ w = w' := by
  have HN : Hid _ := next_of b i
  obtain ⟨x, hx⟩ : ∃ x, x = max b 0 := ⟨_, rfl⟩
  have x0 : 0 ≤ x ∧ x ≤ 9223372036854775807 := by omega
  have hx' : max b 0 = x := hx.symm
  rw [← hx] at HN
  clear hx
  have e1 : x.tdiv 8 = x / 8 := Int.tdiv_eq_ediv_of_nonneg x0.1
  have e2 : x.tmod 8 = x % 8 := Int.tmod_eq_emod_of_nonneg x0.1
  obtain ⟨m, hm⟩ : ∃ m, m = x / 8 := ⟨_, rfl⟩
  obtain ⟨r, hr⟩ : ∃ r, r = x % 8 := ⟨_, rfl⟩
  have m0 : 0 ≤ m ∧ m ≤ 1152921504606846976 := by omega
  rw [← hm] at e1 HN
  rw [← hr] at e2 HN
  have HD : Hid _ := pround_any x m e1 (by omega) (by omega)
  have HR : Hid _ := prest_any x r e2
  clear hm hr e1 e2
  by_cases h1 : i ≤ r
  · have q1 : decide (i ≤ r) = true := decide_eq_true h1
    have HB : Hid (ofR (m + 1) i = nxR b i) := by show _ = _; rw [← HN.out, if_pos h1]
    have HO : Hid _ := pof_any (m + 1) i
    clear h1 HN
    go_enter Try.func15, Try.ntmps15
    go_wp2_with (first
      | (go_at_call 23; refine (HD.out _).mono ?_; rintro e w1 ⟨rfl, rfl⟩)
      | (go_at_call 24; refine (HR.out _).mono ?_; rintro e w1 ⟨rfl, rfl⟩)
      | (go_at_call 8; refine (HO.out _).mono ?_; rintro e w1 ⟨rfl, rfl⟩))
    go_ret
    exact ⟨congrArg (fun z => Ending.returned (Value.int .i64 z)) HB.out, rfl⟩
  · have q1 : decide (i ≤ r) = false := decide_eq_false h1
    have HB : Hid (ofR m i = nxR b i) := by show _ = _; rw [← HN.out, if_neg h1]
    have HO : Hid _ := pof_any m i
    clear h1 HN
    go_enter Try.func15, Try.ntmps15
    go_wp2_with (first
      | (go_at_call 23; refine (HD.out _).mono ?_; rintro e w1 ⟨rfl, rfl⟩)
      | (go_at_call 24; refine (HR.out _).mono ?_; rintro e w1 ⟨rfl, rfl⟩)
      | (go_at_call 8; refine (HO.out _).mono ?_; rintro e w1 ⟨rfl, rfl⟩))
    go_ret
    exact ⟨congrArg (fun z => Ending.returned (Value.int .i64 z)) HB.out, rfl⟩
theorem pmaj_any (n : Int) (hn : n ≤ 9223372036854775807) (w : World) : Calls Try.prog 17 #[.int .i64 n] w fun e w' => e = .returned (.int .i64 (maR n)) ∧ w = w' := by
  obtain ⟨x, hx⟩ : ∃ x, x = max n 0 := ⟨_, rfl⟩
  have x0 : 0 ≤ x ∧ x ≤ 9223372036854775807 := by omega
  have HB : Hid (maR n = x / 2 + 1) := by show _ = _; unfold maR; split <;> omega
  have hx' : max n 0 = x := hx.symm
  clear hx
  have e1 : x.tdiv 2 = x / 2 := Int.tdiv_eq_ediv_of_nonneg x0.1
  obtain ⟨m, hm⟩ : ∃ m, m = x / 2 := ⟨_, rfl⟩
  have m0 : 0 ≤ m ∧ m ≤ 4611686018427387904 := by omega
  rw [← hm] at e1 HB
  clear hm
  go_enter Try.func17, Try.ntmps17
  go_wp2
  go_ret
  exact ⟨congrArg (fun z => Ending.returned (Value.int .i64 z)) HB.out.symm, rfl⟩
end Go.Proofs.Ythmogfejohhobaa
