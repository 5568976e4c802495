/-
  Package clocks: times, which clocks there are, how far one may drift, new clocks, one read, one set. No condition.
-/
import Derived.Test.YtcecgphjaofgbaaCkScript
namespace Go.Proofs.Ytcecgphjaofgbaa
open Go.RowKit

def timeB (x : Int) : Bool := decide (0 ≤ x) && decide (x ≤ 1099511627776)
theorem ptime_any (x : Int) (w : World) : Calls Try.prog 23 #[.int .i64 x] w fun e w' => e = .returned (.bool (timeB x)) ∧ w = w' := by
  unfold timeB
  cases q1 : decide (0 ≤ x) with
  | false =>
    go_enter Try.func23, Try.ntmps23
    go_wp2
    go_ret
    exact ⟨rfl, rfl⟩
  | true =>
    cases q2 : decide (x ≤ 1099511627776) with
    | false =>
      go_enter Try.func23, Try.ntmps23
      go_wp2
      go_ret
      exact ⟨rfl, rfl⟩
    | true =>
      go_enter Try.func23, Try.ntmps23
      go_wp2
      go_ret
      exact ⟨rfl, rfl⟩
theorem timeB_iff (x : Int) : timeB x = true ↔ 0 ≤ x ∧ x ≤ 1099511627776 := by unfold timeB; simp
theorem timeB_no (x : Int) : timeB x = false ↔ ¬ (0 ≤ x ∧ x ≤ 1099511627776) := by rw [← timeB_iff]; simp
theorem pbounded_any (r b : Int) (w : World) : Calls Try.prog 20 #[.int .i64 r, .int .i64 b] w fun e w' => e = .returned (.bool (boundB r b)) ∧ w = w' := by
  cases h1 : timeB r with
  | false =>
    have HB : Hid (boundB r b = false) := boundB_no (fun h => (timeB_no r).1 h1 ⟨h.1, h.2.1⟩)
    go_enter Try.func20, Try.ntmps20
    go_wp2_with (go_at_call 23; refine (ptime_any r _).mono ?_; rw [h1]; rintro e w1 ⟨rfl, rfl⟩)
    go_ret
    exact ⟨by rw [HB.out]; rfl, rfl⟩
  | true =>
    cases h2 : timeB b with
    | false =>
      have HB : Hid (boundB r b = false) := boundB_no (fun h => (timeB_no b).1 h2 ⟨h.2.2.1, h.2.2.2⟩)
      go_enter Try.func20, Try.ntmps20
      go_wp2_with (first
        | (go_at_call 23; have kz := d1; refine (ptime_any b _).mono ?_; rw [h2]; rintro e w1 ⟨rfl, rfl⟩)
        | (go_at_call 23; refine (ptime_any r _).mono ?_; rw [h1]; rintro e w1 ⟨rfl, rfl⟩; have d1 : True := trivial))
      go_ret
      exact ⟨by rw [HB.out]; rfl, rfl⟩
    | true =>
      obtain ⟨r0, r1⟩ := (timeB_iff r).1 h1
      obtain ⟨b0, b1⟩ := (timeB_iff b).1 h2
      by_cases hm : b - r ≤ r - b
      · have HB : Hid (boundB r b = decide (8 * (r - b) ≤ r)) := by
          show _ = _
          rw [Bool.eq_iff_iff, boundB_iff, decide_eq_true_eq]
          omega
        go_enter Try.func20, Try.ntmps20
        go_wp2_with (first
          | (go_at_call 23; have kz := d1; refine (ptime_any b _).mono ?_; rw [h2]; rintro e w1 ⟨rfl, rfl⟩)
          | (go_at_call 23; refine (ptime_any r _).mono ?_; rw [h1]; rintro e w1 ⟨rfl, rfl⟩; have d1 : True := trivial))
        go_ret
        exact ⟨by rw [HB.out]; rfl, rfl⟩
      · have HB : Hid (boundB r b = decide (8 * (b - r) ≤ r)) := by
          show _ = _
          rw [Bool.eq_iff_iff, boundB_iff, decide_eq_true_eq]
          omega
        go_enter Try.func20, Try.ntmps20
        go_wp2_with (first
          | (go_at_call 23; have kz := d1; refine (ptime_any b _).mono ?_; rw [h2]; rintro e w1 ⟨rfl, rfl⟩)
          | (go_at_call 23; refine (ptime_any r _).mono ?_; rw [h1]; rintro e w1 ⟨rfl, rfl⟩; have d1 : True := trivial))
        go_ret
        exact ⟨by rw [HB.out]; rfl, rfl⟩
theorem pnew_no (n : Int) (hn : n < 1 ∨ 13 < n) (w : World) : Calls Try.prog 8 #[.int .i64 n] w fun e w' => e = .returned (.pointer none) ∧ w = w' := by
  by_cases h1 : n < 1
  · have q1 : decide (n < 1) = true := decide_eq_true h1
    go_enter Try.func8, Try.ntmps8
    go_wp2
    go_ret
    exact ⟨rfl, rfl⟩
  · have h2 : 13 < n := by omega
    have q1 : decide (n < 1) = false := decide_eq_false h1
    have q2 : decide (13 < n) = true := decide_eq_true h2
    go_enter Try.func8, Try.ntmps8
    go_wp2
    go_ret
    exact ⟨rfl, rfl⟩
theorem pnew_yes (n : Nat) (h1 : 1 ≤ n) (h2 : n ≤ 13) (w : World) : Calls Try.prog 8 #[.int .i64 (n : Int)] w fun e w' => ∃ D S, e = .returned (.pointer (some ⟨D, 0, none⟩)) ∧ CkAt PT w' w.heap.size D S (List.replicate n 0) 0 ∧ Below w.heap.size w w' := by
  have q1 : decide ((n : Int) < 1) = false := decide_eq_false (by omega)
  have q2 : decide ((13 : Int) < (n : Int)) = false := decide_eq_false (by omega)
  have hmk := make_ints n (n : Int) rfl h2
  have e1 : (zi w n).heap.size = w.heap.size + 1 := by unfold zi; simp
  go_enter Try.func8, Try.ntmps8
  go_wp2
  go_ret
  exact ⟨_, _, rfl, CkAt.newP w n h1 h2, ((Below.refl _ w).alloc (Nat.le_refl _) _).alloc (by simp) _⟩
theorem preal_nil (w : World) : Calls Try.prog 16 #[.pointer none] w fun e w' => e = .returned (.int .i64 0) ∧ w = w' := by
  go_enter Try.func16, Try.ntmps16
  go_wp2
  go_ret
  exact ⟨rfl, rfl⟩
theorem phas_nil (n : Int) (w : World) : Calls Try.prog 22 #[.pointer none, .int .i64 n] w fun e w' => e = .returned (.bool false) ∧ w = w' := by
  go_enter Try.func22, Try.ntmps22
  go_wp2
  go_ret
  exact ⟨rfl, rfl⟩
theorem pset_nil (n x : Int) (w : World) : Calls Try.prog 10 #[.pointer none, .int .i64 n, .int .i64 x] w fun e w' => e = .returned (.int .i64 1) ∧ w = w' := by
  go_enter Try.func10, Try.ntmps10
  go_wp2_with (go_at_call 22; refine (phas_nil n _).mono ?_; rintro e w1 ⟨rfl, rfl⟩)
  go_ret
  exact ⟨rfl, rfl⟩
theorem pat_nil (n : Int) (w : World) : Calls Try.prog 14 #[.pointer none, .int .i64 n] w fun e w' => e = .returned (.int .i64 0) ∧ w = w' := by
  go_enter Try.func14, Try.ntmps14
  go_wp2_with (go_at_call 22; refine (phas_nil n _).mono ?_; rintro e w1 ⟨rfl, rfl⟩)
  go_ret
  exact ⟨rfl, rfl⟩
def hasB (l : List Nat) (n : Int) : Bool := decide (0 ≤ n) && decide (n < (l.length : Int))
section
variable {w : World} {base D : Nat} {S : Nat → Prop} {l : List Nat} {real : Nat}
theorem phas_any (h : CkAt PT w base D S l real) (n : Int) : Calls Try.prog 22 #[.pointer (some ⟨D, 0, none⟩), .int .i64 n] w fun e w' => e = .returned (.bool (hasB l n)) ∧ w = w' := by
  obtain ⟨g, c, _, c0, _⟩ := h.cellsP
  have hn2 := h.n2
  clear h
  unfold hasB
  cases q1 : decide (0 ≤ n) with
  | false =>
    go_enter Try.func22, Try.ntmps22
    go_wp2
    go_ret
    exact ⟨rfl, rfl⟩
  | true =>
    go_enter Try.func22, Try.ntmps22
    go_wp2
    go_ret
    exact ⟨rfl, rfl⟩
theorem preal_any (h : CkAt PT w base D S l real) : Calls Try.prog 16 #[.pointer (some ⟨D, 0, none⟩)] w fun e w' => e = .returned (.int .i64 (real : Int)) ∧ w = w' := by
  obtain ⟨g, c, _, _, c1, _⟩ := h.cellsP
  clear h
  go_enter Try.func16, Try.ntmps16
  go_wp2
  go_ret
  exact ⟨rfl, rfl⟩
theorem pat_any (h : CkAt PT w base D S l real) (n : Int) : Calls Try.prog 14 #[.pointer (some ⟨D, 0, none⟩), .int .i64 n] w fun e w' => e = .returned (.int .i64 (atI l n)) ∧ w = w' := by
  obtain ⟨g, c, _, c0, _, _, _, _, hc, _, _⟩ := h.cellsP
  have hn2 := h.n2
  have hh := phas_any h n
  clear h
  cases q : hasB l n with
  | false =>
    have e : atI l n = 0 := by
      unfold hasB at q
      simp only [Bool.and_eq_false_iff, decide_eq_false_iff_not] at q
      unfold atI
      rw [if_neg (by omega)]
    rw [e]
    rw [q] at hh
    clear hc e q
    go_enter Try.func14, Try.ntmps14
    go_wp2_with (go_at_call 22; refine hh.mono ?_; rintro e w1 ⟨rfl, rfl⟩)
    go_ret
    exact ⟨rfl, rfl⟩
  | true =>
    rw [q] at hh
    unfold hasB at q
    simp only [Bool.and_eq_true, decide_eq_true_eq] at q
    obtain ⟨m, rfl⟩ : ∃ m : Nat, n = (m : Int) := ⟨n.toNat, by omega⟩
    have hm : m < l.length := by omega
    have e : atI l (m : Int) = (l[m] : Int) := by
      unfold atI
      rw [if_pos (by omega)]
      simp [List.getD, hm]
    have z := hc m hm
    rw [e]
    generalize l[m] = x at *
    clear hc e q
    go_enter Try.func14, Try.ntmps14
    go_wp2_with (go_at_call 22; refine hh.mono ?_; rintro e w1 ⟨rfl, rfl⟩)
    go_ret
    exact ⟨rfl, rfl⟩
theorem pset_no (h : CkAt PT w base D S l real) (n x : Int) (hs : ¬ setOk l n x) : Calls Try.prog 10 #[.pointer (some ⟨D, 0, none⟩), .int .i64 n, .int .i64 x] w fun e w' => e = .returned (.int .i64 1) ∧ w = w' := by
  have hh := phas_any h n
  clear h
  unfold setOk at hs
  cases q : hasB l n with
  | false =>
    rw [q] at hh
    clear hs q
    go_enter Try.func10, Try.ntmps10
    go_wp2_with (go_at_call 22; refine hh.mono ?_; rintro e w1 ⟨rfl, rfl⟩)
    go_ret
    exact ⟨rfl, rfl⟩
  | true =>
    rw [q] at hh
    unfold hasB at q
    simp only [Bool.and_eq_true, decide_eq_true_eq] at q
    have ht : timeB x = false := (timeB_no x).2 (by omega)
    clear hs q
    go_enter Try.func10, Try.ntmps10
    go_wp2_with (first
      | (go_at_call 23; refine (ptime_any x _).mono ?_; rw [ht]; rintro e w1 ⟨rfl, rfl⟩)
      | (go_at_call 22; refine hh.mono ?_; rintro e w1 ⟨rfl, rfl⟩))
    go_ret
    exact ⟨rfl, rfl⟩
theorem pset_yes (h : CkAt PT w base D S l real) (n x : Nat) (hn : n < l.length) (hx : x ≤ 1099511627776) : Calls Try.prog 10 #[.pointer (some ⟨D, 0, none⟩), .int .i64 (n : Int), .int .i64 (x : Int)] w fun e w' => e = .returned (.int .i64 0) ∧ CkAt PT w' base D S (l.set n x) real ∧ Kept w w' S S := by
  obtain ⟨g, c, hb, c0, _, _, _, _, hc, hf, _⟩ := h.cellsP
  have hn2 := h.n2
  have hh := phas_any h n
  have q : hasB l n = true := by unfold hasB; simp; omega
  rw [q] at hh
  have ht : timeB x = true := (timeB_iff x).2 (by omega)
  have HP : Hid _ := h.putP (n := n) hb hx
  have z := hc n hn
  have fz := hf n
  clear h hb hc hf q
  generalize l[n] = y at z
  go_enter Try.func10, Try.ntmps10
  go_wp2_with (first
    | (go_at_call 23; refine (ptime_any x _).mono ?_; rw [ht]; rintro e w1 ⟨rfl, rfl⟩)
    | (go_at_call 22; refine hh.mono ?_; rintro e w1 ⟨rfl, rfl⟩))
  go_ret
  exact ⟨rfl, HP.out.1, HP.out.2⟩
end
end Go.Proofs.Ytcecgphjaofgbaa
