/-
  ClocksLeases, ClocksSums, ClocksNone of layer 7, walked. The condition: what is handed in lies in memory as its reading says.
-/
import Derived.Test.YtcecgphjaofgbaaCkAwake
namespace Go.Proofs.Ytcecgphjaofgbaa
open Go.RowKit

theorem bel_box {w w' : World} {o : Obj} (b : Below (w.alloc o).heap.size (w.alloc o) w') : Below w.heap.size w w' :=
  ⟨b.os, b.tape, b.output, by have := b.size; simp at this; omega, fun k hk => (b.block k (by simp; omega)).trans (heap_alloc_old w o hk)⟩
set_option maxHeartbeats 3200000 in
set_option maxRecDepth 100000 in
theorem leases_walk (r s c : Int) (w : World) : Calls Try.prog 6 #[.int .i64 r, .int .i64 s, .int .i64 c] w fun e w' => e = .returned (.bool true) ∧ Below w.heap.size w w' := by
  by_cases h1 : r < 0
  · have q1 : decide (r < 0) = true := decide_eq_true h1
    go_enter Try.func6, Try.ntmps6
    go_wp2_with (go_at_call 17; refine (awake_any _).mono ?_; rintro e w9 ⟨rfl, b9⟩)
    go_ret
    exact ⟨rfl, b9⟩
  have q1 : decide (r < 0) = false := decide_eq_false h1
  by_cases h2 : 1073741824 < r
  · have q2 : decide (1073741824 < r) = true := decide_eq_true h2
    go_enter Try.func6, Try.ntmps6
    go_wp2_with (go_at_call 17; refine (awake_any _).mono ?_; rintro e w9 ⟨rfl, b9⟩)
    go_ret
    exact ⟨rfl, b9⟩
  have q2 : decide (1073741824 < r) = false := decide_eq_false h2
  cases b1 : boundB r s with
  | false =>
    go_enter Try.func6, Try.ntmps6
    go_wp2_with (first
      | (go_at_call 17; refine (awake_any _).mono ?_; rintro e w9 ⟨rfl, b9⟩)
      | (go_at_call 20; refine (pbounded_any r s _).mono ?_; rw [b1]; rintro e w1 ⟨rfl, rfl⟩))
    go_ret
    exact ⟨rfl, b9⟩
  | true =>
    cases b2 : boundB r c with
    | false =>
      go_enter Try.func6, Try.ntmps6
      go_wp2_with (first
        | (go_at_call 17; refine (awake_any _).mono ?_; rintro e w9 ⟨rfl, b9⟩)
        | (go_at_call 20; have kz := d1; refine (pbounded_any r c _).mono ?_; rw [b2]; rintro e w2 ⟨rfl, rfl⟩)
        | (go_at_call 20; refine (pbounded_any r s _).mono ?_; rw [b1]; rintro e w1 ⟨rfl, rfl⟩; have d1 : True := trivial))
      go_ret
      exact ⟨rfl, b9⟩
    | true =>
      have f1 := (boundB_iff r s).1 b1
      have f2 := (boundB_iff r c).1 b2
      by_cases h3 : s < 900
      · have q3 : decide (s < 900) = true := decide_eq_true h3
        clear f1 f2
        go_enter Try.func6, Try.ntmps6
        go_wp2_with (first
          | (go_at_call 17; refine (awake_any _).mono ?_; rintro e w9 ⟨rfl, b9⟩)
          | (go_at_call 20; have kz := d1; refine (pbounded_any r c _).mono ?_; rw [b2]; rintro e w2 ⟨rfl, rfl⟩)
          | (go_at_call 20; refine (pbounded_any r s _).mono ?_; rw [b1]; rintro e w1 ⟨rfl, rfl⟩; have d1 : True := trivial))
        go_ret
        exact ⟨rfl, b9⟩
      · have q3 : decide (s < 900) = false := decide_eq_false h3
        have h4 : 700 ≤ c := by omega
        have q4 : decide (700 ≤ c) = true := decide_eq_true h4
        clear f1 f2
        go_enter Try.func6, Try.ntmps6
        go_wp2_with (first
          | (go_at_call 17; refine (awake_any _).mono ?_; rintro e w9 ⟨rfl, b9⟩)
          | (go_at_call 20; have kz := d1; refine (pbounded_any r c _).mono ?_; rw [b2]; rintro e w2 ⟨rfl, rfl⟩)
          | (go_at_call 20; refine (pbounded_any r s _).mono ?_; rw [b1]; rintro e w1 ⟨rfl, rfl⟩; have d1 : True := trivial))
        go_ret
        exact ⟨rfl, b9⟩
set_option maxHeartbeats 3200000 in
set_option maxRecDepth 100000 in
theorem none_walk (st : Bool) (R N A : Int) (v : Value) (w : World) :
    Calls Try.prog 7 #[.agg #[.bool st, .int .i64 R, .int .i64 N, .int .i64 A, v]] w fun e w' => e = .returned (.bool true) ∧ Below w.heap.size w w' := by
  go_enter Try.func7, Try.ntmps7
  go_wp2_with (first
    | (go_at_call 17; refine (awake_any _).mono ?_; rintro e w9 ⟨rfl, bel⟩)
    | (go_at_call 16; refine (preal_nil _).mono ?_; rintro e w1 ⟨rfl, rfl⟩)
    | (go_at_call 14; refine (pat_nil _ _).mono ?_; rintro e w1 ⟨rfl, rfl⟩)
    | (go_at_call 10; refine (pset_nil _ _ _).mono ?_; rintro e w1 ⟨rfl, rfl⟩)
    | (go_at_call 12; refine (pgo_nil _ _ _).mono ?_; rintro e w1 ⟨rfl, rfl⟩))
  go_ret
  exact ⟨rfl, bel_box bel⟩
/-- A row of pairs that came in. -/
structure PairsAt (w : World) (v : Value) (l : List (Int × Int)) : Prop where
  ex : ∃ (a : Option Addr) (cap : Nat), v = .slice a l.length cap ∧ (l.length = 0 ∨ ∃ bk off, a = some ⟨bk, off, none⟩ ∧ bk < w.heap.size ∧ ∀ j (hj : j < l.length), w.cell? ⟨bk, off + j * 2, none⟩ = some (.int .i64 l[j].1) ∧ w.cell? ⟨bk, off + j * 2 + 1, none⟩ = some (.int .i64 l[j].2))
set_option maxHeartbeats 6400000 in
set_option maxRecDepth 100000 in
theorem sums_walk (w : World) (v : Value) (l : List (Int × Int)) (hv : PairsAt w v l) : Calls Try.prog 5 #[v] w fun e w' => e = .returned (.bool true) ∧ Below w.heap.size w w' := by
  obtain ⟨a, cap, rfl, hx⟩ := hv.ex
  have HX : Hid _ := hx
  clear hv hx
  go_enter Try.func5, Try.ntmps5
  go_wp2
  go_loopw [3, 4, 5] (fun rs b2 i wr => ∃ (k : Nat) (r b : Int), k ≤ l.length ∧ k ≤ 1000 ∧ rs = .int .i64 r ∧ b2 = .int .i64 b ∧ i = .int .i64 k ∧ Hid (0 ≤ r ∧ 0 ≤ b ∧ r ≤ 1048576 * (k : Int) ∧ b ≤ 1048576 * (k : Int) ∧ 8 * (r - b) ≤ r ∧ 8 * (b - r) ≤ r) ∧ Below w.heap.size w wr) (fun _ _ i _ => l.length - (intOf i).toNat)
  case atStart => exact ⟨0, 0, 0, Nat.zero_le _, Nat.zero_le _, rfl, rfl, rfl, ⟨by decide, by decide, by decide, by decide, by decide, by decide⟩, Below.refl _ _⟩
  case round =>
    obtain ⟨k, r, b, hk, hk2, rfl, rfl, rfl, HR0, bel⟩ := hrel
    by_cases hkl : k < l.length
    · by_cases hkm : k < 1000
      · rcases HX.out with h0 | ⟨bk, off, rfl, hbk, hxx⟩
        · omega
        have z0 := (bel.cell (p := ⟨bk, off + k * 2, none⟩) (by exact hbk)).trans (hxx k hkl).1
        have z1 := (bel.cell (p := ⟨bk, off + k * 2 + 1, none⟩) (by exact hbk)).trans (hxx k hkl).2
        generalize l[k].1 = x at *
        generalize l[k].2 = y at *
        have HR : Hid (0 ≤ r ∧ 0 ≤ b ∧ r ≤ 1048576 * ((k + 1 : Nat) : Int) ∧ b ≤ 1048576 * ((k + 1 : Nat) : Int) ∧ 8 * (r - b) ≤ r ∧ 8 * (b - r) ≤ r) := by
          have := HR0.out
          exact ⟨by omega, by omega, by omega, by omega, by omega, by omega⟩
        have HR1 := HR0
        clear hxx HX HR0
        go_wp2
        refine wp_region_held_drew (S := (fun w' : World => w'.cell? ⟨bk, off + k * 2, none⟩ = some (.int .i64 x) ∧ w'.cell? ⟨bk, off + k * 2 + 1, none⟩ = some (.int .i64 y))) (by kernel_rfl) ?_ (fun hHeld0 => ?_)
        · try dsimp only
          go_keep
        refine tk0 (.slice (some ⟨bk, off, none⟩) l.length cap) (by kernel_rfl) (by kernel_rfl) (by kernel_rfl) (fun _ _ _ h => h) rfl (fun w hSw => by (try dsimp only at hSw); obtain ⟨q0, q1⟩ := hSw; go_simp) (by assumption) ?_
        try simp only [Act.put, List.setIfInBounds_toArray, List.set_cons_zero, List.set_cons_succ]
        refine tk1 (.int .i64 (k : Int)) (by kernel_rfl) (by kernel_rfl) (by kernel_rfl) (fun _ _ _ h => h) rfl (fun w hSw => by (try dsimp only at hSw); obtain ⟨q0, q1⟩ := hSw; go_simp) (by assumption) ?_
        try simp only [Act.put, List.setIfInBounds_toArray, List.set_cons_zero, List.set_cons_succ]
        refine tk2 (.pointer (some ⟨bk, off + k * 2, none⟩)) (by kernel_rfl) (by kernel_rfl) (by kernel_rfl) (fun _ _ _ h => h) rfl (fun w hSw => by (try dsimp only at hSw); obtain ⟨q0, q1⟩ := hSw; go_simp) (by assumption) ?_
        try simp only [Act.put, List.setIfInBounds_toArray, List.set_cons_zero, List.set_cons_succ]
        refine tk3 (.pointer (some ⟨bk, off + k * 2, none⟩)) (by kernel_rfl) (by kernel_rfl) (by kernel_rfl) (fun _ _ _ h => h) rfl (fun w hSw => by (try dsimp only at hSw); obtain ⟨q0, q1⟩ := hSw; go_simp) (by assumption) ?_
        try simp only [Act.put, List.setIfInBounds_toArray, List.set_cons_zero, List.set_cons_succ]
        refine tk4 (.int .i64 x) (by kernel_rfl) (by kernel_rfl) (by kernel_rfl) (fun _ _ _ h => h) rfl (fun w hSw => by (try dsimp only at hSw); obtain ⟨q0, q1⟩ := hSw; go_simp) (by assumption) ?_
        try simp only [Act.put, List.setIfInBounds_toArray, List.set_cons_zero, List.set_cons_succ]
        refine tk5 (.slice (some ⟨bk, off, none⟩) l.length cap) (by kernel_rfl) (by kernel_rfl) (by kernel_rfl) (fun _ _ _ h => h) rfl (fun w hSw => by (try dsimp only at hSw); obtain ⟨q0, q1⟩ := hSw; go_simp) (by assumption) ?_
        try simp only [Act.put, List.setIfInBounds_toArray, List.set_cons_zero, List.set_cons_succ]
        refine tk6 (.int .i64 (k : Int)) (by kernel_rfl) (by kernel_rfl) (by kernel_rfl) (fun _ _ _ h => h) rfl (fun w hSw => by (try dsimp only at hSw); obtain ⟨q0, q1⟩ := hSw; go_simp) (by assumption) ?_
        try simp only [Act.put, List.setIfInBounds_toArray, List.set_cons_zero, List.set_cons_succ]
        refine tk7 (.pointer (some ⟨bk, off + k * 2, none⟩)) (by kernel_rfl) (by kernel_rfl) (by kernel_rfl) (fun _ _ _ h => h) rfl (fun w hSw => by (try dsimp only at hSw); obtain ⟨q0, q1⟩ := hSw; go_simp) (by assumption) ?_
        try simp only [Act.put, List.setIfInBounds_toArray, List.set_cons_zero, List.set_cons_succ]
        refine tk8 (.pointer (some ⟨bk, off + k * 2 + 1, none⟩)) (by kernel_rfl) (by kernel_rfl) (by kernel_rfl) (fun _ _ _ h => h) rfl (fun w hSw => by (try dsimp only at hSw); obtain ⟨q0, q1⟩ := hSw; go_simp) (by assumption) ?_
        try simp only [Act.put, List.setIfInBounds_toArray, List.set_cons_zero, List.set_cons_succ]
        refine tk9 (.int .i64 y) (by kernel_rfl) (by kernel_rfl) (by kernel_rfl) (fun _ _ _ h => h) rfl (fun w hSw => by (try dsimp only at hSw); obtain ⟨q0, q1⟩ := hSw; go_simp) (by assumption) ?_
        try simp only [Act.put, List.setIfInBounds_toArray, List.set_cons_zero, List.set_cons_succ]
        refine tk10 (.int .i64 x) (by kernel_rfl) (by kernel_rfl) (by kernel_rfl) (fun _ _ _ h => h) rfl (fun w hSw => by (try dsimp only at hSw); obtain ⟨q0, q1⟩ := hSw; go_simp) (by assumption) ?_
        try simp only [Act.put, List.setIfInBounds_toArray, List.set_cons_zero, List.set_cons_succ]
        refine tk11 (.int .i64 y) (by kernel_rfl) (by kernel_rfl) (by kernel_rfl) (fun _ _ _ h => h) rfl (fun w hSw => by (try dsimp only at hSw); obtain ⟨q0, q1⟩ := hSw; go_simp) (by assumption) ?_
        try simp only [Act.put, List.setIfInBounds_toArray, List.set_cons_zero, List.set_cons_succ]
        refine wpAnyH_done (by kernel_rfl) ?_ _
        clear z0 z1
        by_cases x0 : x < 0
        · have p0 : decide (x < 0) = true := decide_eq_true x0
          go_wp2
          go_roundw
          case rel => exact ⟨k + 1, r, b, hkl, by omega, rfl, rfl, by go_num, HR, bmm bel bel.size (undrew (Below.refl _ wr.drew))⟩
          case measure => simp [intOf]; omega
        have p0 : decide (x < 0) = false := decide_eq_false x0
        by_cases y0 : y < 0
        · have p1 : decide (y < 0) = true := decide_eq_true y0
          go_wp2
          go_roundw
          case rel => exact ⟨k + 1, r, b, hkl, by omega, rfl, rfl, by go_num, HR, bmm bel bel.size (undrew (Below.refl _ wr.drew))⟩
          case measure => simp [intOf]; omega
        have p1 : decide (y < 0) = false := decide_eq_false y0
        by_cases x1 : 1048576 < x
        · have p2 : decide (1048576 < x) = true := decide_eq_true x1
          go_wp2
          go_roundw
          case rel => exact ⟨k + 1, r, b, hkl, by omega, rfl, rfl, by go_num, HR, bmm bel bel.size (undrew (Below.refl _ wr.drew))⟩
          case measure => simp [intOf]; omega
        have p2 : decide (1048576 < x) = false := decide_eq_false x1
        by_cases y1 : 1048576 < y
        · have p3 : decide (1048576 < y) = true := decide_eq_true y1
          go_wp2
          go_roundw
          case rel => exact ⟨k + 1, r, b, hkl, by omega, rfl, rfl, by go_num, HR, bmm bel bel.size (undrew (Below.refl _ wr.drew))⟩
          case measure => simp [intOf]; omega
        have p3 : decide (1048576 < y) = false := decide_eq_false y1
        cases hbb : boundB x y with
        | false =>
          go_wp2_with (go_at_call 20; refine (pbounded_any x y _).mono ?_; rw [hbb]; rintro e w5 ⟨rfl, rfl⟩)
          go_roundw
          case rel => exact ⟨k + 1, r, b, hkl, by omega, rfl, rfl, by go_num, HR, bmm bel bel.size (undrew (Below.refl _ wr.drew))⟩
          case measure => simp [intOf]; omega
        | true =>
          have hR := HR1.out
          have HR2 : Hid (0 ≤ r + x ∧ 0 ≤ b + y ∧ r + x ≤ 1048576 * ((k + 1 : Nat) : Int) ∧ b + y ≤ 1048576 * ((k + 1 : Nat) : Int) ∧ 8 * ((r + x) - (b + y)) ≤ r + x ∧ 8 * ((b + y) - (r + x)) ≤ r + x) := by
            have h5 := bound_sum ⟨hR.2.2.2.2.1, hR.2.2.2.2.2⟩ hbb
            exact ⟨by omega, by omega, by omega, by omega, h5.1, h5.2⟩
          have g1 : 0 ≤ r := hR.1
          have g2 : r ≤ 1048576000 := by omega
          have g3 : 0 ≤ b := hR.2.1
          have g4 : b ≤ 1048576000 := by omega
          clear hR
          go_wp2_with (go_at_call 20; refine (pbounded_any x y _).mono ?_; rw [hbb]; rintro e w5 ⟨rfl, rfl⟩)
          go_roundw
          case rel => exact ⟨k + 1, r + x, b + y, hkl, by omega, by go_num, by go_num, by go_num, HR2, bmm bel bel.size (undrew (Below.refl _ wr.drew))⟩
          case measure => simp [intOf]; omega
      · have hR := HR0.out
        have hke : k = 1000 := by omega
        subst hke
        have hbt : boundB r b = true := (boundB_iff r b).2 ⟨by omega, by omega, by omega, by omega, by omega, by omega⟩
        clear HR0 hR
        go_wp2_with (first
          | (go_at_call 17; refine (awake_any _).mono ?_; rintro e w9 ⟨rfl, b9⟩)
          | (go_at_call 20; refine (pbounded_any r b _).mono ?_; rw [hbt]; rintro e w5 ⟨rfl, rfl⟩))
        go_ret
        exact ⟨rfl, bmm bel bel.size b9⟩
    · have hR := HR0.out
      have hke : k = l.length := by omega
      subst hke
      have hbt : boundB r b = true := (boundB_iff r b).2 ⟨by omega, by omega, by omega, by omega, by omega, by omega⟩
      clear HR0 hR
      go_wp2_with (first
        | (go_at_call 17; refine (awake_any _).mono ?_; rintro e w9 ⟨rfl, b9⟩)
        | (go_at_call 20; refine (pbounded_any r b _).mono ?_; rw [hbt]; rintro e w5 ⟨rfl, rfl⟩))
      go_ret
      exact ⟨rfl, bmm bel bel.size b9⟩
end Go.Proofs.Ytcecgphjaofgbaa
