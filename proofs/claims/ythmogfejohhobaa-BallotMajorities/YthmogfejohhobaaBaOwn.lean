/-
  BallotOwn's walk: a ballot is its round's and server's, and no other's. No condition.
-/
import Derived.Test.YthmogfejohhobaaBaLaws
import Derived.ChangeKeysEq
namespace Go.Proofs.Ythmogfejohhobaa
open Go.RowKit

theorem undrB' {w w' : World} {B : Nat} (k : Below B w w') : Below B w w'.drew := ⟨k.os, k.tape, k.output, k.size, k.block⟩
theorem of_some (r i : Int) (h : ofR r i ≠ 0) : roR (ofR r i) = r ∧ idR (ofR r i) = i := by
  by_cases hc : 0 ≤ r ∧ r ≤ 137438953472 ∧ 0 ≤ i ∧ i ≤ 4 ∧ isB (8 * r + i) = true
  · have e : ofR r i = 8 * r + i := if_pos hc
    rw [e]
    unfold roR idR
    rw [if_pos hc.2.2.2.2, if_pos hc.2.2.2.2]
    omega
  · exact absurd (if_neg hc) h
theorem own_none (a0 a1 b0 b1 : Int) (hn : ofR a0 a1 = 0 ∨ ofR b0 b1 = 0) (w : World) : Calls Try.prog 5 #[.agg #[.int .i64 a0, .int .i64 a1], .agg #[.int .i64 b0, .int .i64 b1]] w fun e w' => e = .returned (.bool true) ∧ Below w.heap.size w w' := by
  have H0 : Hid _ := pof_any a0 a1
  have H1 : Hid _ := pof_any b0 b1
  have H6 : Hid _ := awake_any
  by_cases h0 : ofR a0 a1 = 0
  · rw [h0] at H0
    clear h0 hn
    generalize ofR b0 b1 = y at *
    go_enter Try.func5, Try.ntmps5
    go_wp2_with fail
    go_region_held3 (fun w' => w'.cell? ⟨w.heap.size, 0, none⟩ = some (.int .i64 a0) ∧ w'.cell? ⟨w.heap.size, 1, none⟩ = some (.int .i64 a1) ∧ w'.cell? ⟨w.heap.size + 1, 0, none⟩ = some (.int .i64 b0) ∧ w'.cell? ⟨w.heap.size + 1, 1, none⟩ = some (.int .i64 b1)) (go_keep)
      (first
        | (have zz := d1; go_at_call 8; refine (H1.out _).mono ?_; rintro e w1 ⟨rfl, rfl⟩)
        | (go_at_call 8; refine (H0.out _).mono ?_; rintro e w1 ⟨rfl, rfl⟩; have d1 : True := trivial))
    go_wp2_with fail
    go_wp2_with (go_at_call 14; refine (H6.out _).mono ?_; rintro e w1 ⟨rfl, rfl⟩)
    go_ret
    exact ⟨rfl, undrB' (((Below.refl _ w).alloc (Nat.le_refl _) _).alloc (by simp) _)⟩
  · have h1 : ofR b0 b1 = 0 := hn.resolve_left h0
    rw [h1] at H1
    generalize ofR a0 a1 = x at *
    have q0 : (x == 0) = false := by simp; omega
    clear h0 h1 hn
    go_enter Try.func5, Try.ntmps5
    go_wp2_with fail
    go_region_held3 (fun w' => w'.cell? ⟨w.heap.size, 0, none⟩ = some (.int .i64 a0) ∧ w'.cell? ⟨w.heap.size, 1, none⟩ = some (.int .i64 a1) ∧ w'.cell? ⟨w.heap.size + 1, 0, none⟩ = some (.int .i64 b0) ∧ w'.cell? ⟨w.heap.size + 1, 1, none⟩ = some (.int .i64 b1)) (go_keep)
      (first
        | (have zz := d1; go_at_call 8; refine (H1.out _).mono ?_; rintro e w1 ⟨rfl, rfl⟩)
        | (go_at_call 8; refine (H0.out _).mono ?_; rintro e w1 ⟨rfl, rfl⟩; have d1 : True := trivial))
    go_wp2_with fail
    go_wp2_with (go_at_call 14; refine (H6.out _).mono ?_; rintro e w1 ⟨rfl, rfl⟩)
    go_ret
    exact ⟨rfl, undrB' (((Below.refl _ w).alloc (Nat.le_refl _) _).alloc (by simp) _)⟩
theorem own_same (a0 a1 b0 b1 x y : Int) (z : Bool) (h0 : ofR a0 a1 = x) (h1 : ofR b0 b1 = y) (hx : (x == 0) = false) (hy : (y == 0) = false) (hr : roR x = a0) (hi : idR x = a1) (hz : (x == y) = z) (he : ∀ w : World, (binOp .eql 26 (.agg #[.int .i64 a0, .int .i64 a1]) (.agg #[.int .i64 b0, .int .i64 b1])).run Try.prog w = .ok (.bool z) w) (w : World) : Calls Try.prog 5 #[.agg #[.int .i64 a0, .int .i64 a1], .agg #[.int .i64 b0, .int .i64 b1]] w fun e w' => e = .returned (.bool true) ∧ Below w.heap.size w w' := by
  have H0 : Hid _ := pof_any a0 a1
  have H1 : Hid _ := pof_any b0 b1
  have H2 : Hid _ := pRound_any x
  have H3 : Hid _ := pId_any x
  have H6 : Hid _ := awake_any
  rw [h0] at H0
  rw [h1] at H1
  rw [hr] at H2
  rw [hi] at H3
  clear h0 h1 hr hi
  go_enter Try.func5, Try.ntmps5
  go_wp2_with fail
  go_region_held3 (fun w' => w'.cell? ⟨w.heap.size, 0, none⟩ = some (.int .i64 a0) ∧ w'.cell? ⟨w.heap.size, 1, none⟩ = some (.int .i64 a1) ∧ w'.cell? ⟨w.heap.size + 1, 0, none⟩ = some (.int .i64 b0) ∧ w'.cell? ⟨w.heap.size + 1, 1, none⟩ = some (.int .i64 b1)) (go_keep)
    (first
      | (have zz := d1; go_at_call 8; refine (H1.out _).mono ?_; rintro e w1 ⟨rfl, rfl⟩)
      | (go_at_call 8; refine (H0.out _).mono ?_; rintro e w1 ⟨rfl, rfl⟩; have d1 : True := trivial))
  go_wp2_with fail
  go_region_held3 (fun w' => w'.cell? ⟨w.heap.size, 0, none⟩ = some (.int .i64 a0) ∧ w'.cell? ⟨w.heap.size, 1, none⟩ = some (.int .i64 a1) ∧ w'.cell? ⟨w.heap.size + 1, 0, none⟩ = some (.int .i64 b0) ∧ w'.cell? ⟨w.heap.size + 1, 1, none⟩ = some (.int .i64 b1)) (go_keep)
    (first
      | (go_at_call 10; refine (H2.out _).mono ?_; rintro e w1 ⟨rfl, rfl⟩)
      | (go_at_call 12; refine (H3.out _).mono ?_; rintro e w1 ⟨rfl, rfl⟩)
      | (go_at_call 14; refine (H6.out _).mono ?_; rintro e w1 ⟨rfl, rfl⟩))
  go_wp2
  go_ret
  exact ⟨rfl, undrB' (undrB' (((Below.refl _ w).alloc (Nat.le_refl _) _).alloc (by simp) _))⟩
theorem kc1 : Try.prog.cellsOf 3 = 1 := by kernel_rfl
set_option maxRecDepth 100000 in
theorem two_in (a0 a1 b0 b1 : Int) (w : World) : (Op.equalIn 10000 26 (.agg #[.int .i64 a0, .int .i64 a1]) (.agg #[.int .i64 b0, .int .i64 b1])).run Try.prog w = .ok (a0 == b0 && a1 == b1) w := by
  obtain ⟨I, hI⟩ : ∃ I, Try.prog.info? 3 = some I := Option.isSome_iff_exists.1 (by kernel_rfl)
  rw [show (10000 : Nat) = 9999 + 1 from rfl, run_equalIn_array (w := w) 9999 _ _ Try.underlying26 hI]
  rw [kc1, show List.range 2 = [0, 1] from rfl]
  cases h0 : (a0 == b0) with
  | false => simp [go_sem, Op.eqItems, h0]
  | true =>
    cases h1 : (a1 == b1) with
    | false => simp [go_sem, Op.eqItems, h0, h1]
    | true => simp [go_sem, Op.eqItems, h0, h1]
set_option maxRecDepth 100000 in
theorem two_eql (a0 a1 b0 b1 : Int) (w : World) : (binOp .eql 26 (.agg #[.int .i64 a0, .int .i64 a1]) (.agg #[.int .i64 b0, .int .i64 b1])).run Try.prog w = .ok (.bool (a0 == b0 && a1 == b1)) w := by
  have h := two_in a0 a1 b0 b1 w
  generalize (a0 == b0 && a1 == b1) = z at *
  simp [go_sem, h]
theorem own_walk (a0 a1 b0 b1 : Int) (w : World) : Calls Try.prog 5 #[.agg #[.int .i64 a0, .int .i64 a1], .agg #[.int .i64 b0, .int .i64 b1]] w fun e w' => e = .returned (.bool true) ∧ Below w.heap.size w w' := by
  by_cases h0 : ofR a0 a1 = 0
  · exact own_none a0 a1 b0 b1 (Or.inl h0) w
  by_cases h1 : ofR b0 b1 = 0
  · exact own_none a0 a1 b0 b1 (Or.inr h1) w
  obtain ⟨r0, i0⟩ := of_some a0 a1 h0
  obtain ⟨r1, i1⟩ := of_some b0 b1 h1
  refine own_same a0 a1 b0 b1 _ _ (a0 == b0 && a1 == b1) rfl rfl (by simpa using h0) (by simpa using h1) r0 i0 ?_ (two_eql a0 a1 b0 b1) w
  by_cases h2 : ofR a0 a1 = ofR b0 b1
  · have e0 : a0 = b0 := by rw [← r0, ← r1, h2]
    have e1 : a1 = b1 := by rw [← i0, ← i1, h2]
    subst e0 e1
    simp
  · have h3 : ¬ (a0 = b0 ∧ a1 = b1) := fun h => h2 (by rw [h.1, h.2])
    have h4 : (ofR a0 a1 == ofR b0 b1) = false := by simpa using h2
    rw [h4]
    symm
    rw [Bool.and_eq_false_iff]
    by_cases h5 : a0 = b0
    · exact Or.inr (by simpa using fun h => h3 ⟨h5, h⟩)
    · exact Or.inl (by simpa using h5)
end Go.Proofs.Ythmogfejohhobaa
