/-
  Chapter 6's example over the program's net. No condition.
-/
import Derived.Test.YtpbkpaendhpbfaaNtTake
import Derived.Test.YtpbkpaendhpbfaaNtAll
namespace Go.Proofs.Ytpbkpaendhpbfaa
open Go.RowKit

section
variable {w : World} {base D : Nat} {S : Nat → Prop}
theorem na1 (k : NtAt PT w base D S []) : Calls Try.prog 13 #[.pointer (some ⟨D, 0, none⟩), .string ⟨#[97]⟩] w fun e w' => e = .returned (.int .i64 0) ∧ ∃ S', NtAt PT w' base D S' [⟨#[97]⟩] ∧ Below base w w' :=
  (psend_yes ⟨#[97]⟩ k (by decide) (by decide)).mono fun _ _ ⟨h1, S', h2, h3⟩ => ⟨h1, S', h2, h3.below k⟩
theorem na2 (k : NtAt PT w base D S [⟨#[97]⟩]) : Calls Try.prog 13 #[.pointer (some ⟨D, 0, none⟩), .string ⟨#[98]⟩] w fun e w' => e = .returned (.int .i64 0) ∧ ∃ S', NtAt PT w' base D S' [⟨#[97]⟩, ⟨#[98]⟩] ∧ Below base w w' :=
  (psend_yes ⟨#[98]⟩ k (by simp) (by decide)).mono fun _ _ ⟨h1, S', h2, h3⟩ => ⟨h1, S', h2, h3.below k⟩
theorem na3 (k : NtAt PT w base D S [⟨#[97]⟩, ⟨#[98]⟩]) : Calls Try.prog 15 #[.pointer (some ⟨D, 0, none⟩), .int .i64 0] w fun e w' => e = .returned (.tuple #[.string ⟨#[97]⟩, .int .i64 0]) ∧ ∃ S', NtAt PT w' base D S' [⟨#[98]⟩] ∧ Below base w w' :=
  (ptake_yes 0 k (by simp)).mono fun _ _ ⟨h1, S', h2, h3⟩ => ⟨h1, S', h2, h3.below k⟩
theorem na4 (k : NtAt PT w base D S [⟨#[98]⟩]) : Calls Try.prog 19 #[.pointer (some ⟨D, 0, none⟩), .int .i64 0] w fun e w' => e = .returned (.int .i64 0) ∧ ∃ S', NtAt PT w' base D S' [⟨#[98]⟩, ⟨#[98]⟩] ∧ Below base w w' :=
  (pdouble_yes 0 k (by simp) (by simp)).mono fun _ _ ⟨h1, S', h2, h3⟩ => ⟨h1, S', h2, h3.below k⟩
theorem na5 (k : NtAt PT w base D S [⟨#[98]⟩, ⟨#[98]⟩]) : Calls Try.prog 15 #[.pointer (some ⟨D, 0, none⟩), .int .i64 2] w fun e w' => e = .returned (.tuple #[.string ⟨#[]⟩, .int .i64 1]) ∧ w = w' := ptake_no 2 k (by decide)
theorem na6 (k : NtAt PT w base D S [⟨#[98]⟩, ⟨#[98]⟩]) : Calls Try.prog 21 #[.pointer (some ⟨D, 0, none⟩)] w fun e w' => e = .returned (.int .i64 2) ∧ w = w' := plen_any k
end
theorem new_N (w : World) : Calls Try.prog 12 #[] w fun e w' => e = .returned (.pointer (some ⟨w.heap.size, 0, none⟩)) ∧ ∃ S, NtAt PT w' w.heap.size w.heap.size S [] ∧ Below w.heap.size w w' :=
  (pnew_any w).mono fun _ _ ⟨h1, h2⟩ => ⟨h1, (fun b => b = w.heap.size), by rw [h2]; exact NtAt.new PT w, by rw [h2]; exact (Below.refl _ w).alloc (Nat.le_refl _) _⟩
theorem two_b (w : World) : StrAt (w.alloc (.cells #[.string ⟨#[98]⟩, .string ⟨#[98]⟩] 9)) (.slice (some ⟨w.heap.size, 0, none⟩) 2 2) [⟨#[98]⟩, ⟨#[98]⟩] := by
  refine ⟨⟨_, _, rfl, Or.inr ⟨w.heap.size, 0, rfl, by simp, fun j hj => ?_⟩⟩⟩
  have hj2 : j = 0 ∨ j = 1 := by simp at hj; omega
  rcases hj2 with rfl | rfl <;> simp
set_option maxHeartbeats 3200000 in
set_option maxRecDepth 100000 in
theorem nawake_any (w : World) : Calls Try.prog 24 #[] w fun e w' => e = .returned (.bool true) ∧ Below w.heap.size w w' := by
  have hn := new_N w
  obtain ⟨B, hB⟩ : ∃ B, B = w.heap.size := ⟨_, rfl⟩
  have HB : Hid (B ≤ w.heap.size) := by rw [hB]; exact Nat.le_refl _
  rw [← hB] at hn ⊢
  clear hB
  go_enter Try.func24, Try.ntmps24
  go_wp2_with (first
    | (go_at_call 22; have kz := b7; refine (texts_any _ _ _ _ _ (by exact sa.below ((Below.refl _ w8).alloc (Nat.le_refl _) _)) (two_b w8) (by simp) true (by simp)).mono ?_; rintro e w9 ⟨rfl, b9⟩)
    | (go_at_call 23; have kz := d7; refine (pall_any k6).mono ?_; rintro e w8 ⟨v, rfl, sa, b8⟩; have b7 := bmm b5 (Nat.le_trans HB.out b5.size) b8; clear b8)
    | (go_at_call 21; have kz := d6; refine (na6 k6).mono ?_; rintro e w7 ⟨rfl, rfl⟩; have d7 : True := trivial)
    | (go_at_call 15; refine (na5 k5).mono ?_; rintro e w6 ⟨rfl, rfl⟩; have k6 := k5; have d6 : True := trivial; clear k5)
    | (go_at_call 19; refine (na4 k4).mono ?_; rintro e w5 ⟨rfl, S5, k5, x5⟩; have b5 := b4.trans x5; clear k4 b4 x5)
    | (go_at_call 15; refine (na3 k3).mono ?_; rintro e w4 ⟨rfl, S4, k4, x4⟩; have b4 := b3.trans x4; clear k3 b3 x4)
    | (go_at_call 13; refine (na2 k2).mono ?_; rintro e w3 ⟨rfl, S3, k3, x3⟩; have b3 := b2.trans x3; clear k2 b2 x3)
    | (go_at_call 13; refine (na1 k1).mono ?_; rintro e w2 ⟨rfl, S2, k2, x2⟩; have b2 := b1.trans x2; clear k1 b1 x2)
    | (go_at_call 12; refine hn.mono ?_; rintro e w1 ⟨rfl, S1, k1, b1⟩))
  go_ret
  refine ⟨rfl, bmm b7 (Nat.le_trans HB.out b7.size) ?_⟩
  exact ⟨b9.os, b9.tape, b9.output, by have := b9.size; simp at this; omega, fun k hk => (b9.block k (by simp; omega)).trans (heap_alloc_old _ _ hk)⟩
end Go.Proofs.Ytpbkpaendhpbfaa
