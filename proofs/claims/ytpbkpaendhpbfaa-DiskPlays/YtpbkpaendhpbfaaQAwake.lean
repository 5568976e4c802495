/-
  Chapter 5's example over the program's disk. No condition.
-/
import Derived.Test.YtpbkpaendhpbfaaKAbs
namespace Go.Proofs.Ytpbkpaendhpbfaa
open Go.RowKit

/-- Lists in order with the same members are one. -/
theorem sorted_one : ∀ (e d : List P3), d.Perm e → d.Pairwise (fun x y => x.1 ≤ y.1) → e.Pairwise (fun x y => x.1 < y.1) → d = e
  | [], d, h, _, _ => h.eq_nil
  | x :: e, [], h, _, _ => by simpa using h.length_eq
  | x :: e, y :: d, h, hd, he => by
    rw [List.pairwise_cons] at hd he
    have hxy : y = x := by
      have hy : y ∈ x :: e := h.mem_iff.1 (by simp)
      have hx : x ∈ y :: d := h.mem_iff.2 (by simp)
      rcases List.mem_cons.1 hy with h1 | h1
      · exact h1
      · rcases List.mem_cons.1 hx with h2 | h2
        · exact h2.symm
        · have a1 := he.1 y h1
          have a2 := hd.1 x h2
          omega
    subst hxy
    rw [sorted_one e d ((List.perm_cons y).1 h) hd.2 he.2]

/-- The states of the example. -/
def sA1 (c : Nat) : List CF := [⟨⟨#[97]⟩, c, .slice none 0 0, .slice none 0 0, [120, 121], 0, [(1, 2)]⟩]
def sA2 (c : Nat) : List CF := [⟨⟨#[97]⟩, c, .slice none 0 0, .slice none 0 0, [120, 121], 2, []⟩]
def sA3 (c : Nat) : List CF := [⟨⟨#[97]⟩, c, .slice none 0 0, .slice none 0 0, [120, 121, 122], 2, [(2, 1)]⟩]
def sA4 (c c2 : Nat) : List CF := [⟨⟨#[97]⟩, c, .slice none 0 0, .slice none 0 0, [120, 121, 122], 2, [(2, 1)]⟩, ⟨⟨#[98]⟩, c2, .slice none 0 0, .slice none 0 0, [119], 0, [(3, 1)]⟩]
def sA5 (c c2 : Nat) : List CF := [⟨⟨#[97]⟩, c, .slice none 0 0, .slice none 0 0, [120, 121, 122], 3, []⟩, ⟨⟨#[98]⟩, c2, .slice none 0 0, .slice none 0 0, [], 0, []⟩]
section
variable {w : World} {base D : Nat} {ro : Nat → Option Nat}
theorem aw1 (k : DkS w base D [] 0 ro) : Calls Try.prog 25 #[.pointer (some ⟨D, 0, none⟩), .string ⟨#[97]⟩, .string ⟨#[120, 121]⟩] w fun e w' => e = .returned (.int .i64 0) ∧ ∃ c ro', DkS w' base D (sA1 c) 1 ro' ∧ Below base w w' :=
  (S_append_new k ⟨#[97]⟩ ⟨#[120, 121]⟩ (by decide) rfl (by decide) (by decide) (by decide)).mono fun _ _ ⟨h1, c, ro', h2, h3⟩ => ⟨h1, c, ro', h2, k.below h3⟩
theorem aw2 {c : Nat} (k : DkS w base D (sA1 c) 1 ro) : Calls Try.prog 27 #[.pointer (some ⟨D, 0, none⟩), .string ⟨#[97]⟩] w fun e w' => e = .returned (.int .i64 0) ∧ DkS w' base D (sA2 c) 1 ro ∧ Below base w w' :=
  (S_sync k ⟨#[97]⟩ (by decide) _ rfl).mono fun _ _ ⟨h1, h2, h3⟩ => ⟨h1, by simpa [setF, syncF, sA1, sA2] using h2, k.below h3⟩
theorem aw3 {c : Nat} (k : DkS w base D (sA2 c) 1 ro) : Calls Try.prog 25 #[.pointer (some ⟨D, 0, none⟩), .string ⟨#[97]⟩, .string ⟨#[122]⟩] w fun e w' => e = .returned (.int .i64 0) ∧ ∃ ro', DkS w' base D (sA3 c) 2 ro' ∧ Below base w w' :=
  (S_append k ⟨#[97]⟩ ⟨#[122]⟩ (by decide) _ rfl (by decide) (show 2 + 1 ≤ 4194304 by decide) (by decide)).mono fun _ _ ⟨h1, ro', h2, h3⟩ => ⟨h1, ro', by
    have e : setF (sA2 c) (appA ⟨⟨#[97]⟩, c, .slice none 0 0, .slice none 0 0, [120, 121], 2, []⟩ ⟨#[122]⟩ (1 + 1)) = sA3 c := by
      show [if c = c then _ else _] = _
      rw [if_pos rfl]
      rfl
    rw [← e]
    exact h2, k.below h3⟩
theorem aw4 {c : Nat} (k : DkS w base D (sA3 c) 2 ro) : Calls Try.prog 25 #[.pointer (some ⟨D, 0, none⟩), .string ⟨#[98]⟩, .string ⟨#[119]⟩] w fun e w' => e = .returned (.int .i64 0) ∧ ∃ c2 ro', DkS w' base D (sA4 c c2) 3 ro' ∧ Below base w w' :=
  (S_append_new k ⟨#[98]⟩ ⟨#[119]⟩ (by decide) rfl (by decide) (by decide) (by decide)).mono fun _ _ ⟨h1, c2, ro', h2, h3⟩ => ⟨h1, c2, ro', h2, k.below h3⟩
theorem aw5 {c c2 : Nat} (k : DkS w base D (sA4 c c2) 3 ro) : Calls Try.prog 37 #[.pointer (some ⟨D, 0, none⟩), .string ⟨#[97]⟩] w fun e w' => e = .returned (.int .i64 1) ∧ DkS w' base D (sA4 c c2) 3 ro ∧ Below base w w' :=
  (S_unsynced k ⟨#[97]⟩ (by decide) _ rfl).mono fun _ _ ⟨h1, h2⟩ => ⟨h1, by rw [h2]; exact k.fresh ⟨rfl, rfl, rfl, Nat.le_refl _, fun _ _ => rfl⟩, by rw [h2]; exact ⟨rfl, rfl, rfl, Nat.le_refl _, fun _ _ => rfl⟩⟩
theorem aw6 {c c2 : Nat} (k : DkS w base D (sA4 c c2) 3 ro) : Calls Try.prog 35 #[.pointer (some ⟨D, 0, none⟩), .int .i64 1] w fun e w' => e = .returned (.tuple #[]) ∧ DkS w' base D (sA5 c c2) 3 ro ∧ Below base w w' := by
  refine (S_crash k 1 (by decide) (by decide) (by simp [sA4])).mono fun _ _ ⟨h1, d, hp, hs, h2, h3⟩ => ⟨h1, ?_, k.below h3⟩
  have hd := sorted_one [(2, 1, c), (3, 1, c2)] d hp hs (by simp)
  subst hd
  have hne : c ≠ c2 := by
    have := k.ok.2.1
    simpa [sA4] using this
  have hne2 : ¬ c2 = c := fun e => hne e.symm
  simpa [sA4, sA5, crA, crashF, abs, sureN, keptA, hne, hne2] using h2
theorem aw7 {c c2 : Nat} (k : DkS w base D (sA5 c c2) 3 ro) : Calls Try.prog 29 #[.pointer (some ⟨D, 0, none⟩), .string ⟨#[97]⟩] w fun e w' => e = .returned (.tuple #[.string ⟨#[120, 121, 122]⟩, .int .i64 0]) ∧ w = w' :=
  (S_read k ⟨#[97]⟩ (by decide) _ rfl).mono fun _ _ ⟨h1, h2⟩ => ⟨h1, h2⟩
theorem aw8 {c c2 : Nat} (k : DkS w base D (sA5 c c2) 3 ro) : Calls Try.prog 29 #[.pointer (some ⟨D, 0, none⟩), .string ⟨#[98]⟩] w fun e w' => e = .returned (.tuple #[.string ⟨#[]⟩, .int .i64 0]) ∧ w = w' :=
  (S_read k ⟨#[98]⟩ (by decide) _ rfl).mono fun _ _ ⟨h1, h2⟩ => ⟨h1, h2⟩
theorem aw9 {c c2 : Nat} (k : DkS w base D (sA5 c c2) 3 ro) : Calls Try.prog 29 #[.pointer (some ⟨D, 0, none⟩), .string ⟨#[99]⟩] w fun e w' => e = .returned (.tuple #[.string ⟨#[]⟩, .int .i64 5]) ∧ w = w' :=
  S_read_no k ⟨#[99]⟩ (by decide) rfl
end
theorem new_S (w : World) : Calls Try.prog 8 #[] w fun e w' => e = .returned (.pointer (some ⟨w.heap.size, 0, none⟩)) ∧ ∃ ro, DkS w' w.heap.size w.heap.size [] 0 ro ∧ Below w.heap.size w w' :=
  (new_any w).mono fun _ _ ⟨h1, h2⟩ => ⟨h1, (fun b => if b = w.heap.size then some b else none), by rw [h2]; exact DkS.new w, by rw [h2]; exact (Below.refl _ w).alloc (Nat.le_refl _) _⟩
set_option maxHeartbeats 3200000 in
set_option maxRecDepth 100000 in
theorem awake_any (w : World) : Calls Try.prog 11 #[] w fun e w' => e = .returned (.bool true) ∧ Below w.heap.size w w' := by
  have hn := new_S w
  generalize w.heap.size = B at *
  go_enter Try.func11, Try.ntmps11
  go_wp2_with (first
    | (go_at_call 25; have kz := k10; refine (append_bad B ⟨#[]⟩ ⟨#[120]⟩ _ (by decide)).mono ?_; rintro e w11 ⟨rfl, rfl⟩)
    | (go_at_call 29; refine (aw9 k9).mono ?_; rintro e w10 ⟨rfl, rfl⟩; have k10 := k9; clear k9)
    | (go_at_call 29; refine (aw8 k8).mono ?_; rintro e w9 ⟨rfl, rfl⟩; have k9 := k8; clear k8)
    | (go_at_call 29; refine (aw7 k7).mono ?_; rintro e w8 ⟨rfl, rfl⟩; have k8 := k7; clear k7)
    | (go_at_call 35; refine (aw6 k6).mono ?_; rintro e w7 ⟨rfl, k7, x7⟩; have b7 := b6.trans x7; clear k6 b6 x7)
    | (go_at_call 37; refine (aw5 k5).mono ?_; rintro e w6 ⟨rfl, k6, x6⟩; have b6 := b5.trans x6; clear k5 b5 x6)
    | (go_at_call 25; refine (aw4 k4).mono ?_; rintro e w5 ⟨rfl, c2, ro5, k5, x5⟩; have b5 := b4.trans x5; clear k4 b4 x5)
    | (go_at_call 25; refine (aw3 k3).mono ?_; rintro e w4 ⟨rfl, ro4, k4, x4⟩; have b4 := b3.trans x4; clear k3 b3 x4)
    | (go_at_call 27; refine (aw2 k2).mono ?_; rintro e w3 ⟨rfl, k3, x3⟩; have b3 := b2.trans x3; clear k2 b2 x3)
    | (go_at_call 25; refine (aw1 k1).mono ?_; rintro e w2 ⟨rfl, c1, ro2, k2, x2⟩; have b2 := b1.trans x2; clear k1 b1 x2)
    | (go_at_call 8; refine hn.mono ?_; rintro e w1 ⟨rfl, ro1, k1, b1⟩))
  go_ret
  exact ⟨rfl, b7⟩
end Go.Proofs.Ytpbkpaendhpbfaa
