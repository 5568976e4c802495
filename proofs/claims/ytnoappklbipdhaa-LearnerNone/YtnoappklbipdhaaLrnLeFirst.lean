/-
  LearnerFirst: of a slot that is learned twice the first one stays. The conditions: texts have at most 2^48 bytes; the slot is an int's.
-/
import Derived.Test.YtnoappklbipdhaaLrnLeNone
import Derived.Test.YtnoappklbipdhaaLrnPackD
namespace Go.Proofs.Ytnoappklbipdhaa
open Go.RowKit

theorem fol_l (p : Ln) : (folL p).1.l = p.l := by
  unfold folL
  split <;> rfl
theorem leF_one (a : En) : leF [a] a.slot = some a := by unfold leF; simp
set_option maxHeartbeats 6400000 in
set_option maxRecDepth 100000 in
theorem first_walk (w : World) (a b : En) (hs : -9223372036854775808 ≤ a.slot ∧ a.slot ≤ MXi) (ha : a.cmd.name.size ≤ 281474976710656) (hb : b.cmd.name.size ≤ 281474976710656) : Calls Try.prog 5 #[.agg (enA a), .agg (enA b)] w fun e w' => e = .returned (.bool true) ∧ Below w.heap.size w w' := by
  obtain ⟨W, hW⟩ : ∃ W, W = (w.alloc (.cells (enA a) 30)).alloc (.cells (enA b) 30) := ⟨_, rfl⟩
  have bW : Below w.heap.size w W := by rw [hW]; exact ((Below.refl _ w).alloc (Nat.le_refl _) _).alloc (by simp) _
  have h2 := two_blocks w (.cells (enA a) 30) (.cells (enA b) 30)
  have xa : EnBx W w.heap.size a := by rw [hW]; exact h2.1.trans (heap_alloc_new w _)
  have xb : EnBx W (w.heap.size + 1) b := by rw [hW]; exact h2.2.trans (heap_alloc_new _ _)
  have sW : W.heap.size = w.heap.size + 2 := by rw [hW]; simp
  have HW : Hid ((w.alloc (.cells (enA a) 30)).alloc (.cells (enA b) 30) = W) := hW.symm
  have ca := xa.c 0 _ rfl
  by_cases h1 : a.slot < 1
  · have t1 : decide (a.slot < 1) = true := decide_eq_true h1
    have BW : Hid (Below w.heap.size w W) := bW
    clear hW h2 xa xb sW h1 bW hs ha hb
    go_enter Try.func5, Try.ntmps5
    go_upto_region 1 with fail
    rw [HW.out]
    go_wp2_with (go_at_call 21; refine (awake_any _).mono ?_; rintro r w9 ⟨rfl, b9⟩)
    go_ret
    exact ⟨rfl, bmm BW.out BW.out.size b9⟩
  · have t1 : decide (a.slot < 1) = false := decide_eq_false h1
    obtain ⟨b', hb'⟩ : ∃ b' : En, b' = ⟨a.slot, b.ballot, b.cmd⟩ := ⟨_, rfl⟩
    have cb := xb.c 0 _ rfl
    have fb := xb.f 0
    obtain ⟨W2, hW2⟩ : ∃ W2, W2 = W.setCell ⟨w.heap.size + 1, 0, none⟩ (.int .i64 a.slot) := ⟨_, rfl⟩
    have HW2 : Hid (W.setCell ⟨w.heap.size + 1, 0, none⟩ (.int .i64 a.slot) = W2) := hW2.symm
    have hsc : ∀ g, g ≠ w.heap.size + 1 → W2.heap[g]? = W.heap[g]? := fun g hg => by rw [hW2]; exact heap_setCell_other _ _ _ _ hg
    have z2 : W2.heap.size = w.heap.size + 2 := by rw [hW2]; simp; omega
    have ya : EnBx W2 w.heap.size a := (hsc _ (by omega)).trans xa
    have yb : EnBx W2 (w.heap.size + 1) b' := by
      show W2.heap[w.heap.size + 1]? = _
      rw [hW2, heap_setCell_same W (w.heap.size + 1) 0 _ _ _ xb, hb']
      rfl
    have B2 : Hid (Below w.heap.size w W2) := by
      refine ⟨by rw [hW2]; exact bW.os, by rw [hW2]; exact bW.tape, by rw [hW2]; exact bW.output, by omega, fun g hg => ?_⟩
      rw [hsc g (by omega), bW.block g hg]
    have HY : Hid (EnBx W2 w.heap.size a ∧ EnBx W2 (w.heap.size + 1) b' ∧ W2.heap.size = w.heap.size + 2) := (show Hid _ from (⟨ya, yb, z2⟩ : _ ∧ _ ∧ _))
    -- what the learner is behind each call
    obtain ⟨q1, hq1⟩ : ∃ q1, q1 = (leaL awQ0 a).1 := ⟨_, rfl⟩
    have hl1 : leaL awQ0 a = folL ⟨0, [a]⟩ := by
      unfold leaL
      rw [if_neg (fun h => by
        rcases h with h | h
        · have : a.slot ≤ 0 := h
          omega
        · simp [awQ0, leF] at h)]
      rfl
    have hl : q1.l = [a] := by rw [hq1, hl1, fol_l]
    have hlb : leaL q1 b' = (q1, []) := by
      unfold leaL
      rw [if_pos (Or.inr (by rw [hl, hb']; show (leF [a] a.slot).isSome = true; rw [leF_one]; rfl))]
    have hk : knoL q1 a.slot = (a.cmd, true) := by unfold knoL; rw [hl, leF_one]
    have HE : Hid ((-9223372036854775808 ≤ a.slot ∧ a.slot ≤ MXi) ∧ a.cmd.name.size ≤ 281474976710656 ∧ b'.cmd.name.size ≤ 281474976710656 ∧ b'.slot = a.slot) := (show Hid _ from (⟨hs, ha, by rw [hb']; exact hb, by rw [hb']⟩ : _ ∧ _ ∧ _ ∧ _))
    have HQ : Hid (q1 = (leaL awQ0 a).1 ∧ leaL q1 b' = (q1, []) ∧ knoL q1 a.slot = (a.cmd, true)) := (show Hid _ from (⟨hq1, hlb, hk⟩ : _ ∧ _ ∧ _))
    have hN : Hid (∀ y, Calls Try.prog 7 #[.int .i64 0] y (NewL y 0)) := fun y => new_learner y 0 (by decide)
    clear hW h2 sW h1 bW hs ha hb hW2 hsc ya yb z2 hq1 hl1 hl hlb hk xa xb hb'
    go_enter Try.func5, Try.ntmps5
    go_upto_region 1 with fail
    rw [HW.out]
    go_upto_region 4 with fail
    rw [HW2.out]
    go_upto_region 7 with (go_at_call 7; refine Calls.mono (hN.out _) ?_; rintro r w1 ⟨X, S1, rfl, h1, b1⟩; have H1 : Hid (LnAt w1 W2.heap.size X S1 awQ0 0 ∧ Below W2.heap.size W2 w1) := (show Hid _ from (⟨h1, b1⟩ : _ ∧ _)); clear h1 b1)
    have ya1 : EnBx w1 w.heap.size a := (H1.out.2.block _ (by have := HY.out.2.2; omega)).trans HY.out.1
    have c0 := ya1.c 0 _ rfl
    have c1 := ya1.c 1 _ rfl
    have c2 := ya1.c 2 _ rfl
    have c3 := ya1.c 3 _ rfl
    have c4 := ya1.c 4 _ rfl
    have c5 := ya1.c 5 _ rfl
    have c6 := ya1.c 6 _ rfl
    have HL1 : Hid (Calls Try.prog 9 #[.pointer (some ⟨X, 0, none⟩), .agg (enA a)] w1 (LeaPost w1 W2.heap.size X S1 (leaL awQ0 a) 1)) := learn_any H1.out.1 (by decide) a HE.out.1 HE.out.2.1
    clear ya1
    go_upto_region 8 with (go_at_call 9; refine Calls.mono HL1.out ?_; rintro r w2 ⟨S2, u2, rfl, h2, k2, _⟩; have H2 : Hid (LnAt w2 W2.heap.size X S2 q1 1 ∧ Below W2.heap.size W2 w2) := (show Hid _ from (⟨by rw [HQ.out.1]; exact h2, H1.out.1.lowk k2 H1.out.2 (Nat.le_refl _)⟩ : _ ∧ _)); clear h2 k2)
    have yb2 : EnBx w2 (w.heap.size + 1) b' := (H2.out.2.block _ (by have := HY.out.2.2; omega)).trans HY.out.2.1
    have d0 := yb2.c 0 _ rfl
    have d1 := yb2.c 1 _ rfl
    have d2 := yb2.c 2 _ rfl
    have d3 := yb2.c 3 _ rfl
    have d4 := yb2.c 4 _ rfl
    have d5 := yb2.c 5 _ rfl
    have d6 := yb2.c 6 _ rfl
    have HL2 : Hid (Calls Try.prog 9 #[.pointer (some ⟨X, 0, none⟩), .agg (enA b')] w2 (LeaPost w2 W2.heap.size X S2 (q1, []) 2)) := by
      have := learn_any H2.out.1 (by decide) b' (by rw [HE.out.2.2.2]; exact HE.out.1) HE.out.2.2.1
      rw [HQ.out.2.1] at this
      exact this
    clear yb2 c0 c1 c2 c3 c4 c5 c6
    go_upto_region 9 with (go_at_call 9; refine Calls.mono HL2.out ?_; rintro r w3 ⟨S3, u3, rfl, h3, k3, _⟩; have H3 : Hid (LnAt w3 W2.heap.size X S3 q1 2 ∧ Below W2.heap.size W2 w3) := (show Hid _ from (⟨h3, H2.out.1.lowk k3 H2.out.2 (Nat.le_refl _)⟩ : _ ∧ _)); clear h3 k3)
    clear d0 d1 d2 d3 d4 d5 d6
    have ya3 : EnBx w3 w.heap.size a := (H3.out.2.block _ (by have := HY.out.2.2; omega)).trans HY.out.1
    have e0 := ya3.c 0 _ rfl
    have HK : Hid (Calls Try.prog 17 #[.pointer (some ⟨X, 0, none⟩), .int .i64 a.slot] w3 (KnPost w3 (a.cmd, true))) := by
      have := known_any H3.out.1 (s := a.slot) (by have := HE.out.1; unfold inI; unfold MXi at *; omega)
      rw [HQ.out.2.2] at this
      exact this
    clear ya3
    go_upto_region 10 with (go_at_call 17; refine Calls.mono HK.out ?_; rintro r w4 ⟨⟨rfl, b4⟩⟩; have B4 : Hid _ := b4; clear b4)
    obtain ⟨y4, hy4⟩ : ∃ y, y = w4.alloc (.cells (cmdA a.cmd) 28) := ⟨_, rfl⟩
    have b4 : Below w3.heap.size w3 y4 := by rw [hy4]; exact B4.out.trans (((Below.refl _ w4).alloc (Nat.le_refl _) _).mono B4.out.size)
    have b5 : Below W2.heap.size W2 y4 := bmm H3.out.2 H3.out.2.size b4
    have HY4 : Hid (w4.alloc (.cells (cmdA a.cmd) 28) = y4) := hy4.symm
    have ya5 : EnBx y4 w.heap.size a := (b5.block _ (by have := HY.out.2.2; omega)).trans HY.out.1
    have f2 := ya5.c 2 _ rfl
    have f3 := ya5.c 3 _ rfl
    have f4 := ya5.c 4 _ rfl
    have f5 := ya5.c 5 _ rfl
    have f6 := ya5.c 6 _ rfl
    have hx : y4.heap[w4.heap.size]? = some (.cells (cmdA a.cmd) 28 (0, 0)) := by rw [hy4]; exact heap_alloc_new w4 _
    have g0 : y4.cell? ⟨w4.heap.size, 0, none⟩ = some (.int .i64 a.cmd.kind) := by simp [World.cell?, hx]
    have g1 : y4.cell? ⟨w4.heap.size, 1, none⟩ = some (.int .i64 a.cmd.session) := by simp [World.cell?, hx]
    have g2 : y4.cell? ⟨w4.heap.size, 2, none⟩ = some (.int .i64 a.cmd.seq) := by simp [World.cell?, hx]
    have g3 : y4.cell? ⟨w4.heap.size, 3, none⟩ = some (.string a.cmd.name) := by simp [World.cell?, hx]
    have g4 : y4.cell? ⟨w4.heap.size, 4, none⟩ = some (.int .i64 a.cmd.n) := by simp [World.cell?, hx]
    have q := cmd_eql a.cmd a.cmd
    rw [(eqC_iff a.cmd a.cmd).2 rfl] at q
    have B5 : Hid (Below w.heap.size w y4) := bmm B2.out B2.out.size b5
    clear hy4 b4 b5 ya5 hx e0
    rw [HY4.out]
    go_wp2_with (go_at_call 21; refine (awake_any _).mono ?_; rintro r w9 ⟨rfl, b9⟩; have B9 : Hid (Below w.heap.size w w9) := bmm B5.out B5.out.size b9; clear b9)
    go_ret
    exact ⟨rfl, B9.out⟩
end Go.Proofs.Ytnoappklbipdhaa
