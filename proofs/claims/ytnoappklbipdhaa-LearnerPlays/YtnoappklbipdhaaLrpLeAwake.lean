/-
  Chapter 17's examples. No condition.
-/
import Derived.Test.YtnoappklbipdhaaLrpLeNil
namespace Go.Proofs.Ytnoappklbipdhaa
open Go.RowKit

def awE (s : Int) : En := ⟨s, 0, Cm.zero⟩
def awQ0 : Ln := ⟨0, []⟩
def awQ1 : Ln := ⟨0, [awE 2]⟩
def awQ2 : Ln := ⟨2, [awE 2, awE 1]⟩
def awQ3 : Ln := ⟨5, []⟩
theorem aw_1 : leaL awQ0 (awE 2) = (awQ1, []) := by kernel_rfl
theorem aw_2 : leaL awQ1 (awE 1) = (awQ2, [awE 1, awE 2]) := by kernel_rfl
theorem aw_3 : leaL awQ2 (awE 1) = (awQ2, []) := by kernel_rfl
theorem aw_4 : knoL awQ2 2 = (Cm.zero, true) := by kernel_rfl
theorem aw_5 : jumL awQ2 5 = (awQ3, []) := by kernel_rfl
theorem aw_6 : knoL awQ3 2 = (Cm.zero, false) := by kernel_rfl
theorem LnAt.lowk {w0 w w' : World} {base X : Nat} {S S' : Nat → Prop} {p : Ln} {n : Nat} (h : LnAt w base X S p n) (k : Kept w w' S S') (B : Below base w0 w) (hb : base ≤ w0.heap.size) : Below base w0 w' :=
  B.trans (k.low (Nat.le_trans hb B.size) (fun g hg => (h.bd g hg).1))
/-- What was answered is there behind a call. -/
theorem AnsE.later {w0 w w' : World} {S S2 S' : Nat → Prop} {u : Value} {xs : List En} (h : AnsE w0 w S2 u xs) (k : Kept w w' S S') (hS : ∀ g, S g → S2 g) : AnsE w0 w' (fun g => S' g ∨ S2 g) u xs := by
  refine ⟨h.row.keep k.size fun bk off n cap h0 e => k.kept bk (h.row.lt h0 e) (fun hs => (h.new bk off n cap h0 e).2 (hS bk hs)), fun bk off n c h0 e => ⟨(h.new bk off n c h0 e).1, fun hs => ?_⟩⟩
  rcases hs with hs | hs
  · rcases k.old bk hs with h1 | h1
    · exact (h.new bk off n c h0 e).2 (hS bk h1)
    · have := h.row.lt h0 e
      omega
  · exact (h.new bk off n c h0 e).2 hs
theorem AnsE.less {w0 w : World} {S S2 : Nat → Prop} {u : Value} {xs : List En} (h : AnsE w0 w S2 u xs) (hS : ∀ g, S g → S2 g) : AnsE w0 w S u xs :=
  ⟨h.row, fun bk off n c h0 e => ⟨(h.new bk off n c h0 e).1, fun hs => (h.new bk off n c h0 e).2 (hS bk hs)⟩⟩
theorem AnsE.next {w0 w w' : World} {S S' : Nat → Prop} {u : Value} {xs : List En} (h : AnsE w0 w S u xs) (k : Kept w w' S S') : AnsE w0 w' S' u xs := (h.later k (fun _ h => h)).less (fun _ h => Or.inl h)
theorem AnsE.fresh {w0 w w' : World} {S : Nat → Prop} {u : Value} {xs : List En} (h : AnsE w0 w S u xs) (b : Below w.heap.size w w') : AnsE w0 w' S u xs := ⟨h.row.fresh b, h.new⟩
set_option maxHeartbeats 4000000 in
set_option maxRecDepth 100000 in
theorem awake_any (w : World) : Calls Try.prog 21 #[] w fun e w' => e = .returned (.bool true) ∧ Below w.heap.size w w' := by
  have HL : Hid (∀ y X S q q2 xs s (n : Nat), LnAt y w.heap.size X S q n → n < 536870912 → leaL q (awE s) = (q2, xs) → (-9223372036854775808 ≤ s ∧ s ≤ MXi) → Calls Try.prog 9 #[.pointer (some ⟨X, 0, none⟩), .agg #[.int .i64 s, .int .i64 0, .int .i64 0, .int .i64 0, .int .i64 0, .string ⟨#[]⟩, .int .i64 0]] y (LeaPost y w.heap.size X S (q2, xs) (n + 1))) := fun y X S q q2 xs s n h hn hq hs => by
    have := learn_any h hn (awE s) hs (show (0 : Nat) ≤ _ by omega)
    rw [hq] at this
    exact this
  have HK : Hid (∀ y X S q r s (n : Nat), LnAt y w.heap.size X S q n → knoL q s = r → inI s → Calls Try.prog 17 #[.pointer (some ⟨X, 0, none⟩), .int .i64 s] y (KnPost y r)) := fun y X S q r s n h hq hs => by
    have := known_any h hs
    rw [hq] at this
    exact this
  have hN : Calls Try.prog 7 #[.int .i64 0] w (NewL w 0) := new_learner w 0 (by decide)
  go_enter Try.func21, Try.ntmps21
  go_upto_region 4 with (go_at_call 7; refine hN.mono ?_; rintro r w1 ⟨X, S1, rfl, h1, b1⟩; have H1 : Hid (LnAt w1 w.heap.size X S1 awQ0 0) := h1; have B1 : Hid (Below w.heap.size w w1) := b1; clear h1 b1)
  go_upto_region 5 with (go_at_call 9; refine Calls.mono (HL.out _ _ _ _ _ _ _ _ H1.out (by decide) aw_1 (by decide)) ?_; rintro r w2 ⟨S2, u2, rfl, h2, k2, a2⟩; obtain ⟨p2, c2, rfl⟩ := a2.row.form; have H2 : Hid (LnAt w2 w.heap.size X S2 awQ1 1) := h2; have B2 : Hid (Below w.heap.size w w2) := H1.out.lowk k2 B1.out (Nat.le_refl _); clear h2 k2 a2)
  go_upto_region 6 with (go_at_call 9; refine Calls.mono (HL.out _ _ _ _ _ _ _ _ H2.out (by decide) aw_2 (by decide)) ?_; rintro r w3 ⟨S3, u3, rfl, h3, k3, a3⟩; obtain ⟨p3, c3, rfl⟩ := a3.row.form; have H3 : Hid (LnAt w3 w.heap.size X S3 awQ2 2) := h3; have B3 : Hid (Below w.heap.size w w3) := H2.out.lowk k3 B2.out (Nat.le_refl _); have A3 : Hid _ := a3; clear h3 k3 a3)
  go_upto_region 7 with (go_at_call 9; refine Calls.mono (HL.out _ _ _ _ _ _ _ _ H3.out (by decide) aw_3 (by decide)) ?_; rintro r w4 ⟨S4, u4, rfl, h4, k4, a4⟩; obtain ⟨p4, c4, rfl⟩ := a4.row.form; have H4 : Hid (LnAt w4 w.heap.size X S4 awQ2 3) := h4; have B4 : Hid (Below w.heap.size w w4) := H3.out.lowk k4 B3.out (Nat.le_refl _); have A4 : Hid (AnsE w2 w4 S4 (.slice p3 [awE 1, awE 2].length c3) [awE 1, awE 2]) := A3.out.next k4; clear h4 k4 a4 A3)
  have hC : Hid (∀ (y : World) (c : Cm), Below y.heap.size y (y.alloc (.cells (cmdA c) 28))) := fun y c => (Below.refl _ y).alloc (Nat.le_refl _) _
  go_upto_region 8 with (go_at_call 17; refine Calls.mono (HK.out _ _ _ _ _ _ _ H4.out aw_4 ⟨by decide, by decide⟩) ?_; rintro r w5 ⟨⟨rfl, b5⟩⟩; have B5' : Hid _ := b5; clear b5)
  obtain ⟨y5, hy5⟩ : ∃ y, y = w5.alloc (.cells (cmdA Cm.zero) 28) := ⟨_, rfl⟩
  have b5 : Below w4.heap.size w4 y5 := by rw [hy5]; exact B5'.out.trans ((hC.out w5 Cm.zero).mono B5'.out.size)
  have HY5 : Hid (w5.alloc (.cells (cmdA Cm.zero) 28) = y5) := hy5.symm
  have H5 : Hid (LnAt y5 w.heap.size X S4 awQ2 3) := H4.out.fresh b5
  have B5 : Hid (Below w.heap.size w y5) := bmm B4.out B4.out.size b5
  have A5 : Hid (AnsE w2 y5 S4 (.slice p3 [awE 1, awE 2].length c3) [awE 1, awE 2]) := A4.out.fresh b5
  clear hy5 b5 A4 H4 B5'
  have HJ : Hid (Calls Try.prog 11 #[.pointer (some ⟨X, 0, none⟩), .int .i64 5] y5 (LeaPost y5 w.heap.size X S4 (awQ3, []) 3)) := by
    have := jump_any H5.out (by decide) (b := 5) (by decide)
    rw [aw_5] at this
    exact this
  rw [HY5.out]
  go_upto_region 9 with (go_at_call 11; refine Calls.mono HJ.out ?_; rintro r w6 ⟨S6, u6, rfl, h6, k6, a6⟩; have H6 : Hid (LnAt w6 w.heap.size X S6 awQ3 3) := h6; have B6 : Hid (Below w.heap.size w w6) := H5.out.lowk k6 B5.out (Nat.le_refl _); have A6 : Hid (AnsE w2 w6 S6 (.slice p3 [awE 1, awE 2].length c3) [awE 1, awE 2]) := A5.out.next k6; clear h6 k6 a6)
  clear HY5 HJ A5 H5
  go_upto_region 10 with (go_at_call 17; refine Calls.mono (HK.out _ _ _ _ _ _ _ H6.out aw_6 ⟨by decide, by decide⟩) ?_; rintro r w7 ⟨⟨rfl, b7⟩⟩; have B7' : Hid _ := b7; clear b7)
  obtain ⟨y7, hy7⟩ : ∃ y, y = w7.alloc (.cells (cmdA Cm.zero) 28) := ⟨_, rfl⟩
  have b7 : Below w6.heap.size w6 y7 := by rw [hy7]; exact B7'.out.trans ((hC.out w7 Cm.zero).mono B7'.out.size)
  have HY7 : Hid (w7.alloc (.cells (cmdA Cm.zero) 28) = y7) := hy7.symm
  have HA : Hid _ := applied_any (H6.out.fresh b7)
  have B7 : Hid (Below w.heap.size w y7) := bmm B6.out B6.out.size b7
  obtain ⟨bk, off, cap, eu, _, _, hc⟩ := (A6.out.fresh b7).row.cells enC_len (by decide)
  have e1 : (⟨p3, 2, c3⟩ : Option Addr × Nat × Nat) = ⟨some ⟨bk, off, none⟩, 2, cap⟩ := by
    have eu' : Value.slice p3 2 c3 = .slice (some ⟨bk, off, none⟩) 2 cap := eu
    injection eu' with q1 q2 q3
    rw [q1, q3]
  simp only [Prod.mk.injEq, true_and] at e1
  obtain ⟨rfl, rfl⟩ := e1
  have z1 : y7.cell? ⟨bk, off + 7, none⟩ = some (.int .i64 2) := by simpa using hc 1 (by decide) 0 (.int .i64 2) (by decide) rfl
  clear hy7 b7 A6 H6 B7' eu hc
  rw [HY7.out]
  go_wp2_with (go_at_call 20; refine Calls.mono HA.out ?_; rintro r w9 ⟨rfl, hw9⟩; rw [hw9]; clear hw9)
  go_ret
  exact ⟨rfl, B7.out⟩
end Go.Proofs.Ytnoappklbipdhaa
