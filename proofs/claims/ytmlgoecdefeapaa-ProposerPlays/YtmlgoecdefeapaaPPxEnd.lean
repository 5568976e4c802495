/-
  Package proposer: the command that begins the ballot's term laid behind all that promises told of. The condition: the last slot is far from the greatest int.
-/
import Derived.Test.YtmlgoecdefeapaaPPxHear
namespace Go.Proofs.Ytmlgoecdefeapaa
open Go.RowKit

/-- The term's entry, as it is kept. -/
abbrev termX (b s : Int) : En := ⟨s, 0, ⟨1, 0, 0, ⟨#[]⟩, b⟩⟩
section
variable {w : World} {base X : Nat} {S : Nat → Prop} {n b f : Int} {is : Bool} {p : Px} {mp : Option Nat} {mb ma : Nat} {v : Value}
def endL (p : Px) : Int := if p.best = [] then p.last else p.last + 1
set_option maxHeartbeats 3200000 in
set_option maxRecDepth 100000 in
theorem xend_any (h : PxAt w base X S n b f is p mp mb ma v) (h1 : -4611686018427387904 ≤ p.last) (h2 : p.last ≤ 4611686018427387904) :
    Calls Try.prog 41 #[.pointer (some ⟨X, 0, none⟩)] w (PutPost w base X S n b f is ⟨p.who, putM p.best (endL p) (termX b (endL p)), p.vf, p.vl, endL p, p.rows, p.acc⟩ mp mb ma v) := by
  have hlen := MapOf.len mBest_is h.best
  have x4 := h.cell 4 (.map (some mb)) rfl
  have key : ∀ (y : World) (z : Int), PxAt y base X S n b f is ⟨p.who, p.best, p.vf, p.vl, z, p.rows, p.acc⟩ mp mb ma v → inI z → Calls Try.prog 35 #[.pointer (some ⟨X, 0, none⟩), .agg #[.int .i64 z, .int .i64 0, .int .i64 1, .int .i64 0, .int .i64 0, .string ⟨#[]⟩, .int .i64 b]] y (PutPost y base X S n b f is ⟨p.who, putM p.best z (termX b z), p.vf, p.vl, z, p.rows, p.acc⟩ mp mb ma v) := fun y z hy hz =>
    xput_any hy (termX b z) hz (Nat.zero_le _)
  have HK : Hid _ := key
  clear key
  by_cases hb : p.best = []
  · have e0 : (p.best.length : Int) = 0 := by rw [hb]; rfl
    have HE : Hid (endL p = p.last) := if_pos hb
    rw [e0] at hlen
    rw [HE.out]
    have x8 := h.cell 8 (.int .i64 p.last) rfl
    have x1 := h.cell 1 (.int .i64 b) rfl
    have HP : Hid _ := h
    have hpl : inI p.last := ⟨by omega, by omega⟩
    clear h hb e0
    go_enter Try.func41, Try.ntmps41
    go_wp2
    go_region_held3 (fun y => y.cell? ⟨X, 8, none⟩ = some (.int .i64 p.last) ∧ y.cell? ⟨X, 1, none⟩ = some (.int .i64 b)) (go_keep) (first | (go_at_call 35; refine Calls.mono (HK.out _ p.last HP.out.drew hpl) ?_; rintro r w7 ⟨rfl, h7, k7⟩; have g8 := h7.cell 8 (.int .i64 p.last) rfl; have g1 := h7.cell 1 (.int .i64 b) rfl; have H7 : Hid _ := h7; clear h7))
    all_goals go_wp2
    all_goals go_returns
    exact ⟨rfl, H7.out, (Kept.of (show Below w.heap.size w w.drew from undrew (Below.refl _ _))).trans k7⟩
  · obtain ⟨N, e0, hN⟩ : ∃ N : Nat, (p.best.length : Int) = (N : Int) ∧ 0 < N := ⟨p.best.length, rfl, List.length_pos_iff.2 hb⟩
    have HE : Hid (endL p = p.last + 1) := if_neg hb
    rw [e0] at hlen
    have t1 : decide ((0 : Int) < (N : Int)) = true := decide_eq_true (by omega)
    have t2 : (0 : Int) < (N : Int) := by omega
    rw [HE.out]
    have x8 := h.cell 8 (.int .i64 p.last) rfl
    have f8 := h.fz 8
    have hpl : inI (p.last + 1) := ⟨by omega, by omega⟩
    have p2 := h.setN 8 (.int .i64 (p.last + 1)) is p.vf p.vl (p.last + 1) rfl
    have k2 := h.keptX 8 (.int .i64 (p.last + 1))
    obtain ⟨W, hW⟩ : ∃ W, W = w.setCell ⟨X, 8, none⟩ (.int .i64 (p.last + 1)) := ⟨_, rfl⟩
    rw [← hW] at p2 k2
    have y8 := p2.cell 8 (.int .i64 (p.last + 1)) rfl
    have y1 := p2.cell 1 (.int .i64 b) rfl
    have HP : Hid _ := p2
    have HK2 : Hid _ := k2
    have HW : Hid (w.setCell ⟨X, 8, none⟩ (.int .i64 (p.last + 1)) = W) := hW.symm
    clear h hb e0 hW p2 k2
    go_enter Try.func41, Try.ntmps41
    go_upto_region 2 with fail
    rw [HW.out]
    go_wp2
    go_region_held3 (fun y => y.cell? ⟨X, 8, none⟩ = some (.int .i64 (p.last + 1)) ∧ y.cell? ⟨X, 1, none⟩ = some (.int .i64 b)) (go_keep) (first | (go_at_call 35; refine Calls.mono (HK.out _ (p.last + 1) HP.out.drew hpl) ?_; rintro r w7 ⟨rfl, h7, k7⟩; have g8 := h7.cell 8 (.int .i64 (p.last + 1)) rfl; have g1 := h7.cell 1 (.int .i64 b) rfl; have H7 : Hid _ := h7; clear h7))
    all_goals go_wp2
    all_goals go_returns
    exact ⟨rfl, H7.out, HK2.out.trans ((Kept.of (show Below W.heap.size W W.drew from undrew (Below.refl _ _))).trans k7)⟩
end
end Go.Proofs.Ytmlgoecdefeapaa
