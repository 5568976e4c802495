/-
  LgroupAlone of layer 9, walked: a once is run by just one, the first that came. The condition: the numbers lie in memory as their reading says.
-/
import Derived.Test.YtcjmohfglggonaaLgOnces
namespace Go.Proofs.Ytcjmohfglggonaa
open Go.RowKit

set_option maxHeartbeats 6400000 in
set_option maxRecDepth 100000 in
theorem alone_walk (w : World) (v : Value) (xs : List Int) (hv : RowAt intC w v xs) (hlo : ∀ x ∈ xs, okI x) (hmx : xs.length ≤ 9223372036854775807) :
    Calls Try.prog 6 #[v] w fun e w' => e = .returned (.bool true) ∧ Below w.heap.size w w' := by
  have hn := po_new w
  obtain ⟨a, cap, rfl⟩ := hv.form
  obtain ⟨B, hB⟩ : ∃ B, B = w.heap.size := ⟨_, rfl⟩
  have HBE : Hid (B = w.heap.size) := hB
  rw [← hB] at hn ⊢
  have HA : Hid _ := hv
  have HLO : Hid _ := hlo
  clear hv hlo hB
  go_enter Try.func6, Try.ntmps6
  go_wp2_with (go_at_call 17; refine hn.mono ?_; rintro e w1 ⟨Dx, Sx, rfl, k1, b1⟩)
  have HST : Hid _ := k1
  have HST2 : Hid _ := b1
  clear k1 b1 hn
  go_loopw [4, 5, 6, 7, 8] (fun f i _ _ _ wr => ∃ (k : Nat) (who : Int) (m : List Int) (Sx : Nat → Prop), k ≤ xs.length ∧ k ≤ 200 ∧ i = .int .i64 k ∧ f = .int .i64 who ∧ POn wr B Dx Sx who false m ∧ (who < 0 → who = -1 ∧ m = []) ∧ okI who ∧ m.length ≤ k ∧ Below B w wr) (fun _ i _ _ _ _ => xs.length - (RowKit.intOf i).toNat)
  case atStart => exact ⟨0, -1, [], _, Nat.zero_le _, Nat.zero_le _, rfl, rfl, HST.out, fun _ => ⟨rfl, rfl⟩, okS (by decide), Nat.le_refl _, HST2.out⟩
  case round =>
    clear HST HST2
    obtain ⟨k, who, m, Sx, hk, hk2, rfl, rfl, hM, hwo, hwk, hmk, bel⟩ := hrel
    have hBw : B ≤ wr.heap.size := hM.base_le
    have HM : Hid (POn wr B Dx Sx who false m) := hM
    have fin : who < 0 ∨ 0 ≤ who := by omega
    by_cases hgo : k < xs.length ∧ k < 200
    · obtain ⟨hkl, hkm⟩ := hgo
      have q0 : decide ((k : Int) < (xs.length : Int)) = true := decide_eq_true (by omega)
      have q1 : decide ((k : Int) < (200 : Int)) = true := decide_eq_true (by omega)
      obtain ⟨bk, off, cp, e, _, hbk, hx⟩ := HA.out.cells intC_len (by omega)
      simp only [Value.slice.injEq] at e
      obtain ⟨rfl, _, rfl⟩ := e
      rw [← HBE.out] at hbk
      have z0' := (bel.cell (p := ⟨bk, off + k * 1, none⟩) (by exact hbk)).trans (hx k hkl 0 _ (by decide) rfl)
      rw [Nat.mul_one] at z0'
      have z0 : wr.cell? ⟨bk, off + k, none⟩ = some (.int .i64 xs[k]) := z0'
      have hok := HLO.out _ (List.getElem_mem hkl)
      clear hx z0'
      generalize xs[k] = x at *
      by_cases hx0 : x < 0
      · have q2 : decide (x < 0) = true := decide_eq_true hx0
        have q3 : decide (0 ≤ x) = false := decide_eq_false (by omega)
        have e1 : oDZ who m x = 1 := by unfold oDZ; rw [if_pos hx0]
        have e2 : oDR who false m x = false := by unfold oDR; rw [e1]; rfl
        have e3 : oDW who false m x = false := by unfold oDW; rw [e1]; rfl
        have hd : Calls Try.prog 21 #[.pointer (some ⟨Dx, 0, none⟩), .int .i64 x] wr fun e w' => e = .returned (.tuple #[.bool false, .bool false, .int .i64 1]) ∧ ∃ S', POn w' B Dx S' who false m ∧ Below B wr w' := (po_do hM x hok (by omega)).mono fun e w' ⟨h1, S', g1, g2⟩ => ⟨by rw [h1, e1, e2, e3], S', by unfold oDH oDL at g1; rw [e2, e3] at g1; exact g1, hM.below g2⟩
        have HWO : Hid _ := hwo
        clear hM hwo e1 e2 e3 hx0
        rcases fin with h4 | h4
        · have q4 : decide (who < 0) = true := decide_eq_true h4
          clear h4
          go_wp2_with (go_at_call 21; refine hd.mono ?_; rintro e w2 ⟨rfl, Sx2, k2, b2⟩; have x0 := (b2.cell (p := ⟨bk, off + k, none⟩) (by exact hbk)).trans z0)
          go_roundw
          case rel => exact ⟨k + 1, who, m, _, hkl, by omega, by go_num, rfl, k2, HWO.out, hwk, by omega, bel.trans b2⟩
          case measure => simp [RowKit.intOf]; omega
        · have q4 : decide (who < 0) = false := decide_eq_false (by omega)
          clear h4
          go_wp2_with (go_at_call 21; refine hd.mono ?_; rintro e w2 ⟨rfl, Sx2, k2, b2⟩; have x0 := (b2.cell (p := ⟨bk, off + k, none⟩) (by exact hbk)).trans z0)
          go_roundw
          case rel => exact ⟨k + 1, who, m, _, hkl, by omega, by go_num, rfl, k2, HWO.out, hwk, by omega, bel.trans b2⟩
          case measure => simp [RowKit.intOf]; omega
      · have q2 : decide (x < 0) = false := decide_eq_false hx0
        have q3 : decide (0 ≤ x) = true := decide_eq_true (by omega)
        rcases fin with h4 | h4
        · obtain ⟨rfl, rfl⟩ := hwo h4
          have e1 : oDZ (-1) [] x = 0 := by unfold oDZ; rw [if_neg hx0, if_neg (by simp; omega)]
          have e2 : oDR (-1) false [] x = true := by unfold oDR; rw [e1]; rfl
          have e3 : oDW (-1) false [] x = false := by unfold oDW; rw [e1]; rfl
          have hd : Calls Try.prog 21 #[.pointer (some ⟨Dx, 0, none⟩), .int .i64 x] wr fun e w' => e = .returned (.tuple #[.bool true, .bool false, .int .i64 0]) ∧ ∃ S', POn w' B Dx S' x false [] ∧ Below B wr w' := (po_do hM x hok (by simp)).mono fun e w' ⟨h1, S', g1, g2⟩ => ⟨by rw [h1, e1, e2, e3], S', by unfold oDH oDL at g1; rw [e2, e3] at g1; exact g1, hM.below g2⟩
          clear hM hwo e1 e2 e3
          go_wp2_with (go_at_call 21; refine hd.mono ?_; rintro e w2 ⟨rfl, Sx2, k2, b2⟩; have x0 := (b2.cell (p := ⟨bk, off + k, none⟩) (by exact hbk)).trans z0)
          go_roundw
          case rel => exact ⟨k + 1, x, [], _, hkl, by omega, by go_num, rfl, k2, fun h => absurd h (by omega), hok, by simp, bel.trans b2⟩
          case measure => simp [RowKit.intOf]; omega
        · have q4 : decide (who < 0) = false := decide_eq_false (by omega)
          have e2 : oDR who false m x = false := by unfold oDR; exact decide_eq_false (fun e => absurd e.2.2 (by omega))
          have e4 : oDH who false m x = who := by unfold oDH; rw [e2]; rfl
          have hle := oDL_le who false m x
          have hd : Calls Try.prog 21 #[.pointer (some ⟨Dx, 0, none⟩), .int .i64 x] wr fun e w' => (∃ b z, e = .returned (.tuple #[.bool false, .bool b, .int .i64 z])) ∧ ∃ S', POn w' B Dx S' who false (oDL who false m x) ∧ Below B wr w' := (po_do hM x hok (by omega)).mono fun e w' ⟨h1, S', g1, g2⟩ => ⟨⟨oDW who false m x, oDZ who m x, by rw [h1, e2]⟩, S', by rw [e4] at g1; exact g1, hM.below g2⟩
          generalize oDL who false m x = m1 at hd hle
          have HW4 : Hid _ := h4
          clear hM hwo e2 e4 h4
          go_wp2_with (go_at_call 21; refine hd.mono ?_; rintro e w2 ⟨⟨bb, zz, rfl⟩, Sx2, k2, b2⟩; have x0 := (b2.cell (p := ⟨bk, off + k, none⟩) (by exact hbk)).trans z0)
          go_roundw
          case rel => exact ⟨k + 1, who, m1, _, hkl, by omega, by go_num, rfl, k2, fun h => absurd h (by have := HW4.out; omega), hwk, by omega, bel.trans b2⟩
          case measure => simp [RowKit.intOf]; omega
    · have hq : (k < xs.length ∧ k = 200 ∧ decide ((k : Int) < (xs.length : Int)) = true ∧ decide ((k : Int) < (200 : Int)) = false) ∨ (¬ k < xs.length ∧ decide ((k : Int) < (xs.length : Int)) = false) := by
        by_cases h5 : k < xs.length
        · exact Or.inl ⟨h5, by omega, decide_eq_true (by omega), decide_eq_false (by omega)⟩
        · exact Or.inr ⟨h5, decide_eq_false (by omega)⟩
      rcases fin with h4 | h4
      · have q4 : decide (who < 0) = true := decide_eq_true h4
        clear hM hwo h4 hgo
        rcases hq with ⟨hkl, hke, q0, q1⟩ | ⟨hkl, q0⟩
        · go_wp2_with (go_at_call 16; refine (awake9_any _).mono ?_; rintro e w9 ⟨rfl, b9⟩)
          go_ret
          exact ⟨rfl, bmm bel hBw b9⟩
        · go_wp2_with (go_at_call 16; refine (awake9_any _).mono ?_; rintro e w9 ⟨rfl, b9⟩)
          go_ret
          exact ⟨rfl, bmm bel hBw b9⟩
      · have q4 : decide (who < 0) = false := decide_eq_false (by omega)
        have hc : ¬ (who < 0 ∨ ¬ who = who) := fun e => e.elim (fun h => by omega) (fun h => h rfl)
        have he : Calls Try.prog 19 #[.pointer (some ⟨Dx, 0, none⟩), .int .i64 who] wr fun e w' => (∃ u, e = .returned (.tuple #[u, .int .i64 0])) ∧ ∃ S', POn w' B Dx S' (-1) true [] ∧ Below B wr w' := (po_done hM who hwk (by omega)).mono fun e w' ⟨u, h1, _, S', g1, g2, _⟩ => ⟨⟨u, by rw [h1]; unfold oEZ; rw [if_neg hc]⟩, S', by unfold oEH oEV oEL at g1; rw [if_neg hc, if_neg hc, if_neg hc] at g1; exact g1, hM.below g2⟩
        have hd : ∀ (w2 : World) (S2 : Nat → Prop), POn w2 B Dx S2 (-1) true [] → Calls Try.prog 21 #[.pointer (some ⟨Dx, 0, none⟩), .int .i64 who] w2 fun e w' => e = .returned (.tuple #[.bool false, .bool false, .int .i64 0]) ∧ B ≤ w'.heap.size ∧ Below B w2 w' := fun w2 S2 k2 => (po_do k2 who hwk (by simp)).mono fun e w' ⟨h1, S', g1, g2⟩ => by
          have e1 : oDZ (-1) [] who = 0 := by unfold oDZ; rw [if_neg (by omega), if_neg (by simp; omega)]
          have e2 : oDR (-1) true [] who = false := by unfold oDR; rw [e1]; rfl
          have e3 : oDW (-1) true [] who = false := by unfold oDW; rw [e1]; rfl
          exact ⟨by rw [h1, e1, e2, e3], g1.base_le, k2.below g2⟩
        have HD : Hid _ := hd
        clear hM hwo h4 hgo hc hd
        rcases hq with ⟨hkl, hke, q0, q1⟩ | ⟨hkl, q0⟩
        · go_wp2_with (first
            | (go_at_call 16; refine (awake9_any _).mono ?_; rintro e w9 ⟨rfl, b9⟩)
            | (go_at_call 21; refine (HD.out _ _ k2).mono ?_; rintro e w3 ⟨rfl, hb3, b3⟩)
            | (go_at_call 19; refine he.mono ?_; rintro e w2 ⟨⟨uu, rfl⟩, Sx2, k2, b2⟩))
          go_ret
          exact ⟨rfl, bmm ((bel.trans b2).trans b3) hb3 b9⟩
        · go_wp2_with (first
            | (go_at_call 16; refine (awake9_any _).mono ?_; rintro e w9 ⟨rfl, b9⟩)
            | (go_at_call 21; refine (HD.out _ _ k2).mono ?_; rintro e w3 ⟨rfl, hb3, b3⟩)
            | (go_at_call 19; refine he.mono ?_; rintro e w2 ⟨⟨uu, rfl⟩, Sx2, k2, b2⟩))
          go_ret
          exact ⟨rfl, bmm ((bel.trans b2).trans b3) hb3 b9⟩
end Go.Proofs.Ytcjmohfglggonaa
