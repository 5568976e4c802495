/-
  LgroupZero of layer 9, walked: nobody waits at 0; the count is the sum of what was added. The condition: the deeds lie in memory as their reading says.
-/
import Derived.Test.YtcjmohfglggonaaLgPlays
namespace Go.Proofs.Ytcjmohfglggonaa
open Go.RowKit

theorem gWL_zero {n : Int} {l : List Int} (t : Int) (h : n = 0 → l = []) : n = 0 → gWL n l t = [] := fun e => by
  unfold gWL
  rw [if_neg (fun h2 => h2.2 e)]
  exact h e
theorem gAL_zero {n : Int} {l : List Int} (k : Int) (h : n = 0 → l = []) : gAN n k = 0 → gAL n l k = [] := fun e => by
  unfold gAN at e
  unfold gAL
  by_cases hz : gAZ n k = 0
  · rw [if_pos hz] at e
    rw [if_pos ⟨hz, e⟩]
  · rw [if_neg hz] at e
    rw [if_neg (fun h2 => hz h2.1)]
    exact h e
set_option maxHeartbeats 6400000 in
set_option maxRecDepth 100000 in
theorem zero_walk (w : World) (v : Value) (ds : List Dd) (hv : RowAt ddC w v ds) (hlo : ∀ x ∈ ds, okI x.1 ∧ okI x.2.1) (hmx : ds.length ≤ 9223372036854775807) :
    Calls Try.prog 5 #[v] w fun e w' => e = .returned (.bool true) ∧ Below w.heap.size w w' := by
  have hn := pg_new w
  obtain ⟨a, cap, rfl⟩ := hv.form
  obtain ⟨B, hB⟩ : ∃ B, B = w.heap.size := ⟨_, rfl⟩
  have HBE : Hid (B = w.heap.size) := hB
  rw [← hB] at hn ⊢
  have HA : Hid _ := hv
  have HLO : Hid _ := hlo
  clear hv hlo hB
  go_enter Try.func5, Try.ntmps5
  go_wp2_with (go_at_call 8; refine hn.mono ?_; rintro e w1 ⟨Dx, Sx, rfl, k1, b1⟩)
  have HST : Hid _ := k1
  have HST2 : Hid _ := b1
  clear k1 b1 hn
  go_loopw [4, 5, 6, 7] (fun s i _ _ wr => ∃ (k : Nat) (n : Int) (l : List Int) (Sx : Nat → Prop), k ≤ ds.length ∧ k ≤ 300 ∧ i = .int .i64 k ∧ s = .int .i64 n ∧ PGr wr B Dx Sx n l ∧ (0 ≤ n ∧ n ≤ 1073741824) ∧ (n = 0 → l = []) ∧ l.length ≤ k ∧ Below B w wr) (fun _ i _ _ _ => ds.length - (RowKit.intOf i).toNat)
  case atStart => exact ⟨0, 0, [], _, Nat.zero_le _, Nat.zero_le _, rfl, rfl, HST.out, by decide, fun _ => rfl, Nat.le_refl _, HST2.out⟩
  case round =>
    clear HST HST2
    obtain ⟨k, n, l, Sx, hk, hk2, rfl, rfl, hM, hnb, hze, hlk, bel⟩ := hrel
    have hBw : B ≤ wr.heap.size := hM.base_le
    by_cases hkl : k < ds.length
    · by_cases hkm : k < 300
      · have q0 : decide ((k : Int) < (ds.length : Int)) = true := decide_eq_true (by omega)
        have q1 : decide ((k : Int) < (300 : Int)) = true := decide_eq_true (by omega)
        obtain ⟨bk, off, cp, e, _, hbk, hx⟩ := HA.out.cells ddC_len (by omega)
        simp only [Value.slice.injEq] at e
        obtain ⟨rfl, _, rfl⟩ := e
        rw [← HBE.out] at hbk
        have z0 := (bel.cell (p := ⟨bk, off + k * 3, none⟩) (by exact hbk)).trans (hx k hkl 0 _ (by decide) rfl)
        have z1 := (bel.cell (p := ⟨bk, off + k * 3 + 1, none⟩) (by exact hbk)).trans (hx k hkl 1 _ (by decide) rfl)
        have z2 := (bel.cell (p := ⟨bk, off + k * 3 + 2, none⟩) (by exact hbk)).trans (hx k hkl 2 _ (by decide) rfl)
        have hok := HLO.out _ (List.getElem_mem hkl)
        clear hx
        generalize ds[k] = D at *
        obtain ⟨t, kn, sc⟩ := D
        simp only at z0 z1 z2 hok
        obtain ⟨hok, hok2⟩ := hok
        have HM : Hid (PGr wr B Dx Sx n l) := hM
        cases sc with
        | true =>
          have hw : Calls Try.prog 9 #[.pointer (some ⟨Dx, 0, none⟩), .int .i64 t] wr fun e w' => (∃ b z, e = .returned (.tuple #[.bool b, .int .i64 z])) ∧ ∃ S', PGr w' B Dx S' n (gWL n l t) ∧ Below B wr w' := (pg_wait hM t hok (by omega)).mono fun e w' ⟨e1, S', g1, g2⟩ => ⟨⟨_, _, e1⟩, S', g1, hM.below g2⟩
          have HZ : Hid _ := gWL_zero t hze
          have hle := gWL_le n l t
          have HN1 : Hid _ := hnb
          generalize gWL n l t = l1 at hw HZ hle
          clear hM hze
          by_cases hz : n = 0
          · have q5 : (n == 0) = true := beq_iff_eq.2 hz
            have q3 : decide (n < 0) = false := decide_eq_false (by have := HN1.out; omega)
            have q4 : decide (1073741824 < n) = false := decide_eq_false (by have := HN1.out; omega)
            have hl1 := HZ.out hz
            subst hl1
            clear hz HZ hnb
            go_wp2_with (first
              | (go_at_call 15; refine (pg_queue k2).mono ?_; rintro e w3 ⟨u3, rfl, r3, b3⟩; obtain ⟨a3, c3, rfl⟩ := r3.none0)
              | (go_at_call 14; refine (pg_count k2).mono ?_; rintro e w3 ⟨rfl, rfl⟩)
              | (go_at_call 9; refine hw.mono ?_; rintro e w2 ⟨⟨bb, zz, rfl⟩, Sx2, k2, b2⟩))
            go_roundw
            case rel => exact ⟨k + 1, n, _, _, hkl, by omega, by go_num, rfl, k2.fresh b3, HN1.out, fun _ => rfl, by simp, bmm (bel.trans b2) k2.base_le b3⟩
            case measure => simp [RowKit.intOf]; omega
          · have q5 : (n == 0) = false := beq_eq_false_iff_ne.2 hz
            have q3 : decide (n < 0) = false := decide_eq_false (by have := HN1.out; omega)
            have q4 : decide (1073741824 < n) = false := decide_eq_false (by have := HN1.out; omega)
            have HZ2 : Hid (n = 0 → l1 = []) := HZ
            clear hz HZ hnb
            go_wp2_with (first
              | (go_at_call 15; refine (pg_queue k2).mono ?_; rintro e w3 ⟨u3, rfl, r3, b3⟩; obtain ⟨a3, c3, rfl⟩ := r3.none0)
              | (go_at_call 14; refine (pg_count k2).mono ?_; rintro e w3 ⟨rfl, rfl⟩)
              | (go_at_call 9; refine hw.mono ?_; rintro e w2 ⟨⟨bb, zz, rfl⟩, Sx2, k2, b2⟩))
            go_roundw
            case rel => exact ⟨k + 1, n, _, _, hkl, by omega, by go_num, rfl, k2, HN1.out, HZ2.out, by omega, bel.trans b2⟩
            case measure => simp [RowKit.intOf]; omega
        | false =>
          have HZ0 : Hid _ := gAL_zero kn hze
          have hle := gAL_le n l kn
          have HN0 : Hid _ := gAN_ok kn hnb
          by_cases hZ : gAZ n kn = 0
          · have e3 : gAN n kn = n + kn := by unfold gAN; rw [if_pos hZ]
            have hw : Calls Try.prog 11 #[.pointer (some ⟨Dx, 0, none⟩), .int .i64 kn] wr fun e w' => (∃ u, e = .returned (.tuple #[u, .int .i64 0])) ∧ ∃ S', PGr w' B Dx S' (n + kn) (gAL n l kn) ∧ Below B wr w' := (pg_add hM kn hok2 hnb (by omega)).mono fun e w' ⟨u, e1, _, S', g1, g2, _⟩ => ⟨⟨u, by rw [e1, hZ]⟩, S', by rw [← e3]; exact g1, hM.below g2⟩
            have HN1 : Hid (0 ≤ n + kn ∧ n + kn ≤ 1073741824) := by
              have := HN0.out
              rw [e3] at this
              exact this
            have HZ : Hid (n + kn = 0 → gAL n l kn = []) := fun e => HZ0.out (by rw [e3]; exact e)
            have q6 : IntKind.i64.wrap (n + kn) = n + kn := by
              have := HN1.out
              rw [IntKind.wrap_i64]
              omega
            generalize gAL n l kn = l1 at hw HZ hle
            clear hM hze HZ0 HN0 hZ e3
            by_cases hz : n + kn = 0
            · have q5 : (n + kn == 0) = true := beq_iff_eq.2 hz
              have q3 : decide (n + kn < 0) = false := decide_eq_false (by have := HN1.out; omega)
              have q4 : decide (1073741824 < n + kn) = false := decide_eq_false (by have := HN1.out; omega)
              have hl1 := HZ.out hz
              subst hl1
              clear hz HZ hnb
              go_wp2_with (first
                | (go_at_call 15; refine (pg_queue k2).mono ?_; rintro e w3 ⟨u3, rfl, r3, b3⟩; obtain ⟨a3, c3, rfl⟩ := r3.none0)
                | (go_at_call 14; refine (pg_count k2).mono ?_; rintro e w3 ⟨rfl, rfl⟩)
                | (go_at_call 11; refine hw.mono ?_; rintro e w2 ⟨⟨uu, rfl⟩, Sx2, k2, b2⟩; have x1 := (b2.cell (p := ⟨bk, off + k * 3 + 1, none⟩) (by exact hbk)).trans z1))
              go_roundw
              case rel => exact ⟨k + 1, n + kn, _, _, hkl, by omega, by go_num, rfl, k2.fresh b3, HN1.out, fun _ => rfl, by simp, bmm (bel.trans b2) k2.base_le b3⟩
              case measure => simp [RowKit.intOf]; omega
            · have q5 : (n + kn == 0) = false := beq_eq_false_iff_ne.2 hz
              have q3 : decide (n + kn < 0) = false := decide_eq_false (by have := HN1.out; omega)
              have q4 : decide (1073741824 < n + kn) = false := decide_eq_false (by have := HN1.out; omega)
              have HZ2 : Hid (n + kn = 0 → l1 = []) := HZ
              clear hz HZ hnb
              go_wp2_with (first
                | (go_at_call 15; refine (pg_queue k2).mono ?_; rintro e w3 ⟨u3, rfl, r3, b3⟩; obtain ⟨a3, c3, rfl⟩ := r3.none0)
                | (go_at_call 14; refine (pg_count k2).mono ?_; rintro e w3 ⟨rfl, rfl⟩)
                | (go_at_call 11; refine hw.mono ?_; rintro e w2 ⟨⟨uu, rfl⟩, Sx2, k2, b2⟩; have x1 := (b2.cell (p := ⟨bk, off + k * 3 + 1, none⟩) (by exact hbk)).trans z1))
              go_roundw
              case rel => exact ⟨k + 1, n + kn, _, _, hkl, by omega, by go_num, rfl, k2, HN1.out, HZ2.out, by omega, bel.trans b2⟩
              case measure => simp [RowKit.intOf]; omega
          · have e3 : gAN n kn = n := by unfold gAN; rw [if_neg hZ]
            obtain ⟨z9, hz9⟩ : ∃ z9, z9 = gAZ n kn := ⟨_, rfl⟩
            have hw : Calls Try.prog 11 #[.pointer (some ⟨Dx, 0, none⟩), .int .i64 kn] wr fun e w' => (∃ u, e = .returned (.tuple #[u, .int .i64 z9])) ∧ ∃ S', PGr w' B Dx S' n (gAL n l kn) ∧ Below B wr w' := (pg_add hM kn hok2 hnb (by omega)).mono fun e w' ⟨u, e1, _, S', g1, g2, _⟩ => ⟨⟨u, by rw [e1, hz9]⟩, S', by rw [e3] at g1; exact g1, hM.below g2⟩
            have q7 : (z9 == 0) = false := beq_eq_false_iff_ne.2 (by rw [hz9]; exact hZ)
            have HN1 : Hid _ := hnb
            have HZ : Hid (n = 0 → gAL n l kn = []) := fun e => HZ0.out (by rw [e3]; exact e)
            generalize gAL n l kn = l1 at hw HZ hle
            clear hM hze HZ0 HN0 hZ e3 hz9
            by_cases hz : n = 0
            · have q5 : (n == 0) = true := beq_iff_eq.2 hz
              have q3 : decide (n < 0) = false := decide_eq_false (by have := HN1.out; omega)
              have q4 : decide (1073741824 < n) = false := decide_eq_false (by have := HN1.out; omega)
              have hl1 := HZ.out hz
              subst hl1
              clear hz HZ hnb
              go_wp2_with (first
                | (go_at_call 15; refine (pg_queue k2).mono ?_; rintro e w3 ⟨u3, rfl, r3, b3⟩; obtain ⟨a3, c3, rfl⟩ := r3.none0)
                | (go_at_call 14; refine (pg_count k2).mono ?_; rintro e w3 ⟨rfl, rfl⟩)
                | (go_at_call 11; refine hw.mono ?_; rintro e w2 ⟨⟨uu, rfl⟩, Sx2, k2, b2⟩))
              go_roundw
              case rel => exact ⟨k + 1, n, _, _, hkl, by omega, by go_num, rfl, k2.fresh b3, HN1.out, fun _ => rfl, by simp, bmm (bel.trans b2) k2.base_le b3⟩
              case measure => simp [RowKit.intOf]; omega
            · have q5 : (n == 0) = false := beq_eq_false_iff_ne.2 hz
              have q3 : decide (n < 0) = false := decide_eq_false (by have := HN1.out; omega)
              have q4 : decide (1073741824 < n) = false := decide_eq_false (by have := HN1.out; omega)
              have HZ2 : Hid (n = 0 → l1 = []) := HZ
              clear hz HZ hnb
              go_wp2_with (first
                | (go_at_call 15; refine (pg_queue k2).mono ?_; rintro e w3 ⟨u3, rfl, r3, b3⟩; obtain ⟨a3, c3, rfl⟩ := r3.none0)
                | (go_at_call 14; refine (pg_count k2).mono ?_; rintro e w3 ⟨rfl, rfl⟩)
                | (go_at_call 11; refine hw.mono ?_; rintro e w2 ⟨⟨uu, rfl⟩, Sx2, k2, b2⟩))
              go_roundw
              case rel => exact ⟨k + 1, n, _, _, hkl, by omega, by go_num, rfl, k2, HN1.out, HZ2.out, by omega, bel.trans b2⟩
              case measure => simp [RowKit.intOf]; omega
      · have hke : k = 300 := by omega
        have q0 : decide ((k : Int) < (ds.length : Int)) = true := decide_eq_true (by omega)
        have q1 : decide ((k : Int) < (300 : Int)) = false := decide_eq_false (by omega)
        clear hM hze
        go_wp2_with (go_at_call 16; refine (awake9_any _).mono ?_; rintro e w9 ⟨rfl, b9⟩)
        go_ret
        exact ⟨rfl, bmm bel hBw b9⟩
    · have q0 : decide ((k : Int) < (ds.length : Int)) = false := decide_eq_false (by omega)
      clear hM hze
      go_wp2_with (go_at_call 16; refine (awake9_any _).mono ?_; rintro e w9 ⟨rfl, b9⟩)
      go_ret
      exact ⟨rfl, bmm bel hBw b9⟩
end Go.Proofs.Ytcjmohfglggonaa
