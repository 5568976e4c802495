/-
  LearnerOrder: slots that are learned in any order are told once each, in order. No condition.
-/
import Derived.Test.YtnoappklbipdhaaLrnLeFirst
import Derived.Test.YtnoappklbipdhaaLrnLeOrd
namespace Go.Proofs.Ytnoappklbipdhaa
open Go.RowKit

/-- The place that a number names. -/
theorem rem_place (z : Int) (q : Nat) (hq : 0 < q) : ∃ r1 r2 : Int, z.tmod (q : Int) = r1 ∧ (r1 + (q : Int)).tmod (q : Int) = r2 ∧ -(q : Int) < r1 ∧ r1 < (q : Int) ∧ 0 ≤ r2 ∧ r2 < (q : Int) := by
  have h1 := Int.tmod_lt_of_pos z (show (0 : Int) < (q : Int) by omega)
  have h2 : -(q : Int) < z.tmod (q : Int) := by
    have h3 := Int.tmod_lt_of_pos (-z) (show (0 : Int) < (q : Int) by omega)
    rw [Int.neg_tmod] at h3
    omega
  have h4 := Int.tmod_nonneg (q : Int) (show (0 : Int) ≤ z.tmod (q : Int) + (q : Int) by omega)
  have h5 := Int.tmod_lt_of_pos (z.tmod (q : Int) + (q : Int)) (show (0 : Int) < (q : Int) by omega)
  exact ⟨_, _, rfl, rfl, h2, h1, h4, h5⟩
set_option maxHeartbeats 8000000 in
set_option maxRecDepth 100000 in
theorem order_walk (w : World) (n : Int) (v : Value) (l : List Int) (hv : IntsAt w v l) (hlen : l.length ≤ 1152921504606846976) : Calls Try.prog 4 #[.int .i64 n, v] w fun e w' => e = .returned (.bool true) ∧ Below w.heap.size w w' := by
  obtain ⟨m, hm⟩ : ∃ m : Nat, max 1 (min n 30) = (m : Int) := ⟨(max 1 (min n 30)).toNat, by omega⟩
  have hm1 : 1 ≤ m ∧ m ≤ 30 := by omega
  obtain ⟨pv, cv, hve, _⟩ := hv.ex
  obtain ⟨L, hL⟩ : ∃ L, L = l.length := ⟨_, rfl⟩
  rw [← hL] at hve
  have q0 : IntKind.i64.wrap ((L : Int) + (m : Int)) = ((L + m : Nat) : Int) := by rw [IntKind.wrap_i64]; omega
  have HV : Hid (IntsAt w (.slice pv L cv) l ∧ L = l.length ∧ L ≤ 1152921504606846976) := (show Hid _ from (⟨by rw [← hve]; exact hv, hL, by rw [hL]; exact hlen⟩ : _ ∧ _ ∧ _))
  have HM : Hid (1 ≤ m ∧ m ≤ 30) := hm1
  have HLe : Hid (∀ y X S q s (k : Nat), LnAt y w.heap.size X S q k → k < 536870912 → 1 ≤ s → s ≤ (m : Int) → Calls Try.prog 9 #[.pointer (some ⟨X, 0, none⟩), .agg #[.int .i64 s, .int .i64 0, .int .i64 1, .int .i64 0, .int .i64 0, .string ⟨#[]⟩, .int .i64 s]] y (LeaPost y w.heap.size X S (leaL q (orE s)) (k + 1))) := fun y X S q s k h hk h1 h2 => learn_any h hk (orE s) ⟨by show -9223372036854775808 ≤ s; omega, by show s ≤ MXi; have := hm1.2; unfold MXi; omega⟩ (show (0 : Nat) ≤ _ by omega)
  have hN : Calls Try.prog 7 #[.int .i64 0] w (NewL w 0) := new_learner w 0 (by decide)
  subst hve
  clear hv hlen hm1 hL
  go_enter Try.func4, Try.ntmps4
  go_wp2_with (go_at_call 7; refine hN.mono ?_; rintro r w1 ⟨X, S1, rfl, h1, b1⟩; have H1 : Hid (LnAt w1 w.heap.size X S1 ⟨0, []⟩ 0 ∧ Below w.heap.size w w1) := (show Hid _ from (⟨h1, b1⟩ : _ ∧ _)); clear h1 b1)
  go_loopw [6, 7] (fun s6 s7 wr => ∃ (i : Nat) (q : Ln) (S : Nat → Prop), s6 = .int .i64 (q.ap + 1) ∧ s7 = .int .i64 (i : Int) ∧ i ≤ L + m ∧ i ≤ 400 ∧ Hid (LnAt wr w.heap.size X S q i ∧ Below w.heap.size w wr ∧ OrI (m : Int) q (i - L))) (fun _ s7 _ => 400 - (intOf s7).toNat)
  case atStart => exact ⟨0, ⟨0, []⟩, S1, rfl, rfl, Nat.zero_le _, by omega, (show Hid _ from (⟨H1.out.1, H1.out.2, by rw [Nat.zero_sub]; exact OrI.start _ (by omega)⟩ : _ ∧ _ ∧ _))⟩
  case round =>
    obtain ⟨i, q, S, rfl, rfl, hi1, hi2, HI⟩ := hrel
    have q1 : IntKind.i64.wrap ((i : Int) - (L : Int)) = (i : Int) - (L : Int) := by have := HV.out.2.2; rw [IntKind.wrap_i64]; omega
    have q2 : IntKind.i64.wrap ((i : Int) - (L : Int) + 1) = (i : Int) - (L : Int) + 1 := by have := HV.out.2.2; rw [IntKind.wrap_i64]; omega
    have HI2 : Hid (i ≤ L + m ∧ i ≤ 400) := (show Hid _ from (⟨hi1, hi2⟩ : _ ∧ _))
    by_cases hgo : i < L + m ∧ i < 400
    · have t1 : decide ((i : Int) < ((L + m : Nat) : Int)) = true := decide_eq_true (by omega)
      have t1b : i < L + m := hgo.1
      have t2 : decide ((i : Int) < 400) = true := decide_eq_true (by omega)
      have t2b : i < 400 := hgo.2
      have HG : Hid (i < L + m ∧ i < 400) := hgo
      clear hgo hi1 hi2
      -- which slot
      obtain ⟨s, hs⟩ : ∃ s : Int, (i < L → ∃ (z r1 r2 : Int) (bk off : Nat), pv = some ⟨bk, off, none⟩ ∧ wr.cell? ⟨bk, off + i, none⟩ = some (.int .i64 z) ∧ z.tmod (m : Int) = r1 ∧ (r1 + (m : Int)).tmod (m : Int) = r2 ∧ -(m : Int) < r1 ∧ r1 < (m : Int) ∧ 0 ≤ r2 ∧ r2 < (m : Int) ∧ s = r2 + 1) ∧ (¬ i < L → s = (i : Int) - (L : Int) + 1) := by
        by_cases hiL : i < L
        · obtain ⟨a, cap, e1, _, e3⟩ := HV.out.1.ex
          rcases e3 with e3 | ⟨bk, off, rfl, hbk, hx⟩
          · have := HV.out.2.1
            omega
          · obtain ⟨r1, r2, h1, h2, h3, h4, h5, h6⟩ := rem_place (l[i]'(by have := HV.out.2.1; omega)) m (by have := HM.out; omega)
            injection e1 with e1 _ _
            exact ⟨r2 + 1, fun _ => ⟨_, r1, r2, bk, off, e1, (World.cell?_of_block (HI.out.2.1.block bk hbk)).trans (hx i (by have := HV.out.2.1; omega)), h1, h2, h3, h4, h5, h6, rfl⟩, fun h => absurd hiL h⟩
        · exact ⟨_, fun h => absurd h hiL, fun _ => rfl⟩
      have hsr : 1 ≤ s ∧ s ≤ (m : Int) := by
        by_cases hiL : i < L
        · obtain ⟨z, r1, r2, bk, off, _, _, _, _, _, _, h5, h6, h7⟩ := hs.1 hiL
          omega
        · have := hs.2 hiL
          omega
      have hstep := HI.out.2.2.step (by have := HM.out; omega) hsr.1 hsr.2
      obtain ⟨q', hq'⟩ : ∃ q', q' = (leaL q (orE s)).1 := ⟨_, rfl⟩
      obtain ⟨xs, hxs⟩ : ∃ xs, xs = (leaL q (orE s)).2 := ⟨_, rfl⟩
      have hlp : leaL q (orE s) = (q', xs) := by rw [hq', hxs]
      have HQ : Hid (OrPost (m : Int) q (i - L) s (q', xs)) := by rw [hlp] at hstep; exact hstep
      have HX : Hid ((¬ i < L → s = (i : Int) - (L : Int) + 1)) := hs.2
      have HLC : Hid (Calls Try.prog 9 #[.pointer (some ⟨X, 0, none⟩), .agg #[.int .i64 s, .int .i64 0, .int .i64 1, .int .i64 0, .int .i64 0, .string ⟨#[]⟩, .int .i64 s]] wr (LeaPost wr w.heap.size X S (q', xs) (i + 1))) := by
        have := HLe.out wr X S q s i HI.out.1 (by have := HG.out; omega) hsr.1 hsr.2
        rw [hlp] at this
        exact this
      have hAL : Hid (True) := trivial
      clear hstep hq' hxs hlp
      by_cases hiL : i < L
      · have t3 : decide ((i : Int) < (L : Int)) = true := decide_eq_true (by omega)
        obtain ⟨z, r1, r2, bk, off, rfl, cz, h1, h2, h3, h4, h5, h6, h7⟩ := hs.1 hiL
        have hne : ¬ (m : Int) = 0 := by omega
        have k1 : IntKind.i64.wrap (r1 + (m : Int)) = r1 + (m : Int) := by have := HM.out; rw [IntKind.wrap_i64]; omega
        have k2 : IntKind.i64.wrap (r2 + 1) = s := by have := HM.out; rw [IntKind.wrap_i64]; omega
        have HC : Hid (i < L) := hiL
        clear hs hsr h3 h4 h5 h6 h7
        go_upto_region 13 with (go_at_call 9; refine Calls.mono HLC.out ?_; rintro r w3 ⟨S3, u3, rfl, h3, k3, a3⟩)
        obtain ⟨ua, uc, rfl⟩ := a3.row.form
        obtain ⟨un, hun⟩ : ∃ un, un = xs.length := ⟨_, rfl⟩
        have H3 : Hid (LnAt w3 w.heap.size X S3 q' (i + 1) ∧ Below w.heap.size w w3) := (show Hid _ from (⟨h3, HI.out.1.lowk k3 HI.out.2.1 (Nat.le_refl _)⟩ : _ ∧ _))
        have A3 : Hid (RowAt enC w3 (.slice ua un uc) xs) := by rw [hun]; exact a3.row
        have HU : Hid (un = xs.length) := hun
        rw [← hun]
        clear h3 k3 a3 hun cz h1 h2 k1 k2 hne
        go_wp2
        go_loopw [6, 10] (fun s6 s10 wr2 => ∃ k : Nat, s6 = .int .i64 (q.ap + 1 + (k : Int)) ∧ s10 = .int .i64 (k : Int) ∧ k ≤ un ∧ Hid (wr2 = w3)) (fun _ s10 _ => un - (intOf s10).toNat)
        case atStart => exact ⟨0, by simp, rfl, Nat.zero_le _, (show Hid _ from rfl)⟩
        case round =>
          obtain ⟨k, rfl, rfl, hk, HWR⟩ := hrel
          have hwr := HWR.out
          rw [hwr]
          clear hwr HWR
          have hun30 : un ≤ 30 := by
            have h1 := HQ.out.inv.ap
            have h2 : q'.ap = q.ap + (xs.length : Int) := HQ.out.ap
            have h3 := HM.out
            have h4 := HU.out
            have h6 : 0 ≤ q'.ap ∧ q'.ap ≤ (m : Int) := h1
            have h7 := HI.out.2.2.ap
            omega
          by_cases hku : k < un
          · have t5 : decide ((k : Int) < (un : Int)) = true := decide_eq_true (by omega)
            have hkx : k < xs.length := by have := HU.out; omega
            obtain ⟨bk2, off2, cap2, eu, _, _, hc⟩ := A3.out.cells enC_len (by omega)
            injection eu with e1 e2 e3
            subst e1
            have hx := HQ.out.told k hkx
            have c0 := hc k hkx 0 (.int .i64 (q.ap + 1 + (k : Int))) (by decide) (by have hx' : xs[k] = orE (q.ap + 1 + (k : Int)) := hx; rw [hx']; rfl)
            have c6 := hc k hkx 6 (.int .i64 (q.ap + 1 + (k : Int))) (by decide) (by have hx' : xs[k] = orE (q.ap + 1 + (k : Int)) := hx; rw [hx']; rfl)
            rw [Nat.add_zero] at c0
            obtain ⟨nx, hnx⟩ : ∃ nx, nx = q.ap + 1 + (k : Int) := ⟨_, rfl⟩
            have HNX : Hid (nx = q.ap + 1 + (k : Int)) := hnx
            rw [← hnx] at c0 c6 ⊢
            have k5 : IntKind.i64.wrap (nx + 1) = nx + 1 := by
              have h1 := HQ.out.inv.ap
              have h2 := HQ.out.ap
              have h3 := HM.out
              have h4 := HU.out
              have h5 : q'.ap = q.ap + (xs.length : Int) := h2
              have h6 : 0 ≤ q'.ap ∧ q'.ap ≤ (m : Int) := h1
              have h7 := HI.out.2.2.ap
              rw [IntKind.wrap_i64]
              omega
            clear hnx hx hc e2 e3 hkx
            go_wp2
            go_roundw
            case rel => exact ⟨k + 1, by have := HNX.out; congr 1; omega, by go_num, hku, (by first | exact trivial | exact rfl)⟩
            case measure => simp [intOf]; omega
          · have t5 : decide ((k : Int) < (un : Int)) = false := decide_eq_false (by omega)
            have HKU : Hid (k = un) := (by omega : k = un)
            have HG2 := HG.out
            have k6 : IntKind.i64.wrap ((i : Int) + 1) = ((i + 1 : Nat) : Int) := by rw [IntKind.wrap_i64]; omega
            clear HG2 hk
            go_wp2
            go_roundw
            case rel =>
              refine ⟨i + 1, q', S3, ?_, ?_, by have := HG.out; omega, by have := HG.out; omega, (show Hid _ from (⟨H3.out.1, H3.out.2, ?_⟩ : _ ∧ _ ∧ _))⟩
              · have h2 : q'.ap = q.ap + (xs.length : Int) := HQ.out.ap
                have := HKU.out
                have := HU.out
                congr 1
                omega
              · first | rfl | go_num
              · have hc := HC.out
                rw [show i + 1 - L = i - L by omega]
                exact HQ.out.inv
            case measure => have := HG.out; simp [intOf]; omega
      · have t3 : decide ((i : Int) < (L : Int)) = false := decide_eq_false (by omega)
        have HC : Hid (¬ i < L) := hiL
        have k1 := hs.2 hiL
        subst k1
        go_upto_region 13 with (go_at_call 9; refine Calls.mono HLC.out ?_; rintro r w3 ⟨S3, u3, rfl, h3, k3, a3⟩)
        obtain ⟨ua, uc, rfl⟩ := a3.row.form
        obtain ⟨un, hun⟩ : ∃ un, un = xs.length := ⟨_, rfl⟩
        have H3 : Hid (LnAt w3 w.heap.size X S3 q' (i + 1) ∧ Below w.heap.size w w3) := (show Hid _ from (⟨h3, HI.out.1.lowk k3 HI.out.2.1 (Nat.le_refl _)⟩ : _ ∧ _))
        have A3 : Hid (RowAt enC w3 (.slice ua un uc) xs) := by rw [hun]; exact a3.row
        have HU : Hid (un = xs.length) := hun
        rw [← hun]
        clear h3 k3 a3 hun hs hsr
        go_wp2
        go_loopw [6, 10] (fun s6 s10 wr2 => ∃ k : Nat, s6 = .int .i64 (q.ap + 1 + (k : Int)) ∧ s10 = .int .i64 (k : Int) ∧ k ≤ un ∧ Hid (wr2 = w3)) (fun _ s10 _ => un - (intOf s10).toNat)
        case atStart => exact ⟨0, by simp, rfl, Nat.zero_le _, (show Hid _ from rfl)⟩
        case round =>
          obtain ⟨k, rfl, rfl, hk, HWR⟩ := hrel
          have hwr := HWR.out
          rw [hwr]
          clear hwr HWR
          have hun30 : un ≤ 30 := by
            have h1 := HQ.out.inv.ap
            have h2 : q'.ap = q.ap + (xs.length : Int) := HQ.out.ap
            have h3 := HM.out
            have h4 := HU.out
            have h6 : 0 ≤ q'.ap ∧ q'.ap ≤ (m : Int) := h1
            have h7 := HI.out.2.2.ap
            omega
          by_cases hku : k < un
          · have t5 : decide ((k : Int) < (un : Int)) = true := decide_eq_true (by omega)
            have hkx : k < xs.length := by have := HU.out; omega
            obtain ⟨bk2, off2, cap2, eu, _, _, hc⟩ := A3.out.cells enC_len (by omega)
            injection eu with e1 e2 e3
            subst e1
            have hx := HQ.out.told k hkx
            have c0 := hc k hkx 0 (.int .i64 (q.ap + 1 + (k : Int))) (by decide) (by have hx' : xs[k] = orE (q.ap + 1 + (k : Int)) := hx; rw [hx']; rfl)
            have c6 := hc k hkx 6 (.int .i64 (q.ap + 1 + (k : Int))) (by decide) (by have hx' : xs[k] = orE (q.ap + 1 + (k : Int)) := hx; rw [hx']; rfl)
            rw [Nat.add_zero] at c0
            obtain ⟨nx, hnx⟩ : ∃ nx, nx = q.ap + 1 + (k : Int) := ⟨_, rfl⟩
            have HNX : Hid (nx = q.ap + 1 + (k : Int)) := hnx
            rw [← hnx] at c0 c6 ⊢
            have k5 : IntKind.i64.wrap (nx + 1) = nx + 1 := by
              have h1 := HQ.out.inv.ap
              have h2 := HQ.out.ap
              have h3 := HM.out
              have h4 := HU.out
              have h5 : q'.ap = q.ap + (xs.length : Int) := h2
              have h6 : 0 ≤ q'.ap ∧ q'.ap ≤ (m : Int) := h1
              have h7 := HI.out.2.2.ap
              rw [IntKind.wrap_i64]
              omega
            clear hnx hx hc e2 e3 hkx
            go_wp2
            go_roundw
            case rel => exact ⟨k + 1, by have := HNX.out; congr 1; omega, by go_num, hku, (by first | exact trivial | exact rfl)⟩
            case measure => simp [intOf]; omega
          · have t5 : decide ((k : Int) < (un : Int)) = false := decide_eq_false (by omega)
            have HKU : Hid (k = un) := (by omega : k = un)
            have HG2 := HG.out
            have k6 : IntKind.i64.wrap ((i : Int) + 1) = ((i + 1 : Nat) : Int) := by rw [IntKind.wrap_i64]; omega
            clear HG2 hk
            go_wp2
            go_roundw
            case rel =>
              refine ⟨i + 1, q', S3, ?_, ?_, by have := HG.out; omega, by have := HG.out; omega, (show Hid _ from (⟨H3.out.1, H3.out.2, ?_⟩ : _ ∧ _ ∧ _))⟩
              · have h2 : q'.ap = q.ap + (xs.length : Int) := HQ.out.ap
                have := HKU.out
                have := HU.out
                congr 1
                omega
              · first | rfl | go_num
              · have hc := HC.out
                rw [show i + 1 - L = (i - L) + 1 by omega]
                exact HQ.out.next (by have := HX.out hc; omega)
            case measure => have := HG.out; simp [intOf]; omega
    · by_cases hL3 : 300 < L
      · have t4 : decide ((300 : Int) < (L : Int)) = true := decide_eq_true (by omega)
        have t4b : 300 < L := hL3
        by_cases hiE : i < L + m
        · have t1 : decide ((i : Int) < ((L + m : Nat) : Int)) = true := decide_eq_true (by omega)
          have t2 : decide ((i : Int) < 400) = false := decide_eq_false (by omega)
          have t2b : ¬ i < 400 := by omega
          clear hgo hi1 hi2 hL3
          go_wp2_with ((go_at_call 21; refine (awake_any _).mono ?_; rintro r w9 ⟨rfl, b9⟩; have B9 : Hid (Below w.heap.size w w9) := bmm HI.out.2.1 HI.out.2.1.size b9; clear b9))
          go_ret
          exact ⟨rfl, B9.out⟩
        · have t1 : decide ((i : Int) < ((L + m : Nat) : Int)) = false := decide_eq_false (by omega)
          clear hgo hi1 hi2 hL3
          go_wp2_with ((go_at_call 21; refine (awake_any _).mono ?_; rintro r w9 ⟨rfl, b9⟩; have B9 : Hid (Below w.heap.size w w9) := bmm HI.out.2.1 HI.out.2.1.size b9; clear b9))
          go_ret
          exact ⟨rfl, B9.out⟩
      · have t4 : decide ((300 : Int) < (L : Int)) = false := decide_eq_false (by omega)
        have hiE : ¬ i < L + m := fun h => hgo ⟨h, by have := HM.out; omega⟩
        have t1 : decide ((i : Int) < ((L + m : Nat) : Int)) = false := decide_eq_false (by omega)
        have hqa : q.ap = (m : Int) := HI.out.2.2.all (by omega)
        have HAP : Hid (Calls Try.prog 20 #[.pointer (some ⟨X, 0, none⟩)] wr fun e w' => e = .returned (.int .i64 (m : Int)) ∧ w' = wr) := by
          have := applied_any HI.out.1
          rw [hqa] at this
          exact this
        have k1 : IntKind.i64.wrap ((m : Int) + 1) = (m : Int) + 1 := by have := HM.out; rw [IntKind.wrap_i64]; omega
        rw [hqa]
        clear hgo hi1 hi2 hqa
        go_wp2_with (first
          | (go_at_call 21; refine (awake_any _).mono ?_; rintro r w9 ⟨rfl, b9⟩; have B9 : Hid (Below w.heap.size w w9) := bmm HI.out.2.1 HI.out.2.1.size b9; clear b9)
          | (go_at_call 20; refine Calls.mono HAP.out ?_; rintro r w8 ⟨rfl, hw8⟩; rw [hw8]; clear hw8))
        go_ret
        exact ⟨rfl, B9.out⟩
end Go.Proofs.Ytnoappklbipdhaa
