/-
  Package heap over the row of slots that wait: moved down. The condition: fewer than 2^40 of them.
-/
import Derived.Test.YtnoappklbipdhaaLrpLeUp
namespace Go.Proofs.Ytnoappklbipdhaa
open Go.RowKit

section
variable {w : World} {base X : Nat} {S : Nat → Prop} {A F : Int} {l : List (Int × En)} {hs : List Int} {mb : Nat} {v : Value}
/-- A heap's front behind 'down'. -/
structure DownPost (base X : Nat) (S : Nat → Prop) (A F : Int) (l : List (Int × En)) (hs : List Int) (n mb : Nat) (v : Value) (w w' : World) : Prop where
  ex : ∃ hs', HpAt w' base X S A F l hs' mb v ∧ Kept w w' S S ∧ hs'.Perm hs ∧ HeapN hs' n ∧ ∀ k, n ≤ k → atI hs' k = atI hs k
theorem under_two {k i : Nat} (h0 : 0 < k) (h : parI k = i) : k = 2 * i + 1 ∨ k = 2 * i + 2 := by unfold parI at h; omega
theorem par_one (i : Nat) : parI (2 * i + 1) = i := by unfold parI; omega
theorem par_two (i : Nat) : parI (2 * i + 2) = i := by unfold parI; omega
set_option maxHeartbeats 4000000 in
set_option maxRecDepth 100000 in
theorem hdown_any (h : HpAt w base X S A F l hs mb v) {n : Nat} (hd : DownI hs n 0) (hl : hs.length ≤ 1099511627776) : Calls Try.prog 32 #[.iface 57 (whW X), .int .i64 0, .int .i64 (n : Int)] w fun e w' => (∃ b, e = .returned (.bool b)) ∧ DownPost base X S A F l hs n mb v w w' := by
  have H0 : Hid (HpAt w base X S A F l hs mb v ∧ DownI hs n 0) := (show Hid _ from (⟨h, hd⟩ : _ ∧ _))
  clear h hd
  go_enter Try.func32, Try.ntmps32
  go_wp2
  go_loopw [7] (fun s7 wr => ∃ (i : Nat) (hs' : List Int), s7 = .int .i64 (i : Int) ∧ (i = 0 ∨ i < n) ∧ Hid (HpAt wr base X S A F l hs' mb v ∧ Kept w wr S S ∧ hs'.Perm hs ∧ DownI hs' n i ∧ ∀ k, n ≤ k → atI hs' k = atI hs k)) (fun s7 _ => n - (intOf s7).toNat)
  case atStart => exact ⟨0, hs, rfl, Or.inl rfl, (show Hid _ from (⟨H0.out.1, Kept.refl _ _, List.Perm.refl _, H0.out.2, fun _ _ => rfl⟩ : _ ∧ _ ∧ _ ∧ _ ∧ _))⟩
  case round =>
    obtain ⟨i, hs', rfl, hin, HI⟩ := hrel
    have hlen : hs'.length = hs.length := HI.out.2.2.1.length_eq
    have hnl := HI.out.2.2.2.1.le
    have q0 : IntKind.i64.wrap (2 * (i : Int)) = 2 * (i : Int) := by rw [IntKind.wrap_i64]; omega
    obtain ⟨j, hj⟩ : ∃ j, j = 2 * i + 1 := ⟨_, rfl⟩
    have ej : 2 * (i : Int) + 1 = (j : Int) := by omega
    have q1 : IntKind.i64.wrap (j : Int) = (j : Int) := by rw [IntKind.wrap_i64]; omega
    have t0 : decide ((j : Int) < 0) = false := decide_eq_false (by omega)
    have HJ : Hid (j = 2 * i + 1) := hj
    by_cases hjn : j < n
    · have t1 : decide ((n : Int) ≤ (j : Int)) = false := decide_eq_false (by omega)
      have t1b : ¬ n ≤ j := by omega
      obtain ⟨j2, hj2⟩ : ∃ j2, j2 = j + 1 := ⟨_, rfl⟩
      have ej2 : (j : Int) + 1 = (j2 : Int) := by omega
      have q2 : IntKind.i64.wrap (j2 : Int) = (j2 : Int) := by rw [IntKind.wrap_i64]; omega
      have HJ2 : Hid (j2 = j + 1) := hj2
      have HB : Hid (j < n ∧ n ≤ hs'.length ∧ i < j) := (show Hid _ from (⟨hjn, hnl, by omega⟩ : _ ∧ _ ∧ _))
      have m1 := meth_less (HI.out.1.cell 3 v rfl)
      by_cases hj2n : j2 < n
      · have t2 : decide ((j2 : Int) < (n : Int)) = true := decide_eq_true (by omega)
        have t2b : j2 < n := hj2n
        have HB2 : Hid (j2 < n) := hj2n
        by_cases c2 : atI hs' j2 < atI hs' j
        · have HC : Hid (Calls Try.prog 52 #[v, .int .i64 (j2 : Int), .int .i64 (j : Int)] wr fun e w' => e = .returned (.bool true) ∧ Below wr.heap.size wr w') := sless_yes HI.out.1 (by omega) (by omega) c2
          have C2 : Hid (atI hs' j2 < atI hs' j) := c2
          have d1 : True := trivial
          by_cases c3 : atI hs' j2 < atI hs' i
          · have C3 : Hid (atI hs' j2 < atI hs' i) := c3
            clear hlen hnl hjn hj hj2 hj2n hin c2 c3
            go_wp2_with (first
              | (go_at_call 53; refine Calls.mono (sswap_v H3.out (i := i) (j := j2) (by have := HB.out; omega) (by have := HB.out; have := HB2.out; omega)) ?_; rintro e w4 ⟨rfl, h4, k4⟩; have H4 : Hid _ := h4; have K4 : Hid _ := k4; clear h4 k4)
              | (go_at_call 52; have d3 := d2; refine Calls.mono (sless_yes (H2.out) (i := j2) (j := i) (by have := HB.out; have := HB2.out; omega) (by have := HB.out; omega) C3.out) ?_; rintro e w3 ⟨rfl, b3⟩; have H3 : Hid _ := (H2.out).fresh b3; have B3 : Hid _ := b3; clear b3 d2; have m3 := meth_swap (H3.out.cell 3 v rfl))
              | (go_at_call 52; have d2 := d1; refine Calls.mono HC.out ?_; rintro e w2 ⟨rfl, b2⟩; have H2 : Hid _ := HI.out.1.fresh b2; have B2 : Hid _ := b2; clear b2 d1; have m2 := meth_less (H2.out.cell 3 v rfl)))
            go_roundw
            case rel =>
              refine ⟨j2, swI hs' i j2, rfl, Or.inr (by have := HB.out; have := HB2.out; omega), (show Hid _ from (⟨H4.out, HI.out.2.1.trans (((Kept.of B2.out).trans (Kept.of B3.out)).trans K4.out), ?_, ?_, fun k hk => ?_⟩ : _ ∧ _ ∧ _ ∧ _ ∧ _))⟩
              · exact (swI_perm (by have := HB.out; omega) (by have := HB.out; have := HB2.out; omega)).trans HI.out.2.2.1
              · refine HI.out.2.2.2.1.step (by have := HB.out; have := HB2.out; omega) (by rw [HJ2.out, HJ.out]; exact par_two i) (by have := HJ2.out; have := HJ.out; omega) (fun k k0 hk hp => ?_) C3.out
                have hu := under_two k0 hp
                have e1 := HJ.out
                have e2 := HJ2.out
                rcases hu with hu | hu
                · have : k = j := by omega
                  rw [this]
                  have := C2.out
                  omega
                · have : k = j2 := by omega
                  rw [this]
                  exact Int.le_refl _
              · rw [swI_at (by have := HB.out; omega) (by have := HB.out; have := HB2.out; omega), if_neg (by have := HB.out; have := HB2.out; omega), if_neg (by have := HB.out; omega)]
                exact HI.out.2.2.2.2 k hk
            case measure => have := HB.out; have := HB2.out; have := HJ2.out; simp [intOf]; omega
          · have C3 : Hid (atI hs' i ≤ atI hs' j2) := (by omega : atI hs' i ≤ atI hs' j2)
            clear hlen hnl hjn hj hj2 hj2n hin c2 c3
            go_wp2_with (first
              | (go_at_call 52; have d3 := d2; refine Calls.mono (sless_no (H2.out) (i := j2) (j := i) (by have := HB.out; have := HB2.out; omega) (by have := HB.out; omega) (by have := C3.out; omega)) ?_; rintro e w3 ⟨rfl, b3⟩; have H3 : Hid _ := (H2.out).fresh b3; have B3 : Hid _ := b3; clear b3 d2; have m3 := meth_swap (H3.out.cell 3 v rfl))
              | (go_at_call 52; have d2 := d1; refine Calls.mono HC.out ?_; rintro e w2 ⟨rfl, b2⟩; have H2 : Hid _ := HI.out.1.fresh b2; have B2 : Hid _ := b2; clear b2 d1; have m2 := meth_less (H2.out.cell 3 v rfl)))
            go_ret
            refine ⟨⟨_, rfl⟩, hs', H3.out, HI.out.2.1.trans ((Kept.of B2.out).trans (Kept.of B3.out)), HI.out.2.2.1, HI.out.2.2.2.1.stop fun k k0 hk hp => ?_, HI.out.2.2.2.2⟩
            have hc3 := C3.out
            have : atI hs' j2 ≤ atI hs' k := by
              have hu := under_two k0 hp
              have e1 := HJ.out
              have e2 := HJ2.out
              rcases hu with hu | hu
              · have : k = j := by omega
                rw [this]
                have := C2.out
                omega
              · have : k = j2 := by omega
                rw [this]
                exact Int.le_refl _
            omega
        · have HC : Hid (Calls Try.prog 52 #[v, .int .i64 (j2 : Int), .int .i64 (j : Int)] wr fun e w' => e = .returned (.bool false) ∧ Below wr.heap.size wr w') := sless_no HI.out.1 (by omega) (by omega) c2
          have C2 : Hid (atI hs' j ≤ atI hs' j2) := (by omega : atI hs' j ≤ atI hs' j2)
          have d1 : True := trivial
          by_cases c3 : atI hs' j < atI hs' i
          · have C3 : Hid (atI hs' j < atI hs' i) := c3
            clear hlen hnl hjn hj hj2 hj2n hin c2 c3
            go_wp2_with (first
              | (go_at_call 53; refine Calls.mono (sswap_v H3.out (i := i) (j := j) (by have := HB.out; omega) (by have := HB.out; have := HB2.out; omega)) ?_; rintro e w4 ⟨rfl, h4, k4⟩; have H4 : Hid _ := h4; have K4 : Hid _ := k4; clear h4 k4)
              | (go_at_call 52; have d3 := d2; refine Calls.mono (sless_yes (H2.out) (i := j) (j := i) (by have := HB.out; have := HB2.out; omega) (by have := HB.out; omega) C3.out) ?_; rintro e w3 ⟨rfl, b3⟩; have H3 : Hid _ := (H2.out).fresh b3; have B3 : Hid _ := b3; clear b3 d2; have m3 := meth_swap (H3.out.cell 3 v rfl))
              | (go_at_call 52; have d2 := d1; refine Calls.mono HC.out ?_; rintro e w2 ⟨rfl, b2⟩; have H2 : Hid _ := HI.out.1.fresh b2; have B2 : Hid _ := b2; clear b2 d1; have m2 := meth_less (H2.out.cell 3 v rfl)))
            go_roundw
            case rel =>
              refine ⟨j, swI hs' i j, rfl, Or.inr (by have := HB.out; have := HB2.out; omega), (show Hid _ from (⟨H4.out, HI.out.2.1.trans (((Kept.of B2.out).trans (Kept.of B3.out)).trans K4.out), ?_, ?_, fun k hk => ?_⟩ : _ ∧ _ ∧ _ ∧ _ ∧ _))⟩
              · exact (swI_perm (by have := HB.out; omega) (by have := HB.out; have := HB2.out; omega)).trans HI.out.2.2.1
              · refine HI.out.2.2.2.1.step (by have := HB.out; have := HB2.out; omega) (by rw [HJ.out]; exact par_one i) (by have := HJ2.out; have := HJ.out; omega) (fun k k0 hk hp => ?_) C3.out
                have hu := under_two k0 hp
                have e1 := HJ.out
                have e2 := HJ2.out
                rcases hu with hu | hu
                · have : k = j := by omega
                  rw [this]
                  exact Int.le_refl _
                · have : k = j2 := by omega
                  rw [this]
                  exact C2.out
              · rw [swI_at (by have := HB.out; omega) (by have := HB.out; have := HB2.out; omega), if_neg (by have := HB.out; have := HB2.out; omega), if_neg (by have := HB.out; omega)]
                exact HI.out.2.2.2.2 k hk
            case measure => have := HB.out; have := HB2.out; have := HJ2.out; simp [intOf]; omega
          · have C3 : Hid (atI hs' i ≤ atI hs' j) := (by omega : atI hs' i ≤ atI hs' j)
            clear hlen hnl hjn hj hj2 hj2n hin c2 c3
            go_wp2_with (first
              | (go_at_call 52; have d3 := d2; refine Calls.mono (sless_no (H2.out) (i := j) (j := i) (by have := HB.out; have := HB2.out; omega) (by have := HB.out; omega) (by have := C3.out; omega)) ?_; rintro e w3 ⟨rfl, b3⟩; have H3 : Hid _ := (H2.out).fresh b3; have B3 : Hid _ := b3; clear b3 d2; have m3 := meth_swap (H3.out.cell 3 v rfl))
              | (go_at_call 52; have d2 := d1; refine Calls.mono HC.out ?_; rintro e w2 ⟨rfl, b2⟩; have H2 : Hid _ := HI.out.1.fresh b2; have B2 : Hid _ := b2; clear b2 d1; have m2 := meth_less (H2.out.cell 3 v rfl)))
            go_ret
            refine ⟨⟨_, rfl⟩, hs', H3.out, HI.out.2.1.trans ((Kept.of B2.out).trans (Kept.of B3.out)), HI.out.2.2.1, HI.out.2.2.2.1.stop fun k k0 hk hp => ?_, HI.out.2.2.2.2⟩
            have hc3 := C3.out
            have : atI hs' j ≤ atI hs' k := by
              have hu := under_two k0 hp
              have e1 := HJ.out
              have e2 := HJ2.out
              rcases hu with hu | hu
              · have : k = j := by omega
                rw [this]
                exact Int.le_refl _
              · have : k = j2 := by omega
                rw [this]
                exact C2.out
            omega
      · have t2 : decide ((j2 : Int) < (n : Int)) = false := decide_eq_false (by omega)
        have t2b : ¬ j2 < n := hj2n
        have HB2 : Hid (¬ j2 < n) := hj2n
        have d1 : True := trivial
        by_cases c3 : atI hs' j < atI hs' i
        · have C3 : Hid (atI hs' j < atI hs' i) := c3
          clear hlen hnl hjn hj hj2 hj2n hin c3
          go_wp2_with (first
            | (go_at_call 53; refine Calls.mono (sswap_v H3.out (i := i) (j := j) (by have := HB.out; omega) (by have := HB.out; have := HB2.out; omega)) ?_; rintro e w4 ⟨rfl, h4, k4⟩; have H4 : Hid _ := h4; have K4 : Hid _ := k4; clear h4 k4)
            | (go_at_call 52; have d3 := d1; refine Calls.mono (sless_yes (HI.out.1) (i := j) (j := i) (by have := HB.out; have := HB2.out; omega) (by have := HB.out; omega) C3.out) ?_; rintro e w3 ⟨rfl, b3⟩; have H3 : Hid _ := (HI.out.1).fresh b3; have B3 : Hid _ := b3; clear b3 d1; have m3 := meth_swap (H3.out.cell 3 v rfl)))
          go_roundw
          case rel =>
            refine ⟨j, swI hs' i j, rfl, Or.inr (by have := HB.out; have := HB2.out; omega), (show Hid _ from (⟨H4.out, HI.out.2.1.trans ((Kept.of B3.out).trans K4.out), ?_, ?_, fun k hk => ?_⟩ : _ ∧ _ ∧ _ ∧ _ ∧ _))⟩
            · exact (swI_perm (by have := HB.out; omega) (by have := HB.out; have := HB2.out; omega)).trans HI.out.2.2.1
            · refine HI.out.2.2.2.1.step (by have := HB.out; have := HB2.out; omega) (by rw [HJ.out]; exact par_one i) (by have := HJ2.out; have := HJ.out; omega) (fun k k0 hk hp => ?_) C3.out
              have hu := under_two k0 hp
              have e1 := HJ.out
              have e2 := HJ2.out
              rcases hu with hu | hu
              · have : k = j := by omega
                rw [this]
                exact Int.le_refl _
              · have := HB2.out
                omega
            · rw [swI_at (by have := HB.out; omega) (by have := HB.out; have := HB2.out; omega), if_neg (by have := HB.out; have := HB2.out; omega), if_neg (by have := HB.out; omega)]
              exact HI.out.2.2.2.2 k hk
          case measure => have := HB.out; have := HB2.out; have := HJ2.out; simp [intOf]; omega
        · have C3 : Hid (atI hs' i ≤ atI hs' j) := (by omega : atI hs' i ≤ atI hs' j)
          clear hlen hnl hjn hj hj2 hj2n hin c3
          go_wp2_with (first
            | (go_at_call 52; have d3 := d1; refine Calls.mono (sless_no (HI.out.1) (i := j) (j := i) (by have := HB.out; have := HB2.out; omega) (by have := HB.out; omega) (by have := C3.out; omega)) ?_; rintro e w3 ⟨rfl, b3⟩; have H3 : Hid _ := (HI.out.1).fresh b3; have B3 : Hid _ := b3; clear b3 d1; have m3 := meth_swap (H3.out.cell 3 v rfl)))
          go_ret
          refine ⟨⟨_, rfl⟩, hs', H3.out, HI.out.2.1.trans (Kept.of B3.out), HI.out.2.2.1, HI.out.2.2.2.1.stop fun k k0 hk hp => ?_, HI.out.2.2.2.2⟩
          have hc3 := C3.out
          have : atI hs' j ≤ atI hs' k := by
            have hu := under_two k0 hp
            have e1 := HJ.out
            have e2 := HJ2.out
            rcases hu with hu | hu
            · have : k = j := by omega
              rw [this]
              exact Int.le_refl _
            · have := HB2.out
              omega
          omega
    · have t1 : decide ((n : Int) ≤ (j : Int)) = true := decide_eq_true (by omega)
      have t1b : n ≤ j := by omega
      have HN : Hid (n ≤ j) := t1b
      clear hlen hnl hjn hj hin
      go_wp2
      go_ret
      refine ⟨⟨_, rfl⟩, hs', HI.out.1, HI.out.2.1, HI.out.2.2.1, HI.out.2.2.2.1.stop fun k k0 hk hp => ?_, HI.out.2.2.2.2⟩
      have := under_two k0 hp
      have := HN.out
      have := HJ.out
      omega
end
end Go.Proofs.Ytnoappklbipdhaa
