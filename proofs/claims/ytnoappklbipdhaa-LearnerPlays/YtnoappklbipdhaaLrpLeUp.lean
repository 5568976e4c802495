/-
  Package heap over the row of slots that wait: moved up, moved down, one put in, the least one taken. The condition: fewer than 2^40 of them.
-/
import Derived.Test.YtnoappklbipdhaaLrpLeSlots
namespace Go.Proofs.Ytnoappklbipdhaa
open Go.RowKit

section
variable {w : World} {base X : Nat} {S : Nat → Prop} {A F : Int} {l : List (Int × En)} {hs : List Int} {mb : Nat} {v : Value}
theorem sless_yes (h : HpAt w base X S A F l hs mb v) {i j : Nat} (hi : i < hs.length) (hj : j < hs.length) (c : atI hs i < atI hs j) : Calls Try.prog 52 #[v, .int .i64 (i : Int), .int .i64 (j : Int)] w fun e w' => e = .returned (.bool true) ∧ Below w.heap.size w w' := by
  have := sless_any h hi hj
  rw [decide_eq_true c] at this
  exact this
theorem sless_no (h : HpAt w base X S A F l hs mb v) {i j : Nat} (hi : i < hs.length) (hj : j < hs.length) (c : ¬ atI hs i < atI hs j) : Calls Try.prog 52 #[v, .int .i64 (i : Int), .int .i64 (j : Int)] w fun e w' => e = .returned (.bool false) ∧ Below w.heap.size w w' := by
  have := sless_any h hi hj
  rw [decide_eq_false c] at this
  exact this
theorem sswap_v (h : HpAt w base X S A F l hs mb v) {i j : Nat} (hi : i < hs.length) (hj : j < hs.length) : Calls Try.prog 53 #[v, .int .i64 (i : Int), .int .i64 (j : Int)] w fun e w' => e = .returned (.tuple #[]) ∧ HpAt w' base X S A F l (swI hs i j) mb v ∧ Kept w w' S S := by
  obtain ⟨g, c, rfl, _⟩ := h.some_form (by omega)
  exact sswap_any h hi hj
/-- A heap behind a call. -/
structure HeapPost (base X : Nat) (S : Nat → Prop) (A F : Int) (l : List (Int × En)) (hs : List Int) (n mb : Nat) (v : Value) (w w' : World) : Prop where
  ex : ∃ hs', HpAt w' base X S A F l hs' mb v ∧ Kept w w' S S ∧ hs'.Perm hs ∧ HeapN hs' n
set_option maxHeartbeats 2000000 in
set_option maxRecDepth 100000 in
theorem hup_any (h : HpAt w base X S A F l hs mb v) {j : Nat} (hu : UpI hs j) (hl : hs.length ≤ 1099511627776) : Calls Try.prog 31 #[.iface 57 (whW X), .int .i64 (j : Int)] w fun e w' => e = .returned (.tuple #[]) ∧ HeapPost base X S A F l hs hs.length mb v w w' := by
  have H0 : Hid (HpAt w base X S A F l hs mb v ∧ UpI hs j) := (show Hid (HpAt w base X S A F l hs mb v ∧ UpI hs j) from (⟨h, hu⟩ : _ ∧ _))
  clear h hu
  go_enter Try.func31, Try.ntmps31
  go_wp2
  go_loopw [1] (fun s1 wr => ∃ (j' : Nat) (hs' : List Int), s1 = .int .i64 (j' : Int) ∧ Hid (HpAt wr base X S A F l hs' mb v ∧ Kept w wr S S ∧ hs'.Perm hs ∧ UpI hs' j')) (fun s1 _ => (intOf s1).toNat)
  case atStart => exact ⟨j, hs, rfl, (show Hid _ from (⟨H0.out.1, Kept.refl _ _, List.Perm.refl _, H0.out.2⟩ : _ ∧ _ ∧ _ ∧ _))⟩
  case round =>
    obtain ⟨j', hs', rfl, HI⟩ := hrel
    have hlen : hs'.length = hs.length := HI.out.2.2.1.length_eq
    have hjl := HI.out.2.2.2.lt
    obtain ⟨p, hp⟩ : ∃ p, p = parI j' := ⟨_, rfl⟩
    have q1 : IntKind.i64.wrap ((j' : Int) - 1) = (j' : Int) - 1 := by rw [IntKind.wrap_i64]; omega
    have q2 : ((j' : Int) - 1).tdiv 2 = (p : Int) := by
      rw [hp]
      unfold parI
      by_cases h0 : j' = 0
      · rw [h0]; decide
      · rw [Int.tdiv_eq_ediv_of_nonneg (by omega)]
        omega
    have q3 : IntKind.i64.wrap (p : Int) = (p : Int) := by rw [IntKind.wrap_i64]; rw [hp]; unfold parI; omega
    have HP : Hid (p = parI j') := hp
    by_cases h0 : j' = 0
    · have e0 : p = 0 := by rw [hp, h0]; rfl
      have t1 : ((p : Int) == (j' : Int)) = true := by rw [e0, h0]; rfl
      have HE : Hid (j' = 0) := h0
      clear hp h0 e0 hlen hjl
      go_wp2
      go_end0
      refine ⟨rfl, hs', HI.out.1, HI.out.2.1, HI.out.2.2.1, ?_⟩
      have := HI.out.2.2.2
      rw [HE.out] at this
      rw [← HI.out.2.2.1.length_eq]
      exact this.top
    · have hpj : p < j' := by rw [hp]; unfold parI; omega
      have t1 : ((p : Int) == (j' : Int)) = false := by simp; omega
      have m1 := meth_less (HI.out.1.cell 3 v rfl)
      have HB : Hid (0 < j' ∧ p < j' ∧ j' < hs'.length) := (show Hid _ from (⟨by omega, hpj, hjl⟩ : _ ∧ _ ∧ _))
      by_cases hc : atI hs' j' < atI hs' p
      · have HC : Hid (Calls Try.prog 52 #[v, .int .i64 (j' : Int), .int .i64 (p : Int)] wr fun e w' => e = .returned (.bool true) ∧ Below wr.heap.size wr w') := sless_yes HI.out.1 (by omega) (by omega) hc
        have HX : Hid (atI hs' j' < atI hs' p) := hc
        clear hp h0 hlen hjl hpj hc
        go_wp2_with (first
          | (go_at_call 53; refine Calls.mono (sswap_v H2.out (i := p) (j := j') (by have := HB.out; omega) (by have := HB.out; omega)) ?_; rintro e w3 ⟨rfl, h3, k3⟩; have H3 : Hid _ := h3; have K3 : Hid _ := k3; clear h3 k3)
          | (go_at_call 52; refine Calls.mono HC.out ?_; rintro e w2 ⟨rfl, b2⟩; have H2 : Hid _ := HI.out.1.fresh b2; have B2 : Hid _ := b2; clear b2; have m2 := meth_swap (H2.out.cell 3 v rfl)))
        go_roundw
        case rel =>
          refine ⟨p, swI hs' p j', rfl, (show Hid _ from (⟨H3.out, HI.out.2.1.trans ((Kept.of B2.out).trans K3.out), ?_, ?_⟩ : _ ∧ _ ∧ _ ∧ _))⟩
          · exact (swI_perm (by have := HB.out; omega) (by have := HB.out; omega)).trans HI.out.2.2.1
          · have hs1 := HI.out.2.2.2.step HB.out.1
            rw [← HP.out] at hs1
            exact hs1 HX.out
        case measure => have := HB.out; simp [intOf]; omega
      · have HC : Hid (Calls Try.prog 52 #[v, .int .i64 (j' : Int), .int .i64 (p : Int)] wr fun e w' => e = .returned (.bool false) ∧ Below wr.heap.size wr w') := sless_no HI.out.1 (by omega) (by omega) hc
        have HX : Hid (atI hs' p ≤ atI hs' j') := (by omega : atI hs' p ≤ atI hs' j')
        clear hp h0 hlen hjl hpj hc
        go_wp2_with (go_at_call 52; refine Calls.mono HC.out ?_; rintro e w2 ⟨rfl, b2⟩; have B2 : Hid _ := b2; clear b2)
        go_end0
        refine ⟨rfl, hs', HI.out.1.fresh B2.out, HI.out.2.1.trans (Kept.of B2.out), HI.out.2.2.1, ?_⟩
        rw [← HI.out.2.2.1.length_eq]
        exact HI.out.2.2.2.stop (by rw [← HP.out]; exact HX.out)
end
end Go.Proofs.Ytnoappklbipdhaa
