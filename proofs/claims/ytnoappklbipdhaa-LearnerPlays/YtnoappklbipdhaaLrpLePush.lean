/-
  Package heap over the row of slots that wait: one put in, the least one taken out. The condition: fewer than 2^40 of them.
-/
import Derived.Test.YtnoappklbipdhaaLrpLeDown
namespace Go.Proofs.Ytnoappklbipdhaa
open Go.RowKit

section
variable {w : World} {base X : Nat} {S : Nat → Prop} {A F : Int} {l : List (Int × En)} {hs : List Int} {mb : Nat} {v : Value}
structure HPushPost (base X : Nat) (S : Nat → Prop) (A F : Int) (l : List (Int × En)) (hs : List Int) (x : Int) (mb : Nat) (w w' : World) : Prop where
  ex : ∃ S' v' hs', HpAt w' base X S' A F l hs' mb v' ∧ Kept w w' S S' ∧ hs'.Perm (hs ++ [x]) ∧ HeapN hs' hs'.length
set_option maxHeartbeats 2000000 in
set_option maxRecDepth 100000 in
theorem hpush_any (h : HpAt w base X S A F l hs mb v) (hh : HeapN hs hs.length) (hl : hs.length < 1099511627776) (x : Int) : Calls Try.prog 23 #[.iface 57 (whW X), .iface 3 (.int .i64 x)] w fun e w' => e = .returned (.tuple #[]) ∧ HPushPost base X S A F l hs x mb w w' := by
  have hb : base ≤ w.heap.size := Nat.le_of_lt (Nat.lt_of_le_of_lt (h.lo X h.inX) (lt_of_block h.blk))
  have HP : Hid _ := spush_any h hb (by omega) x
  have HL : Hid (hs.length < 1099511627776) := hl
  have HH : Hid (HeapN hs hs.length) := hh
  have m0 := meth_push w X
  obtain ⟨n, hn⟩ : ∃ n, n = hs.length := ⟨_, rfl⟩
  have q1 : IntKind.i64.wrap ((n + 1 : Nat) - 1 : Int) = (n : Int) := by rw [IntKind.wrap_i64]; omega
  have e1 : ((n + 1 : Nat) : Int) - 1 = (n : Int) := by omega
  have q2 : IntKind.i64.wrap (n : Int) = (n : Int) := by rw [IntKind.wrap_i64]; omega
  have HN : Hid (n = hs.length) := hn
  clear h hb hl hh hn
  go_enter Try.func23, Try.ntmps23
  go_wp2_with (first
    | (go_at_call 31; refine Calls.mono (hup_any H2.out (j := n) (by rw [HN.out]; exact UpI.start HH.out x) (by have := HL.out; simp; omega)) ?_; rintro e w4 ⟨rfl, ⟨hs4, h4, k4, p4, hp4⟩⟩; have H4 : Hid (HpAt w4 base X S2 A F l hs4 mb (.slice a2 (n + 1) c2) ∧ Kept w w4 S S2 ∧ hs4.Perm (hs ++ [x]) ∧ HeapN hs4 hs4.length) := (show Hid _ from (⟨h4, K2.out.trans k4, p4, by rw [p4.length_eq]; exact hp4⟩ : _ ∧ _ ∧ _ ∧ _)); clear h4 k4 p4 hp4)
    | (go_at_call 51; refine Calls.mono (slen_any _ a2 (n + 1) c2) ?_; rintro e w3 ⟨rfl, rfl⟩)
    | (go_at_call 55; refine Calls.mono HP.out ?_; rintro e w2 ⟨rfl, ⟨S2, v2, h2, k2⟩⟩; obtain ⟨a2, c2, e2⟩ := h2.form; rw [List.length_append, List.length_singleton, ← HN.out] at e2; subst e2; have m2 := meth_len (h2.cell 3 _ rfl); have H2 : Hid _ := h2; have K2 : Hid _ := k2; clear h2 k2))
  go_end0
  exact ⟨rfl, S2, _, hs4, H4.out⟩
theorem heap_take {l : List Int} {n : Nat} (h : HeapN l n) (hn : n ≤ l.length) : HeapN (l.take n) (l.take n).length := by
  have ha : ∀ k, k < n → atI (l.take n) k = atI l k := fun k hk => by
    unfold atI
    rw [List.getD_eq_getElem?_getD, List.getD_eq_getElem?_getD, List.getElem?_take, if_pos hk]
  intro k k0 hk
  rw [List.length_take] at hk
  rw [ha k (by omega), ha (parI k) (by unfold parI; omega)]
  exact h k k0 (by omega)
theorem perm_take {l : List Int} {n : Nat} (hn : l.length = n + 1) : l.Perm (atI l n :: l.take n) := by
  have e : l = l.take n ++ [atI l n] := by
    conv => lhs; rw [← List.take_append_drop n l]
    congr 1
    rw [List.drop_eq_getElem_cons (by omega), atI_get (by omega), List.drop_of_length_le (by omega)]
  conv => lhs; rw [e]
  exact List.perm_append_singleton _ _
structure HPopPost (base X : Nat) (S : Nat → Prop) (A F : Int) (l : List (Int × En)) (hs : List Int) (mb : Nat) (w w' : World) : Prop where
  ex : ∃ v' hs', HpAt w' base X S A F l hs' mb v' ∧ Kept w w' S S ∧ hs.Perm (atI hs 0 :: hs') ∧ HeapN hs' hs'.length
set_option maxHeartbeats 2000000 in
set_option maxRecDepth 100000 in
theorem hpop_any (h : HpAt w base X S A F l hs mb v) (hh : HeapN hs hs.length) (h0 : 0 < hs.length) (hl : hs.length < 1099511627776) : Calls Try.prog 27 #[.iface 57 (whW X)] w fun e w' => (∃ T x, e = .returned (.iface T x)) ∧ HPopPost base X S A F l hs mb w w' := by
  obtain ⟨g, c, rfl, _⟩ := h.some_form h0
  obtain ⟨n, hn⟩ : ∃ n, n = hs.length - 1 := ⟨_, rfl⟩
  have hn1 : hs.length = n + 1 := by omega
  have q1 : IntKind.i64.wrap ((hs.length : Int) - 1) = (n : Int) := by rw [IntKind.wrap_i64]; omega
  have m1 := meth_len (h.cell 3 _ rfl)
  have m2 := meth_swap (h.cell 3 _ rfl)
  have HS : Hid (Calls Try.prog 53 #[.slice (some ⟨g, 0, none⟩) hs.length c, .int .i64 0, .int .i64 (n : Int)] w fun e w' => e = .returned (.tuple #[]) ∧ HpAt w' base X S A F l (swI hs 0 n) mb (.slice (some ⟨g, 0, none⟩) hs.length c) ∧ Kept w w' S S) := sswap_v h (i := 0) h0 (by omega)
  have HD : Hid (DownI (swI hs 0 n) n 0) := by
    have := DownI.start hh h0
    rw [← hn] at this
    exact this
  have HL : Hid (hs.length < 1099511627776) := hl
  have HN : Hid (hs.length = n + 1) := hn1
  clear h hh h0 hl hn hn1
  go_enter Try.func27, Try.ntmps27
  go_wp2_with (first
    | (go_at_call 54; refine Calls.mono (spop_any (H3.out.1) (by have := HN.out; have := H3.out.2.2.1.length_eq; rw [swI_len] at this; omega) (by have := HL.out; have := H3.out.2.2.1.length_eq; rw [swI_len] at this; omega)) ?_; rintro e w4 ⟨⟨T4, x4, rfl⟩, h4, k4⟩; have H4 : Hid _ := h4; have K4 : Hid _ := k4; clear h4 k4)
    | (go_at_call 32; refine Calls.mono (hdown_any H2.out HD.out (by have := HL.out; rw [swI_len]; omega)) ?_; rintro e w3 ⟨⟨b3, rfl⟩, ⟨hs3, h3, k3, p3, hp3, o3⟩⟩; have hl3 : hs3.length = hs.length := (by rw [p3.length_eq, swI_len]); rw [← hl3] at h3; have m3 := meth_pop w3 X; have H3 : Hid (HpAt w3 base X S A F l hs3 mb (.slice (some ⟨g, 0, none⟩) hs3.length c) ∧ Kept w w3 S S ∧ hs3.Perm (swI hs 0 n) ∧ HeapN hs3 n ∧ atI hs3 n = atI (swI hs 0 n) n) := (show Hid _ from (⟨h3, K2.out.trans k3, p3, hp3, o3 n (Nat.le_refl _)⟩ : _ ∧ _ ∧ _ ∧ _ ∧ _)); clear h3 k3 p3 hp3 o3 hl3)
    | (go_at_call 53; refine Calls.mono HS.out ?_; rintro e w2 ⟨rfl, h2, k2⟩; have H2 : Hid _ := h2; have K2 : Hid _ := k2; clear h2 k2)
    | (go_at_call 51; refine Calls.mono (slen_any _ _ _ _) ?_; rintro e w1 ⟨rfl, rfl⟩))
  go_ret
  have hl3 : hs3.length = n + 1 := by rw [H3.out.2.2.1.length_eq, swI_len, HN.out]
  refine ⟨⟨_, _, rfl⟩, _, hs3.take (hs3.length - 1), H4.out, H3.out.2.1.trans K4.out, ?_, ?_⟩
  · have e0 : atI hs3 n = atI hs 0 := by
      rw [H3.out.2.2.2.2, swI_at (by have := HN.out; omega) (by have := HN.out; omega), if_pos rfl]
    rw [← e0, hl3, Nat.add_sub_cancel]
    exact (swI_perm (by have := HN.out; omega) (by have := HN.out; omega)).symm.trans (H3.out.2.2.1.symm.trans (perm_take hl3))
  · rw [hl3, Nat.add_sub_cancel]
    exact heap_take H3.out.2.2.2.1 (by omega)
end
end Go.Proofs.Ytnoappklbipdhaa
