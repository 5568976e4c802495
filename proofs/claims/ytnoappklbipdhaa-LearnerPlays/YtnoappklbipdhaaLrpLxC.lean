/-
  The document's learner: an entry learned. The conditions: at most 2^29 entries; an int's slot.
-/
import Derived.Test.YtnoappklbipdhaaLrpLxB
import Derived.Test.YtnoappklbipdhaaLrpPack5
import Derived.Deep.RegionHeld3
namespace Go.Proofs.Ytnoappklbipdhaa
open Go.RowKit

theorem RlPost.back {w w1 w2 : World} {base X : Nat} {S S1 : Nat → Prop} {q : Ln × List En} {e : Ending} (k : Kept w w1 S S1) (h : RlPost w1 base X S1 q e w2) : RlPost w base X S q e w2 := by
  obtain ⟨S', g, e1, h1, h2, h3⟩ := h.ex
  exact ⟨S', g, e1, h1, k.trans h2, h3.row, fun bk off m c h0 e2 => by have h4 := h3.new bk off m c h0 e2; have := k.size; exact ⟨by omega, h4.2⟩⟩
section
variable {P : Program} {md : Region.Mode} {Q : Exit → Act → World → Prop} {S : World → Prop} {fuel : Nat} {listed : Array Bool} {a : Act} {w : World} {l : List Oper}
theorem rd4_7 {o0 o1 o2 o3 o4 o5 o6 o7 : Oper} (hr : Region.ready md (o0 :: o1 :: o2 :: o3 :: o4 :: o5 :: o6 :: o7 :: l).toArray listed = [4, 7]) (hw0 : Region.wanted o4 (yielded (o0 :: o1 :: o2 :: o3 :: o4 :: o5 :: o6 :: o7 :: l).toArray a.tmps) = true) (hw1 : Region.wanted o7 (yielded (o0 :: o1 :: o2 :: o3 :: o4 :: o5 :: o6 :: o7 :: l).toArray a.tmps) = true)
    (h0 : ∀ K' : Act → World → Prop, Shut (∀ a w, S w → (S w → wpAnyH P md (o0 :: o1 :: o2 :: o3 :: o4 :: o5 :: o6 :: o7 :: l).toArray Q S fuel (listed.setIfInBounds 4 true) a w) → K' a w) → Oper.wp P o4 a w K' Q)
    (h1 : ∀ K' : Act → World → Prop, Shut (∀ a w, S w → (S w → wpAnyH P md (o0 :: o1 :: o2 :: o3 :: o4 :: o5 :: o6 :: o7 :: l).toArray Q S fuel (listed.setIfInBounds 7 true) a w) → K' a w) → Oper.wp P o7 a w K' Q) : wpAnyH P md (o0 :: o1 :: o2 :: o3 :: o4 :: o5 :: o6 :: o7 :: l).toArray Q S (fuel + 1) listed a w :=
  wpAnyH_ready hr (by simp) (AllReadyH.cons (o := o4) rfl (fun K hK => by rw [if_pos hw0]; exact h0 K hK) (AllReadyH.cons (o := o7) rfl (fun K hK => by rw [if_pos hw1]; exact h1 K hK) AllReadyH.nil))
theorem rd5_7 {o0 o1 o2 o3 o4 o5 o6 o7 : Oper} (hr : Region.ready md (o0 :: o1 :: o2 :: o3 :: o4 :: o5 :: o6 :: o7 :: l).toArray listed = [5, 7]) (hw0 : Region.wanted o5 (yielded (o0 :: o1 :: o2 :: o3 :: o4 :: o5 :: o6 :: o7 :: l).toArray a.tmps) = true) (hw1 : Region.wanted o7 (yielded (o0 :: o1 :: o2 :: o3 :: o4 :: o5 :: o6 :: o7 :: l).toArray a.tmps) = true)
    (h0 : ∀ K' : Act → World → Prop, Shut (∀ a w, S w → (S w → wpAnyH P md (o0 :: o1 :: o2 :: o3 :: o4 :: o5 :: o6 :: o7 :: l).toArray Q S fuel (listed.setIfInBounds 5 true) a w) → K' a w) → Oper.wp P o5 a w K' Q)
    (h1 : ∀ K' : Act → World → Prop, Shut (∀ a w, S w → (S w → wpAnyH P md (o0 :: o1 :: o2 :: o3 :: o4 :: o5 :: o6 :: o7 :: l).toArray Q S fuel (listed.setIfInBounds 7 true) a w) → K' a w) → Oper.wp P o7 a w K' Q) : wpAnyH P md (o0 :: o1 :: o2 :: o3 :: o4 :: o5 :: o6 :: o7 :: l).toArray Q S (fuel + 1) listed a w :=
  wpAnyH_ready hr (by simp) (AllReadyH.cons (o := o5) rfl (fun K hK => by rw [if_pos hw0]; exact h0 K hK) (AllReadyH.cons (o := o7) rfl (fun K hK => by rw [if_pos hw1]; exact h1 K hK) AllReadyH.nil))
end
section
variable {w : World} {base X : Nat} {S : Nat → Prop} {p : Ln} {n : Nat} {u : Value}
set_option maxHeartbeats 3200000 in
set_option maxRecDepth 100000 in
theorem rlearn_any (h : RlV w base X S p u) (hok : LnOk p n) (hn : n < 1073741824) (e : En) (h1 : e.slot ≤ MXi) (h2 : e.cmd.name.size ≤ 281474976710656) : Calls Try.prog 10 #[.pointer (some ⟨X, 0, none⟩), .agg (enA e)] w (RlPost w base X S (leaL p e)) := by
  obtain ⟨W0, hW0⟩ : ∃ W0, W0 = w.alloc (.cells (enA e) 30) := ⟨_, rfl⟩
  have b0 : Below w.heap.size w W0 := by rw [hW0]; exact (Below.refl _ w).alloc (Nat.le_refl _) _
  have x0 : EnBx W0 w.heap.size e := by rw [hW0]; exact heap_alloc_new w _
  have hA0 := h.fresh b0
  have HW : Hid (w.alloc (.cells (enA e) 30) = W0) := hW0.symm
  have c0 : W0.cell? ⟨X, 0, none⟩ = some (.int .i64 p.ap) := hA0.c0
  have ce : W0.cell? ⟨w.heap.size, 0, none⟩ = some (.int .i64 e.slot) := x0.c 0 _ rfl
  have hln := hok.ln
  have HFd : Hid (∀ y, Below W0.heap.size W0 y → Calls Try.prog 25 #[.pointer (some ⟨X, 0, none⟩), .int .i64 e.slot] y (FdPost y p.l e.slot)) := fun y b => rfind_any (hA0.fresh b) (by omega) e.slot
  have HA : Hid (RlV w base X S p u ∧ RlV W0 base X S p u ∧ LnOk p n ∧ n < 1073741824) := (show Hid _ from (⟨h, hA0, hok, hn⟩ : _ ∧ _ ∧ _ ∧ _))
  have HB : Hid (Below w.heap.size w W0 ∧ EnBx W0 w.heap.size e) := (show Hid _ from (⟨b0, x0⟩ : _ ∧ _))
  have HE : Hid (e.slot ≤ MXi ∧ e.cmd.name.size ≤ 281474976710656) := (show Hid _ from (⟨h1, h2⟩ : _ ∧ _))
  by_cases hap : e.slot ≤ p.ap
  · have t1 : decide (e.slot ≤ p.ap) = true := decide_eq_true hap
    have e1 : leaL p e = (p, []) := by unfold leaL; rw [if_pos (Or.inl hap)]
    rw [e1]
    clear hW0 b0 x0 hA0 hok h hap e1 h1 h2 hln hn
    go_enter Try.func10, Try.ntmps10
    go_upto_region 1 with fail
    rw [HW.out]
    go_quiet (fail)
    go_wp2
    go_ret
    have b1 := bmm HB.out.1 HB.out.1.size (below_drewN (Below.refl _ W0) nq)
    exact ⟨S, _, rfl, ⟨_, HA.out.1.fresh b1⟩, Kept.of b1, AnsE.nil _ _ _⟩
  · have t1 : decide (e.slot ≤ p.ap) = false := decide_eq_false hap
    by_cases hf : (leF p.l e.slot).isSome = true
    · have e1 : leaL p e = (p, []) := by unfold leaL; rw [if_pos (Or.inr hf)]
      rw [e1]
      have HL : Hid (leF p.l e.slot ≠ none) := (fun h9 => by rw [h9] at hf; simp at hf : leF p.l e.slot ≠ none)
      clear hW0 b0 x0 hA0 hok h hap e1 h1 h2 hln hn hf
      go_enter Try.func10, Try.ntmps10
      go_upto_region 1 with fail
      rw [HW.out]
      go_region_held3 (fun y => y.cell? ⟨w.heap.size, 0, none⟩ = some (.int .i64 e.slot) ∧ y.cell? ⟨X, 0, none⟩ = some (.int .i64 p.ap)) (go_keep) (first | (go_at_call 25; refine Calls.mono (HFd.out _ (Below.refl _ _).drew) ?_; rintro r w2 ⟨⟨k, rfl, hk⟩, hw2⟩; rw [hw2]; clear hw2; obtain ⟨j, hj, rfl, hnn⟩ := hk.resolve_left (fun h9 => HL.out h9.2); have t2 : decide ((0 : Int) ≤ (j : Int)) = true := decide_eq_true (by omega); clear hk hj hnn))
      go_wp2
      go_ret
      have b1 := HB.out.1.drew
      exact ⟨S, _, rfl, ⟨_, HA.out.1.fresh b1⟩, Kept.of b1, AnsE.nil _ _ _⟩
    · have hno : leF p.l e.slot = none := by
        cases hf2 : leF p.l e.slot with
        | none => rfl
        | some y => rw [hf2] at hf; simp at hf
      have e1 : leaL p e = folL ⟨p.ap, p.l ++ [e]⟩ := by
        unfold leaL
        rw [if_neg]
        rintro (h9 | h9)
        · exact hap h9
        · exact hf h9
      rw [e1]
      have HL : Hid (leF p.l e.slot = none) := hno
      have HP : Hid (p.ap < e.slot) := (by omega : p.ap < e.slot)
      clear hW0 b0 x0 hA0 hok h hap e1 h1 h2 hln hn hf hno
      go_enter Try.func10, Try.ntmps10
      go_upto_region 1 with fail
      rw [HW.out]
      go_region_held3 (fun y => y.cell? ⟨w.heap.size, 0, none⟩ = some (.int .i64 e.slot) ∧ y.cell? ⟨X, 0, none⟩ = some (.int .i64 p.ap)) (go_keep) (first | (go_at_call 25; refine Calls.mono (HFd.out _ (Below.refl _ _).drew) ?_; rintro r w2 ⟨⟨k, rfl, hk⟩, hw2⟩; rw [hw2]; clear hw2; obtain ⟨rfl, hnn⟩ := hk.resolve_right (fun h9 => by obtain ⟨j, hj, _, hnn⟩ := h9; exact absurd (HL.out.symm.trans hnn) (by simp)); clear hk hnn))
      go_upto_region 3 with fail
      obtain ⟨i0, hi, hz0, hz1, hz2⟩ := info_parts infoEn
      obtain ⟨va, vc, hu⟩ := HA.out.2.1.form
      have HX0 : Hid (OwnEn W0 base u p.l) := HA.out.2.1.own
      obtain ⟨W1, hW1⟩ : ∃ W1, W1 = W0.drew := ⟨_, rfl⟩
      have b1 : Below W0.heap.size W0 W1 := by rw [hW1]; exact (Below.refl _ _).drew
      have hA1 : RlV W1 base X S p u := HA.out.2.1.fresh b1
      rw [hu] at hA1
      have x1 : EnBx W1 w.heap.size e := (b1.block _ (lt_of_block HB.out.2)).trans HB.out.2
      have HA1 : Hid (RlV W1 base X S p (.slice va p.l.length vc)) := hA1
      have HB1 : Hid (Below W0.heap.size W0 W1) := b1
      have HLN : Hid (p.l.length ≤ 1073741824) := Nat.le_trans HA.out.2.2.1.ln (Nat.le_of_lt HA.out.2.2.2)
      have HXE : Hid (w.heap.size ≠ X) := (by have := HA.out.1.lt; omega : w.heap.size ≠ X)
      have HOK : Hid (LnOk ⟨p.ap, p.l ++ [e]⟩ (n + 1) ∧ n + 1 ≤ 1073741824) := (show Hid _ from (⟨HA.out.2.2.1.put (by have := HP.out; have := HA.out.2.2.1.ap; omega) HE.out.1 HE.out.2, HA.out.2.2.2⟩ : _ ∧ _))
      have HC : Hid (∀ y, Below W1.heap.size W1 y → y.cell? ⟨X, 1, none⟩ = some (.slice va p.l.length vc) ∧ y.frozen? ⟨X, 1, none⟩ = false ∧ EnBx y w.heap.size e ∧ RowAt enC y (.slice va p.l.length vc) p.l) := fun y b => ⟨(hA1.fresh b).c1, (hA1.fresh b).fz 1, (b.block _ (lt_of_block x1)).trans x1, OwnEn.row (hA1.fresh b).own⟩
      rw [← hW1]
      clear hW1 hA1 x1 b1 hu c0 ce
      refine wp_region_held_drew (S := (fun y : World => EnBx y w.heap.size e)) (by kernel_rfl) ?_ (fun hHeld0 => ?_)
      · exact (HC.out _ (Below.refl _ _).drew).2.2.1
      refine tk0 (.pointer (some ⟨X, 0, none⟩)) (by kernel_rfl) (by kernel_rfl) (by kernel_rfl) (fun _ _ _ h => h) rfl (fun w hSw => by (try dsimp only at hSw); have s0 := hSw; go_simp) (by assumption) ?_
      try simp only [Act.put, List.setIfInBounds_toArray, List.set_cons_zero, List.set_cons_succ]
      refine tk1 (.pointer (some ⟨X, 0, none⟩)) (by kernel_rfl) (by kernel_rfl) (by kernel_rfl) (fun _ _ _ h => h) rfl (fun w hSw => by (try dsimp only at hSw); have s0 := hSw; go_simp) (by assumption) ?_
      try simp only [Act.put, List.setIfInBounds_toArray, List.set_cons_zero, List.set_cons_succ]
      refine tk2 (.pointer (some ⟨X, 0, none⟩)) (by kernel_rfl) (by kernel_rfl) (by kernel_rfl) (fun _ _ _ h => h) rfl (fun w hSw => by (try dsimp only at hSw); have s0 := hSw; go_simp) (by assumption) ?_
      try simp only [Act.put, List.setIfInBounds_toArray, List.set_cons_zero, List.set_cons_succ]
      refine tk3 (.pointer (some ⟨X, 1, none⟩)) (by kernel_rfl) (by kernel_rfl) (by kernel_rfl) (fun _ _ _ h => h) rfl (fun w hSw => by (try dsimp only at hSw); have s0 := hSw; go_simp) (by assumption) ?_
      try simp only [Act.put, List.setIfInBounds_toArray, List.set_cons_zero, List.set_cons_succ]
      refine tk6 (.agg (enA e)) (by kernel_rfl) (by kernel_rfl) (by kernel_rfl) (fun _ _ _ h => h) rfl (fun w hSw => by (try dsimp only at hSw); have s0 := hSw; have a0 := s0.c 0 _ rfl; have a1 := s0.c 1 _ rfl; have a2 := s0.c 2 _ rfl; have a3 := s0.c 3 _ rfl; have a4 := s0.c 4 _ rfl; have a5 := s0.c 5 _ rfl; have a6 := s0.c 6 _ rfl; go_simp) (by assumption) ?_
      try simp only [Act.put, List.setIfInBounds_toArray, List.set_cons_zero, List.set_cons_succ]
      refine rd4_7 (by kernel_rfl) rfl rfl (fun K hK => ?_) (fun K hK => ?_)
      · have c1 := (HC.out W1.drew (Below.refl _ _).drew).1
        go_simp
        refine hK.out _ _ ?_ (fun hHeld => ?_)
        · exact (HC.out _ (Below.refl _ _).drew).2.2.1
        clear hK K
        try simp only [Act.put, List.setIfInBounds_toArray, List.set_cons_zero, List.set_cons_succ]
        refine rd5_7 (by kernel_rfl) rfl rfl (fun K hK => ?_) (fun K hK => ?_)
        · refine wp_app_row (k := 7) (enc := enC) (l := p.l) (.const (.slice none 0 0)) (.tmp 23) 33 30 rfl i0 _ 64 Try.underlying33 hi hz0 hz1 hz2 rfl (by decide) enC_len enC_one (base := W1.heap.size) rfl rfl (World.ownsRow_nil _ _ _ _) (HC.out W1.drew (Below.refl _ _).drew).2.2.2 (Nat.le_refl _) (by have := HLN.out; omega) (by have := HLN.out; omega) ?_
          intro u5 y5 o5 a5
          have b5 : Below W1.heap.size W1 y5 := ((Below.refl _ _).drew).trans a5.below
          have o5n : OwnEn y5 W1.heap.size u5 p.l := by simpa using o5
          obtain ⟨p5, c5, hu5⟩ : ∃ a c, u5 = .slice a p.l.length c := (OwnEn.row o5n).form
          subst hu5
          have x5 := (HC.out y5 b5).2.2.1
          have O5 : Hid (OwnEn y5 W1.heap.size (.slice p5 p.l.length c5) p.l) := o5n
          have B5 : Hid (Below W1.heap.size W1 y5) := b5
          clear o5 a5 b5 o5n
          refine hK.out _ _ ?_ (fun hHeld => ?_)
          · exact x5
          clear hK K
          try simp only [Act.put, List.setIfInBounds_toArray, List.set_cons_zero, List.set_cons_succ]
          refine cl7 (by kernel_rfl) rfl (fun K hK => ?_)
          go_simp
          obtain ⟨y57, hy7⟩ : ∃ y, y = y5.alloc (.cells (enA e) 30) := ⟨_, rfl⟩
          have b7 : Below W1.heap.size W1 y57 := by rw [hy7]; exact (B5.out).alloc B5.out.size _
          have r7 : RowAt enC y57 (.slice (some ⟨y5.heap.size, 0, none⟩) 1 1) [e] := by rw [hy7]; exact RowAt.built (heap_alloc_new y5 _) rfl 1 rfl rfl
          have o5n : OwnEn y57 W1.heap.size (.slice p5 p.l.length c5) p.l := by rw [hy7]; exact World.ownsRow.alloc O5.out _
          have HY7 : Hid (y5.alloc (.cells #[.int .i64 e.slot, .int .i64 e.ballot, .int .i64 e.cmd.kind, .int .i64 e.cmd.session, .int .i64 e.cmd.seq, .string e.cmd.name, .int .i64 e.cmd.n] 30) = y57) := hy7.symm
          obtain ⟨B7n, hB7⟩ : ∃ B, B = y5.heap.size := ⟨_, rfl⟩
          rw [← hB7] at r7
          have lt7 : B7n < y57.heap.size := by rw [hB7, hy7]; simp
          have ge7 : W1.heap.size ≤ B7n := by rw [hB7]; exact B5.out.size
          rw [HY7.out]
          rw [show y5.heap.size = B7n from hB7.symm]
          have x7 := (HC.out y57 b7).2.2.1
          have c1 := (HC.out y57 b7).1
          have O57 : Hid _ := o5n
          clear o5n
          have R7b : Hid (RowAt enC y57 (.slice (some ⟨B7n, 0, none⟩) 1 1) [e] ∧ W1.heap.size ≤ B7n) := (show Hid _ from (⟨r7, ge7⟩ : _ ∧ _))
          have B7 : Hid (Below W1.heap.size W1 y57) := b7
          clear hy7 hB7 b7 r7 lt7 ge7
          refine hK.out _ _ ?_ (fun hHeld => ?_)
          · exact x7
          clear hK K
          try simp only [Act.put, List.setIfInBounds_toArray, List.set_cons_zero, List.set_cons_succ]
          refine cl8 (by kernel_rfl) rfl (fun K hK => ?_)
          refine wp_app_row (k := 7) (enc := enC) (l := [e]) (.tmp 24) (.tmp 26) 33 30 rfl i0 _ 64 Try.underlying33 hi hz0 hz1 hz2 rfl (by decide) enC_len enC_one (base := W1.heap.size) rfl rfl O57.out R7b.out.1 B7.out.size (by have := HLN.out; simp; omega) (by have := HLN.out; simp; omega) ?_
          intro u8 y8 o8 a8
          have b8 : Below W1.heap.size W1 y8 := B7.out.trans a8.below
          have o8n : OwnEn y8 W1.heap.size u8 (p.l ++ [e]) := by rw [OwnEn, List.length_append, rowL_append]; exact o8
          obtain ⟨p8, n8, c8, rfl⟩ := own_form o8n
          have c1 := (HC.out y8 b8).1
          have f1 := (HC.out y8 b8).2.1
          have x8 := (HC.out y8 b8).2.2.1
          have O8 : Hid _ := o8n
          have B8 : Hid _ := b8
          clear o8 a8 o8n b8
          refine hK.out _ _ ?_ (fun hHeld => ?_)
          · exact x8
          clear hK K
          try simp only [Act.put, List.setIfInBounds_toArray, List.set_cons_zero, List.set_cons_succ]
          refine tk9 (.pointer (some ⟨X, 0, none⟩)) (by kernel_rfl) (by kernel_rfl) (by kernel_rfl) (fun _ _ _ h => h) rfl (fun w hSw => by (try dsimp only at hSw); have s0 := hSw; go_simp) (by assumption) ?_
          try simp only [Act.put, List.setIfInBounds_toArray, List.set_cons_zero, List.set_cons_succ]
          refine tk10 (.pointer (some ⟨X, 1, none⟩)) (by kernel_rfl) (by kernel_rfl) (by kernel_rfl) (fun _ _ _ h => h) rfl (fun w hSw => by (try dsimp only at hSw); have s0 := hSw; go_simp) (by assumption) ?_
          try simp only [Act.put, List.setIfInBounds_toArray, List.set_cons_zero, List.set_cons_succ]
          refine cl11 (by kernel_rfl) rfl (fun K hK => ?_)
          go_simp
          refine hK.out _ _ ?_ (fun hHeld => ?_)
          · exact (heap_setCell_other _ _ _ _ (fun e9 => HXE.out e9)).trans x8
          clear hK K
          try simp only [Act.put, List.setIfInBounds_toArray, List.set_cons_zero, List.set_cons_succ]
          refine wpAnyH_done (by kernel_rfl) ?_ _
          obtain ⟨hA9, k9⟩ := HA1.out.set1 B8.out O8.out
          obtain ⟨y9, hy9⟩ : ∃ y, y = y8.setCell ⟨X, 1, none⟩ (.slice p8 n8 c8) := ⟨_, rfl⟩
          rw [← hy9] at hA9 k9
          rw [← hy9]
          have HA9 : Hid (RlV y9 base X (fun b => b = X ∨ (Value.slice p8 n8 c8).ownBlock = some b) ⟨p.ap, p.l ++ [e]⟩ (.slice p8 n8 c8)) := hA9
          have K9 : Hid (Kept w y9 S (fun b => b = X ∨ (Value.slice p8 n8 c8).ownBlock = some b)) := (Kept.of (HB.out.1.trans (HB1.out.mono HB.out.1.size))).trans k9
          clear hA9 k9 hy9
          go_wp2_with (go_at_call 26; refine Calls.mono (rfollow_any HA9.out HOK.out.1 HOK.out.2) ?_; intro r wF hF; have HF := hF.back K9.out; obtain ⟨S9, g9, rfl, h9⟩ := HF.ex; have H9 : Hid _ := h9; clear hF HF h9)
          go_ret
          exact ⟨S9, g9, rfl, H9.out⟩
        · go_simp
          obtain ⟨y7, hy7⟩ : ∃ y, y = W1.drew.alloc (.cells (enA e) 30) := ⟨_, rfl⟩
          have b7 : Below W1.heap.size W1 y7 := by rw [hy7]; exact ((Below.refl _ _).drew).alloc (Nat.le_refl _) _
          have r7 : RowAt enC y7 (.slice (some ⟨W1.drew.heap.size, 0, none⟩) 1 1) [e] := by rw [hy7]; exact RowAt.built (heap_alloc_new W1.drew _) rfl 1 rfl rfl
          have HY7 : Hid (W1.drew.alloc (.cells #[.int .i64 e.slot, .int .i64 e.ballot, .int .i64 e.cmd.kind, .int .i64 e.cmd.session, .int .i64 e.cmd.seq, .string e.cmd.name, .int .i64 e.cmd.n] 30) = y7) := hy7.symm
          obtain ⟨B7n, hB7⟩ : ∃ B, B = W1.drew.heap.size := ⟨_, rfl⟩
          rw [← hB7] at r7
          have lt7 : B7n < y7.heap.size := by rw [hB7, hy7]; simp
          have ge7 : W1.heap.size ≤ B7n := by rw [hB7]; exact (Nat.le_refl _)
          rw [show (W1.alloc (.cells #[.int .i64 e.slot, .int .i64 e.ballot, .int .i64 e.cmd.kind, .int .i64 e.cmd.session, .int .i64 e.cmd.seq, .string e.cmd.name, .int .i64 e.cmd.n] 30)).drew = y7 from hy7.symm]
          rw [show W1.heap.size = B7n from hB7.symm]
          have x7 := (HC.out y7 b7).2.2.1
          have c1 := (HC.out y7 b7).1
          have R7 : Hid (RowAt enC y7 (.slice (some ⟨B7n, 0, none⟩) 1 1) [e] ∧ W1.heap.size ≤ B7n ∧ B7n < y7.heap.size) := (show Hid _ from (⟨r7, ge7, lt7⟩ : _ ∧ _ ∧ _))
          have B7 : Hid (Below W1.heap.size W1 y7) := b7
          clear hy7 hB7 b7 r7 lt7 ge7
          refine hK.out _ _ ?_ (fun hHeld => ?_)
          · exact x7
          clear hK K
          try simp only [Act.put, List.setIfInBounds_toArray, List.set_cons_zero, List.set_cons_succ]
          refine cl5 (by kernel_rfl) rfl (fun K hK => ?_)
          refine wp_app_row (k := 7) (enc := enC) (l := p.l) (.const (.slice none 0 0)) (.tmp 23) 33 30 rfl i0 _ 64 Try.underlying33 hi hz0 hz1 hz2 rfl (by decide) enC_len enC_one (base := W1.heap.size) rfl rfl (World.ownsRow_nil _ _ _ _) (HC.out y7 B7.out).2.2.2 B7.out.size (by have := HLN.out; omega) (by have := HLN.out; omega) ?_
          intro u5 y57 o5 a5
          have b5 : Below W1.heap.size W1 y57 := (B7.out).trans a5.below
          have o5n : OwnEn y57 W1.heap.size u5 p.l := by simpa using o5
          obtain ⟨p5, c5, hu5⟩ : ∃ a c, u5 = .slice a p.l.length c := (OwnEn.row o5n).form
          subst hu5
          have x5 := (HC.out y57 b5).2.2.1
          have O5 : Hid (OwnEn y57 W1.heap.size (.slice p5 p.l.length c5) p.l) := o5n
          have R7b : Hid (RowAt enC y57 (.slice (some ⟨B7n, 0, none⟩) 1 1) [e] ∧ W1.heap.size ≤ B7n) := (show Hid _ from (⟨R7.out.1.keep a5.below.size (fun bk off n c h0 e9 => by injection e9 with e9 _ _; injection e9 with e9; injection e9 with e9 _ _; rw [← e9]; exact a5.rest B7n R7.out.2.2 (show some B7n ≠ none by simp)), R7.out.2.1⟩ : _ ∧ _))
          have B5 : Hid (Below W1.heap.size W1 y57) := b5
          clear o5 a5 b5 o5n
          refine hK.out _ _ ?_ (fun hHeld => ?_)
          · exact x5
          clear hK K
          try simp only [Act.put, List.setIfInBounds_toArray, List.set_cons_zero, List.set_cons_succ]
          refine cl8 (by kernel_rfl) rfl (fun K hK => ?_)
          refine wp_app_row (k := 7) (enc := enC) (l := [e]) (.tmp 24) (.tmp 26) 33 30 rfl i0 _ 64 Try.underlying33 hi hz0 hz1 hz2 rfl (by decide) enC_len enC_one (base := W1.heap.size) rfl rfl O5.out R7b.out.1 B5.out.size (by have := HLN.out; simp; omega) (by have := HLN.out; simp; omega) ?_
          intro u8 y8 o8 a8
          have b8 : Below W1.heap.size W1 y8 := B5.out.trans a8.below
          have o8n : OwnEn y8 W1.heap.size u8 (p.l ++ [e]) := by rw [OwnEn, List.length_append, rowL_append]; exact o8
          obtain ⟨p8, n8, c8, rfl⟩ := own_form o8n
          have c1 := (HC.out y8 b8).1
          have f1 := (HC.out y8 b8).2.1
          have x8 := (HC.out y8 b8).2.2.1
          have O8 : Hid _ := o8n
          have B8 : Hid _ := b8
          clear o8 a8 o8n b8
          refine hK.out _ _ ?_ (fun hHeld => ?_)
          · exact x8
          clear hK K
          try simp only [Act.put, List.setIfInBounds_toArray, List.set_cons_zero, List.set_cons_succ]
          refine tk9 (.pointer (some ⟨X, 0, none⟩)) (by kernel_rfl) (by kernel_rfl) (by kernel_rfl) (fun _ _ _ h => h) rfl (fun w hSw => by (try dsimp only at hSw); have s0 := hSw; go_simp) (by assumption) ?_
          try simp only [Act.put, List.setIfInBounds_toArray, List.set_cons_zero, List.set_cons_succ]
          refine tk10 (.pointer (some ⟨X, 1, none⟩)) (by kernel_rfl) (by kernel_rfl) (by kernel_rfl) (fun _ _ _ h => h) rfl (fun w hSw => by (try dsimp only at hSw); have s0 := hSw; go_simp) (by assumption) ?_
          try simp only [Act.put, List.setIfInBounds_toArray, List.set_cons_zero, List.set_cons_succ]
          refine cl11 (by kernel_rfl) rfl (fun K hK => ?_)
          go_simp
          refine hK.out _ _ ?_ (fun hHeld => ?_)
          · exact (heap_setCell_other _ _ _ _ (fun e9 => HXE.out e9)).trans x8
          clear hK K
          try simp only [Act.put, List.setIfInBounds_toArray, List.set_cons_zero, List.set_cons_succ]
          refine wpAnyH_done (by kernel_rfl) ?_ _
          obtain ⟨hA9, k9⟩ := HA1.out.set1 B8.out O8.out
          obtain ⟨y9, hy9⟩ : ∃ y, y = y8.setCell ⟨X, 1, none⟩ (.slice p8 n8 c8) := ⟨_, rfl⟩
          rw [← hy9] at hA9 k9
          rw [← hy9]
          have HA9 : Hid (RlV y9 base X (fun b => b = X ∨ (Value.slice p8 n8 c8).ownBlock = some b) ⟨p.ap, p.l ++ [e]⟩ (.slice p8 n8 c8)) := hA9
          have K9 : Hid (Kept w y9 S (fun b => b = X ∨ (Value.slice p8 n8 c8).ownBlock = some b)) := (Kept.of (HB.out.1.trans (HB1.out.mono HB.out.1.size))).trans k9
          clear hA9 k9 hy9
          go_wp2_with (go_at_call 26; refine Calls.mono (rfollow_any HA9.out HOK.out.1 HOK.out.2) ?_; intro r wF hF; have HF := hF.back K9.out; obtain ⟨S9, g9, rfl, h9⟩ := HF.ex; have H9 : Hid _ := h9; clear hF HF h9)
          go_ret
          exact ⟨S9, g9, rfl, H9.out⟩
      · go_simp
        obtain ⟨y7, hy7⟩ : ∃ y, y = W1.drew.alloc (.cells (enA e) 30) := ⟨_, rfl⟩
        have b7 : Below W1.heap.size W1 y7 := by rw [hy7]; exact ((Below.refl _ _).drew).alloc (Nat.le_refl _) _
        have r7 : RowAt enC y7 (.slice (some ⟨W1.drew.heap.size, 0, none⟩) 1 1) [e] := by rw [hy7]; exact RowAt.built (heap_alloc_new W1.drew _) rfl 1 rfl rfl
        have HY7 : Hid (W1.drew.alloc (.cells #[.int .i64 e.slot, .int .i64 e.ballot, .int .i64 e.cmd.kind, .int .i64 e.cmd.session, .int .i64 e.cmd.seq, .string e.cmd.name, .int .i64 e.cmd.n] 30) = y7) := hy7.symm
        obtain ⟨B7n, hB7⟩ : ∃ B, B = W1.drew.heap.size := ⟨_, rfl⟩
        rw [← hB7] at r7
        have lt7 : B7n < y7.heap.size := by rw [hB7, hy7]; simp
        have ge7 : W1.heap.size ≤ B7n := by rw [hB7]; exact (Nat.le_refl _)
        rw [show (W1.alloc (.cells #[.int .i64 e.slot, .int .i64 e.ballot, .int .i64 e.cmd.kind, .int .i64 e.cmd.session, .int .i64 e.cmd.seq, .string e.cmd.name, .int .i64 e.cmd.n] 30)).drew = y7 from hy7.symm]
        rw [show W1.heap.size = B7n from hB7.symm]
        have x7 := (HC.out y7 b7).2.2.1
        have c1 := (HC.out y7 b7).1
        have R7 : Hid (RowAt enC y7 (.slice (some ⟨B7n, 0, none⟩) 1 1) [e] ∧ W1.heap.size ≤ B7n ∧ B7n < y7.heap.size) := (show Hid _ from (⟨r7, ge7, lt7⟩ : _ ∧ _ ∧ _))
        have B7 : Hid (Below W1.heap.size W1 y7) := b7
        clear hy7 hB7 b7 r7 lt7 ge7
        refine hK.out _ _ ?_ (fun hHeld => ?_)
        · exact x7
        clear hK K
        try simp only [Act.put, List.setIfInBounds_toArray, List.set_cons_zero, List.set_cons_succ]
        refine cl4 (by kernel_rfl) rfl (fun K hK => ?_)
        go_simp
        refine hK.out _ _ ?_ (fun hHeld => ?_)
        · exact x7
        clear hK K
        try simp only [Act.put, List.setIfInBounds_toArray, List.set_cons_zero, List.set_cons_succ]
        refine cl5 (by kernel_rfl) rfl (fun K hK => ?_)
        refine wp_app_row (k := 7) (enc := enC) (l := p.l) (.const (.slice none 0 0)) (.tmp 23) 33 30 rfl i0 _ 64 Try.underlying33 hi hz0 hz1 hz2 rfl (by decide) enC_len enC_one (base := W1.heap.size) rfl rfl (World.ownsRow_nil _ _ _ _) (HC.out y7 B7.out).2.2.2 B7.out.size (by have := HLN.out; omega) (by have := HLN.out; omega) ?_
        intro u5 y57 o5 a5
        have b5 : Below W1.heap.size W1 y57 := (B7.out).trans a5.below
        have o5n : OwnEn y57 W1.heap.size u5 p.l := by simpa using o5
        obtain ⟨p5, c5, hu5⟩ : ∃ a c, u5 = .slice a p.l.length c := (OwnEn.row o5n).form
        subst hu5
        have x5 := (HC.out y57 b5).2.2.1
        have O5 : Hid (OwnEn y57 W1.heap.size (.slice p5 p.l.length c5) p.l) := o5n
        have R7b : Hid (RowAt enC y57 (.slice (some ⟨B7n, 0, none⟩) 1 1) [e] ∧ W1.heap.size ≤ B7n) := (show Hid _ from (⟨R7.out.1.keep a5.below.size (fun bk off n c h0 e9 => by injection e9 with e9 _ _; injection e9 with e9; injection e9 with e9 _ _; rw [← e9]; exact a5.rest B7n R7.out.2.2 (show some B7n ≠ none by simp)), R7.out.2.1⟩ : _ ∧ _))
        have B5 : Hid (Below W1.heap.size W1 y57) := b5
        clear o5 a5 b5 o5n
        refine hK.out _ _ ?_ (fun hHeld => ?_)
        · exact x5
        clear hK K
        try simp only [Act.put, List.setIfInBounds_toArray, List.set_cons_zero, List.set_cons_succ]
        refine cl8 (by kernel_rfl) rfl (fun K hK => ?_)
        refine wp_app_row (k := 7) (enc := enC) (l := [e]) (.tmp 24) (.tmp 26) 33 30 rfl i0 _ 64 Try.underlying33 hi hz0 hz1 hz2 rfl (by decide) enC_len enC_one (base := W1.heap.size) rfl rfl O5.out R7b.out.1 B5.out.size (by have := HLN.out; simp; omega) (by have := HLN.out; simp; omega) ?_
        intro u8 y8 o8 a8
        have b8 : Below W1.heap.size W1 y8 := B5.out.trans a8.below
        have o8n : OwnEn y8 W1.heap.size u8 (p.l ++ [e]) := by rw [OwnEn, List.length_append, rowL_append]; exact o8
        obtain ⟨p8, n8, c8, rfl⟩ := own_form o8n
        have c1 := (HC.out y8 b8).1
        have f1 := (HC.out y8 b8).2.1
        have x8 := (HC.out y8 b8).2.2.1
        have O8 : Hid _ := o8n
        have B8 : Hid _ := b8
        clear o8 a8 o8n b8
        refine hK.out _ _ ?_ (fun hHeld => ?_)
        · exact x8
        clear hK K
        try simp only [Act.put, List.setIfInBounds_toArray, List.set_cons_zero, List.set_cons_succ]
        refine tk9 (.pointer (some ⟨X, 0, none⟩)) (by kernel_rfl) (by kernel_rfl) (by kernel_rfl) (fun _ _ _ h => h) rfl (fun w hSw => by (try dsimp only at hSw); have s0 := hSw; go_simp) (by assumption) ?_
        try simp only [Act.put, List.setIfInBounds_toArray, List.set_cons_zero, List.set_cons_succ]
        refine tk10 (.pointer (some ⟨X, 1, none⟩)) (by kernel_rfl) (by kernel_rfl) (by kernel_rfl) (fun _ _ _ h => h) rfl (fun w hSw => by (try dsimp only at hSw); have s0 := hSw; go_simp) (by assumption) ?_
        try simp only [Act.put, List.setIfInBounds_toArray, List.set_cons_zero, List.set_cons_succ]
        refine cl11 (by kernel_rfl) rfl (fun K hK => ?_)
        go_simp
        refine hK.out _ _ ?_ (fun hHeld => ?_)
        · exact (heap_setCell_other _ _ _ _ (fun e9 => HXE.out e9)).trans x8
        clear hK K
        try simp only [Act.put, List.setIfInBounds_toArray, List.set_cons_zero, List.set_cons_succ]
        refine wpAnyH_done (by kernel_rfl) ?_ _
        obtain ⟨hA9, k9⟩ := HA1.out.set1 B8.out O8.out
        obtain ⟨y9, hy9⟩ : ∃ y, y = y8.setCell ⟨X, 1, none⟩ (.slice p8 n8 c8) := ⟨_, rfl⟩
        rw [← hy9] at hA9 k9
        rw [← hy9]
        have HA9 : Hid (RlV y9 base X (fun b => b = X ∨ (Value.slice p8 n8 c8).ownBlock = some b) ⟨p.ap, p.l ++ [e]⟩ (.slice p8 n8 c8)) := hA9
        have K9 : Hid (Kept w y9 S (fun b => b = X ∨ (Value.slice p8 n8 c8).ownBlock = some b)) := (Kept.of (HB.out.1.trans (HB1.out.mono HB.out.1.size))).trans k9
        clear hA9 k9 hy9
        go_wp2_with (go_at_call 26; refine Calls.mono (rfollow_any HA9.out HOK.out.1 HOK.out.2) ?_; intro r wF hF; have HF := hF.back K9.out; obtain ⟨S9, g9, rfl, h9⟩ := HF.ex; have H9 : Hid _ := h9; clear hF HF h9)
        go_ret
        exact ⟨S9, g9, rfl, H9.out⟩
end
end Go.Proofs.Ytnoappklbipdhaa
