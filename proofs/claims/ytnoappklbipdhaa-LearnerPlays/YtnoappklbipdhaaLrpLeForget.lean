/-
  Package learner: known slots forgotten. The condition: an int's base.
-/
import Derived.Test.YtnoappklbipdhaaLrpLeAsk
namespace Go.Proofs.Ytnoappklbipdhaa
open Go.RowKit

/-- What is forgotten, read off the memory. -/
def fgOf (X : Nat) (w : World) : Int := match w.cell? ⟨X, 1, none⟩ with
  | some (.int _ n) => n
  | _ => 0
theorem fgOf_is {X : Nat} {w : World} {f : Int} (h : w.cell? ⟨X, 1, none⟩ = some (.int .i64 f)) : fgOf X w = f := by unfold fgOf; rw [h]
structure ForPost (w : World) (base X : Nat) (S : Nat → Prop) (p : Ln) (n : Nat) (e : Ending) (w' : World) : Prop where
  ex : e = .returned (.tuple #[]) ∧ LnAt w' base X S p n ∧ Kept w w' S S
set_option maxRecDepth 100000 in
set_option maxHeartbeats 4000000 in
theorem forget_any {w : World} {base X : Nat} {S : Nat → Prop} {p : Ln} {n : Nat} (h : LnAt w base X S p n) (b : Int) : Calls Try.prog 15 #[.pointer (some ⟨X, 0, none⟩), .int .i64 b] w (ForPost w base X S (forL p b) n) := by
  obtain ⟨F, l, hs, mb, v, hA, hR⟩ := h.ex
  obtain ⟨m, hm⟩ : ∃ m, m = min b p.ap := ⟨_, rfl⟩
  have HM : Hid (m = min b p.ap) := hm
  have hmin : min b p.ap = m := hm.symm
  have hap := hR.ok.ap
  have HA : Hid (LrAt w base X S p.ap F l hs mb v ∧ LnRel p n F l hs) := (show Hid _ from (⟨hA, hR⟩ : _ ∧ _))
  have HP : Hid (0 ≤ p.ap ∧ p.ap ≤ MXi ∧ m ≤ p.ap) := (show Hid _ from (⟨hap.1, hap.2, by omega⟩ : _ ∧ _ ∧ _))
  have mixed : Try.prog.follows Departure.mixedOrders = true := by kernel_rfl
  clear h hA hR hap hm
  go_enter Try.func15, Try.ntmps15
  go_wp2
  go_loopw [] (fun wr => ∃ (f : Int) (l' : List (Int × En)), Hid (LrAt wr base X S p.ap f l' hs mb v ∧ Kept w wr S S ∧ (F ≤ f ∧ (f = F ∨ f ≤ m)) ∧ wr.cell? ⟨X, 1, none⟩ = some (.int .i64 f) ∧ ∀ s, lookM l' s = if s ≤ f then none else lookM l s)) (fun wr => (m - fgOf X wr).toNat)
  case atStart =>
    refine ⟨F, l, (show Hid _ from (⟨HA.out.1, Kept.refl _ _, ⟨Int.le_refl _, Or.inl rfl⟩, HA.out.1.cell 1 _ rfl, fun s => ?_⟩ : _ ∧ _ ∧ _ ∧ _ ∧ _))⟩
    by_cases hs : s ≤ F
    · rw [if_pos hs, HA.out.2.lk]
      cases hf : leF p.l s with
      | none => rfl
      | some e =>
        have := leF_some hf
        have := HA.out.2.fg e this.1
        omega
    · rw [if_neg hs]
  case round =>
    obtain ⟨f, l', HI⟩ := hrel
    have c1 := HI.out.2.2.2.1
    have c0 : wr.cell? ⟨X, 0, none⟩ = some (.int .i64 p.ap) := HI.out.1.cell 0 _ rfl
    by_cases hfm : f < m
    · have t1 : decide (f < m) = true := decide_eq_true hfm
      obtain ⟨f1, hf1⟩ : ∃ f1, f1 = f + 1 := ⟨_, rfl⟩
      have HF1 : Hid (f1 = f + 1) := hf1
      have hff : f + 1 = f1 := hf1.symm
      have q1 : IntKind.i64.wrap f1 = f1 := by
        have := HP.out
        have := HI.out.2.2.1
        have := HA.out.2.f0
        rw [IntKind.wrap_i64]
        unfold MXi at *
        omega
      have HL : Hid (f < m ∧ f1 = f + 1) := (show Hid _ from (⟨hfm, hf1⟩ : _ ∧ _))
      clear hfm hf1
      go_wp2
      go_quiet (fail)
      obtain ⟨n1, hn1⟩ : ∃ n1, n1 = nq := ⟨_, rfl⟩
      rw [← hn1]
      clear hn1
      obtain ⟨W1, hW1⟩ : ∃ W1, W1 = wr.drewN n1 := ⟨_, rfl⟩
      rw [← hW1]
      have b1 : Below wr.heap.size wr W1 := by rw [hW1]; exact below_drewN (Below.refl _ _) _
      have hA1 := HI.out.1.fresh b1
      have d1 : W1.cell? ⟨X, 1, none⟩ = some (.int .i64 f) := by rw [hW1]; exact c1
      have g1 := hA1.fz 1
      have hA2 := hA1.setF f1
      have hk2 := hA1.keptX 1 (.int .i64 f1)
      obtain ⟨W2, hW2⟩ : ∃ W2, W2 = W1.setCell ⟨X, 1, none⟩ (.int .i64 f1) := ⟨_, rfl⟩
      have HW2 : Hid (W1.setCell ⟨X, 1, none⟩ (.int .i64 f1) = W2) := hW2.symm
      rw [← hW2] at hA2 hk2
      have hin : inI f1 := by
        have := HP.out
        have := HI.out.2.2.1
        have := HA.out.2.f0
        have := HL.out
        unfold inI
        unfold MXi at *
        omega
      obtain ⟨W3, hdel, hm3, hg3, hz3⟩ := MapOf.del mKn_is hA2.drew.map hin 0
      obtain ⟨hA3, hk3⟩ := hA2.drew.setM hm3 hg3
      have y1 : W2.drew.cell? ⟨X, 1, none⟩ = some (.int .i64 f1) := hA2.drew.cell 1 _ rfl
      have y2 : W2.drew.cell? ⟨X, 2, none⟩ = some (.map (some mb)) := hA2.drew.cell 2 _ rfl
      have z1 : W3.cell? ⟨X, 1, none⟩ = some (.int .i64 f1) := hA3.cell 1 _ rfl
      have z2 : W3.cell? ⟨X, 2, none⟩ = some (.map (some mb)) := hA3.cell 2 _ rfl
      have HN : Hid (LrAt W3 base X S p.ap f1 (delM l' f1) hs mb v ∧ Kept w W3 S S ∧ (F ≤ f1 ∧ (f1 = F ∨ f1 ≤ m)) ∧ W3.cell? ⟨X, 1, none⟩ = some (.int .i64 f1) ∧ ∀ s, lookM (delM l' f1) s = if s ≤ f1 then none else lookM l s) := by
        have hl := HL.out
        have hi := HI.out.2.2.1
        refine (show Hid _ from (⟨hA3, HI.out.2.1.trans ((Kept.of b1).trans (hk2.trans ((kept_drew _ _).trans hk3))), ⟨by omega, Or.inr (by omega)⟩, z1, fun s => ?_⟩ : _ ∧ _ ∧ _ ∧ _ ∧ _))
        rw [lookM_del, HI.out.2.2.2.2 s]
        by_cases h1 : s = f1
        · rw [if_pos h1, if_pos (by omega)]
        · rw [if_neg h1]
          by_cases h2 : s ≤ f
          · rw [if_pos h2, if_pos (by omega)]
          · rw [if_neg h2, if_neg (by omega)]
      clear hA1 hA2 hk2 hm3 hg3 hz3 hA3 hk3 hin hW1 hW2 b1 c1 c0
      go_upto_region 3 with fail
      rw [HW2.out]
      refine wp_region_held_drew (S := (fun y : World => y.cell? ⟨X, 2, none⟩ = some (.map (some mb)) ∧ y.cell? ⟨X, 1, none⟩ = some (.int .i64 f1))) (by kernel_rfl) ?_ (fun hHeld0 => ?_)
      · exact ⟨y2, y1⟩
      refine tk0 (.pointer (some ⟨X, 0, none⟩)) (by kernel_rfl) (by kernel_rfl) (by kernel_rfl) (fun _ _ _ h => h) rfl (fun w hSw => by (try dsimp only at hSw); obtain ⟨s1, s2⟩ := hSw; go_simp) (by assumption) ?_
      try simp only [Act.put, List.setIfInBounds_toArray, List.set_cons_zero, List.set_cons_succ]
      refine tk1 (.pointer (some ⟨X, 0, none⟩)) (by kernel_rfl) (by kernel_rfl) (by kernel_rfl) (fun _ _ _ h => h) rfl (fun w hSw => by (try dsimp only at hSw); obtain ⟨s1, s2⟩ := hSw; go_simp) (by assumption) ?_
      try simp only [Act.put, List.setIfInBounds_toArray, List.set_cons_zero, List.set_cons_succ]
      refine tk2 (.pointer (some ⟨X, 2, none⟩)) (by kernel_rfl) (by kernel_rfl) (by kernel_rfl) (fun _ _ _ h => h) rfl (fun w hSw => by (try dsimp only at hSw); obtain ⟨s1, s2⟩ := hSw; go_simp) (by assumption) ?_
      try simp only [Act.put, List.setIfInBounds_toArray, List.set_cons_zero, List.set_cons_succ]
      refine tk3 (.map (some mb)) (by kernel_rfl) (by kernel_rfl) (by kernel_rfl) (fun _ _ _ h => h) rfl (fun w hSw => by (try dsimp only at hSw); obtain ⟨s1, s2⟩ := hSw; go_simp) (by assumption) ?_
      try simp only [Act.put, List.setIfInBounds_toArray, List.set_cons_zero, List.set_cons_succ]
      refine tk4 (.pointer (some ⟨X, 0, none⟩)) (by kernel_rfl) (by kernel_rfl) (by kernel_rfl) (fun _ _ _ h => h) rfl (fun w hSw => by (try dsimp only at hSw); obtain ⟨s1, s2⟩ := hSw; go_simp) (by assumption) ?_
      try simp only [Act.put, List.setIfInBounds_toArray, List.set_cons_zero, List.set_cons_succ]
      refine tk5 (.pointer (some ⟨X, 0, none⟩)) (by kernel_rfl) (by kernel_rfl) (by kernel_rfl) (fun _ _ _ h => h) rfl (fun w hSw => by (try dsimp only at hSw); obtain ⟨s1, s2⟩ := hSw; go_simp) (by assumption) ?_
      try simp only [Act.put, List.setIfInBounds_toArray, List.set_cons_zero, List.set_cons_succ]
      refine tk6 (.pointer (some ⟨X, 1, none⟩)) (by kernel_rfl) (by kernel_rfl) (by kernel_rfl) (fun _ _ _ h => h) rfl (fun w hSw => by (try dsimp only at hSw); obtain ⟨s1, s2⟩ := hSw; go_simp) (by assumption) ?_
      try simp only [Act.put, List.setIfInBounds_toArray, List.set_cons_zero, List.set_cons_succ]
      refine tk7 (.int .i64 f1) (by kernel_rfl) (by kernel_rfl) (by kernel_rfl) (fun _ _ _ h => h) rfl (fun w hSw => by (try dsimp only at hSw); obtain ⟨s1, s2⟩ := hSw; go_simp) (by assumption) ?_
      try simp only [Act.put, List.setIfInBounds_toArray, List.set_cons_zero, List.set_cons_succ]
      refine cl8 (by kernel_rfl) rfl (fun K hK => ?_)
      go_simp
      refine hK.out _ _ ?_ (fun hHeld => ?_)
      · exact ⟨z2, z1⟩
      clear hK K
      try simp only [Act.put, List.setIfInBounds_toArray, List.set_cons_zero, List.set_cons_succ]
      refine wpAnyH_done (by kernel_rfl) ?_ _
      go_wp2
      go_roundw
      case rel => exact ⟨f1, delM l' f1, HN.out⟩
      case measure =>
        have e3 := fgOf_is HN.out.2.2.2.1
        have e2 := fgOf_is HI.out.2.2.2.1
        rw [e3, e2]
        have := HL.out
        omega
    · have t1 : decide (f < m) = false := decide_eq_false hfm
      have HL : Hid (m ≤ f) := (by omega : m ≤ f)
      clear hfm
      go_wp2
      go_quiet (fail)
      go_wp2
      go_returns
      have hl := HL.out
      have hi := HI.out.2.2.1
      have hp := HP.out
      have hr := HA.out.2
      have hf0 := hr.f0
      refine ⟨rfl, ⟨f, l', hs, mb, v, HI.out.1.fresh (below_drewN (Below.refl _ _) _), ⟨hr.ok.for' b, fun s => ?_, ⟨by omega, ?_⟩, fun e he => ?_, hr.hp, hr.nd, fun s => ?_, hr.hl⟩⟩, HI.out.2.1.trans (Kept.of (below_drewN (Below.refl _ _) _))⟩
      · show lookM l' s = leF (dropE p.l (min b p.ap)) s
        rw [HI.out.2.2.2.2 s, leF_drop, hr.lk, ← HM.out]
        by_cases h1 : s ≤ f
        · rw [if_pos h1]
          by_cases h2 : m < s
          · rw [if_pos h2]
            cases hf : leF p.l s with
            | none => rfl
            | some e =>
              have h3 := leF_some hf
              have := hr.fg e h3.1
              omega
          · rw [if_neg h2]
        · rw [if_neg h1, if_pos (by omega)]
      · show f ≤ p.ap
        omega
      · have h1 : e ∈ p.l ∧ min b p.ap < e.slot := by
          have := List.mem_filter.1 he
          exact ⟨this.1, by simpa using this.2⟩
        have := hr.fg e h1.1
        rw [← HM.out] at h1
        omega
      · show s ∈ hs ↔ p.ap < s ∧ (leF (dropE p.l (min b p.ap)) s).isSome = true
        rw [hr.hm s, leF_drop, ← HM.out]
        constructor
        · rintro ⟨h1, h2⟩
          exact ⟨h1, by rw [if_pos (by omega)]; exact h2⟩
        · rintro ⟨h1, h2⟩
          rw [if_pos (by omega)] at h2
          exact ⟨h1, h2⟩
end Go.Proofs.Ytnoappklbipdhaa
