/-
  Package learner: an entry learned, as the document's plain data. The conditions: at most 2^29 entries; a text has at most 2^48 bytes; an int's slot.
-/
import Derived.Test.YtnoappklbipdhaaLrpLeForget
namespace Go.Proofs.Ytnoappklbipdhaa
open Go.RowKit

structure LeaPost (w : World) (base X : Nat) (S : Nat → Prop) (q : Ln × List En) (n : Nat) (e : Ending) (w' : World) : Prop where
  ex : ∃ S' u, e = .returned u ∧ LnAt w' base X S' q.1 n ∧ Kept w w' S S' ∧ AnsE w w' S' u q.2
theorem LnRel.mono {p : Ln} {n m : Nat} {F : Int} {l : List (Int × En)} {hs : List Int} (h : LnRel p n F l hs) (hm : n ≤ m) : LnRel p m F l hs :=
  ⟨h.ok.mono hm, h.lk, h.f0, h.fg, h.hp, h.nd, h.hm, Nat.le_trans h.hl hm⟩
theorem LnAt.mono {w : World} {base X : Nat} {S : Nat → Prop} {p : Ln} {n m : Nat} (h : LnAt w base X S p n) (hm : n ≤ m) : LnAt w base X S p m := by
  obtain ⟨F, l, hs, mb, v, h1, h2⟩ := h.ex
  exact ⟨F, l, hs, mb, v, h1, h2.mono hm⟩
/-- An entry put to what is known, its slot to those that wait. -/
theorem LnRel.put {p : Ln} {n : Nat} {F : Int} {l : List (Int × En)} {hs hs' : List Int} (h : LnRel p n F l hs) {e : En} (hno : leF p.l e.slot = none) (hap : p.ap < e.slot) (hmx : e.slot ≤ MXi) (hnm : e.cmd.name.size ≤ 281474976710656) (hp : hs'.Perm (hs ++ [e.slot])) (hh : HeapN hs' hs'.length) :
    LnRel ⟨p.ap, p.l ++ [e]⟩ (n + 1) F (putM l e.slot e) hs' := by
  have hap0 := h.ok.ap
  have hf0 := h.f0
  refine ⟨h.ok.put (by omega) hmx hnm, fun s => ?_, h.f0, fun x hx => ?_, hh, ?_, fun s => ?_, ?_⟩
  · rw [lookM_put, leF_put hno, h.lk]
  · rcases List.mem_append.1 hx with hx | hx
    · exact h.fg x hx
    · rw [List.mem_singleton.1 hx]; omega
  · rw [hp.nodup_iff, List.nodup_append]
    refine ⟨h.nd, by simp, fun a ha b hb e1 => ?_⟩
    rw [List.mem_singleton] at hb
    rw [e1, hb] at ha
    have := ((h.hm _).1 ha).2
    rw [hno] at this
    cases this
  · rw [hp.mem_iff, List.mem_append, List.mem_singleton, h.hm s]
    show _ ↔ p.ap < s ∧ (leF (p.l ++ [e]) s).isSome = true
    rw [leF_put hno]
    by_cases hs : s = e.slot
    · rw [if_pos hs, hs]
      exact ⟨fun _ => ⟨hap, rfl⟩, fun _ => Or.inr rfl⟩
    · rw [if_neg hs]
      exact ⟨fun h1 => by
        rcases h1 with h1 | h1
        · exact h1
        · exact absurd h1 hs, fun h1 => Or.inl h1⟩
  · have := hp.length_eq
    have := h.hl
    rw [List.length_append, List.length_singleton] at *
    omega
set_option maxRecDepth 100000 in
set_option maxHeartbeats 8000000 in
theorem learn_any {w : World} {base X : Nat} {S : Nat → Prop} {p : Ln} {n : Nat} (h : LnAt w base X S p n) (hn : n < 536870912) (e : En) (h1 : -9223372036854775808 ≤ e.slot ∧ e.slot ≤ MXi) (h2 : e.cmd.name.size ≤ 281474976710656) : Calls Try.prog 9 #[.pointer (some ⟨X, 0, none⟩), .agg (enA e)] w (LeaPost w base X S (leaL p e) (n + 1)) := by
  obtain ⟨F, l, hs, mb, v, hA, hR⟩ := h.ex
  have mixed : Try.prog.follows Departure.mixedOrders = true := by kernel_rfl
  obtain ⟨W0, hW0⟩ : ∃ W0, W0 = w.alloc (.cells (enA e) 30) := ⟨_, rfl⟩
  have b0 : Below w.heap.size w W0 := by rw [hW0]; exact (Below.refl _ w).alloc (Nat.le_refl _) _
  have x0 : EnBx W0 w.heap.size e := by rw [hW0]; exact heap_alloc_new w _
  have hA0 := hA.fresh b0
  have HW : Hid (w.alloc (.cells (enA e) 30) = W0) := hW0.symm
  have c0 : W0.cell? ⟨X, 0, none⟩ = some (.int .i64 p.ap) := hA0.cell 0 _ rfl
  have ce : W0.cell? ⟨w.heap.size, 0, none⟩ = some (.int .i64 e.slot) := x0.c 0 _ rfl
  have HA : Hid (LrAt w base X S p.ap F l hs mb v ∧ LnRel p n F l hs) := (show Hid _ from (⟨hA, hR⟩ : _ ∧ _))
  have HB : Hid (Below w.heap.size w W0 ∧ EnBx W0 w.heap.size e) := (show Hid _ from (⟨b0, x0⟩ : _ ∧ _))
  have HE : Hid ((-9223372036854775808 ≤ e.slot ∧ e.slot ≤ MXi) ∧ e.cmd.name.size ≤ 281474976710656) := (show Hid _ from (⟨h1, h2⟩ : _ ∧ _))
  by_cases hap : e.slot ≤ p.ap
  · have t1 : decide (e.slot ≤ p.ap) = true := decide_eq_true hap
    have e1 : leaL p e = (p, []) := by unfold leaL; rw [if_pos (Or.inl hap)]
    rw [e1]
    clear hW0 b0 x0 hA0 hA hR h hap e1 h1 h2
    go_enter Try.func9, Try.ntmps9
    go_upto_region 1 with fail
    rw [HW.out]
    go_quiet (fail)
    go_wp2
    go_ret
    have b1 := bmm HB.out.1 HB.out.1.size (below_drewN (Below.refl _ W0) nq)
    exact ⟨S, _, rfl, ⟨F, l, hs, mb, v, HA.out.1.fresh b1, HA.out.2.mono (Nat.le_succ _)⟩, Kept.of b1, AnsE.nil _ _ _⟩
  · have t1 : decide (e.slot ≤ p.ap) = false := decide_eq_false hap
    have hin : inI e.slot := by unfold inI; unfold MXi at *; omega
    obtain ⟨x, hx⟩ : ∃ x : En, x = (leF p.l e.slot).getD En.zero := ⟨_, rfl⟩
    obtain ⟨ok, hok⟩ : ∃ ok : Bool, ok = (leF p.l e.slot).isSome := ⟨_, rfl⟩
    have hgot : mKn.got l e.slot = .agg (enA x) ∧ (lookM l e.slot).isSome = ok := by
      rw [hok, ← hR.lk]
      refine ⟨?_, rfl⟩
      rw [hx, ← hR.lk]
      unfold MapOf.got
      cases lookM l e.slot with
      | none => rfl
      | some e => rfl
    have HLK : Hid (∀ y, mKn.At y mb l → (Instr.lookup 50 (.map (some mb)) (.int .i64 e.slot) true).run Try.prog y = .ok (.tuple #[.agg (enA x), .bool ok]) y) := fun y hy => by
      have := MapOf.look2 mKn_is hy hin
      rw [hgot.1, hgot.2] at this
      exact this
    have HOK : Hid (ok = (leF p.l e.slot).isSome) := hok
    have HAP : Hid (p.ap < e.slot) := (by omega : p.ap < e.slot)
    have HIN : Hid (inI e.slot) := hin
    have HS0 : Hid (∀ y, Below W0.heap.size W0 y → y.cell? ⟨X, 2, none⟩ = some (.map (some mb)) ∧ EnBx y w.heap.size e ∧ mKn.At y mb l) := fun y b => ⟨(hA0.fresh b).cell 2 _ rfl, (b.block _ (lt_of_block x0)).trans x0, (hA0.fresh b).map⟩
    clear hW0 b0 x0 hA0 hA hR h hap h1 h2 hin hgot hx hok
    cases ok with
    | true =>
      have e1 : leaL p e = (p, []) := by unfold leaL; rw [if_pos (Or.inr HOK.out.symm)]
      rw [e1]
      clear e1
      go_enter Try.func9, Try.ntmps9
      go_upto_region 1 with fail
      rw [HW.out]
      go_quiet (fail)
      go_upto_region 3 with fail
      obtain ⟨n1, hn1⟩ : ∃ n1, n1 = nq := ⟨_, rfl⟩
      rw [← hn1]
      clear hn1
      obtain ⟨W1, hW1⟩ : ∃ W1, W1 = W0.drewN n1 := ⟨_, rfl⟩
      rw [← hW1]
      have B1 : Hid (Below W0.heap.size W0 W1) := by rw [hW1]; exact below_drewN (Below.refl _ _) _
      have HS : Hid (∀ y, Below W1.heap.size W1 y → y.cell? ⟨X, 2, none⟩ = some (.map (some mb)) ∧ EnBx y w.heap.size e ∧ mKn.At y mb l) := fun y b => HS0.out y (bmm B1.out B1.out.size b)
      clear hW1 c0 ce
      refine wp_region_held_drew (S := (fun y : World => y.cell? ⟨X, 2, none⟩ = some (.map (some mb)) ∧ EnBx y w.heap.size e ∧ mKn.At y mb l)) (by kernel_rfl) ?_ (fun hHeld0 => ?_)
      · exact HS.out _ (Below.refl _ _).drew
      refine tk0 (.pointer (some ⟨X, 0, none⟩)) (by kernel_rfl) (by kernel_rfl) (by kernel_rfl) (fun _ _ _ h => h) rfl (fun w hSw => by (try dsimp only at hSw); obtain ⟨s1, s2, s3⟩ := hSw; have s4 := s2.c 0 _ rfl; go_simp) (by assumption) ?_
      try simp only [Act.put, List.setIfInBounds_toArray, List.set_cons_zero, List.set_cons_succ]
      refine tk1 (.pointer (some ⟨X, 0, none⟩)) (by kernel_rfl) (by kernel_rfl) (by kernel_rfl) (fun _ _ _ h => h) rfl (fun w hSw => by (try dsimp only at hSw); obtain ⟨s1, s2, s3⟩ := hSw; have s4 := s2.c 0 _ rfl; go_simp) (by assumption) ?_
      try simp only [Act.put, List.setIfInBounds_toArray, List.set_cons_zero, List.set_cons_succ]
      refine tk2 (.pointer (some ⟨X, 2, none⟩)) (by kernel_rfl) (by kernel_rfl) (by kernel_rfl) (fun _ _ _ h => h) rfl (fun w hSw => by (try dsimp only at hSw); obtain ⟨s1, s2, s3⟩ := hSw; have s4 := s2.c 0 _ rfl; go_simp) (by assumption) ?_
      try simp only [Act.put, List.setIfInBounds_toArray, List.set_cons_zero, List.set_cons_succ]
      refine tk3 (.map (some mb)) (by kernel_rfl) (by kernel_rfl) (by kernel_rfl) (fun _ _ _ h => h) rfl (fun w hSw => by (try dsimp only at hSw); obtain ⟨s1, s2, s3⟩ := hSw; have s4 := s2.c 0 _ rfl; go_simp) (by assumption) ?_
      try simp only [Act.put, List.setIfInBounds_toArray, List.set_cons_zero, List.set_cons_succ]
      refine tk4 (.pointer (some ⟨w.heap.size, 0, none⟩)) (by kernel_rfl) (by kernel_rfl) (by kernel_rfl) (fun _ _ _ h => h) rfl (fun w hSw => by (try dsimp only at hSw); obtain ⟨s1, s2, s3⟩ := hSw; have s4 := s2.c 0 _ rfl; go_simp) (by assumption) ?_
      try simp only [Act.put, List.setIfInBounds_toArray, List.set_cons_zero, List.set_cons_succ]
      refine tk5 (.int .i64 e.slot) (by kernel_rfl) (by kernel_rfl) (by kernel_rfl) (fun _ _ _ h => h) rfl (fun w hSw => by (try dsimp only at hSw); obtain ⟨s1, s2, s3⟩ := hSw; have s4 := s2.c 0 _ rfl; go_simp) (by assumption) ?_
      try simp only [Act.put, List.setIfInBounds_toArray, List.set_cons_zero, List.set_cons_succ]
      refine tk6 (.tuple #[.agg (enA x), .bool true]) (by kernel_rfl) (by kernel_rfl) (by kernel_rfl) (fun _ _ _ h => h) rfl (fun w hSw => by (try dsimp only at hSw); obtain ⟨s1, s2, s3⟩ := hSw; have s4 := s2.c 0 _ rfl; have s5 := HLK.out _ s3; go_simp) (by assumption) ?_
      try simp only [Act.put, List.setIfInBounds_toArray, List.set_cons_zero, List.set_cons_succ]
      refine tk7 (.tuple #[.agg (enA x), .bool true]) (by kernel_rfl) (by kernel_rfl) (by kernel_rfl) (fun _ _ _ h => h) rfl (fun w hSw => by (try dsimp only at hSw); obtain ⟨s1, s2, s3⟩ := hSw; have s4 := s2.c 0 _ rfl; go_simp) (by assumption) ?_
      try simp only [Act.put, List.setIfInBounds_toArray, List.set_cons_zero, List.set_cons_succ]
      refine tk8 (.agg (enA x)) (by kernel_rfl) (by kernel_rfl) (by kernel_rfl) (fun _ _ _ h => h) rfl (fun w hSw => by (try dsimp only at hSw); obtain ⟨s1, s2, s3⟩ := hSw; have s4 := s2.c 0 _ rfl; go_simp) (by assumption) ?_
      try simp only [Act.put, List.setIfInBounds_toArray, List.set_cons_zero, List.set_cons_succ]
      refine tk9 (.bool true) (by kernel_rfl) (by kernel_rfl) (by kernel_rfl) (fun _ _ _ h => h) rfl (fun w hSw => by (try dsimp only at hSw); obtain ⟨s1, s2, s3⟩ := hSw; have s4 := s2.c 0 _ rfl; go_simp) (by assumption) ?_
      try simp only [Act.put, List.setIfInBounds_toArray, List.set_cons_zero, List.set_cons_succ]
      refine cl10 (by kernel_rfl) rfl (fun K hK => ?_)
      go_simp
      refine hK.out _ _ ?_ (fun hHeld => ?_)
      · exact HS.out _ ((Below.refl _ _).drew.alloc (Nat.le_refl _) _)
      clear hK K
      try simp only [Act.put, List.setIfInBounds_toArray, List.set_cons_zero, List.set_cons_succ]
      refine cl11 (by kernel_rfl) rfl (fun K hK => ?_)
      go_simp
      refine hK.out _ _ ?_ (fun hHeld => ?_)
      · exact HS.out _ ((Below.refl _ _).drew.alloc (Nat.le_refl _) _)
      clear hK K
      try simp only [Act.put, List.setIfInBounds_toArray, List.set_cons_zero, List.set_cons_succ]
      refine cl12 (by kernel_rfl) rfl (fun K hK => ?_)
      go_simp
      refine hK.out _ _ ?_ (fun hHeld => ?_)
      · exact HS.out _ ((Below.refl _ _).drew.alloc (Nat.le_refl _) _)
      clear hK K
      try simp only [Act.put, List.setIfInBounds_toArray, List.set_cons_zero, List.set_cons_succ]
      refine wpAnyH_done (by kernel_rfl) ?_ _
      go_wp2
      go_ret
      have b1 := (HB.out.1.trans (B1.out.mono HB.out.1.size)).trans ((((Below.refl _ W1).alloc (Nat.le_refl _) (.cells (enA x) 30)).drew).mono (Nat.le_trans HB.out.1.size B1.out.size))
      exact ⟨S, _, rfl, ⟨F, l, hs, mb, v, HA.out.1.fresh b1, HA.out.2.mono (Nat.le_succ _)⟩, Kept.of b1, AnsE.nil _ _ _⟩
    | false =>
      have hnone : leF p.l e.slot = none := by
        have := HOK.out
        cases hf : leF p.l e.slot with
        | none => rfl
        | some y => rw [hf] at this; cases this
      have hlea : leaL p e = folL ⟨p.ap, p.l ++ [e]⟩ := by
        unfold leaL
        rw [if_neg (fun h => by
          rcases h with h | h
          · have := HAP.out; omega
          · rw [hnone] at h; cases h)]
      rw [hlea]
      have HNO : Hid (leF p.l e.slot = none) := hnone
      have HHL : Hid (hs.length < 1099511627776) := (by have := HA.out.2.hl; omega : hs.length < 1099511627776)
      have HMB : Hid (mb ≠ w.heap.size) := by have := HA.out.1.bd mb HA.out.1.inM; show mb ≠ _; omega
      have HNS : Hid (¬ S w.heap.size) := fun h => Nat.lt_irrefl _ (HA.out.1.bd _ h)
      have HLR : Hid (∀ y, Below W0.heap.size W0 y → LrAt y base X S p.ap F l hs mb v) := fun y b => HA.out.1.fresh (bmm HB.out.1 HB.out.1.size b)
      have HEB : Hid (∀ y, Below W0.heap.size W0 y → EnBx y w.heap.size e) := fun y b => (b.block _ (lt_of_block HB.out.2)).trans HB.out.2
      clear hnone hlea
      go_enter Try.func9, Try.ntmps9
      go_upto_region 1 with fail
      rw [HW.out]
      go_quiet (fail)
      go_upto_region 3 with fail
      obtain ⟨n1, hn1⟩ : ∃ n1, n1 = nq := ⟨_, rfl⟩
      rw [← hn1]
      clear hn1
      obtain ⟨W1, hW1⟩ : ∃ W1, W1 = W0.drewN n1 := ⟨_, rfl⟩
      rw [← hW1]
      have B1 : Hid (Below W0.heap.size W0 W1) := by rw [hW1]; exact below_drewN (Below.refl _ _) _
      have HS : Hid (∀ y, Below W1.heap.size W1 y → y.cell? ⟨X, 2, none⟩ = some (.map (some mb)) ∧ EnBx y w.heap.size e ∧ mKn.At y mb l) := fun y b => HS0.out y (bmm B1.out B1.out.size b)
      clear hW1 c0 ce
      refine wp_region_held_drew (S := (fun y : World => y.cell? ⟨X, 2, none⟩ = some (.map (some mb)) ∧ EnBx y w.heap.size e ∧ mKn.At y mb l)) (by kernel_rfl) ?_ (fun hHeld0 => ?_)
      · exact HS.out _ (Below.refl _ _).drew
      refine tk0 (.pointer (some ⟨X, 0, none⟩)) (by kernel_rfl) (by kernel_rfl) (by kernel_rfl) (fun _ _ _ h => h) rfl (fun w hSw => by (try dsimp only at hSw); obtain ⟨s1, s2, s3⟩ := hSw; have s4 := s2.c 0 _ rfl; go_simp) (by assumption) ?_
      try simp only [Act.put, List.setIfInBounds_toArray, List.set_cons_zero, List.set_cons_succ]
      refine tk1 (.pointer (some ⟨X, 0, none⟩)) (by kernel_rfl) (by kernel_rfl) (by kernel_rfl) (fun _ _ _ h => h) rfl (fun w hSw => by (try dsimp only at hSw); obtain ⟨s1, s2, s3⟩ := hSw; have s4 := s2.c 0 _ rfl; go_simp) (by assumption) ?_
      try simp only [Act.put, List.setIfInBounds_toArray, List.set_cons_zero, List.set_cons_succ]
      refine tk2 (.pointer (some ⟨X, 2, none⟩)) (by kernel_rfl) (by kernel_rfl) (by kernel_rfl) (fun _ _ _ h => h) rfl (fun w hSw => by (try dsimp only at hSw); obtain ⟨s1, s2, s3⟩ := hSw; have s4 := s2.c 0 _ rfl; go_simp) (by assumption) ?_
      try simp only [Act.put, List.setIfInBounds_toArray, List.set_cons_zero, List.set_cons_succ]
      refine tk3 (.map (some mb)) (by kernel_rfl) (by kernel_rfl) (by kernel_rfl) (fun _ _ _ h => h) rfl (fun w hSw => by (try dsimp only at hSw); obtain ⟨s1, s2, s3⟩ := hSw; have s4 := s2.c 0 _ rfl; go_simp) (by assumption) ?_
      try simp only [Act.put, List.setIfInBounds_toArray, List.set_cons_zero, List.set_cons_succ]
      refine tk4 (.pointer (some ⟨w.heap.size, 0, none⟩)) (by kernel_rfl) (by kernel_rfl) (by kernel_rfl) (fun _ _ _ h => h) rfl (fun w hSw => by (try dsimp only at hSw); obtain ⟨s1, s2, s3⟩ := hSw; have s4 := s2.c 0 _ rfl; go_simp) (by assumption) ?_
      try simp only [Act.put, List.setIfInBounds_toArray, List.set_cons_zero, List.set_cons_succ]
      refine tk5 (.int .i64 e.slot) (by kernel_rfl) (by kernel_rfl) (by kernel_rfl) (fun _ _ _ h => h) rfl (fun w hSw => by (try dsimp only at hSw); obtain ⟨s1, s2, s3⟩ := hSw; have s4 := s2.c 0 _ rfl; go_simp) (by assumption) ?_
      try simp only [Act.put, List.setIfInBounds_toArray, List.set_cons_zero, List.set_cons_succ]
      refine tk6 (.tuple #[.agg (enA x), .bool false]) (by kernel_rfl) (by kernel_rfl) (by kernel_rfl) (fun _ _ _ h => h) rfl (fun w hSw => by (try dsimp only at hSw); obtain ⟨s1, s2, s3⟩ := hSw; have s4 := s2.c 0 _ rfl; have s5 := HLK.out _ s3; go_simp) (by assumption) ?_
      try simp only [Act.put, List.setIfInBounds_toArray, List.set_cons_zero, List.set_cons_succ]
      refine tk7 (.tuple #[.agg (enA x), .bool false]) (by kernel_rfl) (by kernel_rfl) (by kernel_rfl) (fun _ _ _ h => h) rfl (fun w hSw => by (try dsimp only at hSw); obtain ⟨s1, s2, s3⟩ := hSw; have s4 := s2.c 0 _ rfl; go_simp) (by assumption) ?_
      try simp only [Act.put, List.setIfInBounds_toArray, List.set_cons_zero, List.set_cons_succ]
      refine tk8 (.agg (enA x)) (by kernel_rfl) (by kernel_rfl) (by kernel_rfl) (fun _ _ _ h => h) rfl (fun w hSw => by (try dsimp only at hSw); obtain ⟨s1, s2, s3⟩ := hSw; have s4 := s2.c 0 _ rfl; go_simp) (by assumption) ?_
      try simp only [Act.put, List.setIfInBounds_toArray, List.set_cons_zero, List.set_cons_succ]
      refine tk9 (.bool false) (by kernel_rfl) (by kernel_rfl) (by kernel_rfl) (fun _ _ _ h => h) rfl (fun w hSw => by (try dsimp only at hSw); obtain ⟨s1, s2, s3⟩ := hSw; have s4 := s2.c 0 _ rfl; go_simp) (by assumption) ?_
      try simp only [Act.put, List.setIfInBounds_toArray, List.set_cons_zero, List.set_cons_succ]
      refine cl10 (by kernel_rfl) rfl (fun K hK => ?_)
      go_simp
      refine hK.out _ _ ?_ (fun hHeld => ?_)
      · exact HS.out _ ((Below.refl _ _).drew.alloc (Nat.le_refl _) _)
      clear hK K
      try simp only [Act.put, List.setIfInBounds_toArray, List.set_cons_zero, List.set_cons_succ]
      refine cl11 (by kernel_rfl) rfl (fun K hK => ?_)
      go_simp
      refine hK.out _ _ ?_ (fun hHeld => ?_)
      · exact HS.out _ ((Below.refl _ _).drew.alloc (Nat.le_refl _) _)
      clear hK K
      try simp only [Act.put, List.setIfInBounds_toArray, List.set_cons_zero, List.set_cons_succ]
      refine cl12 (by kernel_rfl) rfl (fun K hK => ?_)
      go_simp
      refine hK.out _ _ ?_ (fun hHeld => ?_)
      · exact HS.out _ ((Below.refl _ _).drew.alloc (Nat.le_refl _) _)
      clear hK K
      try simp only [Act.put, List.setIfInBounds_toArray, List.set_cons_zero, List.set_cons_succ]
      refine wpAnyH_done (by kernel_rfl) ?_ _
      obtain ⟨W3, hW3⟩ : ∃ W3, W3 = (W1.alloc (.cells (enA x) 30)).drew := ⟨_, rfl⟩
      have B3 : Hid (Below W0.heap.size W0 W3) := by
        rw [hW3]
        exact B1.out.trans ((((Below.refl _ W1).alloc (Nat.le_refl _) _).drew).mono B1.out.size)
      have HW3 : Hid ((W1.alloc (.cells (enA x) 30)).drew = W3) := hW3.symm
      clear hW3
      go_upto_region 6 with fail
      rw [HW3.out]
      refine wp_region_held_drew (S := (fun y : World => y.cell? ⟨X, 2, none⟩ = some (.map (some mb)) ∧ EnBx y w.heap.size e)) (by kernel_rfl) ?_ (fun hHeld0 => ?_)
      · exact ⟨(HLR.out _ (bmm B3.out B3.out.size ((Below.refl _ _).drew))).cell 2 _ rfl, HEB.out _ (bmm B3.out B3.out.size ((Below.refl _ _).drew))⟩
      refine tk0 (.pointer (some ⟨X, 0, none⟩)) (by kernel_rfl) (by kernel_rfl) (by kernel_rfl) (fun _ _ _ h => h) rfl (fun w hSw => by (try dsimp only at hSw); obtain ⟨s1, s2⟩ := hSw; have s4 := s2.c 0 _ rfl; go_simp) (by assumption) ?_
      try simp only [Act.put, List.setIfInBounds_toArray, List.set_cons_zero, List.set_cons_succ]
      refine tk1 (.pointer (some ⟨X, 0, none⟩)) (by kernel_rfl) (by kernel_rfl) (by kernel_rfl) (fun _ _ _ h => h) rfl (fun w hSw => by (try dsimp only at hSw); obtain ⟨s1, s2⟩ := hSw; have s4 := s2.c 0 _ rfl; go_simp) (by assumption) ?_
      try simp only [Act.put, List.setIfInBounds_toArray, List.set_cons_zero, List.set_cons_succ]
      refine tk2 (.pointer (some ⟨X, 2, none⟩)) (by kernel_rfl) (by kernel_rfl) (by kernel_rfl) (fun _ _ _ h => h) rfl (fun w hSw => by (try dsimp only at hSw); obtain ⟨s1, s2⟩ := hSw; have s4 := s2.c 0 _ rfl; go_simp) (by assumption) ?_
      try simp only [Act.put, List.setIfInBounds_toArray, List.set_cons_zero, List.set_cons_succ]
      refine tk3 (.map (some mb)) (by kernel_rfl) (by kernel_rfl) (by kernel_rfl) (fun _ _ _ h => h) rfl (fun w hSw => by (try dsimp only at hSw); obtain ⟨s1, s2⟩ := hSw; have s4 := s2.c 0 _ rfl; go_simp) (by assumption) ?_
      try simp only [Act.put, List.setIfInBounds_toArray, List.set_cons_zero, List.set_cons_succ]
      refine tk4 (.pointer (some ⟨w.heap.size, 0, none⟩)) (by kernel_rfl) (by kernel_rfl) (by kernel_rfl) (fun _ _ _ h => h) rfl (fun w hSw => by (try dsimp only at hSw); obtain ⟨s1, s2⟩ := hSw; have s4 := s2.c 0 _ rfl; go_simp) (by assumption) ?_
      try simp only [Act.put, List.setIfInBounds_toArray, List.set_cons_zero, List.set_cons_succ]
      refine tk5 (.int .i64 e.slot) (by kernel_rfl) (by kernel_rfl) (by kernel_rfl) (fun _ _ _ h => h) rfl (fun w hSw => by (try dsimp only at hSw); obtain ⟨s1, s2⟩ := hSw; have s4 := s2.c 0 _ rfl; go_simp) (by assumption) ?_
      try simp only [Act.put, List.setIfInBounds_toArray, List.set_cons_zero, List.set_cons_succ]
      refine tk6 (.agg (enA e)) (by kernel_rfl) (by kernel_rfl) (by kernel_rfl) (fun _ _ _ h => h) rfl (fun w hSw => by (try dsimp only at hSw); obtain ⟨s1, s2⟩ := hSw; have s4 := s2.c 0 _ rfl; have a1 := s2.c 1 _ rfl; have a2 := s2.c 2 _ rfl; have a3 := s2.c 3 _ rfl; have a4 := s2.c 4 _ rfl; have a5 := s2.c 5 _ rfl; have a6 := s2.c 6 _ rfl; go_simp) (by assumption) ?_
      try simp only [Act.put, List.setIfInBounds_toArray, List.set_cons_zero, List.set_cons_succ]
      refine cl7 (by kernel_rfl) rfl (fun K hK => ?_)
      go_simp
      go_at_call 22
      refine (lclone_any _ e HE.out.2).mono ?_
      rintro r y7 ⟨rfl, b7⟩
      have hA7 := HLR.out y7 (bmm B3.out B3.out.size (undrew b7))
      have e7 := HEB.out y7 (bmm B3.out B3.out.size (undrew b7))
      have B7 : Hid (Below W0.heap.size W0 y7) := bmm B3.out B3.out.size (undrew b7)
      have r7 : y7.cell? ⟨X, 2, none⟩ = some (.map (some mb)) := hA7.cell 2 _ rfl
      clear b7
      refine hK.out _ _ ?_ (fun hHeld => ?_)
      · exact ⟨r7, e7⟩
      clear hK K
      try simp only [Act.put, List.setIfInBounds_toArray, List.set_cons_zero, List.set_cons_succ]
      refine cl8 (by kernel_rfl) rfl (fun K hK => ?_)
      obtain ⟨W8, hup, hm8, hg8, hz8⟩ := MapOf.put mKn_is hA7.map HIN.out e
      go_simp
      obtain ⟨hA8, hk8⟩ := hA7.setM hm8 hg8
      have e8 : EnBx W8 w.heap.size e := (hg8.block _ (lt_of_block e7) (fun e1 => HMB.out (Option.some.inj e1).symm)).trans e7
      have r8 : W8.cell? ⟨X, 2, none⟩ = some (.map (some mb)) := hA8.cell 2 _ rfl
      refine hK.out _ _ ?_ (fun hHeld => ?_)
      · exact ⟨r8, e8⟩
      clear hK K
      try simp only [Act.put, List.setIfInBounds_toArray, List.set_cons_zero, List.set_cons_succ]
      refine wpAnyH_done (by kernel_rfl) ?_ _
      obtain ⟨h8a, h8k⟩ : LrAt W8 base X S p.ap F (putM l e.slot e) hs mb v ∧ Kept y7 W8 S S := ⟨hA8, hk8⟩
      have H8 : Hid (LrAt W8 base X S p.ap F (putM l e.slot e) hs mb v ∧ Kept w W8 S S ∧ EnBx W8 w.heap.size e) := (show Hid _ from (⟨h8a, (Kept.of (bmm HB.out.1 HB.out.1.size B7.out)).trans h8k, e8⟩ : _ ∧ _ ∧ _))
      clear h8a h8k hA8 hk8 hm8 hg8 hz8 hup e8 r8 hA7 e7 r7
      go_upto_region 7 with fail
      refine wp_region_held_drew (S := (fun y : World => EnBx y w.heap.size e)) (by kernel_rfl) ?_ (fun hHeld0 => ?_)
      · exact H8.out.2.2
      refine tk0 (.pointer (some ⟨X, 0, none⟩)) (by kernel_rfl) (by kernel_rfl) (by kernel_rfl) (fun _ _ _ h => h) rfl (fun w hSw => by (try dsimp only at hSw); have s4 := hSw.c 0 _ rfl; go_simp) (by assumption) ?_
      try simp only [Act.put, List.setIfInBounds_toArray, List.set_cons_zero, List.set_cons_succ]
      refine tk1 (.pointer (some ⟨X, 0, none⟩)) (by kernel_rfl) (by kernel_rfl) (by kernel_rfl) (fun _ _ _ h => h) rfl (fun w hSw => by (try dsimp only at hSw); have s4 := hSw.c 0 _ rfl; go_simp) (by assumption) ?_
      try simp only [Act.put, List.setIfInBounds_toArray, List.set_cons_zero, List.set_cons_succ]
      refine tk2 (.pointer (some ⟨X, 3, none⟩)) (by kernel_rfl) (by kernel_rfl) (by kernel_rfl) (fun _ _ _ h => h) rfl (fun w hSw => by (try dsimp only at hSw); have s4 := hSw.c 0 _ rfl; go_simp) (by assumption) ?_
      try simp only [Act.put, List.setIfInBounds_toArray, List.set_cons_zero, List.set_cons_succ]
      refine tk3 (.iface 57 (.pointer (some ⟨X, 3, none⟩))) (by kernel_rfl) (by kernel_rfl) (by kernel_rfl) (fun _ _ _ h => h) rfl (fun w hSw => by (try dsimp only at hSw); have s4 := hSw.c 0 _ rfl; go_simp) (by assumption) ?_
      try simp only [Act.put, List.setIfInBounds_toArray, List.set_cons_zero, List.set_cons_succ]
      refine tk4 (.pointer (some ⟨w.heap.size, 0, none⟩)) (by kernel_rfl) (by kernel_rfl) (by kernel_rfl) (fun _ _ _ h => h) rfl (fun w hSw => by (try dsimp only at hSw); have s4 := hSw.c 0 _ rfl; go_simp) (by assumption) ?_
      try simp only [Act.put, List.setIfInBounds_toArray, List.set_cons_zero, List.set_cons_succ]
      refine tk5 (.int .i64 e.slot) (by kernel_rfl) (by kernel_rfl) (by kernel_rfl) (fun _ _ _ h => h) rfl (fun w hSw => by (try dsimp only at hSw); have s4 := hSw.c 0 _ rfl; go_simp) (by assumption) ?_
      try simp only [Act.put, List.setIfInBounds_toArray, List.set_cons_zero, List.set_cons_succ]
      refine tk6 (.iface 3 (.int .i64 e.slot)) (by kernel_rfl) (by kernel_rfl) (by kernel_rfl) (fun _ _ _ h => h) rfl (fun w hSw => by (try dsimp only at hSw); have s4 := hSw.c 0 _ rfl; go_simp) (by assumption) ?_
      try simp only [Act.put, List.setIfInBounds_toArray, List.set_cons_zero, List.set_cons_succ]
      refine cl7 (by kernel_rfl) rfl (fun K hK => ?_)
      go_simp
      go_at_call 23
      refine (hpush_any H8.out.1.hp.drew HA.out.2.hp HHL.out e.slot).mono ?_
      rintro r w9 ⟨rfl, ⟨S9, v9, hs9, h9, k9, p9, hp9⟩⟩
      have e9 : EnBx w9 w.heap.size e := (k9.kept _ (lt_of_block H8.out.2.2) (fun h => HNS.out h.1)).trans H8.out.2.2
      have H9 : Hid (HpAt w9 base X S9 p.ap F (putM l e.slot e) hs9 mb v9 ∧ Kept W8.drew w9 (fun g => S g ∧ g ≠ mb) S9 ∧ hs9.Perm (hs ++ [e.slot]) ∧ HeapN hs9 hs9.length) := (show Hid _ from (⟨h9, k9, p9, hp9⟩ : _ ∧ _ ∧ _ ∧ _))
      clear h9 k9 p9 hp9
      refine hK.out _ _ ?_ (fun hHeld => ?_)
      · exact e9
      clear hK K
      try simp only [Act.put, List.setIfInBounds_toArray, List.set_cons_zero, List.set_cons_succ]
      refine wpAnyH_done (by kernel_rfl) ?_ _
      have hm9 : mKn.At w9 mb (putM l e.slot e) := H8.out.1.map.keep (H9.out.2.1.kept mb H8.out.1.map.lt (fun h => h.2 rfl))
      have hL9 : LrAt w9 base X (fun g => S9 g ∨ g = mb) p.ap F (putM l e.slot e) hs9 mb v9 := H9.out.1.lr hm9 (HA.out.1.lo mb HA.out.1.inM) (fun _ => Iff.rfl)
      have hR9 : LnRel ⟨p.ap, p.l ++ [e]⟩ (n + 1) F (putM l e.slot e) hs9 := HA.out.2.put HNO.out HAP.out HE.out.1.2 HE.out.2 H9.out.2.2.1 H9.out.2.2.2
      have hk9 : Kept w w9 S (fun g => S9 g ∨ g = mb) := H8.out.2.1.trans ((kept_drew _ _).trans (kept_more H9.out.2.1 (fun _ h => h.1) (fun g h => by
        rcases h with h | rfl
        · exact Or.inl h
        · exact Or.inr HA.out.1.inM)))
      have HL9 : Hid (LnAt w9 base X (fun g => S9 g ∨ g = mb) ⟨p.ap, p.l ++ [e]⟩ (n + 1)) := ⟨F, _, hs9, mb, v9, hL9, hR9⟩
      have HK9 : Hid _ := hk9
      have HN1 : Hid (n + 1 ≤ 536870912) := hn
      clear hm9 hL9 hR9 hk9 e9
      go_wp2_with (go_at_call 24; refine (apply_any HL9.out HN1.out).mono ?_; rintro r w10 ⟨u10, rfl, h10, k10, a10⟩; have H10 : Hid (LnAt w10 base X (fun g => S9 g ∨ g = mb) (folL ⟨p.ap, p.l ++ [e]⟩).1 (n + 1) ∧ Kept w9 w10 (fun g => S9 g ∨ g = mb) (fun g => S9 g ∨ g = mb) ∧ AnsE w9 w10 (fun g => S9 g ∨ g = mb) u10 (folL ⟨p.ap, p.l ++ [e]⟩).2) := (show Hid _ from (⟨h10, k10, a10⟩ : _ ∧ _ ∧ _)); clear h10 k10 a10)
      go_ret
      exact ⟨_, u10, rfl, H10.out.1, HK9.out.trans H10.out.2.1, H10.out.2.2.row, fun bk off m c h0 e1 => ⟨Nat.le_trans HK9.out.size (H10.out.2.2.new bk off m c h0 e1).1, (H10.out.2.2.new bk off m c h0 e1).2⟩⟩
end Go.Proofs.Ytnoappklbipdhaa
