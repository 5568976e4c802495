/-
  Package proposer: an acceptance heard, as the document's plain data. The conditions: those of PxTop.
-/
import Derived.Test.YtmlgoecdefeapaaPPxAccR
import Derived.Test.YtmlgoecdefeapaaPPack5
namespace Go.Proofs.Ytmlgoecdefeapaa
open Go.RowKit

section
variable {w : World} {base X : Nat} {S : Nat → Prop} {q : Pp}
theorem map_nil (w : World) : (binOp .eql 55 (.map none) (.map none)).run Try.prog w = .ok (.bool true) w := by kernel_rfl
theorem map_some (w : World) (B : Nat) : (binOp .eql 55 (.map (some B)) (.map none)).run Try.prog w = .ok (.bool false) w := by kernel_rfl
/-- What add leaves for Accepted. -/
structure AddA (w : World) (X ma B : Nat) (n s : Int) (L : Nat) (nw : Bool) (P : World → Prop) (r : Ending) (w' : World) : Prop where
  e : r = .returned (.bool nw)
  c10 : w'.cell? ⟨X, 10, none⟩ = some (.map (some ma))
  c0 : w'.cell? ⟨X, 0, none⟩ = some (.int .i64 n)
  lk : (Instr.lookup 57 (.map (some ma)) (.int .i64 s) false).run Try.prog w' = .ok (.map (some B)) w'
  ln : (Builtin.len_ #[55] 3 #[.map (some B)]).run Try.prog w' = .ok (.int .i64 (L : Int)) w'
  fin : Hid (P w')
theorem PxAt.look {p : Px} {mp : Option Nat} {mb ma : Nat} {v : Value} (h : PxAt w base X S q.n q.b q.f q.is p mp mb ma v) {s : Int} (hs : inI s) {B : Nat} {ws : List Int} (hl : lookM p.acc s = some (B, ws)) : (Instr.lookup 57 (.map (some ma)) (.int .i64 s) false).run Try.prog w = .ok (.map (some B)) w := by
  have := MapOf.look1 mAcc_is h.acc (n := s) hs
  refine this.trans ?_
  unfold MapOf.got
  rw [hl]
theorem PxAt.lookN {p : Px} {mp : Option Nat} {mb ma : Nat} {v : Value} (h : PxAt w base X S q.n q.b q.f q.is p mp mb ma v) {s : Int} (hs : inI s) (hl : lookM p.acc s = none) : (Instr.lookup 57 (.map (some ma)) (.int .i64 s) false).run Try.prog w = .ok (.map none) w := by
  have := MapOf.look1 mAcc_is h.acc (n := s) hs
  refine this.trans ?_
  unfold MapOf.got
  rw [hl]
/-- add, at the set of a slot, in a world behind w. -/
theorem add_acc {w0 : World} {S0 : Nat → Prop} {p : Px} {mp : Option Nat} {mb ma : Nat} {v : Value} {who s : Int} {B : Nat} {ws : List Int} {acc1 : List (Int × (Nat × List Int))} (hi : q.is = true) (hR : Rel q p) (hs : s ∈ rowsS p.rows) (hsI : inI s) (hwI : inI who) (hw : 0 ≤ who ∧ who < q.n) (hws : ws = wsOf p.acc s)
    (h1 : PxAt w base X S q.n q.b q.f q.is ⟨p.who, p.best, p.vf, p.vl, p.last, p.rows, acc1⟩ mp mb ma v) (hk : Kept w0 w S0 S) (hl : lookM acc1 s = some (B, ws)) (ho : ∀ t, t ≠ s → wsOf acc1 t = wsOf p.acc t) (hky : ∀ y ∈ acc1, y.1 = s ∨ ∃ z ∈ p.acc, z.1 = y.1) :
    ∃ (L : Nat) (nw : Bool), (accP (maR q.n) q who s).2 = (nw && decide ((L : Int) = maR q.n)) ∧ Calls Try.prog 26 #[.map (some B), .int .i64 who] w (AddA w X ma B q.n s L nw fun w' => ∃ S', PS w' base X S' (accP (maR q.n) q who s).1 ∧ Kept w0 w' S0 S') := by
  obtain ⟨ws', hws'⟩ : ∃ ws', ws' = if who ∈ ws then ws else ws ++ [who] := ⟨_, rfl⟩
  have hset := h1.sets _ (lookM_mem hl)
  have hlk : ∀ t, lookM (putM acc1 s (B, ws')) t = if t = s then some (B, ws') else lookM acc1 t := lookM_put acc1 s (B, ws')
  obtain ⟨r1, r2⟩ := rel_acc hi hR hs hw hws hws' (acc' := putM acc1 s (B, ws')) (fun t => by
    show ((lookM (putM acc1 s (B, ws')) t).map (·.2)).getD [] = _
    rw [hlk]
    by_cases ht : t = s
    · rw [if_pos ht, if_pos ht]
      rfl
    · rw [if_neg ht, if_neg ht]
      exact ho t ht) (fun y hy => by
    rcases putM_keys hy with e | e
    · exact Or.inl (by rw [e])
    · exact hky y e)
  refine ⟨ws'.length, decide (who ∉ ws), r2, (xadd_any hset hwI).mono ?_⟩
  rintro r w2 ⟨rfl, s2, g2⟩
  rw [← hws'] at s2
  obtain ⟨p2, k2⟩ := h1.setA hl s2 g2
  have hl2 : lookM (putM acc1 s (B, ws')) s = some (B, ws') := by rw [hlk, if_pos rfl]
  refine ⟨rfl, p2.cell 10 _ rfl, p2.cell 0 _ rfl, PxAt.look (q := q) p2 hsI hl2, ?_, S, ⟨_, mp, mb, ma, v, ?_, r1, fun h2 => ?_⟩, hk.trans k2⟩
  · have := MapOf.len mSet_is s2 3
    rw [this]
    unfold unitL
    rw [List.length_map]
  · have e0 : (accP (maR q.n) q who s).1.n = q.n ∧ (accP (maR q.n) q who s).1.b = q.b ∧ (accP (maR q.n) q who s).1.f = q.f ∧ (accP (maR q.n) q who s).1.is = q.is := by
      unfold accP
      split <;> exact ⟨rfl, rfl, rfl, rfl⟩
    rw [e0.1, e0.2.1, e0.2.2.1, e0.2.2.2]
    exact p2
  · have e0 : (accP (maR q.n) q who s).1.is = q.is := by
      unfold accP
      split <;> rfl
    rw [e0, hi] at h2
    cases h2
set_option maxHeartbeats 12800000 in
set_option maxRecDepth 100000 in
theorem pacc_any (h : PS w base X S q) (hl : Lim q) (hn : q.n ≤ 9223372036854775807) (who s : Int) (hw : inI who) (hs : inI s) :
    Calls Try.prog 13 #[.pointer (some ⟨X, 0, none⟩), .int .i64 who, .int .i64 s] w (PPost w base X S (accP (maR q.n) q who s).1 (.bool (accP (maR q.n) q who s).2)) := by
  have HPS : Hid _ := h
  have HR : Hid _ := pready_any h
  obtain ⟨p, mp, mb, ma, v, h, hR, hM⟩ := h.ex
  by_cases hi : q.is = true
  · rw [hi] at HR
    have HA : Hid _ := xhas_any h who
    have hr := hR.ready hi
    obtain ⟨r1, r2, r3, r4⟩ := hr.few hl hi
    cases hb : (decide (0 ≤ who) && decide (who < q.n)) with
    | false =>
      have e1 : accP (maR q.n) q who s = (q, false) := by
        unfold accP
        rw [if_pos]
        rw [Bool.and_eq_false_iff, decide_eq_false_iff_not, decide_eq_false_iff_not] at hb
        omega
      rw [e1]
      have HF : Hid (∀ w', Below w.heap.size w w' → PPost w base X S q (.bool false) (.returned (.bool false)) w') := fun w' b => ⟨S, rfl, HPS.out.fresh b, Kept.of b⟩
      rw [hb] at HA
      clear h hR hM e1 hl hi hb hr r1 r2 r3 r4
      go_enter Try.func13, Try.ntmps13
      go_wp2_with (first
        | (go_at_call 25; refine Calls.mono HA.out ?_; rintro r w1 ⟨rfl, rfl⟩)
        | (go_at_call 19; refine Calls.mono HR.out ?_; rintro r w1 ⟨rfl, rfl⟩))
      go_ret
      exact HF.out _ (Below.refl _ _)
    | true =>
      rw [hb] at HA
      have hww : 0 ≤ who ∧ who < q.n := by
        rw [Bool.and_eq_true, decide_eq_true_iff, decide_eq_true_iff] at hb
        exact hb
      obtain ⟨va, vc, ev⟩ := h.form
      have c9 := h.cell 9 v rfl
      have HH : Hid _ := phasR_any (s := s) hr.up (fun r hr' => (hr.ok r hr').2.1) (by omega) (OwnRo.row h.rows)
      by_cases hso : s ∈ rowsS p.rows
      · rw [decide_eq_true hso] at HH
        obtain ⟨m, hmm⟩ : ∃ m, m = maR q.n := ⟨_, rfl⟩
        have HMJ : Hid _ := pmaj_any q.n hn
        rw [← hmm] at HMJ
        have HV : Hid _ := ev
        have hbase : base ≤ w.heap.size := by
          have a1 := h.lo X h.inX
          have a2 := h.bd X h.inX
          omega
        cases hlk : lookM p.acc s with
        | none =>
          have hws : ([] : List Int) = wsOf p.acc s := by unfold wsOf; rw [hlk]; rfl
          have HP2 : Hid (∀ w2, Below w.heap.size w w2 → PxAt w2 base X S q.n q.b q.f q.is p mp mb ma v) := fun w2 b => h.fresh b
          have HMK : Hid (∀ w2, Below w.heap.size w w2 → ∃ w4, (Instr.mapUpdate 57 (.map (some ma)) (.int .i64 s) (.map (some w2.heap.size))).run Try.prog (w2.alloc (.map #[] 0)) = .ok () w4 ∧ w4.cell? ⟨X, 10, none⟩ = some (.map (some ma)) ∧ w4.cell? ⟨X, 0, none⟩ = some (.int .i64 q.n) ∧ (Instr.lookup 57 (.map (some ma)) (.int .i64 s) false).run Try.prog w4.drew = .ok (.map (some w2.heap.size)) w4.drew ∧ ∃ (L : Nat) (nw : Bool), Hid ((accP (maR q.n) q who s).2 = (nw && decide ((L : Int) = maR q.n))) ∧ Hid (Calls Try.prog 26 #[.map (some w2.heap.size), .int .i64 who] w4.drew (AddA w4.drew X ma w2.heap.size q.n s L nw fun w' => ∃ S', PS w' base X S' (accP (maR q.n) q who s).1 ∧ Kept w w' S S'))) := fun w2 b => by
            have h2 := h.fresh b
            have b3 : Below w2.heap.size w2 (w2.alloc (.map #[] 0)) := (Below.refl _ w2).alloc (Nat.le_refl _) _
            obtain ⟨w4, e4, a4, g4, z4⟩ := MapOf.put mAcc_is (h2.fresh b3).acc hs (w2.heap.size, [])
            obtain ⟨S4, p4, k4⟩ := h2.newA (Nat.le_trans hbase b.size) hlk rfl a4 g4
            have hl4 : lookM (putM p.acc s (w2.heap.size, [])) s = some (w2.heap.size, []) := by rw [lookM_put, if_pos rfl]
            have kd : Kept w w4.drew S S4 := ((Kept.of b).trans k4).trans (Kept.of (undrew (Below.refl _ _)))
            obtain ⟨L, nw, hL, hC⟩ := add_acc (who := who) hi hR hso hs hw hww hws p4.drew kd hl4 (fun t ht => by
              unfold wsOf
              rw [lookM_put, if_neg ht]) (fun y hy => by
              rcases putM_keys hy with e | e
              · exact Or.inl (by rw [e])
              · exact Or.inr ⟨y, e, rfl⟩)
            exact ⟨w4, e4, p4.cell 10 _ rfl, p4.cell 0 _ rfl, PxAt.look (q := q) p4.drew hs hl4, L, nw, hL, hC⟩
          have x10 := h.cell 10 (.map (some ma)) rfl
          have HLK : Hid (∀ w2, Below w.heap.size w w2 → (Instr.lookup 57 (.map (some ma)) (.int .i64 s) false).run Try.prog w2 = .ok (.map none) w2 ∧ w2.cell? ⟨X, 10, none⟩ = some (.map (some ma))) := fun w2 b => ⟨PxAt.lookN (q := q) (h.fresh b) hs hlk, (h.fresh b).cell 10 _ rfl⟩
          rw [hmm.symm] at HMK ⊢
          have hmk := @run_makeMap Try.prog
          have mn := map_nil
          clear h hR hM hl hi hb hr r1 r2 r3 r4 ev hlk hws HP2 hww x10 hmm
          go_enter Try.func13, Try.ntmps13
          go_upto_region 3 with (first
            | (go_at_call 33; refine Calls.mono HH.out ?_; rintro r w2 ⟨rfl, b2⟩; obtain ⟨w4, e4, i10, i0, il, L, nw, HL, HD⟩ := HMK.out w2 b2; obtain ⟨n1, n2⟩ := HLK.out w2 b2)
            | (go_at_call 25; refine Calls.mono HA.out ?_; rintro r w1 ⟨rfl, hw1⟩; rw [hw1]; clear hw1)
            | (go_at_call 19; refine Calls.mono HR.out ?_; rintro r w1 ⟨rfl, hw1⟩; rw [hw1]; clear hw1))
          clear HMK HLK HH HA HR c9
          go_upto_region 5 with fail
          obtain ⟨B, hB⟩ : ∃ B, B = w2.heap.size := ⟨_, rfl⟩
          rw [← hB] at il HD
          clear e4 n1 n2 hmk hB
          cases nw with
          | true =>
            obtain ⟨bb, hbb⟩ : ∃ bb, bb = decide ((L : Int) = m) := ⟨_, rfl⟩
            have hq1 : ((L : Int) == m) = bb := by rw [hbb]; rfl
            have hq2 : decide ((L : Int) = m) = bb := hbb.symm
            have HF : Hid (∀ w', (∃ S', PS w' base X S' (accP m q who s).1 ∧ Kept w w' S S') → PPost w base X S (accP m q who s).1 (.bool (accP m q who s).2) (.returned (.bool bb)) w') := fun w' ⟨S', h1, h2⟩ => ⟨S', by rw [HL.out, Bool.true_and, hq2], h1, h2⟩
            clear hbb HL
            refine wp_region_held_drew (S := (fun y : World => y.cell? ⟨X, 10, none⟩ = some (.map (some ma)) ∧ y.cell? ⟨X, 0, none⟩ = some (.int .i64 q.n) ∧ (Instr.lookup 57 (.map (some ma)) (.int .i64 s) false).run Try.prog y = .ok (.map (some B)) y)) (by kernel_rfl) ?_ (fun hHeld0 => ?_)
            · try dsimp only
              exact ⟨by assumption, by assumption, by assumption⟩
            refine tk0 (.pointer (some ⟨X, 0, none⟩)) (by kernel_rfl) (by kernel_rfl) (by kernel_rfl) (fun _ _ _ h => h) rfl (fun w hSw => by (try dsimp only at hSw); obtain ⟨s10, s0, sl⟩ := hSw; go_simp) (by assumption) ?_
            try simp only [Act.put, List.setIfInBounds_toArray, List.set_cons_zero, List.set_cons_succ]
            refine tk1 (.pointer (some ⟨X, 0, none⟩)) (by kernel_rfl) (by kernel_rfl) (by kernel_rfl) (fun _ _ _ h => h) rfl (fun w hSw => by (try dsimp only at hSw); obtain ⟨s10, s0, sl⟩ := hSw; go_simp) (by assumption) ?_
            try simp only [Act.put, List.setIfInBounds_toArray, List.set_cons_zero, List.set_cons_succ]
            refine tk2 (.pointer (some ⟨X, 10, none⟩)) (by kernel_rfl) (by kernel_rfl) (by kernel_rfl) (fun _ _ _ h => h) rfl (fun w hSw => by (try dsimp only at hSw); obtain ⟨s10, s0, sl⟩ := hSw; go_simp) (by assumption) ?_
            try simp only [Act.put, List.setIfInBounds_toArray, List.set_cons_zero, List.set_cons_succ]
            refine tk3 (.map (some ma)) (by kernel_rfl) (by kernel_rfl) (by kernel_rfl) (fun _ _ _ h => h) rfl (fun w hSw => by (try dsimp only at hSw); obtain ⟨s10, s0, sl⟩ := hSw; go_simp) (by assumption) ?_
            try simp only [Act.put, List.setIfInBounds_toArray, List.set_cons_zero, List.set_cons_succ]
            refine tk4 (.int .i64 s) (by kernel_rfl) (by kernel_rfl) (by kernel_rfl) (fun _ _ _ h => h) rfl (fun w hSw => by (try dsimp only at hSw); obtain ⟨s10, s0, sl⟩ := hSw; go_simp) (by assumption) ?_
            try simp only [Act.put, List.setIfInBounds_toArray, List.set_cons_zero, List.set_cons_succ]
            refine tk5 (.map (some B)) (by kernel_rfl) (by kernel_rfl) (by kernel_rfl) (fun _ _ _ h => h) rfl (fun w hSw => by (try dsimp only at hSw); obtain ⟨s10, s0, sl⟩ := hSw; go_simp) (by assumption) ?_
            try simp only [Act.put, List.setIfInBounds_toArray, List.set_cons_zero, List.set_cons_succ]
            refine tk6 (.int .i64 who) (by kernel_rfl) (by kernel_rfl) (by kernel_rfl) (fun _ _ _ h => h) rfl (fun w hSw => by (try dsimp only at hSw); obtain ⟨s10, s0, sl⟩ := hSw; go_simp) (by assumption) ?_
            try simp only [Act.put, List.setIfInBounds_toArray, List.set_cons_zero, List.set_cons_succ]
            refine cl7 (by kernel_rfl) rfl (fun K hK => ?_)
            go_simp
            go_at_call 26
            refine Calls.mono HD.out ?_
            rintro r w5 ⟨rfl, c10, c0, lk5, ln5, H5⟩
            refine hK.out _ _ ?_ (fun hHeld => ?_)
            · try dsimp only
              exact ⟨by assumption, by assumption, by assumption⟩
            clear hK K
            try simp only [Act.put, List.setIfInBounds_toArray, List.set_cons_zero, List.set_cons_succ]
            refine tk8 (.bool true) (by kernel_rfl) (by kernel_rfl) (by kernel_rfl) (fun _ _ _ h => h) rfl (fun w hSw => by (try dsimp only at hSw); obtain ⟨s10, s0, sl⟩ := hSw; go_simp) (by assumption) ?_
            try simp only [Act.put, List.setIfInBounds_toArray, List.set_cons_zero, List.set_cons_succ]
            refine tk9 (.pointer (some ⟨X, 0, none⟩)) (by kernel_rfl) (by kernel_rfl) (by kernel_rfl) (fun _ _ _ h => h) rfl (fun w hSw => by (try dsimp only at hSw); obtain ⟨s10, s0, sl⟩ := hSw; go_simp) (by assumption) ?_
            try simp only [Act.put, List.setIfInBounds_toArray, List.set_cons_zero, List.set_cons_succ]
            refine tk10 (.pointer (some ⟨X, 0, none⟩)) (by kernel_rfl) (by kernel_rfl) (by kernel_rfl) (fun _ _ _ h => h) rfl (fun w hSw => by (try dsimp only at hSw); obtain ⟨s10, s0, sl⟩ := hSw; go_simp) (by assumption) ?_
            try simp only [Act.put, List.setIfInBounds_toArray, List.set_cons_zero, List.set_cons_succ]
            refine tk11 (.pointer (some ⟨X, 10, none⟩)) (by kernel_rfl) (by kernel_rfl) (by kernel_rfl) (fun _ _ _ h => h) rfl (fun w hSw => by (try dsimp only at hSw); obtain ⟨s10, s0, sl⟩ := hSw; go_simp) (by assumption) ?_
            try simp only [Act.put, List.setIfInBounds_toArray, List.set_cons_zero, List.set_cons_succ]
            refine tk12 (.map (some ma)) (by kernel_rfl) (by kernel_rfl) (by kernel_rfl) (fun _ _ _ h => h) rfl (fun w hSw => by (try dsimp only at hSw); obtain ⟨s10, s0, sl⟩ := hSw; go_simp) (by assumption) ?_
            try simp only [Act.put, List.setIfInBounds_toArray, List.set_cons_zero, List.set_cons_succ]
            refine tk13 (.int .i64 s) (by kernel_rfl) (by kernel_rfl) (by kernel_rfl) (fun _ _ _ h => h) rfl (fun w hSw => by (try dsimp only at hSw); obtain ⟨s10, s0, sl⟩ := hSw; go_simp) (by assumption) ?_
            try simp only [Act.put, List.setIfInBounds_toArray, List.set_cons_zero, List.set_cons_succ]
            refine tk14 (.map (some B)) (by kernel_rfl) (by kernel_rfl) (by kernel_rfl) (fun _ _ _ h => h) rfl (fun w hSw => by (try dsimp only at hSw); obtain ⟨s10, s0, sl⟩ := hSw; go_simp) (by assumption) ?_
            try simp only [Act.put, List.setIfInBounds_toArray, List.set_cons_zero, List.set_cons_succ]
            refine tk16 (.pointer (some ⟨X, 0, none⟩)) (by kernel_rfl) (by kernel_rfl) (by kernel_rfl) (fun _ _ _ h => h) rfl (fun w hSw => by (try dsimp only at hSw); obtain ⟨s10, s0, sl⟩ := hSw; go_simp) (by assumption) ?_
            try simp only [Act.put, List.setIfInBounds_toArray, List.set_cons_zero, List.set_cons_succ]
            refine tk17 (.pointer (some ⟨X, 0, none⟩)) (by kernel_rfl) (by kernel_rfl) (by kernel_rfl) (fun _ _ _ h => h) rfl (fun w hSw => by (try dsimp only at hSw); obtain ⟨s10, s0, sl⟩ := hSw; go_simp) (by assumption) ?_
            try simp only [Act.put, List.setIfInBounds_toArray, List.set_cons_zero, List.set_cons_succ]
            refine tk18 (.pointer (some ⟨X, 0, none⟩)) (by kernel_rfl) (by kernel_rfl) (by kernel_rfl) (fun _ _ _ h => h) rfl (fun w hSw => by (try dsimp only at hSw); obtain ⟨s10, s0, sl⟩ := hSw; go_simp) (by assumption) ?_
            try simp only [Act.put, List.setIfInBounds_toArray, List.set_cons_zero, List.set_cons_succ]
            refine tk19 (.int .i64 q.n) (by kernel_rfl) (by kernel_rfl) (by kernel_rfl) (fun _ _ _ h => h) rfl (fun w hSw => by (try dsimp only at hSw); obtain ⟨s10, s0, sl⟩ := hSw; go_simp) (by assumption) ?_
            try simp only [Act.put, List.setIfInBounds_toArray, List.set_cons_zero, List.set_cons_succ]
            refine cl15 (by kernel_rfl) rfl (fun K hK => ?_)
            go_simp
            refine hK.out _ _ ?_ (fun hHeld => ?_)
            · try dsimp only
              exact ⟨by assumption, by assumption, by assumption⟩
            clear hK K
            try simp only [Act.put, List.setIfInBounds_toArray, List.set_cons_zero, List.set_cons_succ]
            refine cl20 (by kernel_rfl) rfl (fun K hK => ?_)
            go_simp
            go_at_call 28
            refine Calls.mono (HMJ.out _) ?_
            rintro r w9 ⟨rfl, e9⟩
            subst e9
            refine hK.out _ _ ?_ (fun hHeld => ?_)
            · try dsimp only
              exact ⟨by assumption, by assumption, by assumption⟩
            clear hK K
            try simp only [Act.put, List.setIfInBounds_toArray, List.set_cons_zero, List.set_cons_succ]
            refine tk21 (.bool bb) (by kernel_rfl) (by kernel_rfl) (by kernel_rfl) (fun _ _ _ h => h) rfl (fun w hSw => by (try dsimp only at hSw); obtain ⟨s10, s0, sl⟩ := hSw; go_simp) (by assumption) ?_
            try simp only [Act.put, List.setIfInBounds_toArray, List.set_cons_zero, List.set_cons_succ]
            refine tk22 (.bool bb) (by kernel_rfl) (by kernel_rfl) (by kernel_rfl) (fun _ _ _ h => h) rfl (fun w hSw => by (try dsimp only at hSw); obtain ⟨s10, s0, sl⟩ := hSw; go_simp) (by assumption) ?_
            try simp only [Act.put, List.setIfInBounds_toArray, List.set_cons_zero, List.set_cons_succ]
            refine tk23 (.bool bb) (by kernel_rfl) (by kernel_rfl) (by kernel_rfl) (fun _ _ _ h => h) rfl (fun w hSw => by (try dsimp only at hSw); obtain ⟨s10, s0, sl⟩ := hSw; go_simp) (by assumption) ?_
            try simp only [Act.put, List.setIfInBounds_toArray, List.set_cons_zero, List.set_cons_succ]
            refine wpAnyH_done (by kernel_rfl) ?_ _
            go_wp2
            go_returns
            exact HF.out _ H5.out
          | false =>
            have HF : Hid (∀ w', (∃ S', PS w' base X S' (accP m q who s).1 ∧ Kept w w' S S') → PPost w base X S (accP m q who s).1 (.bool (accP m q who s).2) (.returned (.bool false)) w') := fun w' ⟨S', h1, h2⟩ => ⟨S', by rw [HL.out, Bool.false_and], h1, h2⟩
            clear HL
            refine wp_region_held_drew (S := (fun y : World => y.cell? ⟨X, 10, none⟩ = some (.map (some ma)) ∧ y.cell? ⟨X, 0, none⟩ = some (.int .i64 q.n) ∧ (Instr.lookup 57 (.map (some ma)) (.int .i64 s) false).run Try.prog y = .ok (.map (some B)) y)) (by kernel_rfl) ?_ (fun hHeld0 => ?_)
            · try dsimp only
              exact ⟨by assumption, by assumption, by assumption⟩
            refine tk0 (.pointer (some ⟨X, 0, none⟩)) (by kernel_rfl) (by kernel_rfl) (by kernel_rfl) (fun _ _ _ h => h) rfl (fun w hSw => by (try dsimp only at hSw); obtain ⟨s10, s0, sl⟩ := hSw; go_simp) (by assumption) ?_
            try simp only [Act.put, List.setIfInBounds_toArray, List.set_cons_zero, List.set_cons_succ]
            refine tk1 (.pointer (some ⟨X, 0, none⟩)) (by kernel_rfl) (by kernel_rfl) (by kernel_rfl) (fun _ _ _ h => h) rfl (fun w hSw => by (try dsimp only at hSw); obtain ⟨s10, s0, sl⟩ := hSw; go_simp) (by assumption) ?_
            try simp only [Act.put, List.setIfInBounds_toArray, List.set_cons_zero, List.set_cons_succ]
            refine tk2 (.pointer (some ⟨X, 10, none⟩)) (by kernel_rfl) (by kernel_rfl) (by kernel_rfl) (fun _ _ _ h => h) rfl (fun w hSw => by (try dsimp only at hSw); obtain ⟨s10, s0, sl⟩ := hSw; go_simp) (by assumption) ?_
            try simp only [Act.put, List.setIfInBounds_toArray, List.set_cons_zero, List.set_cons_succ]
            refine tk3 (.map (some ma)) (by kernel_rfl) (by kernel_rfl) (by kernel_rfl) (fun _ _ _ h => h) rfl (fun w hSw => by (try dsimp only at hSw); obtain ⟨s10, s0, sl⟩ := hSw; go_simp) (by assumption) ?_
            try simp only [Act.put, List.setIfInBounds_toArray, List.set_cons_zero, List.set_cons_succ]
            refine tk4 (.int .i64 s) (by kernel_rfl) (by kernel_rfl) (by kernel_rfl) (fun _ _ _ h => h) rfl (fun w hSw => by (try dsimp only at hSw); obtain ⟨s10, s0, sl⟩ := hSw; go_simp) (by assumption) ?_
            try simp only [Act.put, List.setIfInBounds_toArray, List.set_cons_zero, List.set_cons_succ]
            refine tk5 (.map (some B)) (by kernel_rfl) (by kernel_rfl) (by kernel_rfl) (fun _ _ _ h => h) rfl (fun w hSw => by (try dsimp only at hSw); obtain ⟨s10, s0, sl⟩ := hSw; go_simp) (by assumption) ?_
            try simp only [Act.put, List.setIfInBounds_toArray, List.set_cons_zero, List.set_cons_succ]
            refine tk6 (.int .i64 who) (by kernel_rfl) (by kernel_rfl) (by kernel_rfl) (fun _ _ _ h => h) rfl (fun w hSw => by (try dsimp only at hSw); obtain ⟨s10, s0, sl⟩ := hSw; go_simp) (by assumption) ?_
            try simp only [Act.put, List.setIfInBounds_toArray, List.set_cons_zero, List.set_cons_succ]
            refine cl7 (by kernel_rfl) rfl (fun K hK => ?_)
            go_simp
            go_at_call 26
            refine Calls.mono HD.out ?_
            rintro r w5 ⟨rfl, c10, c0, lk5, ln5, H5⟩
            refine hK.out _ _ ?_ (fun hHeld => ?_)
            · try dsimp only
              exact ⟨by assumption, by assumption, by assumption⟩
            clear hK K
            try simp only [Act.put, List.setIfInBounds_toArray, List.set_cons_zero, List.set_cons_succ]
            refine tk8 (.bool false) (by kernel_rfl) (by kernel_rfl) (by kernel_rfl) (fun _ _ _ h => h) rfl (fun w hSw => by (try dsimp only at hSw); obtain ⟨s10, s0, sl⟩ := hSw; go_simp) (by assumption) ?_
            try simp only [Act.put, List.setIfInBounds_toArray, List.set_cons_zero, List.set_cons_succ]
            refine sk9 (by kernel_rfl) (by kernel_rfl) (by kernel_rfl) (fun _ _ _ h => h) rfl (by assumption) ?_
            try simp only [Act.put, List.setIfInBounds_toArray, List.set_cons_zero, List.set_cons_succ]
            refine sk10 (by kernel_rfl) (by kernel_rfl) (by kernel_rfl) (fun _ _ _ h => h) rfl (by assumption) ?_
            try simp only [Act.put, List.setIfInBounds_toArray, List.set_cons_zero, List.set_cons_succ]
            refine sk11 (by kernel_rfl) (by kernel_rfl) (by kernel_rfl) (fun _ _ _ h => h) rfl (by assumption) ?_
            try simp only [Act.put, List.setIfInBounds_toArray, List.set_cons_zero, List.set_cons_succ]
            refine sk12 (by kernel_rfl) (by kernel_rfl) (by kernel_rfl) (fun _ _ _ h => h) rfl (by assumption) ?_
            try simp only [Act.put, List.setIfInBounds_toArray, List.set_cons_zero, List.set_cons_succ]
            refine sk13 (by kernel_rfl) (by kernel_rfl) (by kernel_rfl) (fun _ _ _ h => h) rfl (by assumption) ?_
            try simp only [Act.put, List.setIfInBounds_toArray, List.set_cons_zero, List.set_cons_succ]
            refine sk14 (by kernel_rfl) (by kernel_rfl) (by kernel_rfl) (fun _ _ _ h => h) rfl (by assumption) ?_
            try simp only [Act.put, List.setIfInBounds_toArray, List.set_cons_zero, List.set_cons_succ]
            refine sk15 (by kernel_rfl) (by kernel_rfl) (by kernel_rfl) (fun _ _ _ h => h) rfl (by assumption) ?_
            try simp only [Act.put, List.setIfInBounds_toArray, List.set_cons_zero, List.set_cons_succ]
            refine sk16 (by kernel_rfl) (by kernel_rfl) (by kernel_rfl) (fun _ _ _ h => h) rfl (by assumption) ?_
            try simp only [Act.put, List.setIfInBounds_toArray, List.set_cons_zero, List.set_cons_succ]
            refine sk17 (by kernel_rfl) (by kernel_rfl) (by kernel_rfl) (fun _ _ _ h => h) rfl (by assumption) ?_
            try simp only [Act.put, List.setIfInBounds_toArray, List.set_cons_zero, List.set_cons_succ]
            refine sk18 (by kernel_rfl) (by kernel_rfl) (by kernel_rfl) (fun _ _ _ h => h) rfl (by assumption) ?_
            try simp only [Act.put, List.setIfInBounds_toArray, List.set_cons_zero, List.set_cons_succ]
            refine sk19 (by kernel_rfl) (by kernel_rfl) (by kernel_rfl) (fun _ _ _ h => h) rfl (by assumption) ?_
            try simp only [Act.put, List.setIfInBounds_toArray, List.set_cons_zero, List.set_cons_succ]
            refine sk20 (by kernel_rfl) (by kernel_rfl) (by kernel_rfl) (fun _ _ _ h => h) rfl (by assumption) ?_
            try simp only [Act.put, List.setIfInBounds_toArray, List.set_cons_zero, List.set_cons_succ]
            refine sk21 (by kernel_rfl) (by kernel_rfl) (by kernel_rfl) (fun _ _ _ h => h) rfl (by assumption) ?_
            try simp only [Act.put, List.setIfInBounds_toArray, List.set_cons_zero, List.set_cons_succ]
            refine tk22 (.bool false) (by kernel_rfl) (by kernel_rfl) (by kernel_rfl) (fun _ _ _ h => h) rfl (fun w hSw => by (try dsimp only at hSw); obtain ⟨s10, s0, sl⟩ := hSw; go_simp) (by assumption) ?_
            try simp only [Act.put, List.setIfInBounds_toArray, List.set_cons_zero, List.set_cons_succ]
            refine tk23 (.bool false) (by kernel_rfl) (by kernel_rfl) (by kernel_rfl) (fun _ _ _ h => h) rfl (fun w hSw => by (try dsimp only at hSw); obtain ⟨s10, s0, sl⟩ := hSw; go_simp) (by assumption) ?_
            try simp only [Act.put, List.setIfInBounds_toArray, List.set_cons_zero, List.set_cons_succ]
            refine wpAnyH_done (by kernel_rfl) ?_ _
            go_wp2
            go_returns
            exact HF.out _ H5.out
        | some x =>
          obtain ⟨B, ws⟩ := x
          have hws : ws = wsOf p.acc s := by unfold wsOf; rw [hlk]; rfl
          have HMK : Hid (∀ w2, Below w.heap.size w w2 → w2.cell? ⟨X, 10, none⟩ = some (.map (some ma)) ∧ w2.cell? ⟨X, 0, none⟩ = some (.int .i64 q.n) ∧ (Instr.lookup 57 (.map (some ma)) (.int .i64 s) false).run Try.prog w2 = .ok (.map (some B)) w2 ∧ (Instr.lookup 57 (.map (some ma)) (.int .i64 s) false).run Try.prog w2.drew = .ok (.map (some B)) w2.drew ∧ ∃ (L : Nat) (nw : Bool), Hid ((accP (maR q.n) q who s).2 = (nw && decide ((L : Int) = maR q.n))) ∧ Hid (Calls Try.prog 26 #[.map (some B), .int .i64 who] w2.drew (AddA w2.drew X ma B q.n s L nw fun w' => ∃ S', PS w' base X S' (accP (maR q.n) q who s).1 ∧ Kept w w' S S'))) := fun w2 b => by
            have h2 := h.fresh b
            have kd : Kept w w2.drew S S := (Kept.of b).trans (Kept.of (undrew (Below.refl _ _)))
            obtain ⟨L, nw, hL, hC⟩ := add_acc (who := who) hi hR hso hs hw hww hws h2.drew kd hlk (fun t ht => rfl) (fun y hy => Or.inr ⟨y, hy, rfl⟩)
            exact ⟨h2.cell 10 _ rfl, h2.cell 0 _ rfl, PxAt.look (q := q) h2 hs hlk, PxAt.look (q := q) h2.drew hs hlk, L, nw, hL, hC⟩
          rw [hmm.symm] at HMK ⊢
          have mn := map_some
          clear h hR hM hl hi hb hr r1 r2 r3 r4 ev hlk hws hww hmm
          go_enter Try.func13, Try.ntmps13
          go_upto_region 5 with (first
            | (go_at_call 33; refine Calls.mono HH.out ?_; rintro r w2 ⟨rfl, b2⟩; obtain ⟨i10, i0, il, il2, L, nw, HL, HD⟩ := HMK.out w2 b2)
            | (go_at_call 25; refine Calls.mono HA.out ?_; rintro r w1 ⟨rfl, hw1⟩; rw [hw1]; clear hw1)
            | (go_at_call 19; refine Calls.mono HR.out ?_; rintro r w1 ⟨rfl, hw1⟩; rw [hw1]; clear hw1))
          clear HMK HH HA HR c9
          cases nw with
          | true =>
            obtain ⟨bb, hbb⟩ : ∃ bb, bb = decide ((L : Int) = m) := ⟨_, rfl⟩
            have hq1 : ((L : Int) == m) = bb := by rw [hbb]; rfl
            have hq2 : decide ((L : Int) = m) = bb := hbb.symm
            have HF : Hid (∀ w', (∃ S', PS w' base X S' (accP m q who s).1 ∧ Kept w w' S S') → PPost w base X S (accP m q who s).1 (.bool (accP m q who s).2) (.returned (.bool bb)) w') := fun w' ⟨S', h1, h2⟩ => ⟨S', by rw [HL.out, Bool.true_and, hq2], h1, h2⟩
            clear hbb HL
            refine wp_region_held_drew (S := (fun y : World => y.cell? ⟨X, 10, none⟩ = some (.map (some ma)) ∧ y.cell? ⟨X, 0, none⟩ = some (.int .i64 q.n) ∧ (Instr.lookup 57 (.map (some ma)) (.int .i64 s) false).run Try.prog y = .ok (.map (some B)) y)) (by kernel_rfl) ?_ (fun hHeld0 => ?_)
            · try dsimp only
              exact ⟨by assumption, by assumption, by assumption⟩
            refine tk0 (.pointer (some ⟨X, 0, none⟩)) (by kernel_rfl) (by kernel_rfl) (by kernel_rfl) (fun _ _ _ h => h) rfl (fun w hSw => by (try dsimp only at hSw); obtain ⟨s10, s0, sl⟩ := hSw; go_simp) (by assumption) ?_
            try simp only [Act.put, List.setIfInBounds_toArray, List.set_cons_zero, List.set_cons_succ]
            refine tk1 (.pointer (some ⟨X, 0, none⟩)) (by kernel_rfl) (by kernel_rfl) (by kernel_rfl) (fun _ _ _ h => h) rfl (fun w hSw => by (try dsimp only at hSw); obtain ⟨s10, s0, sl⟩ := hSw; go_simp) (by assumption) ?_
            try simp only [Act.put, List.setIfInBounds_toArray, List.set_cons_zero, List.set_cons_succ]
            refine tk2 (.pointer (some ⟨X, 10, none⟩)) (by kernel_rfl) (by kernel_rfl) (by kernel_rfl) (fun _ _ _ h => h) rfl (fun w hSw => by (try dsimp only at hSw); obtain ⟨s10, s0, sl⟩ := hSw; go_simp) (by assumption) ?_
            try simp only [Act.put, List.setIfInBounds_toArray, List.set_cons_zero, List.set_cons_succ]
            refine tk3 (.map (some ma)) (by kernel_rfl) (by kernel_rfl) (by kernel_rfl) (fun _ _ _ h => h) rfl (fun w hSw => by (try dsimp only at hSw); obtain ⟨s10, s0, sl⟩ := hSw; go_simp) (by assumption) ?_
            try simp only [Act.put, List.setIfInBounds_toArray, List.set_cons_zero, List.set_cons_succ]
            refine tk4 (.int .i64 s) (by kernel_rfl) (by kernel_rfl) (by kernel_rfl) (fun _ _ _ h => h) rfl (fun w hSw => by (try dsimp only at hSw); obtain ⟨s10, s0, sl⟩ := hSw; go_simp) (by assumption) ?_
            try simp only [Act.put, List.setIfInBounds_toArray, List.set_cons_zero, List.set_cons_succ]
            refine tk5 (.map (some B)) (by kernel_rfl) (by kernel_rfl) (by kernel_rfl) (fun _ _ _ h => h) rfl (fun w hSw => by (try dsimp only at hSw); obtain ⟨s10, s0, sl⟩ := hSw; go_simp) (by assumption) ?_
            try simp only [Act.put, List.setIfInBounds_toArray, List.set_cons_zero, List.set_cons_succ]
            refine tk6 (.int .i64 who) (by kernel_rfl) (by kernel_rfl) (by kernel_rfl) (fun _ _ _ h => h) rfl (fun w hSw => by (try dsimp only at hSw); obtain ⟨s10, s0, sl⟩ := hSw; go_simp) (by assumption) ?_
            try simp only [Act.put, List.setIfInBounds_toArray, List.set_cons_zero, List.set_cons_succ]
            refine cl7 (by kernel_rfl) rfl (fun K hK => ?_)
            go_simp
            go_at_call 26
            refine Calls.mono HD.out ?_
            rintro r w5 ⟨rfl, c10, c0, lk5, ln5, H5⟩
            refine hK.out _ _ ?_ (fun hHeld => ?_)
            · try dsimp only
              exact ⟨by assumption, by assumption, by assumption⟩
            clear hK K
            try simp only [Act.put, List.setIfInBounds_toArray, List.set_cons_zero, List.set_cons_succ]
            refine tk8 (.bool true) (by kernel_rfl) (by kernel_rfl) (by kernel_rfl) (fun _ _ _ h => h) rfl (fun w hSw => by (try dsimp only at hSw); obtain ⟨s10, s0, sl⟩ := hSw; go_simp) (by assumption) ?_
            try simp only [Act.put, List.setIfInBounds_toArray, List.set_cons_zero, List.set_cons_succ]
            refine tk9 (.pointer (some ⟨X, 0, none⟩)) (by kernel_rfl) (by kernel_rfl) (by kernel_rfl) (fun _ _ _ h => h) rfl (fun w hSw => by (try dsimp only at hSw); obtain ⟨s10, s0, sl⟩ := hSw; go_simp) (by assumption) ?_
            try simp only [Act.put, List.setIfInBounds_toArray, List.set_cons_zero, List.set_cons_succ]
            refine tk10 (.pointer (some ⟨X, 0, none⟩)) (by kernel_rfl) (by kernel_rfl) (by kernel_rfl) (fun _ _ _ h => h) rfl (fun w hSw => by (try dsimp only at hSw); obtain ⟨s10, s0, sl⟩ := hSw; go_simp) (by assumption) ?_
            try simp only [Act.put, List.setIfInBounds_toArray, List.set_cons_zero, List.set_cons_succ]
            refine tk11 (.pointer (some ⟨X, 10, none⟩)) (by kernel_rfl) (by kernel_rfl) (by kernel_rfl) (fun _ _ _ h => h) rfl (fun w hSw => by (try dsimp only at hSw); obtain ⟨s10, s0, sl⟩ := hSw; go_simp) (by assumption) ?_
            try simp only [Act.put, List.setIfInBounds_toArray, List.set_cons_zero, List.set_cons_succ]
            refine tk12 (.map (some ma)) (by kernel_rfl) (by kernel_rfl) (by kernel_rfl) (fun _ _ _ h => h) rfl (fun w hSw => by (try dsimp only at hSw); obtain ⟨s10, s0, sl⟩ := hSw; go_simp) (by assumption) ?_
            try simp only [Act.put, List.setIfInBounds_toArray, List.set_cons_zero, List.set_cons_succ]
            refine tk13 (.int .i64 s) (by kernel_rfl) (by kernel_rfl) (by kernel_rfl) (fun _ _ _ h => h) rfl (fun w hSw => by (try dsimp only at hSw); obtain ⟨s10, s0, sl⟩ := hSw; go_simp) (by assumption) ?_
            try simp only [Act.put, List.setIfInBounds_toArray, List.set_cons_zero, List.set_cons_succ]
            refine tk14 (.map (some B)) (by kernel_rfl) (by kernel_rfl) (by kernel_rfl) (fun _ _ _ h => h) rfl (fun w hSw => by (try dsimp only at hSw); obtain ⟨s10, s0, sl⟩ := hSw; go_simp) (by assumption) ?_
            try simp only [Act.put, List.setIfInBounds_toArray, List.set_cons_zero, List.set_cons_succ]
            refine tk16 (.pointer (some ⟨X, 0, none⟩)) (by kernel_rfl) (by kernel_rfl) (by kernel_rfl) (fun _ _ _ h => h) rfl (fun w hSw => by (try dsimp only at hSw); obtain ⟨s10, s0, sl⟩ := hSw; go_simp) (by assumption) ?_
            try simp only [Act.put, List.setIfInBounds_toArray, List.set_cons_zero, List.set_cons_succ]
            refine tk17 (.pointer (some ⟨X, 0, none⟩)) (by kernel_rfl) (by kernel_rfl) (by kernel_rfl) (fun _ _ _ h => h) rfl (fun w hSw => by (try dsimp only at hSw); obtain ⟨s10, s0, sl⟩ := hSw; go_simp) (by assumption) ?_
            try simp only [Act.put, List.setIfInBounds_toArray, List.set_cons_zero, List.set_cons_succ]
            refine tk18 (.pointer (some ⟨X, 0, none⟩)) (by kernel_rfl) (by kernel_rfl) (by kernel_rfl) (fun _ _ _ h => h) rfl (fun w hSw => by (try dsimp only at hSw); obtain ⟨s10, s0, sl⟩ := hSw; go_simp) (by assumption) ?_
            try simp only [Act.put, List.setIfInBounds_toArray, List.set_cons_zero, List.set_cons_succ]
            refine tk19 (.int .i64 q.n) (by kernel_rfl) (by kernel_rfl) (by kernel_rfl) (fun _ _ _ h => h) rfl (fun w hSw => by (try dsimp only at hSw); obtain ⟨s10, s0, sl⟩ := hSw; go_simp) (by assumption) ?_
            try simp only [Act.put, List.setIfInBounds_toArray, List.set_cons_zero, List.set_cons_succ]
            refine cl15 (by kernel_rfl) rfl (fun K hK => ?_)
            go_simp
            refine hK.out _ _ ?_ (fun hHeld => ?_)
            · try dsimp only
              exact ⟨by assumption, by assumption, by assumption⟩
            clear hK K
            try simp only [Act.put, List.setIfInBounds_toArray, List.set_cons_zero, List.set_cons_succ]
            refine cl20 (by kernel_rfl) rfl (fun K hK => ?_)
            go_simp
            go_at_call 28
            refine Calls.mono (HMJ.out _) ?_
            rintro r w9 ⟨rfl, e9⟩
            subst e9
            refine hK.out _ _ ?_ (fun hHeld => ?_)
            · try dsimp only
              exact ⟨by assumption, by assumption, by assumption⟩
            clear hK K
            try simp only [Act.put, List.setIfInBounds_toArray, List.set_cons_zero, List.set_cons_succ]
            refine tk21 (.bool bb) (by kernel_rfl) (by kernel_rfl) (by kernel_rfl) (fun _ _ _ h => h) rfl (fun w hSw => by (try dsimp only at hSw); obtain ⟨s10, s0, sl⟩ := hSw; go_simp) (by assumption) ?_
            try simp only [Act.put, List.setIfInBounds_toArray, List.set_cons_zero, List.set_cons_succ]
            refine tk22 (.bool bb) (by kernel_rfl) (by kernel_rfl) (by kernel_rfl) (fun _ _ _ h => h) rfl (fun w hSw => by (try dsimp only at hSw); obtain ⟨s10, s0, sl⟩ := hSw; go_simp) (by assumption) ?_
            try simp only [Act.put, List.setIfInBounds_toArray, List.set_cons_zero, List.set_cons_succ]
            refine tk23 (.bool bb) (by kernel_rfl) (by kernel_rfl) (by kernel_rfl) (fun _ _ _ h => h) rfl (fun w hSw => by (try dsimp only at hSw); obtain ⟨s10, s0, sl⟩ := hSw; go_simp) (by assumption) ?_
            try simp only [Act.put, List.setIfInBounds_toArray, List.set_cons_zero, List.set_cons_succ]
            refine wpAnyH_done (by kernel_rfl) ?_ _
            go_wp2
            go_returns
            exact HF.out _ H5.out
          | false =>
            have HF : Hid (∀ w', (∃ S', PS w' base X S' (accP m q who s).1 ∧ Kept w w' S S') → PPost w base X S (accP m q who s).1 (.bool (accP m q who s).2) (.returned (.bool false)) w') := fun w' ⟨S', h1, h2⟩ => ⟨S', by rw [HL.out, Bool.false_and], h1, h2⟩
            clear HL
            refine wp_region_held_drew (S := (fun y : World => y.cell? ⟨X, 10, none⟩ = some (.map (some ma)) ∧ y.cell? ⟨X, 0, none⟩ = some (.int .i64 q.n) ∧ (Instr.lookup 57 (.map (some ma)) (.int .i64 s) false).run Try.prog y = .ok (.map (some B)) y)) (by kernel_rfl) ?_ (fun hHeld0 => ?_)
            · try dsimp only
              exact ⟨by assumption, by assumption, by assumption⟩
            refine tk0 (.pointer (some ⟨X, 0, none⟩)) (by kernel_rfl) (by kernel_rfl) (by kernel_rfl) (fun _ _ _ h => h) rfl (fun w hSw => by (try dsimp only at hSw); obtain ⟨s10, s0, sl⟩ := hSw; go_simp) (by assumption) ?_
            try simp only [Act.put, List.setIfInBounds_toArray, List.set_cons_zero, List.set_cons_succ]
            refine tk1 (.pointer (some ⟨X, 0, none⟩)) (by kernel_rfl) (by kernel_rfl) (by kernel_rfl) (fun _ _ _ h => h) rfl (fun w hSw => by (try dsimp only at hSw); obtain ⟨s10, s0, sl⟩ := hSw; go_simp) (by assumption) ?_
            try simp only [Act.put, List.setIfInBounds_toArray, List.set_cons_zero, List.set_cons_succ]
            refine tk2 (.pointer (some ⟨X, 10, none⟩)) (by kernel_rfl) (by kernel_rfl) (by kernel_rfl) (fun _ _ _ h => h) rfl (fun w hSw => by (try dsimp only at hSw); obtain ⟨s10, s0, sl⟩ := hSw; go_simp) (by assumption) ?_
            try simp only [Act.put, List.setIfInBounds_toArray, List.set_cons_zero, List.set_cons_succ]
            refine tk3 (.map (some ma)) (by kernel_rfl) (by kernel_rfl) (by kernel_rfl) (fun _ _ _ h => h) rfl (fun w hSw => by (try dsimp only at hSw); obtain ⟨s10, s0, sl⟩ := hSw; go_simp) (by assumption) ?_
            try simp only [Act.put, List.setIfInBounds_toArray, List.set_cons_zero, List.set_cons_succ]
            refine tk4 (.int .i64 s) (by kernel_rfl) (by kernel_rfl) (by kernel_rfl) (fun _ _ _ h => h) rfl (fun w hSw => by (try dsimp only at hSw); obtain ⟨s10, s0, sl⟩ := hSw; go_simp) (by assumption) ?_
            try simp only [Act.put, List.setIfInBounds_toArray, List.set_cons_zero, List.set_cons_succ]
            refine tk5 (.map (some B)) (by kernel_rfl) (by kernel_rfl) (by kernel_rfl) (fun _ _ _ h => h) rfl (fun w hSw => by (try dsimp only at hSw); obtain ⟨s10, s0, sl⟩ := hSw; go_simp) (by assumption) ?_
            try simp only [Act.put, List.setIfInBounds_toArray, List.set_cons_zero, List.set_cons_succ]
            refine tk6 (.int .i64 who) (by kernel_rfl) (by kernel_rfl) (by kernel_rfl) (fun _ _ _ h => h) rfl (fun w hSw => by (try dsimp only at hSw); obtain ⟨s10, s0, sl⟩ := hSw; go_simp) (by assumption) ?_
            try simp only [Act.put, List.setIfInBounds_toArray, List.set_cons_zero, List.set_cons_succ]
            refine cl7 (by kernel_rfl) rfl (fun K hK => ?_)
            go_simp
            go_at_call 26
            refine Calls.mono HD.out ?_
            rintro r w5 ⟨rfl, c10, c0, lk5, ln5, H5⟩
            refine hK.out _ _ ?_ (fun hHeld => ?_)
            · try dsimp only
              exact ⟨by assumption, by assumption, by assumption⟩
            clear hK K
            try simp only [Act.put, List.setIfInBounds_toArray, List.set_cons_zero, List.set_cons_succ]
            refine tk8 (.bool false) (by kernel_rfl) (by kernel_rfl) (by kernel_rfl) (fun _ _ _ h => h) rfl (fun w hSw => by (try dsimp only at hSw); obtain ⟨s10, s0, sl⟩ := hSw; go_simp) (by assumption) ?_
            try simp only [Act.put, List.setIfInBounds_toArray, List.set_cons_zero, List.set_cons_succ]
            refine sk9 (by kernel_rfl) (by kernel_rfl) (by kernel_rfl) (fun _ _ _ h => h) rfl (by assumption) ?_
            try simp only [Act.put, List.setIfInBounds_toArray, List.set_cons_zero, List.set_cons_succ]
            refine sk10 (by kernel_rfl) (by kernel_rfl) (by kernel_rfl) (fun _ _ _ h => h) rfl (by assumption) ?_
            try simp only [Act.put, List.setIfInBounds_toArray, List.set_cons_zero, List.set_cons_succ]
            refine sk11 (by kernel_rfl) (by kernel_rfl) (by kernel_rfl) (fun _ _ _ h => h) rfl (by assumption) ?_
            try simp only [Act.put, List.setIfInBounds_toArray, List.set_cons_zero, List.set_cons_succ]
            refine sk12 (by kernel_rfl) (by kernel_rfl) (by kernel_rfl) (fun _ _ _ h => h) rfl (by assumption) ?_
            try simp only [Act.put, List.setIfInBounds_toArray, List.set_cons_zero, List.set_cons_succ]
            refine sk13 (by kernel_rfl) (by kernel_rfl) (by kernel_rfl) (fun _ _ _ h => h) rfl (by assumption) ?_
            try simp only [Act.put, List.setIfInBounds_toArray, List.set_cons_zero, List.set_cons_succ]
            refine sk14 (by kernel_rfl) (by kernel_rfl) (by kernel_rfl) (fun _ _ _ h => h) rfl (by assumption) ?_
            try simp only [Act.put, List.setIfInBounds_toArray, List.set_cons_zero, List.set_cons_succ]
            refine sk15 (by kernel_rfl) (by kernel_rfl) (by kernel_rfl) (fun _ _ _ h => h) rfl (by assumption) ?_
            try simp only [Act.put, List.setIfInBounds_toArray, List.set_cons_zero, List.set_cons_succ]
            refine sk16 (by kernel_rfl) (by kernel_rfl) (by kernel_rfl) (fun _ _ _ h => h) rfl (by assumption) ?_
            try simp only [Act.put, List.setIfInBounds_toArray, List.set_cons_zero, List.set_cons_succ]
            refine sk17 (by kernel_rfl) (by kernel_rfl) (by kernel_rfl) (fun _ _ _ h => h) rfl (by assumption) ?_
            try simp only [Act.put, List.setIfInBounds_toArray, List.set_cons_zero, List.set_cons_succ]
            refine sk18 (by kernel_rfl) (by kernel_rfl) (by kernel_rfl) (fun _ _ _ h => h) rfl (by assumption) ?_
            try simp only [Act.put, List.setIfInBounds_toArray, List.set_cons_zero, List.set_cons_succ]
            refine sk19 (by kernel_rfl) (by kernel_rfl) (by kernel_rfl) (fun _ _ _ h => h) rfl (by assumption) ?_
            try simp only [Act.put, List.setIfInBounds_toArray, List.set_cons_zero, List.set_cons_succ]
            refine sk20 (by kernel_rfl) (by kernel_rfl) (by kernel_rfl) (fun _ _ _ h => h) rfl (by assumption) ?_
            try simp only [Act.put, List.setIfInBounds_toArray, List.set_cons_zero, List.set_cons_succ]
            refine sk21 (by kernel_rfl) (by kernel_rfl) (by kernel_rfl) (fun _ _ _ h => h) rfl (by assumption) ?_
            try simp only [Act.put, List.setIfInBounds_toArray, List.set_cons_zero, List.set_cons_succ]
            refine tk22 (.bool false) (by kernel_rfl) (by kernel_rfl) (by kernel_rfl) (fun _ _ _ h => h) rfl (fun w hSw => by (try dsimp only at hSw); obtain ⟨s10, s0, sl⟩ := hSw; go_simp) (by assumption) ?_
            try simp only [Act.put, List.setIfInBounds_toArray, List.set_cons_zero, List.set_cons_succ]
            refine tk23 (.bool false) (by kernel_rfl) (by kernel_rfl) (by kernel_rfl) (fun _ _ _ h => h) rfl (fun w hSw => by (try dsimp only at hSw); obtain ⟨s10, s0, sl⟩ := hSw; go_simp) (by assumption) ?_
            try simp only [Act.put, List.setIfInBounds_toArray, List.set_cons_zero, List.set_cons_succ]
            refine wpAnyH_done (by kernel_rfl) ?_ _
            go_wp2
            go_returns
            exact HF.out _ H5.out
      · have e1 : accP (maR q.n) q who s = (q, false) := accP_same (fun x hx e => hso (by rw [← hr.slots]; exact List.mem_map.2 ⟨x, hx, e⟩))
        rw [e1]
        have HF : Hid (∀ w', Below w.heap.size w w' → PPost w base X S q (.bool false) (.returned (.bool false)) w') := fun w' b => ⟨S, rfl, HPS.out.fresh b, Kept.of b⟩
        rw [decide_eq_false hso] at HH
        clear h hR hM e1 hl hi hb hr r1 r2 r3 r4 hso hww ev
        go_enter Try.func13, Try.ntmps13
        go_wp2_with (first
          | (go_at_call 33; refine Calls.mono HH.out ?_; rintro r w2 ⟨rfl, b2⟩)
          | (go_at_call 25; refine Calls.mono HA.out ?_; rintro r w1 ⟨rfl, rfl⟩)
          | (go_at_call 19; refine Calls.mono HR.out ?_; rintro r w1 ⟨rfl, rfl⟩))
        go_ret
        exact HF.out _ b2
  · have hi' : q.is = false := by simpa using hi
    rw [hi'] at HR
    have e1 : accP (maR q.n) q who s = (q, false) := accP_same (fun x hx => by rw [(hR.early hi').l] at hx; cases hx)
    rw [e1]
    have HF : Hid (PPost w base X S q (.bool false) (.returned (.bool false)) w) := ⟨S, rfl, HPS.out, Kept.refl _ _⟩
    clear h hR hM e1 hl hi hi'
    go_enter Try.func13, Try.ntmps13
    go_wp2_with (go_at_call 19; refine Calls.mono HR.out ?_; rintro r w1 ⟨rfl, rfl⟩)
    go_ret
    exact HF.out
end
end Go.Proofs.Ytmlgoecdefeapaa
