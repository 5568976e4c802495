/-
  Package proposer: an entry of a promise, kept if it is the best of its slot so far. The condition: a text has at most 2^48 bytes; a slot that counts is an int's.
-/
import Derived.Test.YtmlgoecdefeapaaPPxEntry
namespace Go.Proofs.Ytmlgoecdefeapaa
open Go.RowKit

def hearB (f : Int) (l : List (Int × En)) (e : En) : List (Int × En) :=
  if e.slot < f then l else match lookM l e.slot with
    | none => putM l e.slot e
    | some x => if x.ballot < e.ballot then putM l e.slot e else l
section
variable {w : World} {base X : Nat} {S : Nat → Prop} {n b f : Int} {is : Bool} {p : Px} {mp : Option Nat} {mb ma : Nat} {v : Value}
set_option maxHeartbeats 6400000 in
set_option maxRecDepth 100000 in
theorem xhear_any (h : PxAt w base X S n b f is p mp mb ma v) (e : En) (hs : f ≤ e.slot → inI e.slot) (hn : e.cmd.name.size ≤ 281474976710656) :
    Calls Try.prog 27 #[.pointer (some ⟨X, 0, none⟩), .agg (enA e)] w (PutPost w base X S n b f is ⟨p.who, hearB f p.best e, p.vf, p.vl, p.last, p.rows, p.acc⟩ mp mb ma v) := by
  obtain ⟨w0, hw0⟩ : ∃ w0, w0 = w := ⟨_, rfl⟩
  rw [← hw0] at h ⊢
  clear hw0
  obtain ⟨W, hW⟩ : ∃ W, W = w0.alloc (.cells (enA e) 38) := ⟨_, rfl⟩
  have b1 : Below w0.heap.size w0 W := by rw [hW]; exact (Below.refl _ w0).alloc (Nat.le_refl _) _
  have q1 : W.heap[w0.heap.size]? = some (.cells (enA e) 38 (0, 0)) := by rw [hW]; exact heap_alloc_new w0 _
  have z1 : W.heap.size = w0.heap.size + 1 := by rw [hW]; simp
  have p1 := h.fresh b1
  have c2 := p1.cell 2 (.int .i64 f) rfl
  have c0 := boxE q1 0 _ rfl
  have HW : Hid (w0.alloc (.cells (enA e) 38) = W) := hW.symm
  have HZ : Hid (w0.heap.size < W.heap.size) := by show _ < _; omega
  have HE : Hid _ := q1
  have hsame : ∀ y, Below W.heap.size W y → hearB f p.best e = p.best → PutPost w0 base X S n b f is ⟨p.who, hearB f p.best e, p.vf, p.vl, p.last, p.rows, p.acc⟩ mp mb ma v (.returned (.tuple #[])) y := fun y d hb => by
    rw [hb]
    exact ⟨rfl, p1.fresh d, Kept.of (bmm b1 b1.size d)⟩
  have HS : Hid _ := hsame
  have HPX : Hid _ := p1
  have HB1 : Hid _ := b1
  clear hsame h b1 hW q1
  by_cases hf : e.slot < f
  · have t1 : decide (e.slot < f) = true := decide_eq_true hf
    have HH : Hid (hearB f p.best e = p.best) := by
      show (if _ then _ else _) = _
      rw [if_pos hf]
    clear hf p1
    go_enter Try.func27, Try.ntmps27
    go_upto_region 1 with fail
    rw [HW.out]
    go_quiet (fail)
    go_wp2
    go_returns
    exact HS.out _ (below_drewN (Below.refl _ _) _) HH.out
  · have t1 : decide (e.slot < f) = false := decide_eq_false hf
    have hs' := hs (by omega)
    obtain ⟨r, hr⟩ : ∃ r, r = (lookM p.best e.slot).isSome := ⟨_, rfl⟩
    obtain ⟨o, ho⟩ : ∃ o, o = eo p.best e.slot := ⟨_, rfl⟩
    have sc : ∀ y, Below W.heap.size W y → y.cell? ⟨X, 4, none⟩ = some (.map (some mb)) ∧ y.cell? ⟨w0.heap.size, 0, none⟩ = some (.int .i64 e.slot) ∧ (Instr.lookup 56 (.map (some mb)) (.int .i64 e.slot) true).run Try.prog y = .ok (.tuple #[.agg (enA o), .bool r]) y := fun y d => by
      have py := p1.fresh d
      refine ⟨py.cell 4 (.map (some mb)) rfl, boxE ((d.block _ HZ.out).trans HE.out) 0 _ rfl, ?_⟩
      have := MapOf.look2 mBest_is py.best hs'
      rw [eo_got, ← hr, ← ho] at this
      exact this
    have SC : Hid _ := sc
    have hH : hearB f p.best e = if r = true ∧ ¬ o.ballot < e.ballot then p.best else putM p.best e.slot e := by
      unfold hearB
      rw [if_neg hf, hr, ho]
      unfold eo
      cases lookM p.best e.slot with
      | none => rfl
      | some x =>
        show (if x.ballot < e.ballot then _ else _) = if _ ∧ ¬ x.ballot < e.ballot then _ else _
        by_cases hx : x.ballot < e.ballot
        · rw [if_pos hx, if_neg (fun h => h.2 hx)]
        · rw [if_neg hx, if_pos ⟨rfl, hx⟩]
    have HH : Hid _ := hH
    clear hf sc hr ho hH p1 hs
    go_enter Try.func27, Try.ntmps27
    go_upto_region 1 with fail
    rw [HW.out]
    go_quiet (fail)
    obtain ⟨W1, hW1⟩ : ∃ W1, W1 = W.drewN nq := ⟨_, rfl⟩
    have DW : Hid (Below W.heap.size W W1) := by
      rw [hW1]
      exact below_drewN (Below.refl _ _) _
    rw [← hW1]
    clear hW1 c0 c2
    have hSt : True := trivial
    go_wp2
    refine wp_region_held_drew (S := (fun y : World => Below W1.heap.size W1 y)) (by kernel_rfl) ?_ (fun hHeld0 => ?_)
    · exact undrew (Below.refl _ _)
    refine tk0 (.pointer (some ⟨X, 0, none⟩)) (by kernel_rfl) (by kernel_rfl) (by kernel_rfl) (fun _ _ _ h => h) rfl (fun w hSw => by (try dsimp only at hSw); obtain ⟨s4, s0, hlk⟩ := SC.out w (bmm DW.out DW.out.size hSw); go_simp) (by assumption) ?_
    try simp only [Act.put, List.setIfInBounds_toArray, List.set_cons_zero, List.set_cons_succ]
    refine tk1 (.pointer (some ⟨X, 0, none⟩)) (by kernel_rfl) (by kernel_rfl) (by kernel_rfl) (fun _ _ _ h => h) rfl (fun w hSw => by (try dsimp only at hSw); obtain ⟨s4, s0, hlk⟩ := SC.out w (bmm DW.out DW.out.size hSw); go_simp) (by assumption) ?_
    try simp only [Act.put, List.setIfInBounds_toArray, List.set_cons_zero, List.set_cons_succ]
    refine tk2 (.pointer (some ⟨X, 4, none⟩)) (by kernel_rfl) (by kernel_rfl) (by kernel_rfl) (fun _ _ _ h => h) rfl (fun w hSw => by (try dsimp only at hSw); obtain ⟨s4, s0, hlk⟩ := SC.out w (bmm DW.out DW.out.size hSw); go_simp) (by assumption) ?_
    try simp only [Act.put, List.setIfInBounds_toArray, List.set_cons_zero, List.set_cons_succ]
    refine tk3 (.map (some mb)) (by kernel_rfl) (by kernel_rfl) (by kernel_rfl) (fun _ _ _ h => h) rfl (fun w hSw => by (try dsimp only at hSw); obtain ⟨s4, s0, hlk⟩ := SC.out w (bmm DW.out DW.out.size hSw); go_simp) (by assumption) ?_
    try simp only [Act.put, List.setIfInBounds_toArray, List.set_cons_zero, List.set_cons_succ]
    refine tk4 (.pointer (some ⟨w0.heap.size, 0, none⟩)) (by kernel_rfl) (by kernel_rfl) (by kernel_rfl) (fun _ _ _ h => h) rfl (fun w hSw => by (try dsimp only at hSw); obtain ⟨s4, s0, hlk⟩ := SC.out w (bmm DW.out DW.out.size hSw); go_simp) (by assumption) ?_
    try simp only [Act.put, List.setIfInBounds_toArray, List.set_cons_zero, List.set_cons_succ]
    refine tk5 (.int .i64 e.slot) (by kernel_rfl) (by kernel_rfl) (by kernel_rfl) (fun _ _ _ h => h) rfl (fun w hSw => by (try dsimp only at hSw); obtain ⟨s4, s0, hlk⟩ := SC.out w (bmm DW.out DW.out.size hSw); go_simp) (by assumption) ?_
    try simp only [Act.put, List.setIfInBounds_toArray, List.set_cons_zero, List.set_cons_succ]
    refine tk6 (.tuple #[.agg (enA o), .bool r]) (by kernel_rfl) (by kernel_rfl) (by kernel_rfl) (fun _ _ _ h => h) rfl (fun w hSw => by (try dsimp only at hSw); obtain ⟨s4, s0, hlk⟩ := SC.out w (bmm DW.out DW.out.size hSw); go_simp) (by assumption) ?_
    try simp only [Act.put, List.setIfInBounds_toArray, List.set_cons_zero, List.set_cons_succ]
    refine tk7 (.tuple #[.agg (enA o), .bool r]) (by kernel_rfl) (by kernel_rfl) (by kernel_rfl) (fun _ _ _ h => h) rfl (fun w hSw => by (try dsimp only at hSw); obtain ⟨s4, s0, hlk⟩ := SC.out w (bmm DW.out DW.out.size hSw); go_simp) (by assumption) ?_
    try simp only [Act.put, List.setIfInBounds_toArray, List.set_cons_zero, List.set_cons_succ]
    refine tk8 (.agg (enA o)) (by kernel_rfl) (by kernel_rfl) (by kernel_rfl) (fun _ _ _ h => h) rfl (fun w hSw => by (try dsimp only at hSw); obtain ⟨s4, s0, hlk⟩ := SC.out w (bmm DW.out DW.out.size hSw); go_simp) (by assumption) ?_
    try simp only [Act.put, List.setIfInBounds_toArray, List.set_cons_zero, List.set_cons_succ]
    refine tk9 (.bool r) (by kernel_rfl) (by kernel_rfl) (by kernel_rfl) (fun _ _ _ h => h) rfl (fun w hSw => by (try dsimp only at hSw); obtain ⟨s4, s0, hlk⟩ := SC.out w (bmm DW.out DW.out.size hSw); go_simp) (by assumption) ?_
    try simp only [Act.put, List.setIfInBounds_toArray, List.set_cons_zero, List.set_cons_succ]
    refine cl10 (by kernel_rfl) rfl (fun K hK => ?_)
    go_simp
    obtain ⟨y1, hy1⟩ : ∃ y1, y1 = W1.drew.alloc (.cells zeA 38) := ⟨_, rfl⟩
    have d1 : Below W1.heap.size W1 y1 := by rw [hy1]; exact undrew ((Below.refl _ W1.drew).alloc (Nat.le_refl _) _)
    have g1 : y1.heap[W1.heap.size]? = some (.cells zeA 38 (0, 0)) := by rw [hy1]; exact heap_alloc_new W1.drew _
    rw [show (W1.alloc (.cells #[.int .i64 0, .int .i64 0, .int .i64 0, .int .i64 0, .int .i64 0, .string ⟨#[]⟩, .int .i64 0] 38)).drew = y1 from hy1.symm]
    have D1 : Hid _ := d1
    have G1 : Hid _ := g1
    clear hy1 d1 g1
    refine hK.out _ _ ?_ (fun hHeld => ?_)
    · exact D1.out
    clear hK K
    try simp only [Act.put, List.setIfInBounds_toArray, List.set_cons_zero, List.set_cons_succ]
    refine cl11 (by kernel_rfl) rfl (fun K hK => ?_)
    refine wp_store_row 38 _ _ rfl W1.heap.size (enA o) rfl rfl 38 zeA G1.out sizeEnP rfl (by simp [Value.oneCell']) ?_
    obtain ⟨y2, hy2⟩ : ∃ y2, y2 = y1.setRow W1.heap.size (enA o) := ⟨_, rfl⟩
    rw [← hy2]
    have r2 : y2.heap[W1.heap.size]? = some (.cells (enA o) 38 (0, 0)) := by rw [hy2]; exact setRow_heap y1 _ _ _ _ _ G1.out
    have d2 : Below W1.heap.size W1 y2 := ⟨by rw [hy2]; exact D1.out.os, by rw [hy2]; exact D1.out.tape, by rw [hy2]; exact D1.out.output, by rw [hy2]; simpa [World.setRow] using D1.out.size, fun g hg => by rw [hy2]; exact (setRow_other y1 _ _ _ (by omega)).trans (D1.out.block g hg)⟩
    have D2 : Hid _ := d2
    have R2 : Hid _ := r2
    clear hy2 d2 r2
    refine hK.out _ _ ?_ (fun hHeld => ?_)
    · exact D2.out
    clear hK K
    refine cl12 (by kernel_rfl) rfl (fun K hK => ?_)
    go_simp
    refine hK.out _ _ ?_ (fun hHeld => ?_)
    · exact D2.out
    clear hK K
    try simp only [Act.put, List.setIfInBounds_toArray, List.set_cons_zero, List.set_cons_succ]
    refine wpAnyH_done (by kernel_rfl) ?_ _
    clear hHeld hHeld0 hSt
    have d2 : Below W.heap.size W y2 := bmm DW.out DW.out.size D2.out
    have x2 : y2.heap[w0.heap.size]? = some (.cells (enA e) 38 (0, 0)) := (d2.block _ HZ.out).trans HE.out
    have e0 := boxE x2 0 _ rfl
    have e1 := boxE x2 1 _ rfl
    have e2 := boxE x2 2 _ rfl
    have e3 := boxE x2 3 _ rfl
    have e4 := boxE x2 4 _ rfl
    have e5 := boxE x2 5 _ rfl
    have e6 := boxE x2 6 _ rfl
    have u1 := boxE R2.out 1 _ rfl
    have Y2 : Hid _ := d2
    have P2 : Hid _ := HPX.out.fresh d2
    clear d2 x2 D1 D2 G1 R2 DW SC
    cases r with
    | false =>
      have HHH : Hid (hearB f p.best e = putM p.best e.slot e) := by
        show _ = _
        rw [HH.out, if_neg (fun h => by cases h.1)]
      go_wp2_with (go_at_call 35; refine (xput_any P2.out e hs' hn).mono ?_; rintro rr w7 ⟨rfl, h7, k7⟩)
      go_returns
      refine ⟨rfl, ?_, (Kept.of (bmm HB1.out HB1.out.size Y2.out)).trans k7⟩
      rw [HHH.out]
      exact h7
    | true =>
      by_cases hx : o.ballot < e.ballot
      · have t3 : decide (o.ballot < e.ballot) = true := decide_eq_true hx
        have HHH : Hid (hearB f p.best e = putM p.best e.slot e) := by
          show _ = _
          rw [HH.out, if_neg (fun h => by have := h.2; omega)]
        go_wp2_with (go_at_call 35; refine (xput_any P2.out e hs' hn).mono ?_; rintro rr w7 ⟨rfl, h7, k7⟩)
        go_returns
        refine ⟨rfl, ?_, (Kept.of (bmm HB1.out HB1.out.size Y2.out)).trans k7⟩
        rw [HHH.out]
        exact h7
      · have t3 : decide (o.ballot < e.ballot) = false := decide_eq_false hx
        have HHH : Hid (hearB f p.best e = p.best) := by
          show _ = _
          rw [HH.out, if_pos ⟨rfl, by omega⟩]
        go_wp2
        go_returns
        exact HS.out _ Y2.out HHH.out
end
end Go.Proofs.Ytmlgoecdefeapaa
