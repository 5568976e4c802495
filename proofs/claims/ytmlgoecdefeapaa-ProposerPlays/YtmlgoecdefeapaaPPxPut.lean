/-
  Package proposer: an entry laid at its slot. The condition: a text has at most 2^48 bytes; the slot is an int's.
-/
import Derived.Test.YtmlgoecdefeapaaPPxSmall
namespace Go.Proofs.Ytmlgoecdefeapaa
open Go.RowKit

/-- The block turned by cells of its own, or new blocks laid: what is the proposer's has not turned. -/
structure PutPost (w : World) (base X : Nat) (S : Nat → Prop) (n b f : Int) (is : Bool) (p : Px) (mp : Option Nat) (mb ma : Nat) (v : Value) (e : Ending) (w' : World) : Prop where
  ex : e = .returned (.tuple #[]) ∧ PxAt w' base X S n b f is p mp mb ma v ∧ Kept w w' S S
section
variable {w : World} {base X : Nat} {S : Nat → Prop} {n b f : Int} {is : Bool} {p : Px} {mp : Option Nat} {mb ma : Nat} {v : Value}
set_option maxHeartbeats 3200000 in
set_option maxRecDepth 100000 in
theorem xput_any (h : PxAt w base X S n b f is p mp mb ma v) (e : En) (hs : inI e.slot) (hn : e.cmd.name.size ≤ 281474976710656) :
    Calls Try.prog 35 #[.pointer (some ⟨X, 0, none⟩), .agg (enA e)] w (PutPost w base X S n b f is ⟨p.who, putM p.best e.slot e, p.vf, p.vl, p.last, p.rows, p.acc⟩ mp mb ma v) := by
  obtain ⟨W, hW⟩ : ∃ W, W = w.alloc (.cells (enA e) 38) := ⟨_, rfl⟩
  have b1 : Below w.heap.size w W := by rw [hW]; exact (Below.refl _ w).alloc (Nat.le_refl _) _
  have q1 : W.heap[w.heap.size]? = some (.cells (enA e) 38 (0, 0)) := by rw [hW]; exact heap_alloc_new w _
  have c5 := boxE q1 5 _ rfl
  have HW : Hid (w.alloc (.cells (enA e) 38) = W) := hW.symm
  have HB : Hid _ := b1
  have HQ : Hid _ := q1
  have HP : Hid _ := h
  clear h hW b1 q1
  go_enter Try.func35, Try.ntmps35
  go_upto_region 1 with fail
  rw [HW.out]
  go_upto_region 2 with (go_at_call 43; refine (xclone_any e.cmd.name _ hn).mono ?_; rintro r w2 ⟨rfl, b2⟩; have q2 := (b2.block _ (lt_of_block HQ.out)).trans HQ.out; have d5 := boxE q2 5 _ rfl; have f5 : w2.frozen? ⟨w.heap.size, 5, none⟩ = false := (by simp [World.frozen?, q2]))
  obtain ⟨W3, hW3⟩ : ∃ W3, W3 = w2.setCell ⟨w.heap.size, 5, none⟩ (.string e.cmd.name) := ⟨_, rfl⟩
  have q3 : W3.heap[w.heap.size]? = some (.cells (enA e) 38 (0, 0)) := by
    rw [hW3, heap_setCell_same w2 w.heap.size 5 _ _ _ q2]
    rfl
  have b3 : Below w.heap.size w W3 := by
    rw [hW3]
    exact (bmm HB.out HB.out.size b2).setCell (p := ⟨w.heap.size, 5, none⟩) (Nat.le_refl _) _
  have p3 := HP.out.fresh b3
  obtain ⟨w', hp, ha, hgr, hz⟩ := MapOf.put mBest_is p3.drew.best hs e
  have hfin := p3.drew.setB ha hgr
  have HF : Hid (PutPost w base X S n b f is ⟨p.who, putM p.best e.slot e, p.vf, p.vl, p.last, p.rows, p.acc⟩ mp mb ma v (.returned (.tuple #[])) w') :=
    ⟨rfl, hfin.1, (Kept.of (show Below w.heap.size w W3.drew from ⟨b3.os, b3.tape, b3.output, b3.size, b3.block⟩)).trans hfin.2⟩
  rw [← hW3]
  have e0 := boxE q3 0 _ rfl
  have e1 := boxE q3 1 _ rfl
  have e2 := boxE q3 2 _ rfl
  have e3 := boxE q3 3 _ rfl
  have e4 := boxE q3 4 _ rfl
  have e5 := boxE q3 5 _ rfl
  have e6 := boxE q3 6 _ rfl
  have x4 := p3.cell 4 (.map (some mb)) rfl
  have q4 : w'.heap[w.heap.size]? = some (.cells (enA e) 38 (0, 0)) := (hgr.block _ (show w.heap.size < W3.drew.heap.size from lt_of_block q3) (fun e1 => by have := Option.some.inj e1; have := HP.out.bd _ HP.out.inB; omega)).trans q3
  have g0 := boxE q4 0 _ rfl
  have g1 := boxE q4 1 _ rfl
  have g2 := boxE q4 2 _ rfl
  have g3 := boxE q4 3 _ rfl
  have g4 := boxE q4 4 _ rfl
  have g5 := boxE q4 5 _ rfl
  have g6 := boxE q4 6 _ rfl
  have y4 := hfin.1.cell 4 (.map (some mb)) rfl
  clear hfin hgr hz ha q4 p3 b3 q3 hW3 d5 f5 q2 b2 c5
  go_wp2
  go_region_held3 (fun y => y.cell? ⟨X, 4, none⟩ = some (.map (some mb)) ∧ y.cell? ⟨w.heap.size, 0, none⟩ = some (.int .i64 e.slot) ∧ y.cell? ⟨w.heap.size, 1, none⟩ = some (.int .i64 e.ballot) ∧ y.cell? ⟨w.heap.size, 2, none⟩ = some (.int .i64 e.cmd.kind) ∧ y.cell? ⟨w.heap.size, 3, none⟩ = some (.int .i64 e.cmd.session) ∧ y.cell? ⟨w.heap.size, 4, none⟩ = some (.int .i64 e.cmd.seq) ∧ y.cell? ⟨w.heap.size, 5, none⟩ = some (.string e.cmd.name) ∧ y.cell? ⟨w.heap.size, 6, none⟩ = some (.int .i64 e.cmd.n)) (go_keep) (fail)
  all_goals go_wp2
  all_goals go_returns
  exact HF.out
end
end Go.Proofs.Ytmlgoecdefeapaa
