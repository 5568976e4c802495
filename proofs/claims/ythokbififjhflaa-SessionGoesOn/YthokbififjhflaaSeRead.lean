/-
  Package session: read, of a session that was written. The conditions: the session may be the next one; a text no longer than an int tells.
-/
import Derived.Test.YthokbififjhflaaSeRdI
import Derived.Deep.DeepCutAuto
namespace Go.Proofs.Ythokbififjhflaa
open Go.RowKit

theorem xb_fresh {w w' : World} {b : Nat} {x : SeX} (h : SeB w b x) (k : Below w.heap.size w w') : SeB w' b x := (k.block _ (lt_of_block h)).trans h
theorem xb_keep {w w' : World} {b R : Nat} {x : SeX} (h : SeB w b x) (hn : b ≠ R) (g : w.grownBy w' (some R)) : SeB w' b x := (g.block _ (lt_of_block h) (fun e => hn (Option.some.inj e))).trans h
theorem grown_undrew {w w' : World} {r : Option Nat} (g : w.drew.grownBy w' r) : w.grownBy w' r := ⟨g.os, g.tape, g.output, g.size, g.block⟩
theorem ab_kept {w w' : World} {base X R ab : Nat} {S : Nat → Prop} {l : List SeX} {bs : List UInt8} (h : RdI w base X R S l bs) (g : w.grownBy w' (some ab)) (hR : ab ≠ R) (hS : ∀ b, S b → b ≠ ab) : RdI w' base X R S l bs :=
  ⟨h.at'.keep fun b hb => g.block b (h.at'.bd b hb).2 (fun e => hS b hb (Option.some.inj e)), by have := h.rd; unfold Rd at this ⊢; exact (g.block R h.lt (fun e => hR (Option.some.inj e).symm)).trans this, h.no, h.lo, h.len⟩
theorem kept_past {w w1 w2 : World} {S : Nat → Prop} {ab : Nat} (k : Kept w w1 S S) (g : w1.grownBy w2 (some ab)) (h : w.heap.size ≤ ab) : Kept w w2 S S :=
  ⟨g.os.trans k.os, g.tape.trans k.tape, g.output.trans k.output, Nat.le_trans k.size g.size, k.old, fun b hb hn => (g.block b (Nat.lt_of_lt_of_le hb k.size) (fun e => by have := Option.some.inj e; omega)).trans (k.kept b hb hn)⟩
section
variable {P : Program} {md : Region.Mode} {Q : Exit → Act → World → Prop} {S : World → Prop} {fuel : Nat} {listed : Array Bool} {a : Act} {w : World} {l : List Oper}
theorem rd4_10 {o0 o1 o2 o3 o4 o5 o6 o7 o8 o9 o10 : Oper} (hr : Region.ready md (o0 :: o1 :: o2 :: o3 :: o4 :: o5 :: o6 :: o7 :: o8 :: o9 :: o10 :: l).toArray listed = [4, 10]) (hw0 : Region.wanted o4 (yielded (o0 :: o1 :: o2 :: o3 :: o4 :: o5 :: o6 :: o7 :: o8 :: o9 :: o10 :: l).toArray a.tmps) = true) (hw1 : Region.wanted o10 (yielded (o0 :: o1 :: o2 :: o3 :: o4 :: o5 :: o6 :: o7 :: o8 :: o9 :: o10 :: l).toArray a.tmps) = true)
    (h0 : ∀ K' : Act → World → Prop, Shut (∀ a w, S w → (S w → wpAnyH P md (o0 :: o1 :: o2 :: o3 :: o4 :: o5 :: o6 :: o7 :: o8 :: o9 :: o10 :: l).toArray Q S fuel (listed.setIfInBounds 4 true) a w) → K' a w) → Oper.wp P o4 a w K' Q)
    (h1 : ∀ K' : Act → World → Prop, Shut (∀ a w, S w → (S w → wpAnyH P md (o0 :: o1 :: o2 :: o3 :: o4 :: o5 :: o6 :: o7 :: o8 :: o9 :: o10 :: l).toArray Q S fuel (listed.setIfInBounds 10 true) a w) → K' a w) → Oper.wp P o10 a w K' Q) : wpAnyH P md (o0 :: o1 :: o2 :: o3 :: o4 :: o5 :: o6 :: o7 :: o8 :: o9 :: o10 :: l).toArray Q S (fuel + 1) listed a w :=
  wpAnyH_ready hr (by simp) (AllReadyH.cons (o := o4) rfl (fun K hK => by rw [if_pos hw0]; exact h0 K hK) (AllReadyH.cons (o := o10) rfl (fun K hK => by rw [if_pos hw1]; exact h1 K hK) AllReadyH.nil))
theorem rd6_10 {o0 o1 o2 o3 o4 o5 o6 o7 o8 o9 o10 : Oper} (hr : Region.ready md (o0 :: o1 :: o2 :: o3 :: o4 :: o5 :: o6 :: o7 :: o8 :: o9 :: o10 :: l).toArray listed = [6, 10]) (hw0 : Region.wanted o6 (yielded (o0 :: o1 :: o2 :: o3 :: o4 :: o5 :: o6 :: o7 :: o8 :: o9 :: o10 :: l).toArray a.tmps) = true) (hw1 : Region.wanted o10 (yielded (o0 :: o1 :: o2 :: o3 :: o4 :: o5 :: o6 :: o7 :: o8 :: o9 :: o10 :: l).toArray a.tmps) = true)
    (h0 : ∀ K' : Act → World → Prop, Shut (∀ a w, S w → (S w → wpAnyH P md (o0 :: o1 :: o2 :: o3 :: o4 :: o5 :: o6 :: o7 :: o8 :: o9 :: o10 :: l).toArray Q S fuel (listed.setIfInBounds 6 true) a w) → K' a w) → Oper.wp P o6 a w K' Q)
    (h1 : ∀ K' : Act → World → Prop, Shut (∀ a w, S w → (S w → wpAnyH P md (o0 :: o1 :: o2 :: o3 :: o4 :: o5 :: o6 :: o7 :: o8 :: o9 :: o10 :: l).toArray Q S fuel (listed.setIfInBounds 10 true) a w) → K' a w) → Oper.wp P o10 a w K' Q) : wpAnyH P md (o0 :: o1 :: o2 :: o3 :: o4 :: o5 :: o6 :: o7 :: o8 :: o9 :: o10 :: l).toArray Q S (fuel + 1) listed a w :=
  wpAnyH_ready hr (by simp) (AllReadyH.cons (o := o6) rfl (fun K hK => by rw [if_pos hw0]; exact h0 K hK) (AllReadyH.cons (o := o10) rfl (fun K hK => by rw [if_pos hw1]; exact h1 K hK) AllReadyH.nil))
theorem rd8_10 {o0 o1 o2 o3 o4 o5 o6 o7 o8 o9 o10 : Oper} (hr : Region.ready md (o0 :: o1 :: o2 :: o3 :: o4 :: o5 :: o6 :: o7 :: o8 :: o9 :: o10 :: l).toArray listed = [8, 10]) (hw0 : Region.wanted o8 (yielded (o0 :: o1 :: o2 :: o3 :: o4 :: o5 :: o6 :: o7 :: o8 :: o9 :: o10 :: l).toArray a.tmps) = true) (hw1 : Region.wanted o10 (yielded (o0 :: o1 :: o2 :: o3 :: o4 :: o5 :: o6 :: o7 :: o8 :: o9 :: o10 :: l).toArray a.tmps) = true)
    (h0 : ∀ K' : Act → World → Prop, Shut (∀ a w, S w → (S w → wpAnyH P md (o0 :: o1 :: o2 :: o3 :: o4 :: o5 :: o6 :: o7 :: o8 :: o9 :: o10 :: l).toArray Q S fuel (listed.setIfInBounds 8 true) a w) → K' a w) → Oper.wp P o8 a w K' Q)
    (h1 : ∀ K' : Act → World → Prop, Shut (∀ a w, S w → (S w → wpAnyH P md (o0 :: o1 :: o2 :: o3 :: o4 :: o5 :: o6 :: o7 :: o8 :: o9 :: o10 :: l).toArray Q S fuel (listed.setIfInBounds 10 true) a w) → K' a w) → Oper.wp P o10 a w K' Q) : wpAnyH P md (o0 :: o1 :: o2 :: o3 :: o4 :: o5 :: o6 :: o7 :: o8 :: o9 :: o10 :: l).toArray Q S (fuel + 1) listed a w :=
  wpAnyH_ready hr (by simp) (AllReadyH.cons (o := o8) rfl (fun K hK => by rw [if_pos hw0]; exact h0 K hK) (AllReadyH.cons (o := o10) rfl (fun K hK => by rw [if_pos hw1]; exact h1 K hK) AllReadyH.nil))
end
theorem sizeSx : (Try.prog.info? 82).map (·.size) = some 9 := by kernel_rfl
structure RedP (w : World) (base X R : Nat) (S : Nat → Prop) (l : List SeX) (bs : List UInt8) (e : Ending) (w' : World) : Prop where
  ex : ∃ S', e = .returned (.bool true) ∧ RdI w' base X R S' l bs ∧ Kept w w' (fun g => S g ∨ g = R) (fun g => S' g ∨ g = R)
set_option maxRecDepth 100000 in
set_option maxHeartbeats 8000000 in
theorem read_any {w : World} {base X R : Nat} {S : Nat → Prop} {l : List SeX} {x : SeX} {rest : List UInt8} (h : RdI w base X R S l (seRow ((l.length : Int) + 1) x ++ rest)) (hx : x.Ok ((l.length : Int) + 1)) (hf : seLif l x.client < x.life) (ho : x.op = true → (seAll l).length < 256) (hl : l.length < 1000000) :
    Calls Try.prog 42 #[.pointer (some ⟨X, 0, none⟩), .pointer (some ⟨R, 0, none⟩)] w (RedP w base X R S (l ++ [x]) rest) := by
  have mixed : Try.prog.follows Departure.mixedOrders = true := by kernel_rfl
  obtain ⟨x0, hx0⟩ : ∃ x0 : SeX, x0 = ⟨x.client, x.life, x.op, 0, false, SeR.zero⟩ := ⟨_, rfl⟩
  obtain ⟨x1, hx1⟩ : ∃ x1 : SeX, x1 = ⟨x.client, x.life, x.op, x.seq, x.said, SeR.zero⟩ := ⟨_, rfl⟩
  have HX0 : Hid (x0 = ⟨x.client, x.life, x.op, 0, false, SeR.zero⟩ ∧ x1 = ⟨x.client, x.life, x.op, x.seq, x.said, SeR.zero⟩) := (show Hid _ from (⟨hx0, hx1⟩ : _ ∧ _))
  have HO : Hid (x.Ok ((l.length : Int) + 1)) := hx
  have HLN : Hid (l.length < 1000000) := hl
  have HFF : Hid (seLif l x.client < x.life ∧ (x.op = true → (seAll l).length < 256)) := (show Hid _ from (⟨hf, ho⟩ : _ ∧ _))
  obtain ⟨T, hT⟩ : ∃ T : Nat, x.r.token = T := ⟨x.r.token.toNat, by have := hx.r.t0; omega⟩
  obtain ⟨r9, hr9⟩ : ∃ r9, r9 = rest := ⟨_, rfl⟩
  obtain ⟨r8, hr8⟩ : ∃ r8, r8 = seI x.r.n ++ r9 := ⟨_, rfl⟩
  obtain ⟨r7, hr7⟩ : ∃ r7, r7 = enc T ++ r8 := ⟨_, rfl⟩
  obtain ⟨r6, hr6⟩ : ∃ r6, r6 = seI x.r.err ++ r7 := ⟨_, rfl⟩
  obtain ⟨r5, hr5⟩ : ∃ r5, r5 = seI (seBit x.said) ++ r6 := ⟨_, rfl⟩
  obtain ⟨r4, hr4⟩ : ∃ r4, r4 = seI x.seq ++ r5 := ⟨_, rfl⟩
  obtain ⟨r3, hr3⟩ : ∃ r3, r3 = seI (seBit x.op) ++ r4 := ⟨_, rfl⟩
  obtain ⟨r2, hr2⟩ : ∃ r2, r2 = seI x.life ++ r3 := ⟨_, rfl⟩
  obtain ⟨r1, hr1⟩ : ∃ r1, r1 = seI x.client ++ r2 := ⟨_, rfl⟩
  have e0 : seRow ((l.length : Int) + 1) x ++ rest = seI ((l.length : Int) + 1) ++ r1 := by
    rw [hr1, hr2, hr3, hr4, hr5, hr6, hr7, hr8, hr9]
    unfold seRow
    rw [hT]
    simp
  rw [e0] at h
  have bo := seBit_le x.op
  have bs2 := seBit_le x.said
  have q1 := hx.c0; have q2 := hx.c1; have q3 := hx.l0; have q4 := hx.l1; have q5 := hx.q0; have q6 := hx.q1; have q7 := hx.r.e0; have q8 := hx.r.e1; have q9 := hx.r.n0; have q10 := hx.r.n1; have q11 := hx.r.t1
  have D0 : Hid (∀ y, RdI y base X R S l (seI ((l.length : Int) + 1) ++ r1) → Calls Try.prog 41 #[.pointer (some ⟨R, 0, none⟩)] y (RdP y base X R S l r1 (.int .i64 ((l.length : Int) + 1)))) := fun y hy => hy.int (okI_mk (by omega) (by omega))
  have D1 : Hid (∀ y, RdI y base X R S l r1 → Calls Try.prog 41 #[.pointer (some ⟨R, 0, none⟩)] y (RdP y base X R S l r2 (.int .i64 x.client))) := fun y hy => by rw [hr1] at hy; exact hy.int (okI_mk (by omega) (by omega))
  have D2 : Hid (∀ y, RdI y base X R S l r2 → Calls Try.prog 41 #[.pointer (some ⟨R, 0, none⟩)] y (RdP y base X R S l r3 (.int .i64 x.life))) := fun y hy => by rw [hr2] at hy; exact hy.int (okI_mk (by omega) (by omega))
  have D3 : Hid (∀ y, RdI y base X R S l r3 → Calls Try.prog 41 #[.pointer (some ⟨R, 0, none⟩)] y (RdP y base X R S l r4 (.int .i64 (seBit x.op)))) := fun y hy => by rw [hr3] at hy; exact hy.int (okI_mk (by omega) (by omega))
  have D5 : Hid (∀ y, RdI y base X R S l r4 → Calls Try.prog 41 #[.pointer (some ⟨R, 0, none⟩)] y (RdP y base X R S l r5 (.int .i64 x.seq))) := fun y hy => by rw [hr4] at hy; exact hy.int (okI_mk (by omega) (by omega))
  have D6 : Hid (∀ y, RdI y base X R S l r5 → Calls Try.prog 41 #[.pointer (some ⟨R, 0, none⟩)] y (RdP y base X R S l r6 (.int .i64 (seBit x.said)))) := fun y hy => by rw [hr5] at hy; exact hy.int (okI_mk (by omega) (by omega))
  have D7 : Hid (∀ y, RdI y base X R S l r6 → Calls Try.prog 41 #[.pointer (some ⟨R, 0, none⟩)] y (RdP y base X R S l r7 (.int .i64 x.r.err))) := fun y hy => by rw [hr6] at hy; exact hy.int (okI_mk (by omega) (by omega))
  have D8 : Hid (∀ y, RdI y base X R S l r7 → Calls Try.prog 58 #[.pointer (some ⟨R, 0, none⟩)] y (RdP y base X R S l r8 (.int .u64 x.r.token))) := fun y hy => by rw [hr7] at hy; rw [hT]; exact hy.u64 (by omega)
  have D9 : Hid (∀ y, RdI y base X R S l r8 → Calls Try.prog 41 #[.pointer (some ⟨R, 0, none⟩)] y (RdP y base X R S l r9 (.int .i64 x.r.n))) := fun y hy => by rw [hr8] at hy; exact hy.int (okI_mk (by omega) (by omega))
  have top : (seBit x.op == 1) = x.op := by cases x.op <;> rfl
  have tsd : (seBit x.said == 1) = x.said := by cases x.said <;> rfl
  have I0 : Hid (RdI w base X R S l (seI ((l.length : Int) + 1) ++ r1)) := h
  have HR9 : Hid (r9 = rest) := hr9
  have HTT : Hid (x.r.token = T) := hT
  clear h e0 hr1 hr2 hr3 hr4 hr5 hr6 hr7 hr8 hr9 bo bs2 q1 q2 q3 q4 q5 q6 q7 q8 q9 q10 q11 hx hf ho hx0 hx1 hT
  go_enter Try.func42, Try.ntmps42
  go_upto_region 2 with (go_at_call 41; refine Calls.mono (D0.out _ I0.out) ?_; rintro r w1 ⟨⟨rfl, i1, g1⟩⟩; have I1 : Hid (RdI w1 base X R S l r1) := i1; have K1 : Hid (Kept w w1 (fun g => S g ∨ g = R) (fun g => S g ∨ g = R)) := kept_grown g1 (Or.inr rfl); clear i1 g1)
  go_upto_region 3 with (first
    | (show wpList _ _ _ (⟨_, Op.store 82 _ _, _, _, _, _⟩ :: _) _ _; refine store_row_g rfl 82 _ _ rfl w3.heap.size (seXA ⟨x.client, x.life, x.op, 0, false, SeR.zero⟩) rfl rfl 82 _ (heap_alloc_new w3 _) sizeSx rfl (by simp [Value.oneCell']) ?_; intro w4 h4 g4)
    | (go_at_call 41; have d2 := d1; refine Calls.mono (D2.out _ I2.out) ?_; rintro r w3 ⟨⟨rfl, i3, g3⟩⟩; have I3 : Hid (RdI w3 base X R S l r3) := i3; have K3 : Hid (Kept w w3 (fun g => S g ∨ g = R) (fun g => S g ∨ g = R)) := K2.out.trans (kept_grown g3 (Or.inr rfl)); clear i3 g3)
    | (go_at_call 41; refine Calls.mono (D1.out _ I1.out) ?_; rintro r w2 ⟨⟨rfl, i2, g2⟩⟩; have I2 : Hid (RdI w2 base X R S l r2) := i2; have K2 : Hid (Kept w w2 (fun g => S g ∨ g = R) (fun g => S g ∨ g = R)) := K1.out.trans (kept_grown g2 (Or.inr rfl)); clear i2 g2; have d1 : True := trivial))
  have b4 : Below w3.heap.size w3 w4 := below_out ((Below.refl _ w3).alloc (Nat.le_refl _) _) g4
  have X4 : Hid (SeB w4 w3.heap.size x0) := by show SeB w4 w3.heap.size x0; rw [HX0.out.1]; exact h4
  have I4 : Hid (RdI w4 base X R S l r3) := I3.out.fresh b4
  have K4 : Hid (Kept w w4 (fun g => S g ∨ g = R) (fun g => S g ∨ g = R)) := K3.out.trans (Kept.of b4)
  have HNR : Hid (w3.heap.size ≠ R) := by have := I3.out.lt; show w3.heap.size ≠ R; omega
  have HNS : Hid (∀ g, S g → g < w3.heap.size) := fun g hg => (I3.out.at'.bd g hg).2
  clear h4 g4 b4
  go_upto_region 4 with (go_at_call 41; refine Calls.mono (D3.out _ I4.out) ?_; rintro r w5 ⟨⟨rfl, i5, g5⟩⟩; have I5 : Hid (RdI w5 base X R S l r4) := i5; have X5 : Hid (SeB w5 w3.heap.size x0) := xb_keep X4.out HNR.out g5; have K5 : Hid (Kept w w5 (fun g => S g ∨ g = R) (fun g => S g ∨ g = R)) := K4.out.trans (kept_grown g5 (Or.inr rfl)); clear i5 g5)
  go_upto_region 5 with (first
    | (go_at_call 41; have d4 := d3; refine Calls.mono (D6.out _ I6.out) ?_; rintro r w7 ⟨⟨rfl, i7, g7⟩⟩; have I7 : Hid (RdI w7 base X R S l r6) := i7; have X7 : Hid (SeB w7 w3.heap.size x0) := xb_keep X6.out HNR.out g7; have K7 : Hid (Kept w w7 (fun g => S g ∨ g = R) (fun g => S g ∨ g = R)) := K6.out.trans (kept_grown g7 (Or.inr rfl)); have z2 : w7.cell? ⟨w3.heap.size, 2, none⟩ = some (.int .i64 x0.seq) := X7.out.cell 2 _ rfl; have z3 : w7.cell? ⟨w3.heap.size, 3, none⟩ = some (.bool x0.said) := X7.out.cell 3 _ rfl; have fz := X7.out.fz; clear i7 g7)
    | (go_at_call 41; refine Calls.mono (D5.out _ I5.out) ?_; rintro r w6 ⟨⟨rfl, i6, g6⟩⟩; have I6 : Hid (RdI w6 base X R S l r5) := i6; have X6 : Hid (SeB w6 w3.heap.size x0) := xb_keep X5.out HNR.out g6; have K6 : Hid (Kept w w6 (fun g => S g ∨ g = R) (fun g => S g ∨ g = R)) := K5.out.trans (kept_grown g6 (Or.inr rfl)); clear i6 g6; have d3 : True := trivial))
  obtain ⟨w8, hw8⟩ : ∃ w8, w8 = (w7.setCell ⟨w3.heap.size, 2, none⟩ (.int .i64 x.seq)).setCell ⟨w3.heap.size, 3, none⟩ (.bool x.said) := ⟨_, rfl⟩
  have g8 : w7.grownBy w8 (some w3.heap.size) := by rw [hw8]; exact grown_cell (grown_cell (grown_rf _ _))
  have X8 : Hid (SeB w8 w3.heap.size x1) := by
    show SeB w8 w3.heap.size x1
    have h1 := X7.out
    rw [HX0.out.1] at h1
    have h2 := heap_setCell_same w7 w3.heap.size 2 _ _ (.int .i64 x.seq) h1
    have h3 := heap_setCell_same _ w3.heap.size 3 _ _ (.bool x.said) h2
    rw [hw8, HX0.out.2]
    exact h3
  have I8 : Hid (RdI w8 base X R S l r6) := ⟨I7.out.at'.keep fun g hg => g8.block g (I7.out.at'.bd g hg).2 (fun e => by have := HNS.out g hg; have := Option.some.inj e; omega), by have := I7.out.rd; unfold Rd at this ⊢; exact (g8.block R I7.out.lt (fun e => HNR.out (Option.some.inj e).symm)).trans this, I7.out.no, I7.out.lo, I7.out.len⟩
  have K8 : Hid (Kept w w8 (fun g => S g ∨ g = R) (fun g => S g ∨ g = R)) := by
    have k7 := K7.out
    have k3 := K3.out
    refine ⟨g8.os.trans k7.os, g8.tape.trans k7.tape, g8.output.trans k7.output, Nat.le_trans k7.size g8.size, k7.old, fun g hg hn => ?_⟩
    exact (g8.block g (Nat.lt_of_lt_of_le hg k7.size) (fun e => by have := Option.some.inj e; have := k3.size; omega)).trans (k7.kept g hg hn)
  rw [← hw8]
  clear hw8 g8 z2 z3 fz
  have u2 : w8.cell? ⟨w3.heap.size, 2, none⟩ = some (.int .i64 x.seq) := by have := X8.out; rw [HX0.out.2] at this; exact this.cell 2 _ rfl
  clear top tsd
  go_cut [8] (fun z wc => ∃ ab, z = .pointer (some ⟨ab, 0, none⟩) ∧ Hid (RdI wc base X R S l r9) ∧ Hid (SeB wc w3.heap.size x1) ∧ Hid (Kept w wc (fun g => S g ∨ g = R) (fun g => S g ∨ g = R)) ∧ Hid (wc.heap[ab]? = some (.cells #[.int .i64 ((l.length : Int) + 1), .int .i64 x.seq, .int .i64 x.r.err, .int .u64 x.r.token, .int .i64 x.r.n] 36 (0, 0))))
  case first =>
    refine wp_region_held_drew (S := (fun y : World => SeB y w3.heap.size x1)) (by kernel_rfl) ?_ (fun hHeld0 => ?_)
    · exact X8.out
    refine tk0 (.int .i64 ((l.length : Int) + 1)) (by kernel_rfl) (by kernel_rfl) (by kernel_rfl) (fun _ _ _ h => h) rfl (fun w hSw => by (try dsimp only at hSw); have hs1 := hSw; rw [HX0.out.2] at hs1; have s4 := SeB.cell hs1 2 _ rfl; go_simp) (by assumption) ?_
    try simp only [Act.put, List.setIfInBounds_toArray, List.set_cons_zero, List.set_cons_succ]
    refine tk1 (.pointer (some ⟨w3.heap.size, 2, none⟩)) (by kernel_rfl) (by kernel_rfl) (by kernel_rfl) (fun _ _ _ h => h) rfl (fun w hSw => by (try dsimp only at hSw); have hs1 := hSw; rw [HX0.out.2] at hs1; have s4 := SeB.cell hs1 2 _ rfl; go_simp) (by assumption) ?_
    try simp only [Act.put, List.setIfInBounds_toArray, List.set_cons_zero, List.set_cons_succ]
    refine tk2 (.int .i64 x.seq) (by kernel_rfl) (by kernel_rfl) (by kernel_rfl) (fun _ _ _ h => h) rfl (fun w hSw => by (try dsimp only at hSw); have hs1 := hSw; rw [HX0.out.2] at hs1; have s4 := SeB.cell hs1 2 _ rfl; go_simp) (by assumption) ?_
    try simp only [Act.put, List.setIfInBounds_toArray, List.set_cons_zero, List.set_cons_succ]
    refine tk3 (.pointer (some ⟨R, 0, none⟩)) (by kernel_rfl) (by kernel_rfl) (by kernel_rfl) (fun _ _ _ h => h) rfl (fun w hSw => by (try dsimp only at hSw); have hs1 := hSw; rw [HX0.out.2] at hs1; have s4 := SeB.cell hs1 2 _ rfl; go_simp) (by assumption) ?_
    try simp only [Act.put, List.setIfInBounds_toArray, List.set_cons_zero, List.set_cons_succ]
    refine tk5 (.pointer (some ⟨R, 0, none⟩)) (by kernel_rfl) (by kernel_rfl) (by kernel_rfl) (fun _ _ _ h => h) rfl (fun w hSw => by (try dsimp only at hSw); have hs1 := hSw; rw [HX0.out.2] at hs1; have s4 := SeB.cell hs1 2 _ rfl; go_simp) (by assumption) ?_
    try simp only [Act.put, List.setIfInBounds_toArray, List.set_cons_zero, List.set_cons_succ]
    refine tk7 (.pointer (some ⟨R, 0, none⟩)) (by kernel_rfl) (by kernel_rfl) (by kernel_rfl) (fun _ _ _ h => h) rfl (fun w hSw => by (try dsimp only at hSw); have hs1 := hSw; rw [HX0.out.2] at hs1; have s4 := SeB.cell hs1 2 _ rfl; go_simp) (by assumption) ?_
    try simp only [Act.put, List.setIfInBounds_toArray, List.set_cons_zero, List.set_cons_succ]
    refine rd4_10 (by kernel_rfl) rfl rfl (fun K hK => ?_) (fun K hK => ?_)
    · go_simp
      go_at_call 41
      refine Calls.mono (D7.out _ (I8.out.fresh (Below.refl _ _).drew)) ?_
      rintro r y4 ⟨⟨rfl, i4, g4⟩⟩
      replace g4 := grown_undrew g4
      have I4 : Hid (RdI y4 base X R S l r7) := i4
      have X4 : Hid (SeB y4 w3.heap.size x1) := xb_keep X8.out HNR.out g4
      have K4 : Hid (Kept w y4 (fun g => S g ∨ g = R) (fun g => S g ∨ g = R)) := K8.out.trans (kept_grown g4 (Or.inr rfl))
      clear i4 g4
      refine hK.out _ _ ?_ (fun hHeld => ?_)
      · exact X4.out
      clear hK K
      try simp only [Act.put, List.setIfInBounds_toArray, List.set_cons_zero, List.set_cons_succ]
      refine rd6_10 (by kernel_rfl) rfl rfl (fun K hK => ?_) (fun K hK => ?_)
      · go_simp
        go_at_call 58
        refine Calls.mono (D8.out _ I4.out) ?_
        rintro r y6 ⟨⟨rfl, i6, g6⟩⟩
        have I6 : Hid (RdI y6 base X R S l r8) := i6
        have X6 : Hid (SeB y6 w3.heap.size x1) := xb_keep X4.out HNR.out g6
        have K6 : Hid (Kept w y6 (fun g => S g ∨ g = R) (fun g => S g ∨ g = R)) := K4.out.trans (kept_grown g6 (Or.inr rfl))
        clear i6 g6
        refine hK.out _ _ ?_ (fun hHeld => ?_)
        · exact X6.out
        clear hK K
        try simp only [Act.put, List.setIfInBounds_toArray, List.set_cons_zero, List.set_cons_succ]
        refine rd8_10 (by kernel_rfl) rfl rfl (fun K hK => ?_) (fun K hK => ?_)
        · go_simp
          go_at_call 41
          refine Calls.mono (D9.out _ I6.out) ?_
          rintro r y8 ⟨⟨rfl, i8, g8⟩⟩
          have I8 : Hid (RdI y8 base X R S l r9) := i8
          have X8 : Hid (SeB y8 w3.heap.size x1) := xb_keep X6.out HNR.out g8
          have K8 : Hid (Kept w y8 (fun g => S g ∨ g = R) (fun g => S g ∨ g = R)) := K6.out.trans (kept_grown g8 (Or.inr rfl))
          clear i8 g8
          refine hK.out _ _ ?_ (fun hHeld => ?_)
          · exact X8.out
          clear hK K
          try simp only [Act.put, List.setIfInBounds_toArray, List.set_cons_zero, List.set_cons_succ]
          refine tk9 (.agg #[.int .i64 ((l.length : Int) + 1), .int .i64 x.seq, .int .i64 x.r.err, .int .u64 x.r.token, .int .i64 x.r.n]) (by kernel_rfl) (by kernel_rfl) (by kernel_rfl) (fun _ _ _ h => h) rfl (fun w hSw => by (try dsimp only at hSw); have hs1 := hSw; rw [HX0.out.2] at hs1; have s4 := SeB.cell hs1 2 _ rfl; go_simp) (by assumption) ?_
          try simp only [Act.put, List.setIfInBounds_toArray, List.set_cons_zero, List.set_cons_succ]
          refine cl10 (by kernel_rfl) rfl (fun K hK => ?_)
          go_simp
          obtain ⟨A, hA⟩ : ∃ A, A = y8.alloc (.cells #[.int .i64 0, .int .i64 0, .int .i64 0, .int .u64 0, .int .i64 0] 36) := ⟨_, rfl⟩
          obtain ⟨ab, hab⟩ : ∃ ab, ab = y8.heap.size := ⟨_, rfl⟩
          have bA : Below y8.heap.size y8 A := by rw [hA]; exact (Below.refl _ _).alloc (Nat.le_refl _) _
          have HBA : Hid (A.heap[ab]? = some (.cells #[.int .i64 0, .int .i64 0, .int .i64 0, .int .u64 0, .int .i64 0] 36 (0, 0))) := by rw [hA, hab]; exact heap_alloc_new y8 _
          have IA : Hid (RdI A base X R S l r9) := I8.out.fresh bA
          have XA : Hid (SeB A w3.heap.size x1) := xb_fresh X8.out bA
          have KA : Hid (Kept w A (fun g => S g ∨ g = R) (fun g => S g ∨ g = R)) := K8.out.trans (Kept.of bA)
          have HNB : Hid (ab ≠ R) := by have := I8.out.lt; rw [hab]; show y8.heap.size ≠ R; omega
          have HNX : Hid (ab ≠ w3.heap.size) := by have := lt_of_block X8.out; rw [hab]; show y8.heap.size ≠ w3.heap.size; omega
          have HNK : Hid (w.heap.size ≤ ab ∧ ∀ g, S g → g ≠ ab) := (show Hid _ from (⟨by rw [hab]; exact K8.out.size, fun g hg e => by have := (I8.out.at'.bd g hg).2; rw [e, hab] at this; omega⟩ : _ ∧ _))
          rw [← hA, ← hab]
          clear hA hab bA
          refine hK.out _ _ ?_ (fun hHeld => ?_)
          · exact XA.out
          clear hK K
          try simp only [Act.put, List.setIfInBounds_toArray, List.set_cons_zero, List.set_cons_succ]
          refine cl11 (by kernel_rfl) rfl (fun K hK => ?_)
          refine wp_store_row 36 _ _ rfl ab #[.int .i64 ((l.length : Int) + 1), .int .i64 x.seq, .int .i64 x.r.err, .int .u64 x.r.token, .int .i64 x.r.n] rfl rfl 36 _ HBA.out sizeRep rfl (by simp [Value.oneCell']) ?_
          obtain ⟨Z, hZ⟩ : ∃ Z, Z = A.setRow ab #[.int .i64 ((l.length : Int) + 1), .int .i64 x.seq, .int .i64 x.r.err, .int .u64 x.r.token, .int .i64 x.r.n] := ⟨_, rfl⟩
          have gZ : A.grownBy Z (some ab) := by rw [hZ]; exact grown_setRow_g _ _ _
          have HBZ : Hid (Z.heap[ab]? = some (.cells #[.int .i64 ((l.length : Int) + 1), .int .i64 x.seq, .int .i64 x.r.err, .int .u64 x.r.token, .int .i64 x.r.n] 36 (0, 0))) := by rw [hZ]; exact setRow_heap _ ab _ _ _ _ HBA.out
          have IZ : Hid (RdI Z base X R S l r9) := ab_kept IA.out gZ HNB.out HNK.out.2
          have XZ : Hid (SeB Z w3.heap.size x1) := xb_keep XA.out HNX.out.symm gZ
          have KZ : Hid (Kept w Z (fun g => S g ∨ g = R) (fun g => S g ∨ g = R)) := kept_past KA.out gZ HNK.out.1
          rw [← hZ]
          clear hZ gZ
          refine hK.out _ _ ?_ (fun hHeld => ?_)
          · exact XZ.out
          clear hK K
          refine wpAnyH_done (by kernel_rfl) ?_ _
          go_wp2_with fail
          go_meet
          exact ⟨ab, rfl, IZ, XZ, KZ, HBZ⟩
        · go_simp
          obtain ⟨A, hA⟩ : ∃ A, A = y6.alloc (.cells #[.int .i64 0, .int .i64 0, .int .i64 0, .int .u64 0, .int .i64 0] 36) := ⟨_, rfl⟩
          obtain ⟨ab, hab⟩ : ∃ ab, ab = y6.heap.size := ⟨_, rfl⟩
          have bA : Below y6.heap.size y6 A := by rw [hA]; exact (Below.refl _ _).alloc (Nat.le_refl _) _
          have HBA : Hid (A.heap[ab]? = some (.cells #[.int .i64 0, .int .i64 0, .int .i64 0, .int .u64 0, .int .i64 0] 36 (0, 0))) := by rw [hA, hab]; exact heap_alloc_new y6 _
          have IA : Hid (RdI A base X R S l r8) := I6.out.fresh bA
          have XA : Hid (SeB A w3.heap.size x1) := xb_fresh X6.out bA
          have KA : Hid (Kept w A (fun g => S g ∨ g = R) (fun g => S g ∨ g = R)) := K6.out.trans (Kept.of bA)
          have HNB : Hid (ab ≠ R) := by have := I6.out.lt; rw [hab]; show y6.heap.size ≠ R; omega
          have HNX : Hid (ab ≠ w3.heap.size) := by have := lt_of_block X6.out; rw [hab]; show y6.heap.size ≠ w3.heap.size; omega
          have HNK : Hid (w.heap.size ≤ ab ∧ ∀ g, S g → g ≠ ab) := (show Hid _ from (⟨by rw [hab]; exact K6.out.size, fun g hg e => by have := (I6.out.at'.bd g hg).2; rw [e, hab] at this; omega⟩ : _ ∧ _))
          rw [← hA, ← hab]
          clear hA hab bA
          refine hK.out _ _ ?_ (fun hHeld => ?_)
          · exact XA.out
          clear hK K
          try simp only [Act.put, List.setIfInBounds_toArray, List.set_cons_zero, List.set_cons_succ]
          refine cl8 (by kernel_rfl) rfl (fun K hK => ?_)
          go_simp
          go_at_call 41
          refine Calls.mono (D9.out _ IA.out) ?_
          rintro r y8 ⟨⟨rfl, i8, g8⟩⟩
          have I8 : Hid (RdI y8 base X R S l r9) := i8
          have X8 : Hid (SeB y8 w3.heap.size x1) := xb_keep XA.out HNR.out g8
          have K8 : Hid (Kept w y8 (fun g => S g ∨ g = R) (fun g => S g ∨ g = R)) := KA.out.trans (kept_grown g8 (Or.inr rfl))
          have HB8 : Hid (y8.heap[ab]? = some (.cells #[.int .i64 0, .int .i64 0, .int .i64 0, .int .u64 0, .int .i64 0] 36 (0, 0))) := (g8.block _ (lt_of_block HBA.out) (fun e => HNB.out (Option.some.inj e))).trans HBA.out
          clear i8 g8
          refine hK.out _ _ ?_ (fun hHeld => ?_)
          · exact X8.out
          clear hK K
          try simp only [Act.put, List.setIfInBounds_toArray, List.set_cons_zero, List.set_cons_succ]
          refine tk9 (.agg #[.int .i64 ((l.length : Int) + 1), .int .i64 x.seq, .int .i64 x.r.err, .int .u64 x.r.token, .int .i64 x.r.n]) (by kernel_rfl) (by kernel_rfl) (by kernel_rfl) (fun _ _ _ h => h) rfl (fun w hSw => by (try dsimp only at hSw); have hs1 := hSw; rw [HX0.out.2] at hs1; have s4 := SeB.cell hs1 2 _ rfl; go_simp) (by assumption) ?_
          try simp only [Act.put, List.setIfInBounds_toArray, List.set_cons_zero, List.set_cons_succ]
          refine cl11 (by kernel_rfl) rfl (fun K hK => ?_)
          refine wp_store_row 36 _ _ rfl ab #[.int .i64 ((l.length : Int) + 1), .int .i64 x.seq, .int .i64 x.r.err, .int .u64 x.r.token, .int .i64 x.r.n] rfl rfl 36 _ HB8.out sizeRep rfl (by simp [Value.oneCell']) ?_
          obtain ⟨Z, hZ⟩ : ∃ Z, Z = y8.setRow ab #[.int .i64 ((l.length : Int) + 1), .int .i64 x.seq, .int .i64 x.r.err, .int .u64 x.r.token, .int .i64 x.r.n] := ⟨_, rfl⟩
          have gZ : y8.grownBy Z (some ab) := by rw [hZ]; exact grown_setRow_g _ _ _
          have HBZ : Hid (Z.heap[ab]? = some (.cells #[.int .i64 ((l.length : Int) + 1), .int .i64 x.seq, .int .i64 x.r.err, .int .u64 x.r.token, .int .i64 x.r.n] 36 (0, 0))) := by rw [hZ]; exact setRow_heap _ ab _ _ _ _ HB8.out
          have IZ : Hid (RdI Z base X R S l r9) := ab_kept I8.out gZ HNB.out HNK.out.2
          have XZ : Hid (SeB Z w3.heap.size x1) := xb_keep X8.out HNX.out.symm gZ
          have KZ : Hid (Kept w Z (fun g => S g ∨ g = R) (fun g => S g ∨ g = R)) := kept_past K8.out gZ HNK.out.1
          rw [← hZ]
          clear hZ gZ
          refine hK.out _ _ ?_ (fun hHeld => ?_)
          · exact XZ.out
          clear hK K
          refine wpAnyH_done (by kernel_rfl) ?_ _
          go_wp2_with fail
          go_meet
          exact ⟨ab, rfl, IZ, XZ, KZ, HBZ⟩
      · go_simp
        obtain ⟨A, hA⟩ : ∃ A, A = y4.alloc (.cells #[.int .i64 0, .int .i64 0, .int .i64 0, .int .u64 0, .int .i64 0] 36) := ⟨_, rfl⟩
        obtain ⟨ab, hab⟩ : ∃ ab, ab = y4.heap.size := ⟨_, rfl⟩
        have bA : Below y4.heap.size y4 A := by rw [hA]; exact (Below.refl _ _).alloc (Nat.le_refl _) _
        have HBA : Hid (A.heap[ab]? = some (.cells #[.int .i64 0, .int .i64 0, .int .i64 0, .int .u64 0, .int .i64 0] 36 (0, 0))) := by rw [hA, hab]; exact heap_alloc_new y4 _
        have IA : Hid (RdI A base X R S l r7) := I4.out.fresh bA
        have XA : Hid (SeB A w3.heap.size x1) := xb_fresh X4.out bA
        have KA : Hid (Kept w A (fun g => S g ∨ g = R) (fun g => S g ∨ g = R)) := K4.out.trans (Kept.of bA)
        have HNB : Hid (ab ≠ R) := by have := I4.out.lt; rw [hab]; show y4.heap.size ≠ R; omega
        have HNX : Hid (ab ≠ w3.heap.size) := by have := lt_of_block X4.out; rw [hab]; show y4.heap.size ≠ w3.heap.size; omega
        have HNK : Hid (w.heap.size ≤ ab ∧ ∀ g, S g → g ≠ ab) := (show Hid _ from (⟨by rw [hab]; exact K4.out.size, fun g hg e => by have := (I4.out.at'.bd g hg).2; rw [e, hab] at this; omega⟩ : _ ∧ _))
        rw [← hA, ← hab]
        clear hA hab bA
        refine hK.out _ _ ?_ (fun hHeld => ?_)
        · exact XA.out
        clear hK K
        try simp only [Act.put, List.setIfInBounds_toArray, List.set_cons_zero, List.set_cons_succ]
        refine cl6 (by kernel_rfl) rfl (fun K hK => ?_)
        go_simp
        go_at_call 58
        refine Calls.mono (D8.out _ IA.out) ?_
        rintro r y6 ⟨⟨rfl, i6, g6⟩⟩
        have I6 : Hid (RdI y6 base X R S l r8) := i6
        have X6 : Hid (SeB y6 w3.heap.size x1) := xb_keep XA.out HNR.out g6
        have K6 : Hid (Kept w y6 (fun g => S g ∨ g = R) (fun g => S g ∨ g = R)) := KA.out.trans (kept_grown g6 (Or.inr rfl))
        have HB6 : Hid (y6.heap[ab]? = some (.cells #[.int .i64 0, .int .i64 0, .int .i64 0, .int .u64 0, .int .i64 0] 36 (0, 0))) := (g6.block _ (lt_of_block HBA.out) (fun e => HNB.out (Option.some.inj e))).trans HBA.out
        clear i6 g6
        refine hK.out _ _ ?_ (fun hHeld => ?_)
        · exact X6.out
        clear hK K
        try simp only [Act.put, List.setIfInBounds_toArray, List.set_cons_zero, List.set_cons_succ]
        refine cl8 (by kernel_rfl) rfl (fun K hK => ?_)
        go_simp
        go_at_call 41
        refine Calls.mono (D9.out _ I6.out) ?_
        rintro r y8 ⟨⟨rfl, i8, g8⟩⟩
        have I8 : Hid (RdI y8 base X R S l r9) := i8
        have X8 : Hid (SeB y8 w3.heap.size x1) := xb_keep X6.out HNR.out g8
        have K8 : Hid (Kept w y8 (fun g => S g ∨ g = R) (fun g => S g ∨ g = R)) := K6.out.trans (kept_grown g8 (Or.inr rfl))
        have HB8 : Hid (y8.heap[ab]? = some (.cells #[.int .i64 0, .int .i64 0, .int .i64 0, .int .u64 0, .int .i64 0] 36 (0, 0))) := (g8.block _ (lt_of_block HB6.out) (fun e => HNB.out (Option.some.inj e))).trans HB6.out
        clear i8 g8
        refine hK.out _ _ ?_ (fun hHeld => ?_)
        · exact X8.out
        clear hK K
        try simp only [Act.put, List.setIfInBounds_toArray, List.set_cons_zero, List.set_cons_succ]
        refine tk9 (.agg #[.int .i64 ((l.length : Int) + 1), .int .i64 x.seq, .int .i64 x.r.err, .int .u64 x.r.token, .int .i64 x.r.n]) (by kernel_rfl) (by kernel_rfl) (by kernel_rfl) (fun _ _ _ h => h) rfl (fun w hSw => by (try dsimp only at hSw); have hs1 := hSw; rw [HX0.out.2] at hs1; have s4 := SeB.cell hs1 2 _ rfl; go_simp) (by assumption) ?_
        try simp only [Act.put, List.setIfInBounds_toArray, List.set_cons_zero, List.set_cons_succ]
        refine cl11 (by kernel_rfl) rfl (fun K hK => ?_)
        refine wp_store_row 36 _ _ rfl ab #[.int .i64 ((l.length : Int) + 1), .int .i64 x.seq, .int .i64 x.r.err, .int .u64 x.r.token, .int .i64 x.r.n] rfl rfl 36 _ HB8.out sizeRep rfl (by simp [Value.oneCell']) ?_
        obtain ⟨Z, hZ⟩ : ∃ Z, Z = y8.setRow ab #[.int .i64 ((l.length : Int) + 1), .int .i64 x.seq, .int .i64 x.r.err, .int .u64 x.r.token, .int .i64 x.r.n] := ⟨_, rfl⟩
        have gZ : y8.grownBy Z (some ab) := by rw [hZ]; exact grown_setRow_g _ _ _
        have HBZ : Hid (Z.heap[ab]? = some (.cells #[.int .i64 ((l.length : Int) + 1), .int .i64 x.seq, .int .i64 x.r.err, .int .u64 x.r.token, .int .i64 x.r.n] 36 (0, 0))) := by rw [hZ]; exact setRow_heap _ ab _ _ _ _ HB8.out
        have IZ : Hid (RdI Z base X R S l r9) := ab_kept I8.out gZ HNB.out HNK.out.2
        have XZ : Hid (SeB Z w3.heap.size x1) := xb_keep X8.out HNX.out.symm gZ
        have KZ : Hid (Kept w Z (fun g => S g ∨ g = R) (fun g => S g ∨ g = R)) := kept_past K8.out gZ HNK.out.1
        rw [← hZ]
        clear hZ gZ
        refine hK.out _ _ ?_ (fun hHeld => ?_)
        · exact XZ.out
        clear hK K
        refine wpAnyH_done (by kernel_rfl) ?_ _
        go_wp2_with fail
        go_meet
        exact ⟨ab, rfl, IZ, XZ, KZ, HBZ⟩
    · go_simp
      obtain ⟨A, hA⟩ : ∃ A, A = w8.drew.alloc (.cells #[.int .i64 0, .int .i64 0, .int .i64 0, .int .u64 0, .int .i64 0] 36) := ⟨_, rfl⟩
      obtain ⟨ab, hab⟩ : ∃ ab, ab = w8.heap.size := ⟨_, rfl⟩
      have bA : Below w8.heap.size w8 A := by rw [hA]; exact ((Below.refl _ _).drew).alloc (Nat.le_refl _) _
      have HBA : Hid (A.heap[ab]? = some (.cells #[.int .i64 0, .int .i64 0, .int .i64 0, .int .u64 0, .int .i64 0] 36 (0, 0))) := by rw [hA, hab]; exact heap_alloc_new w8.drew _
      have IA : Hid (RdI A base X R S l r6) := I8.out.fresh bA
      have XA : Hid (SeB A w3.heap.size x1) := xb_fresh X8.out bA
      have KA : Hid (Kept w A (fun g => S g ∨ g = R) (fun g => S g ∨ g = R)) := K8.out.trans (Kept.of bA)
      have HNB : Hid (ab ≠ R) := by have := I8.out.lt; rw [hab]; show w8.heap.size ≠ R; omega
      have HNX : Hid (ab ≠ w3.heap.size) := by have := lt_of_block X8.out; rw [hab]; show w8.heap.size ≠ w3.heap.size; omega
      have HNK : Hid (w.heap.size ≤ ab ∧ ∀ g, S g → g ≠ ab) := (show Hid _ from (⟨by rw [hab]; exact K8.out.size, fun g hg e => by have := (I8.out.at'.bd g hg).2; rw [e, hab] at this; omega⟩ : _ ∧ _))
      rw [show (w8.alloc (.cells #[.int .i64 0, .int .i64 0, .int .i64 0, .int .u64 0, .int .i64 0] 36)).drew = A from hA.symm, show w8.heap.size = ab from hab.symm]
      clear hA hab bA
      refine hK.out _ _ ?_ (fun hHeld => ?_)
      · exact XA.out
      clear hK K
      try simp only [Act.put, List.setIfInBounds_toArray, List.set_cons_zero, List.set_cons_succ]
      refine cl4 (by kernel_rfl) rfl (fun K hK => ?_)
      go_simp
      go_at_call 41
      refine Calls.mono (D7.out _ IA.out) ?_
      rintro r y4 ⟨⟨rfl, i4, g4⟩⟩
      have I4 : Hid (RdI y4 base X R S l r7) := i4
      have X4 : Hid (SeB y4 w3.heap.size x1) := xb_keep XA.out HNR.out g4
      have K4 : Hid (Kept w y4 (fun g => S g ∨ g = R) (fun g => S g ∨ g = R)) := KA.out.trans (kept_grown g4 (Or.inr rfl))
      have HB4 : Hid (y4.heap[ab]? = some (.cells #[.int .i64 0, .int .i64 0, .int .i64 0, .int .u64 0, .int .i64 0] 36 (0, 0))) := (g4.block _ (lt_of_block HBA.out) (fun e => HNB.out (Option.some.inj e))).trans HBA.out
      clear i4 g4
      refine hK.out _ _ ?_ (fun hHeld => ?_)
      · exact X4.out
      clear hK K
      try simp only [Act.put, List.setIfInBounds_toArray, List.set_cons_zero, List.set_cons_succ]
      refine cl6 (by kernel_rfl) rfl (fun K hK => ?_)
      go_simp
      go_at_call 58
      refine Calls.mono (D8.out _ I4.out) ?_
      rintro r y6 ⟨⟨rfl, i6, g6⟩⟩
      have I6 : Hid (RdI y6 base X R S l r8) := i6
      have X6 : Hid (SeB y6 w3.heap.size x1) := xb_keep X4.out HNR.out g6
      have K6 : Hid (Kept w y6 (fun g => S g ∨ g = R) (fun g => S g ∨ g = R)) := K4.out.trans (kept_grown g6 (Or.inr rfl))
      have HB6 : Hid (y6.heap[ab]? = some (.cells #[.int .i64 0, .int .i64 0, .int .i64 0, .int .u64 0, .int .i64 0] 36 (0, 0))) := (g6.block _ (lt_of_block HB4.out) (fun e => HNB.out (Option.some.inj e))).trans HB4.out
      clear i6 g6
      refine hK.out _ _ ?_ (fun hHeld => ?_)
      · exact X6.out
      clear hK K
      try simp only [Act.put, List.setIfInBounds_toArray, List.set_cons_zero, List.set_cons_succ]
      refine cl8 (by kernel_rfl) rfl (fun K hK => ?_)
      go_simp
      go_at_call 41
      refine Calls.mono (D9.out _ I6.out) ?_
      rintro r y8 ⟨⟨rfl, i8, g8⟩⟩
      have I8 : Hid (RdI y8 base X R S l r9) := i8
      have X8 : Hid (SeB y8 w3.heap.size x1) := xb_keep X6.out HNR.out g8
      have K8 : Hid (Kept w y8 (fun g => S g ∨ g = R) (fun g => S g ∨ g = R)) := K6.out.trans (kept_grown g8 (Or.inr rfl))
      have HB8 : Hid (y8.heap[ab]? = some (.cells #[.int .i64 0, .int .i64 0, .int .i64 0, .int .u64 0, .int .i64 0] 36 (0, 0))) := (g8.block _ (lt_of_block HB6.out) (fun e => HNB.out (Option.some.inj e))).trans HB6.out
      clear i8 g8
      refine hK.out _ _ ?_ (fun hHeld => ?_)
      · exact X8.out
      clear hK K
      try simp only [Act.put, List.setIfInBounds_toArray, List.set_cons_zero, List.set_cons_succ]
      refine tk9 (.agg #[.int .i64 ((l.length : Int) + 1), .int .i64 x.seq, .int .i64 x.r.err, .int .u64 x.r.token, .int .i64 x.r.n]) (by kernel_rfl) (by kernel_rfl) (by kernel_rfl) (fun _ _ _ h => h) rfl (fun w hSw => by (try dsimp only at hSw); have hs1 := hSw; rw [HX0.out.2] at hs1; have s4 := SeB.cell hs1 2 _ rfl; go_simp) (by assumption) ?_
      try simp only [Act.put, List.setIfInBounds_toArray, List.set_cons_zero, List.set_cons_succ]
      refine cl11 (by kernel_rfl) rfl (fun K hK => ?_)
      refine wp_store_row 36 _ _ rfl ab #[.int .i64 ((l.length : Int) + 1), .int .i64 x.seq, .int .i64 x.r.err, .int .u64 x.r.token, .int .i64 x.r.n] rfl rfl 36 _ HB8.out sizeRep rfl (by simp [Value.oneCell']) ?_
      obtain ⟨Z, hZ⟩ : ∃ Z, Z = y8.setRow ab #[.int .i64 ((l.length : Int) + 1), .int .i64 x.seq, .int .i64 x.r.err, .int .u64 x.r.token, .int .i64 x.r.n] := ⟨_, rfl⟩
      have gZ : y8.grownBy Z (some ab) := by rw [hZ]; exact grown_setRow_g _ _ _
      have HBZ : Hid (Z.heap[ab]? = some (.cells #[.int .i64 ((l.length : Int) + 1), .int .i64 x.seq, .int .i64 x.r.err, .int .u64 x.r.token, .int .i64 x.r.n] 36 (0, 0))) := by rw [hZ]; exact setRow_heap _ ab _ _ _ _ HB8.out
      have IZ : Hid (RdI Z base X R S l r9) := ab_kept I8.out gZ HNB.out HNK.out.2
      have XZ : Hid (SeB Z w3.heap.size x1) := xb_keep X8.out HNX.out.symm gZ
      have KZ : Hid (Kept w Z (fun g => S g ∨ g = R) (fun g => S g ∨ g = R)) := kept_past K8.out gZ HNK.out.1
      rw [← hZ]
      clear hZ gZ
      refine hK.out _ _ ?_ (fun hHeld => ?_)
      · exact XZ.out
      clear hK K
      refine wpAnyH_done (by kernel_rfl) ?_ _
      go_wp2_with fail
      go_meet
      exact ⟨ab, rfl, IZ, XZ, KZ, HBZ⟩
  case rest =>
    obtain ⟨ab, rfl, IW, XW, KW, RW⟩ := hcut
    obtain ⟨W, hWW⟩ : ∃ W, W = wc := ⟨_, rfl⟩
    rw [← hWW] at IW XW KW RW ⊢
    clear hWW u2
    obtain ⟨c, hc⟩ : ∃ c : Nat, x.client = c := ⟨x.client.toNat, by have := HO.out.c0; omega⟩
    have hc8 : c < 8 := by have := HO.out.c1; omega
    have xw := XW.out
    rw [HX0.out.2] at xw
    have v0 : W.cell? ⟨w3.heap.size, 0, none⟩ = some (.int .i64 x.client) := xw.cell 0 _ rfl
    have v1 : W.cell? ⟨w3.heap.size, 1, none⟩ = some (.int .i64 x.life) := xw.cell 1 _ rfl
    have v2 : W.cell? ⟨w3.heap.size, 2, none⟩ = some (.int .i64 x.seq) := xw.cell 2 _ rfl
    have v3 : W.cell? ⟨w3.heap.size, 3, none⟩ = some (.bool x.said) := xw.cell 3 _ rfl
    have hm : seMay x.client x.life = true := by
      have := HO.out.c0; have := HO.out.c1; have := HO.out.l0; have := HO.out.l1
      unfold seMay
      simp only [Bool.and_eq_true, decide_eq_true_eq]
      omega
    have HMy : Hid (∀ n, Calls Try.prog 48 #[.int .i64 x.client, .int .i64 x.life] (W.drewN n) fun e w' => e = .returned (.bool true) ∧ w' = W.drewN n) := fun n => by
      have := mayLive_any x.client x.life (W.drewN n)
      rw [hm] at this
      exact this
    have HLf : Hid (∀ n, Calls Try.prog 49 #[.pointer (some ⟨X, 0, none⟩), .int .i64 x.client] (W.drewN n) fun e w' => e = .returned (.int .i64 (seLif l x.client)) ∧ ∃ m, w' = (W.drewN n).drewN m) := fun n => by
      rw [hc]
      exact lifeOf_quiet (IW.out.at'.fresh (below_drewN (Below.refl _ W) n)) c hc8
    have t1 : decide (x.life ≤ seLif l x.client) = false := decide_eq_false (by have := HFF.out.1; omega)
    have t2 : decide (x.seq < 0) = false := decide_eq_false (by have := HO.out.q0; omega)
    clear hc hc8 hm xw
    go_wp2
    go_quiet (first
      | (go_at_call 48; exact Calls.quiet_of_same (HMy.out _))
      | (go_at_call 49; exact Calls.quiet_of (HLf.out _)))
    obtain ⟨Y, hY⟩ : ∃ Y, Y = W.drewN nq := ⟨_, rfl⟩
    have bY : Below W.heap.size W Y := by rw [hY]; exact below_drewN (Below.refl _ W) nq
    have IY : Hid (RdI Y base X R S l r9) := IW.out.fresh bY
    have XY : Hid (SeB Y w3.heap.size x1) := xb_fresh XW.out bY
    have KY : Hid (Kept w Y (fun g => S g ∨ g = R) (fun g => S g ∨ g = R)) := KW.out.trans (Kept.of bY)
    have RY : Hid (Y.heap[ab]? = some (.cells (seRA ⟨(l.length : Int) + 1, x.seq, x.r.err, x.r.token, x.r.n⟩) 36 (0, 0))) := (bY.block _ (lt_of_block RW.out)).trans RW.out
    rw [← hY]
    clear hY bY v0 v1 v2 v3 t1 t2 HMy HLf
    have xw := XY.out
    rw [HX0.out.2] at xw
    have HAdd : Hid (∀ y, RdI y base X R S l r9 → Calls Try.prog 50 #[.pointer (some ⟨X, 0, none⟩), .agg (seXA x), .bool x.op] y (SeAdP y base X S (l ++ [x]) (.int .i64 ((l.length : Int) + 1)))) := fun y hy => add_any hy.at' HO.out HFF.out.1 HFF.out.2 HLN.out
    have HEnd : Hid (∀ y z S', RdI y base X R S l r9 → Kept w y (fun g => S g ∨ g = R) (fun g => S g ∨ g = R) → SeAt z base X S' (l ++ [x]) → Kept y z S S' → RdI z base X R S' (l ++ [x]) rest ∧ Kept w z (fun g => S g ∨ g = R) (fun g => S' g ∨ g = R)) := fun y z S' hy ky hz kz => by
      have hr := hy.rd
      refine ⟨⟨hz, ?_, fun hs => ?_, hy.lo, by rw [← HR9.out]; exact hy.len⟩, ky.trans ⟨kz.os, kz.tape, kz.output, kz.size, fun b hb => ?_, fun b hb hn => kz.kept b hb (fun h => hn (Or.inl h))⟩⟩
      · rw [← HR9.out]
        unfold Rd at hr ⊢
        exact (kz.kept R hy.lt hy.no).trans hr
      · rcases kz.old R hs with h1 | h1
        · exact hy.no h1
        · have := hy.lt; omega
      · rcases hb with hb | hb
        · rcases kz.old b hb with h1 | h1
          · exact Or.inl (Or.inl h1)
          · exact Or.inr h1
        · exact Or.inl (Or.inr hb)
    obtain ⟨sd, hsd⟩ : ∃ sd, sd = x.said := ⟨_, rfl⟩
    have v3 : Y.cell? ⟨w3.heap.size, 3, none⟩ = some (.bool sd) := by rw [hsd]; exact xw.cell 3 _ rfl
    cases sd with
    | false =>
      have hxx : x1 = x := by
        rw [HX0.out.2]
        have := HO.out.no hsd.symm
        obtain ⟨a1, a2, a3, a4, a5, a6⟩ := x
        simp only at this
        rw [this]
      have XX : Hid (SeB Y w3.heap.size x) := by have := XY.out; rw [hxx] at this; exact this
      clear xw hsd hxx
      go_wp2_with (first
        | (show wpList _ _ _ (⟨_, Op.load 82 _, _, _, _, _⟩ :: _) _ _; refine load_row_g rfl 82 _ rfl w3.heap.size rfl 82 (seXA x) _ _ XX.out Try.underlying82 rfl sizeSx ?_)
        | (go_at_call 50; refine Calls.mono (HAdd.out _ IY.out) ?_; rintro r w15 ⟨⟨S15, rfl, h15, k15⟩⟩; have E15 : Hid _ := HEnd.out _ _ _ IY.out KY.out h15 k15; clear h15 k15))
      go_ret
      exact ⟨S15, rfl, E15.out.1, E15.out.2⟩
    | true =>
      have hyes := HO.out.yes hsd.symm
      have HXX : Hid (x = ⟨x.client, x.life, x.op, x.seq, x.said, ⟨(l.length : Int) + 1, x.seq, x.r.err, x.r.token, x.r.n⟩⟩) := by
        show x = _
        have h1 := hyes.2.1
        have h2 := hyes.2.2
        obtain ⟨a1, a2, a3, a4, a5, ⟨b1, b2, b3, b4, b5⟩⟩ := x
        simp only at h1 h2
        rw [h1, h2]
      have HAn : Hid (∀ y, Calls Try.prog 59 #[.agg (seRA ⟨(l.length : Int) + 1, x.seq, x.r.err, x.r.token, x.r.n⟩)] y fun e w' => e = .returned (.bool true) ∧ Below y.heap.size y w') := fun y => mayAnswer_any (r := ⟨(l.length : Int) + 1, x.seq, x.r.err, x.r.token, x.r.n⟩) ⟨HO.out.r.e0, HO.out.r.e1, HO.out.r.t0, HO.out.r.t1, HO.out.r.n0, HO.out.r.n1⟩ hyes.1 y
      have HSd : Hid (x.said = true) := hsd.symm
      clear xw hsd hyes
      go_upto_region 11 with (first
        | (show wpList _ _ _ (⟨_, Op.load 36 _, _, _, _, _⟩ :: _) _ _; refine load_row_g rfl 36 _ rfl ab rfl 36 (seRA ⟨(l.length : Int) + 1, x.seq, x.r.err, x.r.token, x.r.n⟩) _ _ RY.out Try.underlying36 rfl sizeRep ?_)
        | (go_at_call 59; refine Calls.mono (HAn.out _) ?_; rintro r w13 ⟨rfl, b13⟩; have B13 : Hid _ := b13; clear b13))
      have I13 : Hid (RdI w13 base X R S l r9) := IY.out.fresh B13.out
      have X13 : Hid (SeB w13 w3.heap.size x1) := xb_fresh XY.out B13.out
      have K13 : Hid (Kept w w13 (fun g => S g ∨ g = R) (fun g => S g ∨ g = R)) := KY.out.trans (Kept.of B13.out)
      have R13 : Hid (w13.heap[ab]? = some (.cells (seRA ⟨(l.length : Int) + 1, x.seq, x.r.err, x.r.token, x.r.n⟩) 36 (0, 0))) := (B13.out.block _ (lt_of_block RY.out)).trans RY.out
      have x4 : w13.cell? ⟨w3.heap.size, 4, none⟩ = some (.int .i64 x1.r.session) := X13.out.cell 4 _ rfl
      have x5 : w13.cell? ⟨w3.heap.size, 5, none⟩ = some (.int .i64 x1.r.seq) := X13.out.cell 5 _ rfl
      have x6 : w13.cell? ⟨w3.heap.size, 6, none⟩ = some (.int .i64 x1.r.err) := X13.out.cell 6 _ rfl
      have x7 : w13.cell? ⟨w3.heap.size, 7, none⟩ = some (.int .u64 x1.r.token) := X13.out.cell 7 _ rfl
      have x8 : w13.cell? ⟨w3.heap.size, 8, none⟩ = some (.int .i64 x1.r.n) := X13.out.cell 8 _ rfl
      have fz := X13.out.fz
      clear v3
      go_upto_region 12 with (show wpList _ _ _ (⟨_, Op.load 36 _, _, _, _, _⟩ :: _) _ _; refine load_row_g rfl 36 _ rfl ab rfl 36 (seRA ⟨(l.length : Int) + 1, x.seq, x.r.err, x.r.token, x.r.n⟩) _ _ R13.out Try.underlying36 rfl sizeRep ?_)
      obtain ⟨w14, hw14⟩ : ∃ w14, w14 = ((((w13.setCell ⟨w3.heap.size, 4, none⟩ (.int .i64 ((l.length : Int) + 1))).setCell ⟨w3.heap.size, 5, none⟩ (.int .i64 x.seq)).setCell ⟨w3.heap.size, 6, none⟩ (.int .i64 x.r.err)).setCell ⟨w3.heap.size, 7, none⟩ (.int .u64 x.r.token)).setCell ⟨w3.heap.size, 8, none⟩ (.int .i64 x.r.n) := ⟨_, rfl⟩
      have g14 : w13.grownBy w14 (some w3.heap.size) := by rw [hw14]; exact grown_cell (grown_cell (grown_cell (grown_cell (grown_cell (grown_rf _ _)))))
      have XX : Hid (SeB w14 w3.heap.size x) := by
        have h0 := X13.out
        rw [HX0.out.2] at h0
        have h1 := heap_setCell_same _ w3.heap.size 4 _ _ (.int .i64 ((l.length : Int) + 1)) h0
        have h2 := heap_setCell_same _ w3.heap.size 5 _ _ (.int .i64 x.seq) h1
        have h3 := heap_setCell_same _ w3.heap.size 6 _ _ (.int .i64 x.r.err) h2
        have h4 := heap_setCell_same _ w3.heap.size 7 _ _ (.int .u64 x.r.token) h3
        have h5 := heap_setCell_same _ w3.heap.size 8 _ _ (.int .i64 x.r.n) h4
        show SeB w14 w3.heap.size x
        rw [HXX.out, hw14]
        exact h5
      have I14 : Hid (RdI w14 base X R S l r9) := ab_kept I13.out g14 HNR.out (fun b hb e => by have := HNS.out b hb; omega)
      have K14 : Hid (Kept w w14 (fun g => S g ∨ g = R) (fun g => S g ∨ g = R)) := kept_past K13.out g14 K3.out.size
      rw [← hw14]
      clear hw14 g14 x4 x5 x6 x7 x8 fz
      go_wp2_with (first
        | (show wpList _ _ _ (⟨_, Op.load 82 _, _, _, _, _⟩ :: _) _ _; refine load_row_g rfl 82 _ rfl w3.heap.size rfl 82 (seXA x) _ _ XX.out Try.underlying82 rfl sizeSx ?_)
        | (go_at_call 50; refine Calls.mono (HAdd.out _ I14.out) ?_; rintro r w15 ⟨⟨S15, rfl, h15, k15⟩⟩; have E15 : Hid _ := HEnd.out _ _ _ I14.out K14.out h15 k15; clear h15 k15))
      go_ret
      exact ⟨S15, rfl, E15.out.1, E15.out.2⟩
end Go.Proofs.Ythokbififjhflaa
