/-
  The document's acceptor: Accept. The condition: at most 2^29 entries.
-/
import Derived.Test.YtkngpfngfmbmjaaYAcRefB
namespace Go.Proofs.Ytkngpfngfmbmjaa
open Go.Shelf Go.RowKit Go.Lib Go.Sort

section
variable {P : Program} {md : Region.Mode} {Q : Exit → Act → World → Prop} {S : World → Prop} {fuel : Nat} {listed : Array Bool} {a : Act} {w : World} {l : List Oper}
end

theorem apart_PO2 {T : TypeId} {w : World} {base base' X n : Nat} {S : Nat → Prop} {d : Du} {v u : Value} {xs : List Value} (h : AcAt T w base S X d v) (o : w.ownsRow base' 65 9 u n xs) (hT : 65 ≠ T) : ∀ b, S b → u.ownBlock ≠ some b := fun b hb e => by
  rcases (h.set b).1 hb with rfl | e1
  · exact own_ne o h.blk hT e
  · rcases h.own.2 with ⟨e2, _⟩ | ⟨g, cap, cur, e2, _, hc, _⟩
    · rw [e2] at e1; simp [Value.ownBlock] at e1
    · rw [e2] at e1
      simp only [Value.ownBlock, Option.some.injEq] at e1
      rw [e1] at hc
      exact own_ne o hc (by decide) e
theorem rcbox {w : World} {B : Nat} {r : Rc} (h : w.heap[B]? = some (.cells (rcC r).toArray 65 (0, 0))) (j : Nat) (u : Value) (hu : (rcC r)[j]? = some u) : w.cell? ⟨B, j, none⟩ = some u := by
  simp only [World.cell?, h]
  simpa using hu
/-- While an entry is accepted. -/
structure RcS (w y : World) (base : Nat) (S0 S : Nat → Prop) (X : Nat) (D : Du) (v : Value) (e x : En) (OB XB : Nat) (u : Value) (R : List Rc) : Prop where
  pa : RA y base S X D v
  box : EnAt y w.heap.size e
  res : y.heap[w.heap.size + 1]? = some (.cells (outA (.slice none 0 0)) 42 (0, 0))
  out : y.heap[OB]? = some (.cells (outA u) 42 (0, 0))
  own : OwnRc y w.heap.size u R
  xb : EnAt y XB x
  kept : Kept w y S0 S
  lo : w.heap.size + 1 < OB
  rl : R.length ≤ 1000
section
variable {w y y' : World} {base X OB XB : Nat} {S0 S : Nat → Prop} {D : Du} {v u : Value} {e x : En} {R : List Rc}
theorem RcS.o0 (h : RcS w y base S0 S X D v e x OB XB u R) : y.cell? ⟨OB, 0, none⟩ = some u := by simp [World.cell?, h.out]
theorem RcS.o1 (h : RcS w y base S0 S X D v e x OB XB u R) : y.cell? ⟨OB, 1, none⟩ = some (.bool false) := by simp [World.cell?, h.out]
theorem RcS.o2 (h : RcS w y base S0 S X D v e x OB XB u R) : y.cell? ⟨OB, 2, none⟩ = some (.slice none 0 0) := by simp [World.cell?, h.out]
theorem RcS.o3 (h : RcS w y base S0 S X D v e x OB XB u R) : y.cell? ⟨OB, 3, none⟩ = some (.slice none 0 0) := by simp [World.cell?, h.out]
theorem RcS.fresh (h : RcS w y base S0 S X D v e x OB XB u R) (b : Below y.heap.size y y') : RcS w y' base S0 S X D v e x OB XB u R :=
  ⟨h.pa.fresh b, (b.block _ (lt_of_block h.box)).trans h.box, (b.block _ (lt_of_block h.res)).trans h.res, (b.block _ (lt_of_block h.out)).trans h.out, own_keep h.own fun g e => b.block g (h.own.lt g e).2, (b.block _ (lt_of_block h.xb)).trans h.xb, h.kept.trans (Kept.of b), h.lo, h.rl⟩
theorem RcS.drew (h : RcS w y base S0 S X D v e x OB XB u R) : RcS w y.drew base S0 S X D v e x OB XB u R := h.fresh ⟨rfl, rfl, rfl, Nat.le_refl _, fun _ _ => rfl⟩
theorem RcS.neX (h : RcS w y base S0 S X D v e x OB XB u R) {B : Nat} {cs : Array Value} {t : TypeId} (hB : y.heap[B]? = some (.cells cs t (0, 0))) (ht : 63 ≠ t) : B ≠ X := fun e => by
  subst e
  have := h.pa.blk.symm.trans hB
  simp only [Option.some.injEq, Obj.cells.injEq] at this
  exact ht this.2.1
/-- What was folded is laid into the acceptor. -/
theorem RcS.folded (h : RcS w y base S0 S X D v e x OB XB u R) {D' : Du} {v' : Value} (o : OwnEn y base v' D'.es) (hg : ∀ g, v'.ownBlock = some g → w.heap.size ≤ g) (x5 : y'.heap[X]? = some (.cells (duA D' v') 63 (0, 0))) (g : y.grownBy y' (some X)) : RcS w y' base S0 (fun b => b = X ∨ v'.ownBlock = some b) X D' v' e x OB XB u R := by
  have nb : ∀ b, b < y.heap.size → b ≠ X → y'.heap[b]? = y.heap[b]? := fun b hb hn => g.block b hb (fun e => hn (Option.some.inj e))
  have vX : v'.ownBlock ≠ some X := own_ne o h.pa.blk (by decide)
  have uX : u.ownBlock ≠ some X := own_ne h.own h.pa.blk (by decide)
  have k := h.kept
  refine ⟨h.pa.next x5 (own_keep o fun b e => nb b (o.lt b e).2 (fun e2 => vX (by rw [e, e2]))) (by decide), (nb _ (lt_of_block h.box) (h.neX h.box (by decide))).trans h.box, (nb _ (lt_of_block h.res) (h.neX h.res (by decide))).trans h.res, (nb _ (lt_of_block h.out) (h.neX h.out (by decide))).trans h.out, own_keep h.own fun b e => nb b (h.own.lt b e).2 (fun e2 => uX (by rw [e, e2])), (nb _ (lt_of_block h.xb) (h.neX h.xb (by decide))).trans h.xb, ⟨g.os.trans k.os, g.tape.trans k.tape, g.output.trans k.output, Nat.le_trans k.size g.size, fun b hb => ?_, fun b hb hn => ?_⟩, h.lo, h.rl⟩
  · rcases hb with rfl | hb
    · exact k.old b ((h.pa.set b).2 (Or.inl rfl))
    · exact Or.inr (hg b hb)
  · refine (nb b (Nat.lt_of_lt_of_le hb k.size) (fun e2 => ?_)).trans (k.kept b hb hn)
    subst e2
    rcases k.old b ((h.pa.set b).2 (Or.inl rfl)) with h1 | h1
    · exact hn h1
    · omega
/-- The record is put behind the others. -/
theorem RcS.grow (h : RcS w y base S0 S X D v e x OB XB u R) {ob : Obj} {u6 : Value} {r : Rc} (o6 : y'.ownsRow w.heap.size 65 9 u6 (R.length + 1) (rowL rcC R ++ rowL rcC [r])) (a : Appended w.heap.size (y.alloc ob) y' u u6) (hr : R.length ≤ 999) : y'.cell? ⟨OB, 0, none⟩ = some u ∧ y'.frozen? ⟨OB, 0, none⟩ = false ∧ RcS w (y'.setCell ⟨OB, 0, none⟩ u6) base S0 S X D v e x OB XB u6 (R ++ [r]) := by
  have nb : ∀ b, b < y.heap.size → u.ownBlock ≠ some b → y'.heap[b]? = y.heap[b]? := fun b hb hn => (a.rest b (by simp; omega) (fun e => hn e.symm)).trans (Below.heap_alloc y _ b hb)
  have ro : OwnRc y' w.heap.size u6 (R ++ [r]) := by
    show y'.ownsRow _ _ _ _ _ _
    rw [rowL_append, List.length_append]
    exact o6
  have hO := (nb OB (lt_of_block h.out) (own_ne h.own h.out (by decide))).trans h.out
  have uO : u6.ownBlock ≠ some OB := own_ne ro hO (by decide)
  have ns : ∀ b, b ≠ OB → (y'.setCell ⟨OB, 0, none⟩ u6).heap[b]? = y'.heap[b]? := fun b hb => heap_setCell_other _ _ _ _ hb
  have all : ∀ b, b < y.heap.size → u.ownBlock ≠ some b → b ≠ OB → (y'.setCell ⟨OB, 0, none⟩ u6).heap[b]? = y.heap[b]? := fun b h1 h2 h3 => (ns b h3).trans (nb b h1 h2)
  have k := h.kept
  have hlo := h.lo
  have hap := apart_PO2 h.pa h.own (by decide)
  have hneO := h.pa.neT h.out (by decide) (by decide)
  have hxO : XB ≠ OB := fun e2 => by
    have := h.xb
    rw [e2] at this
    have := this.symm.trans h.out
    simp at this
  have hbO : w.heap.size ≠ OB := by omega
  refine ⟨by simp [World.cell?, hO], by simp [World.frozen?, hO], ⟨h.pa.keep fun b hb => all b (h.pa.bd b hb).2 (hap b hb) (hneO b hb), (all _ (lt_of_block h.box) (own_ne h.own h.box (by decide)) hbO).trans h.box, (all _ (lt_of_block h.res) (own_ne h.own h.res (by decide)) (by omega)).trans h.res, ?_, own_keep ro fun b e => ns b (fun e2 => uO (by rw [e, e2])), (all _ (lt_of_block h.xb) (own_ne h.own h.xb (by decide)) hxO).trans h.xb, ⟨a.below.os.trans k.os, a.below.tape.trans k.tape, a.below.output.trans k.output, Nat.le_trans k.size (Nat.le_trans (by simp) (Nat.le_trans a.below.size (by simp))), k.old, fun b hb hn => ?_⟩, h.lo, by rw [List.length_append]; simp; omega⟩⟩
  · rw [heap_setCell_same y' OB 0 _ _ _ hO]
    rfl
  · rw [all b (Nat.lt_of_lt_of_le hb k.size) (fun e2 => by have := (h.own.lt b e2).1; omega) (by omega), k.kept b hb hn]
theorem racc_end {a : Ans} {w6 : World} (h : RcS w y base S0 S X D v e x OB XB u R) (he : a = ⟨D, R, true⟩) (g : y.grownBy w6 (some (w.heap.size + 1))) : AnsPost 63 w base S0 X a (.returned (.tuple #[.agg (outA u), .bool true])) w6 := by
  subst he
  exact ⟨S, v, u, rfl, h.pa.keep fun b hb => g.block b (h.pa.bd b hb).2 (fun e => h.pa.neT h.res (by decide) (by decide) b hb (Option.some.inj e)), own_keep h.own fun b e => g.block b (h.own.lt b e).2 (fun e2 => own_ne h.own h.res (by decide) (by rw [e, e2])), h.kept.grown g (Nat.le_succ _)⟩
end
theorem acc_leave {d : Du} {b : Int} {e : En} (h : ¬ (b < 1 ∨ b < d.p ∨ e.slot < 1)) (h2 : ¬ (d.b < e.slot ∧ isE (findE d.es e.slot) (accE b e) = false)) : accD d b e = ⟨⟨b, d.b, d.s, d.es⟩, (promD d b).recs, true⟩ := by
  unfold accD
  rw [if_neg h, if_neg h2]
  rfl
theorem acc_take {d : Du} {b : Int} {e : En} (h : ¬ (b < 1 ∨ b < d.p ∨ e.slot < 1)) (h2 : d.b < e.slot ∧ isE (findE d.es e.slot) (accE b e) = false) : accD d b e = ⟨foldD ⟨b, d.b, d.s, d.es⟩ [accR (accE b e)], (promD d b).recs ++ [accR (accE b e)], true⟩ := by
  have h3 : (accD d b e).recs = (promD d b).recs ++ [accR (accE b e)] ∧ (accD d b e).ok = true := by
    unfold accD
    rw [if_neg h, if_pos h2]
    exact ⟨rfl, rfl⟩
  have h4 := accD_fold d b e
  rw [h3.1, foldD_append, promD_fold d b (by omega)] at h4
  have h5 : accD d b e = ⟨(accD d b e).st, (accD d b e).recs, (accD d b e).ok⟩ := rfl
  rw [h5, h3.1, h3.2, ← h4]
  rfl
theorem prom_len (d : Du) (b : Int) : (promD d b).recs.length ≤ 1 := by
  show (if b = d.p then [] else [promR b]).length ≤ 1
  split <;> simp
set_option maxHeartbeats 25600000 in
set_option maxRecDepth 100000 in
theorem racc_any {w : World} {base X : Nat} {S : Nat → Prop} {d : Du} {v : Value} (h : RA w base S X d v) (hl : d.es.length ≤ 536870912) (b : Int) (e : En) : Calls Try.prog 16 #[.pointer (some ⟨X, 0, none⟩), .int .i64 b, .agg (enA e)] w (AnsPost 63 w base S X (accD d b e)) := by
  obtain ⟨i0, hi, hz0, hz1, hz2⟩ := info_parts infoRec
  obtain ⟨pv, nv, qv, rfl⟩ := own_form h.own
  obtain ⟨W, hW⟩ : ∃ W, W = (w.alloc (.cells (enA e) 36)).alloc (.cells (outA (.slice none 0 0)) 42) := ⟨_, rfl⟩
  have bW : Below w.heap.size w W := by rw [hW]; exact ((Below.refl _ w).alloc (Nat.le_refl _) _).alloc (by simp) _
  have h2 := two_blocks w (.cells (enA e) 36) (.cells (outA (.slice none 0 0)) 42)
  have eW : EnAt W w.heap.size e := by rw [hW]; exact h2.1.trans (heap_alloc_new w _)
  have oW : W.heap[w.heap.size + 1]? = some (.cells (outA (.slice none 0 0)) 42 (0, 0)) := by rw [hW]; exact h2.2.trans (heap_alloc_new _ _)
  have sW : W.heap.size = w.heap.size + 2 := by rw [hW]; simp
  have hP := h.fresh bW
  have c0 := hP.c0
  have ce0 := eW.c0
  have HW : Hid ((w.alloc (.cells (enA e) 36)).alloc (.cells (outA (.slice none 0 0)) 42) = W) := hW.symm
  have BW : Hid (Below w.heap.size w W ∧ W.heap.size = w.heap.size + 2) := ⟨bW, sW⟩
  have OW : Hid _ := oW
  have EW : Hid _ := eW
  have HP : Hid _ := hP
  have HH : Hid _ := h
  have qp := rprom_any hP b
  clear hW bW oW hP h h2 eW sW
  by_cases hno : b < 1 ∨ b < d.p ∨ e.slot < 1
  · have HE : Hid (accD d b e = ⟨d, [], false⟩) := by
      show (if _ then _ else _) = _
      rw [if_pos hno]
    by_cases h1 : b < 1
    · have t1 : decide (b < 1) = true := decide_eq_true h1
      go_enter Try.func16, Try.ntmps16
      go_upto_region 1 with fail
      rw [HW.out]
      go_wp2_with (show wpList _ _ _ (⟨_, Op.store 42 _ _, _, _, _, _⟩ :: _) _ _; refine store_row_g rfl 42 _ _ rfl (w.heap.size + 1) (outA (.slice none 0 0)) rfl rfl 42 _ OW.out sizeOut rfl (by simp [Value.oneCell']) ?_; intro w6 h6 g6)
      refine bodyPost_ret (results_two Try.results16 _ _ (w.heap.size + 1) _ rfl (load_out h6)) rfl ?_
      rw [HE.out]
      exact ⟨S, _, _, rfl, HP.out.keep fun x hx => g6.block x (HP.out.bd x hx).2 (fun e => by have h1 := (HH.out.bd x hx).2; have := Option.some.inj e; omega), World.ownsRow_nil _ _ _ _, (Kept.of BW.out.1).grown g6 (Nat.le_succ _)⟩
    · have t1 : decide (b < 1) = false := decide_eq_false h1
      by_cases h2 : b < d.p
      · have t2 : decide (b < d.p) = true := decide_eq_true h2
        go_enter Try.func16, Try.ntmps16
        go_upto_region 1 with fail
        rw [HW.out]
        go_wp2_with (show wpList _ _ _ (⟨_, Op.store 42 _ _, _, _, _, _⟩ :: _) _ _; refine store_row_g rfl 42 _ _ rfl (w.heap.size + 1) (outA (.slice none 0 0)) rfl rfl 42 _ OW.out sizeOut rfl (by simp [Value.oneCell']) ?_; intro w6 h6 g6)
        refine bodyPost_ret (results_two Try.results16 _ _ (w.heap.size + 1) _ rfl (load_out h6)) rfl ?_
        rw [HE.out]
        exact ⟨S, _, _, rfl, HP.out.keep fun x hx => g6.block x (HP.out.bd x hx).2 (fun e => by have h1 := (HH.out.bd x hx).2; have := Option.some.inj e; omega), World.ownsRow_nil _ _ _ _, (Kept.of BW.out.1).grown g6 (Nat.le_succ _)⟩
      · have t2 : decide (b < d.p) = false := decide_eq_false h2
        have t3 : decide (e.slot < 1) = true := decide_eq_true (by omega)
        go_enter Try.func16, Try.ntmps16
        go_upto_region 1 with fail
        rw [HW.out]
        go_wp2_with (show wpList _ _ _ (⟨_, Op.store 42 _ _, _, _, _, _⟩ :: _) _ _; refine store_row_g rfl 42 _ _ rfl (w.heap.size + 1) (outA (.slice none 0 0)) rfl rfl 42 _ OW.out sizeOut rfl (by simp [Value.oneCell']) ?_; intro w6 h6 g6)
        refine bodyPost_ret (results_two Try.results16 _ _ (w.heap.size + 1) _ rfl (load_out h6)) rfl ?_
        rw [HE.out]
        exact ⟨S, _, _, rfl, HP.out.keep fun x hx => g6.block x (HP.out.bd x hx).2 (fun e => by have h1 := (HH.out.bd x hx).2; have := Option.some.inj e; omega), World.ownsRow_nil _ _ _ _, (Kept.of BW.out.1).grown g6 (Nat.le_succ _)⟩
  · have t1 : decide (b < 1) = false := decide_eq_false (by omega)
    have t2 : decide (b < d.p) = false := decide_eq_false (by omega)
    have t3 : decide (e.slot < 1) = false := decide_eq_false (by omega)
    go_enter Try.func16, Try.ntmps16
    go_upto_region 1 with fail
    rw [HW.out]
    go_upto_region 4 with (go_at_call 34; refine qp.mono ?_; rintro xx w3 ⟨u3, rfl, h3, r3, k3⟩; obtain ⟨pu, nu, cu, rfl⟩ := own_form r3)
    obtain ⟨y0, hy0⟩ : ∃ y, y = w3.alloc (.cells (outA (.slice pu nu cu)) 42) := ⟨_, rfl⟩
    obtain ⟨OB, hOB⟩ : ∃ O, O = w3.heap.size := ⟨_, rfl⟩
    have a0 : Below w3.heap.size w3 y0 := by rw [hy0]; exact (Below.refl _ _).alloc (Nat.le_refl _) _
    have nS : ∀ g, w.heap.size ≤ g → ¬ S g := fun g hg hs => by have h1 := (HH.out.bd g hs).2; omega
    have e3 : EnAt y0 w.heap.size e := (a0.block _ (Nat.lt_of_lt_of_le (lt_of_block EW.out) k3.size)).trans ((k3.kept _ (lt_of_block EW.out) (nS _ (Nat.le_refl _))).trans EW.out)
    have o3 : y0.heap[w.heap.size + 1]? = some (.cells (outA (.slice none 0 0)) 42 (0, 0)) := (a0.block _ (Nat.lt_of_lt_of_le (lt_of_block OW.out) k3.size)).trans ((k3.kept _ (lt_of_block OW.out) (nS _ (Nat.le_succ _))).trans OW.out)
    have ob3 : y0.heap[OB]? = some (.cells (outA (.slice pu nu cu)) 42 (0, 0)) := by rw [hy0, hOB]; exact heap_alloc_new w3 _
    have lo3 : w.heap.size + 1 < OB := by rw [hOB]; have := k3.size; have := BW.out.2; omega
    have P0 : Hid (RA y0 base S X ⟨b, d.b, d.s, d.es⟩ (.slice pv nv qv)) := h3.fresh a0
    have R0 : Hid (OwnRc y0 w.heap.size (.slice pu nu cu) (promD d b).recs) := own_mono (own_keep r3 fun g e => a0.block g (r3.lt g e).2) BW.out.1.size
    have K0 : Hid (Kept w y0 S S) := ((Kept.of BW.out.1).trans k3).trans (Kept.of a0)
    have E0 : Hid _ := e3
    have O0 : Hid _ := o3
    have OB0 : Hid _ := ob3
    have LO : Hid _ := lo3
    have HY0 : Hid (w3.alloc (.cells (outA (.slice pu nu cu)) 42) = y0) := hy0.symm
    have HOB : Hid (w3.heap.size = OB) := hOB.symm
    rw [HY0.out, HOB.out]
    have g0 := EnAt.box e3 0 _ rfl
    have g1 := EnAt.box e3 1 _ rfl
    have g2 := EnAt.box e3 2 _ rfl
    have g3 := EnAt.box e3 3 _ rfl
    have g4 := EnAt.box e3 4 _ rfl
    have g5 := EnAt.box e3 5 _ rfl
    have g6 := EnAt.box e3 6 _ rfl
    clear hy0 hOB a0 e3 o3 ob3 lo3 h3 r3 k3 nS qp c0 ce0
    obtain ⟨x, hx⟩ : ∃ x, x = accE b e := ⟨_, rfl⟩
    go_upto_region 5 with fail
    obtain ⟨ya, hya⟩ : ∃ y, y = y0.alloc (.cells #[.int .i64 e.slot, .int .i64 b, .int .i64 e.cmd.kind, .int .i64 e.cmd.session, .int .i64 e.cmd.seq, .string e.cmd.name, .int .i64 e.cmd.n] 36) := ⟨_, rfl⟩
    obtain ⟨XB, hXB⟩ : ∃ O, O = y0.heap.size := ⟨_, rfl⟩
    have aa : Below y0.heap.size y0 ya := by rw [hya]; exact (Below.refl _ _).alloc (Nat.le_refl _) _
    have xba : EnAt ya XB x := by rw [hya, hXB, hx]; exact heap_alloc_new y0 _
    have IA : Hid (RcS w ya base S S X ⟨b, d.b, d.s, d.es⟩ (.slice pv nv qv) e x OB XB (.slice pu nu cu) (promD d b).recs) :=
      ⟨P0.out.fresh aa, (aa.block _ (lt_of_block E0.out)).trans E0.out, (aa.block _ (lt_of_block O0.out)).trans O0.out, (aa.block _ (lt_of_block OB0.out)).trans OB0.out, own_keep R0.out fun g e => aa.block g (World.ownsRow.lt R0.out g e).2, xba, K0.out.trans (Kept.of aa), LO.out, Nat.le_trans (prom_len d b) (by decide)⟩
    have HYA : Hid (y0.alloc (.cells #[.int .i64 e.slot, .int .i64 b, .int .i64 e.cmd.kind, .int .i64 e.cmd.session, .int .i64 e.cmd.seq, .string e.cmd.name, .int .i64 e.cmd.n] 36) = ya) := hya.symm
    have HXB : Hid (y0.heap.size = XB) := hXB.symm
    rw [HYA.out, HXB.out]
    clear hya hXB aa xba g0 g1 g2 g3 g4 g5 g6
    have g0 := EnAt.box IA.out.box 0 _ rfl
    have qat := rat_any IA.out.pa hl e.slot
    obtain ⟨o, ho⟩ : ∃ o, o = (findE d.es e.slot).getD En.zero := ⟨_, rfl⟩
    obtain ⟨fs, hfs⟩ : ∃ fs, fs = (findE d.es e.slot).isSome := ⟨_, rfl⟩
    have qat' : Calls Try.prog 28 #[.pointer (some ⟨X, 0, none⟩), .int .i64 e.slot] ya fun xx w' => xx = .returned (.tuple #[.agg (enA o), .bool fs]) ∧ Below ya.heap.size ya w' := by rw [ho, hfs]; exact qat
    have HO : Hid (o = (findE d.es e.slot).getD En.zero ∧ fs = (findE d.es e.slot).isSome ∧ x = accE b e) := ⟨ho, hfs, hx⟩
    clear qat ho hfs hx
    go_upto_region 6 with (go_at_call 28; refine qat'.mono ?_; rintro xx w5 ⟨rfl, b5⟩)
    obtain ⟨y1, hy1⟩ : ∃ y, y = w5.alloc (.cells (enA o) 36) := ⟨_, rfl⟩
    obtain ⟨EB, hEB⟩ : ∃ O, O = w5.heap.size := ⟨_, rfl⟩
    have a1 : Below ya.heap.size ya y1 := by rw [hy1]; exact b5.alloc b5.size _
    have eb1 : EnAt y1 EB o := by rw [hy1, hEB]; exact heap_alloc_new w5 _
    have i1 := IA.out.fresh a1
    have I1 : Hid _ := i1
    have EB1 : Hid _ := eb1
    have HY1 : Hid (w5.alloc (.cells (enA o) 36) = y1) := hy1.symm
    have HEB : Hid (w5.heap.size = EB) := hEB.symm
    rw [HY1.out, HEB.out]
    obtain ⟨D, hD⟩ : ∃ D : Du, D = ⟨b, d.b, d.s, d.es⟩ := ⟨_, rfl⟩
    have hlD : D.es.length ≤ 536870912 := by rw [hD]; exact hl
    rw [← hD] at i1 I1
    have HD : Hid (D = ⟨b, d.b, d.s, d.es⟩) := hD
    obtain ⟨R, hR⟩ : ∃ R, R = (promD d b).recs := ⟨_, rfl⟩
    rw [← hR] at i1 I1
    have HR : Hid (R = (promD d b).recs) := hR
    have hRl : R.length ≤ 1 := by rw [hR]; exact prom_len d b
    have s0 := EnAt.box i1.box 0 _ rfl
    have s1 : y1.cell? ⟨X, 1, none⟩ = some (.int .i64 D.b) := i1.pa.c1
    have ao0 := EnAt.box eb1 0 _ rfl
    have ao1 := EnAt.box eb1 1 _ rfl
    have ao2 := EnAt.box eb1 2 _ rfl
    have ao3 := EnAt.box eb1 3 _ rfl
    have ao4 := EnAt.box eb1 4 _ rfl
    have ao5 := EnAt.box eb1 5 _ rfl
    have ao6 := EnAt.box eb1 6 _ rfl
    have bx0 := EnAt.box i1.xb 0 _ rfl
    have bx1 := EnAt.box i1.xb 1 _ rfl
    have bx2 := EnAt.box i1.xb 2 _ rfl
    have bx3 := EnAt.box i1.xb 3 _ rfl
    have bx4 := EnAt.box i1.xb 4 _ rfl
    have bx5 := EnAt.box i1.xb 5 _ rfl
    have bx6 := EnAt.box i1.xb 6 _ rfl
    have HN : Hid (¬ (b < 1 ∨ b < d.p ∨ e.slot < 1)) := hno
    have hDb : D.b = d.b := by rw [hD]
    clear hy1 hEB a1 eb1 i1 b5 qat' g0 hno hD hR HY0 HOB HYA HXB HY1 HEB
    by_cases hs : d.b < e.slot
    · have t4 : decide (D.b < e.slot) = true := decide_eq_true (by rw [hDb]; exact hs)
      cases fs with
      | false =>
        have hf : findE d.es e.slot = none := by have := HO.out.2.1; cases hq : findE d.es e.slot with
          | none => rfl
          | some z => rw [hq] at this; cases this
        have HE : Hid (accD d b e = ⟨foldD D [accR x], R ++ [accR x], true⟩) := by show _ = _; rw [HD.out, HR.out, HO.out.2.2]; exact acc_take HN.out ⟨hs, by rw [hf]; rfl⟩
        clear hf hDb
        refine wp_region_held_drew (S := (fun y : World => y.cell? ⟨w.heap.size, 0, none⟩ = some (.int .i64 e.slot) ∧ y.cell? ⟨X, 1, none⟩ = some (.int .i64 D.b) ∧ y.cell? ⟨EB, 0, none⟩ = some (.int .i64 o.slot) ∧ y.cell? ⟨EB, 1, none⟩ = some (.int .i64 o.ballot) ∧ y.cell? ⟨EB, 2, none⟩ = some (.int .i64 o.cmd.kind) ∧ y.cell? ⟨EB, 3, none⟩ = some (.int .i64 o.cmd.session) ∧ y.cell? ⟨EB, 4, none⟩ = some (.int .i64 o.cmd.seq) ∧ y.cell? ⟨EB, 5, none⟩ = some (.string o.cmd.name) ∧ y.cell? ⟨EB, 6, none⟩ = some (.int .i64 o.cmd.n) ∧ y.cell? ⟨XB, 0, none⟩ = some (.int .i64 x.slot) ∧ y.cell? ⟨XB, 1, none⟩ = some (.int .i64 x.ballot) ∧ y.cell? ⟨XB, 2, none⟩ = some (.int .i64 x.cmd.kind) ∧ y.cell? ⟨XB, 3, none⟩ = some (.int .i64 x.cmd.session) ∧ y.cell? ⟨XB, 4, none⟩ = some (.int .i64 x.cmd.seq) ∧ y.cell? ⟨XB, 5, none⟩ = some (.string x.cmd.name) ∧ y.cell? ⟨XB, 6, none⟩ = some (.int .i64 x.cmd.n))) (by kernel_rfl) ?_ (fun hHeld0 => ?_)
        · try dsimp only
          go_keep
        refine tk0 (.pointer (some ⟨w.heap.size, 0, none⟩)) (by kernel_rfl) (by kernel_rfl) (by kernel_rfl) (fun _ _ _ h => h) rfl (fun w hSw => by (try dsimp only at hSw); obtain ⟨s0, s1, a0, a1, a2, a3, a4, a5, a6, b0, b1, b2, b3, b4, b5, b6⟩ := hSw; go_simp) (by assumption) ?_
        try simp only [Act.put, List.setIfInBounds_toArray, List.set_cons_zero, List.set_cons_succ]
        refine tk1 (.int .i64 e.slot) (by kernel_rfl) (by kernel_rfl) (by kernel_rfl) (fun _ _ _ h => h) rfl (fun w hSw => by (try dsimp only at hSw); obtain ⟨s0, s1, a0, a1, a2, a3, a4, a5, a6, b0, b1, b2, b3, b4, b5, b6⟩ := hSw; go_simp) (by assumption) ?_
        try simp only [Act.put, List.setIfInBounds_toArray, List.set_cons_zero, List.set_cons_succ]
        refine tk2 (.pointer (some ⟨X, 0, none⟩)) (by kernel_rfl) (by kernel_rfl) (by kernel_rfl) (fun _ _ _ h => h) rfl (fun w hSw => by (try dsimp only at hSw); obtain ⟨s0, s1, a0, a1, a2, a3, a4, a5, a6, b0, b1, b2, b3, b4, b5, b6⟩ := hSw; go_simp) (by assumption) ?_
        try simp only [Act.put, List.setIfInBounds_toArray, List.set_cons_zero, List.set_cons_succ]
        refine tk3 (.pointer (some ⟨X, 0, none⟩)) (by kernel_rfl) (by kernel_rfl) (by kernel_rfl) (fun _ _ _ h => h) rfl (fun w hSw => by (try dsimp only at hSw); obtain ⟨s0, s1, a0, a1, a2, a3, a4, a5, a6, b0, b1, b2, b3, b4, b5, b6⟩ := hSw; go_simp) (by assumption) ?_
        try simp only [Act.put, List.setIfInBounds_toArray, List.set_cons_zero, List.set_cons_succ]
        refine tk4 (.pointer (some ⟨X, 0, none⟩)) (by kernel_rfl) (by kernel_rfl) (by kernel_rfl) (fun _ _ _ h => h) rfl (fun w hSw => by (try dsimp only at hSw); obtain ⟨s0, s1, a0, a1, a2, a3, a4, a5, a6, b0, b1, b2, b3, b4, b5, b6⟩ := hSw; go_simp) (by assumption) ?_
        try simp only [Act.put, List.setIfInBounds_toArray, List.set_cons_zero, List.set_cons_succ]
        refine tk5 (.pointer (some ⟨X, 1, none⟩)) (by kernel_rfl) (by kernel_rfl) (by kernel_rfl) (fun _ _ _ h => h) rfl (fun w hSw => by (try dsimp only at hSw); obtain ⟨s0, s1, a0, a1, a2, a3, a4, a5, a6, b0, b1, b2, b3, b4, b5, b6⟩ := hSw; go_simp) (by assumption) ?_
        try simp only [Act.put, List.setIfInBounds_toArray, List.set_cons_zero, List.set_cons_succ]
        refine tk6 (.int .i64 D.b) (by kernel_rfl) (by kernel_rfl) (by kernel_rfl) (fun _ _ _ h => h) rfl (fun w hSw => by (try dsimp only at hSw); obtain ⟨s0, s1, a0, a1, a2, a3, a4, a5, a6, b0, b1, b2, b3, b4, b5, b6⟩ := hSw; go_simp) (by assumption) ?_
        try simp only [Act.put, List.setIfInBounds_toArray, List.set_cons_zero, List.set_cons_succ]
        refine tk7 (.bool true) (by kernel_rfl) (by kernel_rfl) (by kernel_rfl) (fun _ _ _ h => h) rfl (fun w hSw => by (try dsimp only at hSw); obtain ⟨s0, s1, a0, a1, a2, a3, a4, a5, a6, b0, b1, b2, b3, b4, b5, b6⟩ := hSw; go_simp) (by assumption) ?_
        try simp only [Act.put, List.setIfInBounds_toArray, List.set_cons_zero, List.set_cons_succ]
        refine tk8 (.bool true) (by kernel_rfl) (by kernel_rfl) (by kernel_rfl) (fun _ _ _ h => h) rfl (fun w hSw => by (try dsimp only at hSw); obtain ⟨s0, s1, a0, a1, a2, a3, a4, a5, a6, b0, b1, b2, b3, b4, b5, b6⟩ := hSw; go_simp) (by assumption) ?_
        try simp only [Act.put, List.setIfInBounds_toArray, List.set_cons_zero, List.set_cons_succ]
        refine tk9 (.bool false) (by kernel_rfl) (by kernel_rfl) (by kernel_rfl) (fun _ _ _ h => h) rfl (fun w hSw => by (try dsimp only at hSw); obtain ⟨s0, s1, a0, a1, a2, a3, a4, a5, a6, b0, b1, b2, b3, b4, b5, b6⟩ := hSw; go_simp) (by assumption) ?_
        try simp only [Act.put, List.setIfInBounds_toArray, List.set_cons_zero, List.set_cons_succ]
        refine tk10 (.bool false) (by kernel_rfl) (by kernel_rfl) (by kernel_rfl) (fun _ _ _ h => h) rfl (fun w hSw => by (try dsimp only at hSw); obtain ⟨s0, s1, a0, a1, a2, a3, a4, a5, a6, b0, b1, b2, b3, b4, b5, b6⟩ := hSw; go_simp) (by assumption) ?_
        try simp only [Act.put, List.setIfInBounds_toArray, List.set_cons_zero, List.set_cons_succ]
        refine sk11 (by kernel_rfl) (by kernel_rfl) (by kernel_rfl) (fun _ _ _ h => h) rfl (by assumption) ?_
        try simp only [Act.put, List.setIfInBounds_toArray, List.set_cons_zero, List.set_cons_succ]
        refine sk12 (by kernel_rfl) (by kernel_rfl) (by kernel_rfl) (fun _ _ _ h => h) rfl (by assumption) ?_
        try simp only [Act.put, List.setIfInBounds_toArray, List.set_cons_zero, List.set_cons_succ]
        refine sk13 (by kernel_rfl) (by kernel_rfl) (by kernel_rfl) (fun _ _ _ h => h) rfl (by assumption) ?_
        try simp only [Act.put, List.setIfInBounds_toArray, List.set_cons_zero, List.set_cons_succ]
        refine tk14 (.bool false) (by kernel_rfl) (by kernel_rfl) (by kernel_rfl) (fun _ _ _ h => h) rfl (fun w hSw => by (try dsimp only at hSw); obtain ⟨s0, s1, a0, a1, a2, a3, a4, a5, a6, b0, b1, b2, b3, b4, b5, b6⟩ := hSw; go_simp) (by assumption) ?_
        try simp only [Act.put, List.setIfInBounds_toArray, List.set_cons_zero, List.set_cons_succ]
        refine tk15 (.bool true) (by kernel_rfl) (by kernel_rfl) (by kernel_rfl) (fun _ _ _ h => h) rfl (fun w hSw => by (try dsimp only at hSw); obtain ⟨s0, s1, a0, a1, a2, a3, a4, a5, a6, b0, b1, b2, b3, b4, b5, b6⟩ := hSw; go_simp) (by assumption) ?_
        try simp only [Act.put, List.setIfInBounds_toArray, List.set_cons_zero, List.set_cons_succ]
        refine tk16 (.bool true) (by kernel_rfl) (by kernel_rfl) (by kernel_rfl) (fun _ _ _ h => h) rfl (fun w hSw => by (try dsimp only at hSw); obtain ⟨s0, s1, a0, a1, a2, a3, a4, a5, a6, b0, b1, b2, b3, b4, b5, b6⟩ := hSw; go_simp) (by assumption) ?_
        try simp only [Act.put, List.setIfInBounds_toArray, List.set_cons_zero, List.set_cons_succ]
        refine wpAnyH_done (by kernel_rfl) ?_ _
        have i1 := I1.out.drew
        have n0 := EnAt.box i1.xb 0 _ rfl
        have n1 := EnAt.box i1.xb 1 _ rfl
        have n2 := EnAt.box i1.xb 2 _ rfl
        have n3 := EnAt.box i1.xb 3 _ rfl
        have n4 := EnAt.box i1.xb 4 _ rfl
        have n5 := EnAt.box i1.xb 5 _ rfl
        have n6 := EnAt.box i1.xb 6 _ rfl
        have I1d : Hid _ := i1
        clear i1
        go_upto_region 8 with fail
        obtain ⟨y2, hy2⟩ : ∃ y, y = y1.drew.alloc (.cells #[.int .i64 2, .int .i64 0, .int .i64 x.slot, .int .i64 x.ballot, .int .i64 x.cmd.kind, .int .i64 x.cmd.session, .int .i64 x.cmd.seq, .string x.cmd.name, .int .i64 x.cmd.n] 65) := ⟨_, rfl⟩
        obtain ⟨RB, hRB⟩ : ∃ RB, RB = y1.heap.size := ⟨_, rfl⟩
        have t2 : Below y1.heap.size y1 y2 := by rw [hy2]; exact undrew ((Below.refl _ y1.drew).alloc (Nat.le_refl _) _)
        have i2 := I1.out.fresh t2
        have rb2 : y2.heap[RB]? = some (.cells (rcC (accR x)).toArray 65 (0, 0)) := by rw [hy2, hRB]; exact heap_alloc_new y1.drew _
        have I2 : Hid _ := i2
        have RB2 : Hid _ := rb2
        have HRX : Hid (RB ≠ X) := by show _ ≠ _; have := I1.out.pa.lt; omega
        have HY2 : Hid (y1.drew.alloc (.cells #[.int .i64 2, .int .i64 0, .int .i64 x.slot, .int .i64 x.ballot, .int .i64 x.cmd.kind, .int .i64 x.cmd.session, .int .i64 x.cmd.seq, .string x.cmd.name, .int .i64 x.cmd.n] 65) = y2) := hy2.symm
        have HY2' : Hid ((y1.alloc (.cells #[.int .i64 2, .int .i64 0, .int .i64 x.slot, .int .i64 x.ballot, .int .i64 x.cmd.kind, .int .i64 x.cmd.session, .int .i64 x.cmd.seq, .string x.cmd.name, .int .i64 x.cmd.n] 65)).drew = y2) := hy2.symm
        have HRB : Hid (y1.heap.size = RB) := hRB.symm
        first | rw [HY2.out, HRB.out] | rw [HY2'.out, HRB.out]
        have m0 := i2.pa.c0
        have m1 := i2.pa.c1
        have m2 := i2.pa.c2
        have m3 := i2.pa.c3
        have p0 : y2.cell? ⟨RB, 0, none⟩ = some (.int .i64 2) := rcbox rb2 0 _ rfl
        have p1 : y2.cell? ⟨RB, 1, none⟩ = some (.int .i64 0) := rcbox rb2 1 _ rfl
        have p2 : y2.cell? ⟨RB, 2, none⟩ = some (.int .i64 x.slot) := rcbox rb2 2 _ rfl
        have p3 : y2.cell? ⟨RB, 3, none⟩ = some (.int .i64 x.ballot) := rcbox rb2 3 _ rfl
        have p4 : y2.cell? ⟨RB, 4, none⟩ = some (.int .i64 x.cmd.kind) := rcbox rb2 4 _ rfl
        have p5 : y2.cell? ⟨RB, 5, none⟩ = some (.int .i64 x.cmd.session) := rcbox rb2 5 _ rfl
        have p6 : y2.cell? ⟨RB, 6, none⟩ = some (.int .i64 x.cmd.seq) := rcbox rb2 6 _ rfl
        have p7 : y2.cell? ⟨RB, 7, none⟩ = some (.string x.cmd.name) := rcbox rb2 7 _ rfl
        have p8 : y2.cell? ⟨RB, 8, none⟩ = some (.int .i64 x.cmd.n) := rcbox rb2 8 _ rfl
        clear hy2 hRB t2 i2 rb2 HY2 HY2' n0 n1 n2 n3 n4 n5 n6
        refine wp_region_held_drew (S := (fun y : World => y.cell? ⟨RB, 0, none⟩ = some (.int .i64 2) ∧ y.cell? ⟨RB, 1, none⟩ = some (.int .i64 0) ∧ y.cell? ⟨RB, 2, none⟩ = some (.int .i64 x.slot) ∧ y.cell? ⟨RB, 3, none⟩ = some (.int .i64 x.ballot) ∧ y.cell? ⟨RB, 4, none⟩ = some (.int .i64 x.cmd.kind) ∧ y.cell? ⟨RB, 5, none⟩ = some (.int .i64 x.cmd.session) ∧ y.cell? ⟨RB, 6, none⟩ = some (.int .i64 x.cmd.seq) ∧ y.cell? ⟨RB, 7, none⟩ = some (.string x.cmd.name) ∧ y.cell? ⟨RB, 8, none⟩ = some (.int .i64 x.cmd.n))) (by kernel_rfl) ?_ (fun hHeld0 => ?_)
        · try dsimp only
          go_keep
        refine tk0 (.pointer (some ⟨X, 0, none⟩)) (by kernel_rfl) (by kernel_rfl) (by kernel_rfl) (fun _ _ _ h => h) rfl (fun w hSw => by (try dsimp only at hSw); obtain ⟨a0, a1, a2, a3, a4, a5, a6, a7, a8⟩ := hSw; go_simp) (by assumption) ?_
        try simp only [Act.put, List.setIfInBounds_toArray, List.set_cons_zero, List.set_cons_succ]
        refine tk1 (.pointer (some ⟨X, 0, none⟩)) (by kernel_rfl) (by kernel_rfl) (by kernel_rfl) (fun _ _ _ h => h) rfl (fun w hSw => by (try dsimp only at hSw); obtain ⟨a0, a1, a2, a3, a4, a5, a6, a7, a8⟩ := hSw; go_simp) (by assumption) ?_
        try simp only [Act.put, List.setIfInBounds_toArray, List.set_cons_zero, List.set_cons_succ]
        refine tk2 (.pointer (some ⟨X, 0, none⟩)) (by kernel_rfl) (by kernel_rfl) (by kernel_rfl) (fun _ _ _ h => h) rfl (fun w hSw => by (try dsimp only at hSw); obtain ⟨a0, a1, a2, a3, a4, a5, a6, a7, a8⟩ := hSw; go_simp) (by assumption) ?_
        try simp only [Act.put, List.setIfInBounds_toArray, List.set_cons_zero, List.set_cons_succ]
        refine tk3 (.pointer (some ⟨X, 0, none⟩)) (by kernel_rfl) (by kernel_rfl) (by kernel_rfl) (fun _ _ _ h => h) rfl (fun w hSw => by (try dsimp only at hSw); obtain ⟨a0, a1, a2, a3, a4, a5, a6, a7, a8⟩ := hSw; go_simp) (by assumption) ?_
        try simp only [Act.put, List.setIfInBounds_toArray, List.set_cons_zero, List.set_cons_succ]
        refine tk5 (.agg #[.int .i64 2, .int .i64 0, .int .i64 x.slot, .int .i64 x.ballot, .int .i64 x.cmd.kind, .int .i64 x.cmd.session, .int .i64 x.cmd.seq, .string x.cmd.name, .int .i64 x.cmd.n]) (by kernel_rfl) (by kernel_rfl) (by kernel_rfl) (fun _ _ _ h => h) rfl (fun w hSw => by (try dsimp only at hSw); obtain ⟨a0, a1, a2, a3, a4, a5, a6, a7, a8⟩ := hSw; go_simp) (by assumption) ?_
        try simp only [Act.put, List.setIfInBounds_toArray, List.set_cons_zero, List.set_cons_succ]
        refine rd4_6 (by kernel_rfl) rfl rfl (fun K hK => ?_) (fun K hK => ?_)
        · go_simp
          refine hK.out _ _ ?_ (fun hHeld => ?_)
          · try dsimp only
            go_keep
          clear hK K
          try simp only [Act.put, List.setIfInBounds_toArray, List.set_cons_zero, List.set_cons_succ]
          refine cl6 (by kernel_rfl) rfl (fun K hK => ?_)
          go_simp
          obtain ⟨y3, hy3⟩ : ∃ y, y = y2.drew.alloc (.cells #[.int .i64 2, .int .i64 0, .int .i64 x.slot, .int .i64 x.ballot, .int .i64 x.cmd.kind, .int .i64 x.cmd.session, .int .i64 x.cmd.seq, .string x.cmd.name, .int .i64 x.cmd.n] 65) := ⟨_, rfl⟩
          have t3 : Below y2.heap.size y2 y3 := by rw [hy3]; exact undrew ((Below.refl _ y2.drew).alloc (Nat.le_refl _) _)
          have i3 := I2.out.fresh t3
          have rw3 : RowAt rcC y3 (.slice (some ⟨y2.heap.size, 0, none⟩) 1 1) [accR x] := by rw [hy3]; exact RowAt.built (heap_alloc_new y2.drew _) rfl 1 rfl rfl
          have rb3 := (t3.block RB (lt_of_block RB2.out)).trans RB2.out
          rw [show (y2.alloc (.cells #[.int .i64 2, .int .i64 0, .int .i64 x.slot, .int .i64 x.ballot, .int .i64 x.cmd.kind, .int .i64 x.cmd.session, .int .i64 x.cmd.seq, .string x.cmd.name, .int .i64 x.cmd.n] 65)).drew = y3 from hy3.symm]
          have I3 : Hid _ := i3
          have RW3 : Hid _ := rw3
          have RB3 : Hid _ := rb3
          have k0 := i3.pa.c0
          have k1 := i3.pa.c1
          have k2 := i3.pa.c2
          have k3 := i3.pa.c3
          have v0 : y3.cell? ⟨RB, 0, none⟩ = some (.int .i64 2) := rcbox rb3 0 _ rfl
          have v1 : y3.cell? ⟨RB, 1, none⟩ = some (.int .i64 0) := rcbox rb3 1 _ rfl
          have v2 : y3.cell? ⟨RB, 2, none⟩ = some (.int .i64 x.slot) := rcbox rb3 2 _ rfl
          have v3 : y3.cell? ⟨RB, 3, none⟩ = some (.int .i64 x.ballot) := rcbox rb3 3 _ rfl
          have v4 : y3.cell? ⟨RB, 4, none⟩ = some (.int .i64 x.cmd.kind) := rcbox rb3 4 _ rfl
          have v5 : y3.cell? ⟨RB, 5, none⟩ = some (.int .i64 x.cmd.session) := rcbox rb3 5 _ rfl
          have v6 : y3.cell? ⟨RB, 6, none⟩ = some (.int .i64 x.cmd.seq) := rcbox rb3 6 _ rfl
          have v7 : y3.cell? ⟨RB, 7, none⟩ = some (.string x.cmd.name) := rcbox rb3 7 _ rfl
          have v8 : y3.cell? ⟨RB, 8, none⟩ = some (.int .i64 x.cmd.n) := rcbox rb3 8 _ rfl
          clear hy3 t3 i3 rw3 rb3
          refine hK.out _ _ ?_ (fun hHeld => ?_)
          · try dsimp only
            go_keep
          clear hK K
          try simp only [Act.put, List.setIfInBounds_toArray, List.set_cons_zero, List.set_cons_succ]
          refine cl7 (by kernel_rfl) rfl (fun K hK => ?_)
          go_simp
          go_at_call 24
          refine (rfold_any y3 D _ _ [accR x] (OwnEn.row I3.out.pa.own) RW3.out hlD (by simp)).mono ?_
          rintro r y4 ⟨v4, rfl, o4, t4⟩
          obtain ⟨p4, n4, q4, rfl⟩ := own_form o4
          have i4 := I3.out.fresh t4
          have rb4 := (t4.block RB (lt_of_block RB3.out)).trans RB3.out
          have I4 : Hid _ := i4
          have RB4 : Hid _ := rb4
          have O4 : Hid (OwnEn y4 base (.slice p4 n4 q4) (foldD D [accR x]).es) := own_mono o4 (Nat.le_trans I3.out.pa.lo (Nat.le_of_lt I3.out.pa.lt))
          have L4 : Hid (∀ g, (Value.slice p4 n4 q4).ownBlock = some g → y3.heap.size ≤ g) := fun g e => (o4.lt g e).1
          have SZ4 : Hid (w.heap.size ≤ y3.heap.size) := I3.out.kept.size
          have u0 : y4.cell? ⟨RB, 0, none⟩ = some (.int .i64 2) := rcbox rb4 0 _ rfl
          have u1 : y4.cell? ⟨RB, 1, none⟩ = some (.int .i64 0) := rcbox rb4 1 _ rfl
          have u2 : y4.cell? ⟨RB, 2, none⟩ = some (.int .i64 x.slot) := rcbox rb4 2 _ rfl
          have u3 : y4.cell? ⟨RB, 3, none⟩ = some (.int .i64 x.ballot) := rcbox rb4 3 _ rfl
          have u4 : y4.cell? ⟨RB, 4, none⟩ = some (.int .i64 x.cmd.kind) := rcbox rb4 4 _ rfl
          have u5 : y4.cell? ⟨RB, 5, none⟩ = some (.int .i64 x.cmd.session) := rcbox rb4 5 _ rfl
          have u6 : y4.cell? ⟨RB, 6, none⟩ = some (.int .i64 x.cmd.seq) := rcbox rb4 6 _ rfl
          have u7 : y4.cell? ⟨RB, 7, none⟩ = some (.string x.cmd.name) := rcbox rb4 7 _ rfl
          have u8 : y4.cell? ⟨RB, 8, none⟩ = some (.int .i64 x.cmd.n) := rcbox rb4 8 _ rfl
          clear i4 rb4 o4 t4
          refine hK.out _ _ ?_ (fun hHeld => ?_)
          · try dsimp only
            go_keep
          clear hK K
          try simp only [Act.put, List.setIfInBounds_toArray, List.set_cons_zero, List.set_cons_succ]
          refine tk8 (.pointer (some ⟨X, 0, none⟩)) (by kernel_rfl) (by kernel_rfl) (by kernel_rfl) (fun _ _ _ h => h) rfl (fun w hSw => by (try dsimp only at hSw); obtain ⟨a0, a1, a2, a3, a4, a5, a6, a7, a8⟩ := hSw; go_simp) (by assumption) ?_
          try simp only [Act.put, List.setIfInBounds_toArray, List.set_cons_zero, List.set_cons_succ]
          refine tk9 (.pointer (some ⟨X, 0, none⟩)) (by kernel_rfl) (by kernel_rfl) (by kernel_rfl) (fun _ _ _ h => h) rfl (fun w hSw => by (try dsimp only at hSw); obtain ⟨a0, a1, a2, a3, a4, a5, a6, a7, a8⟩ := hSw; go_simp) (by assumption) ?_
          try simp only [Act.put, List.setIfInBounds_toArray, List.set_cons_zero, List.set_cons_succ]
          refine cl10 (by kernel_rfl) rfl (fun K hK => ?_)
          refine wp_store_row 24 _ _ rfl X (duA (foldD D [accR x]) (.slice p4 n4 q4)) rfl rfl 63 _ I4.out.pa.blk sizeDu rfl (by simp [Value.oneCell']) ?_
          obtain ⟨y5, hy5⟩ : ∃ y, y = y4.setRow X (duA (foldD D [accR x]) (.slice p4 n4 q4)) := ⟨_, rfl⟩
          have g5 : y4.grownBy y5 (some X) := by rw [hy5]; exact grown_setRow_g _ _ _
          have x5 : y5.heap[X]? = some (.cells (duA (foldD D [accR x]) (.slice p4 n4 q4)) 63 (0, 0)) := by rw [hy5]; exact setRow_heap _ X _ _ _ _ I4.out.pa.blk
          rw [← hy5]
          have i5 := I4.out.folded O4.out (fun g e => Nat.le_trans SZ4.out (L4.out g e)) x5 g5
          have I5 : Hid _ := i5
          have rb5 := (g5.block RB (lt_of_block RB4.out) (fun e9 => HRX.out (Option.some.inj e9))).trans RB4.out
          have RB5 : Hid _ := rb5
          have l9 := i5.o0
          have f0 : y5.cell? ⟨RB, 0, none⟩ = some (.int .i64 2) := rcbox rb5 0 _ rfl
          have f1 : y5.cell? ⟨RB, 1, none⟩ = some (.int .i64 0) := rcbox rb5 1 _ rfl
          have f2 : y5.cell? ⟨RB, 2, none⟩ = some (.int .i64 x.slot) := rcbox rb5 2 _ rfl
          have f3 : y5.cell? ⟨RB, 3, none⟩ = some (.int .i64 x.ballot) := rcbox rb5 3 _ rfl
          have f4 : y5.cell? ⟨RB, 4, none⟩ = some (.int .i64 x.cmd.kind) := rcbox rb5 4 _ rfl
          have f5 : y5.cell? ⟨RB, 5, none⟩ = some (.int .i64 x.cmd.session) := rcbox rb5 5 _ rfl
          have f6 : y5.cell? ⟨RB, 6, none⟩ = some (.int .i64 x.cmd.seq) := rcbox rb5 6 _ rfl
          have f7 : y5.cell? ⟨RB, 7, none⟩ = some (.string x.cmd.name) := rcbox rb5 7 _ rfl
          have f8 : y5.cell? ⟨RB, 8, none⟩ = some (.int .i64 x.cmd.n) := rcbox rb5 8 _ rfl
          clear hy5 g5 x5 i5 rb5
          refine hK.out _ _ ?_ (fun hHeld => ?_)
          · try dsimp only
            go_keep
          clear hK K
          refine wpAnyH_done (by kernel_rfl) ?_ _
          have sz5 := I5.out.kept.size
          go_upto_region 10 with (at_builtin; refine wpList_app_row (k := 9) (enc := rcC) (l := [accR x]) rfl (.tmp 77) (.tmp 79) 39 65 rfl i0 _ 80 Try.underlying39 hi hz0 hz1 hz2 rfl (by decide) rcC_len rcC_ones (base := w.heap.size) rfl rfl (World.ownsRow.alloc I5.out.own _) (RowAt.built (heap_alloc_new _ _) rfl 1 rfl rfl) (by simp; omega) (by simp; omega) (by simp; omega) ?_; intro u6 y6 o6 a6; obtain ⟨p6, n6, q6, rfl⟩ := own_form o6; have j6 := I5.out.grow o6 a6 (by omega); have z6 := j6.1; have y6f := j6.2.1; have J6 : Hid _ := j6.2.2; clear o6 a6 j6)
          have i7 := J6.out
          obtain ⟨y7, hy7⟩ : ∃ y, y = y6.setCell ⟨OB, 0, none⟩ (.slice p6 n6 q6) := ⟨_, rfl⟩
          rw [← hy7] at i7
          have HY7 : Hid (y6.setCell ⟨OB, 0, none⟩ (.slice p6 n6 q6) = y7) := hy7.symm
          rw [HY7.out]
          clear hy7 HY7 z6 y6f
          have i9 := i7
          have g0 := i9.o0
          have g1 := i9.o1
          have g2 := i9.o2
          have g3 := i9.o3
          have I9 : Hid _ := i9
          clear i9
          go_wp2_with (show wpList _ _ _ (⟨_, Op.store 42 _ _, _, _, _, _⟩ :: _) _ _; refine store_row_g rfl 42 _ _ rfl (w.heap.size + 1) (outA (.slice p6 n6 q6)) rfl rfl 42 _ I9.out.res sizeOut rfl (by simp [Value.oneCell']) ?_; intro w6 h6 g6)
          refine bodyPost_ret (results_two Try.results16 _ _ (w.heap.size + 1) _ rfl (load_out h6)) rfl ?_
          exact racc_end I9.out HE.out g6
        · go_simp
          obtain ⟨y3, hy3⟩ : ∃ y, y = y2.drew.alloc (.cells #[.int .i64 2, .int .i64 0, .int .i64 x.slot, .int .i64 x.ballot, .int .i64 x.cmd.kind, .int .i64 x.cmd.session, .int .i64 x.cmd.seq, .string x.cmd.name, .int .i64 x.cmd.n] 65) := ⟨_, rfl⟩
          have t3 : Below y2.heap.size y2 y3 := by rw [hy3]; exact undrew ((Below.refl _ y2.drew).alloc (Nat.le_refl _) _)
          have i3 := I2.out.fresh t3
          have rw3 : RowAt rcC y3 (.slice (some ⟨y2.heap.size, 0, none⟩) 1 1) [accR x] := by rw [hy3]; exact RowAt.built (heap_alloc_new y2.drew _) rfl 1 rfl rfl
          have rb3 := (t3.block RB (lt_of_block RB2.out)).trans RB2.out
          rw [show (y2.alloc (.cells #[.int .i64 2, .int .i64 0, .int .i64 x.slot, .int .i64 x.ballot, .int .i64 x.cmd.kind, .int .i64 x.cmd.session, .int .i64 x.cmd.seq, .string x.cmd.name, .int .i64 x.cmd.n] 65)).drew = y3 from hy3.symm]
          have I3 : Hid _ := i3
          have RW3 : Hid _ := rw3
          have RB3 : Hid _ := rb3
          have k0 := i3.pa.c0
          have k1 := i3.pa.c1
          have k2 := i3.pa.c2
          have k3 := i3.pa.c3
          have v0 : y3.cell? ⟨RB, 0, none⟩ = some (.int .i64 2) := rcbox rb3 0 _ rfl
          have v1 : y3.cell? ⟨RB, 1, none⟩ = some (.int .i64 0) := rcbox rb3 1 _ rfl
          have v2 : y3.cell? ⟨RB, 2, none⟩ = some (.int .i64 x.slot) := rcbox rb3 2 _ rfl
          have v3 : y3.cell? ⟨RB, 3, none⟩ = some (.int .i64 x.ballot) := rcbox rb3 3 _ rfl
          have v4 : y3.cell? ⟨RB, 4, none⟩ = some (.int .i64 x.cmd.kind) := rcbox rb3 4 _ rfl
          have v5 : y3.cell? ⟨RB, 5, none⟩ = some (.int .i64 x.cmd.session) := rcbox rb3 5 _ rfl
          have v6 : y3.cell? ⟨RB, 6, none⟩ = some (.int .i64 x.cmd.seq) := rcbox rb3 6 _ rfl
          have v7 : y3.cell? ⟨RB, 7, none⟩ = some (.string x.cmd.name) := rcbox rb3 7 _ rfl
          have v8 : y3.cell? ⟨RB, 8, none⟩ = some (.int .i64 x.cmd.n) := rcbox rb3 8 _ rfl
          clear hy3 t3 i3 rw3 rb3
          refine hK.out _ _ ?_ (fun hHeld => ?_)
          · try dsimp only
            go_keep
          clear hK K
          try simp only [Act.put, List.setIfInBounds_toArray, List.set_cons_zero, List.set_cons_succ]
          refine cl4 (by kernel_rfl) rfl (fun K hK => ?_)
          go_simp
          refine hK.out _ _ ?_ (fun hHeld => ?_)
          · try dsimp only
            go_keep
          clear hK K
          try simp only [Act.put, List.setIfInBounds_toArray, List.set_cons_zero, List.set_cons_succ]
          refine cl7 (by kernel_rfl) rfl (fun K hK => ?_)
          go_simp
          go_at_call 24
          refine (rfold_any y3 D _ _ [accR x] (OwnEn.row I3.out.pa.own) RW3.out hlD (by simp)).mono ?_
          rintro r y4 ⟨v4, rfl, o4, t4⟩
          obtain ⟨p4, n4, q4, rfl⟩ := own_form o4
          have i4 := I3.out.fresh t4
          have rb4 := (t4.block RB (lt_of_block RB3.out)).trans RB3.out
          have I4 : Hid _ := i4
          have RB4 : Hid _ := rb4
          have O4 : Hid (OwnEn y4 base (.slice p4 n4 q4) (foldD D [accR x]).es) := own_mono o4 (Nat.le_trans I3.out.pa.lo (Nat.le_of_lt I3.out.pa.lt))
          have L4 : Hid (∀ g, (Value.slice p4 n4 q4).ownBlock = some g → y3.heap.size ≤ g) := fun g e => (o4.lt g e).1
          have SZ4 : Hid (w.heap.size ≤ y3.heap.size) := I3.out.kept.size
          have u0 : y4.cell? ⟨RB, 0, none⟩ = some (.int .i64 2) := rcbox rb4 0 _ rfl
          have u1 : y4.cell? ⟨RB, 1, none⟩ = some (.int .i64 0) := rcbox rb4 1 _ rfl
          have u2 : y4.cell? ⟨RB, 2, none⟩ = some (.int .i64 x.slot) := rcbox rb4 2 _ rfl
          have u3 : y4.cell? ⟨RB, 3, none⟩ = some (.int .i64 x.ballot) := rcbox rb4 3 _ rfl
          have u4 : y4.cell? ⟨RB, 4, none⟩ = some (.int .i64 x.cmd.kind) := rcbox rb4 4 _ rfl
          have u5 : y4.cell? ⟨RB, 5, none⟩ = some (.int .i64 x.cmd.session) := rcbox rb4 5 _ rfl
          have u6 : y4.cell? ⟨RB, 6, none⟩ = some (.int .i64 x.cmd.seq) := rcbox rb4 6 _ rfl
          have u7 : y4.cell? ⟨RB, 7, none⟩ = some (.string x.cmd.name) := rcbox rb4 7 _ rfl
          have u8 : y4.cell? ⟨RB, 8, none⟩ = some (.int .i64 x.cmd.n) := rcbox rb4 8 _ rfl
          clear i4 rb4 o4 t4
          refine hK.out _ _ ?_ (fun hHeld => ?_)
          · try dsimp only
            go_keep
          clear hK K
          try simp only [Act.put, List.setIfInBounds_toArray, List.set_cons_zero, List.set_cons_succ]
          refine tk8 (.pointer (some ⟨X, 0, none⟩)) (by kernel_rfl) (by kernel_rfl) (by kernel_rfl) (fun _ _ _ h => h) rfl (fun w hSw => by (try dsimp only at hSw); obtain ⟨a0, a1, a2, a3, a4, a5, a6, a7, a8⟩ := hSw; go_simp) (by assumption) ?_
          try simp only [Act.put, List.setIfInBounds_toArray, List.set_cons_zero, List.set_cons_succ]
          refine tk9 (.pointer (some ⟨X, 0, none⟩)) (by kernel_rfl) (by kernel_rfl) (by kernel_rfl) (fun _ _ _ h => h) rfl (fun w hSw => by (try dsimp only at hSw); obtain ⟨a0, a1, a2, a3, a4, a5, a6, a7, a8⟩ := hSw; go_simp) (by assumption) ?_
          try simp only [Act.put, List.setIfInBounds_toArray, List.set_cons_zero, List.set_cons_succ]
          refine cl10 (by kernel_rfl) rfl (fun K hK => ?_)
          refine wp_store_row 24 _ _ rfl X (duA (foldD D [accR x]) (.slice p4 n4 q4)) rfl rfl 63 _ I4.out.pa.blk sizeDu rfl (by simp [Value.oneCell']) ?_
          obtain ⟨y5, hy5⟩ : ∃ y, y = y4.setRow X (duA (foldD D [accR x]) (.slice p4 n4 q4)) := ⟨_, rfl⟩
          have g5 : y4.grownBy y5 (some X) := by rw [hy5]; exact grown_setRow_g _ _ _
          have x5 : y5.heap[X]? = some (.cells (duA (foldD D [accR x]) (.slice p4 n4 q4)) 63 (0, 0)) := by rw [hy5]; exact setRow_heap _ X _ _ _ _ I4.out.pa.blk
          rw [← hy5]
          have i5 := I4.out.folded O4.out (fun g e => Nat.le_trans SZ4.out (L4.out g e)) x5 g5
          have I5 : Hid _ := i5
          have rb5 := (g5.block RB (lt_of_block RB4.out) (fun e9 => HRX.out (Option.some.inj e9))).trans RB4.out
          have RB5 : Hid _ := rb5
          have l9 := i5.o0
          have f0 : y5.cell? ⟨RB, 0, none⟩ = some (.int .i64 2) := rcbox rb5 0 _ rfl
          have f1 : y5.cell? ⟨RB, 1, none⟩ = some (.int .i64 0) := rcbox rb5 1 _ rfl
          have f2 : y5.cell? ⟨RB, 2, none⟩ = some (.int .i64 x.slot) := rcbox rb5 2 _ rfl
          have f3 : y5.cell? ⟨RB, 3, none⟩ = some (.int .i64 x.ballot) := rcbox rb5 3 _ rfl
          have f4 : y5.cell? ⟨RB, 4, none⟩ = some (.int .i64 x.cmd.kind) := rcbox rb5 4 _ rfl
          have f5 : y5.cell? ⟨RB, 5, none⟩ = some (.int .i64 x.cmd.session) := rcbox rb5 5 _ rfl
          have f6 : y5.cell? ⟨RB, 6, none⟩ = some (.int .i64 x.cmd.seq) := rcbox rb5 6 _ rfl
          have f7 : y5.cell? ⟨RB, 7, none⟩ = some (.string x.cmd.name) := rcbox rb5 7 _ rfl
          have f8 : y5.cell? ⟨RB, 8, none⟩ = some (.int .i64 x.cmd.n) := rcbox rb5 8 _ rfl
          clear hy5 g5 x5 i5 rb5
          refine hK.out _ _ ?_ (fun hHeld => ?_)
          · try dsimp only
            go_keep
          clear hK K
          refine wpAnyH_done (by kernel_rfl) ?_ _
          have sz5 := I5.out.kept.size
          go_upto_region 10 with (at_builtin; refine wpList_app_row (k := 9) (enc := rcC) (l := [accR x]) rfl (.tmp 77) (.tmp 79) 39 65 rfl i0 _ 80 Try.underlying39 hi hz0 hz1 hz2 rfl (by decide) rcC_len rcC_ones (base := w.heap.size) rfl rfl (World.ownsRow.alloc I5.out.own _) (RowAt.built (heap_alloc_new _ _) rfl 1 rfl rfl) (by simp; omega) (by simp; omega) (by simp; omega) ?_; intro u6 y6 o6 a6; obtain ⟨p6, n6, q6, rfl⟩ := own_form o6; have j6 := I5.out.grow o6 a6 (by omega); have z6 := j6.1; have y6f := j6.2.1; have J6 : Hid _ := j6.2.2; clear o6 a6 j6)
          have i7 := J6.out
          obtain ⟨y7, hy7⟩ : ∃ y, y = y6.setCell ⟨OB, 0, none⟩ (.slice p6 n6 q6) := ⟨_, rfl⟩
          rw [← hy7] at i7
          have HY7 : Hid (y6.setCell ⟨OB, 0, none⟩ (.slice p6 n6 q6) = y7) := hy7.symm
          rw [HY7.out]
          clear hy7 HY7 z6 y6f
          have i9 := i7
          have g0 := i9.o0
          have g1 := i9.o1
          have g2 := i9.o2
          have g3 := i9.o3
          have I9 : Hid _ := i9
          clear i9
          go_wp2_with (show wpList _ _ _ (⟨_, Op.store 42 _ _, _, _, _, _⟩ :: _) _ _; refine store_row_g rfl 42 _ _ rfl (w.heap.size + 1) (outA (.slice p6 n6 q6)) rfl rfl 42 _ I9.out.res sizeOut rfl (by simp [Value.oneCell']) ?_; intro w6 h6 g6)
          refine bodyPost_ret (results_two Try.results16 _ _ (w.heap.size + 1) _ rfl (load_out h6)) rfl ?_
          exact racc_end I9.out HE.out g6
      | true =>
        have hf : findE d.es e.slot = some o := by have h1 := HO.out.2.1; have h2 := HO.out.1; cases hq : findE d.es e.slot with
          | none => rw [hq] at h1; cases h1
          | some z => rw [hq] at h2; rw [h2]; rfl
        have hee := ent_eql o x
        cases hq : eqE o x with
        | true =>
          rw [hq] at hee
          have HE : Hid (accD d b e = ⟨D, R, true⟩) := by show _ = _; rw [HD.out, HR.out]; exact acc_leave HN.out (fun h9 => by have h8 := h9.2; rw [hf, ← HO.out.2.2] at h8; have h7 : eqE o x = false := h8; rw [hq] at h7; cases h7)
          clear hf hq hDb
          refine wp_region_held_drew (S := (fun y : World => y.cell? ⟨w.heap.size, 0, none⟩ = some (.int .i64 e.slot) ∧ y.cell? ⟨X, 1, none⟩ = some (.int .i64 D.b) ∧ y.cell? ⟨EB, 0, none⟩ = some (.int .i64 o.slot) ∧ y.cell? ⟨EB, 1, none⟩ = some (.int .i64 o.ballot) ∧ y.cell? ⟨EB, 2, none⟩ = some (.int .i64 o.cmd.kind) ∧ y.cell? ⟨EB, 3, none⟩ = some (.int .i64 o.cmd.session) ∧ y.cell? ⟨EB, 4, none⟩ = some (.int .i64 o.cmd.seq) ∧ y.cell? ⟨EB, 5, none⟩ = some (.string o.cmd.name) ∧ y.cell? ⟨EB, 6, none⟩ = some (.int .i64 o.cmd.n) ∧ y.cell? ⟨XB, 0, none⟩ = some (.int .i64 x.slot) ∧ y.cell? ⟨XB, 1, none⟩ = some (.int .i64 x.ballot) ∧ y.cell? ⟨XB, 2, none⟩ = some (.int .i64 x.cmd.kind) ∧ y.cell? ⟨XB, 3, none⟩ = some (.int .i64 x.cmd.session) ∧ y.cell? ⟨XB, 4, none⟩ = some (.int .i64 x.cmd.seq) ∧ y.cell? ⟨XB, 5, none⟩ = some (.string x.cmd.name) ∧ y.cell? ⟨XB, 6, none⟩ = some (.int .i64 x.cmd.n))) (by kernel_rfl) ?_ (fun hHeld0 => ?_)
          · try dsimp only
            go_keep
          refine tk0 (.pointer (some ⟨w.heap.size, 0, none⟩)) (by kernel_rfl) (by kernel_rfl) (by kernel_rfl) (fun _ _ _ h => h) rfl (fun w hSw => by (try dsimp only at hSw); obtain ⟨s0, s1, a0, a1, a2, a3, a4, a5, a6, b0, b1, b2, b3, b4, b5, b6⟩ := hSw; go_simp) (by assumption) ?_
          try simp only [Act.put, List.setIfInBounds_toArray, List.set_cons_zero, List.set_cons_succ]
          refine tk1 (.int .i64 e.slot) (by kernel_rfl) (by kernel_rfl) (by kernel_rfl) (fun _ _ _ h => h) rfl (fun w hSw => by (try dsimp only at hSw); obtain ⟨s0, s1, a0, a1, a2, a3, a4, a5, a6, b0, b1, b2, b3, b4, b5, b6⟩ := hSw; go_simp) (by assumption) ?_
          try simp only [Act.put, List.setIfInBounds_toArray, List.set_cons_zero, List.set_cons_succ]
          refine tk2 (.pointer (some ⟨X, 0, none⟩)) (by kernel_rfl) (by kernel_rfl) (by kernel_rfl) (fun _ _ _ h => h) rfl (fun w hSw => by (try dsimp only at hSw); obtain ⟨s0, s1, a0, a1, a2, a3, a4, a5, a6, b0, b1, b2, b3, b4, b5, b6⟩ := hSw; go_simp) (by assumption) ?_
          try simp only [Act.put, List.setIfInBounds_toArray, List.set_cons_zero, List.set_cons_succ]
          refine tk3 (.pointer (some ⟨X, 0, none⟩)) (by kernel_rfl) (by kernel_rfl) (by kernel_rfl) (fun _ _ _ h => h) rfl (fun w hSw => by (try dsimp only at hSw); obtain ⟨s0, s1, a0, a1, a2, a3, a4, a5, a6, b0, b1, b2, b3, b4, b5, b6⟩ := hSw; go_simp) (by assumption) ?_
          try simp only [Act.put, List.setIfInBounds_toArray, List.set_cons_zero, List.set_cons_succ]
          refine tk4 (.pointer (some ⟨X, 0, none⟩)) (by kernel_rfl) (by kernel_rfl) (by kernel_rfl) (fun _ _ _ h => h) rfl (fun w hSw => by (try dsimp only at hSw); obtain ⟨s0, s1, a0, a1, a2, a3, a4, a5, a6, b0, b1, b2, b3, b4, b5, b6⟩ := hSw; go_simp) (by assumption) ?_
          try simp only [Act.put, List.setIfInBounds_toArray, List.set_cons_zero, List.set_cons_succ]
          refine tk5 (.pointer (some ⟨X, 1, none⟩)) (by kernel_rfl) (by kernel_rfl) (by kernel_rfl) (fun _ _ _ h => h) rfl (fun w hSw => by (try dsimp only at hSw); obtain ⟨s0, s1, a0, a1, a2, a3, a4, a5, a6, b0, b1, b2, b3, b4, b5, b6⟩ := hSw; go_simp) (by assumption) ?_
          try simp only [Act.put, List.setIfInBounds_toArray, List.set_cons_zero, List.set_cons_succ]
          refine tk6 (.int .i64 D.b) (by kernel_rfl) (by kernel_rfl) (by kernel_rfl) (fun _ _ _ h => h) rfl (fun w hSw => by (try dsimp only at hSw); obtain ⟨s0, s1, a0, a1, a2, a3, a4, a5, a6, b0, b1, b2, b3, b4, b5, b6⟩ := hSw; go_simp) (by assumption) ?_
          try simp only [Act.put, List.setIfInBounds_toArray, List.set_cons_zero, List.set_cons_succ]
          refine tk7 (.bool true) (by kernel_rfl) (by kernel_rfl) (by kernel_rfl) (fun _ _ _ h => h) rfl (fun w hSw => by (try dsimp only at hSw); obtain ⟨s0, s1, a0, a1, a2, a3, a4, a5, a6, b0, b1, b2, b3, b4, b5, b6⟩ := hSw; go_simp) (by assumption) ?_
          try simp only [Act.put, List.setIfInBounds_toArray, List.set_cons_zero, List.set_cons_succ]
          refine tk8 (.bool true) (by kernel_rfl) (by kernel_rfl) (by kernel_rfl) (fun _ _ _ h => h) rfl (fun w hSw => by (try dsimp only at hSw); obtain ⟨s0, s1, a0, a1, a2, a3, a4, a5, a6, b0, b1, b2, b3, b4, b5, b6⟩ := hSw; go_simp) (by assumption) ?_
          try simp only [Act.put, List.setIfInBounds_toArray, List.set_cons_zero, List.set_cons_succ]
          refine tk9 (.bool true) (by kernel_rfl) (by kernel_rfl) (by kernel_rfl) (fun _ _ _ h => h) rfl (fun w hSw => by (try dsimp only at hSw); obtain ⟨s0, s1, a0, a1, a2, a3, a4, a5, a6, b0, b1, b2, b3, b4, b5, b6⟩ := hSw; go_simp) (by assumption) ?_
          try simp only [Act.put, List.setIfInBounds_toArray, List.set_cons_zero, List.set_cons_succ]
          refine tk10 (.bool true) (by kernel_rfl) (by kernel_rfl) (by kernel_rfl) (fun _ _ _ h => h) rfl (fun w hSw => by (try dsimp only at hSw); obtain ⟨s0, s1, a0, a1, a2, a3, a4, a5, a6, b0, b1, b2, b3, b4, b5, b6⟩ := hSw; go_simp) (by assumption) ?_
          try simp only [Act.put, List.setIfInBounds_toArray, List.set_cons_zero, List.set_cons_succ]
          refine tk11 (.agg (enA o)) (by kernel_rfl) (by kernel_rfl) (by kernel_rfl) (fun _ _ _ h => h) rfl (fun w hSw => by (try dsimp only at hSw); obtain ⟨s0, s1, a0, a1, a2, a3, a4, a5, a6, b0, b1, b2, b3, b4, b5, b6⟩ := hSw; go_simp) (by assumption) ?_
          try simp only [Act.put, List.setIfInBounds_toArray, List.set_cons_zero, List.set_cons_succ]
          refine tk12 (.agg (enA x)) (by kernel_rfl) (by kernel_rfl) (by kernel_rfl) (fun _ _ _ h => h) rfl (fun w hSw => by (try dsimp only at hSw); obtain ⟨s0, s1, a0, a1, a2, a3, a4, a5, a6, b0, b1, b2, b3, b4, b5, b6⟩ := hSw; go_simp) (by assumption) ?_
          try simp only [Act.put, List.setIfInBounds_toArray, List.set_cons_zero, List.set_cons_succ]
          refine tk13 (.bool true) (by kernel_rfl) (by kernel_rfl) (by kernel_rfl) (fun _ _ _ h => h) rfl (fun w hSw => by (try dsimp only at hSw); obtain ⟨s0, s1, a0, a1, a2, a3, a4, a5, a6, b0, b1, b2, b3, b4, b5, b6⟩ := hSw; go_simp) (by assumption) ?_
          try simp only [Act.put, List.setIfInBounds_toArray, List.set_cons_zero, List.set_cons_succ]
          refine tk14 (.bool true) (by kernel_rfl) (by kernel_rfl) (by kernel_rfl) (fun _ _ _ h => h) rfl (fun w hSw => by (try dsimp only at hSw); obtain ⟨s0, s1, a0, a1, a2, a3, a4, a5, a6, b0, b1, b2, b3, b4, b5, b6⟩ := hSw; go_simp) (by assumption) ?_
          try simp only [Act.put, List.setIfInBounds_toArray, List.set_cons_zero, List.set_cons_succ]
          refine tk15 (.bool false) (by kernel_rfl) (by kernel_rfl) (by kernel_rfl) (fun _ _ _ h => h) rfl (fun w hSw => by (try dsimp only at hSw); obtain ⟨s0, s1, a0, a1, a2, a3, a4, a5, a6, b0, b1, b2, b3, b4, b5, b6⟩ := hSw; go_simp) (by assumption) ?_
          try simp only [Act.put, List.setIfInBounds_toArray, List.set_cons_zero, List.set_cons_succ]
          refine tk16 (.bool false) (by kernel_rfl) (by kernel_rfl) (by kernel_rfl) (fun _ _ _ h => h) rfl (fun w hSw => by (try dsimp only at hSw); obtain ⟨s0, s1, a0, a1, a2, a3, a4, a5, a6, b0, b1, b2, b3, b4, b5, b6⟩ := hSw; go_simp) (by assumption) ?_
          try simp only [Act.put, List.setIfInBounds_toArray, List.set_cons_zero, List.set_cons_succ]
          refine wpAnyH_done (by kernel_rfl) ?_ _
          have i9 := I1.out.drew
          have g0 := i9.o0
          have g1 := i9.o1
          have g2 := i9.o2
          have g3 := i9.o3
          have I9 : Hid _ := i9
          clear i9
          go_wp2_with (show wpList _ _ _ (⟨_, Op.store 42 _ _, _, _, _, _⟩ :: _) _ _; refine store_row_g rfl 42 _ _ rfl (w.heap.size + 1) (outA (.slice pu nu cu)) rfl rfl 42 _ I9.out.res sizeOut rfl (by simp [Value.oneCell']) ?_; intro w6 h6 g6)
          refine bodyPost_ret (results_two Try.results16 _ _ (w.heap.size + 1) _ rfl (load_out h6)) rfl ?_
          exact racc_end I9.out HE.out g6
        | false =>
          rw [hq] at hee
          have HE : Hid (accD d b e = ⟨foldD D [accR x], R ++ [accR x], true⟩) := by show _ = _; rw [HD.out, HR.out, HO.out.2.2]; exact acc_take HN.out ⟨hs, by rw [hf, ← HO.out.2.2]; exact hq⟩
          clear hf hq hDb
          refine wp_region_held_drew (S := (fun y : World => y.cell? ⟨w.heap.size, 0, none⟩ = some (.int .i64 e.slot) ∧ y.cell? ⟨X, 1, none⟩ = some (.int .i64 D.b) ∧ y.cell? ⟨EB, 0, none⟩ = some (.int .i64 o.slot) ∧ y.cell? ⟨EB, 1, none⟩ = some (.int .i64 o.ballot) ∧ y.cell? ⟨EB, 2, none⟩ = some (.int .i64 o.cmd.kind) ∧ y.cell? ⟨EB, 3, none⟩ = some (.int .i64 o.cmd.session) ∧ y.cell? ⟨EB, 4, none⟩ = some (.int .i64 o.cmd.seq) ∧ y.cell? ⟨EB, 5, none⟩ = some (.string o.cmd.name) ∧ y.cell? ⟨EB, 6, none⟩ = some (.int .i64 o.cmd.n) ∧ y.cell? ⟨XB, 0, none⟩ = some (.int .i64 x.slot) ∧ y.cell? ⟨XB, 1, none⟩ = some (.int .i64 x.ballot) ∧ y.cell? ⟨XB, 2, none⟩ = some (.int .i64 x.cmd.kind) ∧ y.cell? ⟨XB, 3, none⟩ = some (.int .i64 x.cmd.session) ∧ y.cell? ⟨XB, 4, none⟩ = some (.int .i64 x.cmd.seq) ∧ y.cell? ⟨XB, 5, none⟩ = some (.string x.cmd.name) ∧ y.cell? ⟨XB, 6, none⟩ = some (.int .i64 x.cmd.n))) (by kernel_rfl) ?_ (fun hHeld0 => ?_)
          · try dsimp only
            go_keep
          refine tk0 (.pointer (some ⟨w.heap.size, 0, none⟩)) (by kernel_rfl) (by kernel_rfl) (by kernel_rfl) (fun _ _ _ h => h) rfl (fun w hSw => by (try dsimp only at hSw); obtain ⟨s0, s1, a0, a1, a2, a3, a4, a5, a6, b0, b1, b2, b3, b4, b5, b6⟩ := hSw; go_simp) (by assumption) ?_
          try simp only [Act.put, List.setIfInBounds_toArray, List.set_cons_zero, List.set_cons_succ]
          refine tk1 (.int .i64 e.slot) (by kernel_rfl) (by kernel_rfl) (by kernel_rfl) (fun _ _ _ h => h) rfl (fun w hSw => by (try dsimp only at hSw); obtain ⟨s0, s1, a0, a1, a2, a3, a4, a5, a6, b0, b1, b2, b3, b4, b5, b6⟩ := hSw; go_simp) (by assumption) ?_
          try simp only [Act.put, List.setIfInBounds_toArray, List.set_cons_zero, List.set_cons_succ]
          refine tk2 (.pointer (some ⟨X, 0, none⟩)) (by kernel_rfl) (by kernel_rfl) (by kernel_rfl) (fun _ _ _ h => h) rfl (fun w hSw => by (try dsimp only at hSw); obtain ⟨s0, s1, a0, a1, a2, a3, a4, a5, a6, b0, b1, b2, b3, b4, b5, b6⟩ := hSw; go_simp) (by assumption) ?_
          try simp only [Act.put, List.setIfInBounds_toArray, List.set_cons_zero, List.set_cons_succ]
          refine tk3 (.pointer (some ⟨X, 0, none⟩)) (by kernel_rfl) (by kernel_rfl) (by kernel_rfl) (fun _ _ _ h => h) rfl (fun w hSw => by (try dsimp only at hSw); obtain ⟨s0, s1, a0, a1, a2, a3, a4, a5, a6, b0, b1, b2, b3, b4, b5, b6⟩ := hSw; go_simp) (by assumption) ?_
          try simp only [Act.put, List.setIfInBounds_toArray, List.set_cons_zero, List.set_cons_succ]
          refine tk4 (.pointer (some ⟨X, 0, none⟩)) (by kernel_rfl) (by kernel_rfl) (by kernel_rfl) (fun _ _ _ h => h) rfl (fun w hSw => by (try dsimp only at hSw); obtain ⟨s0, s1, a0, a1, a2, a3, a4, a5, a6, b0, b1, b2, b3, b4, b5, b6⟩ := hSw; go_simp) (by assumption) ?_
          try simp only [Act.put, List.setIfInBounds_toArray, List.set_cons_zero, List.set_cons_succ]
          refine tk5 (.pointer (some ⟨X, 1, none⟩)) (by kernel_rfl) (by kernel_rfl) (by kernel_rfl) (fun _ _ _ h => h) rfl (fun w hSw => by (try dsimp only at hSw); obtain ⟨s0, s1, a0, a1, a2, a3, a4, a5, a6, b0, b1, b2, b3, b4, b5, b6⟩ := hSw; go_simp) (by assumption) ?_
          try simp only [Act.put, List.setIfInBounds_toArray, List.set_cons_zero, List.set_cons_succ]
          refine tk6 (.int .i64 D.b) (by kernel_rfl) (by kernel_rfl) (by kernel_rfl) (fun _ _ _ h => h) rfl (fun w hSw => by (try dsimp only at hSw); obtain ⟨s0, s1, a0, a1, a2, a3, a4, a5, a6, b0, b1, b2, b3, b4, b5, b6⟩ := hSw; go_simp) (by assumption) ?_
          try simp only [Act.put, List.setIfInBounds_toArray, List.set_cons_zero, List.set_cons_succ]
          refine tk7 (.bool true) (by kernel_rfl) (by kernel_rfl) (by kernel_rfl) (fun _ _ _ h => h) rfl (fun w hSw => by (try dsimp only at hSw); obtain ⟨s0, s1, a0, a1, a2, a3, a4, a5, a6, b0, b1, b2, b3, b4, b5, b6⟩ := hSw; go_simp) (by assumption) ?_
          try simp only [Act.put, List.setIfInBounds_toArray, List.set_cons_zero, List.set_cons_succ]
          refine tk8 (.bool true) (by kernel_rfl) (by kernel_rfl) (by kernel_rfl) (fun _ _ _ h => h) rfl (fun w hSw => by (try dsimp only at hSw); obtain ⟨s0, s1, a0, a1, a2, a3, a4, a5, a6, b0, b1, b2, b3, b4, b5, b6⟩ := hSw; go_simp) (by assumption) ?_
          try simp only [Act.put, List.setIfInBounds_toArray, List.set_cons_zero, List.set_cons_succ]
          refine tk9 (.bool true) (by kernel_rfl) (by kernel_rfl) (by kernel_rfl) (fun _ _ _ h => h) rfl (fun w hSw => by (try dsimp only at hSw); obtain ⟨s0, s1, a0, a1, a2, a3, a4, a5, a6, b0, b1, b2, b3, b4, b5, b6⟩ := hSw; go_simp) (by assumption) ?_
          try simp only [Act.put, List.setIfInBounds_toArray, List.set_cons_zero, List.set_cons_succ]
          refine tk10 (.bool true) (by kernel_rfl) (by kernel_rfl) (by kernel_rfl) (fun _ _ _ h => h) rfl (fun w hSw => by (try dsimp only at hSw); obtain ⟨s0, s1, a0, a1, a2, a3, a4, a5, a6, b0, b1, b2, b3, b4, b5, b6⟩ := hSw; go_simp) (by assumption) ?_
          try simp only [Act.put, List.setIfInBounds_toArray, List.set_cons_zero, List.set_cons_succ]
          refine tk11 (.agg (enA o)) (by kernel_rfl) (by kernel_rfl) (by kernel_rfl) (fun _ _ _ h => h) rfl (fun w hSw => by (try dsimp only at hSw); obtain ⟨s0, s1, a0, a1, a2, a3, a4, a5, a6, b0, b1, b2, b3, b4, b5, b6⟩ := hSw; go_simp) (by assumption) ?_
          try simp only [Act.put, List.setIfInBounds_toArray, List.set_cons_zero, List.set_cons_succ]
          refine tk12 (.agg (enA x)) (by kernel_rfl) (by kernel_rfl) (by kernel_rfl) (fun _ _ _ h => h) rfl (fun w hSw => by (try dsimp only at hSw); obtain ⟨s0, s1, a0, a1, a2, a3, a4, a5, a6, b0, b1, b2, b3, b4, b5, b6⟩ := hSw; go_simp) (by assumption) ?_
          try simp only [Act.put, List.setIfInBounds_toArray, List.set_cons_zero, List.set_cons_succ]
          refine tk13 (.bool false) (by kernel_rfl) (by kernel_rfl) (by kernel_rfl) (fun _ _ _ h => h) rfl (fun w hSw => by (try dsimp only at hSw); obtain ⟨s0, s1, a0, a1, a2, a3, a4, a5, a6, b0, b1, b2, b3, b4, b5, b6⟩ := hSw; go_simp) (by assumption) ?_
          try simp only [Act.put, List.setIfInBounds_toArray, List.set_cons_zero, List.set_cons_succ]
          refine tk14 (.bool false) (by kernel_rfl) (by kernel_rfl) (by kernel_rfl) (fun _ _ _ h => h) rfl (fun w hSw => by (try dsimp only at hSw); obtain ⟨s0, s1, a0, a1, a2, a3, a4, a5, a6, b0, b1, b2, b3, b4, b5, b6⟩ := hSw; go_simp) (by assumption) ?_
          try simp only [Act.put, List.setIfInBounds_toArray, List.set_cons_zero, List.set_cons_succ]
          refine tk15 (.bool true) (by kernel_rfl) (by kernel_rfl) (by kernel_rfl) (fun _ _ _ h => h) rfl (fun w hSw => by (try dsimp only at hSw); obtain ⟨s0, s1, a0, a1, a2, a3, a4, a5, a6, b0, b1, b2, b3, b4, b5, b6⟩ := hSw; go_simp) (by assumption) ?_
          try simp only [Act.put, List.setIfInBounds_toArray, List.set_cons_zero, List.set_cons_succ]
          refine tk16 (.bool true) (by kernel_rfl) (by kernel_rfl) (by kernel_rfl) (fun _ _ _ h => h) rfl (fun w hSw => by (try dsimp only at hSw); obtain ⟨s0, s1, a0, a1, a2, a3, a4, a5, a6, b0, b1, b2, b3, b4, b5, b6⟩ := hSw; go_simp) (by assumption) ?_
          try simp only [Act.put, List.setIfInBounds_toArray, List.set_cons_zero, List.set_cons_succ]
          refine wpAnyH_done (by kernel_rfl) ?_ _
          have i1 := I1.out.drew
          have n0 := EnAt.box i1.xb 0 _ rfl
          have n1 := EnAt.box i1.xb 1 _ rfl
          have n2 := EnAt.box i1.xb 2 _ rfl
          have n3 := EnAt.box i1.xb 3 _ rfl
          have n4 := EnAt.box i1.xb 4 _ rfl
          have n5 := EnAt.box i1.xb 5 _ rfl
          have n6 := EnAt.box i1.xb 6 _ rfl
          have I1d : Hid _ := i1
          clear i1
          go_upto_region 8 with fail
          obtain ⟨y2, hy2⟩ : ∃ y, y = y1.drew.alloc (.cells #[.int .i64 2, .int .i64 0, .int .i64 x.slot, .int .i64 x.ballot, .int .i64 x.cmd.kind, .int .i64 x.cmd.session, .int .i64 x.cmd.seq, .string x.cmd.name, .int .i64 x.cmd.n] 65) := ⟨_, rfl⟩
          obtain ⟨RB, hRB⟩ : ∃ RB, RB = y1.heap.size := ⟨_, rfl⟩
          have t2 : Below y1.heap.size y1 y2 := by rw [hy2]; exact undrew ((Below.refl _ y1.drew).alloc (Nat.le_refl _) _)
          have i2 := I1.out.fresh t2
          have rb2 : y2.heap[RB]? = some (.cells (rcC (accR x)).toArray 65 (0, 0)) := by rw [hy2, hRB]; exact heap_alloc_new y1.drew _
          have I2 : Hid _ := i2
          have RB2 : Hid _ := rb2
          have HRX : Hid (RB ≠ X) := by show _ ≠ _; have := I1.out.pa.lt; omega
          have HY2 : Hid (y1.drew.alloc (.cells #[.int .i64 2, .int .i64 0, .int .i64 x.slot, .int .i64 x.ballot, .int .i64 x.cmd.kind, .int .i64 x.cmd.session, .int .i64 x.cmd.seq, .string x.cmd.name, .int .i64 x.cmd.n] 65) = y2) := hy2.symm
          have HY2' : Hid ((y1.alloc (.cells #[.int .i64 2, .int .i64 0, .int .i64 x.slot, .int .i64 x.ballot, .int .i64 x.cmd.kind, .int .i64 x.cmd.session, .int .i64 x.cmd.seq, .string x.cmd.name, .int .i64 x.cmd.n] 65)).drew = y2) := hy2.symm
          have HRB : Hid (y1.heap.size = RB) := hRB.symm
          first | rw [HY2.out, HRB.out] | rw [HY2'.out, HRB.out]
          have m0 := i2.pa.c0
          have m1 := i2.pa.c1
          have m2 := i2.pa.c2
          have m3 := i2.pa.c3
          have p0 : y2.cell? ⟨RB, 0, none⟩ = some (.int .i64 2) := rcbox rb2 0 _ rfl
          have p1 : y2.cell? ⟨RB, 1, none⟩ = some (.int .i64 0) := rcbox rb2 1 _ rfl
          have p2 : y2.cell? ⟨RB, 2, none⟩ = some (.int .i64 x.slot) := rcbox rb2 2 _ rfl
          have p3 : y2.cell? ⟨RB, 3, none⟩ = some (.int .i64 x.ballot) := rcbox rb2 3 _ rfl
          have p4 : y2.cell? ⟨RB, 4, none⟩ = some (.int .i64 x.cmd.kind) := rcbox rb2 4 _ rfl
          have p5 : y2.cell? ⟨RB, 5, none⟩ = some (.int .i64 x.cmd.session) := rcbox rb2 5 _ rfl
          have p6 : y2.cell? ⟨RB, 6, none⟩ = some (.int .i64 x.cmd.seq) := rcbox rb2 6 _ rfl
          have p7 : y2.cell? ⟨RB, 7, none⟩ = some (.string x.cmd.name) := rcbox rb2 7 _ rfl
          have p8 : y2.cell? ⟨RB, 8, none⟩ = some (.int .i64 x.cmd.n) := rcbox rb2 8 _ rfl
          clear hy2 hRB t2 i2 rb2 HY2 HY2' n0 n1 n2 n3 n4 n5 n6
          refine wp_region_held_drew (S := (fun y : World => y.cell? ⟨RB, 0, none⟩ = some (.int .i64 2) ∧ y.cell? ⟨RB, 1, none⟩ = some (.int .i64 0) ∧ y.cell? ⟨RB, 2, none⟩ = some (.int .i64 x.slot) ∧ y.cell? ⟨RB, 3, none⟩ = some (.int .i64 x.ballot) ∧ y.cell? ⟨RB, 4, none⟩ = some (.int .i64 x.cmd.kind) ∧ y.cell? ⟨RB, 5, none⟩ = some (.int .i64 x.cmd.session) ∧ y.cell? ⟨RB, 6, none⟩ = some (.int .i64 x.cmd.seq) ∧ y.cell? ⟨RB, 7, none⟩ = some (.string x.cmd.name) ∧ y.cell? ⟨RB, 8, none⟩ = some (.int .i64 x.cmd.n))) (by kernel_rfl) ?_ (fun hHeld0 => ?_)
          · try dsimp only
            go_keep
          refine tk0 (.pointer (some ⟨X, 0, none⟩)) (by kernel_rfl) (by kernel_rfl) (by kernel_rfl) (fun _ _ _ h => h) rfl (fun w hSw => by (try dsimp only at hSw); obtain ⟨a0, a1, a2, a3, a4, a5, a6, a7, a8⟩ := hSw; go_simp) (by assumption) ?_
          try simp only [Act.put, List.setIfInBounds_toArray, List.set_cons_zero, List.set_cons_succ]
          refine tk1 (.pointer (some ⟨X, 0, none⟩)) (by kernel_rfl) (by kernel_rfl) (by kernel_rfl) (fun _ _ _ h => h) rfl (fun w hSw => by (try dsimp only at hSw); obtain ⟨a0, a1, a2, a3, a4, a5, a6, a7, a8⟩ := hSw; go_simp) (by assumption) ?_
          try simp only [Act.put, List.setIfInBounds_toArray, List.set_cons_zero, List.set_cons_succ]
          refine tk2 (.pointer (some ⟨X, 0, none⟩)) (by kernel_rfl) (by kernel_rfl) (by kernel_rfl) (fun _ _ _ h => h) rfl (fun w hSw => by (try dsimp only at hSw); obtain ⟨a0, a1, a2, a3, a4, a5, a6, a7, a8⟩ := hSw; go_simp) (by assumption) ?_
          try simp only [Act.put, List.setIfInBounds_toArray, List.set_cons_zero, List.set_cons_succ]
          refine tk3 (.pointer (some ⟨X, 0, none⟩)) (by kernel_rfl) (by kernel_rfl) (by kernel_rfl) (fun _ _ _ h => h) rfl (fun w hSw => by (try dsimp only at hSw); obtain ⟨a0, a1, a2, a3, a4, a5, a6, a7, a8⟩ := hSw; go_simp) (by assumption) ?_
          try simp only [Act.put, List.setIfInBounds_toArray, List.set_cons_zero, List.set_cons_succ]
          refine tk5 (.agg #[.int .i64 2, .int .i64 0, .int .i64 x.slot, .int .i64 x.ballot, .int .i64 x.cmd.kind, .int .i64 x.cmd.session, .int .i64 x.cmd.seq, .string x.cmd.name, .int .i64 x.cmd.n]) (by kernel_rfl) (by kernel_rfl) (by kernel_rfl) (fun _ _ _ h => h) rfl (fun w hSw => by (try dsimp only at hSw); obtain ⟨a0, a1, a2, a3, a4, a5, a6, a7, a8⟩ := hSw; go_simp) (by assumption) ?_
          try simp only [Act.put, List.setIfInBounds_toArray, List.set_cons_zero, List.set_cons_succ]
          refine rd4_6 (by kernel_rfl) rfl rfl (fun K hK => ?_) (fun K hK => ?_)
          · go_simp
            refine hK.out _ _ ?_ (fun hHeld => ?_)
            · try dsimp only
              go_keep
            clear hK K
            try simp only [Act.put, List.setIfInBounds_toArray, List.set_cons_zero, List.set_cons_succ]
            refine cl6 (by kernel_rfl) rfl (fun K hK => ?_)
            go_simp
            obtain ⟨y3, hy3⟩ : ∃ y, y = y2.drew.alloc (.cells #[.int .i64 2, .int .i64 0, .int .i64 x.slot, .int .i64 x.ballot, .int .i64 x.cmd.kind, .int .i64 x.cmd.session, .int .i64 x.cmd.seq, .string x.cmd.name, .int .i64 x.cmd.n] 65) := ⟨_, rfl⟩
            have t3 : Below y2.heap.size y2 y3 := by rw [hy3]; exact undrew ((Below.refl _ y2.drew).alloc (Nat.le_refl _) _)
            have i3 := I2.out.fresh t3
            have rw3 : RowAt rcC y3 (.slice (some ⟨y2.heap.size, 0, none⟩) 1 1) [accR x] := by rw [hy3]; exact RowAt.built (heap_alloc_new y2.drew _) rfl 1 rfl rfl
            have rb3 := (t3.block RB (lt_of_block RB2.out)).trans RB2.out
            rw [show (y2.alloc (.cells #[.int .i64 2, .int .i64 0, .int .i64 x.slot, .int .i64 x.ballot, .int .i64 x.cmd.kind, .int .i64 x.cmd.session, .int .i64 x.cmd.seq, .string x.cmd.name, .int .i64 x.cmd.n] 65)).drew = y3 from hy3.symm]
            have I3 : Hid _ := i3
            have RW3 : Hid _ := rw3
            have RB3 : Hid _ := rb3
            have k0 := i3.pa.c0
            have k1 := i3.pa.c1
            have k2 := i3.pa.c2
            have k3 := i3.pa.c3
            have v0 : y3.cell? ⟨RB, 0, none⟩ = some (.int .i64 2) := rcbox rb3 0 _ rfl
            have v1 : y3.cell? ⟨RB, 1, none⟩ = some (.int .i64 0) := rcbox rb3 1 _ rfl
            have v2 : y3.cell? ⟨RB, 2, none⟩ = some (.int .i64 x.slot) := rcbox rb3 2 _ rfl
            have v3 : y3.cell? ⟨RB, 3, none⟩ = some (.int .i64 x.ballot) := rcbox rb3 3 _ rfl
            have v4 : y3.cell? ⟨RB, 4, none⟩ = some (.int .i64 x.cmd.kind) := rcbox rb3 4 _ rfl
            have v5 : y3.cell? ⟨RB, 5, none⟩ = some (.int .i64 x.cmd.session) := rcbox rb3 5 _ rfl
            have v6 : y3.cell? ⟨RB, 6, none⟩ = some (.int .i64 x.cmd.seq) := rcbox rb3 6 _ rfl
            have v7 : y3.cell? ⟨RB, 7, none⟩ = some (.string x.cmd.name) := rcbox rb3 7 _ rfl
            have v8 : y3.cell? ⟨RB, 8, none⟩ = some (.int .i64 x.cmd.n) := rcbox rb3 8 _ rfl
            clear hy3 t3 i3 rw3 rb3
            refine hK.out _ _ ?_ (fun hHeld => ?_)
            · try dsimp only
              go_keep
            clear hK K
            try simp only [Act.put, List.setIfInBounds_toArray, List.set_cons_zero, List.set_cons_succ]
            refine cl7 (by kernel_rfl) rfl (fun K hK => ?_)
            go_simp
            go_at_call 24
            refine (rfold_any y3 D _ _ [accR x] (OwnEn.row I3.out.pa.own) RW3.out hlD (by simp)).mono ?_
            rintro r y4 ⟨v4, rfl, o4, t4⟩
            obtain ⟨p4, n4, q4, rfl⟩ := own_form o4
            have i4 := I3.out.fresh t4
            have rb4 := (t4.block RB (lt_of_block RB3.out)).trans RB3.out
            have I4 : Hid _ := i4
            have RB4 : Hid _ := rb4
            have O4 : Hid (OwnEn y4 base (.slice p4 n4 q4) (foldD D [accR x]).es) := own_mono o4 (Nat.le_trans I3.out.pa.lo (Nat.le_of_lt I3.out.pa.lt))
            have L4 : Hid (∀ g, (Value.slice p4 n4 q4).ownBlock = some g → y3.heap.size ≤ g) := fun g e => (o4.lt g e).1
            have SZ4 : Hid (w.heap.size ≤ y3.heap.size) := I3.out.kept.size
            have u0 : y4.cell? ⟨RB, 0, none⟩ = some (.int .i64 2) := rcbox rb4 0 _ rfl
            have u1 : y4.cell? ⟨RB, 1, none⟩ = some (.int .i64 0) := rcbox rb4 1 _ rfl
            have u2 : y4.cell? ⟨RB, 2, none⟩ = some (.int .i64 x.slot) := rcbox rb4 2 _ rfl
            have u3 : y4.cell? ⟨RB, 3, none⟩ = some (.int .i64 x.ballot) := rcbox rb4 3 _ rfl
            have u4 : y4.cell? ⟨RB, 4, none⟩ = some (.int .i64 x.cmd.kind) := rcbox rb4 4 _ rfl
            have u5 : y4.cell? ⟨RB, 5, none⟩ = some (.int .i64 x.cmd.session) := rcbox rb4 5 _ rfl
            have u6 : y4.cell? ⟨RB, 6, none⟩ = some (.int .i64 x.cmd.seq) := rcbox rb4 6 _ rfl
            have u7 : y4.cell? ⟨RB, 7, none⟩ = some (.string x.cmd.name) := rcbox rb4 7 _ rfl
            have u8 : y4.cell? ⟨RB, 8, none⟩ = some (.int .i64 x.cmd.n) := rcbox rb4 8 _ rfl
            clear i4 rb4 o4 t4
            refine hK.out _ _ ?_ (fun hHeld => ?_)
            · try dsimp only
              go_keep
            clear hK K
            try simp only [Act.put, List.setIfInBounds_toArray, List.set_cons_zero, List.set_cons_succ]
            refine tk8 (.pointer (some ⟨X, 0, none⟩)) (by kernel_rfl) (by kernel_rfl) (by kernel_rfl) (fun _ _ _ h => h) rfl (fun w hSw => by (try dsimp only at hSw); obtain ⟨a0, a1, a2, a3, a4, a5, a6, a7, a8⟩ := hSw; go_simp) (by assumption) ?_
            try simp only [Act.put, List.setIfInBounds_toArray, List.set_cons_zero, List.set_cons_succ]
            refine tk9 (.pointer (some ⟨X, 0, none⟩)) (by kernel_rfl) (by kernel_rfl) (by kernel_rfl) (fun _ _ _ h => h) rfl (fun w hSw => by (try dsimp only at hSw); obtain ⟨a0, a1, a2, a3, a4, a5, a6, a7, a8⟩ := hSw; go_simp) (by assumption) ?_
            try simp only [Act.put, List.setIfInBounds_toArray, List.set_cons_zero, List.set_cons_succ]
            refine cl10 (by kernel_rfl) rfl (fun K hK => ?_)
            refine wp_store_row 24 _ _ rfl X (duA (foldD D [accR x]) (.slice p4 n4 q4)) rfl rfl 63 _ I4.out.pa.blk sizeDu rfl (by simp [Value.oneCell']) ?_
            obtain ⟨y5, hy5⟩ : ∃ y, y = y4.setRow X (duA (foldD D [accR x]) (.slice p4 n4 q4)) := ⟨_, rfl⟩
            have g5 : y4.grownBy y5 (some X) := by rw [hy5]; exact grown_setRow_g _ _ _
            have x5 : y5.heap[X]? = some (.cells (duA (foldD D [accR x]) (.slice p4 n4 q4)) 63 (0, 0)) := by rw [hy5]; exact setRow_heap _ X _ _ _ _ I4.out.pa.blk
            rw [← hy5]
            have i5 := I4.out.folded O4.out (fun g e => Nat.le_trans SZ4.out (L4.out g e)) x5 g5
            have I5 : Hid _ := i5
            have rb5 := (g5.block RB (lt_of_block RB4.out) (fun e9 => HRX.out (Option.some.inj e9))).trans RB4.out
            have RB5 : Hid _ := rb5
            have l9 := i5.o0
            have f0 : y5.cell? ⟨RB, 0, none⟩ = some (.int .i64 2) := rcbox rb5 0 _ rfl
            have f1 : y5.cell? ⟨RB, 1, none⟩ = some (.int .i64 0) := rcbox rb5 1 _ rfl
            have f2 : y5.cell? ⟨RB, 2, none⟩ = some (.int .i64 x.slot) := rcbox rb5 2 _ rfl
            have f3 : y5.cell? ⟨RB, 3, none⟩ = some (.int .i64 x.ballot) := rcbox rb5 3 _ rfl
            have f4 : y5.cell? ⟨RB, 4, none⟩ = some (.int .i64 x.cmd.kind) := rcbox rb5 4 _ rfl
            have f5 : y5.cell? ⟨RB, 5, none⟩ = some (.int .i64 x.cmd.session) := rcbox rb5 5 _ rfl
            have f6 : y5.cell? ⟨RB, 6, none⟩ = some (.int .i64 x.cmd.seq) := rcbox rb5 6 _ rfl
            have f7 : y5.cell? ⟨RB, 7, none⟩ = some (.string x.cmd.name) := rcbox rb5 7 _ rfl
            have f8 : y5.cell? ⟨RB, 8, none⟩ = some (.int .i64 x.cmd.n) := rcbox rb5 8 _ rfl
            clear hy5 g5 x5 i5 rb5
            refine hK.out _ _ ?_ (fun hHeld => ?_)
            · try dsimp only
              go_keep
            clear hK K
            refine wpAnyH_done (by kernel_rfl) ?_ _
            have sz5 := I5.out.kept.size
            go_upto_region 10 with (at_builtin; refine wpList_app_row (k := 9) (enc := rcC) (l := [accR x]) rfl (.tmp 77) (.tmp 79) 39 65 rfl i0 _ 80 Try.underlying39 hi hz0 hz1 hz2 rfl (by decide) rcC_len rcC_ones (base := w.heap.size) rfl rfl (World.ownsRow.alloc I5.out.own _) (RowAt.built (heap_alloc_new _ _) rfl 1 rfl rfl) (by simp; omega) (by simp; omega) (by simp; omega) ?_; intro u6 y6 o6 a6; obtain ⟨p6, n6, q6, rfl⟩ := own_form o6; have j6 := I5.out.grow o6 a6 (by omega); have z6 := j6.1; have y6f := j6.2.1; have J6 : Hid _ := j6.2.2; clear o6 a6 j6)
            have i7 := J6.out
            obtain ⟨y7, hy7⟩ : ∃ y, y = y6.setCell ⟨OB, 0, none⟩ (.slice p6 n6 q6) := ⟨_, rfl⟩
            rw [← hy7] at i7
            have HY7 : Hid (y6.setCell ⟨OB, 0, none⟩ (.slice p6 n6 q6) = y7) := hy7.symm
            rw [HY7.out]
            clear hy7 HY7 z6 y6f
            have i9 := i7
            have g0 := i9.o0
            have g1 := i9.o1
            have g2 := i9.o2
            have g3 := i9.o3
            have I9 : Hid _ := i9
            clear i9
            go_wp2_with (show wpList _ _ _ (⟨_, Op.store 42 _ _, _, _, _, _⟩ :: _) _ _; refine store_row_g rfl 42 _ _ rfl (w.heap.size + 1) (outA (.slice p6 n6 q6)) rfl rfl 42 _ I9.out.res sizeOut rfl (by simp [Value.oneCell']) ?_; intro w6 h6 g6)
            refine bodyPost_ret (results_two Try.results16 _ _ (w.heap.size + 1) _ rfl (load_out h6)) rfl ?_
            exact racc_end I9.out HE.out g6
          · go_simp
            obtain ⟨y3, hy3⟩ : ∃ y, y = y2.drew.alloc (.cells #[.int .i64 2, .int .i64 0, .int .i64 x.slot, .int .i64 x.ballot, .int .i64 x.cmd.kind, .int .i64 x.cmd.session, .int .i64 x.cmd.seq, .string x.cmd.name, .int .i64 x.cmd.n] 65) := ⟨_, rfl⟩
            have t3 : Below y2.heap.size y2 y3 := by rw [hy3]; exact undrew ((Below.refl _ y2.drew).alloc (Nat.le_refl _) _)
            have i3 := I2.out.fresh t3
            have rw3 : RowAt rcC y3 (.slice (some ⟨y2.heap.size, 0, none⟩) 1 1) [accR x] := by rw [hy3]; exact RowAt.built (heap_alloc_new y2.drew _) rfl 1 rfl rfl
            have rb3 := (t3.block RB (lt_of_block RB2.out)).trans RB2.out
            rw [show (y2.alloc (.cells #[.int .i64 2, .int .i64 0, .int .i64 x.slot, .int .i64 x.ballot, .int .i64 x.cmd.kind, .int .i64 x.cmd.session, .int .i64 x.cmd.seq, .string x.cmd.name, .int .i64 x.cmd.n] 65)).drew = y3 from hy3.symm]
            have I3 : Hid _ := i3
            have RW3 : Hid _ := rw3
            have RB3 : Hid _ := rb3
            have k0 := i3.pa.c0
            have k1 := i3.pa.c1
            have k2 := i3.pa.c2
            have k3 := i3.pa.c3
            have v0 : y3.cell? ⟨RB, 0, none⟩ = some (.int .i64 2) := rcbox rb3 0 _ rfl
            have v1 : y3.cell? ⟨RB, 1, none⟩ = some (.int .i64 0) := rcbox rb3 1 _ rfl
            have v2 : y3.cell? ⟨RB, 2, none⟩ = some (.int .i64 x.slot) := rcbox rb3 2 _ rfl
            have v3 : y3.cell? ⟨RB, 3, none⟩ = some (.int .i64 x.ballot) := rcbox rb3 3 _ rfl
            have v4 : y3.cell? ⟨RB, 4, none⟩ = some (.int .i64 x.cmd.kind) := rcbox rb3 4 _ rfl
            have v5 : y3.cell? ⟨RB, 5, none⟩ = some (.int .i64 x.cmd.session) := rcbox rb3 5 _ rfl
            have v6 : y3.cell? ⟨RB, 6, none⟩ = some (.int .i64 x.cmd.seq) := rcbox rb3 6 _ rfl
            have v7 : y3.cell? ⟨RB, 7, none⟩ = some (.string x.cmd.name) := rcbox rb3 7 _ rfl
            have v8 : y3.cell? ⟨RB, 8, none⟩ = some (.int .i64 x.cmd.n) := rcbox rb3 8 _ rfl
            clear hy3 t3 i3 rw3 rb3
            refine hK.out _ _ ?_ (fun hHeld => ?_)
            · try dsimp only
              go_keep
            clear hK K
            try simp only [Act.put, List.setIfInBounds_toArray, List.set_cons_zero, List.set_cons_succ]
            refine cl4 (by kernel_rfl) rfl (fun K hK => ?_)
            go_simp
            refine hK.out _ _ ?_ (fun hHeld => ?_)
            · try dsimp only
              go_keep
            clear hK K
            try simp only [Act.put, List.setIfInBounds_toArray, List.set_cons_zero, List.set_cons_succ]
            refine cl7 (by kernel_rfl) rfl (fun K hK => ?_)
            go_simp
            go_at_call 24
            refine (rfold_any y3 D _ _ [accR x] (OwnEn.row I3.out.pa.own) RW3.out hlD (by simp)).mono ?_
            rintro r y4 ⟨v4, rfl, o4, t4⟩
            obtain ⟨p4, n4, q4, rfl⟩ := own_form o4
            have i4 := I3.out.fresh t4
            have rb4 := (t4.block RB (lt_of_block RB3.out)).trans RB3.out
            have I4 : Hid _ := i4
            have RB4 : Hid _ := rb4
            have O4 : Hid (OwnEn y4 base (.slice p4 n4 q4) (foldD D [accR x]).es) := own_mono o4 (Nat.le_trans I3.out.pa.lo (Nat.le_of_lt I3.out.pa.lt))
            have L4 : Hid (∀ g, (Value.slice p4 n4 q4).ownBlock = some g → y3.heap.size ≤ g) := fun g e => (o4.lt g e).1
            have SZ4 : Hid (w.heap.size ≤ y3.heap.size) := I3.out.kept.size
            have u0 : y4.cell? ⟨RB, 0, none⟩ = some (.int .i64 2) := rcbox rb4 0 _ rfl
            have u1 : y4.cell? ⟨RB, 1, none⟩ = some (.int .i64 0) := rcbox rb4 1 _ rfl
            have u2 : y4.cell? ⟨RB, 2, none⟩ = some (.int .i64 x.slot) := rcbox rb4 2 _ rfl
            have u3 : y4.cell? ⟨RB, 3, none⟩ = some (.int .i64 x.ballot) := rcbox rb4 3 _ rfl
            have u4 : y4.cell? ⟨RB, 4, none⟩ = some (.int .i64 x.cmd.kind) := rcbox rb4 4 _ rfl
            have u5 : y4.cell? ⟨RB, 5, none⟩ = some (.int .i64 x.cmd.session) := rcbox rb4 5 _ rfl
            have u6 : y4.cell? ⟨RB, 6, none⟩ = some (.int .i64 x.cmd.seq) := rcbox rb4 6 _ rfl
            have u7 : y4.cell? ⟨RB, 7, none⟩ = some (.string x.cmd.name) := rcbox rb4 7 _ rfl
            have u8 : y4.cell? ⟨RB, 8, none⟩ = some (.int .i64 x.cmd.n) := rcbox rb4 8 _ rfl
            clear i4 rb4 o4 t4
            refine hK.out _ _ ?_ (fun hHeld => ?_)
            · try dsimp only
              go_keep
            clear hK K
            try simp only [Act.put, List.setIfInBounds_toArray, List.set_cons_zero, List.set_cons_succ]
            refine tk8 (.pointer (some ⟨X, 0, none⟩)) (by kernel_rfl) (by kernel_rfl) (by kernel_rfl) (fun _ _ _ h => h) rfl (fun w hSw => by (try dsimp only at hSw); obtain ⟨a0, a1, a2, a3, a4, a5, a6, a7, a8⟩ := hSw; go_simp) (by assumption) ?_
            try simp only [Act.put, List.setIfInBounds_toArray, List.set_cons_zero, List.set_cons_succ]
            refine tk9 (.pointer (some ⟨X, 0, none⟩)) (by kernel_rfl) (by kernel_rfl) (by kernel_rfl) (fun _ _ _ h => h) rfl (fun w hSw => by (try dsimp only at hSw); obtain ⟨a0, a1, a2, a3, a4, a5, a6, a7, a8⟩ := hSw; go_simp) (by assumption) ?_
            try simp only [Act.put, List.setIfInBounds_toArray, List.set_cons_zero, List.set_cons_succ]
            refine cl10 (by kernel_rfl) rfl (fun K hK => ?_)
            refine wp_store_row 24 _ _ rfl X (duA (foldD D [accR x]) (.slice p4 n4 q4)) rfl rfl 63 _ I4.out.pa.blk sizeDu rfl (by simp [Value.oneCell']) ?_
            obtain ⟨y5, hy5⟩ : ∃ y, y = y4.setRow X (duA (foldD D [accR x]) (.slice p4 n4 q4)) := ⟨_, rfl⟩
            have g5 : y4.grownBy y5 (some X) := by rw [hy5]; exact grown_setRow_g _ _ _
            have x5 : y5.heap[X]? = some (.cells (duA (foldD D [accR x]) (.slice p4 n4 q4)) 63 (0, 0)) := by rw [hy5]; exact setRow_heap _ X _ _ _ _ I4.out.pa.blk
            rw [← hy5]
            have i5 := I4.out.folded O4.out (fun g e => Nat.le_trans SZ4.out (L4.out g e)) x5 g5
            have I5 : Hid _ := i5
            have rb5 := (g5.block RB (lt_of_block RB4.out) (fun e9 => HRX.out (Option.some.inj e9))).trans RB4.out
            have RB5 : Hid _ := rb5
            have l9 := i5.o0
            have f0 : y5.cell? ⟨RB, 0, none⟩ = some (.int .i64 2) := rcbox rb5 0 _ rfl
            have f1 : y5.cell? ⟨RB, 1, none⟩ = some (.int .i64 0) := rcbox rb5 1 _ rfl
            have f2 : y5.cell? ⟨RB, 2, none⟩ = some (.int .i64 x.slot) := rcbox rb5 2 _ rfl
            have f3 : y5.cell? ⟨RB, 3, none⟩ = some (.int .i64 x.ballot) := rcbox rb5 3 _ rfl
            have f4 : y5.cell? ⟨RB, 4, none⟩ = some (.int .i64 x.cmd.kind) := rcbox rb5 4 _ rfl
            have f5 : y5.cell? ⟨RB, 5, none⟩ = some (.int .i64 x.cmd.session) := rcbox rb5 5 _ rfl
            have f6 : y5.cell? ⟨RB, 6, none⟩ = some (.int .i64 x.cmd.seq) := rcbox rb5 6 _ rfl
            have f7 : y5.cell? ⟨RB, 7, none⟩ = some (.string x.cmd.name) := rcbox rb5 7 _ rfl
            have f8 : y5.cell? ⟨RB, 8, none⟩ = some (.int .i64 x.cmd.n) := rcbox rb5 8 _ rfl
            clear hy5 g5 x5 i5 rb5
            refine hK.out _ _ ?_ (fun hHeld => ?_)
            · try dsimp only
              go_keep
            clear hK K
            refine wpAnyH_done (by kernel_rfl) ?_ _
            have sz5 := I5.out.kept.size
            go_upto_region 10 with (at_builtin; refine wpList_app_row (k := 9) (enc := rcC) (l := [accR x]) rfl (.tmp 77) (.tmp 79) 39 65 rfl i0 _ 80 Try.underlying39 hi hz0 hz1 hz2 rfl (by decide) rcC_len rcC_ones (base := w.heap.size) rfl rfl (World.ownsRow.alloc I5.out.own _) (RowAt.built (heap_alloc_new _ _) rfl 1 rfl rfl) (by simp; omega) (by simp; omega) (by simp; omega) ?_; intro u6 y6 o6 a6; obtain ⟨p6, n6, q6, rfl⟩ := own_form o6; have j6 := I5.out.grow o6 a6 (by omega); have z6 := j6.1; have y6f := j6.2.1; have J6 : Hid _ := j6.2.2; clear o6 a6 j6)
            have i7 := J6.out
            obtain ⟨y7, hy7⟩ : ∃ y, y = y6.setCell ⟨OB, 0, none⟩ (.slice p6 n6 q6) := ⟨_, rfl⟩
            rw [← hy7] at i7
            have HY7 : Hid (y6.setCell ⟨OB, 0, none⟩ (.slice p6 n6 q6) = y7) := hy7.symm
            rw [HY7.out]
            clear hy7 HY7 z6 y6f
            have i9 := i7
            have g0 := i9.o0
            have g1 := i9.o1
            have g2 := i9.o2
            have g3 := i9.o3
            have I9 : Hid _ := i9
            clear i9
            go_wp2_with (show wpList _ _ _ (⟨_, Op.store 42 _ _, _, _, _, _⟩ :: _) _ _; refine store_row_g rfl 42 _ _ rfl (w.heap.size + 1) (outA (.slice p6 n6 q6)) rfl rfl 42 _ I9.out.res sizeOut rfl (by simp [Value.oneCell']) ?_; intro w6 h6 g6)
            refine bodyPost_ret (results_two Try.results16 _ _ (w.heap.size + 1) _ rfl (load_out h6)) rfl ?_
            exact racc_end I9.out HE.out g6
    · have t4 : decide (D.b < e.slot) = false := decide_eq_false (by rw [hDb]; exact hs)
      have HE : Hid (accD d b e = ⟨D, R, true⟩) := by show _ = _; rw [HD.out, HR.out]; exact acc_leave HN.out (fun h9 => hs h9.1)
      clear hDb
      refine wp_region_held_drew (S := (fun y : World => y.cell? ⟨w.heap.size, 0, none⟩ = some (.int .i64 e.slot) ∧ y.cell? ⟨X, 1, none⟩ = some (.int .i64 D.b) ∧ y.cell? ⟨EB, 0, none⟩ = some (.int .i64 o.slot) ∧ y.cell? ⟨EB, 1, none⟩ = some (.int .i64 o.ballot) ∧ y.cell? ⟨EB, 2, none⟩ = some (.int .i64 o.cmd.kind) ∧ y.cell? ⟨EB, 3, none⟩ = some (.int .i64 o.cmd.session) ∧ y.cell? ⟨EB, 4, none⟩ = some (.int .i64 o.cmd.seq) ∧ y.cell? ⟨EB, 5, none⟩ = some (.string o.cmd.name) ∧ y.cell? ⟨EB, 6, none⟩ = some (.int .i64 o.cmd.n) ∧ y.cell? ⟨XB, 0, none⟩ = some (.int .i64 x.slot) ∧ y.cell? ⟨XB, 1, none⟩ = some (.int .i64 x.ballot) ∧ y.cell? ⟨XB, 2, none⟩ = some (.int .i64 x.cmd.kind) ∧ y.cell? ⟨XB, 3, none⟩ = some (.int .i64 x.cmd.session) ∧ y.cell? ⟨XB, 4, none⟩ = some (.int .i64 x.cmd.seq) ∧ y.cell? ⟨XB, 5, none⟩ = some (.string x.cmd.name) ∧ y.cell? ⟨XB, 6, none⟩ = some (.int .i64 x.cmd.n))) (by kernel_rfl) ?_ (fun hHeld0 => ?_)
      · try dsimp only
        go_keep
      refine tk0 (.pointer (some ⟨w.heap.size, 0, none⟩)) (by kernel_rfl) (by kernel_rfl) (by kernel_rfl) (fun _ _ _ h => h) rfl (fun w hSw => by (try dsimp only at hSw); obtain ⟨s0, s1, a0, a1, a2, a3, a4, a5, a6, b0, b1, b2, b3, b4, b5, b6⟩ := hSw; go_simp) (by assumption) ?_
      try simp only [Act.put, List.setIfInBounds_toArray, List.set_cons_zero, List.set_cons_succ]
      refine tk1 (.int .i64 e.slot) (by kernel_rfl) (by kernel_rfl) (by kernel_rfl) (fun _ _ _ h => h) rfl (fun w hSw => by (try dsimp only at hSw); obtain ⟨s0, s1, a0, a1, a2, a3, a4, a5, a6, b0, b1, b2, b3, b4, b5, b6⟩ := hSw; go_simp) (by assumption) ?_
      try simp only [Act.put, List.setIfInBounds_toArray, List.set_cons_zero, List.set_cons_succ]
      refine tk2 (.pointer (some ⟨X, 0, none⟩)) (by kernel_rfl) (by kernel_rfl) (by kernel_rfl) (fun _ _ _ h => h) rfl (fun w hSw => by (try dsimp only at hSw); obtain ⟨s0, s1, a0, a1, a2, a3, a4, a5, a6, b0, b1, b2, b3, b4, b5, b6⟩ := hSw; go_simp) (by assumption) ?_
      try simp only [Act.put, List.setIfInBounds_toArray, List.set_cons_zero, List.set_cons_succ]
      refine tk3 (.pointer (some ⟨X, 0, none⟩)) (by kernel_rfl) (by kernel_rfl) (by kernel_rfl) (fun _ _ _ h => h) rfl (fun w hSw => by (try dsimp only at hSw); obtain ⟨s0, s1, a0, a1, a2, a3, a4, a5, a6, b0, b1, b2, b3, b4, b5, b6⟩ := hSw; go_simp) (by assumption) ?_
      try simp only [Act.put, List.setIfInBounds_toArray, List.set_cons_zero, List.set_cons_succ]
      refine tk4 (.pointer (some ⟨X, 0, none⟩)) (by kernel_rfl) (by kernel_rfl) (by kernel_rfl) (fun _ _ _ h => h) rfl (fun w hSw => by (try dsimp only at hSw); obtain ⟨s0, s1, a0, a1, a2, a3, a4, a5, a6, b0, b1, b2, b3, b4, b5, b6⟩ := hSw; go_simp) (by assumption) ?_
      try simp only [Act.put, List.setIfInBounds_toArray, List.set_cons_zero, List.set_cons_succ]
      refine tk5 (.pointer (some ⟨X, 1, none⟩)) (by kernel_rfl) (by kernel_rfl) (by kernel_rfl) (fun _ _ _ h => h) rfl (fun w hSw => by (try dsimp only at hSw); obtain ⟨s0, s1, a0, a1, a2, a3, a4, a5, a6, b0, b1, b2, b3, b4, b5, b6⟩ := hSw; go_simp) (by assumption) ?_
      try simp only [Act.put, List.setIfInBounds_toArray, List.set_cons_zero, List.set_cons_succ]
      refine tk6 (.int .i64 D.b) (by kernel_rfl) (by kernel_rfl) (by kernel_rfl) (fun _ _ _ h => h) rfl (fun w hSw => by (try dsimp only at hSw); obtain ⟨s0, s1, a0, a1, a2, a3, a4, a5, a6, b0, b1, b2, b3, b4, b5, b6⟩ := hSw; go_simp) (by assumption) ?_
      try simp only [Act.put, List.setIfInBounds_toArray, List.set_cons_zero, List.set_cons_succ]
      refine tk7 (.bool false) (by kernel_rfl) (by kernel_rfl) (by kernel_rfl) (fun _ _ _ h => h) rfl (fun w hSw => by (try dsimp only at hSw); obtain ⟨s0, s1, a0, a1, a2, a3, a4, a5, a6, b0, b1, b2, b3, b4, b5, b6⟩ := hSw; go_simp) (by assumption) ?_
      try simp only [Act.put, List.setIfInBounds_toArray, List.set_cons_zero, List.set_cons_succ]
      refine tk8 (.bool false) (by kernel_rfl) (by kernel_rfl) (by kernel_rfl) (fun _ _ _ h => h) rfl (fun w hSw => by (try dsimp only at hSw); obtain ⟨s0, s1, a0, a1, a2, a3, a4, a5, a6, b0, b1, b2, b3, b4, b5, b6⟩ := hSw; go_simp) (by assumption) ?_
      try simp only [Act.put, List.setIfInBounds_toArray, List.set_cons_zero, List.set_cons_succ]
      refine sk9 (by kernel_rfl) (by kernel_rfl) (by kernel_rfl) (fun _ _ _ h => h) rfl (by assumption) ?_
      try simp only [Act.put, List.setIfInBounds_toArray, List.set_cons_zero, List.set_cons_succ]
      refine sk10 (by kernel_rfl) (by kernel_rfl) (by kernel_rfl) (fun _ _ _ h => h) rfl (by assumption) ?_
      try simp only [Act.put, List.setIfInBounds_toArray, List.set_cons_zero, List.set_cons_succ]
      refine sk11 (by kernel_rfl) (by kernel_rfl) (by kernel_rfl) (fun _ _ _ h => h) rfl (by assumption) ?_
      try simp only [Act.put, List.setIfInBounds_toArray, List.set_cons_zero, List.set_cons_succ]
      refine sk12 (by kernel_rfl) (by kernel_rfl) (by kernel_rfl) (fun _ _ _ h => h) rfl (by assumption) ?_
      try simp only [Act.put, List.setIfInBounds_toArray, List.set_cons_zero, List.set_cons_succ]
      refine sk13 (by kernel_rfl) (by kernel_rfl) (by kernel_rfl) (fun _ _ _ h => h) rfl (by assumption) ?_
      try simp only [Act.put, List.setIfInBounds_toArray, List.set_cons_zero, List.set_cons_succ]
      refine sk14 (by kernel_rfl) (by kernel_rfl) (by kernel_rfl) (fun _ _ _ h => h) rfl (by assumption) ?_
      try simp only [Act.put, List.setIfInBounds_toArray, List.set_cons_zero, List.set_cons_succ]
      refine sk15 (by kernel_rfl) (by kernel_rfl) (by kernel_rfl) (fun _ _ _ h => h) rfl (by assumption) ?_
      try simp only [Act.put, List.setIfInBounds_toArray, List.set_cons_zero, List.set_cons_succ]
      refine tk16 (.bool false) (by kernel_rfl) (by kernel_rfl) (by kernel_rfl) (fun _ _ _ h => h) rfl (fun w hSw => by (try dsimp only at hSw); obtain ⟨s0, s1, a0, a1, a2, a3, a4, a5, a6, b0, b1, b2, b3, b4, b5, b6⟩ := hSw; go_simp) (by assumption) ?_
      try simp only [Act.put, List.setIfInBounds_toArray, List.set_cons_zero, List.set_cons_succ]
      refine wpAnyH_done (by kernel_rfl) ?_ _
      have i9 := I1.out.drew
      have g0 := i9.o0
      have g1 := i9.o1
      have g2 := i9.o2
      have g3 := i9.o3
      have I9 : Hid _ := i9
      clear i9
      go_wp2_with (show wpList _ _ _ (⟨_, Op.store 42 _ _, _, _, _, _⟩ :: _) _ _; refine store_row_g rfl 42 _ _ rfl (w.heap.size + 1) (outA (.slice pu nu cu)) rfl rfl 42 _ I9.out.res sizeOut rfl (by simp [Value.oneCell']) ?_; intro w6 h6 g6)
      refine bodyPost_ret (results_two Try.results16 _ _ (w.heap.size + 1) _ rfl (load_out h6)) rfl ?_
      exact racc_end I9.out HE.out g6
end Go.Proofs.Ytkngpfngfmbmjaa
