/-
  DurableAgain of layer 13, walked over what package durable's Recs and Fold must do, and chapter 13's examples. The conditions: the state lies in memory as its reading says; at most 536870900 entries.
-/
import Derived.Test.YtgecfplaimabpaaGreatDoorAPackR
import Derived.Deep.DeepCutAuto
import Derived.Deep.CutRange
namespace Go.Proofs.YtgecfplaimabpaaGreatDoor
open Go.RowKit

theorem topB_snoc (p : Int) (es : List En) (x : En) : topB p (es ++ [x]) = max (topB p es) x.ballot := by unfold topB; rw [List.foldl_append]; rfl
/-- Behind some entries: the state itself; what was folded; what is wanted. -/
structure AgI (w1 wr : World) (B X Y : Nat) (d G : Du) (q : Int) (v vA : Value) : Prop where
  dd : DuAt wr B d v
  gg : DuAt wr X G vA
  yy : DuAt wr Y { d with p := q } v
  own : OwnEn wr w1.heap.size vA G.es
  bel : Below w1.heap.size w1 wr
  lB : B < w1.heap.size
  nX : X ≠ Y
  lY : w1.heap.size ≤ Y
section
variable {w1 wr w' : World} {B X Y : Nat} {d G : Du} {q : Int} {v vA : Value}
theorem AgI.new (h : AgI w1 wr B X Y d G q v vA) (b : Below wr.heap.size wr w') : AgI w1 w' B X Y d G q v vA :=
  ⟨(b.block _ (lt_of_block h.dd)).trans h.dd, (b.block _ (lt_of_block h.gg)).trans h.gg, (b.block _ (lt_of_block h.yy)).trans h.yy, own_keep h.own (fun g e => b.block g (World.ownsRow.lt h.own g e).2), bmm h.bel h.bel.size b, h.lB, h.nX, h.lY⟩
theorem AgI.drewN (h : AgI w1 wr B X Y d G q v vA) (n : Nat) : AgI w1 (wr.drewN n) B X Y d G q v vA := h.new (below_drewN (Below.refl _ _) n)
theorem AgI.drew (h : AgI w1 wr B X Y d G q v vA) : AgI w1 wr.drew B X Y d G q v vA := h.new ⟨rfl, rfl, rfl, Nat.le_refl _, fun _ _ => rfl⟩
theorem AgI.set0 (h : AgI w1 wr B X Y d G q v vA) (p : Int) : AgI w1 (wr.setCell ⟨Y, 0, none⟩ (.int .i64 p)) B X Y d G p v vA :=
  ⟨(heap_setCell_other _ _ _ _ (fun e => by have h1 := h.lB; have h2 := h.lY; simp at e; omega)).trans h.dd, (heap_setCell_other _ _ _ _ (fun e => h.nX (by simp at e; omega))).trans h.gg, h.yy.set0 p,
    own_keep h.own (fun g e => heap_setCell_other _ _ _ _ (fun e2 => own_ne h.own h.yy (by decide) (by rw [e]; simp at e2; rw [e2]))), h.bel.setCell (p := ⟨Y, 0, none⟩) h.lY _, h.lB, h.nX, h.lY⟩
end
section
variable {P : Program} {md : Region.Mode} {Q : Exit → Act → World → Prop} {S : World → Prop} {fuel : Nat} {listed : Array Bool} {a : Act} {w : World} {l : List Oper}
theorem rd6_8 {o0 o1 o2 o3 o4 o5 o6 o7 o8 : Oper} (hr : Region.ready md (o0 :: o1 :: o2 :: o3 :: o4 :: o5 :: o6 :: o7 :: o8 :: l).toArray listed = [6, 8]) (hw0 : Region.wanted o6 (yielded (o0 :: o1 :: o2 :: o3 :: o4 :: o5 :: o6 :: o7 :: o8 :: l).toArray a.tmps) = true) (hw1 : Region.wanted o8 (yielded (o0 :: o1 :: o2 :: o3 :: o4 :: o5 :: o6 :: o7 :: o8 :: l).toArray a.tmps) = true)
    (h0 : ∀ K' : Act → World → Prop, Shut (∀ a w, S w → (S w → wpAnyH P md (o0 :: o1 :: o2 :: o3 :: o4 :: o5 :: o6 :: o7 :: o8 :: l).toArray Q S fuel (listed.setIfInBounds 6 true) a w) → K' a w) → Oper.wp P o6 a w K' Q)
    (h1 : ∀ K' : Act → World → Prop, Shut (∀ a w, S w → (S w → wpAnyH P md (o0 :: o1 :: o2 :: o3 :: o4 :: o5 :: o6 :: o7 :: o8 :: l).toArray Q S fuel (listed.setIfInBounds 8 true) a w) → K' a w) → Oper.wp P o8 a w K' Q) : wpAnyH P md (o0 :: o1 :: o2 :: o3 :: o4 :: o5 :: o6 :: o7 :: o8 :: l).toArray Q S (fuel + 1) listed a w :=
  wpAnyH_ready hr (by simp) (AllReadyH.cons (o := o6) rfl (fun K hK => by rw [if_pos hw0]; exact h0 K hK) (AllReadyH.cons (o := o8) rfl (fun K hK => by rw [if_pos hw1]; exact h1 K hK) AllReadyH.nil))
theorem rd7_8 {o0 o1 o2 o3 o4 o5 o6 o7 o8 : Oper} (hr : Region.ready md (o0 :: o1 :: o2 :: o3 :: o4 :: o5 :: o6 :: o7 :: o8 :: l).toArray listed = [7, 8]) (hw0 : Region.wanted o7 (yielded (o0 :: o1 :: o2 :: o3 :: o4 :: o5 :: o6 :: o7 :: o8 :: l).toArray a.tmps) = true) (hw1 : Region.wanted o8 (yielded (o0 :: o1 :: o2 :: o3 :: o4 :: o5 :: o6 :: o7 :: o8 :: l).toArray a.tmps) = true)
    (h0 : ∀ K' : Act → World → Prop, Shut (∀ a w, S w → (S w → wpAnyH P md (o0 :: o1 :: o2 :: o3 :: o4 :: o5 :: o6 :: o7 :: o8 :: l).toArray Q S fuel (listed.setIfInBounds 7 true) a w) → K' a w) → Oper.wp P o7 a w K' Q)
    (h1 : ∀ K' : Act → World → Prop, Shut (∀ a w, S w → (S w → wpAnyH P md (o0 :: o1 :: o2 :: o3 :: o4 :: o5 :: o6 :: o7 :: o8 :: l).toArray Q S fuel (listed.setIfInBounds 8 true) a w) → K' a w) → Oper.wp P o8 a w K' Q) : wpAnyH P md (o0 :: o1 :: o2 :: o3 :: o4 :: o5 :: o6 :: o7 :: o8 :: l).toArray Q S (fuel + 1) listed a w :=
  wpAnyH_ready hr (by simp) (AllReadyH.cons (o := o7) rfl (fun K hK => by rw [if_pos hw0]; exact h0 K hK) (AllReadyH.cons (o := o8) rfl (fun K hK => by rw [if_pos hw1]; exact h1 K hK) AllReadyH.nil))
end
set_option maxHeartbeats 12800000 in
set_option maxRecDepth 100000 in
theorem again_walk (hP : DurPure) (w : World) (d : Du) (vd : Value) (hd : RowAt enC w vd d.es) (hdl : d.es.length ≤ 536870900) (hsz : SzD d)
    (hA : ∀ w1, Below w.heap.size w w1 → Calls Tryz.prog 9 #[] w1 fun e w' => e = .returned (.bool true) ∧ Below w1.heap.size w1 w') :
    Calls Tryz.prog 6 #[.agg (duA d vd)] w fun e w' => e = .returned (.bool true) ∧ Below w.heap.size w w' := by
  obtain ⟨ad, cd, rfl⟩ := hd.form
  obtain ⟨W, hW⟩ : ∃ W, W = w.alloc (.cells (duA d (.slice ad d.es.length cd)) 24) := ⟨_, rfl⟩
  have bW : Below w.heap.size w W := by rw [hW]; exact (Below.refl _ w).alloc (Nat.le_refl _) _
  have sW : W.heap.size = w.heap.size + 1 := by rw [hW]; simp
  have hD : DuAt W w.heap.size d (.slice ad d.es.length cd) := by rw [hW]; exact heap_alloc_new w _
  have QA : Hid (∀ w1, Below w.heap.size w w1 → Calls Tryz.prog 9 #[] w1 fun e w' => e = .returned (.bool true) ∧ Below w1.heap.size w1 w') := hA
  have LD : Hid (∀ y, Below W.heap.size W y → DuAt y w.heap.size d (.slice ad d.es.length cd)) := fun y b => (b.block _ (by omega)).trans hD
  have RDW : Hid (∀ y, Below W.heap.size W y → RowAt enC y (.slice ad d.es.length cd) d.es) := fun y b => hd.fresh (bmm bW bW.size b)
  have BW : Hid _ := bW
  have HW : Hid (W = _) := hW
  have HR0 : Hid (Below W.heap.size W W) := Below.refl _ _
  clear hd hD hA bW
  have q1 := fun y (b : Below W.heap.size W y) r hr => rmayD_any y d (.slice ad d.es.length cd) (RDW.out _ b) (by omega) r hr
  by_cases c1 : MayD d
  · have Q1 : Hid (∀ y, Below W.heap.size W y → _) := fun y b => q1 y b true ⟨fun _ => c1, fun _ => rfl⟩
    obtain ⟨G, hG⟩ : ∃ G : Du, G = ⟨topB d.p d.es, d.b, d.s, d.es⟩ := ⟨_, rfl⟩
    have hfa : foldD ⟨0, d.b, d.s, []⟩ (recsD d) = G := by rw [hG]; exact fold_again d c1.2.1 c1.2.2.2.1
    have CR : Hid (∀ y, Below W.heap.size W y → Calls Tryz.prog 14 #[.agg (duA d (.slice ad d.es.length cd))] y fun e w' => ∃ u, e = .returned u ∧ OwnRc w' y.heap.size u (recsD d) ∧ Below y.heap.size y w') := fun y b => hP.recs y d _ (RDW.out y b) (by omega) hsz
    have CF : Hid (∀ y g, RowAt rcC y g (recsD d) → Calls Tryz.prog 10 #[.agg #[.int .i64 0, .int .i64 d.b, .string d.s, .slice none 0 0], g] y fun e w' => ∃ v', e = .returned (.agg (duA G v')) ∧ OwnEn w' y.heap.size v' G.es ∧ Below y.heap.size y w') := fun y g h => by
      have q := hP.fold y ⟨0, d.b, d.s, []⟩ (.slice none 0 0) g (recsD d) (RowAt.nil _) h (rises_nil _) (by simp) (by
        rw [recsD_eq, List.length_append, List.length_map]
        have : (firstRc d).length ≤ 1 := by unfold firstRc; split <;> simp
        omega) ⟨hsz.s, fun e he => by cases he⟩ hsz.recs
      rw [hfa] at q
      exact q
    have HG : Hid (G = ⟨topB d.p d.es, d.b, d.s, d.es⟩) := hG
    clear q1 c1 hfa hG
    go_enter Tryz.func6, Tryz.ntmps6
    go_upto_region 3 with (go_at_call 30; rw [← HW.out]; refine (Q1.out _ HR0.out).mono ?_; rintro e w1 ⟨rfl, b1⟩)
    have SC : Hid (∀ y : World, Below w1.heap.size w1 y → y.cell? ⟨w.heap.size, 0, none⟩ = some (.int .i64 d.p) ∧ y.cell? ⟨w.heap.size, 1, none⟩ = some (.int .i64 d.b) ∧ y.cell? ⟨w.heap.size, 2, none⟩ = some (.string d.s) ∧ y.cell? ⟨w.heap.size, 3, none⟩ = some (.slice ad d.es.length cd)) := fun y b => by
      have h := LD.out y (bmm b1 b1.size b)
      exact ⟨h.c0, h.c1, h.c2, h.c3⟩
    have CR : Hid (∀ y, Below w1.heap.size w1 y → Calls Tryz.prog 14 #[.agg (duA d (.slice ad d.es.length cd))] y fun e w' => ∃ u, e = .returned u ∧ OwnRc w' y.heap.size u (recsD d) ∧ Below y.heap.size y w') := fun y b => CR.out y (bmm b1 b1.size b)
    clear Q1
    go_cut [3] (fun x wc => ∃ (X : Nat) (vA : Value), x = .pointer (some ⟨X, 0, none⟩) ∧ DuAt wc X G vA ∧ OwnEn wc w1.heap.size vA G.es ∧ w1.heap.size ≤ X ∧ Below w1.heap.size w1 wc)
    case first =>
      refine wp_region_held_drew (S := (fun w' : World => w'.cell? ⟨w.heap.size, 0, none⟩ = some (.int .i64 d.p) ∧ w'.cell? ⟨w.heap.size, 1, none⟩ = some (.int .i64 d.b) ∧ w'.cell? ⟨w.heap.size, 2, none⟩ = some (.string d.s) ∧ w'.cell? ⟨w.heap.size, 3, none⟩ = some (.slice ad d.es.length cd))) (by kernel_rfl) ?_ (fun hHeld0 => ?_)
      · exact SC.out _ ⟨rfl, rfl, rfl, Nat.le_refl _, fun _ _ => rfl⟩
      obtain ⟨y0, hy0⟩ : ∃ y, y = w1.drew := ⟨_, rfl⟩
      have b0 : Below w1.heap.size w1 y0 := by rw [hy0]; exact ⟨rfl, rfl, rfl, Nat.le_refl _, fun _ _ => rfl⟩
      rw [← hy0] at hHeld0 ⊢
      clear hy0
      refine tk0 (.pointer (some ⟨w.heap.size, 1, none⟩)) (by kernel_rfl) (by kernel_rfl) (by kernel_rfl) (fun _ _ _ h => h) rfl (fun w hSw => by (try dsimp only at hSw); obtain ⟨q0, q1, q2, q3⟩ := hSw; go_simp) (by assumption) ?_
      try simp only [Act.put, List.setIfInBounds_toArray, List.set_cons_zero, List.set_cons_succ]
      refine tk1 (.int .i64 d.b) (by kernel_rfl) (by kernel_rfl) (by kernel_rfl) (fun _ _ _ h => h) rfl (fun w hSw => by (try dsimp only at hSw); obtain ⟨q0, q1, q2, q3⟩ := hSw; go_simp) (by assumption) ?_
      try simp only [Act.put, List.setIfInBounds_toArray, List.set_cons_zero, List.set_cons_succ]
      refine tk2 (.pointer (some ⟨w.heap.size, 2, none⟩)) (by kernel_rfl) (by kernel_rfl) (by kernel_rfl) (fun _ _ _ h => h) rfl (fun w hSw => by (try dsimp only at hSw); obtain ⟨q0, q1, q2, q3⟩ := hSw; go_simp) (by assumption) ?_
      try simp only [Act.put, List.setIfInBounds_toArray, List.set_cons_zero, List.set_cons_succ]
      refine tk3 (.string d.s) (by kernel_rfl) (by kernel_rfl) (by kernel_rfl) (fun _ _ _ h => h) rfl (fun w hSw => by (try dsimp only at hSw); obtain ⟨q0, q1, q2, q3⟩ := hSw; go_simp) (by assumption) ?_
      try simp only [Act.put, List.setIfInBounds_toArray, List.set_cons_zero, List.set_cons_succ]
      refine tk4 (.agg #[.int .i64 0, .int .i64 d.b, .string d.s, .slice none 0 0]) (by kernel_rfl) (by kernel_rfl) (by kernel_rfl) (fun _ _ _ h => h) rfl (fun w hSw => by (try dsimp only at hSw); obtain ⟨q0, q1, q2, q3⟩ := hSw; go_simp) (by assumption) ?_
      try simp only [Act.put, List.setIfInBounds_toArray, List.set_cons_zero, List.set_cons_succ]
      refine tk5 (.agg (duA d (.slice ad d.es.length cd))) (by kernel_rfl) (by kernel_rfl) (by kernel_rfl) (fun _ _ _ h => h) rfl (fun w hSw => by (try dsimp only at hSw); obtain ⟨q0, q1, q2, q3⟩ := hSw; go_simp) (by assumption) ?_
      try simp only [Act.put, List.setIfInBounds_toArray, List.set_cons_zero, List.set_cons_succ]
      refine rd6_8 (by kernel_rfl) rfl rfl (fun K hK => ?_) (fun K hK => ?_)
      · go_simp
        go_at_call 14
        refine (CR.out _ b0).mono ?_
        rintro e y1 ⟨g1, rfl, oo, cc⟩
        have r1 : Hid (RowAt rcC y1 g1 (recsD d)) := OwnRc.row oo
        clear oo
        have b1 := bmm b0 b0.size cc
        clear cc
        refine hK.out _ _ ?_ (fun hHeld => ?_)
        · exact SC.out _ b1
        clear hK K
        try simp only [Act.put, List.setIfInBounds_toArray, List.set_cons_zero, List.set_cons_succ]
        refine rd7_8 (by kernel_rfl) rfl rfl (fun K hK => ?_) (fun K hK => ?_)
        · go_simp
          go_at_call 10
          refine (CF.out _ _ r1.out).mono ?_
          rintro e y2 ⟨vA, rfl, oo, cc⟩
          obtain ⟨pA, nA, qA, rfl⟩ := own_form oo
          have o2 : Hid (OwnEn y2 w1.heap.size (.slice pA nA qA) G.es) := own_mono oo b1.size
          clear oo
          have b2 := bmm b1 b1.size cc
          clear cc
          refine hK.out _ _ ?_ (fun hHeld => ?_)
          · exact SC.out _ b2
          clear hK K
          try simp only [Act.put, List.setIfInBounds_toArray, List.set_cons_zero, List.set_cons_succ]
          refine cl8 (by kernel_rfl) rfl (fun K hK => ?_)
          go_simp
          obtain ⟨y3, hy⟩ : ∃ y, y = y2.alloc (.cells #[.int .i64 0, .int .i64 0, .string ⟨#[]⟩, .slice none 0 0] 24) := ⟨_, rfl⟩
          obtain ⟨X, hX⟩ : ∃ X, X = y2.heap.size := ⟨_, rfl⟩
          have cc : Below y2.heap.size y2 y3 := by rw [hy]; exact (Below.refl _ _).alloc (Nat.le_refl _) _
          have h3 : y3.heap[X]? = some (.cells #[.int .i64 0, .int .i64 0, .string ⟨#[]⟩, .slice none 0 0] 24) := by rw [hy, hX]; exact heap_alloc_new _ _
          have lX : w1.heap.size ≤ X := by rw [hX]; exact b2.size
          rw [← hy, ← hX]
          have b3 := bmm b2 b2.size cc
          have o3 : Hid (OwnEn y3 w1.heap.size (.slice pA nA qA) G.es) := own_keep o2.out (fun g e => cc.block g (World.ownsRow.lt o2.out g e).2)
          clear hX hy cc
          refine hK.out _ _ ?_ (fun hHeld => ?_)
          · exact SC.out _ b3
          clear hK K
          try simp only [Act.put, List.setIfInBounds_toArray, List.set_cons_zero, List.set_cons_succ]
          refine cl9 (by kernel_rfl) rfl (fun K hK => ?_)
          refine wp_store_row 24 _ _ rfl X (duA G (.slice pA nA qA)) rfl rfl 24 _ h3 sizeDu rfl (by simp [Value.oneCell']) ?_
          obtain ⟨y4, hy⟩ : ∃ y, y = y3.setRow X (duA G (.slice pA nA qA)) := ⟨_, rfl⟩
          have h4 : DuAt y4 X G (.slice pA nA qA) := by rw [hy]; exact setRow_heap _ X _ _ _ _ h3
          have gg : y3.grownBy y4 (some X) := by rw [hy]; exact grown_setRow_g _ _ _
          rw [← hy]
          clear hy
          have b4 := b3.grown gg b3.size (fun k hk => by have := Option.some.inj hk; omega)
          have o4 : Hid (OwnEn y4 w1.heap.size (.slice pA nA qA) G.es) := own_keep o3.out (fun g e => gg.block g (World.ownsRow.lt o3.out g e).2 (fun e2 => own_ne o3.out h3 (by decide) (by rw [e, e2])))
          refine hK.out _ _ ?_ (fun hHeld => ?_)
          · exact SC.out _ b4
          clear hK K
          refine wpAnyH_done (by kernel_rfl) ?_ _
          go_wp2
          go_meet
          exact ⟨X, _, rfl, h4, o4.out, lX, b4⟩
        · go_simp
          obtain ⟨y2, hy⟩ : ∃ y, y = y1.alloc (.cells #[.int .i64 0, .int .i64 0, .string ⟨#[]⟩, .slice none 0 0] 24) := ⟨_, rfl⟩
          obtain ⟨X, hX⟩ : ∃ X, X = y1.heap.size := ⟨_, rfl⟩
          have cc : Below y1.heap.size y1 y2 := by rw [hy]; exact (Below.refl _ _).alloc (Nat.le_refl _) _
          have h2 : y2.heap[X]? = some (.cells #[.int .i64 0, .int .i64 0, .string ⟨#[]⟩, .slice none 0 0] 24) := by rw [hy, hX]; exact heap_alloc_new _ _
          have lX : w1.heap.size ≤ X := by rw [hX]; exact b1.size
          rw [← hy, ← hX]
          have b2 := bmm b1 b1.size cc
          have r2 : Hid (RowAt rcC y2 g1 (recsD d)) := r1.out.fresh cc
          clear hX hy cc
          refine hK.out _ _ ?_ (fun hHeld => ?_)
          · exact SC.out _ b2
          clear hK K
          try simp only [Act.put, List.setIfInBounds_toArray, List.set_cons_zero, List.set_cons_succ]
          refine cl7 (by kernel_rfl) rfl (fun K hK => ?_)
          go_simp
          go_at_call 10
          refine (CF.out _ _ r2.out).mono ?_
          rintro e y3 ⟨vA, rfl, oo, cc⟩
          obtain ⟨pA, nA, qA, rfl⟩ := own_form oo
          have o3 : Hid (OwnEn y3 w1.heap.size (.slice pA nA qA) G.es) := own_mono oo b2.size
          clear oo
          have b3 := bmm b2 b2.size cc
          have h3 : y3.heap[X]? = some (.cells #[.int .i64 0, .int .i64 0, .string ⟨#[]⟩, .slice none 0 0] 24) := (cc.block X (lt_of_block h2)).trans h2
          clear cc
          refine hK.out _ _ ?_ (fun hHeld => ?_)
          · exact SC.out _ b3
          clear hK K
          try simp only [Act.put, List.setIfInBounds_toArray, List.set_cons_zero, List.set_cons_succ]
          refine cl9 (by kernel_rfl) rfl (fun K hK => ?_)
          refine wp_store_row 24 _ _ rfl X (duA G (.slice pA nA qA)) rfl rfl 24 _ h3 sizeDu rfl (by simp [Value.oneCell']) ?_
          obtain ⟨y4, hy⟩ : ∃ y, y = y3.setRow X (duA G (.slice pA nA qA)) := ⟨_, rfl⟩
          have h4 : DuAt y4 X G (.slice pA nA qA) := by rw [hy]; exact setRow_heap _ X _ _ _ _ h3
          have gg : y3.grownBy y4 (some X) := by rw [hy]; exact grown_setRow_g _ _ _
          rw [← hy]
          clear hy
          have b4 := b3.grown gg b3.size (fun k hk => by have := Option.some.inj hk; omega)
          have o4 : Hid (OwnEn y4 w1.heap.size (.slice pA nA qA) G.es) := own_keep o3.out (fun g e => gg.block g (World.ownsRow.lt o3.out g e).2 (fun e2 => own_ne o3.out h3 (by decide) (by rw [e, e2])))
          refine hK.out _ _ ?_ (fun hHeld => ?_)
          · exact SC.out _ b4
          clear hK K
          refine wpAnyH_done (by kernel_rfl) ?_ _
          go_wp2
          go_meet
          exact ⟨X, _, rfl, h4, o4.out, lX, b4⟩
      · go_simp
        obtain ⟨y1, hy⟩ : ∃ y, y = y0.alloc (.cells #[.int .i64 0, .int .i64 0, .string ⟨#[]⟩, .slice none 0 0] 24) := ⟨_, rfl⟩
        obtain ⟨X, hX⟩ : ∃ X, X = y0.heap.size := ⟨_, rfl⟩
        have cc : Below y0.heap.size y0 y1 := by rw [hy]; exact (Below.refl _ _).alloc (Nat.le_refl _) _
        have h1 : y1.heap[X]? = some (.cells #[.int .i64 0, .int .i64 0, .string ⟨#[]⟩, .slice none 0 0] 24) := by rw [hy, hX]; exact heap_alloc_new _ _
        have lX : w1.heap.size ≤ X := by rw [hX]; exact b0.size
        rw [← hy, ← hX]
        have b1 := bmm b0 b0.size cc
        clear hX hy cc
        refine hK.out _ _ ?_ (fun hHeld => ?_)
        · exact SC.out _ b1
        clear hK K
        try simp only [Act.put, List.setIfInBounds_toArray, List.set_cons_zero, List.set_cons_succ]
        refine cl6 (by kernel_rfl) rfl (fun K hK => ?_)
        go_simp
        go_at_call 14
        refine (CR.out _ b1).mono ?_
        rintro e y2 ⟨g1, rfl, oo, cc⟩
        have r2 : Hid (RowAt rcC y2 g1 (recsD d)) := OwnRc.row oo
        clear oo
        have b2 := bmm b1 b1.size cc
        have h2 : y2.heap[X]? = some (.cells #[.int .i64 0, .int .i64 0, .string ⟨#[]⟩, .slice none 0 0] 24) := (cc.block X (lt_of_block h1)).trans h1
        clear cc
        refine hK.out _ _ ?_ (fun hHeld => ?_)
        · exact SC.out _ b2
        clear hK K
        try simp only [Act.put, List.setIfInBounds_toArray, List.set_cons_zero, List.set_cons_succ]
        refine cl7 (by kernel_rfl) rfl (fun K hK => ?_)
        go_simp
        go_at_call 10
        refine (CF.out _ _ r2.out).mono ?_
        rintro e y3 ⟨vA, rfl, oo, cc⟩
        obtain ⟨pA, nA, qA, rfl⟩ := own_form oo
        have o3 : Hid (OwnEn y3 w1.heap.size (.slice pA nA qA) G.es) := own_mono oo b2.size
        clear oo
        have b3 := bmm b2 b2.size cc
        have h3 : y3.heap[X]? = some (.cells #[.int .i64 0, .int .i64 0, .string ⟨#[]⟩, .slice none 0 0] 24) := (cc.block X (lt_of_block h2)).trans h2
        clear cc
        refine hK.out _ _ ?_ (fun hHeld => ?_)
        · exact SC.out _ b3
        clear hK K
        try simp only [Act.put, List.setIfInBounds_toArray, List.set_cons_zero, List.set_cons_succ]
        refine cl9 (by kernel_rfl) rfl (fun K hK => ?_)
        refine wp_store_row 24 _ _ rfl X (duA G (.slice pA nA qA)) rfl rfl 24 _ h3 sizeDu rfl (by simp [Value.oneCell']) ?_
        obtain ⟨y4, hy⟩ : ∃ y, y = y3.setRow X (duA G (.slice pA nA qA)) := ⟨_, rfl⟩
        have h4 : DuAt y4 X G (.slice pA nA qA) := by rw [hy]; exact setRow_heap _ X _ _ _ _ h3
        have gg : y3.grownBy y4 (some X) := by rw [hy]; exact grown_setRow_g _ _ _
        rw [← hy]
        clear hy
        have b4 := b3.grown gg b3.size (fun k hk => by have := Option.some.inj hk; omega)
        have o4 : Hid (OwnEn y4 w1.heap.size (.slice pA nA qA) G.es) := own_keep o3.out (fun g e => gg.block g (World.ownsRow.lt o3.out g e).2 (fun e2 => own_ne o3.out h3 (by decide) (by rw [e, e2])))
        refine hK.out _ _ ?_ (fun hHeld => ?_)
        · exact SC.out _ b4
        clear hK K
        refine wpAnyH_done (by kernel_rfl) ?_ _
        go_wp2
        go_meet
        exact ⟨X, _, rfl, h4, o4.out, lX, b4⟩
    case rest =>
      obtain ⟨X, vA, rfl, hA, oA, lX, bc⟩ := hcut
      obtain ⟨pA, nA, qA, rfl⟩ := own_form oA
      have KA : Hid (DuAt wc X G (.slice pA nA qA)) := hA
      have KO : Hid (OwnEn wc w1.heap.size (.slice pA nA qA) G.es) := oA
      have KB : Hid (Below w1.heap.size w1 wc) := bc
      have KD : Hid (DuAt wc w.heap.size d (.slice ad d.es.length cd)) := LD.out _ (bmm b1 b1.size bc)
      have KL : Hid (w.heap.size < w1.heap.size) := by have := b1.size; show _ < _; omega
      have KX : Hid (X < wc.heap.size) := lt_of_block hA
      clear hA oA bc lX SC CR CF
      go_wp2_with (first
        | (show wpList _ _ _ (⟨_, Op.load 24 _, _, _, _, _⟩ :: _) _ _; refine load_row_g rfl 24 _ rfl w.heap.size rfl 24 (duA d (.slice ad d.es.length cd)) (0, 0) _ (KD.out) Tryz.underlying24 rfl sizeDu ?_)
        | (show wpList _ _ _ (⟨_, Op.store 24 _ _, _, _, _, _⟩ :: _) _ _; refine store_row_g rfl 24 _ _ rfl wc.heap.size (duA d (.slice ad d.es.length cd)) rfl rfl 24 _ (heap_alloc_new wc _) sizeDu rfl (by simp [Value.oneCell']) ?_; intro w5 h5 g5))
      have AI0 : Hid (AgI w1 w5 w.heap.size X wc.heap.size d G d.p (.slice ad d.es.length cd) (.slice pA nA qA)) := by
        have c5 : Below wc.heap.size wc w5 := ((Below.refl _ wc).alloc (Nat.le_refl _) _).grown g5 (by simp) (fun k hk => by have := Option.some.inj hk; omega)
        exact ⟨(c5.block _ (lt_of_block KD.out)).trans KD.out, (c5.block _ KX.out).trans KA.out, h5, own_keep KO.out (fun g e => c5.block g (World.ownsRow.lt KO.out g e).2), bmm KB.out KB.out.size c5, KL.out, by have := KX.out; omega, KB.out.size⟩
      obtain ⟨Y, hY⟩ : ∃ Y, Y = wc.heap.size := ⟨_, rfl⟩
      rw [← hY] at AI0 ⊢
      clear h5 g5 KA KO KB KD KL KX hY

      go_loopw [5] (fun i wr => ∃ k : Nat, k ≤ d.es.length ∧ i = .int .i64 (k : Int) ∧ AgI w1 wr w.heap.size X Y d G (topB d.p (d.es.take k)) (.slice ad d.es.length cd) (.slice pA nA qA)) (fun i _ => d.es.length - (intOf i).toNat)
      case atStart => exact ⟨0, Nat.zero_le _, rfl, AI0.out⟩
      case round =>
        obtain ⟨k, hk, rfl, hI⟩ := hrel
        have c0 := hI.yy.c0
        have f0 := hI.yy.f0
        have c3 := hI.dd.c3
        by_cases hkl : k < d.es.length
        · have q0 : decide ((k : Int) < (d.es.length : Int)) = true := decide_eq_true (by omega)
          obtain ⟨bk, off, cap', hvv, hcap, hbk, hc⟩ := (RDW.out _ (bmm b1 b1.size hI.bel)).cells enC_len (by omega)
          injection hvv with e1 e2 e3
          subst e1 e3
          obtain ⟨x, hx⟩ : ∃ x, x = d.es[k] := ⟨_, rfl⟩
          have z1 := hc k hkl 1 (.int .i64 x.ballot) (by decide) (by rw [hx]; rfl)
          have HN : Hid (topB d.p (d.es.take (k + 1)) = max (topB d.p (d.es.take k)) x.ballot) := by
            show _ = _
            rw [List.take_add_one, List.getElem?_eq_getElem hkl, hx]
            exact topB_snoc _ _ _
          obtain ⟨q, hq⟩ : ∃ q, q = topB d.p (d.es.take k) := ⟨_, rfl⟩
          rw [← hq] at hI HN c0
          have HI : Hid _ := hI
          have HRW : Hid _ := hc
          clear hc hx hq hI
          go_wp2
          go_region
          all_goals go_wp2
          all_goals go_roundw
          case rel => exact ⟨k + 1, hkl, by go_num, by rw [HN.out]; exact (HI.out.set0 _).drew⟩
          case measure => simp [intOf]; omega
        · have q0 : decide ((k : Int) < (d.es.length : Int)) = false := decide_eq_false (by omega)
          have ht : d.es.take k = d.es := List.take_of_length_le (by omega)
          rw [ht] at hI c0
          have HI : Hid _ := hI
          have HT : Hid (∀ y, Below wr.heap.size wr y → Calls Tryz.prog 12 #[.agg (duA G (.slice pA nA qA)), .agg (duA { d with p := topB d.p d.es } (.slice ad d.es.length cd))] y fun e w' => e = .returned (.bool true) ∧ Below y.heap.size y w') := fun y b => rsameD_any y G { d with p := topB d.p d.es } _ _ ((OwnEn.row HI.out.own).fresh b) (RDW.out y (bmm b1 b1.size (bmm HI.out.bel HI.out.bel.size b))) (by rw [HG.out]; show d.es.length ≤ _; omega) true (by rw [HG.out]; simp)
          clear hI ht c0 f0
          go_wp2_with (first
            | (go_at_call 9; refine (QA.out _ (bmm BW.out BW.out.size (bmm b1 b1.size (bmm HI.out.bel HI.out.bel.size b6)))).mono ?_; rintro e w7 ⟨rfl, b7⟩)
            | (go_at_call 12; refine (HT.out _ (Below.refl _ _)).mono ?_; rintro e w6 ⟨rfl, b6⟩)
            | (show wpList _ _ _ (⟨_, Op.load 24 _, _, _, _, _⟩ :: _) _ _; refine load_row_g rfl 24 _ rfl X rfl 24 (duA G (.slice pA nA qA)) (0, 0) _ (HI.out.gg) Tryz.underlying24 rfl sizeDu ?_)
            | (show wpList _ _ _ (⟨_, Op.load 24 _, _, _, _, _⟩ :: _) _ _; refine load_row_g rfl 24 _ rfl Y rfl 24 (duA { d with p := topB d.p d.es } (.slice ad d.es.length cd)) (0, 0) _ (HI.out.yy) Tryz.underlying24 rfl sizeDu ?_))
          go_ret
          exact ⟨rfl, bmm (bmm BW.out BW.out.size (bmm b1 b1.size (bmm HI.out.bel HI.out.bel.size b6))) (bmm BW.out BW.out.size (bmm b1 b1.size (bmm HI.out.bel HI.out.bel.size b6))).size b7⟩
  · have Q1 : Hid (∀ y, Below W.heap.size W y → _) := fun y b => q1 y b false ⟨fun h => (by cases h), fun h => absurd h c1⟩
    clear q1
    go_enter Tryz.func6, Tryz.ntmps6
    go_wp2_with (first
      | (go_at_call 9; refine (QA.out _ (bmm BW.out BW.out.size b1)).mono ?_; rintro e w3 ⟨rfl, b3⟩)
      | (go_at_call 30; rw [← HW.out]; refine (Q1.out _ HR0.out).mono ?_; rintro e w1 ⟨rfl, b1⟩))
    go_ret
    exact ⟨rfl, bmm BW.out BW.out.size (bmm b1 b1.size b3)⟩
end Go.Proofs.YtgecfplaimabpaaGreatDoor
