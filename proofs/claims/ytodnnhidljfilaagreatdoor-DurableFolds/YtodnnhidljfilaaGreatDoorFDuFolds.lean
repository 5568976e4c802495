/-
  DurableFolds of layer 13, walked over what package durable's Fold, Recs and Same must do, and chapter 13's examples. The conditions: the arguments lie in memory as their readings say.
-/
import Derived.Test.YtodnnhidljfilaaGreatDoorFPackR
import Derived.Deep.DeepCutAuto
import Derived.Deep.CutRange
namespace Go.Proofs.YtodnnhidljfilaaGreatDoor
open Go.RowKit

section
variable {P : Program} {md : Region.Mode} {Q : Exit → Act → World → Prop} {S : World → Prop} {fuel : Nat} {listed : Array Bool} {a : Act} {w : World} {l : List Oper}
theorem rd2_6 {o0 o1 o2 o3 o4 o5 o6 : Oper} (hr : Region.ready md (o0 :: o1 :: o2 :: o3 :: o4 :: o5 :: o6 :: l).toArray listed = [2, 6]) (hw0 : Region.wanted o2 (yielded (o0 :: o1 :: o2 :: o3 :: o4 :: o5 :: o6 :: l).toArray a.tmps) = true) (hw1 : Region.wanted o6 (yielded (o0 :: o1 :: o2 :: o3 :: o4 :: o5 :: o6 :: l).toArray a.tmps) = true)
    (h0 : ∀ K' : Act → World → Prop, Shut (∀ a w, S w → (S w → wpAnyH P md (o0 :: o1 :: o2 :: o3 :: o4 :: o5 :: o6 :: l).toArray Q S fuel (listed.setIfInBounds 2 true) a w) → K' a w) → Oper.wp P o2 a w K' Q)
    (h1 : ∀ K' : Act → World → Prop, Shut (∀ a w, S w → (S w → wpAnyH P md (o0 :: o1 :: o2 :: o3 :: o4 :: o5 :: o6 :: l).toArray Q S fuel (listed.setIfInBounds 6 true) a w) → K' a w) → Oper.wp P o6 a w K' Q) : wpAnyH P md (o0 :: o1 :: o2 :: o3 :: o4 :: o5 :: o6 :: l).toArray Q S (fuel + 1) listed a w :=
  wpAnyH_ready hr (by simp) (AllReadyH.cons (o := o2) rfl (fun K hK => by rw [if_pos hw0]; exact h0 K hK) (AllReadyH.cons (o := o6) rfl (fun K hK => by rw [if_pos hw1]; exact h1 K hK) AllReadyH.nil))
theorem rd2_6_7 {o0 o1 o2 o3 o4 o5 o6 o7 : Oper} (hr : Region.ready md (o0 :: o1 :: o2 :: o3 :: o4 :: o5 :: o6 :: o7 :: l).toArray listed = [2, 6, 7]) (hw0 : Region.wanted o2 (yielded (o0 :: o1 :: o2 :: o3 :: o4 :: o5 :: o6 :: o7 :: l).toArray a.tmps) = true) (hw1 : Region.wanted o6 (yielded (o0 :: o1 :: o2 :: o3 :: o4 :: o5 :: o6 :: o7 :: l).toArray a.tmps) = true) (hw2 : Region.wanted o7 (yielded (o0 :: o1 :: o2 :: o3 :: o4 :: o5 :: o6 :: o7 :: l).toArray a.tmps) = true)
    (h0 : ∀ K' : Act → World → Prop, Shut (∀ a w, S w → (S w → wpAnyH P md (o0 :: o1 :: o2 :: o3 :: o4 :: o5 :: o6 :: o7 :: l).toArray Q S fuel (listed.setIfInBounds 2 true) a w) → K' a w) → Oper.wp P o2 a w K' Q)
    (h1 : ∀ K' : Act → World → Prop, Shut (∀ a w, S w → (S w → wpAnyH P md (o0 :: o1 :: o2 :: o3 :: o4 :: o5 :: o6 :: o7 :: l).toArray Q S fuel (listed.setIfInBounds 6 true) a w) → K' a w) → Oper.wp P o6 a w K' Q)
    (h2 : ∀ K' : Act → World → Prop, Shut (∀ a w, S w → (S w → wpAnyH P md (o0 :: o1 :: o2 :: o3 :: o4 :: o5 :: o6 :: o7 :: l).toArray Q S fuel (listed.setIfInBounds 7 true) a w) → K' a w) → Oper.wp P o7 a w K' Q) : wpAnyH P md (o0 :: o1 :: o2 :: o3 :: o4 :: o5 :: o6 :: o7 :: l).toArray Q S (fuel + 1) listed a w :=
  wpAnyH_ready hr (by simp) (AllReadyH.cons (o := o2) rfl (fun K hK => by rw [if_pos hw0]; exact h0 K hK) (AllReadyH.cons (o := o6) rfl (fun K hK => by rw [if_pos hw1]; exact h1 K hK) (AllReadyH.cons (o := o7) rfl (fun K hK => by rw [if_pos hw2]; exact h2 K hK) AllReadyH.nil)))
theorem rd2_7 {o0 o1 o2 o3 o4 o5 o6 o7 : Oper} (hr : Region.ready md (o0 :: o1 :: o2 :: o3 :: o4 :: o5 :: o6 :: o7 :: l).toArray listed = [2, 7]) (hw0 : Region.wanted o2 (yielded (o0 :: o1 :: o2 :: o3 :: o4 :: o5 :: o6 :: o7 :: l).toArray a.tmps) = true) (hw1 : Region.wanted o7 (yielded (o0 :: o1 :: o2 :: o3 :: o4 :: o5 :: o6 :: o7 :: l).toArray a.tmps) = true)
    (h0 : ∀ K' : Act → World → Prop, Shut (∀ a w, S w → (S w → wpAnyH P md (o0 :: o1 :: o2 :: o3 :: o4 :: o5 :: o6 :: o7 :: l).toArray Q S fuel (listed.setIfInBounds 2 true) a w) → K' a w) → Oper.wp P o2 a w K' Q)
    (h1 : ∀ K' : Act → World → Prop, Shut (∀ a w, S w → (S w → wpAnyH P md (o0 :: o1 :: o2 :: o3 :: o4 :: o5 :: o6 :: o7 :: l).toArray Q S fuel (listed.setIfInBounds 7 true) a w) → K' a w) → Oper.wp P o7 a w K' Q) : wpAnyH P md (o0 :: o1 :: o2 :: o3 :: o4 :: o5 :: o6 :: o7 :: l).toArray Q S (fuel + 1) listed a w :=
  wpAnyH_ready hr (by simp) (AllReadyH.cons (o := o2) rfl (fun K hK => by rw [if_pos hw0]; exact h0 K hK) (AllReadyH.cons (o := o7) rfl (fun K hK => by rw [if_pos hw1]; exact h1 K hK) AllReadyH.nil))
theorem rd5_6 {o0 o1 o2 o3 o4 o5 o6 : Oper} (hr : Region.ready md (o0 :: o1 :: o2 :: o3 :: o4 :: o5 :: o6 :: l).toArray listed = [5, 6]) (hw0 : Region.wanted o5 (yielded (o0 :: o1 :: o2 :: o3 :: o4 :: o5 :: o6 :: l).toArray a.tmps) = true) (hw1 : Region.wanted o6 (yielded (o0 :: o1 :: o2 :: o3 :: o4 :: o5 :: o6 :: l).toArray a.tmps) = true)
    (h0 : ∀ K' : Act → World → Prop, Shut (∀ a w, S w → (S w → wpAnyH P md (o0 :: o1 :: o2 :: o3 :: o4 :: o5 :: o6 :: l).toArray Q S fuel (listed.setIfInBounds 5 true) a w) → K' a w) → Oper.wp P o5 a w K' Q)
    (h1 : ∀ K' : Act → World → Prop, Shut (∀ a w, S w → (S w → wpAnyH P md (o0 :: o1 :: o2 :: o3 :: o4 :: o5 :: o6 :: l).toArray Q S fuel (listed.setIfInBounds 6 true) a w) → K' a w) → Oper.wp P o6 a w K' Q) : wpAnyH P md (o0 :: o1 :: o2 :: o3 :: o4 :: o5 :: o6 :: l).toArray Q S (fuel + 1) listed a w :=
  wpAnyH_ready hr (by simp) (AllReadyH.cons (o := o5) rfl (fun K hK => by rw [if_pos hw0]; exact h0 K hK) (AllReadyH.cons (o := o6) rfl (fun K hK => by rw [if_pos hw1]; exact h1 K hK) AllReadyH.nil))
theorem rd5_6_7 {o0 o1 o2 o3 o4 o5 o6 o7 : Oper} (hr : Region.ready md (o0 :: o1 :: o2 :: o3 :: o4 :: o5 :: o6 :: o7 :: l).toArray listed = [5, 6, 7]) (hw0 : Region.wanted o5 (yielded (o0 :: o1 :: o2 :: o3 :: o4 :: o5 :: o6 :: o7 :: l).toArray a.tmps) = true) (hw1 : Region.wanted o6 (yielded (o0 :: o1 :: o2 :: o3 :: o4 :: o5 :: o6 :: o7 :: l).toArray a.tmps) = true) (hw2 : Region.wanted o7 (yielded (o0 :: o1 :: o2 :: o3 :: o4 :: o5 :: o6 :: o7 :: l).toArray a.tmps) = true)
    (h0 : ∀ K' : Act → World → Prop, Shut (∀ a w, S w → (S w → wpAnyH P md (o0 :: o1 :: o2 :: o3 :: o4 :: o5 :: o6 :: o7 :: l).toArray Q S fuel (listed.setIfInBounds 5 true) a w) → K' a w) → Oper.wp P o5 a w K' Q)
    (h1 : ∀ K' : Act → World → Prop, Shut (∀ a w, S w → (S w → wpAnyH P md (o0 :: o1 :: o2 :: o3 :: o4 :: o5 :: o6 :: o7 :: l).toArray Q S fuel (listed.setIfInBounds 6 true) a w) → K' a w) → Oper.wp P o6 a w K' Q)
    (h2 : ∀ K' : Act → World → Prop, Shut (∀ a w, S w → (S w → wpAnyH P md (o0 :: o1 :: o2 :: o3 :: o4 :: o5 :: o6 :: o7 :: l).toArray Q S fuel (listed.setIfInBounds 7 true) a w) → K' a w) → Oper.wp P o7 a w K' Q) : wpAnyH P md (o0 :: o1 :: o2 :: o3 :: o4 :: o5 :: o6 :: o7 :: l).toArray Q S (fuel + 1) listed a w :=
  wpAnyH_ready hr (by simp) (AllReadyH.cons (o := o5) rfl (fun K hK => by rw [if_pos hw0]; exact h0 K hK) (AllReadyH.cons (o := o6) rfl (fun K hK => by rw [if_pos hw1]; exact h1 K hK) (AllReadyH.cons (o := o7) rfl (fun K hK => by rw [if_pos hw2]; exact h2 K hK) AllReadyH.nil)))
theorem rd5_7 {o0 o1 o2 o3 o4 o5 o6 o7 : Oper} (hr : Region.ready md (o0 :: o1 :: o2 :: o3 :: o4 :: o5 :: o6 :: o7 :: l).toArray listed = [5, 7]) (hw0 : Region.wanted o5 (yielded (o0 :: o1 :: o2 :: o3 :: o4 :: o5 :: o6 :: o7 :: l).toArray a.tmps) = true) (hw1 : Region.wanted o7 (yielded (o0 :: o1 :: o2 :: o3 :: o4 :: o5 :: o6 :: o7 :: l).toArray a.tmps) = true)
    (h0 : ∀ K' : Act → World → Prop, Shut (∀ a w, S w → (S w → wpAnyH P md (o0 :: o1 :: o2 :: o3 :: o4 :: o5 :: o6 :: o7 :: l).toArray Q S fuel (listed.setIfInBounds 5 true) a w) → K' a w) → Oper.wp P o5 a w K' Q)
    (h1 : ∀ K' : Act → World → Prop, Shut (∀ a w, S w → (S w → wpAnyH P md (o0 :: o1 :: o2 :: o3 :: o4 :: o5 :: o6 :: o7 :: l).toArray Q S fuel (listed.setIfInBounds 7 true) a w) → K' a w) → Oper.wp P o7 a w K' Q) : wpAnyH P md (o0 :: o1 :: o2 :: o3 :: o4 :: o5 :: o6 :: o7 :: l).toArray Q S (fuel + 1) listed a w :=
  wpAnyH_ready hr (by simp) (AllReadyH.cons (o := o5) rfl (fun K hK => by rw [if_pos hw0]; exact h0 K hK) (AllReadyH.cons (o := o7) rfl (fun K hK => by rw [if_pos hw1]; exact h1 K hK) AllReadyH.nil))
theorem rd6_7 {o0 o1 o2 o3 o4 o5 o6 o7 : Oper} (hr : Region.ready md (o0 :: o1 :: o2 :: o3 :: o4 :: o5 :: o6 :: o7 :: l).toArray listed = [6, 7]) (hw0 : Region.wanted o6 (yielded (o0 :: o1 :: o2 :: o3 :: o4 :: o5 :: o6 :: o7 :: l).toArray a.tmps) = true) (hw1 : Region.wanted o7 (yielded (o0 :: o1 :: o2 :: o3 :: o4 :: o5 :: o6 :: o7 :: l).toArray a.tmps) = true)
    (h0 : ∀ K' : Act → World → Prop, Shut (∀ a w, S w → (S w → wpAnyH P md (o0 :: o1 :: o2 :: o3 :: o4 :: o5 :: o6 :: o7 :: l).toArray Q S fuel (listed.setIfInBounds 6 true) a w) → K' a w) → Oper.wp P o6 a w K' Q)
    (h1 : ∀ K' : Act → World → Prop, Shut (∀ a w, S w → (S w → wpAnyH P md (o0 :: o1 :: o2 :: o3 :: o4 :: o5 :: o6 :: o7 :: l).toArray Q S fuel (listed.setIfInBounds 7 true) a w) → K' a w) → Oper.wp P o7 a w K' Q) : wpAnyH P md (o0 :: o1 :: o2 :: o3 :: o4 :: o5 :: o6 :: o7 :: l).toArray Q S (fuel + 1) listed a w :=
  wpAnyH_ready hr (by simp) (AllReadyH.cons (o := o6) rfl (fun K hK => by rw [if_pos hw0]; exact h0 K hK) (AllReadyH.cons (o := o7) rfl (fun K hK => by rw [if_pos hw1]; exact h1 K hK) AllReadyH.nil))
end
set_option maxHeartbeats 12800000 in
set_option maxRecDepth 100000 in
theorem folds_walk (hP : DurPure) (w : World) (d o : Du) (vd vo lv : Value) (l : List Rc) (hd : RowAt enC w vd d.es) (ho : RowAt enC w vo o.es) (hl : RowAt rcC w lv l) (hdl : d.es.length ≤ 4611686018427387904) (hol : o.es.length ≤ 4611686018427387904) (hsz : SzD d) (hszl : SzR l)
    (hA : ∀ w1, Below w.heap.size w w1 → Calls Tryz.prog 9 #[] w1 fun e w' => e = .returned (.bool true) ∧ Below w1.heap.size w1 w') :
    Calls Tryz.prog 3 #[.agg (duA d vd), .agg (duA o vo), lv] w fun e w' => e = .returned (.bool true) ∧ Below w.heap.size w w' := by
  obtain ⟨ad, cd, rfl⟩ := hd.form
  obtain ⟨ao, co, rfl⟩ := ho.form
  obtain ⟨al, cl, rfl⟩ := hl.form
  obtain ⟨W, hW⟩ : ∃ W, W = (w.alloc (.cells (duA d (.slice ad d.es.length cd)) 24)).alloc (.cells (duA o (.slice ao o.es.length co)) 24) := ⟨_, rfl⟩
  have bW : Below w.heap.size w W := by rw [hW]; exact ((Below.refl _ w).alloc (Nat.le_refl _) _).alloc (by simp) _
  have sW : W.heap.size = w.heap.size + 2 := by rw [hW]; simp
  have hD : DuAt W w.heap.size d (.slice ad d.es.length cd) := by rw [hW]; exact (two_blocks w _ _).1.trans (heap_alloc_new w _)
  have hO : DuAt W (w.heap.size + 1) o (.slice ao o.es.length co) := by rw [hW]; exact (two_blocks w _ _).2.trans (heap_alloc_new _ _)
  have QA : Hid (∀ w1, Below w.heap.size w w1 → Calls Tryz.prog 9 #[] w1 fun e w' => e = .returned (.bool true) ∧ Below w1.heap.size w1 w') := hA
  have LD : Hid (∀ w1, Below W.heap.size W w1 → DuAt w1 w.heap.size d (.slice ad d.es.length cd)) := fun w1 b => (b.block _ (by omega)).trans hD
  have LO : Hid (∀ w1, Below W.heap.size W w1 → DuAt w1 (w.heap.size + 1) o (.slice ao o.es.length co)) := fun w1 b => (b.block _ (by omega)).trans hO
  have RDW : Hid (∀ w1, Below W.heap.size W w1 → RowAt enC w1 (.slice ad d.es.length cd) d.es) := fun w1 b => hd.fresh (bmm bW bW.size b)
  have ROW : Hid (∀ w1, Below W.heap.size W w1 → RowAt enC w1 (.slice ao o.es.length co) o.es) := fun w1 b => ho.fresh (bmm bW bW.size b)
  have RLW : Hid (∀ w1, Below W.heap.size W w1 → RowAt rcC w1 (.slice al l.length cl) l) := fun w1 b => hl.fresh (bmm bW bW.size b)
  have BW : Hid _ := bW
  have HW : Hid (W = _) := hW
  have HR0 : Hid (Below W.heap.size W W) := Below.refl _ _
  clear hd ho hl hD hO hA bW
  have q1 := fun w1 (b : Below W.heap.size W w1) r hr => rises_any w1 d (.slice ad d.es.length cd) (RDW.out _ b) hdl r hr
  have q2 := fun w1 (b : Below W.heap.size W w1) r hr => rises_any w1 o (.slice ao o.es.length co) (ROW.out _ b) hol r hr
  by_cases c1 : OkD d
  · have Q1 : Hid (∀ w1, Below W.heap.size W w1 → _) := fun w1 b => q1 w1 b true ⟨fun _ => c1, fun _ => rfl⟩
    by_cases c2 : OkD o
    · have Q2 : Hid (∀ w1, Below W.heap.size W w1 → _) := fun w1 b => q2 w1 b true ⟨fun _ => c2, fun _ => rfl⟩
      by_cases c3 : l.length ≤ 1000
      · have f3 : decide ((1000 : Int) < (l.length : Int)) = false := decide_eq_false (by omega)
        have l1 : d.es.length ≤ 1000 := c1.2.2.2
        have l2 : o.es.length ≤ 1000 := c2.2.2.2
        have HR : Hid (Rises d.b d.es) := c1.1
        clear c1 c2 q1 q2
        go_enter Tryz.func3, Tryz.ntmps3
        go_upto_region 3 with (first
          | (go_at_call 8; rw [← HW.out]; refine (Q1.out _ HR0.out).mono ?_; rintro e w1 ⟨rfl, b1⟩)
          | (go_at_call 8; refine (Q2.out _ b1).mono ?_; rintro e w2 ⟨rfl, b2⟩)
          | (show wpList _ _ _ (⟨_, Op.load 24 _, _, _, _, _⟩ :: _) _ _; refine load_row_g rfl 24 _ rfl (w.heap.size + 1) rfl 24 (duA o (.slice ao o.es.length co)) (0, 0) _ (LO.out _ b1) Tryz.underlying24 rfl sizeDu ?_))
        have B2 : Below W.heap.size W w2 := bmm b1 b1.size b2
        have SC : Hid (∀ y, Below w2.heap.size w2 y → y.cell? ⟨w.heap.size, 0, none⟩ = some (.int .i64 d.p) ∧ y.cell? ⟨w.heap.size, 1, none⟩ = some (.int .i64 d.b) ∧ y.cell? ⟨w.heap.size, 2, none⟩ = some (.string d.s) ∧ y.cell? ⟨w.heap.size, 3, none⟩ = some (.slice ad d.es.length cd)) := fun y b => by
          have h := LD.out y (bmm B2 B2.size b)
          exact ⟨h.c0, h.c1, h.c2, h.c3⟩
        have RD : Hid (∀ y, Below w2.heap.size w2 y → RowAt enC y (.slice ad d.es.length cd) d.es) := fun y b => RDW.out y (bmm B2 B2.size b)
        have RL : Hid (∀ y, Below w2.heap.size w2 y → RowAt rcC y (.slice al l.length cl) l) := fun y b => RLW.out y (bmm B2 B2.size b)
        clear Q1 Q2
        go_cut [7, 8] (fun x y wc => ∃ (X6 X7 : Nat) (vA vB : Value), x = .pointer (some ⟨X6, 0, none⟩) ∧ y = .pointer (some ⟨X7, 0, none⟩) ∧ DuAt wc X6 (foldD d l) vA ∧ OwnEn wc w2.heap.size vA (foldD d l).es ∧ DuAt wc X7 (foldD d l) vB ∧ OwnEn wc w2.heap.size vB (foldD d l).es ∧ Below w2.heap.size w2 wc)
        case first =>
          refine wp_region_held_drew (S := (fun w' : World => w'.cell? ⟨w.heap.size, 0, none⟩ = some (.int .i64 d.p) ∧ w'.cell? ⟨w.heap.size, 1, none⟩ = some (.int .i64 d.b) ∧ w'.cell? ⟨w.heap.size, 2, none⟩ = some (.string d.s) ∧ w'.cell? ⟨w.heap.size, 3, none⟩ = some (.slice ad d.es.length cd))) (by kernel_rfl) ?_ (fun hHeld0 => ?_)
          · exact SC.out _ ⟨rfl, rfl, rfl, Nat.le_refl _, fun _ _ => rfl⟩
          obtain ⟨y0, hy0⟩ : ∃ y, y = w2.drew := ⟨_, rfl⟩
          have b0 : Below w2.heap.size w2 y0 := by rw [hy0]; exact ⟨rfl, rfl, rfl, Nat.le_refl _, fun _ _ => rfl⟩
          rw [← hy0] at hHeld0 ⊢
          clear hy0
          refine tk0 (.agg (duA d (.slice ad d.es.length cd))) (by kernel_rfl) (by kernel_rfl) (by kernel_rfl) (fun _ _ _ h => h) rfl (fun w hSw => by (try dsimp only at hSw); obtain ⟨q0, q1, q2, q3⟩ := hSw; go_simp) (by assumption) ?_
          try simp only [Act.put, List.setIfInBounds_toArray, List.set_cons_zero, List.set_cons_succ]
          refine tk1 (.slice al l.length cl) (by kernel_rfl) (by kernel_rfl) (by kernel_rfl) (fun _ _ _ h => h) rfl (fun w hSw => by (try dsimp only at hSw); obtain ⟨q0, q1, q2, q3⟩ := hSw; go_simp) (by assumption) ?_
          try simp only [Act.put, List.setIfInBounds_toArray, List.set_cons_zero, List.set_cons_succ]
          refine tk3 (.agg (duA d (.slice ad d.es.length cd))) (by kernel_rfl) (by kernel_rfl) (by kernel_rfl) (fun _ _ _ h => h) rfl (fun w hSw => by (try dsimp only at hSw); obtain ⟨q0, q1, q2, q3⟩ := hSw; go_simp) (by assumption) ?_
          try simp only [Act.put, List.setIfInBounds_toArray, List.set_cons_zero, List.set_cons_succ]
          refine tk4 (.slice al l.length cl) (by kernel_rfl) (by kernel_rfl) (by kernel_rfl) (fun _ _ _ h => h) rfl (fun w hSw => by (try dsimp only at hSw); obtain ⟨q0, q1, q2, q3⟩ := hSw; go_simp) (by assumption) ?_
          try simp only [Act.put, List.setIfInBounds_toArray, List.set_cons_zero, List.set_cons_succ]
          refine rd2_6_7 (by kernel_rfl) rfl rfl rfl (fun K hK => ?_) (fun K hK => ?_) (fun K hK => ?_)
          · go_simp
            go_at_call 10
            refine (hP.fold _ d _ _ l (RD.out _ b0) (RL.out _ b0) HR.out (by omega) (by omega) hsz hszl).mono ?_
            rintro e y1 ⟨vA, rfl, oA0, c1⟩
            obtain ⟨pA, nA, qA, rfl⟩ := own_form oA0
            have b1 := bmm b0 b0.size c1
            have oA1 : Hid (OwnEn y1 w2.heap.size (.slice pA nA qA) (foldD d l).es) := own_mono oA0 b0.size
            clear oA0
            have s1 := SC.out y1 b1
            have s10 := s1.1
            have s11 := s1.2.1
            have s12 := s1.2.2.1
            have s13 := s1.2.2.2
            clear s1
            refine hK.out _ _ ?_ (fun hHeld => ?_)
            · try dsimp only
              go_keep
            clear hK K
            try simp only [Act.put, List.setIfInBounds_toArray, List.set_cons_zero, List.set_cons_succ]
            refine rd5_6_7 (by kernel_rfl) rfl rfl rfl (fun K hK => ?_) (fun K hK => ?_) (fun K hK => ?_)
            · go_simp
              go_at_call 11
              refine (rfold_any _ d _ _ l (RD.out _ b1) (RL.out _ b1) (by omega) (by omega)).mono ?_
              rintro e y2 ⟨vB, rfl, oB0, c2⟩
              obtain ⟨pB, nB, qB, rfl⟩ := own_form oB0
              have b2 := bmm b1 b1.size c2
              have oA2 : Hid (OwnEn y2 w2.heap.size (.slice pA nA qA) (foldD d l).es) := own_keep oA1.out (fun g e => c2.block g (World.ownsRow.lt oA1.out g e).2)
              have oB2 : Hid (OwnEn y2 w2.heap.size (.slice pB nB qB) (foldD d l).es) := own_mono oB0 b1.size
              clear oB0
              have s2 := SC.out y2 b2
              have s20 := s2.1
              have s21 := s2.2.1
              have s22 := s2.2.2.1
              have s23 := s2.2.2.2
              clear s2
              refine hK.out _ _ ?_ (fun hHeld => ?_)
              · try dsimp only
                go_keep
              clear hK K
              try simp only [Act.put, List.setIfInBounds_toArray, List.set_cons_zero, List.set_cons_succ]
              refine rd6_7 (by kernel_rfl) rfl rfl (fun K hK => ?_) (fun K hK => ?_)
              · go_simp
                obtain ⟨y3, hy3⟩ : ∃ y, y = y2.alloc (.cells #[.int .i64 0, .int .i64 0, .string ⟨#[]⟩, .slice none 0 0] 24) := ⟨_, rfl⟩
                obtain ⟨X6, hX6⟩ : ∃ X, X = y2.heap.size := ⟨_, rfl⟩
                have c3 : Below y2.heap.size y2 y3 := by rw [hy3]; exact (Below.refl _ _).alloc (Nat.le_refl _) _
                have h6_3 : y3.heap[X6]? = some (.cells #[.int .i64 0, .int .i64 0, .string ⟨#[]⟩, .slice none 0 0] 24) := by rw [hy3, hX6]; exact heap_alloc_new _ _
                have lX6 : w2.heap.size ≤ X6 := by rw [hX6]; exact b2.size
                rw [← hy3, ← hX6]
                have b3 := bmm b2 b2.size c3
                have oA3 : Hid (OwnEn y3 w2.heap.size (.slice pA nA qA) (foldD d l).es) := own_keep oA2.out (fun g e => c3.block g (World.ownsRow.lt oA2.out g e).2)
                have oB3 : Hid (OwnEn y3 w2.heap.size (.slice pB nB qB) (foldD d l).es) := own_keep oB2.out (fun g e => c3.block g (World.ownsRow.lt oB2.out g e).2)
                clear hX6 hy3
                have s3 := SC.out y3 b3
                have s30 := s3.1
                have s31 := s3.2.1
                have s32 := s3.2.2.1
                have s33 := s3.2.2.2
                clear s3
                refine hK.out _ _ ?_ (fun hHeld => ?_)
                · try dsimp only
                  go_keep
                clear hK K
                try simp only [Act.put, List.setIfInBounds_toArray, List.set_cons_zero, List.set_cons_succ]
                refine cl7 (by kernel_rfl) rfl (fun K hK => ?_)
                go_simp
                obtain ⟨y4, hy4⟩ : ∃ y, y = y3.alloc (.cells #[.int .i64 0, .int .i64 0, .string ⟨#[]⟩, .slice none 0 0] 24) := ⟨_, rfl⟩
                obtain ⟨X7, hX7⟩ : ∃ X, X = y3.heap.size := ⟨_, rfl⟩
                have c4 : Below y3.heap.size y3 y4 := by rw [hy4]; exact (Below.refl _ _).alloc (Nat.le_refl _) _
                have h7_4 : y4.heap[X7]? = some (.cells #[.int .i64 0, .int .i64 0, .string ⟨#[]⟩, .slice none 0 0] 24) := by rw [hy4, hX7]; exact heap_alloc_new _ _
                have lX7 : w2.heap.size ≤ X7 := by rw [hX7]; exact b3.size
                rw [← hy4, ← hX7]
                have b4 := bmm b3 b3.size c4
                have oA4 : Hid (OwnEn y4 w2.heap.size (.slice pA nA qA) (foldD d l).es) := own_keep oA3.out (fun g e => c4.block g (World.ownsRow.lt oA3.out g e).2)
                have oB4 : Hid (OwnEn y4 w2.heap.size (.slice pB nB qB) (foldD d l).es) := own_keep oB3.out (fun g e => c4.block g (World.ownsRow.lt oB3.out g e).2)
                have h6_4 : y4.heap[X6]? = some _ := (c4.block X6 (lt_of_block h6_3)).trans h6_3
                have ne67 : X6 ≠ X7 := by have := lt_of_block h6_3; omega
                clear hX7 hy4
                have s4 := SC.out y4 b4
                have s40 := s4.1
                have s41 := s4.2.1
                have s42 := s4.2.2.1
                have s43 := s4.2.2.2
                clear s4
                refine hK.out _ _ ?_ (fun hHeld => ?_)
                · try dsimp only
                  go_keep
                clear hK K
                try simp only [Act.put, List.setIfInBounds_toArray, List.set_cons_zero, List.set_cons_succ]
                refine cl8 (by kernel_rfl) rfl (fun K hK => ?_)
                skip
                refine wp_store_row 24 _ _ rfl X6 (duA (foldD d l) (.slice pA nA qA)) rfl rfl 24 _ h6_4 sizeDu rfl (by simp [Value.oneCell']) ?_
                obtain ⟨y5, hy5⟩ : ∃ y, y = y4.setRow X6 (duA (foldD d l) (.slice pA nA qA)) := ⟨_, rfl⟩
                have h6_5 : y5.heap[X6]? = some (.cells (duA (foldD d l) (.slice pA nA qA)) 24 (0, 0)) := by rw [hy5]; exact setRow_heap _ X6 _ _ _ _ h6_4
                have g5 : y4.grownBy y5 (some X6) := by rw [hy5]; exact grown_setRow_g _ _ _
                rw [← hy5]
                clear hy5
                have b5 := b4.grown g5 b4.size (fun k hk => by have := Option.some.inj hk; have := lX6; omega)
                have oA5 : Hid (OwnEn y5 w2.heap.size (.slice pA nA qA) (foldD d l).es) := own_keep oA4.out (fun g e => g5.block g (World.ownsRow.lt oA4.out g e).2 (fun e2 => own_ne oA4.out h6_4 (by decide) (by rw [e, e2])))
                have oB5 : Hid (OwnEn y5 w2.heap.size (.slice pB nB qB) (foldD d l).es) := own_keep oB4.out (fun g e => g5.block g (World.ownsRow.lt oB4.out g e).2 (fun e2 => own_ne oB4.out h6_4 (by decide) (by rw [e, e2])))
                have h7_5 : y5.heap[X7]? = some _ := (g5.block X7 (lt_of_block h7_4) (fun e2 => ne67 (by have := Option.some.inj e2; omega))).trans h7_4
                have s5 := SC.out y5 b5
                have s50 := s5.1
                have s51 := s5.2.1
                have s52 := s5.2.2.1
                have s53 := s5.2.2.2
                clear s5
                refine hK.out _ _ ?_ (fun hHeld => ?_)
                · try dsimp only
                  go_keep
                clear hK K
                refine cl9 (by kernel_rfl) rfl (fun K hK => ?_)
                skip
                refine wp_store_row 24 _ _ rfl X7 (duA (foldD d l) (.slice pB nB qB)) rfl rfl 24 _ h7_5 sizeDu rfl (by simp [Value.oneCell']) ?_
                obtain ⟨y6, hy6⟩ : ∃ y, y = y5.setRow X7 (duA (foldD d l) (.slice pB nB qB)) := ⟨_, rfl⟩
                have h7_6 : y6.heap[X7]? = some (.cells (duA (foldD d l) (.slice pB nB qB)) 24 (0, 0)) := by rw [hy6]; exact setRow_heap _ X7 _ _ _ _ h7_5
                have g6 : y5.grownBy y6 (some X7) := by rw [hy6]; exact grown_setRow_g _ _ _
                rw [← hy6]
                clear hy6
                have b6 := b5.grown g6 b5.size (fun k hk => by have := Option.some.inj hk; have := lX7; omega)
                have oA6 : Hid (OwnEn y6 w2.heap.size (.slice pA nA qA) (foldD d l).es) := own_keep oA5.out (fun g e => g6.block g (World.ownsRow.lt oA5.out g e).2 (fun e2 => own_ne oA5.out h7_5 (by decide) (by rw [e, e2])))
                have oB6 : Hid (OwnEn y6 w2.heap.size (.slice pB nB qB) (foldD d l).es) := own_keep oB5.out (fun g e => g6.block g (World.ownsRow.lt oB5.out g e).2 (fun e2 => own_ne oB5.out h7_5 (by decide) (by rw [e, e2])))
                have h6_6 : y6.heap[X6]? = some _ := (g6.block X6 (lt_of_block h6_5) (fun e2 => ne67 (by have := Option.some.inj e2; omega))).trans h6_5
                have s6 := SC.out y6 b6
                have s60 := s6.1
                have s61 := s6.2.1
                have s62 := s6.2.2.1
                have s63 := s6.2.2.2
                clear s6
                refine hK.out _ _ ?_ (fun hHeld => ?_)
                · try dsimp only
                  go_keep
                clear hK K
                refine wpAnyH_done (by kernel_rfl) ?_ _
                go_wp2
                go_meet
                exact ⟨X6, X7, _, _, rfl, rfl, h6_6, oA6.out, h7_6, oB6.out, b6⟩
              · go_simp
                obtain ⟨y3, hy3⟩ : ∃ y, y = y2.alloc (.cells #[.int .i64 0, .int .i64 0, .string ⟨#[]⟩, .slice none 0 0] 24) := ⟨_, rfl⟩
                obtain ⟨X7, hX7⟩ : ∃ X, X = y2.heap.size := ⟨_, rfl⟩
                have c3 : Below y2.heap.size y2 y3 := by rw [hy3]; exact (Below.refl _ _).alloc (Nat.le_refl _) _
                have h7_3 : y3.heap[X7]? = some (.cells #[.int .i64 0, .int .i64 0, .string ⟨#[]⟩, .slice none 0 0] 24) := by rw [hy3, hX7]; exact heap_alloc_new _ _
                have lX7 : w2.heap.size ≤ X7 := by rw [hX7]; exact b2.size
                rw [← hy3, ← hX7]
                have b3 := bmm b2 b2.size c3
                have oA3 : Hid (OwnEn y3 w2.heap.size (.slice pA nA qA) (foldD d l).es) := own_keep oA2.out (fun g e => c3.block g (World.ownsRow.lt oA2.out g e).2)
                have oB3 : Hid (OwnEn y3 w2.heap.size (.slice pB nB qB) (foldD d l).es) := own_keep oB2.out (fun g e => c3.block g (World.ownsRow.lt oB2.out g e).2)
                clear hX7 hy3
                have s3 := SC.out y3 b3
                have s30 := s3.1
                have s31 := s3.2.1
                have s32 := s3.2.2.1
                have s33 := s3.2.2.2
                clear s3
                refine hK.out _ _ ?_ (fun hHeld => ?_)
                · try dsimp only
                  go_keep
                clear hK K
                try simp only [Act.put, List.setIfInBounds_toArray, List.set_cons_zero, List.set_cons_succ]
                refine cl6 (by kernel_rfl) rfl (fun K hK => ?_)
                go_simp
                obtain ⟨y4, hy4⟩ : ∃ y, y = y3.alloc (.cells #[.int .i64 0, .int .i64 0, .string ⟨#[]⟩, .slice none 0 0] 24) := ⟨_, rfl⟩
                obtain ⟨X6, hX6⟩ : ∃ X, X = y3.heap.size := ⟨_, rfl⟩
                have c4 : Below y3.heap.size y3 y4 := by rw [hy4]; exact (Below.refl _ _).alloc (Nat.le_refl _) _
                have h6_4 : y4.heap[X6]? = some (.cells #[.int .i64 0, .int .i64 0, .string ⟨#[]⟩, .slice none 0 0] 24) := by rw [hy4, hX6]; exact heap_alloc_new _ _
                have lX6 : w2.heap.size ≤ X6 := by rw [hX6]; exact b3.size
                rw [← hy4, ← hX6]
                have b4 := bmm b3 b3.size c4
                have oA4 : Hid (OwnEn y4 w2.heap.size (.slice pA nA qA) (foldD d l).es) := own_keep oA3.out (fun g e => c4.block g (World.ownsRow.lt oA3.out g e).2)
                have oB4 : Hid (OwnEn y4 w2.heap.size (.slice pB nB qB) (foldD d l).es) := own_keep oB3.out (fun g e => c4.block g (World.ownsRow.lt oB3.out g e).2)
                have h7_4 : y4.heap[X7]? = some _ := (c4.block X7 (lt_of_block h7_3)).trans h7_3
                have ne67 : X6 ≠ X7 := by have := lt_of_block h7_3; omega
                clear hX6 hy4
                have s4 := SC.out y4 b4
                have s40 := s4.1
                have s41 := s4.2.1
                have s42 := s4.2.2.1
                have s43 := s4.2.2.2
                clear s4
                refine hK.out _ _ ?_ (fun hHeld => ?_)
                · try dsimp only
                  go_keep
                clear hK K
                try simp only [Act.put, List.setIfInBounds_toArray, List.set_cons_zero, List.set_cons_succ]
                refine cl8 (by kernel_rfl) rfl (fun K hK => ?_)
                skip
                refine wp_store_row 24 _ _ rfl X6 (duA (foldD d l) (.slice pA nA qA)) rfl rfl 24 _ h6_4 sizeDu rfl (by simp [Value.oneCell']) ?_
                obtain ⟨y5, hy5⟩ : ∃ y, y = y4.setRow X6 (duA (foldD d l) (.slice pA nA qA)) := ⟨_, rfl⟩
                have h6_5 : y5.heap[X6]? = some (.cells (duA (foldD d l) (.slice pA nA qA)) 24 (0, 0)) := by rw [hy5]; exact setRow_heap _ X6 _ _ _ _ h6_4
                have g5 : y4.grownBy y5 (some X6) := by rw [hy5]; exact grown_setRow_g _ _ _
                rw [← hy5]
                clear hy5
                have b5 := b4.grown g5 b4.size (fun k hk => by have := Option.some.inj hk; have := lX6; omega)
                have oA5 : Hid (OwnEn y5 w2.heap.size (.slice pA nA qA) (foldD d l).es) := own_keep oA4.out (fun g e => g5.block g (World.ownsRow.lt oA4.out g e).2 (fun e2 => own_ne oA4.out h6_4 (by decide) (by rw [e, e2])))
                have oB5 : Hid (OwnEn y5 w2.heap.size (.slice pB nB qB) (foldD d l).es) := own_keep oB4.out (fun g e => g5.block g (World.ownsRow.lt oB4.out g e).2 (fun e2 => own_ne oB4.out h6_4 (by decide) (by rw [e, e2])))
                have h7_5 : y5.heap[X7]? = some _ := (g5.block X7 (lt_of_block h7_4) (fun e2 => ne67 (by have := Option.some.inj e2; omega))).trans h7_4
                have s5 := SC.out y5 b5
                have s50 := s5.1
                have s51 := s5.2.1
                have s52 := s5.2.2.1
                have s53 := s5.2.2.2
                clear s5
                refine hK.out _ _ ?_ (fun hHeld => ?_)
                · try dsimp only
                  go_keep
                clear hK K
                refine cl9 (by kernel_rfl) rfl (fun K hK => ?_)
                skip
                refine wp_store_row 24 _ _ rfl X7 (duA (foldD d l) (.slice pB nB qB)) rfl rfl 24 _ h7_5 sizeDu rfl (by simp [Value.oneCell']) ?_
                obtain ⟨y6, hy6⟩ : ∃ y, y = y5.setRow X7 (duA (foldD d l) (.slice pB nB qB)) := ⟨_, rfl⟩
                have h7_6 : y6.heap[X7]? = some (.cells (duA (foldD d l) (.slice pB nB qB)) 24 (0, 0)) := by rw [hy6]; exact setRow_heap _ X7 _ _ _ _ h7_5
                have g6 : y5.grownBy y6 (some X7) := by rw [hy6]; exact grown_setRow_g _ _ _
                rw [← hy6]
                clear hy6
                have b6 := b5.grown g6 b5.size (fun k hk => by have := Option.some.inj hk; have := lX7; omega)
                have oA6 : Hid (OwnEn y6 w2.heap.size (.slice pA nA qA) (foldD d l).es) := own_keep oA5.out (fun g e => g6.block g (World.ownsRow.lt oA5.out g e).2 (fun e2 => own_ne oA5.out h7_5 (by decide) (by rw [e, e2])))
                have oB6 : Hid (OwnEn y6 w2.heap.size (.slice pB nB qB) (foldD d l).es) := own_keep oB5.out (fun g e => g6.block g (World.ownsRow.lt oB5.out g e).2 (fun e2 => own_ne oB5.out h7_5 (by decide) (by rw [e, e2])))
                have h6_6 : y6.heap[X6]? = some _ := (g6.block X6 (lt_of_block h6_5) (fun e2 => ne67 (by have := Option.some.inj e2; omega))).trans h6_5
                have s6 := SC.out y6 b6
                have s60 := s6.1
                have s61 := s6.2.1
                have s62 := s6.2.2.1
                have s63 := s6.2.2.2
                clear s6
                refine hK.out _ _ ?_ (fun hHeld => ?_)
                · try dsimp only
                  go_keep
                clear hK K
                refine wpAnyH_done (by kernel_rfl) ?_ _
                go_wp2
                go_meet
                exact ⟨X6, X7, _, _, rfl, rfl, h6_6, oA6.out, h7_6, oB6.out, b6⟩
            · go_simp
              obtain ⟨y2, hy2⟩ : ∃ y, y = y1.alloc (.cells #[.int .i64 0, .int .i64 0, .string ⟨#[]⟩, .slice none 0 0] 24) := ⟨_, rfl⟩
              obtain ⟨X6, hX6⟩ : ∃ X, X = y1.heap.size := ⟨_, rfl⟩
              have c2 : Below y1.heap.size y1 y2 := by rw [hy2]; exact (Below.refl _ _).alloc (Nat.le_refl _) _
              have h6_2 : y2.heap[X6]? = some (.cells #[.int .i64 0, .int .i64 0, .string ⟨#[]⟩, .slice none 0 0] 24) := by rw [hy2, hX6]; exact heap_alloc_new _ _
              have lX6 : w2.heap.size ≤ X6 := by rw [hX6]; exact b1.size
              rw [← hy2, ← hX6]
              have b2 := bmm b1 b1.size c2
              have oA2 : Hid (OwnEn y2 w2.heap.size (.slice pA nA qA) (foldD d l).es) := own_keep oA1.out (fun g e => c2.block g (World.ownsRow.lt oA1.out g e).2)
              clear hX6 hy2
              have s2 := SC.out y2 b2
              have s20 := s2.1
              have s21 := s2.2.1
              have s22 := s2.2.2.1
              have s23 := s2.2.2.2
              clear s2
              refine hK.out _ _ ?_ (fun hHeld => ?_)
              · try dsimp only
                go_keep
              clear hK K
              try simp only [Act.put, List.setIfInBounds_toArray, List.set_cons_zero, List.set_cons_succ]
              refine rd5_7 (by kernel_rfl) rfl rfl (fun K hK => ?_) (fun K hK => ?_)
              · go_simp
                go_at_call 11
                refine (rfold_any _ d _ _ l (RD.out _ b2) (RL.out _ b2) (by omega) (by omega)).mono ?_
                rintro e y3 ⟨vB, rfl, oB0, c3⟩
                obtain ⟨pB, nB, qB, rfl⟩ := own_form oB0
                have b3 := bmm b2 b2.size c3
                have oA3 : Hid (OwnEn y3 w2.heap.size (.slice pA nA qA) (foldD d l).es) := own_keep oA2.out (fun g e => c3.block g (World.ownsRow.lt oA2.out g e).2)
                have h6_3 : y3.heap[X6]? = some _ := (c3.block X6 (lt_of_block h6_2)).trans h6_2
                have oB3 : Hid (OwnEn y3 w2.heap.size (.slice pB nB qB) (foldD d l).es) := own_mono oB0 b2.size
                clear oB0
                have s3 := SC.out y3 b3
                have s30 := s3.1
                have s31 := s3.2.1
                have s32 := s3.2.2.1
                have s33 := s3.2.2.2
                clear s3
                refine hK.out _ _ ?_ (fun hHeld => ?_)
                · try dsimp only
                  go_keep
                clear hK K
                try simp only [Act.put, List.setIfInBounds_toArray, List.set_cons_zero, List.set_cons_succ]
                refine cl7 (by kernel_rfl) rfl (fun K hK => ?_)
                go_simp
                obtain ⟨y4, hy4⟩ : ∃ y, y = y3.alloc (.cells #[.int .i64 0, .int .i64 0, .string ⟨#[]⟩, .slice none 0 0] 24) := ⟨_, rfl⟩
                obtain ⟨X7, hX7⟩ : ∃ X, X = y3.heap.size := ⟨_, rfl⟩
                have c4 : Below y3.heap.size y3 y4 := by rw [hy4]; exact (Below.refl _ _).alloc (Nat.le_refl _) _
                have h7_4 : y4.heap[X7]? = some (.cells #[.int .i64 0, .int .i64 0, .string ⟨#[]⟩, .slice none 0 0] 24) := by rw [hy4, hX7]; exact heap_alloc_new _ _
                have lX7 : w2.heap.size ≤ X7 := by rw [hX7]; exact b3.size
                rw [← hy4, ← hX7]
                have b4 := bmm b3 b3.size c4
                have oA4 : Hid (OwnEn y4 w2.heap.size (.slice pA nA qA) (foldD d l).es) := own_keep oA3.out (fun g e => c4.block g (World.ownsRow.lt oA3.out g e).2)
                have oB4 : Hid (OwnEn y4 w2.heap.size (.slice pB nB qB) (foldD d l).es) := own_keep oB3.out (fun g e => c4.block g (World.ownsRow.lt oB3.out g e).2)
                have h6_4 : y4.heap[X6]? = some _ := (c4.block X6 (lt_of_block h6_3)).trans h6_3
                have ne67 : X6 ≠ X7 := by have := lt_of_block h6_3; omega
                clear hX7 hy4
                have s4 := SC.out y4 b4
                have s40 := s4.1
                have s41 := s4.2.1
                have s42 := s4.2.2.1
                have s43 := s4.2.2.2
                clear s4
                refine hK.out _ _ ?_ (fun hHeld => ?_)
                · try dsimp only
                  go_keep
                clear hK K
                try simp only [Act.put, List.setIfInBounds_toArray, List.set_cons_zero, List.set_cons_succ]
                refine cl8 (by kernel_rfl) rfl (fun K hK => ?_)
                skip
                refine wp_store_row 24 _ _ rfl X6 (duA (foldD d l) (.slice pA nA qA)) rfl rfl 24 _ h6_4 sizeDu rfl (by simp [Value.oneCell']) ?_
                obtain ⟨y5, hy5⟩ : ∃ y, y = y4.setRow X6 (duA (foldD d l) (.slice pA nA qA)) := ⟨_, rfl⟩
                have h6_5 : y5.heap[X6]? = some (.cells (duA (foldD d l) (.slice pA nA qA)) 24 (0, 0)) := by rw [hy5]; exact setRow_heap _ X6 _ _ _ _ h6_4
                have g5 : y4.grownBy y5 (some X6) := by rw [hy5]; exact grown_setRow_g _ _ _
                rw [← hy5]
                clear hy5
                have b5 := b4.grown g5 b4.size (fun k hk => by have := Option.some.inj hk; have := lX6; omega)
                have oA5 : Hid (OwnEn y5 w2.heap.size (.slice pA nA qA) (foldD d l).es) := own_keep oA4.out (fun g e => g5.block g (World.ownsRow.lt oA4.out g e).2 (fun e2 => own_ne oA4.out h6_4 (by decide) (by rw [e, e2])))
                have oB5 : Hid (OwnEn y5 w2.heap.size (.slice pB nB qB) (foldD d l).es) := own_keep oB4.out (fun g e => g5.block g (World.ownsRow.lt oB4.out g e).2 (fun e2 => own_ne oB4.out h6_4 (by decide) (by rw [e, e2])))
                have h7_5 : y5.heap[X7]? = some _ := (g5.block X7 (lt_of_block h7_4) (fun e2 => ne67 (by have := Option.some.inj e2; omega))).trans h7_4
                have s5 := SC.out y5 b5
                have s50 := s5.1
                have s51 := s5.2.1
                have s52 := s5.2.2.1
                have s53 := s5.2.2.2
                clear s5
                refine hK.out _ _ ?_ (fun hHeld => ?_)
                · try dsimp only
                  go_keep
                clear hK K
                refine cl9 (by kernel_rfl) rfl (fun K hK => ?_)
                skip
                refine wp_store_row 24 _ _ rfl X7 (duA (foldD d l) (.slice pB nB qB)) rfl rfl 24 _ h7_5 sizeDu rfl (by simp [Value.oneCell']) ?_
                obtain ⟨y6, hy6⟩ : ∃ y, y = y5.setRow X7 (duA (foldD d l) (.slice pB nB qB)) := ⟨_, rfl⟩
                have h7_6 : y6.heap[X7]? = some (.cells (duA (foldD d l) (.slice pB nB qB)) 24 (0, 0)) := by rw [hy6]; exact setRow_heap _ X7 _ _ _ _ h7_5
                have g6 : y5.grownBy y6 (some X7) := by rw [hy6]; exact grown_setRow_g _ _ _
                rw [← hy6]
                clear hy6
                have b6 := b5.grown g6 b5.size (fun k hk => by have := Option.some.inj hk; have := lX7; omega)
                have oA6 : Hid (OwnEn y6 w2.heap.size (.slice pA nA qA) (foldD d l).es) := own_keep oA5.out (fun g e => g6.block g (World.ownsRow.lt oA5.out g e).2 (fun e2 => own_ne oA5.out h7_5 (by decide) (by rw [e, e2])))
                have oB6 : Hid (OwnEn y6 w2.heap.size (.slice pB nB qB) (foldD d l).es) := own_keep oB5.out (fun g e => g6.block g (World.ownsRow.lt oB5.out g e).2 (fun e2 => own_ne oB5.out h7_5 (by decide) (by rw [e, e2])))
                have h6_6 : y6.heap[X6]? = some _ := (g6.block X6 (lt_of_block h6_5) (fun e2 => ne67 (by have := Option.some.inj e2; omega))).trans h6_5
                have s6 := SC.out y6 b6
                have s60 := s6.1
                have s61 := s6.2.1
                have s62 := s6.2.2.1
                have s63 := s6.2.2.2
                clear s6
                refine hK.out _ _ ?_ (fun hHeld => ?_)
                · try dsimp only
                  go_keep
                clear hK K
                refine wpAnyH_done (by kernel_rfl) ?_ _
                go_wp2
                go_meet
                exact ⟨X6, X7, _, _, rfl, rfl, h6_6, oA6.out, h7_6, oB6.out, b6⟩
              · go_simp
                obtain ⟨y3, hy3⟩ : ∃ y, y = y2.alloc (.cells #[.int .i64 0, .int .i64 0, .string ⟨#[]⟩, .slice none 0 0] 24) := ⟨_, rfl⟩
                obtain ⟨X7, hX7⟩ : ∃ X, X = y2.heap.size := ⟨_, rfl⟩
                have c3 : Below y2.heap.size y2 y3 := by rw [hy3]; exact (Below.refl _ _).alloc (Nat.le_refl _) _
                have h7_3 : y3.heap[X7]? = some (.cells #[.int .i64 0, .int .i64 0, .string ⟨#[]⟩, .slice none 0 0] 24) := by rw [hy3, hX7]; exact heap_alloc_new _ _
                have lX7 : w2.heap.size ≤ X7 := by rw [hX7]; exact b2.size
                rw [← hy3, ← hX7]
                have b3 := bmm b2 b2.size c3
                have oA3 : Hid (OwnEn y3 w2.heap.size (.slice pA nA qA) (foldD d l).es) := own_keep oA2.out (fun g e => c3.block g (World.ownsRow.lt oA2.out g e).2)
                have h6_3 : y3.heap[X6]? = some _ := (c3.block X6 (lt_of_block h6_2)).trans h6_2
                have ne67 : X6 ≠ X7 := by have := lt_of_block h6_2; omega
                clear hX7 hy3
                have s3 := SC.out y3 b3
                have s30 := s3.1
                have s31 := s3.2.1
                have s32 := s3.2.2.1
                have s33 := s3.2.2.2
                clear s3
                refine hK.out _ _ ?_ (fun hHeld => ?_)
                · try dsimp only
                  go_keep
                clear hK K
                try simp only [Act.put, List.setIfInBounds_toArray, List.set_cons_zero, List.set_cons_succ]
                refine cl5 (by kernel_rfl) rfl (fun K hK => ?_)
                go_simp
                go_at_call 11
                refine (rfold_any _ d _ _ l (RD.out _ b3) (RL.out _ b3) (by omega) (by omega)).mono ?_
                rintro e y4 ⟨vB, rfl, oB0, c4⟩
                obtain ⟨pB, nB, qB, rfl⟩ := own_form oB0
                have b4 := bmm b3 b3.size c4
                have oA4 : Hid (OwnEn y4 w2.heap.size (.slice pA nA qA) (foldD d l).es) := own_keep oA3.out (fun g e => c4.block g (World.ownsRow.lt oA3.out g e).2)
                have h6_4 : y4.heap[X6]? = some _ := (c4.block X6 (lt_of_block h6_3)).trans h6_3
                have h7_4 : y4.heap[X7]? = some _ := (c4.block X7 (lt_of_block h7_3)).trans h7_3
                have oB4 : Hid (OwnEn y4 w2.heap.size (.slice pB nB qB) (foldD d l).es) := own_mono oB0 b3.size
                clear oB0
                have s4 := SC.out y4 b4
                have s40 := s4.1
                have s41 := s4.2.1
                have s42 := s4.2.2.1
                have s43 := s4.2.2.2
                clear s4
                refine hK.out _ _ ?_ (fun hHeld => ?_)
                · try dsimp only
                  go_keep
                clear hK K
                try simp only [Act.put, List.setIfInBounds_toArray, List.set_cons_zero, List.set_cons_succ]
                refine cl8 (by kernel_rfl) rfl (fun K hK => ?_)
                skip
                refine wp_store_row 24 _ _ rfl X6 (duA (foldD d l) (.slice pA nA qA)) rfl rfl 24 _ h6_4 sizeDu rfl (by simp [Value.oneCell']) ?_
                obtain ⟨y5, hy5⟩ : ∃ y, y = y4.setRow X6 (duA (foldD d l) (.slice pA nA qA)) := ⟨_, rfl⟩
                have h6_5 : y5.heap[X6]? = some (.cells (duA (foldD d l) (.slice pA nA qA)) 24 (0, 0)) := by rw [hy5]; exact setRow_heap _ X6 _ _ _ _ h6_4
                have g5 : y4.grownBy y5 (some X6) := by rw [hy5]; exact grown_setRow_g _ _ _
                rw [← hy5]
                clear hy5
                have b5 := b4.grown g5 b4.size (fun k hk => by have := Option.some.inj hk; have := lX6; omega)
                have oA5 : Hid (OwnEn y5 w2.heap.size (.slice pA nA qA) (foldD d l).es) := own_keep oA4.out (fun g e => g5.block g (World.ownsRow.lt oA4.out g e).2 (fun e2 => own_ne oA4.out h6_4 (by decide) (by rw [e, e2])))
                have oB5 : Hid (OwnEn y5 w2.heap.size (.slice pB nB qB) (foldD d l).es) := own_keep oB4.out (fun g e => g5.block g (World.ownsRow.lt oB4.out g e).2 (fun e2 => own_ne oB4.out h6_4 (by decide) (by rw [e, e2])))
                have h7_5 : y5.heap[X7]? = some _ := (g5.block X7 (lt_of_block h7_4) (fun e2 => ne67 (by have := Option.some.inj e2; omega))).trans h7_4
                have s5 := SC.out y5 b5
                have s50 := s5.1
                have s51 := s5.2.1
                have s52 := s5.2.2.1
                have s53 := s5.2.2.2
                clear s5
                refine hK.out _ _ ?_ (fun hHeld => ?_)
                · try dsimp only
                  go_keep
                clear hK K
                refine cl9 (by kernel_rfl) rfl (fun K hK => ?_)
                skip
                refine wp_store_row 24 _ _ rfl X7 (duA (foldD d l) (.slice pB nB qB)) rfl rfl 24 _ h7_5 sizeDu rfl (by simp [Value.oneCell']) ?_
                obtain ⟨y6, hy6⟩ : ∃ y, y = y5.setRow X7 (duA (foldD d l) (.slice pB nB qB)) := ⟨_, rfl⟩
                have h7_6 : y6.heap[X7]? = some (.cells (duA (foldD d l) (.slice pB nB qB)) 24 (0, 0)) := by rw [hy6]; exact setRow_heap _ X7 _ _ _ _ h7_5
                have g6 : y5.grownBy y6 (some X7) := by rw [hy6]; exact grown_setRow_g _ _ _
                rw [← hy6]
                clear hy6
                have b6 := b5.grown g6 b5.size (fun k hk => by have := Option.some.inj hk; have := lX7; omega)
                have oA6 : Hid (OwnEn y6 w2.heap.size (.slice pA nA qA) (foldD d l).es) := own_keep oA5.out (fun g e => g6.block g (World.ownsRow.lt oA5.out g e).2 (fun e2 => own_ne oA5.out h7_5 (by decide) (by rw [e, e2])))
                have oB6 : Hid (OwnEn y6 w2.heap.size (.slice pB nB qB) (foldD d l).es) := own_keep oB5.out (fun g e => g6.block g (World.ownsRow.lt oB5.out g e).2 (fun e2 => own_ne oB5.out h7_5 (by decide) (by rw [e, e2])))
                have h6_6 : y6.heap[X6]? = some _ := (g6.block X6 (lt_of_block h6_5) (fun e2 => ne67 (by have := Option.some.inj e2; omega))).trans h6_5
                have s6 := SC.out y6 b6
                have s60 := s6.1
                have s61 := s6.2.1
                have s62 := s6.2.2.1
                have s63 := s6.2.2.2
                clear s6
                refine hK.out _ _ ?_ (fun hHeld => ?_)
                · try dsimp only
                  go_keep
                clear hK K
                refine wpAnyH_done (by kernel_rfl) ?_ _
                go_wp2
                go_meet
                exact ⟨X6, X7, _, _, rfl, rfl, h6_6, oA6.out, h7_6, oB6.out, b6⟩
            · go_simp
              obtain ⟨y2, hy2⟩ : ∃ y, y = y1.alloc (.cells #[.int .i64 0, .int .i64 0, .string ⟨#[]⟩, .slice none 0 0] 24) := ⟨_, rfl⟩
              obtain ⟨X7, hX7⟩ : ∃ X, X = y1.heap.size := ⟨_, rfl⟩
              have c2 : Below y1.heap.size y1 y2 := by rw [hy2]; exact (Below.refl _ _).alloc (Nat.le_refl _) _
              have h7_2 : y2.heap[X7]? = some (.cells #[.int .i64 0, .int .i64 0, .string ⟨#[]⟩, .slice none 0 0] 24) := by rw [hy2, hX7]; exact heap_alloc_new _ _
              have lX7 : w2.heap.size ≤ X7 := by rw [hX7]; exact b1.size
              rw [← hy2, ← hX7]
              have b2 := bmm b1 b1.size c2
              have oA2 : Hid (OwnEn y2 w2.heap.size (.slice pA nA qA) (foldD d l).es) := own_keep oA1.out (fun g e => c2.block g (World.ownsRow.lt oA1.out g e).2)
              clear hX7 hy2
              have s2 := SC.out y2 b2
              have s20 := s2.1
              have s21 := s2.2.1
              have s22 := s2.2.2.1
              have s23 := s2.2.2.2
              clear s2
              refine hK.out _ _ ?_ (fun hHeld => ?_)
              · try dsimp only
                go_keep
              clear hK K
              try simp only [Act.put, List.setIfInBounds_toArray, List.set_cons_zero, List.set_cons_succ]
              refine rd5_6 (by kernel_rfl) rfl rfl (fun K hK => ?_) (fun K hK => ?_)
              · go_simp
                go_at_call 11
                refine (rfold_any _ d _ _ l (RD.out _ b2) (RL.out _ b2) (by omega) (by omega)).mono ?_
                rintro e y3 ⟨vB, rfl, oB0, c3⟩
                obtain ⟨pB, nB, qB, rfl⟩ := own_form oB0
                have b3 := bmm b2 b2.size c3
                have oA3 : Hid (OwnEn y3 w2.heap.size (.slice pA nA qA) (foldD d l).es) := own_keep oA2.out (fun g e => c3.block g (World.ownsRow.lt oA2.out g e).2)
                have h7_3 : y3.heap[X7]? = some _ := (c3.block X7 (lt_of_block h7_2)).trans h7_2
                have oB3 : Hid (OwnEn y3 w2.heap.size (.slice pB nB qB) (foldD d l).es) := own_mono oB0 b2.size
                clear oB0
                have s3 := SC.out y3 b3
                have s30 := s3.1
                have s31 := s3.2.1
                have s32 := s3.2.2.1
                have s33 := s3.2.2.2
                clear s3
                refine hK.out _ _ ?_ (fun hHeld => ?_)
                · try dsimp only
                  go_keep
                clear hK K
                try simp only [Act.put, List.setIfInBounds_toArray, List.set_cons_zero, List.set_cons_succ]
                refine cl6 (by kernel_rfl) rfl (fun K hK => ?_)
                go_simp
                obtain ⟨y4, hy4⟩ : ∃ y, y = y3.alloc (.cells #[.int .i64 0, .int .i64 0, .string ⟨#[]⟩, .slice none 0 0] 24) := ⟨_, rfl⟩
                obtain ⟨X6, hX6⟩ : ∃ X, X = y3.heap.size := ⟨_, rfl⟩
                have c4 : Below y3.heap.size y3 y4 := by rw [hy4]; exact (Below.refl _ _).alloc (Nat.le_refl _) _
                have h6_4 : y4.heap[X6]? = some (.cells #[.int .i64 0, .int .i64 0, .string ⟨#[]⟩, .slice none 0 0] 24) := by rw [hy4, hX6]; exact heap_alloc_new _ _
                have lX6 : w2.heap.size ≤ X6 := by rw [hX6]; exact b3.size
                rw [← hy4, ← hX6]
                have b4 := bmm b3 b3.size c4
                have oA4 : Hid (OwnEn y4 w2.heap.size (.slice pA nA qA) (foldD d l).es) := own_keep oA3.out (fun g e => c4.block g (World.ownsRow.lt oA3.out g e).2)
                have oB4 : Hid (OwnEn y4 w2.heap.size (.slice pB nB qB) (foldD d l).es) := own_keep oB3.out (fun g e => c4.block g (World.ownsRow.lt oB3.out g e).2)
                have h7_4 : y4.heap[X7]? = some _ := (c4.block X7 (lt_of_block h7_3)).trans h7_3
                have ne67 : X6 ≠ X7 := by have := lt_of_block h7_3; omega
                clear hX6 hy4
                have s4 := SC.out y4 b4
                have s40 := s4.1
                have s41 := s4.2.1
                have s42 := s4.2.2.1
                have s43 := s4.2.2.2
                clear s4
                refine hK.out _ _ ?_ (fun hHeld => ?_)
                · try dsimp only
                  go_keep
                clear hK K
                try simp only [Act.put, List.setIfInBounds_toArray, List.set_cons_zero, List.set_cons_succ]
                refine cl8 (by kernel_rfl) rfl (fun K hK => ?_)
                skip
                refine wp_store_row 24 _ _ rfl X6 (duA (foldD d l) (.slice pA nA qA)) rfl rfl 24 _ h6_4 sizeDu rfl (by simp [Value.oneCell']) ?_
                obtain ⟨y5, hy5⟩ : ∃ y, y = y4.setRow X6 (duA (foldD d l) (.slice pA nA qA)) := ⟨_, rfl⟩
                have h6_5 : y5.heap[X6]? = some (.cells (duA (foldD d l) (.slice pA nA qA)) 24 (0, 0)) := by rw [hy5]; exact setRow_heap _ X6 _ _ _ _ h6_4
                have g5 : y4.grownBy y5 (some X6) := by rw [hy5]; exact grown_setRow_g _ _ _
                rw [← hy5]
                clear hy5
                have b5 := b4.grown g5 b4.size (fun k hk => by have := Option.some.inj hk; have := lX6; omega)
                have oA5 : Hid (OwnEn y5 w2.heap.size (.slice pA nA qA) (foldD d l).es) := own_keep oA4.out (fun g e => g5.block g (World.ownsRow.lt oA4.out g e).2 (fun e2 => own_ne oA4.out h6_4 (by decide) (by rw [e, e2])))
                have oB5 : Hid (OwnEn y5 w2.heap.size (.slice pB nB qB) (foldD d l).es) := own_keep oB4.out (fun g e => g5.block g (World.ownsRow.lt oB4.out g e).2 (fun e2 => own_ne oB4.out h6_4 (by decide) (by rw [e, e2])))
                have h7_5 : y5.heap[X7]? = some _ := (g5.block X7 (lt_of_block h7_4) (fun e2 => ne67 (by have := Option.some.inj e2; omega))).trans h7_4
                have s5 := SC.out y5 b5
                have s50 := s5.1
                have s51 := s5.2.1
                have s52 := s5.2.2.1
                have s53 := s5.2.2.2
                clear s5
                refine hK.out _ _ ?_ (fun hHeld => ?_)
                · try dsimp only
                  go_keep
                clear hK K
                refine cl9 (by kernel_rfl) rfl (fun K hK => ?_)
                skip
                refine wp_store_row 24 _ _ rfl X7 (duA (foldD d l) (.slice pB nB qB)) rfl rfl 24 _ h7_5 sizeDu rfl (by simp [Value.oneCell']) ?_
                obtain ⟨y6, hy6⟩ : ∃ y, y = y5.setRow X7 (duA (foldD d l) (.slice pB nB qB)) := ⟨_, rfl⟩
                have h7_6 : y6.heap[X7]? = some (.cells (duA (foldD d l) (.slice pB nB qB)) 24 (0, 0)) := by rw [hy6]; exact setRow_heap _ X7 _ _ _ _ h7_5
                have g6 : y5.grownBy y6 (some X7) := by rw [hy6]; exact grown_setRow_g _ _ _
                rw [← hy6]
                clear hy6
                have b6 := b5.grown g6 b5.size (fun k hk => by have := Option.some.inj hk; have := lX7; omega)
                have oA6 : Hid (OwnEn y6 w2.heap.size (.slice pA nA qA) (foldD d l).es) := own_keep oA5.out (fun g e => g6.block g (World.ownsRow.lt oA5.out g e).2 (fun e2 => own_ne oA5.out h7_5 (by decide) (by rw [e, e2])))
                have oB6 : Hid (OwnEn y6 w2.heap.size (.slice pB nB qB) (foldD d l).es) := own_keep oB5.out (fun g e => g6.block g (World.ownsRow.lt oB5.out g e).2 (fun e2 => own_ne oB5.out h7_5 (by decide) (by rw [e, e2])))
                have h6_6 : y6.heap[X6]? = some _ := (g6.block X6 (lt_of_block h6_5) (fun e2 => ne67 (by have := Option.some.inj e2; omega))).trans h6_5
                have s6 := SC.out y6 b6
                have s60 := s6.1
                have s61 := s6.2.1
                have s62 := s6.2.2.1
                have s63 := s6.2.2.2
                clear s6
                refine hK.out _ _ ?_ (fun hHeld => ?_)
                · try dsimp only
                  go_keep
                clear hK K
                refine wpAnyH_done (by kernel_rfl) ?_ _
                go_wp2
                go_meet
                exact ⟨X6, X7, _, _, rfl, rfl, h6_6, oA6.out, h7_6, oB6.out, b6⟩
              · go_simp
                obtain ⟨y3, hy3⟩ : ∃ y, y = y2.alloc (.cells #[.int .i64 0, .int .i64 0, .string ⟨#[]⟩, .slice none 0 0] 24) := ⟨_, rfl⟩
                obtain ⟨X6, hX6⟩ : ∃ X, X = y2.heap.size := ⟨_, rfl⟩
                have c3 : Below y2.heap.size y2 y3 := by rw [hy3]; exact (Below.refl _ _).alloc (Nat.le_refl _) _
                have h6_3 : y3.heap[X6]? = some (.cells #[.int .i64 0, .int .i64 0, .string ⟨#[]⟩, .slice none 0 0] 24) := by rw [hy3, hX6]; exact heap_alloc_new _ _
                have lX6 : w2.heap.size ≤ X6 := by rw [hX6]; exact b2.size
                rw [← hy3, ← hX6]
                have b3 := bmm b2 b2.size c3
                have oA3 : Hid (OwnEn y3 w2.heap.size (.slice pA nA qA) (foldD d l).es) := own_keep oA2.out (fun g e => c3.block g (World.ownsRow.lt oA2.out g e).2)
                have h7_3 : y3.heap[X7]? = some _ := (c3.block X7 (lt_of_block h7_2)).trans h7_2
                have ne67 : X6 ≠ X7 := by have := lt_of_block h7_2; omega
                clear hX6 hy3
                have s3 := SC.out y3 b3
                have s30 := s3.1
                have s31 := s3.2.1
                have s32 := s3.2.2.1
                have s33 := s3.2.2.2
                clear s3
                refine hK.out _ _ ?_ (fun hHeld => ?_)
                · try dsimp only
                  go_keep
                clear hK K
                try simp only [Act.put, List.setIfInBounds_toArray, List.set_cons_zero, List.set_cons_succ]
                refine cl5 (by kernel_rfl) rfl (fun K hK => ?_)
                go_simp
                go_at_call 11
                refine (rfold_any _ d _ _ l (RD.out _ b3) (RL.out _ b3) (by omega) (by omega)).mono ?_
                rintro e y4 ⟨vB, rfl, oB0, c4⟩
                obtain ⟨pB, nB, qB, rfl⟩ := own_form oB0
                have b4 := bmm b3 b3.size c4
                have oA4 : Hid (OwnEn y4 w2.heap.size (.slice pA nA qA) (foldD d l).es) := own_keep oA3.out (fun g e => c4.block g (World.ownsRow.lt oA3.out g e).2)
                have h6_4 : y4.heap[X6]? = some _ := (c4.block X6 (lt_of_block h6_3)).trans h6_3
                have h7_4 : y4.heap[X7]? = some _ := (c4.block X7 (lt_of_block h7_3)).trans h7_3
                have oB4 : Hid (OwnEn y4 w2.heap.size (.slice pB nB qB) (foldD d l).es) := own_mono oB0 b3.size
                clear oB0
                have s4 := SC.out y4 b4
                have s40 := s4.1
                have s41 := s4.2.1
                have s42 := s4.2.2.1
                have s43 := s4.2.2.2
                clear s4
                refine hK.out _ _ ?_ (fun hHeld => ?_)
                · try dsimp only
                  go_keep
                clear hK K
                try simp only [Act.put, List.setIfInBounds_toArray, List.set_cons_zero, List.set_cons_succ]
                refine cl8 (by kernel_rfl) rfl (fun K hK => ?_)
                skip
                refine wp_store_row 24 _ _ rfl X6 (duA (foldD d l) (.slice pA nA qA)) rfl rfl 24 _ h6_4 sizeDu rfl (by simp [Value.oneCell']) ?_
                obtain ⟨y5, hy5⟩ : ∃ y, y = y4.setRow X6 (duA (foldD d l) (.slice pA nA qA)) := ⟨_, rfl⟩
                have h6_5 : y5.heap[X6]? = some (.cells (duA (foldD d l) (.slice pA nA qA)) 24 (0, 0)) := by rw [hy5]; exact setRow_heap _ X6 _ _ _ _ h6_4
                have g5 : y4.grownBy y5 (some X6) := by rw [hy5]; exact grown_setRow_g _ _ _
                rw [← hy5]
                clear hy5
                have b5 := b4.grown g5 b4.size (fun k hk => by have := Option.some.inj hk; have := lX6; omega)
                have oA5 : Hid (OwnEn y5 w2.heap.size (.slice pA nA qA) (foldD d l).es) := own_keep oA4.out (fun g e => g5.block g (World.ownsRow.lt oA4.out g e).2 (fun e2 => own_ne oA4.out h6_4 (by decide) (by rw [e, e2])))
                have oB5 : Hid (OwnEn y5 w2.heap.size (.slice pB nB qB) (foldD d l).es) := own_keep oB4.out (fun g e => g5.block g (World.ownsRow.lt oB4.out g e).2 (fun e2 => own_ne oB4.out h6_4 (by decide) (by rw [e, e2])))
                have h7_5 : y5.heap[X7]? = some _ := (g5.block X7 (lt_of_block h7_4) (fun e2 => ne67 (by have := Option.some.inj e2; omega))).trans h7_4
                have s5 := SC.out y5 b5
                have s50 := s5.1
                have s51 := s5.2.1
                have s52 := s5.2.2.1
                have s53 := s5.2.2.2
                clear s5
                refine hK.out _ _ ?_ (fun hHeld => ?_)
                · try dsimp only
                  go_keep
                clear hK K
                refine cl9 (by kernel_rfl) rfl (fun K hK => ?_)
                skip
                refine wp_store_row 24 _ _ rfl X7 (duA (foldD d l) (.slice pB nB qB)) rfl rfl 24 _ h7_5 sizeDu rfl (by simp [Value.oneCell']) ?_
                obtain ⟨y6, hy6⟩ : ∃ y, y = y5.setRow X7 (duA (foldD d l) (.slice pB nB qB)) := ⟨_, rfl⟩
                have h7_6 : y6.heap[X7]? = some (.cells (duA (foldD d l) (.slice pB nB qB)) 24 (0, 0)) := by rw [hy6]; exact setRow_heap _ X7 _ _ _ _ h7_5
                have g6 : y5.grownBy y6 (some X7) := by rw [hy6]; exact grown_setRow_g _ _ _
                rw [← hy6]
                clear hy6
                have b6 := b5.grown g6 b5.size (fun k hk => by have := Option.some.inj hk; have := lX7; omega)
                have oA6 : Hid (OwnEn y6 w2.heap.size (.slice pA nA qA) (foldD d l).es) := own_keep oA5.out (fun g e => g6.block g (World.ownsRow.lt oA5.out g e).2 (fun e2 => own_ne oA5.out h7_5 (by decide) (by rw [e, e2])))
                have oB6 : Hid (OwnEn y6 w2.heap.size (.slice pB nB qB) (foldD d l).es) := own_keep oB5.out (fun g e => g6.block g (World.ownsRow.lt oB5.out g e).2 (fun e2 => own_ne oB5.out h7_5 (by decide) (by rw [e, e2])))
                have h6_6 : y6.heap[X6]? = some _ := (g6.block X6 (lt_of_block h6_5) (fun e2 => ne67 (by have := Option.some.inj e2; omega))).trans h6_5
                have s6 := SC.out y6 b6
                have s60 := s6.1
                have s61 := s6.2.1
                have s62 := s6.2.2.1
                have s63 := s6.2.2.2
                clear s6
                refine hK.out _ _ ?_ (fun hHeld => ?_)
                · try dsimp only
                  go_keep
                clear hK K
                refine wpAnyH_done (by kernel_rfl) ?_ _
                go_wp2
                go_meet
                exact ⟨X6, X7, _, _, rfl, rfl, h6_6, oA6.out, h7_6, oB6.out, b6⟩
          · go_simp
            obtain ⟨y1, hy1⟩ : ∃ y, y = y0.alloc (.cells #[.int .i64 0, .int .i64 0, .string ⟨#[]⟩, .slice none 0 0] 24) := ⟨_, rfl⟩
            obtain ⟨X6, hX6⟩ : ∃ X, X = y0.heap.size := ⟨_, rfl⟩
            have c1 : Below y0.heap.size y0 y1 := by rw [hy1]; exact (Below.refl _ _).alloc (Nat.le_refl _) _
            have h6_1 : y1.heap[X6]? = some (.cells #[.int .i64 0, .int .i64 0, .string ⟨#[]⟩, .slice none 0 0] 24) := by rw [hy1, hX6]; exact heap_alloc_new _ _
            have lX6 : w2.heap.size ≤ X6 := by rw [hX6]; exact b0.size
            rw [← hy1, ← hX6]
            have b1 := bmm b0 b0.size c1
            clear hX6 hy1
            have s1 := SC.out y1 b1
            have s10 := s1.1
            have s11 := s1.2.1
            have s12 := s1.2.2.1
            have s13 := s1.2.2.2
            clear s1
            refine hK.out _ _ ?_ (fun hHeld => ?_)
            · try dsimp only
              go_keep
            clear hK K
            try simp only [Act.put, List.setIfInBounds_toArray, List.set_cons_zero, List.set_cons_succ]
            refine rd2_7 (by kernel_rfl) rfl rfl (fun K hK => ?_) (fun K hK => ?_)
            · go_simp
              go_at_call 10
              refine (hP.fold _ d _ _ l (RD.out _ b1) (RL.out _ b1) HR.out (by omega) (by omega) hsz hszl).mono ?_
              rintro e y2 ⟨vA, rfl, oA0, c2⟩
              obtain ⟨pA, nA, qA, rfl⟩ := own_form oA0
              have b2 := bmm b1 b1.size c2
              have h6_2 : y2.heap[X6]? = some _ := (c2.block X6 (lt_of_block h6_1)).trans h6_1
              have oA2 : Hid (OwnEn y2 w2.heap.size (.slice pA nA qA) (foldD d l).es) := own_mono oA0 b1.size
              clear oA0
              have s2 := SC.out y2 b2
              have s20 := s2.1
              have s21 := s2.2.1
              have s22 := s2.2.2.1
              have s23 := s2.2.2.2
              clear s2
              refine hK.out _ _ ?_ (fun hHeld => ?_)
              · try dsimp only
                go_keep
              clear hK K
              try simp only [Act.put, List.setIfInBounds_toArray, List.set_cons_zero, List.set_cons_succ]
              refine rd5_7 (by kernel_rfl) rfl rfl (fun K hK => ?_) (fun K hK => ?_)
              · go_simp
                go_at_call 11
                refine (rfold_any _ d _ _ l (RD.out _ b2) (RL.out _ b2) (by omega) (by omega)).mono ?_
                rintro e y3 ⟨vB, rfl, oB0, c3⟩
                obtain ⟨pB, nB, qB, rfl⟩ := own_form oB0
                have b3 := bmm b2 b2.size c3
                have oA3 : Hid (OwnEn y3 w2.heap.size (.slice pA nA qA) (foldD d l).es) := own_keep oA2.out (fun g e => c3.block g (World.ownsRow.lt oA2.out g e).2)
                have h6_3 : y3.heap[X6]? = some _ := (c3.block X6 (lt_of_block h6_2)).trans h6_2
                have oB3 : Hid (OwnEn y3 w2.heap.size (.slice pB nB qB) (foldD d l).es) := own_mono oB0 b2.size
                clear oB0
                have s3 := SC.out y3 b3
                have s30 := s3.1
                have s31 := s3.2.1
                have s32 := s3.2.2.1
                have s33 := s3.2.2.2
                clear s3
                refine hK.out _ _ ?_ (fun hHeld => ?_)
                · try dsimp only
                  go_keep
                clear hK K
                try simp only [Act.put, List.setIfInBounds_toArray, List.set_cons_zero, List.set_cons_succ]
                refine cl7 (by kernel_rfl) rfl (fun K hK => ?_)
                go_simp
                obtain ⟨y4, hy4⟩ : ∃ y, y = y3.alloc (.cells #[.int .i64 0, .int .i64 0, .string ⟨#[]⟩, .slice none 0 0] 24) := ⟨_, rfl⟩
                obtain ⟨X7, hX7⟩ : ∃ X, X = y3.heap.size := ⟨_, rfl⟩
                have c4 : Below y3.heap.size y3 y4 := by rw [hy4]; exact (Below.refl _ _).alloc (Nat.le_refl _) _
                have h7_4 : y4.heap[X7]? = some (.cells #[.int .i64 0, .int .i64 0, .string ⟨#[]⟩, .slice none 0 0] 24) := by rw [hy4, hX7]; exact heap_alloc_new _ _
                have lX7 : w2.heap.size ≤ X7 := by rw [hX7]; exact b3.size
                rw [← hy4, ← hX7]
                have b4 := bmm b3 b3.size c4
                have oA4 : Hid (OwnEn y4 w2.heap.size (.slice pA nA qA) (foldD d l).es) := own_keep oA3.out (fun g e => c4.block g (World.ownsRow.lt oA3.out g e).2)
                have oB4 : Hid (OwnEn y4 w2.heap.size (.slice pB nB qB) (foldD d l).es) := own_keep oB3.out (fun g e => c4.block g (World.ownsRow.lt oB3.out g e).2)
                have h6_4 : y4.heap[X6]? = some _ := (c4.block X6 (lt_of_block h6_3)).trans h6_3
                have ne67 : X6 ≠ X7 := by have := lt_of_block h6_3; omega
                clear hX7 hy4
                have s4 := SC.out y4 b4
                have s40 := s4.1
                have s41 := s4.2.1
                have s42 := s4.2.2.1
                have s43 := s4.2.2.2
                clear s4
                refine hK.out _ _ ?_ (fun hHeld => ?_)
                · try dsimp only
                  go_keep
                clear hK K
                try simp only [Act.put, List.setIfInBounds_toArray, List.set_cons_zero, List.set_cons_succ]
                refine cl8 (by kernel_rfl) rfl (fun K hK => ?_)
                skip
                refine wp_store_row 24 _ _ rfl X6 (duA (foldD d l) (.slice pA nA qA)) rfl rfl 24 _ h6_4 sizeDu rfl (by simp [Value.oneCell']) ?_
                obtain ⟨y5, hy5⟩ : ∃ y, y = y4.setRow X6 (duA (foldD d l) (.slice pA nA qA)) := ⟨_, rfl⟩
                have h6_5 : y5.heap[X6]? = some (.cells (duA (foldD d l) (.slice pA nA qA)) 24 (0, 0)) := by rw [hy5]; exact setRow_heap _ X6 _ _ _ _ h6_4
                have g5 : y4.grownBy y5 (some X6) := by rw [hy5]; exact grown_setRow_g _ _ _
                rw [← hy5]
                clear hy5
                have b5 := b4.grown g5 b4.size (fun k hk => by have := Option.some.inj hk; have := lX6; omega)
                have oA5 : Hid (OwnEn y5 w2.heap.size (.slice pA nA qA) (foldD d l).es) := own_keep oA4.out (fun g e => g5.block g (World.ownsRow.lt oA4.out g e).2 (fun e2 => own_ne oA4.out h6_4 (by decide) (by rw [e, e2])))
                have oB5 : Hid (OwnEn y5 w2.heap.size (.slice pB nB qB) (foldD d l).es) := own_keep oB4.out (fun g e => g5.block g (World.ownsRow.lt oB4.out g e).2 (fun e2 => own_ne oB4.out h6_4 (by decide) (by rw [e, e2])))
                have h7_5 : y5.heap[X7]? = some _ := (g5.block X7 (lt_of_block h7_4) (fun e2 => ne67 (by have := Option.some.inj e2; omega))).trans h7_4
                have s5 := SC.out y5 b5
                have s50 := s5.1
                have s51 := s5.2.1
                have s52 := s5.2.2.1
                have s53 := s5.2.2.2
                clear s5
                refine hK.out _ _ ?_ (fun hHeld => ?_)
                · try dsimp only
                  go_keep
                clear hK K
                refine cl9 (by kernel_rfl) rfl (fun K hK => ?_)
                skip
                refine wp_store_row 24 _ _ rfl X7 (duA (foldD d l) (.slice pB nB qB)) rfl rfl 24 _ h7_5 sizeDu rfl (by simp [Value.oneCell']) ?_
                obtain ⟨y6, hy6⟩ : ∃ y, y = y5.setRow X7 (duA (foldD d l) (.slice pB nB qB)) := ⟨_, rfl⟩
                have h7_6 : y6.heap[X7]? = some (.cells (duA (foldD d l) (.slice pB nB qB)) 24 (0, 0)) := by rw [hy6]; exact setRow_heap _ X7 _ _ _ _ h7_5
                have g6 : y5.grownBy y6 (some X7) := by rw [hy6]; exact grown_setRow_g _ _ _
                rw [← hy6]
                clear hy6
                have b6 := b5.grown g6 b5.size (fun k hk => by have := Option.some.inj hk; have := lX7; omega)
                have oA6 : Hid (OwnEn y6 w2.heap.size (.slice pA nA qA) (foldD d l).es) := own_keep oA5.out (fun g e => g6.block g (World.ownsRow.lt oA5.out g e).2 (fun e2 => own_ne oA5.out h7_5 (by decide) (by rw [e, e2])))
                have oB6 : Hid (OwnEn y6 w2.heap.size (.slice pB nB qB) (foldD d l).es) := own_keep oB5.out (fun g e => g6.block g (World.ownsRow.lt oB5.out g e).2 (fun e2 => own_ne oB5.out h7_5 (by decide) (by rw [e, e2])))
                have h6_6 : y6.heap[X6]? = some _ := (g6.block X6 (lt_of_block h6_5) (fun e2 => ne67 (by have := Option.some.inj e2; omega))).trans h6_5
                have s6 := SC.out y6 b6
                have s60 := s6.1
                have s61 := s6.2.1
                have s62 := s6.2.2.1
                have s63 := s6.2.2.2
                clear s6
                refine hK.out _ _ ?_ (fun hHeld => ?_)
                · try dsimp only
                  go_keep
                clear hK K
                refine wpAnyH_done (by kernel_rfl) ?_ _
                go_wp2
                go_meet
                exact ⟨X6, X7, _, _, rfl, rfl, h6_6, oA6.out, h7_6, oB6.out, b6⟩
              · go_simp
                obtain ⟨y3, hy3⟩ : ∃ y, y = y2.alloc (.cells #[.int .i64 0, .int .i64 0, .string ⟨#[]⟩, .slice none 0 0] 24) := ⟨_, rfl⟩
                obtain ⟨X7, hX7⟩ : ∃ X, X = y2.heap.size := ⟨_, rfl⟩
                have c3 : Below y2.heap.size y2 y3 := by rw [hy3]; exact (Below.refl _ _).alloc (Nat.le_refl _) _
                have h7_3 : y3.heap[X7]? = some (.cells #[.int .i64 0, .int .i64 0, .string ⟨#[]⟩, .slice none 0 0] 24) := by rw [hy3, hX7]; exact heap_alloc_new _ _
                have lX7 : w2.heap.size ≤ X7 := by rw [hX7]; exact b2.size
                rw [← hy3, ← hX7]
                have b3 := bmm b2 b2.size c3
                have oA3 : Hid (OwnEn y3 w2.heap.size (.slice pA nA qA) (foldD d l).es) := own_keep oA2.out (fun g e => c3.block g (World.ownsRow.lt oA2.out g e).2)
                have h6_3 : y3.heap[X6]? = some _ := (c3.block X6 (lt_of_block h6_2)).trans h6_2
                have ne67 : X6 ≠ X7 := by have := lt_of_block h6_2; omega
                clear hX7 hy3
                have s3 := SC.out y3 b3
                have s30 := s3.1
                have s31 := s3.2.1
                have s32 := s3.2.2.1
                have s33 := s3.2.2.2
                clear s3
                refine hK.out _ _ ?_ (fun hHeld => ?_)
                · try dsimp only
                  go_keep
                clear hK K
                try simp only [Act.put, List.setIfInBounds_toArray, List.set_cons_zero, List.set_cons_succ]
                refine cl5 (by kernel_rfl) rfl (fun K hK => ?_)
                go_simp
                go_at_call 11
                refine (rfold_any _ d _ _ l (RD.out _ b3) (RL.out _ b3) (by omega) (by omega)).mono ?_
                rintro e y4 ⟨vB, rfl, oB0, c4⟩
                obtain ⟨pB, nB, qB, rfl⟩ := own_form oB0
                have b4 := bmm b3 b3.size c4
                have oA4 : Hid (OwnEn y4 w2.heap.size (.slice pA nA qA) (foldD d l).es) := own_keep oA3.out (fun g e => c4.block g (World.ownsRow.lt oA3.out g e).2)
                have h6_4 : y4.heap[X6]? = some _ := (c4.block X6 (lt_of_block h6_3)).trans h6_3
                have h7_4 : y4.heap[X7]? = some _ := (c4.block X7 (lt_of_block h7_3)).trans h7_3
                have oB4 : Hid (OwnEn y4 w2.heap.size (.slice pB nB qB) (foldD d l).es) := own_mono oB0 b3.size
                clear oB0
                have s4 := SC.out y4 b4
                have s40 := s4.1
                have s41 := s4.2.1
                have s42 := s4.2.2.1
                have s43 := s4.2.2.2
                clear s4
                refine hK.out _ _ ?_ (fun hHeld => ?_)
                · try dsimp only
                  go_keep
                clear hK K
                try simp only [Act.put, List.setIfInBounds_toArray, List.set_cons_zero, List.set_cons_succ]
                refine cl8 (by kernel_rfl) rfl (fun K hK => ?_)
                skip
                refine wp_store_row 24 _ _ rfl X6 (duA (foldD d l) (.slice pA nA qA)) rfl rfl 24 _ h6_4 sizeDu rfl (by simp [Value.oneCell']) ?_
                obtain ⟨y5, hy5⟩ : ∃ y, y = y4.setRow X6 (duA (foldD d l) (.slice pA nA qA)) := ⟨_, rfl⟩
                have h6_5 : y5.heap[X6]? = some (.cells (duA (foldD d l) (.slice pA nA qA)) 24 (0, 0)) := by rw [hy5]; exact setRow_heap _ X6 _ _ _ _ h6_4
                have g5 : y4.grownBy y5 (some X6) := by rw [hy5]; exact grown_setRow_g _ _ _
                rw [← hy5]
                clear hy5
                have b5 := b4.grown g5 b4.size (fun k hk => by have := Option.some.inj hk; have := lX6; omega)
                have oA5 : Hid (OwnEn y5 w2.heap.size (.slice pA nA qA) (foldD d l).es) := own_keep oA4.out (fun g e => g5.block g (World.ownsRow.lt oA4.out g e).2 (fun e2 => own_ne oA4.out h6_4 (by decide) (by rw [e, e2])))
                have oB5 : Hid (OwnEn y5 w2.heap.size (.slice pB nB qB) (foldD d l).es) := own_keep oB4.out (fun g e => g5.block g (World.ownsRow.lt oB4.out g e).2 (fun e2 => own_ne oB4.out h6_4 (by decide) (by rw [e, e2])))
                have h7_5 : y5.heap[X7]? = some _ := (g5.block X7 (lt_of_block h7_4) (fun e2 => ne67 (by have := Option.some.inj e2; omega))).trans h7_4
                have s5 := SC.out y5 b5
                have s50 := s5.1
                have s51 := s5.2.1
                have s52 := s5.2.2.1
                have s53 := s5.2.2.2
                clear s5
                refine hK.out _ _ ?_ (fun hHeld => ?_)
                · try dsimp only
                  go_keep
                clear hK K
                refine cl9 (by kernel_rfl) rfl (fun K hK => ?_)
                skip
                refine wp_store_row 24 _ _ rfl X7 (duA (foldD d l) (.slice pB nB qB)) rfl rfl 24 _ h7_5 sizeDu rfl (by simp [Value.oneCell']) ?_
                obtain ⟨y6, hy6⟩ : ∃ y, y = y5.setRow X7 (duA (foldD d l) (.slice pB nB qB)) := ⟨_, rfl⟩
                have h7_6 : y6.heap[X7]? = some (.cells (duA (foldD d l) (.slice pB nB qB)) 24 (0, 0)) := by rw [hy6]; exact setRow_heap _ X7 _ _ _ _ h7_5
                have g6 : y5.grownBy y6 (some X7) := by rw [hy6]; exact grown_setRow_g _ _ _
                rw [← hy6]
                clear hy6
                have b6 := b5.grown g6 b5.size (fun k hk => by have := Option.some.inj hk; have := lX7; omega)
                have oA6 : Hid (OwnEn y6 w2.heap.size (.slice pA nA qA) (foldD d l).es) := own_keep oA5.out (fun g e => g6.block g (World.ownsRow.lt oA5.out g e).2 (fun e2 => own_ne oA5.out h7_5 (by decide) (by rw [e, e2])))
                have oB6 : Hid (OwnEn y6 w2.heap.size (.slice pB nB qB) (foldD d l).es) := own_keep oB5.out (fun g e => g6.block g (World.ownsRow.lt oB5.out g e).2 (fun e2 => own_ne oB5.out h7_5 (by decide) (by rw [e, e2])))
                have h6_6 : y6.heap[X6]? = some _ := (g6.block X6 (lt_of_block h6_5) (fun e2 => ne67 (by have := Option.some.inj e2; omega))).trans h6_5
                have s6 := SC.out y6 b6
                have s60 := s6.1
                have s61 := s6.2.1
                have s62 := s6.2.2.1
                have s63 := s6.2.2.2
                clear s6
                refine hK.out _ _ ?_ (fun hHeld => ?_)
                · try dsimp only
                  go_keep
                clear hK K
                refine wpAnyH_done (by kernel_rfl) ?_ _
                go_wp2
                go_meet
                exact ⟨X6, X7, _, _, rfl, rfl, h6_6, oA6.out, h7_6, oB6.out, b6⟩
            · go_simp
              obtain ⟨y2, hy2⟩ : ∃ y, y = y1.alloc (.cells #[.int .i64 0, .int .i64 0, .string ⟨#[]⟩, .slice none 0 0] 24) := ⟨_, rfl⟩
              obtain ⟨X7, hX7⟩ : ∃ X, X = y1.heap.size := ⟨_, rfl⟩
              have c2 : Below y1.heap.size y1 y2 := by rw [hy2]; exact (Below.refl _ _).alloc (Nat.le_refl _) _
              have h7_2 : y2.heap[X7]? = some (.cells #[.int .i64 0, .int .i64 0, .string ⟨#[]⟩, .slice none 0 0] 24) := by rw [hy2, hX7]; exact heap_alloc_new _ _
              have lX7 : w2.heap.size ≤ X7 := by rw [hX7]; exact b1.size
              rw [← hy2, ← hX7]
              have b2 := bmm b1 b1.size c2
              have h6_2 : y2.heap[X6]? = some _ := (c2.block X6 (lt_of_block h6_1)).trans h6_1
              have ne67 : X6 ≠ X7 := by have := lt_of_block h6_1; omega
              clear hX7 hy2
              have s2 := SC.out y2 b2
              have s20 := s2.1
              have s21 := s2.2.1
              have s22 := s2.2.2.1
              have s23 := s2.2.2.2
              clear s2
              refine hK.out _ _ ?_ (fun hHeld => ?_)
              · try dsimp only
                go_keep
              clear hK K
              try simp only [Act.put, List.setIfInBounds_toArray, List.set_cons_zero, List.set_cons_succ]
              refine cl2 (by kernel_rfl) rfl (fun K hK => ?_)
              go_simp
              go_at_call 10
              refine (hP.fold _ d _ _ l (RD.out _ b2) (RL.out _ b2) HR.out (by omega) (by omega) hsz hszl).mono ?_
              rintro e y3 ⟨vA, rfl, oA0, c3⟩
              obtain ⟨pA, nA, qA, rfl⟩ := own_form oA0
              have b3 := bmm b2 b2.size c3
              have h6_3 : y3.heap[X6]? = some _ := (c3.block X6 (lt_of_block h6_2)).trans h6_2
              have h7_3 : y3.heap[X7]? = some _ := (c3.block X7 (lt_of_block h7_2)).trans h7_2
              have oA3 : Hid (OwnEn y3 w2.heap.size (.slice pA nA qA) (foldD d l).es) := own_mono oA0 b2.size
              clear oA0
              have s3 := SC.out y3 b3
              have s30 := s3.1
              have s31 := s3.2.1
              have s32 := s3.2.2.1
              have s33 := s3.2.2.2
              clear s3
              refine hK.out _ _ ?_ (fun hHeld => ?_)
              · try dsimp only
                go_keep
              clear hK K
              try simp only [Act.put, List.setIfInBounds_toArray, List.set_cons_zero, List.set_cons_succ]
              refine cl5 (by kernel_rfl) rfl (fun K hK => ?_)
              go_simp
              go_at_call 11
              refine (rfold_any _ d _ _ l (RD.out _ b3) (RL.out _ b3) (by omega) (by omega)).mono ?_
              rintro e y4 ⟨vB, rfl, oB0, c4⟩
              obtain ⟨pB, nB, qB, rfl⟩ := own_form oB0
              have b4 := bmm b3 b3.size c4
              have oA4 : Hid (OwnEn y4 w2.heap.size (.slice pA nA qA) (foldD d l).es) := own_keep oA3.out (fun g e => c4.block g (World.ownsRow.lt oA3.out g e).2)
              have h6_4 : y4.heap[X6]? = some _ := (c4.block X6 (lt_of_block h6_3)).trans h6_3
              have h7_4 : y4.heap[X7]? = some _ := (c4.block X7 (lt_of_block h7_3)).trans h7_3
              have oB4 : Hid (OwnEn y4 w2.heap.size (.slice pB nB qB) (foldD d l).es) := own_mono oB0 b3.size
              clear oB0
              have s4 := SC.out y4 b4
              have s40 := s4.1
              have s41 := s4.2.1
              have s42 := s4.2.2.1
              have s43 := s4.2.2.2
              clear s4
              refine hK.out _ _ ?_ (fun hHeld => ?_)
              · try dsimp only
                go_keep
              clear hK K
              try simp only [Act.put, List.setIfInBounds_toArray, List.set_cons_zero, List.set_cons_succ]
              refine cl8 (by kernel_rfl) rfl (fun K hK => ?_)
              skip
              refine wp_store_row 24 _ _ rfl X6 (duA (foldD d l) (.slice pA nA qA)) rfl rfl 24 _ h6_4 sizeDu rfl (by simp [Value.oneCell']) ?_
              obtain ⟨y5, hy5⟩ : ∃ y, y = y4.setRow X6 (duA (foldD d l) (.slice pA nA qA)) := ⟨_, rfl⟩
              have h6_5 : y5.heap[X6]? = some (.cells (duA (foldD d l) (.slice pA nA qA)) 24 (0, 0)) := by rw [hy5]; exact setRow_heap _ X6 _ _ _ _ h6_4
              have g5 : y4.grownBy y5 (some X6) := by rw [hy5]; exact grown_setRow_g _ _ _
              rw [← hy5]
              clear hy5
              have b5 := b4.grown g5 b4.size (fun k hk => by have := Option.some.inj hk; have := lX6; omega)
              have oA5 : Hid (OwnEn y5 w2.heap.size (.slice pA nA qA) (foldD d l).es) := own_keep oA4.out (fun g e => g5.block g (World.ownsRow.lt oA4.out g e).2 (fun e2 => own_ne oA4.out h6_4 (by decide) (by rw [e, e2])))
              have oB5 : Hid (OwnEn y5 w2.heap.size (.slice pB nB qB) (foldD d l).es) := own_keep oB4.out (fun g e => g5.block g (World.ownsRow.lt oB4.out g e).2 (fun e2 => own_ne oB4.out h6_4 (by decide) (by rw [e, e2])))
              have h7_5 : y5.heap[X7]? = some _ := (g5.block X7 (lt_of_block h7_4) (fun e2 => ne67 (by have := Option.some.inj e2; omega))).trans h7_4
              have s5 := SC.out y5 b5
              have s50 := s5.1
              have s51 := s5.2.1
              have s52 := s5.2.2.1
              have s53 := s5.2.2.2
              clear s5
              refine hK.out _ _ ?_ (fun hHeld => ?_)
              · try dsimp only
                go_keep
              clear hK K
              refine cl9 (by kernel_rfl) rfl (fun K hK => ?_)
              skip
              refine wp_store_row 24 _ _ rfl X7 (duA (foldD d l) (.slice pB nB qB)) rfl rfl 24 _ h7_5 sizeDu rfl (by simp [Value.oneCell']) ?_
              obtain ⟨y6, hy6⟩ : ∃ y, y = y5.setRow X7 (duA (foldD d l) (.slice pB nB qB)) := ⟨_, rfl⟩
              have h7_6 : y6.heap[X7]? = some (.cells (duA (foldD d l) (.slice pB nB qB)) 24 (0, 0)) := by rw [hy6]; exact setRow_heap _ X7 _ _ _ _ h7_5
              have g6 : y5.grownBy y6 (some X7) := by rw [hy6]; exact grown_setRow_g _ _ _
              rw [← hy6]
              clear hy6
              have b6 := b5.grown g6 b5.size (fun k hk => by have := Option.some.inj hk; have := lX7; omega)
              have oA6 : Hid (OwnEn y6 w2.heap.size (.slice pA nA qA) (foldD d l).es) := own_keep oA5.out (fun g e => g6.block g (World.ownsRow.lt oA5.out g e).2 (fun e2 => own_ne oA5.out h7_5 (by decide) (by rw [e, e2])))
              have oB6 : Hid (OwnEn y6 w2.heap.size (.slice pB nB qB) (foldD d l).es) := own_keep oB5.out (fun g e => g6.block g (World.ownsRow.lt oB5.out g e).2 (fun e2 => own_ne oB5.out h7_5 (by decide) (by rw [e, e2])))
              have h6_6 : y6.heap[X6]? = some _ := (g6.block X6 (lt_of_block h6_5) (fun e2 => ne67 (by have := Option.some.inj e2; omega))).trans h6_5
              have s6 := SC.out y6 b6
              have s60 := s6.1
              have s61 := s6.2.1
              have s62 := s6.2.2.1
              have s63 := s6.2.2.2
              clear s6
              refine hK.out _ _ ?_ (fun hHeld => ?_)
              · try dsimp only
                go_keep
              clear hK K
              refine wpAnyH_done (by kernel_rfl) ?_ _
              go_wp2
              go_meet
              exact ⟨X6, X7, _, _, rfl, rfl, h6_6, oA6.out, h7_6, oB6.out, b6⟩
          · go_simp
            obtain ⟨y1, hy1⟩ : ∃ y, y = y0.alloc (.cells #[.int .i64 0, .int .i64 0, .string ⟨#[]⟩, .slice none 0 0] 24) := ⟨_, rfl⟩
            obtain ⟨X7, hX7⟩ : ∃ X, X = y0.heap.size := ⟨_, rfl⟩
            have c1 : Below y0.heap.size y0 y1 := by rw [hy1]; exact (Below.refl _ _).alloc (Nat.le_refl _) _
            have h7_1 : y1.heap[X7]? = some (.cells #[.int .i64 0, .int .i64 0, .string ⟨#[]⟩, .slice none 0 0] 24) := by rw [hy1, hX7]; exact heap_alloc_new _ _
            have lX7 : w2.heap.size ≤ X7 := by rw [hX7]; exact b0.size
            rw [← hy1, ← hX7]
            have b1 := bmm b0 b0.size c1
            clear hX7 hy1
            have s1 := SC.out y1 b1
            have s10 := s1.1
            have s11 := s1.2.1
            have s12 := s1.2.2.1
            have s13 := s1.2.2.2
            clear s1
            refine hK.out _ _ ?_ (fun hHeld => ?_)
            · try dsimp only
              go_keep
            clear hK K
            try simp only [Act.put, List.setIfInBounds_toArray, List.set_cons_zero, List.set_cons_succ]
            refine rd2_6 (by kernel_rfl) rfl rfl (fun K hK => ?_) (fun K hK => ?_)
            · go_simp
              go_at_call 10
              refine (hP.fold _ d _ _ l (RD.out _ b1) (RL.out _ b1) HR.out (by omega) (by omega) hsz hszl).mono ?_
              rintro e y2 ⟨vA, rfl, oA0, c2⟩
              obtain ⟨pA, nA, qA, rfl⟩ := own_form oA0
              have b2 := bmm b1 b1.size c2
              have h7_2 : y2.heap[X7]? = some _ := (c2.block X7 (lt_of_block h7_1)).trans h7_1
              have oA2 : Hid (OwnEn y2 w2.heap.size (.slice pA nA qA) (foldD d l).es) := own_mono oA0 b1.size
              clear oA0
              have s2 := SC.out y2 b2
              have s20 := s2.1
              have s21 := s2.2.1
              have s22 := s2.2.2.1
              have s23 := s2.2.2.2
              clear s2
              refine hK.out _ _ ?_ (fun hHeld => ?_)
              · try dsimp only
                go_keep
              clear hK K
              try simp only [Act.put, List.setIfInBounds_toArray, List.set_cons_zero, List.set_cons_succ]
              refine rd5_6 (by kernel_rfl) rfl rfl (fun K hK => ?_) (fun K hK => ?_)
              · go_simp
                go_at_call 11
                refine (rfold_any _ d _ _ l (RD.out _ b2) (RL.out _ b2) (by omega) (by omega)).mono ?_
                rintro e y3 ⟨vB, rfl, oB0, c3⟩
                obtain ⟨pB, nB, qB, rfl⟩ := own_form oB0
                have b3 := bmm b2 b2.size c3
                have oA3 : Hid (OwnEn y3 w2.heap.size (.slice pA nA qA) (foldD d l).es) := own_keep oA2.out (fun g e => c3.block g (World.ownsRow.lt oA2.out g e).2)
                have h7_3 : y3.heap[X7]? = some _ := (c3.block X7 (lt_of_block h7_2)).trans h7_2
                have oB3 : Hid (OwnEn y3 w2.heap.size (.slice pB nB qB) (foldD d l).es) := own_mono oB0 b2.size
                clear oB0
                have s3 := SC.out y3 b3
                have s30 := s3.1
                have s31 := s3.2.1
                have s32 := s3.2.2.1
                have s33 := s3.2.2.2
                clear s3
                refine hK.out _ _ ?_ (fun hHeld => ?_)
                · try dsimp only
                  go_keep
                clear hK K
                try simp only [Act.put, List.setIfInBounds_toArray, List.set_cons_zero, List.set_cons_succ]
                refine cl6 (by kernel_rfl) rfl (fun K hK => ?_)
                go_simp
                obtain ⟨y4, hy4⟩ : ∃ y, y = y3.alloc (.cells #[.int .i64 0, .int .i64 0, .string ⟨#[]⟩, .slice none 0 0] 24) := ⟨_, rfl⟩
                obtain ⟨X6, hX6⟩ : ∃ X, X = y3.heap.size := ⟨_, rfl⟩
                have c4 : Below y3.heap.size y3 y4 := by rw [hy4]; exact (Below.refl _ _).alloc (Nat.le_refl _) _
                have h6_4 : y4.heap[X6]? = some (.cells #[.int .i64 0, .int .i64 0, .string ⟨#[]⟩, .slice none 0 0] 24) := by rw [hy4, hX6]; exact heap_alloc_new _ _
                have lX6 : w2.heap.size ≤ X6 := by rw [hX6]; exact b3.size
                rw [← hy4, ← hX6]
                have b4 := bmm b3 b3.size c4
                have oA4 : Hid (OwnEn y4 w2.heap.size (.slice pA nA qA) (foldD d l).es) := own_keep oA3.out (fun g e => c4.block g (World.ownsRow.lt oA3.out g e).2)
                have oB4 : Hid (OwnEn y4 w2.heap.size (.slice pB nB qB) (foldD d l).es) := own_keep oB3.out (fun g e => c4.block g (World.ownsRow.lt oB3.out g e).2)
                have h7_4 : y4.heap[X7]? = some _ := (c4.block X7 (lt_of_block h7_3)).trans h7_3
                have ne67 : X6 ≠ X7 := by have := lt_of_block h7_3; omega
                clear hX6 hy4
                have s4 := SC.out y4 b4
                have s40 := s4.1
                have s41 := s4.2.1
                have s42 := s4.2.2.1
                have s43 := s4.2.2.2
                clear s4
                refine hK.out _ _ ?_ (fun hHeld => ?_)
                · try dsimp only
                  go_keep
                clear hK K
                try simp only [Act.put, List.setIfInBounds_toArray, List.set_cons_zero, List.set_cons_succ]
                refine cl8 (by kernel_rfl) rfl (fun K hK => ?_)
                skip
                refine wp_store_row 24 _ _ rfl X6 (duA (foldD d l) (.slice pA nA qA)) rfl rfl 24 _ h6_4 sizeDu rfl (by simp [Value.oneCell']) ?_
                obtain ⟨y5, hy5⟩ : ∃ y, y = y4.setRow X6 (duA (foldD d l) (.slice pA nA qA)) := ⟨_, rfl⟩
                have h6_5 : y5.heap[X6]? = some (.cells (duA (foldD d l) (.slice pA nA qA)) 24 (0, 0)) := by rw [hy5]; exact setRow_heap _ X6 _ _ _ _ h6_4
                have g5 : y4.grownBy y5 (some X6) := by rw [hy5]; exact grown_setRow_g _ _ _
                rw [← hy5]
                clear hy5
                have b5 := b4.grown g5 b4.size (fun k hk => by have := Option.some.inj hk; have := lX6; omega)
                have oA5 : Hid (OwnEn y5 w2.heap.size (.slice pA nA qA) (foldD d l).es) := own_keep oA4.out (fun g e => g5.block g (World.ownsRow.lt oA4.out g e).2 (fun e2 => own_ne oA4.out h6_4 (by decide) (by rw [e, e2])))
                have oB5 : Hid (OwnEn y5 w2.heap.size (.slice pB nB qB) (foldD d l).es) := own_keep oB4.out (fun g e => g5.block g (World.ownsRow.lt oB4.out g e).2 (fun e2 => own_ne oB4.out h6_4 (by decide) (by rw [e, e2])))
                have h7_5 : y5.heap[X7]? = some _ := (g5.block X7 (lt_of_block h7_4) (fun e2 => ne67 (by have := Option.some.inj e2; omega))).trans h7_4
                have s5 := SC.out y5 b5
                have s50 := s5.1
                have s51 := s5.2.1
                have s52 := s5.2.2.1
                have s53 := s5.2.2.2
                clear s5
                refine hK.out _ _ ?_ (fun hHeld => ?_)
                · try dsimp only
                  go_keep
                clear hK K
                refine cl9 (by kernel_rfl) rfl (fun K hK => ?_)
                skip
                refine wp_store_row 24 _ _ rfl X7 (duA (foldD d l) (.slice pB nB qB)) rfl rfl 24 _ h7_5 sizeDu rfl (by simp [Value.oneCell']) ?_
                obtain ⟨y6, hy6⟩ : ∃ y, y = y5.setRow X7 (duA (foldD d l) (.slice pB nB qB)) := ⟨_, rfl⟩
                have h7_6 : y6.heap[X7]? = some (.cells (duA (foldD d l) (.slice pB nB qB)) 24 (0, 0)) := by rw [hy6]; exact setRow_heap _ X7 _ _ _ _ h7_5
                have g6 : y5.grownBy y6 (some X7) := by rw [hy6]; exact grown_setRow_g _ _ _
                rw [← hy6]
                clear hy6
                have b6 := b5.grown g6 b5.size (fun k hk => by have := Option.some.inj hk; have := lX7; omega)
                have oA6 : Hid (OwnEn y6 w2.heap.size (.slice pA nA qA) (foldD d l).es) := own_keep oA5.out (fun g e => g6.block g (World.ownsRow.lt oA5.out g e).2 (fun e2 => own_ne oA5.out h7_5 (by decide) (by rw [e, e2])))
                have oB6 : Hid (OwnEn y6 w2.heap.size (.slice pB nB qB) (foldD d l).es) := own_keep oB5.out (fun g e => g6.block g (World.ownsRow.lt oB5.out g e).2 (fun e2 => own_ne oB5.out h7_5 (by decide) (by rw [e, e2])))
                have h6_6 : y6.heap[X6]? = some _ := (g6.block X6 (lt_of_block h6_5) (fun e2 => ne67 (by have := Option.some.inj e2; omega))).trans h6_5
                have s6 := SC.out y6 b6
                have s60 := s6.1
                have s61 := s6.2.1
                have s62 := s6.2.2.1
                have s63 := s6.2.2.2
                clear s6
                refine hK.out _ _ ?_ (fun hHeld => ?_)
                · try dsimp only
                  go_keep
                clear hK K
                refine wpAnyH_done (by kernel_rfl) ?_ _
                go_wp2
                go_meet
                exact ⟨X6, X7, _, _, rfl, rfl, h6_6, oA6.out, h7_6, oB6.out, b6⟩
              · go_simp
                obtain ⟨y3, hy3⟩ : ∃ y, y = y2.alloc (.cells #[.int .i64 0, .int .i64 0, .string ⟨#[]⟩, .slice none 0 0] 24) := ⟨_, rfl⟩
                obtain ⟨X6, hX6⟩ : ∃ X, X = y2.heap.size := ⟨_, rfl⟩
                have c3 : Below y2.heap.size y2 y3 := by rw [hy3]; exact (Below.refl _ _).alloc (Nat.le_refl _) _
                have h6_3 : y3.heap[X6]? = some (.cells #[.int .i64 0, .int .i64 0, .string ⟨#[]⟩, .slice none 0 0] 24) := by rw [hy3, hX6]; exact heap_alloc_new _ _
                have lX6 : w2.heap.size ≤ X6 := by rw [hX6]; exact b2.size
                rw [← hy3, ← hX6]
                have b3 := bmm b2 b2.size c3
                have oA3 : Hid (OwnEn y3 w2.heap.size (.slice pA nA qA) (foldD d l).es) := own_keep oA2.out (fun g e => c3.block g (World.ownsRow.lt oA2.out g e).2)
                have h7_3 : y3.heap[X7]? = some _ := (c3.block X7 (lt_of_block h7_2)).trans h7_2
                have ne67 : X6 ≠ X7 := by have := lt_of_block h7_2; omega
                clear hX6 hy3
                have s3 := SC.out y3 b3
                have s30 := s3.1
                have s31 := s3.2.1
                have s32 := s3.2.2.1
                have s33 := s3.2.2.2
                clear s3
                refine hK.out _ _ ?_ (fun hHeld => ?_)
                · try dsimp only
                  go_keep
                clear hK K
                try simp only [Act.put, List.setIfInBounds_toArray, List.set_cons_zero, List.set_cons_succ]
                refine cl5 (by kernel_rfl) rfl (fun K hK => ?_)
                go_simp
                go_at_call 11
                refine (rfold_any _ d _ _ l (RD.out _ b3) (RL.out _ b3) (by omega) (by omega)).mono ?_
                rintro e y4 ⟨vB, rfl, oB0, c4⟩
                obtain ⟨pB, nB, qB, rfl⟩ := own_form oB0
                have b4 := bmm b3 b3.size c4
                have oA4 : Hid (OwnEn y4 w2.heap.size (.slice pA nA qA) (foldD d l).es) := own_keep oA3.out (fun g e => c4.block g (World.ownsRow.lt oA3.out g e).2)
                have h6_4 : y4.heap[X6]? = some _ := (c4.block X6 (lt_of_block h6_3)).trans h6_3
                have h7_4 : y4.heap[X7]? = some _ := (c4.block X7 (lt_of_block h7_3)).trans h7_3
                have oB4 : Hid (OwnEn y4 w2.heap.size (.slice pB nB qB) (foldD d l).es) := own_mono oB0 b3.size
                clear oB0
                have s4 := SC.out y4 b4
                have s40 := s4.1
                have s41 := s4.2.1
                have s42 := s4.2.2.1
                have s43 := s4.2.2.2
                clear s4
                refine hK.out _ _ ?_ (fun hHeld => ?_)
                · try dsimp only
                  go_keep
                clear hK K
                try simp only [Act.put, List.setIfInBounds_toArray, List.set_cons_zero, List.set_cons_succ]
                refine cl8 (by kernel_rfl) rfl (fun K hK => ?_)
                skip
                refine wp_store_row 24 _ _ rfl X6 (duA (foldD d l) (.slice pA nA qA)) rfl rfl 24 _ h6_4 sizeDu rfl (by simp [Value.oneCell']) ?_
                obtain ⟨y5, hy5⟩ : ∃ y, y = y4.setRow X6 (duA (foldD d l) (.slice pA nA qA)) := ⟨_, rfl⟩
                have h6_5 : y5.heap[X6]? = some (.cells (duA (foldD d l) (.slice pA nA qA)) 24 (0, 0)) := by rw [hy5]; exact setRow_heap _ X6 _ _ _ _ h6_4
                have g5 : y4.grownBy y5 (some X6) := by rw [hy5]; exact grown_setRow_g _ _ _
                rw [← hy5]
                clear hy5
                have b5 := b4.grown g5 b4.size (fun k hk => by have := Option.some.inj hk; have := lX6; omega)
                have oA5 : Hid (OwnEn y5 w2.heap.size (.slice pA nA qA) (foldD d l).es) := own_keep oA4.out (fun g e => g5.block g (World.ownsRow.lt oA4.out g e).2 (fun e2 => own_ne oA4.out h6_4 (by decide) (by rw [e, e2])))
                have oB5 : Hid (OwnEn y5 w2.heap.size (.slice pB nB qB) (foldD d l).es) := own_keep oB4.out (fun g e => g5.block g (World.ownsRow.lt oB4.out g e).2 (fun e2 => own_ne oB4.out h6_4 (by decide) (by rw [e, e2])))
                have h7_5 : y5.heap[X7]? = some _ := (g5.block X7 (lt_of_block h7_4) (fun e2 => ne67 (by have := Option.some.inj e2; omega))).trans h7_4
                have s5 := SC.out y5 b5
                have s50 := s5.1
                have s51 := s5.2.1
                have s52 := s5.2.2.1
                have s53 := s5.2.2.2
                clear s5
                refine hK.out _ _ ?_ (fun hHeld => ?_)
                · try dsimp only
                  go_keep
                clear hK K
                refine cl9 (by kernel_rfl) rfl (fun K hK => ?_)
                skip
                refine wp_store_row 24 _ _ rfl X7 (duA (foldD d l) (.slice pB nB qB)) rfl rfl 24 _ h7_5 sizeDu rfl (by simp [Value.oneCell']) ?_
                obtain ⟨y6, hy6⟩ : ∃ y, y = y5.setRow X7 (duA (foldD d l) (.slice pB nB qB)) := ⟨_, rfl⟩
                have h7_6 : y6.heap[X7]? = some (.cells (duA (foldD d l) (.slice pB nB qB)) 24 (0, 0)) := by rw [hy6]; exact setRow_heap _ X7 _ _ _ _ h7_5
                have g6 : y5.grownBy y6 (some X7) := by rw [hy6]; exact grown_setRow_g _ _ _
                rw [← hy6]
                clear hy6
                have b6 := b5.grown g6 b5.size (fun k hk => by have := Option.some.inj hk; have := lX7; omega)
                have oA6 : Hid (OwnEn y6 w2.heap.size (.slice pA nA qA) (foldD d l).es) := own_keep oA5.out (fun g e => g6.block g (World.ownsRow.lt oA5.out g e).2 (fun e2 => own_ne oA5.out h7_5 (by decide) (by rw [e, e2])))
                have oB6 : Hid (OwnEn y6 w2.heap.size (.slice pB nB qB) (foldD d l).es) := own_keep oB5.out (fun g e => g6.block g (World.ownsRow.lt oB5.out g e).2 (fun e2 => own_ne oB5.out h7_5 (by decide) (by rw [e, e2])))
                have h6_6 : y6.heap[X6]? = some _ := (g6.block X6 (lt_of_block h6_5) (fun e2 => ne67 (by have := Option.some.inj e2; omega))).trans h6_5
                have s6 := SC.out y6 b6
                have s60 := s6.1
                have s61 := s6.2.1
                have s62 := s6.2.2.1
                have s63 := s6.2.2.2
                clear s6
                refine hK.out _ _ ?_ (fun hHeld => ?_)
                · try dsimp only
                  go_keep
                clear hK K
                refine wpAnyH_done (by kernel_rfl) ?_ _
                go_wp2
                go_meet
                exact ⟨X6, X7, _, _, rfl, rfl, h6_6, oA6.out, h7_6, oB6.out, b6⟩
            · go_simp
              obtain ⟨y2, hy2⟩ : ∃ y, y = y1.alloc (.cells #[.int .i64 0, .int .i64 0, .string ⟨#[]⟩, .slice none 0 0] 24) := ⟨_, rfl⟩
              obtain ⟨X6, hX6⟩ : ∃ X, X = y1.heap.size := ⟨_, rfl⟩
              have c2 : Below y1.heap.size y1 y2 := by rw [hy2]; exact (Below.refl _ _).alloc (Nat.le_refl _) _
              have h6_2 : y2.heap[X6]? = some (.cells #[.int .i64 0, .int .i64 0, .string ⟨#[]⟩, .slice none 0 0] 24) := by rw [hy2, hX6]; exact heap_alloc_new _ _
              have lX6 : w2.heap.size ≤ X6 := by rw [hX6]; exact b1.size
              rw [← hy2, ← hX6]
              have b2 := bmm b1 b1.size c2
              have h7_2 : y2.heap[X7]? = some _ := (c2.block X7 (lt_of_block h7_1)).trans h7_1
              have ne67 : X6 ≠ X7 := by have := lt_of_block h7_1; omega
              clear hX6 hy2
              have s2 := SC.out y2 b2
              have s20 := s2.1
              have s21 := s2.2.1
              have s22 := s2.2.2.1
              have s23 := s2.2.2.2
              clear s2
              refine hK.out _ _ ?_ (fun hHeld => ?_)
              · try dsimp only
                go_keep
              clear hK K
              try simp only [Act.put, List.setIfInBounds_toArray, List.set_cons_zero, List.set_cons_succ]
              refine cl2 (by kernel_rfl) rfl (fun K hK => ?_)
              go_simp
              go_at_call 10
              refine (hP.fold _ d _ _ l (RD.out _ b2) (RL.out _ b2) HR.out (by omega) (by omega) hsz hszl).mono ?_
              rintro e y3 ⟨vA, rfl, oA0, c3⟩
              obtain ⟨pA, nA, qA, rfl⟩ := own_form oA0
              have b3 := bmm b2 b2.size c3
              have h6_3 : y3.heap[X6]? = some _ := (c3.block X6 (lt_of_block h6_2)).trans h6_2
              have h7_3 : y3.heap[X7]? = some _ := (c3.block X7 (lt_of_block h7_2)).trans h7_2
              have oA3 : Hid (OwnEn y3 w2.heap.size (.slice pA nA qA) (foldD d l).es) := own_mono oA0 b2.size
              clear oA0
              have s3 := SC.out y3 b3
              have s30 := s3.1
              have s31 := s3.2.1
              have s32 := s3.2.2.1
              have s33 := s3.2.2.2
              clear s3
              refine hK.out _ _ ?_ (fun hHeld => ?_)
              · try dsimp only
                go_keep
              clear hK K
              try simp only [Act.put, List.setIfInBounds_toArray, List.set_cons_zero, List.set_cons_succ]
              refine cl5 (by kernel_rfl) rfl (fun K hK => ?_)
              go_simp
              go_at_call 11
              refine (rfold_any _ d _ _ l (RD.out _ b3) (RL.out _ b3) (by omega) (by omega)).mono ?_
              rintro e y4 ⟨vB, rfl, oB0, c4⟩
              obtain ⟨pB, nB, qB, rfl⟩ := own_form oB0
              have b4 := bmm b3 b3.size c4
              have oA4 : Hid (OwnEn y4 w2.heap.size (.slice pA nA qA) (foldD d l).es) := own_keep oA3.out (fun g e => c4.block g (World.ownsRow.lt oA3.out g e).2)
              have h6_4 : y4.heap[X6]? = some _ := (c4.block X6 (lt_of_block h6_3)).trans h6_3
              have h7_4 : y4.heap[X7]? = some _ := (c4.block X7 (lt_of_block h7_3)).trans h7_3
              have oB4 : Hid (OwnEn y4 w2.heap.size (.slice pB nB qB) (foldD d l).es) := own_mono oB0 b3.size
              clear oB0
              have s4 := SC.out y4 b4
              have s40 := s4.1
              have s41 := s4.2.1
              have s42 := s4.2.2.1
              have s43 := s4.2.2.2
              clear s4
              refine hK.out _ _ ?_ (fun hHeld => ?_)
              · try dsimp only
                go_keep
              clear hK K
              try simp only [Act.put, List.setIfInBounds_toArray, List.set_cons_zero, List.set_cons_succ]
              refine cl8 (by kernel_rfl) rfl (fun K hK => ?_)
              skip
              refine wp_store_row 24 _ _ rfl X6 (duA (foldD d l) (.slice pA nA qA)) rfl rfl 24 _ h6_4 sizeDu rfl (by simp [Value.oneCell']) ?_
              obtain ⟨y5, hy5⟩ : ∃ y, y = y4.setRow X6 (duA (foldD d l) (.slice pA nA qA)) := ⟨_, rfl⟩
              have h6_5 : y5.heap[X6]? = some (.cells (duA (foldD d l) (.slice pA nA qA)) 24 (0, 0)) := by rw [hy5]; exact setRow_heap _ X6 _ _ _ _ h6_4
              have g5 : y4.grownBy y5 (some X6) := by rw [hy5]; exact grown_setRow_g _ _ _
              rw [← hy5]
              clear hy5
              have b5 := b4.grown g5 b4.size (fun k hk => by have := Option.some.inj hk; have := lX6; omega)
              have oA5 : Hid (OwnEn y5 w2.heap.size (.slice pA nA qA) (foldD d l).es) := own_keep oA4.out (fun g e => g5.block g (World.ownsRow.lt oA4.out g e).2 (fun e2 => own_ne oA4.out h6_4 (by decide) (by rw [e, e2])))
              have oB5 : Hid (OwnEn y5 w2.heap.size (.slice pB nB qB) (foldD d l).es) := own_keep oB4.out (fun g e => g5.block g (World.ownsRow.lt oB4.out g e).2 (fun e2 => own_ne oB4.out h6_4 (by decide) (by rw [e, e2])))
              have h7_5 : y5.heap[X7]? = some _ := (g5.block X7 (lt_of_block h7_4) (fun e2 => ne67 (by have := Option.some.inj e2; omega))).trans h7_4
              have s5 := SC.out y5 b5
              have s50 := s5.1
              have s51 := s5.2.1
              have s52 := s5.2.2.1
              have s53 := s5.2.2.2
              clear s5
              refine hK.out _ _ ?_ (fun hHeld => ?_)
              · try dsimp only
                go_keep
              clear hK K
              refine cl9 (by kernel_rfl) rfl (fun K hK => ?_)
              skip
              refine wp_store_row 24 _ _ rfl X7 (duA (foldD d l) (.slice pB nB qB)) rfl rfl 24 _ h7_5 sizeDu rfl (by simp [Value.oneCell']) ?_
              obtain ⟨y6, hy6⟩ : ∃ y, y = y5.setRow X7 (duA (foldD d l) (.slice pB nB qB)) := ⟨_, rfl⟩
              have h7_6 : y6.heap[X7]? = some (.cells (duA (foldD d l) (.slice pB nB qB)) 24 (0, 0)) := by rw [hy6]; exact setRow_heap _ X7 _ _ _ _ h7_5
              have g6 : y5.grownBy y6 (some X7) := by rw [hy6]; exact grown_setRow_g _ _ _
              rw [← hy6]
              clear hy6
              have b6 := b5.grown g6 b5.size (fun k hk => by have := Option.some.inj hk; have := lX7; omega)
              have oA6 : Hid (OwnEn y6 w2.heap.size (.slice pA nA qA) (foldD d l).es) := own_keep oA5.out (fun g e => g6.block g (World.ownsRow.lt oA5.out g e).2 (fun e2 => own_ne oA5.out h7_5 (by decide) (by rw [e, e2])))
              have oB6 : Hid (OwnEn y6 w2.heap.size (.slice pB nB qB) (foldD d l).es) := own_keep oB5.out (fun g e => g6.block g (World.ownsRow.lt oB5.out g e).2 (fun e2 => own_ne oB5.out h7_5 (by decide) (by rw [e, e2])))
              have h6_6 : y6.heap[X6]? = some _ := (g6.block X6 (lt_of_block h6_5) (fun e2 => ne67 (by have := Option.some.inj e2; omega))).trans h6_5
              have s6 := SC.out y6 b6
              have s60 := s6.1
              have s61 := s6.2.1
              have s62 := s6.2.2.1
              have s63 := s6.2.2.2
              clear s6
              refine hK.out _ _ ?_ (fun hHeld => ?_)
              · try dsimp only
                go_keep
              clear hK K
              refine wpAnyH_done (by kernel_rfl) ?_ _
              go_wp2
              go_meet
              exact ⟨X6, X7, _, _, rfl, rfl, h6_6, oA6.out, h7_6, oB6.out, b6⟩
        case rest =>
          obtain ⟨X6, X7, vA, vB, rfl, rfl, hA, oA, hB, oB, bc⟩ := hcut
          obtain ⟨pA, nA, qA, rfl⟩ := own_form oA
          obtain ⟨pB, nB, qB, rfl⟩ := own_form oB
          obtain ⟨F, hF⟩ : ∃ F, F = foldD d l := ⟨_, rfl⟩
          rw [← hF] at hA oA hB oB
          have hFl : F.es.length ≤ 1000000 := by rw [hF]; exact Nat.le_trans (foldD_length l d) (by omega)
          have Bc : Below W.heap.size W wc := bmm B2 B2.size bc
          have SD : Hid (∀ y : World, Below wc.heap.size wc y → y.cell? ⟨w.heap.size, 0, none⟩ = some (.int .i64 d.p) ∧ y.cell? ⟨w.heap.size, 1, none⟩ = some (.int .i64 d.b) ∧ y.cell? ⟨w.heap.size, 2, none⟩ = some (.string d.s) ∧ y.cell? ⟨w.heap.size, 3, none⟩ = some (.slice ad d.es.length cd) ∧ y.cell? ⟨(w.heap.size + 1), 0, none⟩ = some (.int .i64 o.p) ∧ y.cell? ⟨(w.heap.size + 1), 1, none⟩ = some (.int .i64 o.b) ∧ y.cell? ⟨(w.heap.size + 1), 2, none⟩ = some (.string o.s) ∧ y.cell? ⟨(w.heap.size + 1), 3, none⟩ = some (.slice ao o.es.length co) ∧ y.cell? ⟨X6, 0, none⟩ = some (.int .i64 F.p) ∧ y.cell? ⟨X6, 1, none⟩ = some (.int .i64 F.b) ∧ y.cell? ⟨X6, 2, none⟩ = some (.string F.s) ∧ y.cell? ⟨X6, 3, none⟩ = some (.slice pA nA qA) ∧ y.cell? ⟨X7, 0, none⟩ = some (.int .i64 F.p) ∧ y.cell? ⟨X7, 1, none⟩ = some (.int .i64 F.b) ∧ y.cell? ⟨X7, 2, none⟩ = some (.string F.s) ∧ y.cell? ⟨X7, 3, none⟩ = some (.slice pB nB qB)) := fun y b => by
            have h1 := LD.out y (bmm Bc Bc.size b)
            have h2 := LO.out y (bmm Bc Bc.size b)
            have h3 : DuAt y X6 F _ := (b.block _ (lt_of_block hA)).trans hA
            have h4 : DuAt y X7 F _ := (b.block _ (lt_of_block hB)).trans hB
            exact ⟨h1.c0, h1.c1, h1.c2, h1.c3, h2.c0, h2.c1, h2.c2, h2.c3, h3.c0, h3.c1, h3.c2, h3.c3, h4.c0, h4.c1, h4.c2, h4.c3⟩
          have CA : Hid (∀ y, Below wc.heap.size wc y → Calls Tryz.prog 12 #[.agg (duA F (.slice pA nA qA)), .agg (duA F (.slice pB nB qB))] y fun e w' => e = .returned (.bool true) ∧ Below y.heap.size y w') := fun y b => rsameD_any y F F _ _ ((OwnEn.row oA).fresh b) ((OwnEn.row oB).fresh b) (by omega) true (by simp)
          have CB : Hid (∀ y, Below wc.heap.size wc y → Calls Tryz.prog 14 #[.agg (duA d (.slice ad d.es.length cd))] y fun e w' => ∃ u, e = .returned u ∧ OwnRc w' y.heap.size u (recsD d) ∧ Below y.heap.size y w') := fun y b => hP.recs y d _ (RDW.out y (bmm Bc Bc.size b)) (by omega) hsz
          have CC : Hid (∀ y, Below wc.heap.size wc y → Calls Tryz.prog 15 #[.agg (duA d (.slice ad d.es.length cd))] y fun e w' => ∃ u, e = .returned u ∧ OwnRc w' y.heap.size u (recsD d) ∧ Below y.heap.size y w') := fun y b => rrecsD_any y d _ (RDW.out y (bmm Bc Bc.size b)) (by omega)
          have CD : Hid (∀ y a b, RowAt rcC y a (recsD d) → RowAt rcC y b (recsD d) → Calls Tryz.prog 13 #[a, b] y fun e w' => e = .returned (.bool true) ∧ Below y.heap.size y w') := fun y a b h1 h2 => rrecs_same y a b _ h1 h2 (by
            rw [recsD_eq, List.length_append, List.length_map]
            have : (firstRc d).length ≤ 1 := by unfold firstRc; split <;> simp
            omega)
          obtain ⟨r0, hr0⟩ : ∃ r : Bool, (r = true ↔ d = o) := by
            by_cases h : d = o
            · exact ⟨true, by simp [h]⟩
            · exact ⟨false, by simp [h]⟩
          have CE : Hid (∀ y, Below wc.heap.size wc y → Calls Tryz.prog 16 #[.agg (duA d (.slice ad d.es.length cd)), .agg (duA o (.slice ao o.es.length co))] y fun e w' => e = .returned (.bool r0) ∧ Below y.heap.size y w') := fun y b => hP.same y d o _ _ (RDW.out y (bmm Bc Bc.size b)) (ROW.out y (bmm Bc Bc.size b)) (by omega) (by omega) r0 hr0
          have CF : Hid (∀ y, Below wc.heap.size wc y → Calls Tryz.prog 12 #[.agg (duA d (.slice ad d.es.length cd)), .agg (duA o (.slice ao o.es.length co))] y fun e w' => e = .returned (.bool r0) ∧ Below y.heap.size y w') := fun y b => rsameD_any y d o _ _ (RDW.out y (bmm Bc Bc.size b)) (ROW.out y (bmm Bc Bc.size b)) (by omega) r0 hr0
          have CG : Hid (∀ y, Below wc.heap.size wc y → Calls Tryz.prog 16 #[.agg (duA d (.slice ad d.es.length cd)), .agg (duA d (.slice ad d.es.length cd))] y fun e w' => e = .returned (.bool true) ∧ Below y.heap.size y w') := fun y b => hP.same y d d _ _ (RDW.out y (bmm Bc Bc.size b)) (RDW.out y (bmm Bc Bc.size b)) (by omega) (by omega) true (by simp)
          have BC : Hid (Below w.heap.size w wc) := bmm BW.out BW.out.size Bc
          clear hA oA hB oB hF hr0 LD LO RDW ROW RLW SC RD RL Bc bc
          go_wp2
          refine wp_region_held_drew (S := (fun w' : World => w'.cell? ⟨w.heap.size, 0, none⟩ = some (.int .i64 d.p) ∧ w'.cell? ⟨w.heap.size, 1, none⟩ = some (.int .i64 d.b) ∧ w'.cell? ⟨w.heap.size, 2, none⟩ = some (.string d.s) ∧ w'.cell? ⟨w.heap.size, 3, none⟩ = some (.slice ad d.es.length cd) ∧ w'.cell? ⟨(w.heap.size + 1), 0, none⟩ = some (.int .i64 o.p) ∧ w'.cell? ⟨(w.heap.size + 1), 1, none⟩ = some (.int .i64 o.b) ∧ w'.cell? ⟨(w.heap.size + 1), 2, none⟩ = some (.string o.s) ∧ w'.cell? ⟨(w.heap.size + 1), 3, none⟩ = some (.slice ao o.es.length co) ∧ w'.cell? ⟨X6, 0, none⟩ = some (.int .i64 F.p) ∧ w'.cell? ⟨X6, 1, none⟩ = some (.int .i64 F.b) ∧ w'.cell? ⟨X6, 2, none⟩ = some (.string F.s) ∧ w'.cell? ⟨X6, 3, none⟩ = some (.slice pA nA qA) ∧ w'.cell? ⟨X7, 0, none⟩ = some (.int .i64 F.p) ∧ w'.cell? ⟨X7, 1, none⟩ = some (.int .i64 F.b) ∧ w'.cell? ⟨X7, 2, none⟩ = some (.string F.s) ∧ w'.cell? ⟨X7, 3, none⟩ = some (.slice pB nB qB))) (by kernel_rfl) ?_ (fun hHeld0 => ?_)
          · exact SD.out _ ⟨rfl, rfl, rfl, Nat.le_refl _, fun _ _ => rfl⟩
          obtain ⟨z0, hz0⟩ : ∃ y, y = wc.drew := ⟨_, rfl⟩
          have c0 : Below wc.heap.size wc z0 := by rw [hz0]; exact ⟨rfl, rfl, rfl, Nat.le_refl _, fun _ _ => rfl⟩
          rw [← hz0] at hHeld0 ⊢
          clear hz0
          refine tk0 (.agg (duA F (.slice pA nA qA))) (by kernel_rfl) (by kernel_rfl) (by kernel_rfl) (fun _ _ _ h => h) rfl (fun w hSw => by (try dsimp only at hSw); obtain ⟨q0, q1, q2, q3, q4, q5, q6, q7, q8, q9, q10, q11, q12, q13, q14, q15⟩ := hSw; go_simp) (by assumption) ?_
          try simp only [Act.put, List.setIfInBounds_toArray, List.set_cons_zero, List.set_cons_succ]
          refine tk1 (.agg (duA F (.slice pB nB qB))) (by kernel_rfl) (by kernel_rfl) (by kernel_rfl) (fun _ _ _ h => h) rfl (fun w hSw => by (try dsimp only at hSw); obtain ⟨q0, q1, q2, q3, q4, q5, q6, q7, q8, q9, q10, q11, q12, q13, q14, q15⟩ := hSw; go_simp) (by assumption) ?_
          try simp only [Act.put, List.setIfInBounds_toArray, List.set_cons_zero, List.set_cons_succ]
          refine cl2 (by kernel_rfl) rfl (fun K hK => ?_)
          go_simp
          go_at_call 12
          refine (CA.out _ c0).mono ?_
          rintro e z1 ⟨rfl, cc⟩
          have c1 := bmm c0 c0.size cc
          clear cc
          refine hK.out _ _ ?_ (fun hHeld => ?_)
          · exact SD.out _ c1
          clear hK K
          try simp only [Act.put, List.setIfInBounds_toArray, List.set_cons_zero, List.set_cons_succ]
          refine tk3 (.bool true) (by kernel_rfl) (by kernel_rfl) (by kernel_rfl) (fun _ _ _ h => h) rfl (fun w hSw => by (try dsimp only at hSw); obtain ⟨q0, q1, q2, q3, q4, q5, q6, q7, q8, q9, q10, q11, q12, q13, q14, q15⟩ := hSw; go_simp) (by assumption) ?_
          try simp only [Act.put, List.setIfInBounds_toArray, List.set_cons_zero, List.set_cons_succ]
          refine tk4 (.agg (duA d (.slice ad d.es.length cd))) (by kernel_rfl) (by kernel_rfl) (by kernel_rfl) (fun _ _ _ h => h) rfl (fun w hSw => by (try dsimp only at hSw); obtain ⟨q0, q1, q2, q3, q4, q5, q6, q7, q8, q9, q10, q11, q12, q13, q14, q15⟩ := hSw; go_simp) (by assumption) ?_
          try simp only [Act.put, List.setIfInBounds_toArray, List.set_cons_zero, List.set_cons_succ]
          refine tk6 (.agg (duA d (.slice ad d.es.length cd))) (by kernel_rfl) (by kernel_rfl) (by kernel_rfl) (fun _ _ _ h => h) rfl (fun w hSw => by (try dsimp only at hSw); obtain ⟨q0, q1, q2, q3, q4, q5, q6, q7, q8, q9, q10, q11, q12, q13, q14, q15⟩ := hSw; go_simp) (by assumption) ?_
          try simp only [Act.put, List.setIfInBounds_toArray, List.set_cons_zero, List.set_cons_succ]
          refine cl5 (by kernel_rfl) rfl (fun K hK => ?_)
          go_simp
          go_at_call 14
          refine (CB.out _ c1).mono ?_
          rintro e z2 ⟨g1, rfl, oo, cc⟩
          have r1 : Hid (RowAt rcC z2 g1 (recsD d)) := OwnRc.row oo
          clear oo
          have c2 := bmm c1 c1.size cc
          clear cc
          refine hK.out _ _ ?_ (fun hHeld => ?_)
          · exact SD.out _ c2
          clear hK K
          try simp only [Act.put, List.setIfInBounds_toArray, List.set_cons_zero, List.set_cons_succ]
          refine cl7 (by kernel_rfl) rfl (fun K hK => ?_)
          go_simp
          go_at_call 15
          refine (CC.out _ c2).mono ?_
          rintro e z3 ⟨g2, rfl, oo, cc⟩
          have r2 : Hid (RowAt rcC z3 g2 (recsD d)) := OwnRc.row oo
          clear oo
          have r1 : Hid (RowAt rcC z3 g1 (recsD d)) := r1.out.fresh cc
          have c3 := bmm c2 c2.size cc
          clear cc
          refine hK.out _ _ ?_ (fun hHeld => ?_)
          · exact SD.out _ c3
          clear hK K
          try simp only [Act.put, List.setIfInBounds_toArray, List.set_cons_zero, List.set_cons_succ]
          refine cl8 (by kernel_rfl) rfl (fun K hK => ?_)
          go_simp
          go_at_call 13
          refine (CD.out _ _ _ r1.out r2.out).mono ?_
          rintro e z4 ⟨rfl, cc⟩
          have c4 := bmm c3 c3.size cc
          clear cc
          refine hK.out _ _ ?_ (fun hHeld => ?_)
          · exact SD.out _ c4
          clear hK K
          try simp only [Act.put, List.setIfInBounds_toArray, List.set_cons_zero, List.set_cons_succ]
          refine tk9 (.bool true) (by kernel_rfl) (by kernel_rfl) (by kernel_rfl) (fun _ _ _ h => h) rfl (fun w hSw => by (try dsimp only at hSw); obtain ⟨q0, q1, q2, q3, q4, q5, q6, q7, q8, q9, q10, q11, q12, q13, q14, q15⟩ := hSw; go_simp) (by assumption) ?_
          try simp only [Act.put, List.setIfInBounds_toArray, List.set_cons_zero, List.set_cons_succ]
          refine tk10 (.bool true) (by kernel_rfl) (by kernel_rfl) (by kernel_rfl) (fun _ _ _ h => h) rfl (fun w hSw => by (try dsimp only at hSw); obtain ⟨q0, q1, q2, q3, q4, q5, q6, q7, q8, q9, q10, q11, q12, q13, q14, q15⟩ := hSw; go_simp) (by assumption) ?_
          try simp only [Act.put, List.setIfInBounds_toArray, List.set_cons_zero, List.set_cons_succ]
          refine tk11 (.agg (duA d (.slice ad d.es.length cd))) (by kernel_rfl) (by kernel_rfl) (by kernel_rfl) (fun _ _ _ h => h) rfl (fun w hSw => by (try dsimp only at hSw); obtain ⟨q0, q1, q2, q3, q4, q5, q6, q7, q8, q9, q10, q11, q12, q13, q14, q15⟩ := hSw; go_simp) (by assumption) ?_
          try simp only [Act.put, List.setIfInBounds_toArray, List.set_cons_zero, List.set_cons_succ]
          refine tk12 (.agg (duA o (.slice ao o.es.length co))) (by kernel_rfl) (by kernel_rfl) (by kernel_rfl) (fun _ _ _ h => h) rfl (fun w hSw => by (try dsimp only at hSw); obtain ⟨q0, q1, q2, q3, q4, q5, q6, q7, q8, q9, q10, q11, q12, q13, q14, q15⟩ := hSw; go_simp) (by assumption) ?_
          try simp only [Act.put, List.setIfInBounds_toArray, List.set_cons_zero, List.set_cons_succ]
          refine tk14 (.agg (duA d (.slice ad d.es.length cd))) (by kernel_rfl) (by kernel_rfl) (by kernel_rfl) (fun _ _ _ h => h) rfl (fun w hSw => by (try dsimp only at hSw); obtain ⟨q0, q1, q2, q3, q4, q5, q6, q7, q8, q9, q10, q11, q12, q13, q14, q15⟩ := hSw; go_simp) (by assumption) ?_
          try simp only [Act.put, List.setIfInBounds_toArray, List.set_cons_zero, List.set_cons_succ]
          refine tk15 (.agg (duA o (.slice ao o.es.length co))) (by kernel_rfl) (by kernel_rfl) (by kernel_rfl) (fun _ _ _ h => h) rfl (fun w hSw => by (try dsimp only at hSw); obtain ⟨q0, q1, q2, q3, q4, q5, q6, q7, q8, q9, q10, q11, q12, q13, q14, q15⟩ := hSw; go_simp) (by assumption) ?_
          try simp only [Act.put, List.setIfInBounds_toArray, List.set_cons_zero, List.set_cons_succ]
          refine cl13 (by kernel_rfl) rfl (fun K hK => ?_)
          go_simp
          go_at_call 16
          refine (CE.out _ c4).mono ?_
          rintro e z5 ⟨rfl, cc⟩
          have c5 := bmm c4 c4.size cc
          clear cc
          refine hK.out _ _ ?_ (fun hHeld => ?_)
          · exact SD.out _ c5
          clear hK K
          try simp only [Act.put, List.setIfInBounds_toArray, List.set_cons_zero, List.set_cons_succ]
          refine cl16 (by kernel_rfl) rfl (fun K hK => ?_)
          go_simp
          go_at_call 12
          refine (CF.out _ c5).mono ?_
          rintro e z6 ⟨rfl, cc⟩
          have c6 := bmm c5 c5.size cc
          clear cc
          refine hK.out _ _ ?_ (fun hHeld => ?_)
          · exact SD.out _ c6
          clear hK K
          try simp only [Act.put, List.setIfInBounds_toArray, List.set_cons_zero, List.set_cons_succ]
          refine tk17 (.bool true) (by kernel_rfl) (by kernel_rfl) (by kernel_rfl) (fun _ _ _ h => h) rfl (fun w hSw => by (try dsimp only at hSw); obtain ⟨q0, q1, q2, q3, q4, q5, q6, q7, q8, q9, q10, q11, q12, q13, q14, q15⟩ := hSw; go_simp) (by assumption) ?_
          try simp only [Act.put, List.setIfInBounds_toArray, List.set_cons_zero, List.set_cons_succ]
          refine tk18 (.bool true) (by kernel_rfl) (by kernel_rfl) (by kernel_rfl) (fun _ _ _ h => h) rfl (fun w hSw => by (try dsimp only at hSw); obtain ⟨q0, q1, q2, q3, q4, q5, q6, q7, q8, q9, q10, q11, q12, q13, q14, q15⟩ := hSw; go_simp) (by assumption) ?_
          try simp only [Act.put, List.setIfInBounds_toArray, List.set_cons_zero, List.set_cons_succ]
          refine tk19 (.bool true) (by kernel_rfl) (by kernel_rfl) (by kernel_rfl) (fun _ _ _ h => h) rfl (fun w hSw => by (try dsimp only at hSw); obtain ⟨q0, q1, q2, q3, q4, q5, q6, q7, q8, q9, q10, q11, q12, q13, q14, q15⟩ := hSw; go_simp) (by assumption) ?_
          try simp only [Act.put, List.setIfInBounds_toArray, List.set_cons_zero, List.set_cons_succ]
          refine tk20 (.agg (duA d (.slice ad d.es.length cd))) (by kernel_rfl) (by kernel_rfl) (by kernel_rfl) (fun _ _ _ h => h) rfl (fun w hSw => by (try dsimp only at hSw); obtain ⟨q0, q1, q2, q3, q4, q5, q6, q7, q8, q9, q10, q11, q12, q13, q14, q15⟩ := hSw; go_simp) (by assumption) ?_
          try simp only [Act.put, List.setIfInBounds_toArray, List.set_cons_zero, List.set_cons_succ]
          refine tk21 (.agg (duA d (.slice ad d.es.length cd))) (by kernel_rfl) (by kernel_rfl) (by kernel_rfl) (fun _ _ _ h => h) rfl (fun w hSw => by (try dsimp only at hSw); obtain ⟨q0, q1, q2, q3, q4, q5, q6, q7, q8, q9, q10, q11, q12, q13, q14, q15⟩ := hSw; go_simp) (by assumption) ?_
          try simp only [Act.put, List.setIfInBounds_toArray, List.set_cons_zero, List.set_cons_succ]
          refine cl22 (by kernel_rfl) rfl (fun K hK => ?_)
          go_simp
          go_at_call 16
          refine (CG.out _ c6).mono ?_
          rintro e z7 ⟨rfl, cc⟩
          have c7 := bmm c6 c6.size cc
          clear cc
          refine hK.out _ _ ?_ (fun hHeld => ?_)
          · exact SD.out _ c7
          clear hK K
          try simp only [Act.put, List.setIfInBounds_toArray, List.set_cons_zero, List.set_cons_succ]
          refine tk23 (.bool true) (by kernel_rfl) (by kernel_rfl) (by kernel_rfl) (fun _ _ _ h => h) rfl (fun w hSw => by (try dsimp only at hSw); obtain ⟨q0, q1, q2, q3, q4, q5, q6, q7, q8, q9, q10, q11, q12, q13, q14, q15⟩ := hSw; go_simp) (by assumption) ?_
          try simp only [Act.put, List.setIfInBounds_toArray, List.set_cons_zero, List.set_cons_succ]
          refine tk24 (.bool true) (by kernel_rfl) (by kernel_rfl) (by kernel_rfl) (fun _ _ _ h => h) rfl (fun w hSw => by (try dsimp only at hSw); obtain ⟨q0, q1, q2, q3, q4, q5, q6, q7, q8, q9, q10, q11, q12, q13, q14, q15⟩ := hSw; go_simp) (by assumption) ?_
          try simp only [Act.put, List.setIfInBounds_toArray, List.set_cons_zero, List.set_cons_succ]
          refine cl25 (by kernel_rfl) rfl (fun K hK => ?_)
          go_simp
          go_at_call 9
          refine (QA.out _ (bmm BC.out BC.out.size c7)).mono ?_
          rintro e z8 ⟨rfl, cc⟩
          have c8 := bmm c7 c7.size cc
          clear cc
          refine hK.out _ _ ?_ (fun hHeld => ?_)
          · exact SD.out _ c8
          clear hK K
          try simp only [Act.put, List.setIfInBounds_toArray, List.set_cons_zero, List.set_cons_succ]
          refine tk26 (.bool true) (by kernel_rfl) (by kernel_rfl) (by kernel_rfl) (fun _ _ _ h => h) rfl (fun w hSw => by (try dsimp only at hSw); obtain ⟨q0, q1, q2, q3, q4, q5, q6, q7, q8, q9, q10, q11, q12, q13, q14, q15⟩ := hSw; go_simp) (by assumption) ?_
          try simp only [Act.put, List.setIfInBounds_toArray, List.set_cons_zero, List.set_cons_succ]
          refine cl27 (by kernel_rfl) rfl (fun K hK => ?_)
          go_simp
          refine hK.out _ _ ?_ (fun hHeld => ?_)
          · exact SD.out _ c8
          clear hK K
          try simp only [Act.put, List.setIfInBounds_toArray, List.set_cons_zero, List.set_cons_succ]
          refine wpAnyH_done (by kernel_rfl) ?_ _
          go_wp2
          go_ret
          exact ⟨rfl, bmm BC.out BC.out.size c8⟩
      · have f3 : decide ((1000 : Int) < (l.length : Int)) = true := decide_eq_true (by omega)
        go_enter Tryz.func3, Tryz.ntmps3
        go_wp2_with (first
          | (go_at_call 9; refine (QA.out _ (bmm BW.out BW.out.size (bmm b1 b1.size b2))).mono ?_; rintro e w3 ⟨rfl, b3⟩)
          | (go_at_call 8; rw [← HW.out]; refine (Q1.out _ HR0.out).mono ?_; rintro e w1 ⟨rfl, b1⟩)
          | (go_at_call 8; refine (Q2.out _ b1).mono ?_; rintro e w2 ⟨rfl, b2⟩)
          | (show wpList _ _ _ (⟨_, Op.load 24 _, _, _, _, _⟩ :: _) _ _; refine load_row_g rfl 24 _ rfl (w.heap.size + 1) rfl 24 (duA o (.slice ao o.es.length co)) (0, 0) _ (LO.out _ b1) Tryz.underlying24 rfl sizeDu ?_))
        go_ret
        exact ⟨rfl, bmm BW.out BW.out.size (bmm (bmm b1 b1.size b2) (bmm b1 b1.size b2).size b3)⟩
    · have Q2 : Hid (∀ w1, Below W.heap.size W w1 → _) := fun w1 b => q2 w1 b false ⟨fun h => (by cases h), fun h => absurd h c2⟩
      go_enter Tryz.func3, Tryz.ntmps3
      go_wp2_with (first
          | (go_at_call 9; refine (QA.out _ (bmm BW.out BW.out.size (bmm b1 b1.size b2))).mono ?_; rintro e w3 ⟨rfl, b3⟩)
          | (go_at_call 8; rw [← HW.out]; refine (Q1.out _ HR0.out).mono ?_; rintro e w1 ⟨rfl, b1⟩)
          | (go_at_call 8; refine (Q2.out _ b1).mono ?_; rintro e w2 ⟨rfl, b2⟩)
          | (show wpList _ _ _ (⟨_, Op.load 24 _, _, _, _, _⟩ :: _) _ _; refine load_row_g rfl 24 _ rfl (w.heap.size + 1) rfl 24 (duA o (.slice ao o.es.length co)) (0, 0) _ (LO.out _ b1) Tryz.underlying24 rfl sizeDu ?_))
      go_ret
      exact ⟨rfl, bmm BW.out BW.out.size (bmm (bmm b1 b1.size b2) (bmm b1 b1.size b2).size b3)⟩
  · have Q1 : Hid (∀ w1, Below W.heap.size W w1 → _) := fun w1 b => q1 w1 b false ⟨fun h => (by cases h), fun h => absurd h c1⟩
    go_enter Tryz.func3, Tryz.ntmps3
    go_wp2_with (first
      | (go_at_call 9; refine (QA.out _ (bmm BW.out BW.out.size b1)).mono ?_; rintro e w3 ⟨rfl, b3⟩)
      | (go_at_call 8; rw [← HW.out]; refine (Q1.out _ HR0.out).mono ?_; rintro e w1 ⟨rfl, b1⟩))
    go_ret
    exact ⟨rfl, bmm BW.out BW.out.size (bmm b1 b1.size b3)⟩
end Go.Proofs.YtodnnhidljfilaaGreatDoor
