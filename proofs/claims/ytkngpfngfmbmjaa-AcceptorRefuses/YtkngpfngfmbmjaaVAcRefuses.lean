/-
  AcceptorRefuses walked: below what is promised nothing is taken, and nothing changes. The condition: a name has at most 2^48 bytes.
-/
import Derived.Test.YtkngpfngfmbmjaaVAcNil
namespace Go.Proofs.Ytkngpfngfmbmjaa
open Go.Shelf Go.RowKit Go.Lib Go.Sort


theorem RowAt.empty {α : Type} {enc : α → List Value} {w : World} {v : Value} {l : List α} (h : RowAt enc w v l) (h0 : l = []) (w' : World) : RowAt enc w' v l := by
  obtain ⟨a, cap, e, h1, h2, _⟩ := h.ex
  exact ⟨a, cap, e, h1, h2, Or.inl (by rw [h0]; rfl)⟩
theorem refused {d : Du} {low : Int} (h : low < d.p ∨ low < 1) : prepD d low = ⟨d, [], false⟩ := by
  unfold prepD
  rw [if_pos (by omega)]
theorem refusedA {d : Du} {low : Int} (e : En) (h : low < d.p ∨ low < 1) : accD d low e = ⟨d, [], false⟩ := by
  unfold accD
  rw [if_pos (by omega)]
set_option maxHeartbeats 6400000 in
set_option maxRecDepth 100000 in
theorem refuses_walk (w : World) (b low : Int) (e : En) (hn : nameOk e.cmd.name) : Calls Try.prog 6 #[.int .i64 b, .int .i64 low, .agg (enA e)] w fun x w' => x = .returned (.bool true) ∧ Below w.heap.size w w' := by
  obtain ⟨W, hW⟩ : ∃ W, W = w.alloc (.cells (enA e) 36) := ⟨_, rfl⟩
  have bW : Below w.heap.size w W := by rw [hW]; exact (Below.refl _ w).alloc (Nat.le_refl _) _
  have eW : EnAt W w.heap.size e := by rw [hW]; exact heap_alloc_new w _
  have HW : Hid (w.alloc (.cells (enA e) 36) = W) := hW.symm
  have BW : Hid (Below w.heap.size w W) := bW
  have EW : Hid _ := eW
  have q0 := pnew_any W aw0 (.slice none 0 0) (RowAt.nil _) (by decide) aw0_rises (by simp [aw0]) ⟨by decide, fun e he => by simp [aw0] at he⟩
  obtain ⟨D, hD⟩ : ∃ D, D = (prepD aw0 b).st := ⟨_, rfl⟩
  have hok : (prepD aw0 b).ok = decide (1 ≤ b) := by
    unfold prepD
    by_cases h : 1 ≤ b
    · rw [if_neg (by show ¬ (b < 1 ∨ b < 0); omega)]
      simp [promD, h]
    · rw [if_pos (by omega)]
      simp [h]
  have hDes : D.es = [] ∧ D.b = 0 ∧ D.s = ⟨#[]⟩ := by
    rw [hD]
    unfold prepD
    split <;> exact ⟨rfl, rfl, rfl⟩
  have HE : Hid (D.es = []) := hDes.1
  have HR : Hid (Rises D.b D.es) := by rw [hD]; exact prepD_rises b aw0_rises
  have HL : Hid (D.es.length ≤ 536870912) := by show _ ≤ _; rw [hDes.1]; simp
  have HZ : Hid (SzD D) := ⟨by rw [hDes.2.2]; decide, fun e he => by rw [hDes.1] at he; simp at he⟩
  clear hW bW eW hDes
  obtain ⟨bb, hbb⟩ : ∃ bb, bb = decide (1 ≤ b) := ⟨_, rfl⟩
  rw [← hbb] at hok
  have tb : decide (1 ≤ b) = bb := hbb.symm
  clear hbb
  obtain ⟨L1, hL1⟩ : ∃ L1, L1 = (prepD aw0 b).recs := ⟨_, rfl⟩
  have HQ : Hid (prepD aw0 b = ⟨D, L1, bb⟩) := by show _ = _; rw [hD, hL1, ← hok]
  clear hD hok hL1
  go_enter Try.func6, Try.ntmps6
  go_upto_region 1 with fail
  rw [HW.out]
  go_upto_region 4 with (go_at_call 10; refine q0.mono ?_; rintro x w0 ⟨S0, X, v0, rfl, h0, b0⟩; have H0 : Hid _ := h0; have B0 : Hid (Below W.heap.size W w0) := b0; clear h0 b0)
  have q1 := pprep_any H0.out b
  rw [HQ.out] at q1
  go_upto_region 5 with (go_at_call 13; refine q1.mono ?_; rintro x w1 ⟨S1, v1, u1, rfl, h1, r1, k1⟩; obtain ⟨p1, c1, rfl⟩ := (OwnRc.row r1).form)
  obtain ⟨y1, hy1⟩ : ∃ y, y = w1.alloc (.cells (outA (.slice p1 L1.length c1)) 42) := ⟨_, rfl⟩
  have a1 : Below w1.heap.size w1 y1 := by rw [hy1]; exact (Below.refl _ _).alloc (Nat.le_refl _) _
  have H1 : Hid (PA y1 W.heap.size S1 X D v1) := h1.fresh a1
  have B1 : Hid (Below W.heap.size W y1) := bmm (B0.out.trans (k1.low B0.out.size (fun b hb => (H0.out.bd b hb).1))) (B0.out.trans (k1.low B0.out.size (fun b hb => (H0.out.bd b hb).1))).size a1
  have HY1 : Hid (w1.alloc (.cells (outA (.slice p1 L1.length c1)) 42) = y1) := hy1.symm
  rw [HY1.out]
  clear hy1 a1 h1 r1 k1 q1 q0
  have q2 := pdur_any H1.out HR.out HL.out HZ.out
  cases bb <;>
  (go_upto_region 8 with (go_at_call 25; refine q2.mono ?_; rintro x w2 ⟨v2, rfl, o2, b2⟩; obtain ⟨pw, nw, cw, rfl⟩ := own_form o2)
   obtain ⟨y2, hy2⟩ : ∃ y, y = w2.alloc (.cells #[.int .i64 D.p, .int .i64 D.b, .string D.s, .slice pw nw cw] 24) := ⟨_, rfl⟩
   have a2 : Below y1.heap.size y1 y2 := by rw [hy2]; exact b2.alloc b2.size _
   have H2 : Hid (PA y2 W.heap.size S1 X D v1) := H1.out.fresh a2
   have B2 : Hid (Below W.heap.size W y2) := bmm B1.out B1.out.size a2
   obtain ⟨OW, hOW⟩ : ∃ O, O = w2.heap.size := ⟨_, rfl⟩
   have D2 : Hid (DuAt y2 OW D (.slice pw nw cw)) := by show _ = _; rw [hy2, hOW]; exact heap_alloc_new w2 _
   have R2 : Hid (OwnEn y2 y1.heap.size (.slice pw nw cw) D.es) := by show World.ownsRow _ _ _ _ _ _ _; rw [hy2]; exact World.ownsRow.alloc o2 _
   have HY2 : Hid (w2.alloc (.cells #[.int .i64 D.p, .int .i64 D.b, .string D.s, .slice pw nw cw] 24) = y2) := hy2.symm
   have HO2 : Hid (w2.heap.size = OW) := hOW.symm
   rw [HY2.out, HO2.out]
   clear hy2 a2 o2 b2 hOW
   have q3 := pprom_any H2.out
   by_cases hp : D.p ≤ low
   · have t1 : decide (D.p ≤ low) = true := decide_eq_true hp
     by_cases h1 : 1 ≤ low
     · have t2 : decide (1 ≤ low) = true := decide_eq_true h1
       go_wp2_with (first
         | (go_at_call 9; refine (awake_any _).mono ?_; rintro x w3 ⟨rfl, b3⟩; have B3 : Hid (Below W.heap.size W w3) := bmm B2.out B2.out.size b3; clear b3)
         | (go_at_call 20; refine q3.mono ?_; rintro x wp ⟨rfl, hwp⟩; rw [hwp]; clear hwp))
       go_ret
       exact ⟨rfl, BW.out.trans (B3.out.mono BW.out.size)⟩
     · have t2 : decide (1 ≤ low) = false := decide_eq_false h1
       have hr : low < D.p ∨ low < 1 := Or.inr (by omega)
       have qa := pprep_any H2.out low
       rw [refused hr] at qa
       go_upto_region 11 with (first | (go_at_call 13; refine qa.mono ?_; rintro x w3 ⟨S3, v3, u3, rfl, h3, r3, k3⟩; obtain ⟨p3, c3, hu3⟩ := (OwnRc.row (l := []) r3).form; simp only [List.length_nil] at hu3; subst hu3) | (go_at_call 20; refine q3.mono ?_; rintro x wp ⟨rfl, hwp⟩; rw [hwp]; clear hwp))
       obtain ⟨y3, hy3⟩ : ∃ y, y = w3.alloc (.cells (outA (.slice p3 0 c3)) 42) := ⟨_, rfl⟩
       have a3 : Below w3.heap.size w3 y3 := by rw [hy3]; exact (Below.refl _ _).alloc (Nat.le_refl _) _
       have H3 : Hid (PA y3 W.heap.size S3 X D v3) := h3.fresh a3
       have b3 := B2.out.trans (k3.low B2.out.size (fun b hb => (H2.out.bd b hb).1))
       have B3 : Hid (Below W.heap.size W y3) := bmm b3 b3.size a3
       obtain ⟨O3, hO3⟩ : ∃ O, O = w3.heap.size := ⟨_, rfl⟩
       have o3 : y3.heap[O3]? = some (.cells (outA (.slice p3 0 c3)) 42 (0, 0)) := by rw [hy3, hO3]; exact heap_alloc_new w3 _
       have d3w := kept_out H2.out k3 D2.out (by decide) (by decide)
       have D3 : Hid (DuAt y3 OW D (.slice pw nw cw)) := (a3.block OW (lt_of_block d3w)).trans d3w
       have HY3 : Hid (w3.alloc (.cells (outA (.slice p3 0 c3)) 42) = y3) := hy3.symm
       have HO3 : Hid (w3.heap.size = O3) := hO3.symm
       have Q3 : Hid _ := o3
       have e3 : EnAt y3 w.heap.size e := (B3.out.block _ (lt_of_block EW.out)).trans EW.out
       have ze0 := EnAt.box e3 0 _ rfl
       have ze1 := EnAt.box e3 1 _ rfl
       have ze2 := EnAt.box e3 2 _ rfl
       have ze3 := EnAt.box e3 3 _ rfl
       have ze4 := EnAt.box e3 4 _ rfl
       have ze5 := EnAt.box e3 5 _ rfl
       have ze6 := EnAt.box e3 6 _ rfl
       rw [HY3.out, HO3.out]
       clear hy3 hO3 a3 h3 r3 k3 b3 o3 d3w qa e3
       have qb := pacc_any H3.out HR.out HL.out low e hn
       rw [refusedA e hr] at qb
       go_upto_region 12 with (go_at_call 15; refine qb.mono ?_; rintro x w4 ⟨S4, v4, u4, rfl, h4, r4, k4⟩; obtain ⟨p4, c4, hu4⟩ := (OwnRc.row (l := []) r4).form; simp only [List.length_nil] at hu4; subst hu4)
       obtain ⟨Y4, hy4⟩ : ∃ y, y = w4.alloc (.cells (outA (.slice p4 0 c4)) 42) := ⟨_, rfl⟩
       have a4 : Below w4.heap.size w4 Y4 := by rw [hy4]; exact (Below.refl _ _).alloc (Nat.le_refl _) _
       have H4 : Hid (PA Y4 W.heap.size S4 X D v4) := h4.fresh a4
       have b4 := B3.out.trans (k4.low B3.out.size (fun b hb => (H3.out.bd b hb).1))
       have BY : Hid (Below w.heap.size w Y4) := BW.out.trans ((bmm b4 b4.size a4).mono BW.out.size)
       obtain ⟨O4, hO4⟩ : ∃ O, O = w4.heap.size := ⟨_, rfl⟩
       have o4 : Y4.heap[O4]? = some (.cells (outA (.slice p4 0 c4)) 42 (0, 0)) := by rw [hy4, hO4]; exact heap_alloc_new w4 _
       have d4w := kept_out H3.out k4 D3.out (by decide) (by decide)
       have d4 : DuAt Y4 OW D (.slice pw nw cw) := (a4.block OW (lt_of_block d4w)).trans d4w
       have o34w := kept_out H3.out k4 Q3.out (by decide) (by decide)
       have o34 := (a4.block O3 (lt_of_block o34w)).trans o34w
       have SC : Hid (∀ y, Below Y4.heap.size Y4 y → y.cell? ⟨O3, 0, none⟩ = some (.slice p3 0 c3) ∧ y.cell? ⟨O4, 0, none⟩ = some (.slice p4 0 c4) ∧ y.cell? ⟨OW, 0, none⟩ = some (.int .i64 D.p) ∧ y.cell? ⟨OW, 1, none⟩ = some (.int .i64 D.b) ∧ y.cell? ⟨OW, 2, none⟩ = some (.string D.s) ∧ y.cell? ⟨OW, 3, none⟩ = some (.slice pw nw cw)) := fun y b => by
         have e1 := (b.block O3 (lt_of_block o34)).trans o34
         have e2 := (b.block O4 (lt_of_block o4)).trans o4
         have e3 : DuAt y OW D (.slice pw nw cw) := (b.block OW (lt_of_block d4)).trans d4
         exact ⟨by simp [World.cell?, e1], by simp [World.cell?, e2], e3.c0, e3.c1, e3.c2, e3.c3⟩
       have HW2 : Hid (∀ y, Below Y4.heap.size Y4 y → RowAt enC y (.slice pw nw cw) D.es) := fun y _ => (OwnEn.row R2.out).empty HE.out y
       have HY4 : Hid (w4.alloc (.cells (outA (.slice p4 0 c4)) 42) = Y4) := hy4.symm
       have HO4 : Hid (w4.heap.size = O4) := hO4.symm
       rw [HY4.out, HO4.out]
       have f0 := SC.out _ (Below.refl _ _)
       have f00 := f0.1
       have f01 := f0.2.1
       have f02 := f0.2.2.1
       have f03 := f0.2.2.2.1
       have f04 := f0.2.2.2.2.1
       have f05 := f0.2.2.2.2.2
       clear hy4 hO4 a4 h4 r4 k4 b4 o4 d4w d4 o34w o34 qb f0 ze0 ze1 ze2 ze3 ze4 ze5 ze6
       refine wp_region_held_drew (S := (fun y : World => y.cell? ⟨O3, 0, none⟩ = some (.slice p3 0 c3) ∧ y.cell? ⟨O4, 0, none⟩ = some (.slice p4 0 c4) ∧ y.cell? ⟨OW, 0, none⟩ = some (.int .i64 D.p) ∧ y.cell? ⟨OW, 1, none⟩ = some (.int .i64 D.b) ∧ y.cell? ⟨OW, 2, none⟩ = some (.string D.s) ∧ y.cell? ⟨OW, 3, none⟩ = some (.slice pw nw cw))) (by kernel_rfl) ?_ (fun hHeld0 => ?_)
       · exact SC.out _ ⟨rfl, rfl, rfl, Nat.le_refl _, fun _ _ => rfl⟩
       obtain ⟨y0, hy0⟩ : ∃ y, y = Y4.drew := ⟨_, rfl⟩
       have b0 : Below Y4.heap.size Y4 y0 := by rw [hy0]; exact ⟨rfl, rfl, rfl, Nat.le_refl _, fun _ _ => rfl⟩
       rw [← hy0] at hHeld0 ⊢
       clear hy0
       refine tk0 (.bool false) (by kernel_rfl) (by kernel_rfl) (by kernel_rfl) (fun _ _ _ h => h) rfl (fun w hSw => by (try dsimp only at hSw); obtain ⟨s0, s1, s2, s3, s4, s5⟩ := hSw; go_simp) (by assumption) ?_
       try simp only [Act.put, List.setIfInBounds_toArray, List.set_cons_zero, List.set_cons_succ]
       refine tk1 (.bool true) (by kernel_rfl) (by kernel_rfl) (by kernel_rfl) (fun _ _ _ h => h) rfl (fun w hSw => by (try dsimp only at hSw); obtain ⟨s0, s1, s2, s3, s4, s5⟩ := hSw; go_simp) (by assumption) ?_
       try simp only [Act.put, List.setIfInBounds_toArray, List.set_cons_zero, List.set_cons_succ]
       refine tk2 (.bool true) (by kernel_rfl) (by kernel_rfl) (by kernel_rfl) (fun _ _ _ h => h) rfl (fun w hSw => by (try dsimp only at hSw); obtain ⟨s0, s1, s2, s3, s4, s5⟩ := hSw; go_simp) (by assumption) ?_
       try simp only [Act.put, List.setIfInBounds_toArray, List.set_cons_zero, List.set_cons_succ]
       refine tk3 (.bool false) (by kernel_rfl) (by kernel_rfl) (by kernel_rfl) (fun _ _ _ h => h) rfl (fun w hSw => by (try dsimp only at hSw); obtain ⟨s0, s1, s2, s3, s4, s5⟩ := hSw; go_simp) (by assumption) ?_
       try simp only [Act.put, List.setIfInBounds_toArray, List.set_cons_zero, List.set_cons_succ]
       refine tk4 (.bool true) (by kernel_rfl) (by kernel_rfl) (by kernel_rfl) (fun _ _ _ h => h) rfl (fun w hSw => by (try dsimp only at hSw); obtain ⟨s0, s1, s2, s3, s4, s5⟩ := hSw; go_simp) (by assumption) ?_
       try simp only [Act.put, List.setIfInBounds_toArray, List.set_cons_zero, List.set_cons_succ]
       refine tk5 (.bool true) (by kernel_rfl) (by kernel_rfl) (by kernel_rfl) (fun _ _ _ h => h) rfl (fun w hSw => by (try dsimp only at hSw); obtain ⟨s0, s1, s2, s3, s4, s5⟩ := hSw; go_simp) (by assumption) ?_
       try simp only [Act.put, List.setIfInBounds_toArray, List.set_cons_zero, List.set_cons_succ]
       refine tk6 (.bool true) (by kernel_rfl) (by kernel_rfl) (by kernel_rfl) (fun _ _ _ h => h) rfl (fun w hSw => by (try dsimp only at hSw); obtain ⟨s0, s1, s2, s3, s4, s5⟩ := hSw; go_simp) (by assumption) ?_
       try simp only [Act.put, List.setIfInBounds_toArray, List.set_cons_zero, List.set_cons_succ]
       refine tk7 (.pointer (some ⟨O3, 0, none⟩)) (by kernel_rfl) (by kernel_rfl) (by kernel_rfl) (fun _ _ _ h => h) rfl (fun w hSw => by (try dsimp only at hSw); obtain ⟨s0, s1, s2, s3, s4, s5⟩ := hSw; go_simp) (by assumption) ?_
       try simp only [Act.put, List.setIfInBounds_toArray, List.set_cons_zero, List.set_cons_succ]
       refine tk8 (.slice p3 0 c3) (by kernel_rfl) (by kernel_rfl) (by kernel_rfl) (fun _ _ _ h => h) rfl (fun w hSw => by (try dsimp only at hSw); obtain ⟨s0, s1, s2, s3, s4, s5⟩ := hSw; go_simp) (by assumption) ?_
       try simp only [Act.put, List.setIfInBounds_toArray, List.set_cons_zero, List.set_cons_succ]
       refine tk9 (.int .i64 0) (by kernel_rfl) (by kernel_rfl) (by kernel_rfl) (fun _ _ _ h => h) rfl (fun w hSw => by (try dsimp only at hSw); obtain ⟨s0, s1, s2, s3, s4, s5⟩ := hSw; go_simp) (by assumption) ?_
       try simp only [Act.put, List.setIfInBounds_toArray, List.set_cons_zero, List.set_cons_succ]
       refine tk10 (.bool true) (by kernel_rfl) (by kernel_rfl) (by kernel_rfl) (fun _ _ _ h => h) rfl (fun w hSw => by (try dsimp only at hSw); obtain ⟨s0, s1, s2, s3, s4, s5⟩ := hSw; go_simp) (by assumption) ?_
       try simp only [Act.put, List.setIfInBounds_toArray, List.set_cons_zero, List.set_cons_succ]
       refine tk11 (.bool true) (by kernel_rfl) (by kernel_rfl) (by kernel_rfl) (fun _ _ _ h => h) rfl (fun w hSw => by (try dsimp only at hSw); obtain ⟨s0, s1, s2, s3, s4, s5⟩ := hSw; go_simp) (by assumption) ?_
       try simp only [Act.put, List.setIfInBounds_toArray, List.set_cons_zero, List.set_cons_succ]
       refine tk12 (.bool true) (by kernel_rfl) (by kernel_rfl) (by kernel_rfl) (fun _ _ _ h => h) rfl (fun w hSw => by (try dsimp only at hSw); obtain ⟨s0, s1, s2, s3, s4, s5⟩ := hSw; go_simp) (by assumption) ?_
       try simp only [Act.put, List.setIfInBounds_toArray, List.set_cons_zero, List.set_cons_succ]
       refine tk13 (.pointer (some ⟨O4, 0, none⟩)) (by kernel_rfl) (by kernel_rfl) (by kernel_rfl) (fun _ _ _ h => h) rfl (fun w hSw => by (try dsimp only at hSw); obtain ⟨s0, s1, s2, s3, s4, s5⟩ := hSw; go_simp) (by assumption) ?_
       try simp only [Act.put, List.setIfInBounds_toArray, List.set_cons_zero, List.set_cons_succ]
       refine tk14 (.slice p4 0 c4) (by kernel_rfl) (by kernel_rfl) (by kernel_rfl) (fun _ _ _ h => h) rfl (fun w hSw => by (try dsimp only at hSw); obtain ⟨s0, s1, s2, s3, s4, s5⟩ := hSw; go_simp) (by assumption) ?_
       try simp only [Act.put, List.setIfInBounds_toArray, List.set_cons_zero, List.set_cons_succ]
       refine tk15 (.int .i64 0) (by kernel_rfl) (by kernel_rfl) (by kernel_rfl) (fun _ _ _ h => h) rfl (fun w hSw => by (try dsimp only at hSw); obtain ⟨s0, s1, s2, s3, s4, s5⟩ := hSw; go_simp) (by assumption) ?_
       try simp only [Act.put, List.setIfInBounds_toArray, List.set_cons_zero, List.set_cons_succ]
       refine tk16 (.bool true) (by kernel_rfl) (by kernel_rfl) (by kernel_rfl) (fun _ _ _ h => h) rfl (fun w hSw => by (try dsimp only at hSw); obtain ⟨s0, s1, s2, s3, s4, s5⟩ := hSw; go_simp) (by assumption) ?_
       try simp only [Act.put, List.setIfInBounds_toArray, List.set_cons_zero, List.set_cons_succ]
       refine tk17 (.bool true) (by kernel_rfl) (by kernel_rfl) (by kernel_rfl) (fun _ _ _ h => h) rfl (fun w hSw => by (try dsimp only at hSw); obtain ⟨s0, s1, s2, s3, s4, s5⟩ := hSw; go_simp) (by assumption) ?_
       try simp only [Act.put, List.setIfInBounds_toArray, List.set_cons_zero, List.set_cons_succ]
       refine tk18 (.bool true) (by kernel_rfl) (by kernel_rfl) (by kernel_rfl) (fun _ _ _ h => h) rfl (fun w hSw => by (try dsimp only at hSw); obtain ⟨s0, s1, s2, s3, s4, s5⟩ := hSw; go_simp) (by assumption) ?_
       try simp only [Act.put, List.setIfInBounds_toArray, List.set_cons_zero, List.set_cons_succ]
       refine tk19 (.agg #[.int .i64 D.p, .int .i64 D.b, .string D.s, .slice pw nw cw]) (by kernel_rfl) (by kernel_rfl) (by kernel_rfl) (fun _ _ _ h => h) rfl (fun w hSw => by (try dsimp only at hSw); obtain ⟨s0, s1, s2, s3, s4, s5⟩ := hSw; go_simp) (by assumption) ?_
       try simp only [Act.put, List.setIfInBounds_toArray, List.set_cons_zero, List.set_cons_succ]
       refine tk20 (.pointer (some ⟨X, 0, none⟩)) (by kernel_rfl) (by kernel_rfl) (by kernel_rfl) (fun _ _ _ h => h) rfl (fun w hSw => by (try dsimp only at hSw); obtain ⟨s0, s1, s2, s3, s4, s5⟩ := hSw; go_simp) (by assumption) ?_
       try simp only [Act.put, List.setIfInBounds_toArray, List.set_cons_zero, List.set_cons_succ]
       refine cl21 (by kernel_rfl) rfl (fun K hK => ?_)
       go_simp
       go_at_call 25
       refine (pdur_any ((H4.out).fresh b0) HR.out HL.out HZ.out).mono ?_
       rintro x y1 ⟨v6, rfl, o6, c1⟩
       obtain ⟨p6, n6, q6, rfl⟩ := own_form o6
       have b1 := bmm b0 b0.size c1
       have O6 : Hid _ := o6
       clear o6
       have qb1 := SC.out y1 b1
       have qb10 := qb1.1
       have qb11 := qb1.2.1
       have qb12 := qb1.2.2.1
       have qb13 := qb1.2.2.2.1
       have qb14 := qb1.2.2.2.2.1
       have qb15 := qb1.2.2.2.2.2
       clear qb1
       refine hK.out _ _ ?_ (fun hHeld => ?_)
       · try dsimp only
         go_keep
       clear hK K
       try simp only [Act.put, List.setIfInBounds_toArray, List.set_cons_zero, List.set_cons_succ]
       refine cl22 (by kernel_rfl) rfl (fun K hK => ?_)
       go_simp
       go_at_call 23
       refine (rsameD_any _ D D _ _ (HW2.out _ b1) (OwnEn.row O6.out) (by have := HL.out; omega) true (by simp)).mono ?_
       rintro x y2 ⟨rfl, c2⟩
       have b2 := bmm b1 b1.size c2
       have qb2 := SC.out y2 b2
       have qb20 := qb2.1
       have qb21 := qb2.2.1
       have qb22 := qb2.2.2.1
       have qb23 := qb2.2.2.2.1
       have qb24 := qb2.2.2.2.2.1
       have qb25 := qb2.2.2.2.2.2
       clear qb2
       refine hK.out _ _ ?_ (fun hHeld => ?_)
       · try dsimp only
         go_keep
       clear hK K
       try simp only [Act.put, List.setIfInBounds_toArray, List.set_cons_zero, List.set_cons_succ]
       refine tk23 (.bool true) (by kernel_rfl) (by kernel_rfl) (by kernel_rfl) (fun _ _ _ h => h) rfl (fun w hSw => by (try dsimp only at hSw); obtain ⟨s0, s1, s2, s3, s4, s5⟩ := hSw; go_simp) (by assumption) ?_
       try simp only [Act.put, List.setIfInBounds_toArray, List.set_cons_zero, List.set_cons_succ]
       refine tk24 (.bool true) (by kernel_rfl) (by kernel_rfl) (by kernel_rfl) (fun _ _ _ h => h) rfl (fun w hSw => by (try dsimp only at hSw); obtain ⟨s0, s1, s2, s3, s4, s5⟩ := hSw; go_simp) (by assumption) ?_
       try simp only [Act.put, List.setIfInBounds_toArray, List.set_cons_zero, List.set_cons_succ]
       refine cl25 (by kernel_rfl) rfl (fun K hK => ?_)
       go_simp
       go_at_call 9
       refine (awake_any _).mono ?_
       rintro x y3 ⟨rfl, c3x⟩
       have b3 := bmm b2 b2.size c3x
       have qb3 := SC.out y3 b3
       have qb30 := qb3.1
       have qb31 := qb3.2.1
       have qb32 := qb3.2.2.1
       have qb33 := qb3.2.2.2.1
       have qb34 := qb3.2.2.2.2.1
       have qb35 := qb3.2.2.2.2.2
       clear qb3
       refine hK.out _ _ ?_ (fun hHeld => ?_)
       · try dsimp only
         go_keep
       clear hK K
       try simp only [Act.put, List.setIfInBounds_toArray, List.set_cons_zero, List.set_cons_succ]
       refine tk26 (.bool true) (by kernel_rfl) (by kernel_rfl) (by kernel_rfl) (fun _ _ _ h => h) rfl (fun w hSw => by (try dsimp only at hSw); obtain ⟨s0, s1, s2, s3, s4, s5⟩ := hSw; go_simp) (by assumption) ?_
       try simp only [Act.put, List.setIfInBounds_toArray, List.set_cons_zero, List.set_cons_succ]
       refine tk27 (.bool true) (by kernel_rfl) (by kernel_rfl) (by kernel_rfl) (fun _ _ _ h => h) rfl (fun w hSw => by (try dsimp only at hSw); obtain ⟨s0, s1, s2, s3, s4, s5⟩ := hSw; go_simp) (by assumption) ?_
       try simp only [Act.put, List.setIfInBounds_toArray, List.set_cons_zero, List.set_cons_succ]
       refine wpAnyH_done (by kernel_rfl) ?_ _
       go_wp2
       go_ret
       exact ⟨rfl, BY.out.trans (b3.mono BY.out.size)⟩
   · have t1 : decide (D.p ≤ low) = false := decide_eq_false hp
     have hr : low < D.p ∨ low < 1 := Or.inl (by omega)
     have qa := pprep_any H2.out low
     rw [refused hr] at qa
     go_upto_region 11 with (first | (go_at_call 13; refine qa.mono ?_; rintro x w3 ⟨S3, v3, u3, rfl, h3, r3, k3⟩; obtain ⟨p3, c3, hu3⟩ := (OwnRc.row (l := []) r3).form; simp only [List.length_nil] at hu3; subst hu3) | (go_at_call 20; refine q3.mono ?_; rintro x wp ⟨rfl, hwp⟩; rw [hwp]; clear hwp))
     obtain ⟨y3, hy3⟩ : ∃ y, y = w3.alloc (.cells (outA (.slice p3 0 c3)) 42) := ⟨_, rfl⟩
     have a3 : Below w3.heap.size w3 y3 := by rw [hy3]; exact (Below.refl _ _).alloc (Nat.le_refl _) _
     have H3 : Hid (PA y3 W.heap.size S3 X D v3) := h3.fresh a3
     have b3 := B2.out.trans (k3.low B2.out.size (fun b hb => (H2.out.bd b hb).1))
     have B3 : Hid (Below W.heap.size W y3) := bmm b3 b3.size a3
     obtain ⟨O3, hO3⟩ : ∃ O, O = w3.heap.size := ⟨_, rfl⟩
     have o3 : y3.heap[O3]? = some (.cells (outA (.slice p3 0 c3)) 42 (0, 0)) := by rw [hy3, hO3]; exact heap_alloc_new w3 _
     have d3w := kept_out H2.out k3 D2.out (by decide) (by decide)
     have D3 : Hid (DuAt y3 OW D (.slice pw nw cw)) := (a3.block OW (lt_of_block d3w)).trans d3w
     have HY3 : Hid (w3.alloc (.cells (outA (.slice p3 0 c3)) 42) = y3) := hy3.symm
     have HO3 : Hid (w3.heap.size = O3) := hO3.symm
     have Q3 : Hid _ := o3
     have e3 : EnAt y3 w.heap.size e := (B3.out.block _ (lt_of_block EW.out)).trans EW.out
     have ze0 := EnAt.box e3 0 _ rfl
     have ze1 := EnAt.box e3 1 _ rfl
     have ze2 := EnAt.box e3 2 _ rfl
     have ze3 := EnAt.box e3 3 _ rfl
     have ze4 := EnAt.box e3 4 _ rfl
     have ze5 := EnAt.box e3 5 _ rfl
     have ze6 := EnAt.box e3 6 _ rfl
     rw [HY3.out, HO3.out]
     clear hy3 hO3 a3 h3 r3 k3 b3 o3 d3w qa e3
     have qb := pacc_any H3.out HR.out HL.out low e hn
     rw [refusedA e hr] at qb
     go_upto_region 12 with (go_at_call 15; refine qb.mono ?_; rintro x w4 ⟨S4, v4, u4, rfl, h4, r4, k4⟩; obtain ⟨p4, c4, hu4⟩ := (OwnRc.row (l := []) r4).form; simp only [List.length_nil] at hu4; subst hu4)
     obtain ⟨Y4, hy4⟩ : ∃ y, y = w4.alloc (.cells (outA (.slice p4 0 c4)) 42) := ⟨_, rfl⟩
     have a4 : Below w4.heap.size w4 Y4 := by rw [hy4]; exact (Below.refl _ _).alloc (Nat.le_refl _) _
     have H4 : Hid (PA Y4 W.heap.size S4 X D v4) := h4.fresh a4
     have b4 := B3.out.trans (k4.low B3.out.size (fun b hb => (H3.out.bd b hb).1))
     have BY : Hid (Below w.heap.size w Y4) := BW.out.trans ((bmm b4 b4.size a4).mono BW.out.size)
     obtain ⟨O4, hO4⟩ : ∃ O, O = w4.heap.size := ⟨_, rfl⟩
     have o4 : Y4.heap[O4]? = some (.cells (outA (.slice p4 0 c4)) 42 (0, 0)) := by rw [hy4, hO4]; exact heap_alloc_new w4 _
     have d4w := kept_out H3.out k4 D3.out (by decide) (by decide)
     have d4 : DuAt Y4 OW D (.slice pw nw cw) := (a4.block OW (lt_of_block d4w)).trans d4w
     have o34w := kept_out H3.out k4 Q3.out (by decide) (by decide)
     have o34 := (a4.block O3 (lt_of_block o34w)).trans o34w
     have SC : Hid (∀ y, Below Y4.heap.size Y4 y → y.cell? ⟨O3, 0, none⟩ = some (.slice p3 0 c3) ∧ y.cell? ⟨O4, 0, none⟩ = some (.slice p4 0 c4) ∧ y.cell? ⟨OW, 0, none⟩ = some (.int .i64 D.p) ∧ y.cell? ⟨OW, 1, none⟩ = some (.int .i64 D.b) ∧ y.cell? ⟨OW, 2, none⟩ = some (.string D.s) ∧ y.cell? ⟨OW, 3, none⟩ = some (.slice pw nw cw)) := fun y b => by
       have e1 := (b.block O3 (lt_of_block o34)).trans o34
       have e2 := (b.block O4 (lt_of_block o4)).trans o4
       have e3 : DuAt y OW D (.slice pw nw cw) := (b.block OW (lt_of_block d4)).trans d4
       exact ⟨by simp [World.cell?, e1], by simp [World.cell?, e2], e3.c0, e3.c1, e3.c2, e3.c3⟩
     have HW2 : Hid (∀ y, Below Y4.heap.size Y4 y → RowAt enC y (.slice pw nw cw) D.es) := fun y _ => (OwnEn.row R2.out).empty HE.out y
     have HY4 : Hid (w4.alloc (.cells (outA (.slice p4 0 c4)) 42) = Y4) := hy4.symm
     have HO4 : Hid (w4.heap.size = O4) := hO4.symm
     rw [HY4.out, HO4.out]
     have f0 := SC.out _ (Below.refl _ _)
     have f00 := f0.1
     have f01 := f0.2.1
     have f02 := f0.2.2.1
     have f03 := f0.2.2.2.1
     have f04 := f0.2.2.2.2.1
     have f05 := f0.2.2.2.2.2
     clear hy4 hO4 a4 h4 r4 k4 b4 o4 d4w d4 o34w o34 qb f0 ze0 ze1 ze2 ze3 ze4 ze5 ze6
     refine wp_region_held_drew (S := (fun y : World => y.cell? ⟨O3, 0, none⟩ = some (.slice p3 0 c3) ∧ y.cell? ⟨O4, 0, none⟩ = some (.slice p4 0 c4) ∧ y.cell? ⟨OW, 0, none⟩ = some (.int .i64 D.p) ∧ y.cell? ⟨OW, 1, none⟩ = some (.int .i64 D.b) ∧ y.cell? ⟨OW, 2, none⟩ = some (.string D.s) ∧ y.cell? ⟨OW, 3, none⟩ = some (.slice pw nw cw))) (by kernel_rfl) ?_ (fun hHeld0 => ?_)
     · exact SC.out _ ⟨rfl, rfl, rfl, Nat.le_refl _, fun _ _ => rfl⟩
     obtain ⟨y0, hy0⟩ : ∃ y, y = Y4.drew := ⟨_, rfl⟩
     have b0 : Below Y4.heap.size Y4 y0 := by rw [hy0]; exact ⟨rfl, rfl, rfl, Nat.le_refl _, fun _ _ => rfl⟩
     rw [← hy0] at hHeld0 ⊢
     clear hy0
     refine tk0 (.bool false) (by kernel_rfl) (by kernel_rfl) (by kernel_rfl) (fun _ _ _ h => h) rfl (fun w hSw => by (try dsimp only at hSw); obtain ⟨s0, s1, s2, s3, s4, s5⟩ := hSw; go_simp) (by assumption) ?_
     try simp only [Act.put, List.setIfInBounds_toArray, List.set_cons_zero, List.set_cons_succ]
     refine tk1 (.bool true) (by kernel_rfl) (by kernel_rfl) (by kernel_rfl) (fun _ _ _ h => h) rfl (fun w hSw => by (try dsimp only at hSw); obtain ⟨s0, s1, s2, s3, s4, s5⟩ := hSw; go_simp) (by assumption) ?_
     try simp only [Act.put, List.setIfInBounds_toArray, List.set_cons_zero, List.set_cons_succ]
     refine tk2 (.bool true) (by kernel_rfl) (by kernel_rfl) (by kernel_rfl) (fun _ _ _ h => h) rfl (fun w hSw => by (try dsimp only at hSw); obtain ⟨s0, s1, s2, s3, s4, s5⟩ := hSw; go_simp) (by assumption) ?_
     try simp only [Act.put, List.setIfInBounds_toArray, List.set_cons_zero, List.set_cons_succ]
     refine tk3 (.bool false) (by kernel_rfl) (by kernel_rfl) (by kernel_rfl) (fun _ _ _ h => h) rfl (fun w hSw => by (try dsimp only at hSw); obtain ⟨s0, s1, s2, s3, s4, s5⟩ := hSw; go_simp) (by assumption) ?_
     try simp only [Act.put, List.setIfInBounds_toArray, List.set_cons_zero, List.set_cons_succ]
     refine tk4 (.bool true) (by kernel_rfl) (by kernel_rfl) (by kernel_rfl) (fun _ _ _ h => h) rfl (fun w hSw => by (try dsimp only at hSw); obtain ⟨s0, s1, s2, s3, s4, s5⟩ := hSw; go_simp) (by assumption) ?_
     try simp only [Act.put, List.setIfInBounds_toArray, List.set_cons_zero, List.set_cons_succ]
     refine tk5 (.bool true) (by kernel_rfl) (by kernel_rfl) (by kernel_rfl) (fun _ _ _ h => h) rfl (fun w hSw => by (try dsimp only at hSw); obtain ⟨s0, s1, s2, s3, s4, s5⟩ := hSw; go_simp) (by assumption) ?_
     try simp only [Act.put, List.setIfInBounds_toArray, List.set_cons_zero, List.set_cons_succ]
     refine tk6 (.bool true) (by kernel_rfl) (by kernel_rfl) (by kernel_rfl) (fun _ _ _ h => h) rfl (fun w hSw => by (try dsimp only at hSw); obtain ⟨s0, s1, s2, s3, s4, s5⟩ := hSw; go_simp) (by assumption) ?_
     try simp only [Act.put, List.setIfInBounds_toArray, List.set_cons_zero, List.set_cons_succ]
     refine tk7 (.pointer (some ⟨O3, 0, none⟩)) (by kernel_rfl) (by kernel_rfl) (by kernel_rfl) (fun _ _ _ h => h) rfl (fun w hSw => by (try dsimp only at hSw); obtain ⟨s0, s1, s2, s3, s4, s5⟩ := hSw; go_simp) (by assumption) ?_
     try simp only [Act.put, List.setIfInBounds_toArray, List.set_cons_zero, List.set_cons_succ]
     refine tk8 (.slice p3 0 c3) (by kernel_rfl) (by kernel_rfl) (by kernel_rfl) (fun _ _ _ h => h) rfl (fun w hSw => by (try dsimp only at hSw); obtain ⟨s0, s1, s2, s3, s4, s5⟩ := hSw; go_simp) (by assumption) ?_
     try simp only [Act.put, List.setIfInBounds_toArray, List.set_cons_zero, List.set_cons_succ]
     refine tk9 (.int .i64 0) (by kernel_rfl) (by kernel_rfl) (by kernel_rfl) (fun _ _ _ h => h) rfl (fun w hSw => by (try dsimp only at hSw); obtain ⟨s0, s1, s2, s3, s4, s5⟩ := hSw; go_simp) (by assumption) ?_
     try simp only [Act.put, List.setIfInBounds_toArray, List.set_cons_zero, List.set_cons_succ]
     refine tk10 (.bool true) (by kernel_rfl) (by kernel_rfl) (by kernel_rfl) (fun _ _ _ h => h) rfl (fun w hSw => by (try dsimp only at hSw); obtain ⟨s0, s1, s2, s3, s4, s5⟩ := hSw; go_simp) (by assumption) ?_
     try simp only [Act.put, List.setIfInBounds_toArray, List.set_cons_zero, List.set_cons_succ]
     refine tk11 (.bool true) (by kernel_rfl) (by kernel_rfl) (by kernel_rfl) (fun _ _ _ h => h) rfl (fun w hSw => by (try dsimp only at hSw); obtain ⟨s0, s1, s2, s3, s4, s5⟩ := hSw; go_simp) (by assumption) ?_
     try simp only [Act.put, List.setIfInBounds_toArray, List.set_cons_zero, List.set_cons_succ]
     refine tk12 (.bool true) (by kernel_rfl) (by kernel_rfl) (by kernel_rfl) (fun _ _ _ h => h) rfl (fun w hSw => by (try dsimp only at hSw); obtain ⟨s0, s1, s2, s3, s4, s5⟩ := hSw; go_simp) (by assumption) ?_
     try simp only [Act.put, List.setIfInBounds_toArray, List.set_cons_zero, List.set_cons_succ]
     refine tk13 (.pointer (some ⟨O4, 0, none⟩)) (by kernel_rfl) (by kernel_rfl) (by kernel_rfl) (fun _ _ _ h => h) rfl (fun w hSw => by (try dsimp only at hSw); obtain ⟨s0, s1, s2, s3, s4, s5⟩ := hSw; go_simp) (by assumption) ?_
     try simp only [Act.put, List.setIfInBounds_toArray, List.set_cons_zero, List.set_cons_succ]
     refine tk14 (.slice p4 0 c4) (by kernel_rfl) (by kernel_rfl) (by kernel_rfl) (fun _ _ _ h => h) rfl (fun w hSw => by (try dsimp only at hSw); obtain ⟨s0, s1, s2, s3, s4, s5⟩ := hSw; go_simp) (by assumption) ?_
     try simp only [Act.put, List.setIfInBounds_toArray, List.set_cons_zero, List.set_cons_succ]
     refine tk15 (.int .i64 0) (by kernel_rfl) (by kernel_rfl) (by kernel_rfl) (fun _ _ _ h => h) rfl (fun w hSw => by (try dsimp only at hSw); obtain ⟨s0, s1, s2, s3, s4, s5⟩ := hSw; go_simp) (by assumption) ?_
     try simp only [Act.put, List.setIfInBounds_toArray, List.set_cons_zero, List.set_cons_succ]
     refine tk16 (.bool true) (by kernel_rfl) (by kernel_rfl) (by kernel_rfl) (fun _ _ _ h => h) rfl (fun w hSw => by (try dsimp only at hSw); obtain ⟨s0, s1, s2, s3, s4, s5⟩ := hSw; go_simp) (by assumption) ?_
     try simp only [Act.put, List.setIfInBounds_toArray, List.set_cons_zero, List.set_cons_succ]
     refine tk17 (.bool true) (by kernel_rfl) (by kernel_rfl) (by kernel_rfl) (fun _ _ _ h => h) rfl (fun w hSw => by (try dsimp only at hSw); obtain ⟨s0, s1, s2, s3, s4, s5⟩ := hSw; go_simp) (by assumption) ?_
     try simp only [Act.put, List.setIfInBounds_toArray, List.set_cons_zero, List.set_cons_succ]
     refine tk18 (.bool true) (by kernel_rfl) (by kernel_rfl) (by kernel_rfl) (fun _ _ _ h => h) rfl (fun w hSw => by (try dsimp only at hSw); obtain ⟨s0, s1, s2, s3, s4, s5⟩ := hSw; go_simp) (by assumption) ?_
     try simp only [Act.put, List.setIfInBounds_toArray, List.set_cons_zero, List.set_cons_succ]
     refine tk19 (.agg #[.int .i64 D.p, .int .i64 D.b, .string D.s, .slice pw nw cw]) (by kernel_rfl) (by kernel_rfl) (by kernel_rfl) (fun _ _ _ h => h) rfl (fun w hSw => by (try dsimp only at hSw); obtain ⟨s0, s1, s2, s3, s4, s5⟩ := hSw; go_simp) (by assumption) ?_
     try simp only [Act.put, List.setIfInBounds_toArray, List.set_cons_zero, List.set_cons_succ]
     refine tk20 (.pointer (some ⟨X, 0, none⟩)) (by kernel_rfl) (by kernel_rfl) (by kernel_rfl) (fun _ _ _ h => h) rfl (fun w hSw => by (try dsimp only at hSw); obtain ⟨s0, s1, s2, s3, s4, s5⟩ := hSw; go_simp) (by assumption) ?_
     try simp only [Act.put, List.setIfInBounds_toArray, List.set_cons_zero, List.set_cons_succ]
     refine cl21 (by kernel_rfl) rfl (fun K hK => ?_)
     go_simp
     go_at_call 25
     refine (pdur_any ((H4.out).fresh b0) HR.out HL.out HZ.out).mono ?_
     rintro x y1 ⟨v6, rfl, o6, c1⟩
     obtain ⟨p6, n6, q6, rfl⟩ := own_form o6
     have b1 := bmm b0 b0.size c1
     have O6 : Hid _ := o6
     clear o6
     have qb1 := SC.out y1 b1
     have qb10 := qb1.1
     have qb11 := qb1.2.1
     have qb12 := qb1.2.2.1
     have qb13 := qb1.2.2.2.1
     have qb14 := qb1.2.2.2.2.1
     have qb15 := qb1.2.2.2.2.2
     clear qb1
     refine hK.out _ _ ?_ (fun hHeld => ?_)
     · try dsimp only
       go_keep
     clear hK K
     try simp only [Act.put, List.setIfInBounds_toArray, List.set_cons_zero, List.set_cons_succ]
     refine cl22 (by kernel_rfl) rfl (fun K hK => ?_)
     go_simp
     go_at_call 23
     refine (rsameD_any _ D D _ _ (HW2.out _ b1) (OwnEn.row O6.out) (by have := HL.out; omega) true (by simp)).mono ?_
     rintro x y2 ⟨rfl, c2⟩
     have b2 := bmm b1 b1.size c2
     have qb2 := SC.out y2 b2
     have qb20 := qb2.1
     have qb21 := qb2.2.1
     have qb22 := qb2.2.2.1
     have qb23 := qb2.2.2.2.1
     have qb24 := qb2.2.2.2.2.1
     have qb25 := qb2.2.2.2.2.2
     clear qb2
     refine hK.out _ _ ?_ (fun hHeld => ?_)
     · try dsimp only
       go_keep
     clear hK K
     try simp only [Act.put, List.setIfInBounds_toArray, List.set_cons_zero, List.set_cons_succ]
     refine tk23 (.bool true) (by kernel_rfl) (by kernel_rfl) (by kernel_rfl) (fun _ _ _ h => h) rfl (fun w hSw => by (try dsimp only at hSw); obtain ⟨s0, s1, s2, s3, s4, s5⟩ := hSw; go_simp) (by assumption) ?_
     try simp only [Act.put, List.setIfInBounds_toArray, List.set_cons_zero, List.set_cons_succ]
     refine tk24 (.bool true) (by kernel_rfl) (by kernel_rfl) (by kernel_rfl) (fun _ _ _ h => h) rfl (fun w hSw => by (try dsimp only at hSw); obtain ⟨s0, s1, s2, s3, s4, s5⟩ := hSw; go_simp) (by assumption) ?_
     try simp only [Act.put, List.setIfInBounds_toArray, List.set_cons_zero, List.set_cons_succ]
     refine cl25 (by kernel_rfl) rfl (fun K hK => ?_)
     go_simp
     go_at_call 9
     refine (awake_any _).mono ?_
     rintro x y3 ⟨rfl, c3x⟩
     have b3 := bmm b2 b2.size c3x
     have qb3 := SC.out y3 b3
     have qb30 := qb3.1
     have qb31 := qb3.2.1
     have qb32 := qb3.2.2.1
     have qb33 := qb3.2.2.2.1
     have qb34 := qb3.2.2.2.2.1
     have qb35 := qb3.2.2.2.2.2
     clear qb3
     refine hK.out _ _ ?_ (fun hHeld => ?_)
     · try dsimp only
       go_keep
     clear hK K
     try simp only [Act.put, List.setIfInBounds_toArray, List.set_cons_zero, List.set_cons_succ]
     refine tk26 (.bool true) (by kernel_rfl) (by kernel_rfl) (by kernel_rfl) (fun _ _ _ h => h) rfl (fun w hSw => by (try dsimp only at hSw); obtain ⟨s0, s1, s2, s3, s4, s5⟩ := hSw; go_simp) (by assumption) ?_
     try simp only [Act.put, List.setIfInBounds_toArray, List.set_cons_zero, List.set_cons_succ]
     refine tk27 (.bool true) (by kernel_rfl) (by kernel_rfl) (by kernel_rfl) (fun _ _ _ h => h) rfl (fun w hSw => by (try dsimp only at hSw); obtain ⟨s0, s1, s2, s3, s4, s5⟩ := hSw; go_simp) (by assumption) ?_
     try simp only [Act.put, List.setIfInBounds_toArray, List.set_cons_zero, List.set_cons_succ]
     refine wpAnyH_done (by kernel_rfl) ?_ _
     go_wp2
     go_ret
     exact ⟨rfl, BY.out.trans (b3.mono BY.out.size)⟩)
end Go.Proofs.Ytkngpfngfmbmjaa
