/-
  Parts of the proof, laid together: FoAwake, FoAwakeW. The conditions stand at each part.
-/
import Derived.Test.YtodnnhidljfilaaGreatDoorFPack4
import Derived.Test.YtodnnhidljfilaaGreatDoorFPack5
/-
  Chapter 13's examples, of package durable. The condition: the program's variables lie as they are laid.
-/
namespace Go.Proofs.YtodnnhidljfilaaGreatDoor
open Go.Shelf Go.RowKit Go.Lib Go.Sort

def pr1 (n : Int) : Rc := ⟨1, n, En.zero⟩
def ac2 (s b : Int) : Rc := ⟨2, 0, ⟨s, b, Cm.zero⟩⟩
abbrev l13 : List Rc := [pr1 9, ac2 3 17]
abbrev l25 : List Rc := [pr1 25]
abbrev dd : Du := ⟨17, 0, ⟨#[]⟩, [⟨3, 17, Cm.zero⟩]⟩
abbrev dS : Du := ⟨25, 0, ⟨#[]⟩, [⟨3, 17, Cm.zero⟩]⟩
theorem dd_fold : foldD du0 l13 = dd := rfl
theorem dd_sz : SzD dd := ⟨by decide, fun e he => by rw [List.mem_singleton] at he; rw [he]; decide⟩
theorem dS_sz : SzD dS := ⟨by decide, fun e he => by rw [List.mem_singleton] at he; rw [he]; decide⟩
theorem l13_may : l13.all mayR = true := by decide
theorem l25_may : l25.all mayR = true := by decide
theorem l13_sz : SzR l13 := fun r hr => by
  simp only [List.mem_cons, List.not_mem_nil, or_false] at hr
  rcases hr with rfl | rfl <;> decide
theorem l25_sz : SzR l25 := fun r hr => by
  simp only [List.mem_cons, List.not_mem_nil, or_false] at hr
  rw [hr]
  decide
theorem recs_13 : (recs (crT l13 l25 0)).1 = l13 := by
  rw [crT_recs l13_may]
  have : (framesOf l25).take (min (framesOf l25).length (0 : Int).toNat) = [] := by simp
  rw [this, recs_nil, List.append_nil]
set_option maxHeartbeats 3200000 in
set_option maxRecDepth 100000 in
theorem lrec_any (n : Int) (w : World) : Calls Tryz.prog 31 #[.int .i64 n] w fun e w' => e = .returned (.agg (rcB (pr1 n))) ∧ Below w.heap.size w w' := by
  go_enter Tryz.func31, Tryz.ntmps31
  go_wp2
  have bb : Below w.heap.size w (w.alloc (.cells (rcB (pr1 n)) 69)) := (Below.refl _ w).alloc (Nat.le_refl _) _
  refine bodyPost_ret (results_cell_row Tryz.results31 _ _ w.heap.size 69 _ (0, 0) _ rfl (heap_alloc_new w _) Tryz.underlying69 rfl (by kernel_rfl)) rfl ?_
  exact ⟨rfl, bb⟩
set_option maxHeartbeats 3200000 in
set_option maxRecDepth 100000 in
theorem lacc_any (s b : Int) (w : World) : Calls Tryz.prog 32 #[.int .i64 s, .int .i64 b] w fun e w' => e = .returned (.agg (rcB (ac2 s b))) ∧ Below w.heap.size w w' := by
  go_enter Tryz.func32, Tryz.ntmps32
  go_wp2
  have bb : Below w.heap.size w (w.alloc (.cells (rcB (ac2 s b)) 69)) := (Below.refl _ w).alloc (Nat.le_refl _) _
  refine bodyPost_ret (results_cell_row Tryz.results32 _ _ w.heap.size 69 _ (0, 0) _ rfl (heap_alloc_new w _) Tryz.underlying69 rfl (by kernel_rfl)) rfl ?_
  exact ⟨rfl, bb⟩
end Go.Proofs.YtodnnhidljfilaaGreatDoor
/-
  Chapter 13's examples hold of package durable. The condition: the program's variables lie as they are laid.
-/
namespace Go.Proofs.YtodnnhidljfilaaGreatDoor
open Go.Shelf Go.RowKit Go.Lib Go.Sort

/-- A row of records that was just built, beside a store. -/
theorem StS.built {w : World} {base S L D k : Nat} {A : List CF} {t : Nat} {ro : Nat → Option Nat} {d : Du} {v : Value} (h : StS w base S L D k A t ro d v) (cs : Array Value) (l : List Rc) (n : Nat) (hc : cs.toList = rowL rcC l) (hn : n = l.length) :
    StS (w.alloc (.cells cs 69)) base S L D k A t ro d v ∧ RowO (w.alloc (.cells cs 69)) ro L (.slice (some ⟨w.heap.size, 0, none⟩) n n) l ∧ ∀ bk off m cap, 0 < m → (Value.slice (some ⟨w.heap.size, 0, none⟩) n n) = .slice (some ⟨bk, off, none⟩) m cap → bk ≠ S ∧ v.ownBlock ≠ some bk := by
  have hS := lt_of_block h.st
  have hL := h.lg.lt
  refine ⟨h.fresh ((Below.refl _ w).alloc (Nat.le_refl _) _), ⟨RowAt.built (heap_alloc_new w _) hc n hn rfl, fun bk off m cap _ e => ?_⟩, fun bk off m cap _ e => ?_⟩
  · injection e with e1 _ _
    injection e1 with e1
    injection e1 with e1
    subst e1
    refine ⟨by simp, ?_, by omega⟩
    cases hr : ro w.heap.size with
    | none => rfl
    | some x =>
      have := (h.lg.dk.bd _ (by rw [hr]; simp)).2
      omega
  · injection e with e1 _ _
    injection e1 with e1
    injection e1 with e1
    subst e1
    refine ⟨by omega, fun e2 => ?_⟩
    have := (h.own.lt _ e2).2
    omega
set_option maxHeartbeats 25600000 in
set_option maxRecDepth 100000 in
theorem awake13 (w : World) (B : Nat) (hE : Env w B) : Calls Tryz.prog 9 #[] w fun e w' => e = .returned (.bool true) ∧ Below w.heap.size w w' := by
  have HE : Hid (∀ w1, Below w.heap.size w w1 → Env w1 B) := fun w1 b => hE.fresh b
  have q1 : ∀ (w1 : World) (lv : Value), RowAt rcC w1 lv l13 → Calls Tryz.prog 10 #[.agg #[.int .i64 0, .int .i64 0, .string ⟨#[]⟩, .slice none 0 0], lv] w1 fun e w' => ∃ v', e = .returned (.agg (duA dd v')) ∧ OwnEn w' w1.heap.size v' dd.es ∧ Below w1.heap.size w1 w' := fun w1 lv h => by
    have := pFold_any w1 du0 (.slice none 0 0) lv l13 (RowAt.nil _) h (rises_nil _) (by decide) (by decide) du0_sz l13_sz
    rw [dd_fold] at this
    exact this
  clear hE
  go_enter Tryz.func9, Tryz.ntmps9
  go_upto_region 2 with (first
    | (go_at_call 10; refine (q1 _ _ (RowAt.built (heap_alloc_new _ _) rfl 2 rfl rfl)).mono ?_; rintro e wc ⟨vc, rfl, oc, bc⟩; obtain ⟨pd, nd, cd, rfl⟩ := own_form oc)
    | (go_at_call 32; refine (lacc_any 3 17 _).mono ?_; rintro e wb ⟨rfl, bb⟩)
    | (go_at_call 31; refine (lrec_any 9 _).mono ?_; rintro e wa ⟨rfl, ba⟩))
  obtain ⟨C, hC⟩ : ∃ C, C = wc.heap.size := ⟨_, rfl⟩
  obtain ⟨w1, hw1⟩ : ∃ w1, w1 = wc.alloc (.cells (duA dd (.slice pd nd cd)) 24) := ⟨_, rfl⟩
  have b1 : Below w.heap.size w w1 := by
    have k1 := bmm ba ba.size bb
    have k2 := k1.alloc k1.size (.cells (rcB (pr1 9) ++ rcB (ac2 3 17)) 69)
    have k3 := bmm k2 k2.size bc
    rw [hw1]
    exact k3.alloc k3.size _
  have d1 : DuAt w1 C dd (.slice pd nd cd) := by rw [hw1, hC]; exact heap_alloc_new wc _
  have r1 : RowAt enC w1 (.slice pd nd cd) dd.es := by
    have : OwnEn w1 _ (.slice pd nd cd) dd.es := own_keep oc (fun g e => by rw [hw1]; exact Below.heap_alloc wc _ g (oc.lt g e).2)
    exact OwnEn.row this
  have nd1 : nd = 1 := own_len oc
  subst nd1
  have D1 : Hid _ := d1
  have R1 : Hid _ := r1
  have BB1 : Hid _ := b1
  rw [← hw1, ← hC]
  clear hw1 hC b1 d1 r1 oc bc bb ba q1
  go_upto_region 3 with (first
    | (go_at_call 14; refine (precs_any _ dd _ R1.out (by decide) dd_sz).mono ?_; rintro e w2 ⟨u2, rfl, o2, b2⟩; obtain ⟨pl, nl, cl, rfl⟩ := own_form o2)
    | (show wpList _ _ _ (⟨_, Op.load 24 _, _, _, _, _⟩ :: _) _ _; refine load_row_g rfl 24 _ rfl C rfl 24 (duA dd (.slice pd 1 cd)) (0, 0) _ D1.out Tryz.underlying24 rfl sizeDu ?_))
  obtain ⟨G, hG, hn2, hg⟩ : ∃ G, pl = some ⟨G, 0, none⟩ ∧ nl = 2 ∧ G < w2.heap.size ∧ w2.cell? ⟨G, 1, none⟩ = some (.int .i64 17) := by
    rcases o2.2 with ⟨_, e2⟩ | ⟨G, cap, cur, e1, _, hb, _⟩
    · cases e2
    · injection e1 with e3 e4 e5
      obtain ⟨bk, off, cap', hvv, _, hbk, hc⟩ := (OwnRc.row o2).cells rcC_len (by decide)
      have := hc 0 (by decide) 1 (.int .i64 17) (by decide) rfl
      injection hvv with e6 _ _
      rw [e3] at e6
      injection e6 with e6
      injection e6 with e6 e7
      subst e6 e7
      exact ⟨G, e3, e4, hbk, this⟩
  subst hG hn2
  obtain ⟨hG, cg⟩ := hg
  have DW : Hid (DuAt w2 C dd (.slice pd 1 cd)) := (b2.block _ (lt_of_block D1.out)).trans D1.out
  have RW : Hid (RowAt enC w2 (.slice pd 1 cd) dd.es) := R1.out.fresh b2
  have BB2 : Hid (Below w.heap.size w w2) := bmm BB1.out BB1.out.size b2
  have CG : Hid (G < w2.heap.size ∧ w2.cell? ⟨G, 1, none⟩ = some (.int .i64 17)) := ⟨hG, cg⟩
  clear o2 b2 D1 R1 BB1 hG cg
  go_upto_region 7 with (first
    | (go_at_call 18; refine (popen0 h3.out (HE.out _ B3.out)).mono ?_; rintro e w4 ⟨S1, L1, v4, rfl, h4, b4⟩; have H4 : Hid _ := h4; have X4 : Hid (Below w2.heap.size w2 w4) := bmm C3.out C3.out.size b4; clear h4 b4)
    | (go_at_call 17; refine (dnew_S w2).mono ?_; rintro e w3 ⟨rfl, ro3, k3, b3⟩; have h3 : Hid _ := k3; have C3 : Hid _ := b3; have B3 : Hid (Below w.heap.size w w3) := bmm BB2.out BB2.out.size b3; clear k3 b3))
  go_upto_region 8 with (first
    | (go_at_call 20; have hb := (H4.out.fresh (Y6.out)).built (rcB (pr1 9) ++ rcB (ac2 3 17)) l13 2 rfl rfl; refine (put_sync (P := fun k A t => StA l13 k A t) hb.1 hb.2.1 hb.2.2 (appendSX hb.1.lg _ l13 hb.2.1.row (by decide) (HE.out _ (Z6.out)).tab l13_may) (by decide) (by decide) l13_sz).mono ?_; rintro e w5 ⟨rfl, k5, A5, t5, ro5, v5, h5, p5, b5⟩; have H5 : Hid _ := h5; have P5 : Hid _ := p5; have X5 : Hid (Below w2.heap.size w2 w5) := (((X4.out.trans (Y6.out.mono X4.out.size)).alloc (Nat.le_trans X4.out.size Y6.out.size) _).trans b5); clear h5 p5 b5 hb)
    | (go_at_call 32; refine (lacc_any 3 17 _).mono ?_; rintro e wb ⟨rfl, bb⟩; have Y6 : Hid (Below w4.heap.size w4 wb) := bmm Y5.out Y5.out.size bb; have Z6 : Hid (Below w.heap.size w (wb.alloc (.cells (rcB (pr1 9) ++ rcB (ac2 3 17)) 69))) := ((BB2.out.trans ((X4.out.trans (Y6.out.mono X4.out.size)).mono BB2.out.size)).alloc (Nat.le_trans (Nat.le_trans BB2.out.size X4.out.size) Y6.out.size) _); clear bb)
    | (go_at_call 31; refine (lrec_any 9 _).mono ?_; rintro e wa ⟨rfl, ba⟩; have Y5 : Hid _ := ba; clear ba))
  go_upto_region 9 with (first
    | (go_at_call 20; have hb := (H5.out.fresh (Y7.out)).built (rcB (pr1 25)) l25 1 rfl rfl; refine (put_alone (P := fun _ A t => StB l13 l25 A t) hb.1 hb.2.1 hb.2.2 (writeSX hb.1.lg P5.out l13_may (by decide) _ l25 hb.2.1.row (by decide) (HE.out _ (Z7.out)).tab l25_may) (by decide) (by decide) l25_sz).mono ?_; rintro e w6 ⟨rfl, k6, A6, t6, ro6, v6, h6, p6, b6⟩; have H6 : Hid (StS w6 w2.heap.size S1 L1 w2.heap.size k6 A6 t6 ro6 dS v6) := h6; have P6 : Hid _ := p6; have X6 : Hid (Below w2.heap.size w2 w6) := (((X5.out.trans (Y7.out.mono X5.out.size)).alloc (Nat.le_trans X5.out.size Y7.out.size) _).trans b6); clear h6 p6 b6 hb)
    | (go_at_call 31; refine (lrec_any 25 _).mono ?_; rintro e wx ⟨rfl, bx⟩; have Y7 : Hid (Below w5.heap.size w5 wx) := bx; have Z7 : Hid (Below w.heap.size w (wx.alloc (.cells (rcB (pr1 25)) 69))) := ((BB2.out.trans ((X5.out.trans (bx.mono X5.out.size)).mono BB2.out.size)).alloc (Nat.le_trans (Nat.le_trans BB2.out.size X5.out.size) bx.size) _); clear bx))
  go_upto_region 11 with (first
    | (go_at_call 18; refine (popenC h7.out C7.out P6.out.1 (HE.out _ B7.out) (by rw [recs_13]; decide) (by rw [recs_13]; exact l13_sz)).mono ?_; rintro e wz ⟨S2, L2, v8, ro8, rfl, s8, d8, o8, x8⟩; rw [recs_13, dd_fold] at d8 o8; have D8 : Hid _ := d8; have O8 : Hid _ := o8; have E8 : Hid _ := x8; clear d8 o8 x8 s8)
    | (go_at_call 24; refine (crashSX H6.out.lg.dk P6.out 0 (by decide) (by decide)).mono ?_; rintro e w7 ⟨rfl, A7, k7, c7, x7⟩; have h7 : Hid _ := k7; have C7 : Hid _ := c7; have E7 : Hid _ := x7; have X7 : Hid (Below w2.heap.size w2 w7) := X6.out.trans (H6.out.lg.dk.below x7); have B7 : Hid (Below w.heap.size w w7) := BB2.out.trans ((X6.out.trans (H6.out.lg.dk.below x7)).mono BB2.out.size); clear k7 c7 x7))
  have XZ : Hid (Below w2.heap.size w2 wz) := X7.out.trans (DkS.below h7.out E8.out)
  have BZ : Hid (Below w.heap.size w wz) := BB2.out.trans (XZ.out.mono BB2.out.size)
  have BD : Hid (Below wz.heap.size wz wz.drew) := ⟨rfl, rfl, rfl, Nat.le_refl _, fun _ _ => rfl⟩
  have DZ : Hid (∀ y, Below wz.heap.size wz y → DuAt y C dd (.slice pd 1 cd)) := fun y b => ((b.block _ (Nat.lt_of_lt_of_le (lt_of_block DW.out) XZ.out.size)).trans (XZ.out.block _ (lt_of_block DW.out))).trans DW.out
  have SC : Hid (∀ y : World, Below wz.heap.size wz y → y.cell? ⟨C, 0, none⟩ = some (.int .i64 17) ∧ y.cell? ⟨C, 1, none⟩ = some (.int .i64 0) ∧ y.cell? ⟨C, 2, none⟩ = some (.string ⟨#[]⟩) ∧ y.cell? ⟨C, 3, none⟩ = some (.slice pd 1 cd) ∧ y.cell? ⟨G, 1, none⟩ = some (.int .i64 17)) := fun y b => ⟨(DZ.out y b).c0, (DZ.out y b).c1, (DZ.out y b).c2, (DZ.out y b).c3, ((b.cell (p := ⟨G, 1, none⟩) (by show G < _; exact Nat.lt_of_lt_of_le CG.out.1 XZ.out.size)).trans (XZ.out.cell (p := ⟨G, 1, none⟩) (by exact CG.out.1))).trans CG.out.2⟩
  have RD : Hid (∀ y, Below wz.heap.size wz y → RowAt enC y (.slice pd 1 cd) dd.es) := fun y b => (RW.out.fresh XZ.out).fresh b
  have QT : Hid (∀ y, Below wz.heap.size wz y → Calls Tryz.prog 26 #[.pointer (some ⟨S2, 0, none⟩)] y fun e w' => ∃ v', e = .returned (.agg (duA dd v')) ∧ OwnEn w' y.heap.size v' dd.es ∧ Below y.heap.size y w') := fun y b => pstate ((b.block _ (lt_of_block D8.out)).trans D8.out) ((OwnEn.row O8.out).fresh b) (by decide) dd_sz
  have QS : Hid (∀ y, Below wz.heap.size wz y → Calls Tryz.prog 26 #[.pointer (some ⟨S1, 0, none⟩)] y fun e w' => ∃ v', e = .returned (.agg (duA dS v')) ∧ OwnEn w' y.heap.size v' dS.es ∧ Below y.heap.size y w') := fun y b => by
    have xx : Ext w6 wz ro6 ro8 := E7.out.trans E8.out
    have k1 : DxAt wz S1 87 (stL w2.heap.size L1) dS v6 := (xx.kept S1 (lt_of_block H6.out.st) H6.out.roS).trans H6.out.st
    have k2 : OwnEn wz w2.heap.size v6 dS.es := own_keep H6.out.own fun g e => xx.kept g (H6.out.own.lt g e).2 (H6.out.roV g e).1
    exact pstate ((b.block _ (lt_of_block k1)).trans k1) ((OwnEn.row k2).fresh b) (by decide) dS_sz
  clear H4 X4 H5 P5 X5 H6 P6 X6 h7 C7 E7 X7 B7 D8 O8 E8 DW RW CG h3 C3 B3
  have f := SC.out wz.drew BD.out
  have f0 := f.1
  have f1 := f.2.1
  have f2 := f.2.2.1
  have f3 := f.2.2.2.1
  have f4 := f.2.2.2.2
  clear f
  refine wp_region_held_drew (S := (fun w' : World => w'.cell? ⟨C, 0, none⟩ = some (.int .i64 17) ∧ w'.cell? ⟨C, 1, none⟩ = some (.int .i64 0) ∧ w'.cell? ⟨C, 2, none⟩ = some (.string ⟨#[]⟩) ∧ w'.cell? ⟨C, 3, none⟩ = some (.slice pd 1 cd) ∧ w'.cell? ⟨G, 1, none⟩ = some (.int .i64 17))) (by kernel_rfl) ?_ (fun hHeld0 => ?_)
  · try dsimp only
    go_keep
  refine tk0 (.pointer (some ⟨C, 0, none⟩)) (by kernel_rfl) (by kernel_rfl) (by kernel_rfl) (fun _ _ _ h => h) rfl (fun w hSw => by (try dsimp only at hSw); obtain ⟨q0, q1, q2, q3, q4⟩ := hSw; go_simp) (by assumption) ?_
  try simp only [Act.put, List.setIfInBounds_toArray, List.set_cons_zero, List.set_cons_succ]
  refine tk1 (.int .i64 17) (by kernel_rfl) (by kernel_rfl) (by kernel_rfl) (fun _ _ _ h => h) rfl (fun w hSw => by (try dsimp only at hSw); obtain ⟨q0, q1, q2, q3, q4⟩ := hSw; go_simp) (by assumption) ?_
  try simp only [Act.put, List.setIfInBounds_toArray, List.set_cons_zero, List.set_cons_succ]
  refine tk2 (.bool true) (by kernel_rfl) (by kernel_rfl) (by kernel_rfl) (fun _ _ _ h => h) rfl (fun w hSw => by (try dsimp only at hSw); obtain ⟨q0, q1, q2, q3, q4⟩ := hSw; go_simp) (by assumption) ?_
  try simp only [Act.put, List.setIfInBounds_toArray, List.set_cons_zero, List.set_cons_succ]
  refine tk3 (.bool true) (by kernel_rfl) (by kernel_rfl) (by kernel_rfl) (fun _ _ _ h => h) rfl (fun w hSw => by (try dsimp only at hSw); obtain ⟨q0, q1, q2, q3, q4⟩ := hSw; go_simp) (by assumption) ?_
  try simp only [Act.put, List.setIfInBounds_toArray, List.set_cons_zero, List.set_cons_succ]
  refine tk4 (.pointer (some ⟨C, 3, none⟩)) (by kernel_rfl) (by kernel_rfl) (by kernel_rfl) (fun _ _ _ h => h) rfl (fun w hSw => by (try dsimp only at hSw); obtain ⟨q0, q1, q2, q3, q4⟩ := hSw; go_simp) (by assumption) ?_
  try simp only [Act.put, List.setIfInBounds_toArray, List.set_cons_zero, List.set_cons_succ]
  refine tk5 (.slice pd 1 cd) (by kernel_rfl) (by kernel_rfl) (by kernel_rfl) (fun _ _ _ h => h) rfl (fun w hSw => by (try dsimp only at hSw); obtain ⟨q0, q1, q2, q3, q4⟩ := hSw; go_simp) (by assumption) ?_
  try simp only [Act.put, List.setIfInBounds_toArray, List.set_cons_zero, List.set_cons_succ]
  refine tk6 (.int .i64 1) (by kernel_rfl) (by kernel_rfl) (by kernel_rfl) (fun _ _ _ h => h) rfl (fun w hSw => by (try dsimp only at hSw); obtain ⟨q0, q1, q2, q3, q4⟩ := hSw; go_simp) (by assumption) ?_
  try simp only [Act.put, List.setIfInBounds_toArray, List.set_cons_zero, List.set_cons_succ]
  refine tk7 (.bool true) (by kernel_rfl) (by kernel_rfl) (by kernel_rfl) (fun _ _ _ h => h) rfl (fun w hSw => by (try dsimp only at hSw); obtain ⟨q0, q1, q2, q3, q4⟩ := hSw; go_simp) (by assumption) ?_
  try simp only [Act.put, List.setIfInBounds_toArray, List.set_cons_zero, List.set_cons_succ]
  refine tk8 (.bool true) (by kernel_rfl) (by kernel_rfl) (by kernel_rfl) (fun _ _ _ h => h) rfl (fun w hSw => by (try dsimp only at hSw); obtain ⟨q0, q1, q2, q3, q4⟩ := hSw; go_simp) (by assumption) ?_
  try simp only [Act.put, List.setIfInBounds_toArray, List.set_cons_zero, List.set_cons_succ]
  refine tk9 (.bool true) (by kernel_rfl) (by kernel_rfl) (by kernel_rfl) (fun _ _ _ h => h) rfl (fun w hSw => by (try dsimp only at hSw); obtain ⟨q0, q1, q2, q3, q4⟩ := hSw; go_simp) (by assumption) ?_
  try simp only [Act.put, List.setIfInBounds_toArray, List.set_cons_zero, List.set_cons_succ]
  refine tk10 (.slice (some ⟨G, 0, none⟩) 2 cl) (by kernel_rfl) (by kernel_rfl) (by kernel_rfl) (fun _ _ _ h => h) rfl (fun w hSw => by (try dsimp only at hSw); obtain ⟨q0, q1, q2, q3, q4⟩ := hSw; go_simp) (by assumption) ?_
  try simp only [Act.put, List.setIfInBounds_toArray, List.set_cons_zero, List.set_cons_succ]
  refine tk11 (.int .i64 2) (by kernel_rfl) (by kernel_rfl) (by kernel_rfl) (fun _ _ _ h => h) rfl (fun w hSw => by (try dsimp only at hSw); obtain ⟨q0, q1, q2, q3, q4⟩ := hSw; go_simp) (by assumption) ?_
  try simp only [Act.put, List.setIfInBounds_toArray, List.set_cons_zero, List.set_cons_succ]
  refine tk12 (.bool true) (by kernel_rfl) (by kernel_rfl) (by kernel_rfl) (fun _ _ _ h => h) rfl (fun w hSw => by (try dsimp only at hSw); obtain ⟨q0, q1, q2, q3, q4⟩ := hSw; go_simp) (by assumption) ?_
  try simp only [Act.put, List.setIfInBounds_toArray, List.set_cons_zero, List.set_cons_succ]
  refine tk13 (.bool true) (by kernel_rfl) (by kernel_rfl) (by kernel_rfl) (fun _ _ _ h => h) rfl (fun w hSw => by (try dsimp only at hSw); obtain ⟨q0, q1, q2, q3, q4⟩ := hSw; go_simp) (by assumption) ?_
  try simp only [Act.put, List.setIfInBounds_toArray, List.set_cons_zero, List.set_cons_succ]
  refine tk14 (.bool true) (by kernel_rfl) (by kernel_rfl) (by kernel_rfl) (fun _ _ _ h => h) rfl (fun w hSw => by (try dsimp only at hSw); obtain ⟨q0, q1, q2, q3, q4⟩ := hSw; go_simp) (by assumption) ?_
  try simp only [Act.put, List.setIfInBounds_toArray, List.set_cons_zero, List.set_cons_succ]
  refine tk15 (.slice (some ⟨G, 0, none⟩) 2 cl) (by kernel_rfl) (by kernel_rfl) (by kernel_rfl) (fun _ _ _ h => h) rfl (fun w hSw => by (try dsimp only at hSw); obtain ⟨q0, q1, q2, q3, q4⟩ := hSw; go_simp) (by assumption) ?_
  try simp only [Act.put, List.setIfInBounds_toArray, List.set_cons_zero, List.set_cons_succ]
  refine tk16 (.pointer (some ⟨G, 0, none⟩)) (by kernel_rfl) (by kernel_rfl) (by kernel_rfl) (fun _ _ _ h => h) rfl (fun w hSw => by (try dsimp only at hSw); obtain ⟨q0, q1, q2, q3, q4⟩ := hSw; go_simp) (by assumption) ?_
  try simp only [Act.put, List.setIfInBounds_toArray, List.set_cons_zero, List.set_cons_succ]
  refine tk17 (.pointer (some ⟨G, 1, none⟩)) (by kernel_rfl) (by kernel_rfl) (by kernel_rfl) (fun _ _ _ h => h) rfl (fun w hSw => by (try dsimp only at hSw); obtain ⟨q0, q1, q2, q3, q4⟩ := hSw; go_simp) (by assumption) ?_
  try simp only [Act.put, List.setIfInBounds_toArray, List.set_cons_zero, List.set_cons_succ]
  refine tk18 (.int .i64 17) (by kernel_rfl) (by kernel_rfl) (by kernel_rfl) (fun _ _ _ h => h) rfl (fun w hSw => by (try dsimp only at hSw); obtain ⟨q0, q1, q2, q3, q4⟩ := hSw; go_simp) (by assumption) ?_
  try simp only [Act.put, List.setIfInBounds_toArray, List.set_cons_zero, List.set_cons_succ]
  refine tk19 (.bool true) (by kernel_rfl) (by kernel_rfl) (by kernel_rfl) (fun _ _ _ h => h) rfl (fun w hSw => by (try dsimp only at hSw); obtain ⟨q0, q1, q2, q3, q4⟩ := hSw; go_simp) (by assumption) ?_
  try simp only [Act.put, List.setIfInBounds_toArray, List.set_cons_zero, List.set_cons_succ]
  refine tk20 (.bool true) (by kernel_rfl) (by kernel_rfl) (by kernel_rfl) (fun _ _ _ h => h) rfl (fun w hSw => by (try dsimp only at hSw); obtain ⟨q0, q1, q2, q3, q4⟩ := hSw; go_simp) (by assumption) ?_
  try simp only [Act.put, List.setIfInBounds_toArray, List.set_cons_zero, List.set_cons_succ]
  refine tk21 (.bool true) (by kernel_rfl) (by kernel_rfl) (by kernel_rfl) (fun _ _ _ h => h) rfl (fun w hSw => by (try dsimp only at hSw); obtain ⟨q0, q1, q2, q3, q4⟩ := hSw; go_simp) (by assumption) ?_
  try simp only [Act.put, List.setIfInBounds_toArray, List.set_cons_zero, List.set_cons_succ]
  refine tk22 (.int .i64 0) (by kernel_rfl) (by kernel_rfl) (by kernel_rfl) (fun _ _ _ h => h) rfl (fun w hSw => by (try dsimp only at hSw); obtain ⟨q0, q1, q2, q3, q4⟩ := hSw; go_simp) (by assumption) ?_
  try simp only [Act.put, List.setIfInBounds_toArray, List.set_cons_zero, List.set_cons_succ]
  refine tk23 (.bool true) (by kernel_rfl) (by kernel_rfl) (by kernel_rfl) (fun _ _ _ h => h) rfl (fun w hSw => by (try dsimp only at hSw); obtain ⟨q0, q1, q2, q3, q4⟩ := hSw; go_simp) (by assumption) ?_
  try simp only [Act.put, List.setIfInBounds_toArray, List.set_cons_zero, List.set_cons_succ]
  refine tk24 (.bool true) (by kernel_rfl) (by kernel_rfl) (by kernel_rfl) (fun _ _ _ h => h) rfl (fun w hSw => by (try dsimp only at hSw); obtain ⟨q0, q1, q2, q3, q4⟩ := hSw; go_simp) (by assumption) ?_
  try simp only [Act.put, List.setIfInBounds_toArray, List.set_cons_zero, List.set_cons_succ]
  refine tk25 (.bool true) (by kernel_rfl) (by kernel_rfl) (by kernel_rfl) (fun _ _ _ h => h) rfl (fun w hSw => by (try dsimp only at hSw); obtain ⟨q0, q1, q2, q3, q4⟩ := hSw; go_simp) (by assumption) ?_
  try simp only [Act.put, List.setIfInBounds_toArray, List.set_cons_zero, List.set_cons_succ]
  refine tk26 (.int .i64 0) (by kernel_rfl) (by kernel_rfl) (by kernel_rfl) (fun _ _ _ h => h) rfl (fun w hSw => by (try dsimp only at hSw); obtain ⟨q0, q1, q2, q3, q4⟩ := hSw; go_simp) (by assumption) ?_
  try simp only [Act.put, List.setIfInBounds_toArray, List.set_cons_zero, List.set_cons_succ]
  refine tk27 (.bool true) (by kernel_rfl) (by kernel_rfl) (by kernel_rfl) (fun _ _ _ h => h) rfl (fun w hSw => by (try dsimp only at hSw); obtain ⟨q0, q1, q2, q3, q4⟩ := hSw; go_simp) (by assumption) ?_
  try simp only [Act.put, List.setIfInBounds_toArray, List.set_cons_zero, List.set_cons_succ]
  refine tk28 (.bool true) (by kernel_rfl) (by kernel_rfl) (by kernel_rfl) (fun _ _ _ h => h) rfl (fun w hSw => by (try dsimp only at hSw); obtain ⟨q0, q1, q2, q3, q4⟩ := hSw; go_simp) (by assumption) ?_
  try simp only [Act.put, List.setIfInBounds_toArray, List.set_cons_zero, List.set_cons_succ]
  refine tk29 (.bool true) (by kernel_rfl) (by kernel_rfl) (by kernel_rfl) (fun _ _ _ h => h) rfl (fun w hSw => by (try dsimp only at hSw); obtain ⟨q0, q1, q2, q3, q4⟩ := hSw; go_simp) (by assumption) ?_
  try simp only [Act.put, List.setIfInBounds_toArray, List.set_cons_zero, List.set_cons_succ]
  refine tk30 (.pointer (some ⟨S2, 0, none⟩)) (by kernel_rfl) (by kernel_rfl) (by kernel_rfl) (fun _ _ _ h => h) rfl (fun w hSw => by (try dsimp only at hSw); obtain ⟨q0, q1, q2, q3, q4⟩ := hSw; go_simp) (by assumption) ?_
  try simp only [Act.put, List.setIfInBounds_toArray, List.set_cons_zero, List.set_cons_succ]
  refine tk31 (.bool true) (by kernel_rfl) (by kernel_rfl) (by kernel_rfl) (fun _ _ _ h => h) rfl (fun w hSw => by (try dsimp only at hSw); obtain ⟨q0, q1, q2, q3, q4⟩ := hSw; go_simp) (by assumption) ?_
  try simp only [Act.put, List.setIfInBounds_toArray, List.set_cons_zero, List.set_cons_succ]
  refine tk32 (.bool true) (by kernel_rfl) (by kernel_rfl) (by kernel_rfl) (fun _ _ _ h => h) rfl (fun w hSw => by (try dsimp only at hSw); obtain ⟨q0, q1, q2, q3, q4⟩ := hSw; go_simp) (by assumption) ?_
  try simp only [Act.put, List.setIfInBounds_toArray, List.set_cons_zero, List.set_cons_succ]
  refine tk33 (.bool true) (by kernel_rfl) (by kernel_rfl) (by kernel_rfl) (fun _ _ _ h => h) rfl (fun w hSw => by (try dsimp only at hSw); obtain ⟨q0, q1, q2, q3, q4⟩ := hSw; go_simp) (by assumption) ?_
  try simp only [Act.put, List.setIfInBounds_toArray, List.set_cons_zero, List.set_cons_succ]
  refine tk34 (.int .i64 0) (by kernel_rfl) (by kernel_rfl) (by kernel_rfl) (fun _ _ _ h => h) rfl (fun w hSw => by (try dsimp only at hSw); obtain ⟨q0, q1, q2, q3, q4⟩ := hSw; go_simp) (by assumption) ?_
  try simp only [Act.put, List.setIfInBounds_toArray, List.set_cons_zero, List.set_cons_succ]
  refine tk35 (.bool true) (by kernel_rfl) (by kernel_rfl) (by kernel_rfl) (fun _ _ _ h => h) rfl (fun w hSw => by (try dsimp only at hSw); obtain ⟨q0, q1, q2, q3, q4⟩ := hSw; go_simp) (by assumption) ?_
  try simp only [Act.put, List.setIfInBounds_toArray, List.set_cons_zero, List.set_cons_succ]
  refine tk36 (.bool true) (by kernel_rfl) (by kernel_rfl) (by kernel_rfl) (fun _ _ _ h => h) rfl (fun w hSw => by (try dsimp only at hSw); obtain ⟨q0, q1, q2, q3, q4⟩ := hSw; go_simp) (by assumption) ?_
  try simp only [Act.put, List.setIfInBounds_toArray, List.set_cons_zero, List.set_cons_succ]
  refine tk37 (.bool true) (by kernel_rfl) (by kernel_rfl) (by kernel_rfl) (fun _ _ _ h => h) rfl (fun w hSw => by (try dsimp only at hSw); obtain ⟨q0, q1, q2, q3, q4⟩ := hSw; go_simp) (by assumption) ?_
  try simp only [Act.put, List.setIfInBounds_toArray, List.set_cons_zero, List.set_cons_succ]
  refine tk38 (.pointer (some ⟨S2, 0, none⟩)) (by kernel_rfl) (by kernel_rfl) (by kernel_rfl) (fun _ _ _ h => h) rfl (fun w hSw => by (try dsimp only at hSw); obtain ⟨q0, q1, q2, q3, q4⟩ := hSw; go_simp) (by assumption) ?_
  try simp only [Act.put, List.setIfInBounds_toArray, List.set_cons_zero, List.set_cons_succ]
  refine tk40 (.agg (duA dd (.slice pd 1 cd))) (by kernel_rfl) (by kernel_rfl) (by kernel_rfl) (fun _ _ _ h => h) rfl (fun w hSw => by (try dsimp only at hSw); obtain ⟨q0, q1, q2, q3, q4⟩ := hSw; go_simp) (by assumption) ?_
  try simp only [Act.put, List.setIfInBounds_toArray, List.set_cons_zero, List.set_cons_succ]
  refine cl39 (by kernel_rfl) rfl (fun K hK => ?_)
  go_simp
  go_at_call 26
  refine (QT.out _ BD.out).mono ?_
  rintro e x1 ⟨v1, rfl, o1, b1⟩
  obtain ⟨p1, n1, c1, rfl⟩ := own_form o1
  have B1 : Hid (Below wz.heap.size wz x1) := bmm BD.out BD.out.size b1
  have O1 : Hid _ := o1
  have m := SC.out x1 B1.out
  have m0 := m.1
  have m1 := m.2.1
  have m2 := m.2.2.1
  have m3 := m.2.2.2.1
  have m4 := m.2.2.2.2
  clear m
  clear o1 b1
  refine hK.out _ _ ?_ (fun hHeld => ?_)
  · try dsimp only
    go_keep
  clear hK K
  try simp only [Act.put, List.setIfInBounds_toArray, List.set_cons_zero, List.set_cons_succ]
  refine cl41 (by kernel_rfl) rfl (fun K hK => ?_)
  go_simp
  go_at_call 16
  refine (psame_any _ dd dd _ _ (OwnEn.row O1.out) (RD.out _ B1.out) (by decide) true (by simp)).mono ?_
  rintro e x2 ⟨rfl, b2⟩
  have B2 : Hid (Below wz.heap.size wz x2) := bmm B1.out B1.out.size b2
  have o := SC.out x2 B2.out
  have o0 := o.1
  have o1 := o.2.1
  have o2 := o.2.2.1
  have o3 := o.2.2.2.1
  have o4 := o.2.2.2.2
  clear o
  clear b2
  refine hK.out _ _ ?_ (fun hHeld => ?_)
  · try dsimp only
    go_keep
  clear hK K
  try simp only [Act.put, List.setIfInBounds_toArray, List.set_cons_zero, List.set_cons_succ]
  refine tk42 (.bool true) (by kernel_rfl) (by kernel_rfl) (by kernel_rfl) (fun _ _ _ h => h) rfl (fun w hSw => by (try dsimp only at hSw); obtain ⟨q0, q1, q2, q3, q4⟩ := hSw; go_simp) (by assumption) ?_
  try simp only [Act.put, List.setIfInBounds_toArray, List.set_cons_zero, List.set_cons_succ]
  refine tk43 (.bool true) (by kernel_rfl) (by kernel_rfl) (by kernel_rfl) (fun _ _ _ h => h) rfl (fun w hSw => by (try dsimp only at hSw); obtain ⟨q0, q1, q2, q3, q4⟩ := hSw; go_simp) (by assumption) ?_
  try simp only [Act.put, List.setIfInBounds_toArray, List.set_cons_zero, List.set_cons_succ]
  refine tk44 (.pointer (some ⟨S1, 0, none⟩)) (by kernel_rfl) (by kernel_rfl) (by kernel_rfl) (fun _ _ _ h => h) rfl (fun w hSw => by (try dsimp only at hSw); obtain ⟨q0, q1, q2, q3, q4⟩ := hSw; go_simp) (by assumption) ?_
  try simp only [Act.put, List.setIfInBounds_toArray, List.set_cons_zero, List.set_cons_succ]
  refine tk46 (.agg (duA dd (.slice pd 1 cd))) (by kernel_rfl) (by kernel_rfl) (by kernel_rfl) (fun _ _ _ h => h) rfl (fun w hSw => by (try dsimp only at hSw); obtain ⟨q0, q1, q2, q3, q4⟩ := hSw; go_simp) (by assumption) ?_
  try simp only [Act.put, List.setIfInBounds_toArray, List.set_cons_zero, List.set_cons_succ]
  refine cl45 (by kernel_rfl) rfl (fun K hK => ?_)
  go_simp
  go_at_call 26
  refine (QS.out _ B2.out).mono ?_
  rintro e x3 ⟨v3, rfl, o3, b3⟩
  obtain ⟨p3, n3, c3, rfl⟩ := own_form o3
  have B3 : Hid (Below wz.heap.size wz x3) := bmm B2.out B2.out.size b3
  have O3 : Hid _ := o3
  have s := SC.out x3 B3.out
  have s0 := s.1
  have s1 := s.2.1
  have s2 := s.2.2.1
  have s3 := s.2.2.2.1
  have s4 := s.2.2.2.2
  clear s
  clear o3 b3
  refine hK.out _ _ ?_ (fun hHeld => ?_)
  · try dsimp only
    go_keep
  clear hK K
  try simp only [Act.put, List.setIfInBounds_toArray, List.set_cons_zero, List.set_cons_succ]
  refine cl47 (by kernel_rfl) rfl (fun K hK => ?_)
  go_simp
  go_at_call 16
  refine (psame_any _ dS dd _ _ (OwnEn.row O3.out) (RD.out _ B3.out) (by decide) false (by simp)).mono ?_
  rintro e x4 ⟨rfl, b4⟩
  have B4 : Hid (Below wz.heap.size wz x4) := bmm B3.out B3.out.size b4
  have u := SC.out x4 B4.out
  have u0 := u.1
  have u1 := u.2.1
  have u2 := u.2.2.1
  have u3 := u.2.2.2.1
  have u4 := u.2.2.2.2
  clear u
  clear b4
  refine hK.out _ _ ?_ (fun hHeld => ?_)
  · try dsimp only
    go_keep
  clear hK K
  try simp only [Act.put, List.setIfInBounds_toArray, List.set_cons_zero, List.set_cons_succ]
  refine tk48 (.bool true) (by kernel_rfl) (by kernel_rfl) (by kernel_rfl) (fun _ _ _ h => h) rfl (fun w hSw => by (try dsimp only at hSw); obtain ⟨q0, q1, q2, q3, q4⟩ := hSw; go_simp) (by assumption) ?_
  try simp only [Act.put, List.setIfInBounds_toArray, List.set_cons_zero, List.set_cons_succ]
  refine tk49 (.bool true) (by kernel_rfl) (by kernel_rfl) (by kernel_rfl) (fun _ _ _ h => h) rfl (fun w hSw => by (try dsimp only at hSw); obtain ⟨q0, q1, q2, q3, q4⟩ := hSw; go_simp) (by assumption) ?_
  try simp only [Act.put, List.setIfInBounds_toArray, List.set_cons_zero, List.set_cons_succ]
  refine tk50 (.bool true) (by kernel_rfl) (by kernel_rfl) (by kernel_rfl) (fun _ _ _ h => h) rfl (fun w hSw => by (try dsimp only at hSw); obtain ⟨q0, q1, q2, q3, q4⟩ := hSw; go_simp) (by assumption) ?_
  try simp only [Act.put, List.setIfInBounds_toArray, List.set_cons_zero]
  refine wpAnyH_done (by kernel_rfl) ?_ _
  go_wp2
  go_ret
  exact ⟨rfl, bmm BZ.out BZ.out.size B4.out⟩
end Go.Proofs.YtodnnhidljfilaaGreatDoor
