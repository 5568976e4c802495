/-
  Parts of the proof, laid together: AcPrep, AcAcc. The conditions stand at each part.
-/
import Derived.Test.YtkngpfngfmbmjaaYAcPut
/-
  Package acceptor: Prepare, Accept. The conditions: at most 2^29 entries, which rise; a name has at most 2^48 bytes.
-/
namespace Go.Proofs.Ytkngpfngfmbmjaa
open Go.Shelf Go.RowKit Go.Lib Go.Sort

theorem Kept.cut {w w1 w2 : World} {S S' R R' : Nat → Prop} (b : Below w.heap.size w w1) (k : Kept w1 w2 (fun x => S x ∨ R x) (fun x => S' x ∨ R' x)) (hR : ∀ x, R x → w.heap.size ≤ x) : Kept w w2 S S' := by
  refine ⟨k.os.trans b.os, k.tape.trans b.tape, k.output.trans b.output, Nat.le_trans b.size k.size, fun x hx => ?_, fun x hx hn => (k.kept x (Nat.lt_of_lt_of_le hx b.size) (fun e => ?_)).trans (b.block x hx)⟩
  · rcases k.old x (Or.inl hx) with (h1 | h1) | h1
    · exact Or.inl h1
    · exact Or.inr (hR x h1)
    · exact Or.inr (Nat.le_trans b.size h1)
  · rcases e with e | e
    · exact hn e
    · have := hR x e
      omega
theorem Kept.grown {w w1 w2 : World} {S S' : Nat → Prop} {O : Nat} (k : Kept w w1 S S') (g : w1.grownBy w2 (some O)) (hO : w.heap.size ≤ O) : Kept w w2 S S' :=
  ⟨g.os.trans k.os, g.tape.trans k.tape, g.output.trans k.output, Nat.le_trans k.size g.size, k.old, fun x hx hn => (g.block x (Nat.lt_of_lt_of_le hx k.size) (fun e => by have := Option.some.inj e; omega)).trans (k.kept x hx hn)⟩
theorem AcAt.neT {T t : TypeId} {w : World} {base X O : Nat} {S : Nat → Prop} {d : Du} {v : Value} {cs : Array Value} {fr : Nat × Nat} (h : AcAt T w base S X d v) (hO : w.heap[O]? = some (.cells cs t fr)) (h1 : T ≠ t) (h2 : 36 ≠ t) : ∀ b, S b → b ≠ O := fun b hb e => by
  subst e
  rcases (h.set b).1 hb with rfl | e1
  · have := h.blk.symm.trans hO
    simp only [Option.some.injEq, Obj.cells.injEq] at this
    exact h1 this.2.1
  · exact own_ne h.own hO h2 e1
/-- What Prepare and Accept answer: the records, the answer, what is known then. -/
structure AnsPost (T : TypeId) (w : World) (base : Nat) (S : Nat → Prop) (X : Nat) (a : Ans) (e : Ending) (w' : World) : Prop where
  ex : ∃ S' v' u, e = .returned (.tuple #[.agg (outA u), .bool a.ok]) ∧ AcAt T w' base S' X a.st v' ∧ OwnRc w' w.heap.size u a.recs ∧ Kept w w' S S'
section
variable {w : World} {base X : Nat} {S : Nat → Prop} {d : Du} {v : Value}
set_option maxHeartbeats 6400000 in
set_option maxRecDepth 100000 in
theorem pprep_any (h : PA w base S X d v) (b : Int) : Calls Try.prog 13 #[.pointer (some ⟨X, 0, none⟩), .int .i64 b] w (AnsPost 61 w base S X (prepD d b)) := by
  obtain ⟨pv, nv, qv, rfl⟩ := own_form h.own
  obtain ⟨W, hW⟩ : ∃ W, W = w.alloc (.cells (outA (.slice none 0 0)) 42) := ⟨_, rfl⟩
  have bW : Below w.heap.size w W := by rw [hW]; exact (Below.refl _ w).alloc (Nat.le_refl _) _
  have oW : W.heap[w.heap.size]? = some (.cells (outA (.slice none 0 0)) 42 (0, 0)) := by rw [hW]; exact heap_alloc_new w _
  have sW : W.heap.size = w.heap.size + 1 := by rw [hW]; simp
  have hP := h.fresh bW
  have HW : Hid (w.alloc (.cells (outA (.slice none 0 0)) 42) = W) := hW.symm
  have BW : Hid (Below w.heap.size w W ∧ W.heap.size = w.heap.size + 1) := ⟨bW, sW⟩
  have OW : Hid _ := oW
  by_cases hok : 1 ≤ b ∧ d.p ≤ b
  · have q1 := pmay_any hP b true (by simp [hok.1, hok.2])
    have HE : Hid (prepD d b = promD d b) := by
      show (if _ then _ else _) = _
      rw [if_neg (by omega)]
    obtain ⟨W2, hW2⟩ : ∃ W2, W2 = W.alloc (.cells #[.slice none 0 0] 70) := ⟨_, rfl⟩
    have b2 : Below W.heap.size W W2 := by rw [hW2]; exact (Below.refl _ W).alloc (Nat.le_refl _) _
    have r2 : RrAt W2 W.heap.size (.slice none 0 0) [] := ⟨by rw [hW2]; exact heap_alloc_new W _, World.ownsRow_nil _ _ _ _⟩
    have q2 := praise_any (hP.fresh b2) r2 (fun x hx e => by have := (h.bd x hx).2; omega) b hok.2
    have HW2 : Hid (W.alloc (.cells #[.slice none 0 0] 70) = W2) := hW2.symm
    have B2 : Hid (Below w.heap.size w W2) := bmm bW bW.size b2
    have OW2 : Hid _ := (b2.block _ (lt_of_block oW)).trans oW
    have HH : Hid _ := h
    clear hW2 b2 r2 hP h hW bW oW sW hok
    go_enter Try.func13, Try.ntmps13
    go_upto_region 1 with fail
    rw [HW.out]
    go_upto_region 3 with (go_at_call 31; refine q1.mono ?_; rintro e w2 ⟨rfl, rfl⟩)
    go_upto_region 4 with fail
    rw [HW2.out]
    go_upto_region 5 with (go_at_call 32; refine q2.mono ?_; rintro e w3 ⟨u3, rfl, h3, r3, k3⟩; obtain ⟨p3, n3, c3, rfl⟩ := own_form r3.own; have z3 := r3.c0; have O3 : Hid (w3.heap[w.heap.size]? = some (.cells (outA (.slice none 0 0)) 42 (0, 0))) := (k3.kept _ (lt_of_block OW2.out) (fun e => by
        rcases e with e | e
        · have := (HH.out.bd _ e).2; omega
        · rcases e with e | e
          · have := BW.out.2; omega
          · simp [Value.ownBlock] at e)).trans OW2.out; have H3 : Hid _ := h3; have R3 : Hid _ := r3; have K3 : Hid (Kept w w3 S S) := Kept.cut B2.out k3 (fun x hx => by
        rcases hx with rfl | hx
        · exact BW.out.1.size
        · simp [Value.ownBlock] at hx); clear h3 r3 k3)
    go_wp2_with (show wpList _ _ _ (⟨_, Op.store 42 _ _, _, _, _, _⟩ :: _) _ _; refine store_row_g rfl 42 _ _ rfl w.heap.size (outA (.slice p3 n3 c3)) rfl rfl 42 _ O3.out sizeOut rfl (by simp [Value.oneCell']) ?_; intro w6 h6 g6)
    refine bodyPost_ret (results_two Try.results13 _ _ w.heap.size _ rfl (load_out h6)) rfl ?_
    rw [HE.out]
    exact ⟨S, _, _, rfl, H3.out.keep fun x hx => g6.block x (H3.out.bd x hx).2 (fun e => by have h1 := (HH.out.bd x hx).2; have := Option.some.inj e; omega), own_mono (own_keep R3.out.own fun x e => g6.block x (R3.out.own.lt x e).2 (fun e2 => own_ne R3.out.own O3.out (by decide) (by rw [e, e2]))) BW.out.1.size, K3.out.grown g6 (Nat.le_refl _)⟩
  · have hrf : false = (decide (1 ≤ b) && decide (d.p ≤ b)) := by
      by_cases h1 : 1 ≤ b
      · have h2 : ¬ d.p ≤ b := fun h2 => hok ⟨h1, h2⟩
        simp [h2]
      · simp [h1]
    have q1 := pmay_any hP b false hrf
    have HE : Hid (prepD d b = ⟨d, [], false⟩) := by
      show (if _ then _ else _) = _
      rw [if_pos (by omega)]
    have HP : Hid _ := hP
    have HH : Hid _ := h
    clear hP h hW bW oW sW hok hrf
    go_enter Try.func13, Try.ntmps13
    go_upto_region 1 with fail
    rw [HW.out]
    go_wp2_with (first
      | (show wpList _ _ _ (⟨_, Op.store 42 _ _, _, _, _, _⟩ :: _) _ _; refine store_row_g rfl 42 _ _ rfl w.heap.size (outA (.slice none 0 0)) rfl rfl 42 _ OW.out sizeOut rfl (by simp [Value.oneCell']) ?_; intro w6 h6 g6)
      | (go_at_call 31; refine q1.mono ?_; rintro e w2 ⟨rfl, rfl⟩))
    refine bodyPost_ret (results_two Try.results13 _ _ w.heap.size _ rfl (load_out h6)) rfl ?_
    rw [HE.out]
    exact ⟨S, _, _, rfl, HP.out.keep fun x hx => g6.block x (HP.out.bd x hx).2 (fun e => by have h1 := (HH.out.bd x hx).2; have := Option.some.inj e; omega), World.ownsRow_nil _ _ _ _, (Kept.of BW.out.1).grown g6 (Nat.le_refl _)⟩
end
end Go.Proofs.Ytkngpfngfmbmjaa
/-
  Package acceptor: Accept. The conditions: at most 2^29 entries, which rise; a name has at most 2^48 bytes.
-/
namespace Go.Proofs.Ytkngpfngfmbmjaa
open Go.Shelf Go.RowKit Go.Lib Go.Sort

theorem putA_acc (d : Du) (b : Int) (e : En) (h : ¬ (b < 1 ∨ b < d.p ∨ e.slot < 1)) : putA ⟨b, d.b, d.s, d.es⟩ (promD d b).recs (accE b e) = ((accD d b e).st, (accD d b e).recs) ∧ (accD d b e).ok = true := by
  unfold putA accD
  rw [if_neg h]
  show (if d.b < e.slot ∧ isE (findE d.es e.slot) (accE b e) = false then _ else _) = _ ∧ _
  split
  · exact ⟨rfl, rfl⟩
  · exact ⟨rfl, rfl⟩
theorem EnAt.set1 {w : World} {B : Nat} {e : En} (h : EnAt w B e) (b : Int) : EnAt (w.setCell ⟨B, 1, none⟩ (.int .i64 b)) B (accE b e) := by
  show (w.setCell ⟨B, 1, none⟩ (.int .i64 b)).heap[B]? = _
  rw [heap_setCell_same w B 1 _ _ _ h]
  rfl
section
variable {w : World} {base X : Nat} {S : Nat → Prop} {d : Du} {v : Value}
set_option maxHeartbeats 6400000 in
set_option maxRecDepth 100000 in
theorem pacc_any (h : PA w base S X d v) (hu : Rises d.b d.es) (hl : d.es.length ≤ 536870912) (b : Int) (e : En) (hn : nameOk e.cmd.name) : Calls Try.prog 15 #[.pointer (some ⟨X, 0, none⟩), .int .i64 b, .agg (enA e)] w (AnsPost 61 w base S X (accD d b e)) := by
  obtain ⟨pv, nv, qv, rfl⟩ := own_form h.own
  obtain ⟨W, hW⟩ : ∃ W, W = (w.alloc (.cells (enA e) 36)).alloc (.cells (outA (.slice none 0 0)) 42) := ⟨_, rfl⟩
  have bW : Below w.heap.size w W := by rw [hW]; exact ((Below.refl _ w).alloc (Nat.le_refl _) _).alloc (by simp) _
  have h2 := two_blocks w (.cells (enA e) 36) (.cells (outA (.slice none 0 0)) 42)
  have eW : EnAt W w.heap.size e := by rw [hW]; exact h2.1.trans (heap_alloc_new w _)
  have oW : W.heap[w.heap.size + 1]? = some (.cells (outA (.slice none 0 0)) 42 (0, 0)) := by rw [hW]; exact h2.2.trans (heap_alloc_new _ _)
  have sW : W.heap.size = w.heap.size + 2 := by rw [hW]; simp
  have hP := h.fresh bW
  have c0 := eW.c0
  have HW : Hid ((w.alloc (.cells (enA e) 36)).alloc (.cells (outA (.slice none 0 0)) 42) = W) := hW.symm
  have BW : Hid (Below w.heap.size w W ∧ W.heap.size = w.heap.size + 2) := ⟨bW, sW⟩
  have OW : Hid _ := oW
  by_cases hok : 1 ≤ b ∧ d.p ≤ b
  · have q1 := pmay_any hP b true (by simp [hok.1, hok.2])
    by_cases hs : e.slot < 1
    · have t1 : decide (e.slot < 1) = true := decide_eq_true hs
      have HE : Hid (accD d b e = ⟨d, [], false⟩) := by
        show (if _ then _ else _) = _
        rw [if_pos (by omega)]
      have HP : Hid _ := hP
      have HH : Hid _ := h
      clear hP h hW bW oW sW hok eW h2
      go_enter Try.func15, Try.ntmps15
      go_upto_region 1 with fail
      rw [HW.out]
      go_wp2_with (first
        | (show wpList _ _ _ (⟨_, Op.store 42 _ _, _, _, _, _⟩ :: _) _ _; refine store_row_g rfl 42 _ _ rfl (w.heap.size + 1) (outA (.slice none 0 0)) rfl rfl 42 _ OW.out sizeOut rfl (by simp [Value.oneCell']) ?_; intro w6 h6 g6)
        | (go_at_call 31; refine q1.mono ?_; rintro e w2 ⟨rfl, rfl⟩))
      refine bodyPost_ret (results_two Try.results15 _ _ (w.heap.size + 1) _ rfl (load_out h6)) rfl ?_
      rw [HE.out]
      exact ⟨S, _, _, rfl, HP.out.keep fun x hx => g6.block x (HP.out.bd x hx).2 (fun e => by have h1 := (HH.out.bd x hx).2; have := Option.some.inj e; omega), World.ownsRow_nil _ _ _ _, (Kept.of BW.out.1).grown g6 (Nat.le_succ _)⟩
    · have t1 : decide (e.slot < 1) = false := decide_eq_false hs
      have HE := putA_acc d b e (by omega)
      obtain ⟨W2, hW2⟩ : ∃ W2, W2 = W.alloc (.cells #[.slice none 0 0] 70) := ⟨_, rfl⟩
      have b2 : Below W.heap.size W W2 := by rw [hW2]; exact (Below.refl _ W).alloc (Nat.le_refl _) _
      have r2 : RrAt W2 W.heap.size (.slice none 0 0) [] := ⟨by rw [hW2]; exact heap_alloc_new W _, World.ownsRow_nil _ _ _ _⟩
      have q2 := praise_any (hP.fresh b2) r2 (fun x hx e => by have := (h.bd x hx).2; omega) b hok.2
      have HW2 : Hid (W.alloc (.cells #[.slice none 0 0] 70) = W2) := hW2.symm
      have B2 : Hid (Below w.heap.size w W2) := bmm bW bW.size b2
      have OW2 : Hid _ := (b2.block _ (lt_of_block oW)).trans oW
      have EW2 : Hid (EnAt W2 w.heap.size e) := (b2.block _ (lt_of_block eW)).trans eW
      have HH : Hid _ := h
      have HU : Hid _ := hu
      have HS2 : Hid (W.heap.size ≤ W2.heap.size) := b2.size
      have HX : Hid _ := HE
      clear hW2 b2 r2 hP h hW bW oW sW hok eW h2 hu HE
      go_enter Try.func15, Try.ntmps15
      go_upto_region 1 with fail
      rw [HW.out]
      go_upto_region 3 with (go_at_call 31; refine q1.mono ?_; rintro x2 w2 ⟨rfl, hw2⟩; rw [hw2]; clear hw2)
      go_upto_region 4 with fail
      rw [HW2.out]
      clear c0
      go_upto_region 5 with (go_at_call 32; refine q2.mono ?_; rintro x3 w3 ⟨u3, rfl, h3, r3, k3⟩; obtain ⟨p3, n3, c3, rfl⟩ := own_form r3.own)
      have o3 : ∀ y, y < W.heap.size → w.heap.size ≤ y → w3.heap[y]? = W2.heap[y]? := fun y hy hy2 => k3.kept y (Nat.lt_of_lt_of_le hy HS2.out) (fun e1 => by
        rcases e1 with e1 | e1
        · have := (HH.out.bd _ e1).2
          omega
        · rcases e1 with e1 | e1
          · omega
          · simp [Value.ownBlock] at e1)
      have O3 : Hid (w3.heap[w.heap.size + 1]? = some (.cells (outA (.slice none 0 0)) 42 (0, 0))) := (o3 _ (by have := BW.out.2; omega) (by omega)).trans OW2.out
      have e3 : EnAt w3 w.heap.size e := (o3 _ (by have := BW.out.2; omega) (Nat.le_refl _)).trans EW2.out
      have H3 : Hid _ := h3
      have R3 : Hid _ := r3
      have K3 : Hid _ := k3
      clear h3 r3 k3 o3
      have z1 : w3.cell? ⟨w.heap.size, 1, none⟩ = some (.int .i64 e.ballot) := EnAt.box e3 1 _ rfl
      have y1 : w3.frozen? ⟨w.heap.size, 1, none⟩ = false := by simp [World.frozen?, e3]
      obtain ⟨w4, hw4⟩ : ∃ w4, w4 = w3.setCell ⟨w.heap.size, 1, none⟩ (.int .i64 b) := ⟨_, rfl⟩
      have e4 : EnAt w4 w.heap.size (accE b e) := by rw [hw4]; exact e3.set1 b
      have n4 : ∀ y, y ≠ w.heap.size → w4.heap[y]? = w3.heap[y]? := fun y hy => by rw [hw4]; exact heap_setCell_other _ _ _ _ hy
      have h4 := H3.out.keep (w' := w4) fun x hx => n4 x (by have := (HH.out.bd x hx).2; omega)
      have r4 := R3.out.keep (w' := w4) fun x hx => n4 x (fun e2 => by
        rcases hx with hx | hx
        · have := BW.out.2; omega
        · exact own_ne R3.out.own e3 (by decide) (by rw [hx, e2]))
      have O4 : Hid (w4.heap[w.heap.size + 1]? = some (.cells (outA (.slice none 0 0)) 42 (0, 0))) := (n4 _ (by omega)).trans O3.out
      have q4 := pput_any h4 r4 HU.out hl (by have := (prepD_len d b).2; show (if b = d.p then [] else [promR b]).length ≤ 1000; split <;> simp) (accE b e) hn
      have K4 : Hid (Kept W2 w4 (fun x => S x ∨ RS W.heap.size (.slice none 0 0) x ∨ x = w.heap.size) (fun x => S x ∨ RS W.heap.size (.slice p3 n3 c3) x ∨ x = w.heap.size)) := by
        have k3 := K3.out
        refine ⟨by rw [hw4]; exact k3.os, by rw [hw4]; exact k3.tape, by rw [hw4]; exact k3.output, by rw [hw4]; simpa using k3.size, fun x hx => ?_, fun x hx hn => (n4 x (fun e => hn (Or.inr (Or.inr e)))).trans (k3.kept x hx (fun e => hn (by rcases e with e | e; exact Or.inl e; exact Or.inr (Or.inl e))))⟩
        rcases hx with hx | hx | hx
        · exact Or.inl (Or.inl hx)
        · rcases k3.old x (Or.inr hx) with (h1 | h1) | h1
          · exact Or.inl (Or.inl h1)
          · exact Or.inl (Or.inr (Or.inl h1))
          · exact Or.inr h1
        · exact Or.inl (Or.inr (Or.inr hx))
      have ze0 := EnAt.box e4 0 _ rfl
      have ze1 := EnAt.box e4 1 _ rfl
      have ze2 := EnAt.box e4 2 _ rfl
      have ze3 := EnAt.box e4 3 _ rfl
      have ze4 := EnAt.box e4 4 _ rfl
      have ze5 := EnAt.box e4 5 _ rfl
      have ze6 := EnAt.box e4 6 _ rfl
      have HW4 : Hid (w3.setCell ⟨w.heap.size, 1, none⟩ (.int .i64 b) = w4) := hw4.symm
      have E4 : Hid _ := e4
      have H4 : Hid _ := h4
      have R4 : Hid _ := r4
      clear hw4 n4 h4 r4 e4 e3
      go_upto_region 6 with fail
      rw [HW4.out]
      clear z1 y1
      go_upto_region 7 with (go_at_call 35; refine q4.mono ?_; rintro x5 w5 ⟨S5, v5, u5, rfl, h5, r5, k5⟩; obtain ⟨p5, n5, c5, rfl⟩ := own_form r5.own)
      have z5 := r5.c0
      have H5 : Hid _ := h5
      have R5 : Hid _ := r5
      have K5 : Hid _ := k5
      have O5 : Hid (w5.heap[w.heap.size + 1]? = some (.cells (outA (.slice none 0 0)) 42 (0, 0))) := (k5.kept _ (lt_of_block O4.out) (fun e1 => by
        rcases e1 with e1 | e1
        · have := (HH.out.bd _ e1).2
          omega
        · rcases e1 with e1 | e1
          · have := BW.out.2
            omega
          · exact own_ne R4.out.own O4.out (by decide) e1)).trans O4.out
      clear h5 r5 k5
      go_wp2_with (show wpList _ _ _ (⟨_, Op.store 42 _ _, _, _, _, _⟩ :: _) _ _; refine store_row_g rfl 42 _ _ rfl (w.heap.size + 1) (outA (.slice p5 n5 c5)) rfl rfl 42 _ O5.out sizeOut rfl (by simp [Value.oneCell']) ?_; intro w6 h6 g6)
      refine bodyPost_ret (results_two Try.results15 _ _ (w.heap.size + 1) _ rfl (load_out h6)) rfl ?_
      obtain ⟨hx1, hx2⟩ := HX.out
      have h5 := H5.out
      have r5 := R5.out
      rw [hx1] at h5 r5
      have kk : Kept w w5 S S5 := by
        have k4 := K4.out
        have k5 := K5.out
        refine ⟨k5.os.trans (k4.os.trans B2.out.os), k5.tape.trans (k4.tape.trans B2.out.tape), k5.output.trans (k4.output.trans B2.out.output), Nat.le_trans B2.out.size (Nat.le_trans k4.size k5.size), fun x hx => ?_, fun x hx hn => ?_⟩
        · by_cases c : x < w.heap.size
          · rcases k5.old x (Or.inl hx) with (h1 | h1) | h1
            · exact Or.inl h1
            · have := (R4.out.bd x h1).1
              have := BW.out.2
              omega
            · have := B2.out.size
              have := k4.size
              omega
          · exact Or.inr (by omega)
        · rw [k5.kept x (by have := B2.out.size; have := k4.size; omega) (fun e => by
            rcases e with e | e
            · exact hn e
            · have := (R4.out.bd x e).1
              have := BW.out.2
              omega), k4.kept x (by have := B2.out.size; omega) (fun e => by
            rcases e with e | e | e
            · exact hn e
            · rcases e with e | e
              · have := BW.out.2; omega
              · simp [Value.ownBlock] at e
            · omega), B2.out.block x hx]
      have hne := h5.neT O5.out (by decide) (by decide)
      exact ⟨S5, _, _, by rw [hx2]; rfl, h5.keep fun x hx => g6.block x (h5.bd x hx).2 (fun e => hne x hx (Option.some.inj e)), own_mono (own_keep r5.own fun x e => g6.block x (r5.own.lt x e).2 (fun e2 => own_ne r5.own O5.out (by decide) (by rw [e, e2]))) BW.out.1.size, kk.grown g6 (Nat.le_succ _)⟩
  · have hrf : false = (decide (1 ≤ b) && decide (d.p ≤ b)) := by
      by_cases h1 : 1 ≤ b
      · have h2 : ¬ d.p ≤ b := fun h2 => hok ⟨h1, h2⟩
        simp [h2]
      · simp [h1]
    have q1 := pmay_any hP b false hrf
    have HE : Hid (accD d b e = ⟨d, [], false⟩) := by
      show (if _ then _ else _) = _
      rw [if_pos (by omega)]
    have HP : Hid _ := hP
    have HH : Hid _ := h
    clear hP h hW bW oW sW hok hrf eW h2
    go_enter Try.func15, Try.ntmps15
    go_upto_region 1 with fail
    rw [HW.out]
    go_wp2_with (first
      | (show wpList _ _ _ (⟨_, Op.store 42 _ _, _, _, _, _⟩ :: _) _ _; refine store_row_g rfl 42 _ _ rfl (w.heap.size + 1) (outA (.slice none 0 0)) rfl rfl 42 _ OW.out sizeOut rfl (by simp [Value.oneCell']) ?_; intro w6 h6 g6)
      | (go_at_call 31; refine q1.mono ?_; rintro e w2 ⟨rfl, rfl⟩))
    refine bodyPost_ret (results_two Try.results15 _ _ (w.heap.size + 1) _ rfl (load_out h6)) rfl ?_
    rw [HE.out]
    exact ⟨S, _, _, rfl, HP.out.keep fun x hx => g6.block x (HP.out.bd x hx).2 (fun e => by have h1 := (HH.out.bd x hx).2; have := Option.some.inj e; omega), World.ownsRow_nil _ _ _ _, (Kept.of BW.out.1).grown g6 (Nat.le_succ _)⟩
end
end Go.Proofs.Ytkngpfngfmbmjaa
