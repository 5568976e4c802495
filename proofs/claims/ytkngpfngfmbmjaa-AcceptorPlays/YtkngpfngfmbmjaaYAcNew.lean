/-
  Package acceptor: New. The conditions: at most 2^28 entries, which rise above Base; a text has at most 2^48 bytes.
-/
import Derived.Test.YtkngpfngfmbmjaaYPack9
namespace Go.Proofs.Ytkngpfngfmbmjaa
open Go.Shelf Go.RowKit Go.Lib Go.Sort

section
variable {P : Program} {md : Region.Mode} {Q : Exit → Act → World → Prop} {S : World → Prop} {fuel : Nat} {listed : Array Bool} {a : Act} {w : World} {l : List Oper}
theorem rd6_8 {o0 o1 o2 o3 o4 o5 o6 o7 o8 : Oper} (hr : Region.ready md (o0 :: o1 :: o2 :: o3 :: o4 :: o5 :: o6 :: o7 :: o8 :: l).toArray listed = [6, 8]) (hw0 : Region.wanted o6 (yielded (o0 :: o1 :: o2 :: o3 :: o4 :: o5 :: o6 :: o7 :: o8 :: l).toArray a.tmps) = true) (hw1 : Region.wanted o8 (yielded (o0 :: o1 :: o2 :: o3 :: o4 :: o5 :: o6 :: o7 :: o8 :: l).toArray a.tmps) = true)
    (h0 : ∀ K' : Act → World → Prop, Shut (∀ a w, S w → (S w → wpAnyH P md (o0 :: o1 :: o2 :: o3 :: o4 :: o5 :: o6 :: o7 :: o8 :: l).toArray Q S fuel (listed.setIfInBounds 6 true) a w) → K' a w) → Oper.wp P o6 a w K' Q)
    (h1 : ∀ K' : Act → World → Prop, Shut (∀ a w, S w → (S w → wpAnyH P md (o0 :: o1 :: o2 :: o3 :: o4 :: o5 :: o6 :: o7 :: o8 :: l).toArray Q S fuel (listed.setIfInBounds 8 true) a w) → K' a w) → Oper.wp P o8 a w K' Q) : wpAnyH P md (o0 :: o1 :: o2 :: o3 :: o4 :: o5 :: o6 :: o7 :: o8 :: l).toArray Q S (fuel + 1) listed a w :=
  wpAnyH_ready hr (by simp) (AllReadyH.cons (o := o6) rfl (fun K hK => by rw [if_pos hw0]; exact h0 K hK) (AllReadyH.cons (o := o8) rfl (fun K hK => by rw [if_pos hw1]; exact h1 K hK) AllReadyH.nil))
theorem rd7_8 {o0 o1 o2 o3 o4 o5 o6 o7 o8 : Oper} (hr : Region.ready md (o0 :: o1 :: o2 :: o3 :: o4 :: o5 :: o6 :: o7 :: o8 :: l).toArray listed = [7, 8]) (hw0 : Region.wanted o7 (yielded (o0 :: o1 :: o2 :: o3 :: o4 :: o5 :: o6 :: o7 :: o8 :: l).toArray a.tmps) = true) (hw1 : Region.wanted o8 (yielded (o0 :: o1 :: o2 :: o3 :: o4 :: o5 :: o6 :: o7 :: o8 :: l).toArray a.tmps) = true)
    (h0 : ∀ K' : Act → World → Prop, Shut (∀ a w, S w → (S w → wpAnyH P md (o0 :: o1 :: o2 :: o3 :: o4 :: o5 :: o6 :: o7 :: o8 :: l).toArray Q S fuel (listed.setIfInBounds 7 true) a w) → K' a w) → Oper.wp P o7 a w K' Q)
    (h1 : ∀ K' : Act → World → Prop, Shut (∀ a w, S w → (S w → wpAnyH P md (o0 :: o1 :: o2 :: o3 :: o4 :: o5 :: o6 :: o7 :: o8 :: l).toArray Q S fuel (listed.setIfInBounds 8 true) a w) → K' a w) → Oper.wp P o8 a w K' Q) : wpAnyH P md (o0 :: o1 :: o2 :: o3 :: o4 :: o5 :: o6 :: o7 :: o8 :: l).toArray Q S (fuel + 1) listed a w :=
  wpAnyH_ready hr (by simp) (AllReadyH.cons (o := o7) rfl (fun K hK => by rw [if_pos hw0]; exact h0 K hK) (AllReadyH.cons (o := o8) rfl (fun K hK => by rw [if_pos hw1]; exact h1 K hK) AllReadyH.nil))
end

theorem recsD_len (d : Du) : (recsD d).length ≤ d.es.length + 1 := by
  unfold recsD
  rw [List.length_append, List.length_map]
  split <;> simp <;> omega
theorem new_fold (d : Du) (hp : 0 ≤ d.p) (h : Rises d.b d.es) : (foldD ⟨0, d.b, d.s, []⟩ (recsD d)).b = d.b ∧ (foldD ⟨0, d.b, d.s, []⟩ (recsD d)).s = d.s ∧ (foldD ⟨0, d.b, d.s, []⟩ (recsD d)).es = d.es := by
  have h1 := fold_again d hp h
  rw [h1]
  exact ⟨rfl, rfl, rfl⟩
/-- What it answers: an acceptor in new memory. -/
structure NewPost (T : TypeId) (w : World) (d : Du) (e : Ending) (w' : World) : Prop where
  ex : ∃ S X v, e = .returned (.pointer (some ⟨X, 0, none⟩)) ∧ AcAt T w' w.heap.size S X d v ∧ Below w.heap.size w w'
set_option maxHeartbeats 6400000 in
set_option maxRecDepth 100000 in
theorem pnew_any (w : World) (d : Du) (v : Value) (hv : RowAt enC w v d.es) (hp : 0 ≤ d.p) (hR : Rises d.b d.es) (hl : d.es.length ≤ 268435456) (hsz : SzD d) : Calls Try.prog 10 #[.agg (duA d v)] w (NewPost 61 w d) := by
  have hl0 : d.es.length ≤ 536870912 := by omega
  obtain ⟨ad, cd, rfl⟩ := hv.form
  obtain ⟨W, hW⟩ : ∃ W, W = w.alloc (.cells (duA d (.slice ad d.es.length cd)) 24) := ⟨_, rfl⟩
  have bW : Below w.heap.size w W := by rw [hW]; exact (Below.refl _ w).alloc (Nat.le_refl _) _
  have dW : DuAt W w.heap.size d (.slice ad d.es.length cd) := by rw [hW]; exact heap_alloc_new w _
  have SC : Hid (∀ y, Below W.heap.size W y → y.cell? ⟨w.heap.size, 0, none⟩ = some (.int .i64 d.p) ∧ y.cell? ⟨w.heap.size, 1, none⟩ = some (.int .i64 d.b) ∧ y.cell? ⟨w.heap.size, 2, none⟩ = some (.string d.s) ∧ y.cell? ⟨w.heap.size, 3, none⟩ = some (.slice ad d.es.length cd)) := fun y b => by
    have h : DuAt y w.heap.size d (.slice ad d.es.length cd) := (b.block _ (lt_of_block dW)).trans dW
    exact ⟨h.c0, h.c1, h.c2, h.c3⟩
  have RD : Hid (∀ y, Below W.heap.size W y → RowAt enC y (.slice ad d.es.length cd) d.es) := fun y b => (hv.fresh bW).fresh b
  have HW : Hid (w.alloc (.cells (duA d (.slice ad d.es.length cd)) 24) = W) := hW.symm
  have BW : Hid (Below w.heap.size w W ∧ w.heap.size < W.heap.size) := ⟨bW, lt_of_block dW⟩
  have HF : Hid _ := new_fold d hp hR
  clear hW bW dW hv hR hp
  have s00 := (SC.out W (Below.refl _ _)).1
  go_enter Try.func10, Try.ntmps10
  go_upto_region 1 with fail
  rw [HW.out]
  clear s00
  go_cut [3] (fun x wc => ∃ K p n q, x = .pointer (some ⟨K, 0, none⟩) ∧ wc.heap[K]? = some (.cells (duA (foldD ⟨0, d.b, d.s, []⟩ (recsD d)) (.slice p n q)) 24 (0, 0)) ∧ OwnEn wc W.heap.size (.slice p n q) (foldD ⟨0, d.b, d.s, []⟩ (recsD d)).es ∧ Below W.heap.size W wc ∧ W.heap.size ≤ K)
  case first =>
    refine wp_region_held_drew (S := (fun w' : World => w'.cell? ⟨w.heap.size, 0, none⟩ = some (.int .i64 d.p) ∧ w'.cell? ⟨w.heap.size, 1, none⟩ = some (.int .i64 d.b) ∧ w'.cell? ⟨w.heap.size, 2, none⟩ = some (.string d.s) ∧ w'.cell? ⟨w.heap.size, 3, none⟩ = some (.slice ad d.es.length cd))) (by kernel_rfl) ?_ (fun hHeld0 => ?_)
    · exact SC.out _ ⟨rfl, rfl, rfl, Nat.le_refl _, fun _ _ => rfl⟩
    obtain ⟨y0, hy0⟩ : ∃ y, y = W.drew := ⟨_, rfl⟩
    have b0 : Below W.heap.size W y0 := by rw [hy0]; exact ⟨rfl, rfl, rfl, Nat.le_refl _, fun _ _ => rfl⟩
    rw [← hy0] at hHeld0 ⊢
    clear hy0
    refine tk0 (.pointer (some ⟨w.heap.size, 1, none⟩)) (by kernel_rfl) (by kernel_rfl) (by kernel_rfl) (fun _ _ _ h => h) rfl (fun w hSw => by (try dsimp only at hSw); obtain ⟨q0, q1, q2, q3⟩ := hSw; go_simp) (by assumption) ?_
    try simp only [Act.put, List.setIfInBounds_toArray, List.set_cons_zero, List.set_cons_succ]
    refine tk1 (.int .i64 d.b) (by kernel_rfl) (by kernel_rfl) (by kernel_rfl) (fun _ _ _ h => h) rfl (fun w hSw => by (try dsimp only at hSw); obtain ⟨q0, q1, q2, q3⟩ := hSw; go_simp) (by assumption) ?_
    try simp only [Act.put, List.setIfInBounds_toArray, List.set_cons_zero, List.set_cons_succ]
    refine tk2 (.pointer (some ⟨w.heap.size, 2, none⟩)) (by kernel_rfl) (by kernel_rfl) (by kernel_rfl) (fun _ _ _ h => h) rfl (fun w hSw => by (try dsimp only at hSw); obtain ⟨q0, q1, q2, q3⟩ := hSw; go_simp) (by assumption) ?_
    try simp only [Act.put, List.setIfInBounds_toArray, List.set_cons_zero, List.set_cons_succ]
    refine tk3 (.string d.s) (by kernel_rfl) (by kernel_rfl) (by kernel_rfl) (fun _ _ _ h => h) rfl (fun w hSw => by (try dsimp only at hSw); obtain ⟨q0, q1, q2, q3⟩ := hSw; go_simp) (by assumption) ?_
    try simp only [Act.put, List.setIfInBounds_toArray, List.set_cons_zero, List.set_cons_succ]
    refine tk4 (.agg (duA ⟨0, d.b, d.s, []⟩ (.slice none 0 0))) (by kernel_rfl) (by kernel_rfl) (by kernel_rfl) (fun _ _ _ h => h) rfl (fun w hSw => by (try dsimp only at hSw); obtain ⟨q0, q1, q2, q3⟩ := hSw; go_simp) (by assumption) ?_
    try simp only [Act.put, List.setIfInBounds_toArray, List.set_cons_zero, List.set_cons_succ]
    refine tk5 (.agg (duA d (.slice ad d.es.length cd))) (by kernel_rfl) (by kernel_rfl) (by kernel_rfl) (fun _ _ _ h => h) rfl (fun w hSw => by (try dsimp only at hSw); obtain ⟨q0, q1, q2, q3⟩ := hSw; go_simp) (by assumption) ?_
    try simp only [Act.put, List.setIfInBounds_toArray, List.set_cons_zero, List.set_cons_succ]
    refine rd6_8 (by kernel_rfl) rfl rfl (fun K hK => ?_) (fun K hK => ?_)
    · go_simp
      go_at_call 27
      refine (precs_any _ d _ (RD.out _ b0) hl0 hsz).mono ?_
      rintro e y1 ⟨vR, rfl, oR0, c1⟩
      obtain ⟨pR, nR, qR, rfl⟩ := own_form oR0
      have b1 := bmm b0 b0.size c1
      have oR1 : Hid (OwnRc y1 W.heap.size (.slice pR nR qR) (recsD d)) := own_mono oR0 b0.size
      clear oR0
      have s1 := SC.out y1 b1
      have s10 := s1.1
      have s11 := s1.2.1
      have s12 := s1.2.2.1
      have s13 := s1.2.2.2
      clear s1
      refine hK.out _ _ ?_ (fun hHeld => ?_)
      · try dsimp only
        go_keep
      clear hK K
      try simp only [Act.put, List.setIfInBounds_toArray, List.set_cons_zero, List.set_cons_succ]
      refine rd7_8 (by kernel_rfl) rfl rfl (fun K hK => ?_) (fun K hK => ?_)
      · go_simp
        go_at_call 26
        refine (pFold_any _ ⟨0, d.b, d.s, []⟩ (.slice none 0 0) _ (recsD d) (RowAt.nil _) (OwnRc.row oR1.out) ⟨fun e he => by simp at he, List.Pairwise.nil⟩ (by simp) (by have := recsD_len d; omega) ⟨hsz.s, fun e he => by simp at he⟩ hsz.recs).mono ?_
        rintro e y2 ⟨vF, rfl, oF0, c2⟩
        obtain ⟨pF, nF, qF, rfl⟩ := own_form oF0
        have b2 := bmm b1 b1.size c2
        have oR2 : Hid (OwnRc y2 W.heap.size (.slice pR nR qR) (recsD d)) := own_keep oR1.out (fun g e => c2.block g (World.ownsRow.lt oR1.out g e).2)
        have oF2 : Hid (OwnEn y2 W.heap.size (.slice pF nF qF) (foldD ⟨0, d.b, d.s, []⟩ (recsD d)).es) := own_mono oF0 b1.size
        clear oF0
        have s2 := SC.out y2 b2
        have s20 := s2.1
        have s21 := s2.2.1
        have s22 := s2.2.2.1
        have s23 := s2.2.2.2
        clear s2
        refine hK.out _ _ ?_ (fun hHeld => ?_)
        · try dsimp only
          go_keep
        clear hK K
        try simp only [Act.put, List.setIfInBounds_toArray, List.set_cons_zero, List.set_cons_succ]
        refine cl8 (by kernel_rfl) rfl (fun K hK => ?_)
        go_simp
        obtain ⟨y3, hy3⟩ : ∃ y, y = y2.alloc (.cells #[.int .i64 0, .int .i64 0, .string ⟨#[]⟩, .slice none 0 0] 24) := ⟨_, rfl⟩
        obtain ⟨X8, hX8⟩ : ∃ X, X = y2.heap.size := ⟨_, rfl⟩
        have c3 : Below y2.heap.size y2 y3 := by rw [hy3]; exact (Below.refl _ _).alloc (Nat.le_refl _) _
        have h8_3 : y3.heap[X8]? = some (.cells #[.int .i64 0, .int .i64 0, .string ⟨#[]⟩, .slice none 0 0] 24) := by rw [hy3, hX8]; exact heap_alloc_new _ _
        have lX8 : W.heap.size ≤ X8 := by rw [hX8]; exact b2.size
        rw [← hy3, ← hX8]
        have b3 := bmm b2 b2.size c3
        have oR3 : Hid (OwnRc y3 W.heap.size (.slice pR nR qR) (recsD d)) := own_keep oR2.out (fun g e => c3.block g (World.ownsRow.lt oR2.out g e).2)
        have oF3 : Hid (OwnEn y3 W.heap.size (.slice pF nF qF) (foldD ⟨0, d.b, d.s, []⟩ (recsD d)).es) := own_keep oF2.out (fun g e => c3.block g (World.ownsRow.lt oF2.out g e).2)
        clear hX8 hy3
        have s3 := SC.out y3 b3
        have s30 := s3.1
        have s31 := s3.2.1
        have s32 := s3.2.2.1
        have s33 := s3.2.2.2
        clear s3
        refine hK.out _ _ ?_ (fun hHeld => ?_)
        · try dsimp only
          go_keep
        clear hK K
        try simp only [Act.put, List.setIfInBounds_toArray, List.set_cons_zero, List.set_cons_succ]
        refine cl9 (by kernel_rfl) rfl (fun K hK => ?_)
        refine wp_store_row 24 _ _ rfl X8 (duA (foldD ⟨0, d.b, d.s, []⟩ (recsD d)) (.slice pF nF qF)) rfl rfl 24 _ h8_3 sizeDu rfl (by simp [Value.oneCell']) ?_
        obtain ⟨y4, hy4⟩ : ∃ y, y = y3.setRow X8 (duA (foldD ⟨0, d.b, d.s, []⟩ (recsD d)) (.slice pF nF qF)) := ⟨_, rfl⟩
        have h8_4 : y4.heap[X8]? = some (.cells (duA (foldD ⟨0, d.b, d.s, []⟩ (recsD d)) (.slice pF nF qF)) 24 (0, 0)) := by rw [hy4]; exact setRow_heap _ X8 _ _ _ _ h8_3
        have g4 : y3.grownBy y4 (some X8) := by rw [hy4]; exact grown_setRow_g _ _ _
        rw [← hy4]
        clear hy4
        have b4 := b3.grown g4 b3.size (fun k hk => by have := Option.some.inj hk; have := lX8; omega)
        have oF4 : Hid (OwnEn y4 W.heap.size (.slice pF nF qF) (foldD ⟨0, d.b, d.s, []⟩ (recsD d)).es) := own_keep oF3.out (fun g e => g4.block g (World.ownsRow.lt oF3.out g e).2 (fun e2 => own_ne oF3.out h8_3 (by decide) (by rw [e, e2])))
        have s4 := SC.out y4 b4
        have s40 := s4.1
        have s41 := s4.2.1
        have s42 := s4.2.2.1
        have s43 := s4.2.2.2
        clear s4
        refine hK.out _ _ ?_ (fun hHeld => ?_)
        · try dsimp only
          go_keep
        clear hK K
        refine wpAnyH_done (by kernel_rfl) ?_ _
        go_wp2_with fail
        go_meet
        exact ⟨X8, _, _, _, rfl, h8_4, oF4.out, b4, lX8⟩
      · go_simp
        obtain ⟨y2, hy2⟩ : ∃ y, y = y1.alloc (.cells #[.int .i64 0, .int .i64 0, .string ⟨#[]⟩, .slice none 0 0] 24) := ⟨_, rfl⟩
        obtain ⟨X8, hX8⟩ : ∃ X, X = y1.heap.size := ⟨_, rfl⟩
        have c2 : Below y1.heap.size y1 y2 := by rw [hy2]; exact (Below.refl _ _).alloc (Nat.le_refl _) _
        have h8_2 : y2.heap[X8]? = some (.cells #[.int .i64 0, .int .i64 0, .string ⟨#[]⟩, .slice none 0 0] 24) := by rw [hy2, hX8]; exact heap_alloc_new _ _
        have lX8 : W.heap.size ≤ X8 := by rw [hX8]; exact b1.size
        rw [← hy2, ← hX8]
        have b2 := bmm b1 b1.size c2
        have oR2 : Hid (OwnRc y2 W.heap.size (.slice pR nR qR) (recsD d)) := own_keep oR1.out (fun g e => c2.block g (World.ownsRow.lt oR1.out g e).2)
        clear hX8 hy2
        have s2 := SC.out y2 b2
        have s20 := s2.1
        have s21 := s2.2.1
        have s22 := s2.2.2.1
        have s23 := s2.2.2.2
        clear s2
        refine hK.out _ _ ?_ (fun hHeld => ?_)
        · try dsimp only
          go_keep
        clear hK K
        try simp only [Act.put, List.setIfInBounds_toArray, List.set_cons_zero, List.set_cons_succ]
        refine cl7 (by kernel_rfl) rfl (fun K hK => ?_)
        go_simp
        go_at_call 26
        refine (pFold_any _ ⟨0, d.b, d.s, []⟩ (.slice none 0 0) _ (recsD d) (RowAt.nil _) (OwnRc.row oR2.out) ⟨fun e he => by simp at he, List.Pairwise.nil⟩ (by simp) (by have := recsD_len d; omega) ⟨hsz.s, fun e he => by simp at he⟩ hsz.recs).mono ?_
        rintro e y3 ⟨vF, rfl, oF0, c3⟩
        obtain ⟨pF, nF, qF, rfl⟩ := own_form oF0
        have b3 := bmm b2 b2.size c3
        have oR3 : Hid (OwnRc y3 W.heap.size (.slice pR nR qR) (recsD d)) := own_keep oR2.out (fun g e => c3.block g (World.ownsRow.lt oR2.out g e).2)
        have h8_3 : y3.heap[X8]? = some _ := (c3.block X8 (lt_of_block h8_2)).trans h8_2
        have oF3 : Hid (OwnEn y3 W.heap.size (.slice pF nF qF) (foldD ⟨0, d.b, d.s, []⟩ (recsD d)).es) := own_mono oF0 b2.size
        clear oF0
        have s3 := SC.out y3 b3
        have s30 := s3.1
        have s31 := s3.2.1
        have s32 := s3.2.2.1
        have s33 := s3.2.2.2
        clear s3
        refine hK.out _ _ ?_ (fun hHeld => ?_)
        · try dsimp only
          go_keep
        clear hK K
        try simp only [Act.put, List.setIfInBounds_toArray, List.set_cons_zero, List.set_cons_succ]
        refine cl9 (by kernel_rfl) rfl (fun K hK => ?_)
        refine wp_store_row 24 _ _ rfl X8 (duA (foldD ⟨0, d.b, d.s, []⟩ (recsD d)) (.slice pF nF qF)) rfl rfl 24 _ h8_3 sizeDu rfl (by simp [Value.oneCell']) ?_
        obtain ⟨y4, hy4⟩ : ∃ y, y = y3.setRow X8 (duA (foldD ⟨0, d.b, d.s, []⟩ (recsD d)) (.slice pF nF qF)) := ⟨_, rfl⟩
        have h8_4 : y4.heap[X8]? = some (.cells (duA (foldD ⟨0, d.b, d.s, []⟩ (recsD d)) (.slice pF nF qF)) 24 (0, 0)) := by rw [hy4]; exact setRow_heap _ X8 _ _ _ _ h8_3
        have g4 : y3.grownBy y4 (some X8) := by rw [hy4]; exact grown_setRow_g _ _ _
        rw [← hy4]
        clear hy4
        have b4 := b3.grown g4 b3.size (fun k hk => by have := Option.some.inj hk; have := lX8; omega)
        have oF4 : Hid (OwnEn y4 W.heap.size (.slice pF nF qF) (foldD ⟨0, d.b, d.s, []⟩ (recsD d)).es) := own_keep oF3.out (fun g e => g4.block g (World.ownsRow.lt oF3.out g e).2 (fun e2 => own_ne oF3.out h8_3 (by decide) (by rw [e, e2])))
        have s4 := SC.out y4 b4
        have s40 := s4.1
        have s41 := s4.2.1
        have s42 := s4.2.2.1
        have s43 := s4.2.2.2
        clear s4
        refine hK.out _ _ ?_ (fun hHeld => ?_)
        · try dsimp only
          go_keep
        clear hK K
        refine wpAnyH_done (by kernel_rfl) ?_ _
        go_wp2_with fail
        go_meet
        exact ⟨X8, _, _, _, rfl, h8_4, oF4.out, b4, lX8⟩
    · go_simp
      obtain ⟨y1, hy1⟩ : ∃ y, y = y0.alloc (.cells #[.int .i64 0, .int .i64 0, .string ⟨#[]⟩, .slice none 0 0] 24) := ⟨_, rfl⟩
      obtain ⟨X8, hX8⟩ : ∃ X, X = y0.heap.size := ⟨_, rfl⟩
      have c1 : Below y0.heap.size y0 y1 := by rw [hy1]; exact (Below.refl _ _).alloc (Nat.le_refl _) _
      have h8_1 : y1.heap[X8]? = some (.cells #[.int .i64 0, .int .i64 0, .string ⟨#[]⟩, .slice none 0 0] 24) := by rw [hy1, hX8]; exact heap_alloc_new _ _
      have lX8 : W.heap.size ≤ X8 := by rw [hX8]; exact b0.size
      rw [← hy1, ← hX8]
      have b1 := bmm b0 b0.size c1
      clear hX8 hy1
      have s1 := SC.out y1 b1
      have s10 := s1.1
      have s11 := s1.2.1
      have s12 := s1.2.2.1
      have s13 := s1.2.2.2
      clear s1
      refine hK.out _ _ ?_ (fun hHeld => ?_)
      · try dsimp only
        go_keep
      clear hK K
      try simp only [Act.put, List.setIfInBounds_toArray, List.set_cons_zero, List.set_cons_succ]
      refine cl6 (by kernel_rfl) rfl (fun K hK => ?_)
      go_simp
      go_at_call 27
      refine (precs_any _ d _ (RD.out _ b1) hl0 hsz).mono ?_
      rintro e y2 ⟨vR, rfl, oR0, c2⟩
      obtain ⟨pR, nR, qR, rfl⟩ := own_form oR0
      have b2 := bmm b1 b1.size c2
      have h8_2 : y2.heap[X8]? = some _ := (c2.block X8 (lt_of_block h8_1)).trans h8_1
      have oR2 : Hid (OwnRc y2 W.heap.size (.slice pR nR qR) (recsD d)) := own_mono oR0 b1.size
      clear oR0
      have s2 := SC.out y2 b2
      have s20 := s2.1
      have s21 := s2.2.1
      have s22 := s2.2.2.1
      have s23 := s2.2.2.2
      clear s2
      refine hK.out _ _ ?_ (fun hHeld => ?_)
      · try dsimp only
        go_keep
      clear hK K
      try simp only [Act.put, List.setIfInBounds_toArray, List.set_cons_zero, List.set_cons_succ]
      refine cl7 (by kernel_rfl) rfl (fun K hK => ?_)
      go_simp
      go_at_call 26
      refine (pFold_any _ ⟨0, d.b, d.s, []⟩ (.slice none 0 0) _ (recsD d) (RowAt.nil _) (OwnRc.row oR2.out) ⟨fun e he => by simp at he, List.Pairwise.nil⟩ (by simp) (by have := recsD_len d; omega) ⟨hsz.s, fun e he => by simp at he⟩ hsz.recs).mono ?_
      rintro e y3 ⟨vF, rfl, oF0, c3⟩
      obtain ⟨pF, nF, qF, rfl⟩ := own_form oF0
      have b3 := bmm b2 b2.size c3
      have oR3 : Hid (OwnRc y3 W.heap.size (.slice pR nR qR) (recsD d)) := own_keep oR2.out (fun g e => c3.block g (World.ownsRow.lt oR2.out g e).2)
      have h8_3 : y3.heap[X8]? = some _ := (c3.block X8 (lt_of_block h8_2)).trans h8_2
      have oF3 : Hid (OwnEn y3 W.heap.size (.slice pF nF qF) (foldD ⟨0, d.b, d.s, []⟩ (recsD d)).es) := own_mono oF0 b2.size
      clear oF0
      have s3 := SC.out y3 b3
      have s30 := s3.1
      have s31 := s3.2.1
      have s32 := s3.2.2.1
      have s33 := s3.2.2.2
      clear s3
      refine hK.out _ _ ?_ (fun hHeld => ?_)
      · try dsimp only
        go_keep
      clear hK K
      try simp only [Act.put, List.setIfInBounds_toArray, List.set_cons_zero, List.set_cons_succ]
      refine cl9 (by kernel_rfl) rfl (fun K hK => ?_)
      refine wp_store_row 24 _ _ rfl X8 (duA (foldD ⟨0, d.b, d.s, []⟩ (recsD d)) (.slice pF nF qF)) rfl rfl 24 _ h8_3 sizeDu rfl (by simp [Value.oneCell']) ?_
      obtain ⟨y4, hy4⟩ : ∃ y, y = y3.setRow X8 (duA (foldD ⟨0, d.b, d.s, []⟩ (recsD d)) (.slice pF nF qF)) := ⟨_, rfl⟩
      have h8_4 : y4.heap[X8]? = some (.cells (duA (foldD ⟨0, d.b, d.s, []⟩ (recsD d)) (.slice pF nF qF)) 24 (0, 0)) := by rw [hy4]; exact setRow_heap _ X8 _ _ _ _ h8_3
      have g4 : y3.grownBy y4 (some X8) := by rw [hy4]; exact grown_setRow_g _ _ _
      rw [← hy4]
      clear hy4
      have b4 := b3.grown g4 b3.size (fun k hk => by have := Option.some.inj hk; have := lX8; omega)
      have oF4 : Hid (OwnEn y4 W.heap.size (.slice pF nF qF) (foldD ⟨0, d.b, d.s, []⟩ (recsD d)).es) := own_keep oF3.out (fun g e => g4.block g (World.ownsRow.lt oF3.out g e).2 (fun e2 => own_ne oF3.out h8_3 (by decide) (by rw [e, e2])))
      have s4 := SC.out y4 b4
      have s40 := s4.1
      have s41 := s4.2.1
      have s42 := s4.2.2.1
      have s43 := s4.2.2.2
      clear s4
      refine hK.out _ _ ?_ (fun hHeld => ?_)
      · try dsimp only
        go_keep
      clear hK K
      refine wpAnyH_done (by kernel_rfl) ?_ _
      go_wp2_with fail
      go_meet
      exact ⟨X8, _, _, _, rfl, h8_4, oF4.out, b4, lX8⟩
  case rest =>
    obtain ⟨K, p, n, q, rfl, hK, ho, b1, lK⟩ := hcut
    obtain ⟨G, hG⟩ : ∃ G, G = (foldD ⟨0, d.b, d.s, []⟩ (recsD d)) := ⟨_, rfl⟩
    rw [← hG] at hK ho HF
    have s00 := (SC.out _ b1).1
    have hK' : DuAt wc K G (.slice p n q) := hK
    have k0 := hK'.c0
    have f0 := hK'.f0
    obtain ⟨w4, hw4⟩ : ∃ w4, w4 = wc.setCell ⟨K, 0, none⟩ (.int .i64 d.p) := ⟨_, rfl⟩
    have h4 : DuAt w4 K { G with p := d.p } (.slice p n q) := by rw [hw4]; exact hK'.set0 d.p
    have m0 := h4.c0
    have m1 := h4.c1
    have m2 := h4.c2
    have m3 := h4.c3
    have o4 : OwnEn w4 W.heap.size (.slice p n q) G.es := by
      rw [hw4]
      exact own_keep ho fun g e => heap_setCell_other _ _ _ _ (fun e2 => own_ne ho hK (by decide) (by rw [e, e2]))
    have b4 : Below w.heap.size w w4 := by
      rw [hw4]
      exact (BW.out.1.trans (b1.mono BW.out.1.size)).setCell (p := ⟨K, 0, none⟩) (by show w.heap.size ≤ K; have := BW.out.1.size; omega) _
    have HW4 : Hid (wc.setCell ⟨K, 0, none⟩ (.int .i64 d.p) = w4) := hw4.symm
    have O4 : Hid _ := o4
    have B4 : Hid _ := b4
    clear hw4 h4 o4 b4 hG hK hK' ho b1
    go_upto_region 3 with fail
    rw [HW4.out]
    go_wp2
    go_ret
    obtain ⟨g1, g2, g3⟩ := HF.out
    refine ⟨fun b => b = w4.heap.size ∨ (Value.slice p n q).ownBlock = some b, w4.heap.size, .slice p n q, rfl, ⟨?_, ?_, B4.out.size, ?_, fun _ => Iff.rfl⟩, B4.out.alloc B4.out.size _⟩
    · rw [heap_alloc_new]
      show some (Obj.cells #[.int .i64 d.p, .int .i64 G.b, .string G.s, .slice p n q] _ _) = _
      rw [g1, g2]
    · have := own_mono (World.ownsRow.alloc O4.out (.cells #[.int .i64 d.p, .int .i64 G.b, .string G.s, .slice p n q] 61)) BW.out.1.size
      rw [g3] at this
      exact this
    · intro e
      have := (World.ownsRow.lt O4.out _ e).2
      omega
end Go.Proofs.Ytkngpfngfmbmjaa
