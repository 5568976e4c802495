/-
  Package acceptor: an entry in new memory, what is promised, records behind one another. The conditions: a text has at most 2^48 bytes; at most 1000 records.
-/
import Derived.Test.YtkngpfngfmbmjaaYAcFind
import Derived.Test.YtkngpfngfmbmjaaYPackS
namespace Go.Proofs.Ytkngpfngfmbmjaa
open Go.Shelf Go.RowKit Go.Lib Go.Sort

set_option maxHeartbeats 3200000 in
set_option maxRecDepth 100000 in
theorem aclone_any (w : World) (e : En) (hn : nameOk e.cmd.name) : Calls Try.prog 40 #[.agg (enA e)] w fun r w' => r = .returned (.agg (enA e)) ∧ Below w.heap.size w w' := by
  obtain ⟨Z, hZ⟩ : ∃ Z : Obj, Z = .cells #[.int .i64 0, .int .i64 0, .int .i64 0, .int .i64 0, .int .i64 0, .string ⟨#[]⟩, .int .i64 0] 36 := ⟨_, rfl⟩
  have b1 : Below w.heap.size w ((w.alloc (.cells (enA e) 36)).alloc Z) := ((Below.refl _ w).alloc (Nat.le_refl _) _).alloc (by simp) _
  have h2 := two_blocks w (.cells (enA e) 36) Z
  have hE : EnAt ((w.alloc (.cells (enA e) 36)).alloc Z) w.heap.size e := h2.1.trans (heap_alloc_new w _)
  have hR := h2.2.trans (heap_alloc_new _ _)
  have hs : ((w.alloc (.cells (enA e) 36)).alloc Z).heap.size = w.heap.size + 2 := by simp
  rw [hZ] at b1 hE hR hs
  have c5 := hE.c5
  have HE : Hid _ := hE
  have HR : Hid _ := hR
  have B1 : Hid _ := b1
  have HS : Hid _ := hs
  clear hE hR b1 hs h2 hZ Z
  go_enter Try.func40, Try.ntmps40
  go_wp2_with (first
    | (show wpList _ _ _ (⟨_, Op.store 36 _ _, _, _, _, _⟩ :: _) _ _; refine store_row_g rfl 36 _ _ rfl (w.heap.size + 1) (enA e) rfl rfl 36 _ R3.out sizeEn rfl (by simp [Value.oneCell']) ?_; intro w4 h4 g4)
    | (show wpList _ _ _ (⟨_, Op.load 36 _, _, _, _, _⟩ :: _) _ _; refine load_row_g rfl 36 _ rfl w.heap.size rfl 36 (enA e) (0, 0) _ E3.out Try.underlying36 rfl sizeEn ?_)
    | (go_at_call 38; refine (kclone_any e.cmd.name _ hn).mono ?_; rintro r w2 ⟨rfl, bb⟩; have E2 : EnAt w2 w.heap.size e := (bb.block _ (by have := HS.out; omega)).trans HE.out; have R2 := (bb.block (w.heap.size + 1) (by have := HS.out; omega)).trans HR.out; have d5 := E2.c5; have f5 := E2.f5; have E3 : Hid (EnAt (w2.setCell ⟨w.heap.size, 5, none⟩ (.string e.cmd.name)) w.heap.size e) := E2.set5; have R3 : Hid ((w2.setCell ⟨w.heap.size, 5, none⟩ (.string e.cmd.name)).heap[w.heap.size + 1]? = _) := (heap_setCell_other _ _ _ _ (by simp)).trans R2; have B3 : Hid (Below w.heap.size w (w2.setCell ⟨w.heap.size, 5, none⟩ (.string e.cmd.name))) := (bmm B1.out B1.out.size bb).setCell (p := ⟨w.heap.size, 5, none⟩) (Nat.le_refl _) _; clear E2 R2 bb))
  refine bodyPost_ret (results_cell_row Try.results40 _ _ (w.heap.size + 1) 36 _ (0, 0) _ rfl h4 Try.underlying36 rfl sizeEn) rfl ?_
  exact ⟨rfl, B3.out.grown g4 B3.out.size (fun k hk => by have := Option.some.inj hk; omega)⟩
section
variable {w : World} {base X : Nat} {S : Nat → Prop} {d : Du} {v : Value}
set_option maxRecDepth 100000 in
theorem pprom_any (h : PA w base S X d v) : Calls Try.prog 20 #[.pointer (some ⟨X, 0, none⟩)] w fun e w' => e = .returned (.int .i64 d.p) ∧ w' = w := by
  have c0 := h.c0
  clear h
  go_enter Try.func20, Try.ntmps20
  go_wp2
  go_ret
  exact ⟨rfl, rfl⟩
set_option maxRecDepth 100000 in
theorem pmay_any (h : PA w base S X d v) (b : Int) (r : Bool) (hr : r = (decide (1 ≤ b) && decide (d.p ≤ b))) : Calls Try.prog 31 #[.pointer (some ⟨X, 0, none⟩), .int .i64 b] w fun e w' => e = .returned (.bool r) ∧ w' = w := by
  have c0 := h.c0
  clear h
  cases h1 : decide (1 ≤ b)
  · rw [h1] at hr
    subst hr
    go_enter Try.func31, Try.ntmps31
    go_wp2
    go_ret
    exact ⟨rfl, rfl⟩
  · rw [h1] at hr
    cases h2 : decide (d.p ≤ b)
    · rw [h2] at hr
      subst hr
      go_enter Try.func31, Try.ntmps31
      go_wp2
      go_ret
      exact ⟨rfl, rfl⟩
    · rw [h2] at hr
      subst hr
      go_enter Try.func31, Try.ntmps31
      go_wp2
      go_ret
      exact ⟨rfl, rfl⟩
set_option maxRecDepth 100000 in
theorem pfind_any (h : PA w base S X d v) (hu : Rises d.b d.es) (hl : d.es.length ≤ 536870912) (s : Int) : Calls Try.prog 37 #[.pointer (some ⟨X, 0, none⟩), .int .i64 s] w (FindPost d.es s w) := by
  have c3 := h.c3
  have q := bsi_any w v d.es s (OwnEn.row h.own) hu.2 (by omega)
  obtain ⟨a, c, rfl⟩ := h.form
  clear h
  go_enter Try.func37, Try.ntmps37
  go_wp2_with (go_at_call 47; refine q.mono ?_; rintro e w2 ⟨k, b, rfl, hf, b2⟩; have HF : Hid _ := hf; have B2 : Hid _ := b2; clear hf b2)
  go_ret2
  exact ⟨k, b, rfl, HF.out, B2.out⟩
end
/-- Records of one call in memory: their block, their row. -/
structure RrAt (w : World) (M : Nat) (u : Value) (l : List Rc) : Prop where
  blk : w.heap[M]? = some (.cells #[u] 70 (0, 0))
  own : OwnRc w M u l
abbrev RS (M : Nat) (u : Value) : Nat → Prop := fun b => b = M ∨ u.ownBlock = some b
section
variable {w w' : World} {M : Nat} {u : Value} {l : List Rc}
theorem RrAt.lt (h : RrAt w M u l) : M < w.heap.size := lt_of_block h.blk
theorem RrAt.ne (h : RrAt w M u l) : u.ownBlock ≠ some M := own_ne h.own h.blk (by decide)
theorem RrAt.c0 (h : RrAt w M u l) : w.cell? ⟨M, 0, none⟩ = some u := by simp [World.cell?, h.blk]
theorem RrAt.f0 (h : RrAt w M u l) : w.frozen? ⟨M, 0, none⟩ = false := by simp [World.frozen?, h.blk]
theorem RrAt.keep (h : RrAt w M u l) (hk : ∀ b, RS M u b → w'.heap[b]? = w.heap[b]?) : RrAt w' M u l := ⟨(hk M (Or.inl rfl)).trans h.blk, own_keep h.own fun g e => hk g (Or.inr e)⟩
theorem RrAt.bd (h : RrAt w M u l) : ∀ b, RS M u b → M ≤ b ∧ b < w.heap.size := fun b hb => by
  rcases hb with rfl | e
  · exact ⟨Nat.le_refl _, h.lt⟩
  · exact h.own.lt b e
theorem RrAt.fresh (h : RrAt w M u l) (b : Below w.heap.size w w') : RrAt w' M u l := h.keep fun g hg => b.block g (h.bd g hg).2
/-- A record more: the row grew, then the block's cell was set. -/
theorem RrAt.more (h : RrAt w M u l) {w2 : World} {u2 : Value} {r : Rc} (b : Below w.heap.size w w2) {w3 : World} (ho : w3.ownsRow M 65 9 u2 (l.length + 1) (rowL rcC l ++ rowL rcC [r])) (a : Appended M w2 w3 u u2) : RrAt (w3.setCell ⟨M, 0, none⟩ u2) M u2 (l ++ [r]) ∧ Kept w (w3.setCell ⟨M, 0, none⟩ u2) (RS M u) (RS M u2) := by
  have hM := h.lt
  have hb3 : w3.heap[M]? = some (.cells #[u] 70 (0, 0)) := (a.rest M (Nat.lt_of_lt_of_le hM b.size) (fun e => h.ne e.symm)).trans ((b.block M hM).trans h.blk)
  have ho2 : OwnRc w3 M u2 (l ++ [r]) := by
    show w3.ownsRow _ _ _ _ _ _
    rw [rowL_append, List.length_append]
    exact ho
  have hne : u2.ownBlock ≠ some M := own_ne ho2 hb3 (by decide)
  refine ⟨⟨?_, own_keep ho2 fun g e => heap_setCell_other _ _ _ _ (fun e2 => hne (by rw [e, e2]))⟩, ⟨?_, ?_, ?_, ?_, fun x hx => ?_, fun x hx hn => ?_⟩⟩
  · rw [heap_setCell_same w3 M 0 _ _ _ hb3]
    rfl
  · exact a.below.os.trans b.os
  · exact a.below.tape.trans b.tape
  · exact a.below.output.trans b.output
  · exact Nat.le_trans b.size (Nat.le_trans a.below.size (by simp))
  · rcases hx with hx | hx
    · exact Or.inl (Or.inl hx)
    · rcases a.lies with h1 | h1
      · exact Or.inl (Or.inr (by rw [← h1]; exact hx))
      · rw [h1] at hx
        have := Option.some.inj hx
        exact Or.inr (by rw [← this]; exact b.size)
  · rw [heap_setCell_other _ _ _ _ (fun e => hn (Or.inl e)), a.rest x (Nat.lt_of_lt_of_le hx b.size) (fun e => hn (Or.inr e.symm)), b.block x hx]
/-- What a record's call answers. -/
structure RecPost (w : World) (M : Nat) (u : Value) (l : List Rc) (r : Rc) (e : Ending) (w' : World) : Prop where
  ex : ∃ u', e = .returned (.tuple #[]) ∧ RrAt w' M u' (l ++ [r]) ∧ Kept w w' (RS M u) (RS M u')
set_option maxHeartbeats 3200000 in
set_option maxRecDepth 100000 in
theorem ppromise_any (h : RrAt w M u l) (hl : l.length ≤ 1000) (b : Int) : Calls Try.prog 33 #[.pointer (some ⟨M, 0, none⟩), .int .i64 b] w (RecPost w M u l (promR b)) := by
  obtain ⟨i0, hi, hz0, hz1, hz2⟩ := info_parts infoRec
  have c0 := h.c0
  obtain ⟨pu, nu, cu, rfl⟩ := own_form h.own
  have HH : Hid _ := h
  have hM := h.lt
  clear h
  go_enter Try.func33, Try.ntmps33
  go_wp2_with (at_builtin; refine wpList_app_row (k := 9) (enc := rcC) (l := [promR b]) rfl (.tmp 8) (.tmp 11) 39 65 rfl i0 _ 80 Try.underlying39 hi hz0 hz1 hz2 rfl (by decide) rcC_len rcC_ones (base := M) rfl rfl (World.ownsRow.alloc HH.out.own _) (RowAt.built (heap_alloc_new _ _) rfl 1 rfl rfl) (by simp; omega) (by simp; omega) (by simp; omega) ?_; intro u6 w6 o6 a6; obtain ⟨p6, n6, q6, rfl⟩ := own_form o6; have R6 : Hid _ := HH.out.more ((Below.refl _ w).alloc (Nat.le_refl _) _) o6 a6; have b6 := (a6.rest M (by simp; omega) (fun e => HH.out.ne e.symm)).trans ((Below.heap_alloc w _ M hM).trans HH.out.blk); have z6 : w6.cell? ⟨M, 0, none⟩ = some (.slice pu nu cu) := (by simp [World.cell?, b6]); have f6 : w6.frozen? ⟨M, 0, none⟩ = false := (by simp [World.frozen?, b6]); clear o6 a6 b6)
  go_returns
  exact ⟨_, rfl, R6.out.1, R6.out.2⟩
end
end Go.Proofs.Ytkngpfngfmbmjaa
