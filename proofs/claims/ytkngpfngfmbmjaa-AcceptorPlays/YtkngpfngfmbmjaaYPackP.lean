/-
  Parts of the proof, laid together: FoClone, FoCloneB, FoMem, FoPlace. The conditions stand at each part.
-/
import Derived.Test.YtkngpfngfmbmjaaYPackM
import Derived.Test.YtkngpfngfmbmjaaYPackO
import Derived.Test.YtkngpfngfmbmjaaYPackT
import Derived.Test.YtkngpfngfmbmjaaYPack5
/-
  Package durable: an entry, a state in new memory. The conditions: a text has at most 2^48 bytes; at most 2^40 entries.
-/
namespace Go.Proofs.Ytkngpfngfmbmjaa
open Go.Shelf Go.RowKit Go.Lib Go.Sort

/-- An entry in a block. -/
abbrev EnAt (w : World) (B : Nat) (e : En) : Prop := w.heap[B]? = some (.cells (enA e) 36 (0, 0))
theorem sizeEn : (Try.prog.info? 36).map (·.size) = some 7 := by kernel_rfl
theorem EnAt.c0 {w : World} {B : Nat} {e : En} (h : EnAt w B e) : w.cell? ⟨B, 0, none⟩ = some (.int .i64 e.slot) := by simp [World.cell?, h]
theorem EnAt.c5 {w : World} {B : Nat} {e : En} (h : EnAt w B e) : w.cell? ⟨B, 5, none⟩ = some (.string e.cmd.name) := by simp [World.cell?, h]
theorem EnAt.f5 {w : World} {B : Nat} {e : En} (h : EnAt w B e) : w.frozen? ⟨B, 5, none⟩ = false := by simp [World.frozen?, h]
theorem EnAt.set5 {w : World} {B : Nat} {e : En} (h : EnAt w B e) : EnAt (w.setCell ⟨B, 5, none⟩ (.string e.cmd.name)) B e := by
  show (w.setCell ⟨B, 5, none⟩ (.string e.cmd.name)).heap[B]? = _
  rw [heap_setCell_same w B 5 _ _ _ h]
  rfl
def nameOk (s : ByteArray) : Prop := s.size ≤ 281474976710656
set_option maxHeartbeats 3200000 in
set_option maxRecDepth 100000 in
theorem cloneE_any (w : World) (e : En) (hn : nameOk e.cmd.name) : Calls Try.prog 45 #[.agg (enA e)] w fun r w' => r = .returned (.agg (enA e)) ∧ Below w.heap.size w w' := by
  obtain ⟨Z, hZ⟩ : ∃ Z : Obj, Z = .cells #[.int .i64 0, .int .i64 0, .int .i64 0, .int .i64 0, .int .i64 0, .string ⟨#[]⟩, .int .i64 0] 36 := ⟨_, rfl⟩
  have b1 : Below w.heap.size w ((w.alloc (.cells (enA e) 36)).alloc Z) := ((Below.refl _ w).alloc (Nat.le_refl _) _).alloc (by simp) _
  have h2 := two_blocks w (.cells (enA e) 36) Z
  have hE : EnAt ((w.alloc (.cells (enA e) 36)).alloc Z) w.heap.size e := h2.1.trans (heap_alloc_new w _)
  have hR := h2.2.trans (heap_alloc_new _ _)
  have hs : ((w.alloc (.cells (enA e) 36)).alloc Z).heap.size = w.heap.size + 2 := by simp
  rw [hZ] at b1 hE hR hs
  have c5 := hE.c5
  have HE : Hid _ := hE
  have HR : Hid _ := hR
  have B1 : Hid _ := b1
  have HS : Hid _ := hs
  clear hE hR b1 hs h2 hZ Z
  go_enter Try.func45, Try.ntmps45
  go_wp2_with (first
    | (show wpList _ _ _ (⟨_, Op.store 36 _ _, _, _, _, _⟩ :: _) _ _; refine store_row_g rfl 36 _ _ rfl (w.heap.size + 1) (enA e) rfl rfl 36 _ R3.out sizeEn rfl (by simp [Value.oneCell']) ?_; intro w4 h4 g4)
    | (show wpList _ _ _ (⟨_, Op.load 36 _, _, _, _, _⟩ :: _) _ _; refine load_row_g rfl 36 _ rfl w.heap.size rfl 36 (enA e) (0, 0) _ E3.out Try.underlying36 rfl sizeEn ?_)
    | (go_at_call 38; refine (kclone_any e.cmd.name _ hn).mono ?_; rintro r w2 ⟨rfl, bb⟩; have E2 : EnAt w2 w.heap.size e := (bb.block _ (by have := HS.out; omega)).trans HE.out; have R2 := (bb.block (w.heap.size + 1) (by have := HS.out; omega)).trans HR.out; have d5 := E2.c5; have f5 := E2.f5; have E3 : Hid (EnAt (w2.setCell ⟨w.heap.size, 5, none⟩ (.string e.cmd.name)) w.heap.size e) := E2.set5; have R3 : Hid ((w2.setCell ⟨w.heap.size, 5, none⟩ (.string e.cmd.name)).heap[w.heap.size + 1]? = _) := (heap_setCell_other _ _ _ _ (by simp)).trans R2; have B3 : Hid (Below w.heap.size w (w2.setCell ⟨w.heap.size, 5, none⟩ (.string e.cmd.name))) := (bmm B1.out B1.out.size bb).setCell (p := ⟨w.heap.size, 5, none⟩) (Nat.le_refl _) _; clear E2 R2 bb))
  refine bodyPost_ret (results_cell_row Try.results45 _ _ (w.heap.size + 1) 36 _ (0, 0) _ rfl h4 Try.underlying36 rfl sizeEn) rfl ?_
  exact ⟨rfl, B3.out.grown g4 B3.out.size (fun k hk => by have := Option.some.inj hk; omega)⟩
/-- Behind k entries of a state that is cloned: its box, the answer's cell, the row so far. -/
structure CloI (w wr : World) (d : Du) (v u : Value) (l : List En) : Prop where
  own : OwnEn wr (w.heap.size + 2) u l
  box : DuAt wr w.heap.size d v
  res : wr.heap[w.heap.size + 1]? = some (.cells #[.int .i64 0, .int .i64 0, .string ⟨#[]⟩, .slice none 0 0] 24 (0, 0))
  bel : Below w.heap.size w wr
  sz : w.heap.size + 2 ≤ wr.heap.size
theorem CloI.fresh {w wr w' : World} {d : Du} {v u : Value} {l : List En} (h : CloI w wr d v u l) (b : Below wr.heap.size wr w') : CloI w w' d v u l :=
  ⟨own_keep h.own fun g e => b.block g (h.own.lt g e).2, (b.block _ (by have := h.sz; omega)).trans h.box, (b.block _ (by have := h.sz; omega)).trans h.res, bmm h.bel h.bel.size b, Nat.le_trans h.sz b.size⟩
theorem CloI.step {w wr w' : World} {d : Du} {v u u' : Value} {l : List En} {x : En} (h : CloI w wr d v u l) (ho : w'.ownsRow (w.heap.size + 2) 36 7 u' (l.length + 1) (rowL enC l ++ rowL enC [x])) (b : Below (w.heap.size + 2) wr w') : CloI w w' d v u' (l ++ [x]) := by
  refine ⟨?_, (b.block _ (by omega)).trans h.box, (b.block _ (by omega)).trans h.res, h.bel.trans (b.mono (by omega)), Nat.le_trans h.sz b.size⟩
  show w'.ownsRow _ _ _ _ _ _
  rw [rowL_append, List.length_append]
  exact ho
end Go.Proofs.Ytkngpfngfmbmjaa
/-
  Package durable: a state in new memory. The conditions: a text has at most 2^48 bytes; at most 2^40 entries.
-/
namespace Go.Proofs.Ytkngpfngfmbmjaa
open Go.Shelf Go.RowKit Go.Lib Go.Sort

theorem CloI.drew {w wr : World} {d : Du} {v u : Value} {l : List En} (h : CloI w wr d v u l) : CloI w wr.drew d v u l := h.fresh ⟨rfl, rfl, rfl, Nat.le_refl _, fun _ _ => rfl⟩
theorem CloI.alloc {w wr : World} {d : Du} {v u : Value} {l : List En} (h : CloI w wr d v u l) (o : Obj) : CloI w (wr.alloc o) d v u l := h.fresh ((Below.refl _ wr).alloc (Nat.le_refl _) o)
set_option maxHeartbeats 6400000 in
set_option maxRecDepth 100000 in
theorem clone_d (w : World) (d : Du) (v : Value) (hv : RowAt enC w v d.es) (hl : d.es.length ≤ 1099511627776) (hs : nameOk d.s) (hn : ∀ e ∈ d.es, nameOk e.cmd.name) :
    Calls Try.prog 43 #[.agg (duA d v)] w fun e w' => ∃ v', e = .returned (.agg (duA d v')) ∧ OwnEn w' w.heap.size v' d.es ∧ Below w.heap.size w w' := by
  obtain ⟨a0, cap0, rfl⟩ := hv.form
  obtain ⟨i0, hi, hz0, hz1, hz2⟩ := info_parts infoEn
  have b1 : Below w.heap.size w ((w.alloc (.cells (duA d (.slice a0 d.es.length cap0)) 24)).alloc (.cells #[.int .i64 0, .int .i64 0, .string ⟨#[]⟩, .slice none 0 0] 24)) := ((Below.refl _ w).alloc (Nat.le_refl _) _).alloc (by simp) _
  have h2 := two_blocks w (.cells (duA d (.slice a0 d.es.length cap0)) 24) (.cells #[.int .i64 0, .int .i64 0, .string ⟨#[]⟩, .slice none 0 0] 24)
  have hI : CloI w ((w.alloc (.cells (duA d (.slice a0 d.es.length cap0)) 24)).alloc (.cells #[.int .i64 0, .int .i64 0, .string ⟨#[]⟩, .slice none 0 0] 24)) d (.slice a0 d.es.length cap0) (.slice none 0 0) [] := ⟨World.ownsRow_nil _ _ _ _, h2.1.trans (heap_alloc_new w _), h2.2.trans (heap_alloc_new _ _), b1, by simp⟩
  have c3 := hI.box.c3
  have HI : Hid _ := hI
  clear h2 b1 hI
  go_enter Try.func43, Try.ntmps43
  go_wp2
  go_loopw [3, 9] (fun u i wr => ∃ (k : Nat), k ≤ d.es.length ∧ i = .int .i64 (k : Int) ∧ CloI w wr d (.slice a0 d.es.length cap0) u (d.es.take k)) (fun _ i _ => d.es.length - (intOf i).toNat)
  case atStart => exact ⟨0, Nat.zero_le _, rfl, HI.out⟩
  case round =>
    obtain ⟨k, hk, rfl, hP⟩ := hrel
    clear HI
    obtain ⟨p5, n5, q5, rfl⟩ := own_form hP.own
    by_cases hkl : k < d.es.length
    · have q0 : decide ((k : Int) < (d.es.length : Int)) = true := decide_eq_true (by omega)
      obtain ⟨bk, off, cap', hvv, hcap, hbk, hc⟩ := (hv.fresh hP.bel).cells enC_len (by omega)
      injection hvv with e1 e2 e3
      subst e1 e3
      obtain ⟨x, hx⟩ : ∃ x, x = d.es[k] := ⟨_, rfl⟩
      have hxn : nameOk x.cmd.name := by rw [hx]; exact hn _ (List.getElem_mem hkl)
      have hx0 : d.es.take (k + 1) = d.es.take k ++ [x] := by rw [List.take_add_one, List.getElem?_eq_getElem hkl, hx]; rfl
      have z0 := hc k hkl 0 (.int .i64 x.slot) (by decide) (by rw [hx]; rfl)
      have z1 := hc k hkl 1 (.int .i64 x.ballot) (by decide) (by rw [hx]; rfl)
      have z2 := hc k hkl 2 (.int .i64 x.cmd.kind) (by decide) (by rw [hx]; rfl)
      have z3 := hc k hkl 3 (.int .i64 x.cmd.session) (by decide) (by rw [hx]; rfl)
      have z4 := hc k hkl 4 (.int .i64 x.cmd.seq) (by decide) (by rw [hx]; rfl)
      have z5 := hc k hkl 5 (.string x.cmd.name) (by decide) (by rw [hx]; rfl)
      have z6 := hc k hkl 6 (.int .i64 x.cmd.n) (by decide) (by rw [hx]; rfl)
      rw [Nat.add_zero] at z0
      have HX : Hid _ := hx0
      obtain ⟨l, hll⟩ : ∃ l, l = d.es.take k := ⟨_, rfl⟩
      have hlen : l.length ≤ 1099511627776 := by rw [hll, List.length_take]; omega
      have HL : Hid _ := hll
      rw [← hll] at hP
      have HP : Hid _ := hP
      clear hP hx hc hx0 hll
      go_wp2_with (first
        | (at_builtin; refine wpList_app_row (k := 7) (enc := enC) (l := [x]) rfl (.tmp 13) (.tmp 16) 22 36 rfl i0 _ 64 Try.underlying22 hi hz0 hz1 hz2 rfl (by decide) enC_len enC_one (base := w.heap.size + 2) rfl rfl ((I5.out.alloc _).own) (RowAt.built (heap_alloc_new _ _) rfl 1 rfl rfl) (by simp; have := I5.out.sz; omega) (by simp; omega) (by simp; omega) ?_; intro u6 w6 o6 a6; obtain ⟨p6, n6, q6, rfl⟩ := own_form o6; have I6 : Hid _ := (I5.out.alloc _).step o6 a6.below; clear o6 a6)
        | (go_at_call 45; refine (cloneE_any _ x hxn).mono ?_; rintro e w5 ⟨rfl, b5⟩; have I5 : Hid _ := (HP.out.alloc _).fresh b5; clear b5))
      go_roundw
      case rel => exact ⟨k + 1, hkl, by go_num, by rw [HX.out, ← HL.out]; exact I6.out⟩
      case measure => simp [intOf]; omega
    · have q0 : decide ((k : Int) < (d.es.length : Int)) = false := decide_eq_false (by omega)
      have ht : d.es.take k = d.es := List.take_of_length_le (by omega)
      rw [ht] at hP
      have HP : Hid _ := hP
      have z0 := (hP.drew).box.c0
      have z1 := (hP.drew).box.c1
      have z2 := (hP.drew).box.c2
      clear hP ht
      go_wp2_with fail
      refine wp_region_held_drew (S := (fun w' : World => w'.cell? ⟨w.heap.size, 0, none⟩ = some (.int .i64 d.p) ∧ w'.cell? ⟨w.heap.size, 1, none⟩ = some (.int .i64 d.b) ∧ w'.cell? ⟨w.heap.size, 2, none⟩ = some (.string d.s))) (by kernel_rfl) ?_ (fun hHeld0 => ?_)
      · try dsimp only
        go_keep
      refine tk0 (.pointer (some ⟨w.heap.size, 0, none⟩)) (by kernel_rfl) (by kernel_rfl) (by kernel_rfl) (fun _ _ _ h => h) rfl (fun w hSw => by (try dsimp only at hSw); obtain ⟨q0, q1, q2⟩ := hSw; go_simp) (by assumption) ?_
      try simp only [Act.put, List.setIfInBounds_toArray, List.set_cons_zero, List.set_cons_succ]
      refine tk1 (.int .i64 d.p) (by kernel_rfl) (by kernel_rfl) (by kernel_rfl) (fun _ _ _ h => h) rfl (fun w hSw => by (try dsimp only at hSw); obtain ⟨q0, q1, q2⟩ := hSw; go_simp) (by assumption) ?_
      try simp only [Act.put, List.setIfInBounds_toArray, List.set_cons_zero, List.set_cons_succ]
      refine tk2 (.pointer (some ⟨w.heap.size, 1, none⟩)) (by kernel_rfl) (by kernel_rfl) (by kernel_rfl) (fun _ _ _ h => h) rfl (fun w hSw => by (try dsimp only at hSw); obtain ⟨q0, q1, q2⟩ := hSw; go_simp) (by assumption) ?_
      try simp only [Act.put, List.setIfInBounds_toArray, List.set_cons_zero, List.set_cons_succ]
      refine tk3 (.int .i64 d.b) (by kernel_rfl) (by kernel_rfl) (by kernel_rfl) (fun _ _ _ h => h) rfl (fun w hSw => by (try dsimp only at hSw); obtain ⟨q0, q1, q2⟩ := hSw; go_simp) (by assumption) ?_
      try simp only [Act.put, List.setIfInBounds_toArray, List.set_cons_zero, List.set_cons_succ]
      refine tk4 (.pointer (some ⟨w.heap.size, 2, none⟩)) (by kernel_rfl) (by kernel_rfl) (by kernel_rfl) (fun _ _ _ h => h) rfl (fun w hSw => by (try dsimp only at hSw); obtain ⟨q0, q1, q2⟩ := hSw; go_simp) (by assumption) ?_
      try simp only [Act.put, List.setIfInBounds_toArray, List.set_cons_zero, List.set_cons_succ]
      refine tk5 (.string d.s) (by kernel_rfl) (by kernel_rfl) (by kernel_rfl) (fun _ _ _ h => h) rfl (fun w hSw => by (try dsimp only at hSw); obtain ⟨q0, q1, q2⟩ := hSw; go_simp) (by assumption) ?_
      try simp only [Act.put, List.setIfInBounds_toArray, List.set_cons_zero, List.set_cons_succ]
      refine tk7 (.slice p5 n5 q5) (by kernel_rfl) (by kernel_rfl) (by kernel_rfl) (fun _ _ _ h => h) rfl (fun w hSw => by (try dsimp only at hSw); obtain ⟨q0, q1, q2⟩ := hSw; go_simp) (by assumption) ?_
      try simp only [Act.put, List.setIfInBounds_toArray, List.set_cons_zero, List.set_cons_succ]
      refine cl6 (by kernel_rfl) rfl (fun K hK => ?_)
      go_simp
      go_at_call 38
      refine (kclone_any d.s _ hs).mono ?_
      rintro e w5 ⟨rfl, b5⟩
      have i5 := (HP.out.drew).fresh b5
      have I5 : Hid _ := i5
      have y0 := i5.box.c0
      have y1 := i5.box.c1
      have y2 := i5.box.c2
      clear b5 i5
      refine hK.out _ _ ?_ (fun hHeld => ?_)
      · try dsimp only
        go_keep
      clear hK K
      try simp only [Act.put, List.setIfInBounds_toArray, List.set_cons_zero, List.set_cons_succ]
      refine tk8 (.agg (duA d (.slice p5 n5 q5))) (by kernel_rfl) (by kernel_rfl) (by kernel_rfl) (fun _ _ _ h => h) rfl (fun w hSw => by (try dsimp only at hSw); obtain ⟨q0, q1, q2⟩ := hSw; go_simp) (by assumption) ?_
      try simp only [Act.put, List.setIfInBounds_toArray, List.set_cons_zero, List.set_cons_succ]
      refine cl9 (by kernel_rfl) rfl (fun K hK => ?_)
      refine wp_store_row 24 _ _ rfl (w.heap.size + 1) (duA d (.slice p5 n5 q5)) rfl rfl 24 _ I5.out.res sizeDu rfl (by simp [Value.oneCell']) ?_
      obtain ⟨w6, hw6⟩ : ∃ w6, w6 = w5.setRow (w.heap.size + 1) (duA d (.slice p5 n5 q5)) := ⟨_, rfl⟩
      have h6 : w6.heap[w.heap.size + 1]? = some (.cells (duA d (.slice p5 n5 q5)) 24 (0, 0)) := by rw [hw6]; exact setRow_heap w5 _ _ _ _ _ I5.out.res
      have g6 : w5.grownBy w6 (some (w.heap.size + 1)) := by rw [hw6]; exact grown_setRow_g _ _ _
      rw [← hw6]
      have K6 : DuAt w6 w.heap.size d (.slice a0 d.es.length cap0) := (g6.block _ (by have := I5.out.sz; omega) (fun e2 => by have := Option.some.inj e2; omega)).trans I5.out.box
      have x0 := K6.c0
      have x1 := K6.c1
      have x2 := K6.c2
      have H6 : Hid _ := h6
      have G6 : Hid _ := g6
      clear hw6 K6 h6 g6
      refine hK.out _ _ ?_ (fun hHeld => ?_)
      · try dsimp only
        go_keep
      clear hK K
      refine wpAnyH_done (by kernel_rfl) ?_ _
      go_wp2
      refine bodyPost_ret (results_cell_row Try.results43 _ _ (w.heap.size + 1) 24 _ (0, 0) _ rfl H6.out Try.underlying24 rfl sizeDu) rfl ?_
      refine ⟨_, rfl, own_mono (own_keep I5.out.own (fun g e => G6.out.block g (World.ownsRow.lt I5.out.own g e).2 (fun e2 => ?_))) (by omega), I5.out.bel.grown G6.out I5.out.bel.size (fun k hk => by have := Option.some.inj hk; omega)⟩
      have := (World.ownsRow.lt I5.out.own g e).1
      have := Option.some.inj e2
      omega
end Go.Proofs.Ytkngpfngfmbmjaa
/-
  Package durable: a state within a block, an entry stored into a row, what a fold leaves. No condition.
-/
namespace Go.Proofs.Ytkngpfngfmbmjaa
open Go.Shelf Go.RowKit Go.Lib Go.Sort

/-- A store of a struct in the midst of a block. -/
theorem wp_store_mid {P : Program} {o : Oper} {a : Act} {w : World} {K : Act → World → Prop} {Q : Exit → Act → World → Prop} (ty : TypeId) (x y : Operand) (ho : o.op = .store ty x y)
    (g s : Nat) (cells : Array Value) (hx : a.eval x = .pointer (some ⟨g, s, none⟩)) (hy : a.eval y = .agg cells)
    (t : TypeId) (old : Array Value) (hg : w.heap[g]? = some (.cells old t (0, 0))) (hi : (P.info? ty).map (·.size) = some cells.size)
    (hold : s + cells.size ≤ old.size) (h1 : cells.all (·.oneCell') = true)
    (h : K (a.put o.dst undef) (w.setRow g (old.toList.take s ++ cells.toList ++ old.toList.drop (s + cells.size)).toArray)) : o.wp P a w K Q := by
  have hr := run_storeCells_at P g s t cells.toList 0 old w hg (by simpa using hold) (fun v hv => (Array.all_eq_true_iff_forall_mem.1 h1) v (by simpa using hv))
  simp only [Nat.add_zero, Array.length_toList] at hr
  have hs : (storeVar ty ⟨g, s, none⟩ (.agg cells)).run P w = .ok () (w.setRow g (old.toList.take s ++ cells.toList ++ old.toList.drop (s + cells.size)).toArray) := by
    cases hq : P.info? ty with
    | none => simp [hq] at hi
    | some i =>
      have hz : cells.size = i.size := by simp [hq] at hi; omega
      have e0 : (storeVar ty ⟨g, s, none⟩ (.agg cells)).run P w = (storeCells ⟨g, s, none⟩ cells.toList 0).run P w := by simp [storeVar, sizeOf, typeInfo, hq, Value.cells, hz]
      rw [e0]
      exact hr
  unfold Oper.wp execOp
  simp only [ho, hx, hy, Instr.storeAt, Instr.sureAddr, Sem.run_bind, Sem.run_pure, Result.andThen_ok, hs]
  exact h
theorem rowL_set (es : List En) (e : En) (k : Nat) (hk : k < es.length) : rowL enC (es.set k e) = (rowL enC es).take (k * 7) ++ enC e ++ (rowL enC es).drop (k * 7 + 7) := by
  rw [List.set_eq_take_append_cons_drop, if_pos hk, rowL_append]
  have h1 : rowL enC (es.take k) = (rowL enC es).take (k * 7) := by
    have h2 : rowL enC es = rowL enC (es.take k) ++ rowL enC (es.drop k) := by rw [← rowL_append, List.take_append_drop]
    have h3 : (rowL enC (es.take k)).length = k * 7 := by rw [rowL_length enC_len, List.length_take]; omega
    rw [h2, ← h3, List.take_left]
  have h4 : rowL enC (es.drop (k + 1)) = (rowL enC es).drop (k * 7 + 7) := by
    rw [rowL_drop enC_len]
    congr 1
    omega
  have h5 : rowL enC (e :: es.drop (k + 1)) = enC e ++ rowL enC (es.drop (k + 1)) := by
    show List.flatMap _ _ = _
    rw [List.flatMap_cons]
    rfl
  rw [h1, h5, h4, List.append_assoc]
/-- An entry stored into a row of one's own. -/
theorem own_set {w : World} {base g n cap : Nat} {es : List En} (ho : OwnEn w base (.slice (some ⟨g, 0, none⟩) n cap) es) (k : Nat) (hk : k < es.length) (e : En) :
    ∃ cur, w.heap[g]? = some (.cells cur 36 (0, 0)) ∧ k * 7 + 7 ≤ cur.size ∧ OwnEn (w.setRow g (cur.toList.take (k * 7) ++ (enA e).toList ++ cur.toList.drop (k * 7 + (enA e).size)).toArray) base (.slice (some ⟨g, 0, none⟩) n cap) (es.set k e) := by
  rcases ho.2 with ⟨e1, _⟩ | ⟨g', cap', cur, e1, hbg, hb, hc, hm, hs, htk⟩
  · cases e1
  · injection e1 with e2 e3 e4
    injection e2 with e2
    injection e2 with e2
    subst e2 e4
    have h7 : k * 7 + 7 ≤ es.length * 7 := by omega
    have h8 : es.length * 7 ≤ cur.size := by rw [hs]; exact Nat.mul_le_mul_right _ hc
    refine ⟨cur, hb, by omega, ?_⟩
    refine ⟨rowL_length enC_len _, Or.inr ⟨g, cap, _, by rw [e3, List.length_set], hbg, setRow_heap w g cur _ _ _ hb, by rw [List.length_set]; exact hc, hm, ?_, ?_⟩⟩
    · simp only [List.size_toArray, List.length_append, List.length_take, List.length_drop, Array.length_toList, List.length_cons, List.length_nil]
      rw [← hs]
      omega
    · rw [List.length_set, rowL_set es e k hk, ← htk]
      show List.take (es.length * 7) (cur.toList.take (k * 7) ++ enC e ++ cur.toList.drop (k * 7 + 7)) = _
      have hlc : cur.toList.length = cur.size := rfl
      apply List.ext_getElem?
      intro j
      rw [List.getElem?_take]
      by_cases c1 : j < k * 7
      · rw [if_pos (by omega), List.append_assoc, List.getElem?_append_left (by rw [List.length_take]; omega), List.append_assoc, List.getElem?_append_left (by rw [List.length_take, List.length_take]; omega), List.take_take, List.getElem?_take, List.getElem?_take, if_pos c1, if_pos (by omega)]
      · by_cases c2 : j < k * 7 + 7
        · have e7 : (enC e).length = 7 := rfl
          rw [if_pos (by omega), List.append_assoc, List.getElem?_append_right (by rw [List.length_take]; omega), List.getElem?_append_left (by rw [List.length_take, e7]; omega), List.append_assoc, List.getElem?_append_right (by rw [List.length_take, List.length_take]; omega), List.getElem?_append_left (by rw [List.length_take, List.length_take, e7]; omega), List.length_take, List.length_take, List.length_take]
          congr 1
          omega
        · have e7 : (enC e).length = 7 := rfl
          have l1 : (cur.toList.take (k * 7) ++ enC e).length = k * 7 + 7 := by rw [List.length_append, List.length_take, e7]; omega
          have l2 : ((cur.toList.take (es.length * 7)).take (k * 7) ++ enC e).length = k * 7 + 7 := by rw [List.length_append, List.length_take, List.length_take, e7]; omega
          rw [List.getElem?_append_right (by omega), List.getElem?_append_right (by omega), l1, l2, List.getElem?_drop, List.getElem?_drop, List.getElem?_take]
          have : k * 7 + 7 + (j - (k * 7 + 7)) = j := by omega
          rw [this]
/-- A state in the end of a block. -/
abbrev DxAt (w : World) (B : Nat) (t : TypeId) (L : List Value) (d : Du) (v : Value) : Prop := w.heap[B]? = some (.cells (L ++ [.int .i64 d.p, .int .i64 d.b, .string d.s, v]).toArray t (0, 0))
section
variable {w : World} {B : Nat} {t : TypeId} {L : List Value} {d : Du} {v : Value}
theorem DxAt.c0 (h : DxAt w B t L d v) : w.cell? ⟨B, L.length, none⟩ = some (.int .i64 d.p) := by simp [World.cell?, h]
theorem DxAt.c1 (h : DxAt w B t L d v) : w.cell? ⟨B, L.length + 1, none⟩ = some (.int .i64 d.b) := by simp [World.cell?, h]
theorem DxAt.c3 (h : DxAt w B t L d v) : w.cell? ⟨B, L.length + 3, none⟩ = some v := by simp [World.cell?, h]
theorem DxAt.f0 (h : DxAt w B t L d v) : w.frozen? ⟨B, L.length, none⟩ = false := by simp [World.frozen?, h]
theorem DxAt.f3 (h : DxAt w B t L d v) : w.frozen? ⟨B, L.length + 3, none⟩ = false := by simp [World.frozen?, h]
theorem DxAt.set0 (h : DxAt w B t L d v) (p : Int) : DxAt (w.setCell ⟨B, L.length, none⟩ (.int .i64 p)) B t L { d with p := p } v := by
  show (w.setCell ⟨B, L.length, none⟩ (.int .i64 p)).heap[B]? = _
  rw [heap_setCell_same w B _ _ _ _ h]
  simp
theorem DxAt.set3 (h : DxAt w B t L d v) (es : List En) (u : Value) : DxAt (w.setCell ⟨B, L.length + 3, none⟩ u) B t L { d with es := es } u := by
  show (w.setCell ⟨B, L.length + 3, none⟩ u).heap[B]? = _
  rw [heap_setCell_same w B _ _ _ _ h]
  simp
theorem DxAt.es (h : DxAt w B t L d v) (es : List En) : DxAt w B t L { d with es := es } v := h
end
/-- What is left of a world where a block and a row's block turned. -/
structure Fr (w w' : World) (B : Nat) (o : Option Nat) : Prop where
  os : w'.os = w.os
  tape : w'.tape = w.tape
  output : w'.output = w.output
  size : w.heap.size ≤ w'.heap.size
  rest : ∀ b, b < w.heap.size → b ≠ B → o ≠ some b → w'.heap[b]? = w.heap[b]?
theorem Fr.of {w w' : World} {B : Nat} {o : Option Nat} (b : Below w.heap.size w w') : Fr w w' B o := ⟨b.os, b.tape, b.output, b.size, fun k hk _ _ => b.block k hk⟩
theorem Fr.trans {w1 w2 w3 : World} {B : Nat} {o : Option Nat} (h : Fr w1 w2 B o) (k : Fr w2 w3 B o) : Fr w1 w3 B o :=
  ⟨k.os.trans h.os, k.tape.trans h.tape, k.output.trans h.output, Nat.le_trans h.size k.size, fun b hb h1 h2 => (k.rest b (Nat.lt_of_lt_of_le hb h.size) h1 h2).trans (h.rest b hb h1 h2)⟩
theorem Fr.grown {w w' : World} {B : Nat} {o : Option Nat} (h : w.grownBy w' o) : Fr w w' B o := ⟨h.os, h.tape, h.output, h.size, fun b hb _ h2 => h.block b hb (fun e => h2 e.symm)⟩
theorem Fr.set {w : World} {B : Nat} {o : Option Nat} (i : Nat) (x : Value) : Fr w (w.setCell ⟨B, i, none⟩ x) B o := ⟨rfl, rfl, rfl, by simp, fun b _ h1 _ => heap_setCell_other _ _ _ _ h1⟩
theorem Fr.below {w w' : World} {B base : Nat} {o : Option Nat} (h : Fr w w' B o) (hb : base ≤ B) (hs : base ≤ w.heap.size) (ho : ∀ g, o = some g → base ≤ g) : Below base w w' :=
  ⟨h.os, h.tape, h.output, h.size, fun b hb' => h.rest b (by omega) (by omega) (fun e => by have := ho b e; omega)⟩
/-- One behind the other, where the row's block may be a new one. -/
theorem Fr.then {w1 w2 w3 : World} {B : Nat} {o o2 : Option Nat} (h : Fr w1 w2 B o) (k : Fr w2 w3 B o2) (ho : ∀ g, o2 = some g → o = some g ∨ w1.heap.size ≤ g) : Fr w1 w3 B o :=
  ⟨k.os.trans h.os, k.tape.trans h.tape, k.output.trans h.output, Nat.le_trans h.size k.size, fun b hb h1 h2 => (k.rest b (Nat.lt_of_lt_of_le hb h.size) h1 (fun e => by
    rcases ho b e with h3 | h3
    · exact h2 h3
    · omega)).trans (h.rest b hb h1 h2)⟩
/-- A search in a row of one's own. -/
theorem swk_below {w w' : World} {g : Nat} {es : List En} (hH : HoldsK enC 7 w g 0 es.toArray) (h : SWK enC 7 w g 0 es.toArray w') : Below w.heap.size w w' := by
  obtain ⟨n, os, rfl⟩ := h
  have e : sortWorldK enC 7 w g 0 n es.toArray os = grow (Sort.ahead w n) os := by
    unfold sortWorldK
    rw [putRowK_self enC 7 _ g 0 _ (holdsK_ahead _ _ _ _ _ _ _ hH)]
  rw [e]
  refine ⟨rfl, rfl, rfl, by simp [grow, Sort.ahead], fun k hk => ?_⟩
  rw [heap_grow_old _ _ (by simpa [Sort.ahead] using hk)]
  rfl
set_option maxHeartbeats 1600000 in
set_option maxRecDepth 100000 in
theorem bsf_nil (w : World) (e : En) : Calls Try.prog 56 #[.slice none 0 0, .agg (enA e), .func (.func 57) #[] #[]] w fun r w' => r = .returned (.tuple #[.int .i64 0, .bool false]) ∧ Below w.heap.size w w' := by
  have mixed : Try.prog.follows Departure.mixedOrders = true := by kernel_rfl
  have bb : Below w.heap.size w (w.alloc (.cells (enA e) 36)) := (Below.refl _ w).alloc (Nat.le_refl _) _
  have BB : Hid _ := bb
  clear bb
  go_enter Try.func56, Try.ntmps56
  go_wp2
  refine wp_loop_rounds 1 ?_
  rw [rounds_succ]
  go_wp2_with fail
  go_big_region_o
  all_goals go_wp2
  go_ret2
  exact ⟨rfl, BB.out.trans (Below.mono (B := (w.alloc (.cells (enA e) 36)).heap.size) ⟨rfl, rfl, rfl, Nat.le_refl _, fun _ _ => rfl⟩ BB.out.size)⟩
theorem bsf_own (w : World) (base : Nat) (v : Value) (es : List En) (e : En) (ho : OwnEn w base v es) (hu : UpS es) (hl : es.length < 1152921504606846976) :
    Calls Try.prog 56 #[v, .agg (enA e), .func (.func 57) #[] #[]] w fun r w' => ∃ (k : Nat) (b : Bool), r = .returned (.tuple #[.int .i64 (k : Int), .bool b]) ∧ Found es e k b ∧ Below w.heap.size w w' := by
  rcases ho.2 with ⟨rfl, e0⟩ | ⟨g, cap, cur, rfl, hbg, hb, hc, hm, hs, htk⟩
  · have e1 : es = [] := List.eq_nil_of_length_eq_zero e0
    subst e1
    refine (bsf_nil w e).mono ?_
    rintro r w' ⟨rfl, b⟩
    exact ⟨0, false, rfl, ⟨Nat.le_refl _, fun x hx => by simp at hx, fun x hx => by simp at hx, fun h => (by cases h), fun _ h => (by simp at h)⟩, b⟩
  · have hH := holdsE hb htk
    refine (bsf_some w g 0 cap es e hH (lt_of_block hb) hu hl).mono ?_
    rintro r w' ⟨⟨k, b, rfl, hF⟩, hS⟩
    exact ⟨k, b, rfl, hF, swk_below hH hS⟩
end Go.Proofs.Ytkngpfngfmbmjaa
/-
  Package durable: an entry put into its place, where it has one. The conditions: at most 2^40 entries, which rise.
-/
namespace Go.Proofs.Ytkngpfngfmbmjaa
open Go.Shelf Go.RowKit Go.Lib Go.Sort
section
variable {P : Program} {md : Region.Mode} {Q : Exit → Act → World → Prop} {S : World → Prop} {fuel : Nat} {listed : Array Bool} {a : Act} {w : World} {l : List Oper}
theorem rd4_6 {o0 o1 o2 o3 o4 o5 o6 : Oper} (hr : Region.ready md (o0 :: o1 :: o2 :: o3 :: o4 :: o5 :: o6 :: l).toArray listed = [4, 6]) (hw0 : Region.wanted o4 (yielded (o0 :: o1 :: o2 :: o3 :: o4 :: o5 :: o6 :: l).toArray a.tmps) = true) (hw1 : Region.wanted o6 (yielded (o0 :: o1 :: o2 :: o3 :: o4 :: o5 :: o6 :: l).toArray a.tmps) = true)
    (h0 : ∀ K' : Act → World → Prop, Shut (∀ a w, S w → (S w → wpAnyH P md (o0 :: o1 :: o2 :: o3 :: o4 :: o5 :: o6 :: l).toArray Q S fuel (listed.setIfInBounds 4 true) a w) → K' a w) → Oper.wp P o4 a w K' Q)
    (h1 : ∀ K' : Act → World → Prop, Shut (∀ a w, S w → (S w → wpAnyH P md (o0 :: o1 :: o2 :: o3 :: o4 :: o5 :: o6 :: l).toArray Q S fuel (listed.setIfInBounds 6 true) a w) → K' a w) → Oper.wp P o6 a w K' Q) : wpAnyH P md (o0 :: o1 :: o2 :: o3 :: o4 :: o5 :: o6 :: l).toArray Q S (fuel + 1) listed a w :=
  wpAnyH_ready hr (by simp) (AllReadyH.cons (o := o4) rfl (fun K hK => by rw [if_pos hw0]; exact h0 K hK) (AllReadyH.cons (o := o6) rfl (fun K hK => by rw [if_pos hw1]; exact h1 K hK) AllReadyH.nil))
end

theorem EnAt.box {w : World} {B : Nat} {e : En} (h : EnAt w B e) (j : Nat) (u : Value) (hu : (enC e)[j]? = some u) : w.cell? ⟨B, j, none⟩ = some u := by
  simp only [World.cell?, h]
  simpa [enC] using hu
theorem box_set {w : World} {B X i : Nat} {e : En} (hne : B ≠ X) (h : ∀ j u, (enC e)[j]? = some u → w.cell? ⟨X, j, none⟩ = some u) (x : Value) (j : Nat) (u : Value) (hu : (enC e)[j]? = some u) : (w.setCell ⟨B, i, none⟩ x).cell? ⟨X, j, none⟩ = some u :=
  (World.cell?_of_block (heap_setCell_other _ _ _ _ (fun h => hne h.symm))).trans (h j u hu)
/-- While an entry is put into its place. -/
structure PlI (w wr : World) (base B : Nat) (t : TypeId) (L : List Value) (d : Du) (v : Value) (e : En) (o : Option Nat) : Prop where
  at_ : DxAt wr B t L d v
  own : OwnEn wr base v d.es
  box : EnAt wr w.heap.size e
  fr : Fr w wr B o
  bw : B < w.heap.size
  bs : base ≤ w.heap.size
  vw : ∀ g, v.ownBlock = some g → g < w.heap.size
section
variable {w wr w' : World} {base B : Nat} {t : TypeId} {L : List Value} {d : Du} {v : Value} {e : En} {o : Option Nat}
theorem PlI.ebox (h : PlI w wr base B t L d v e o) (j : Nat) (u : Value) (hu : (enC e)[j]? = some u) : wr.cell? ⟨w.heap.size, j, none⟩ = some u := h.box.box j u hu
theorem PlI.fresh (h : PlI w wr base B t L d v e o) (b : Below wr.heap.size wr w') : PlI w w' base B t L d v e o :=
  ⟨(b.block _ (lt_of_block h.at_)).trans h.at_, own_keep h.own fun g e => b.block g (h.own.lt g e).2, (b.block _ (lt_of_block h.box)).trans h.box, h.fr.trans (Fr.of b), h.bw, h.bs, h.vw⟩
theorem PlI.drew (h : PlI w wr base B t L d v e o) : PlI w wr.drew base B t L d v e o := h.fresh ⟨rfl, rfl, rfl, Nat.le_refl _, fun _ _ => rfl⟩
theorem PlI.turned {g n q : Nat} {es : List En} (h : PlI w wr base B t L d (.slice (some ⟨g, 0, none⟩) n q) e none) (ho : OwnEn w' base (.slice (some ⟨g, 0, none⟩) n q) es) (hte : 36 ≠ t) (hg : wr.grownBy w' (some g)) : PlI w w' base B t L { d with es := es } (.slice (some ⟨g, 0, none⟩) n q) e (some g) := by
  have hgB : g ≠ B := fun e2 => own_ne h.own h.at_ hte (by rw [← e2]; rfl)
  have hgw := h.vw g rfl
  exact ⟨(hg.block B (lt_of_block h.at_) (fun e2 => hgB (Option.some.inj e2).symm)).trans h.at_, ho, (hg.block _ (lt_of_block h.box) (fun e2 => by have := Option.some.inj e2; omega)).trans h.box, (Fr.trans ⟨h.fr.os, h.fr.tape, h.fr.output, h.fr.size, fun b hb h1 _ => h.fr.rest b hb h1 (by simp)⟩ (Fr.grown hg)), h.bw, h.bs, h.vw⟩
theorem PlI.grown {u : Value} (h : PlI w wr base B t L d v e none) (hte : 36 ≠ t) (a : Appended base wr w' v u) : DxAt w' B t L d v ∧ (∀ j x, (enC e)[j]? = some x → w'.cell? ⟨w.heap.size, j, none⟩ = some x) ∧ Fr w w' B v.ownBlock := by
  have h1 : w'.heap[B]? = wr.heap[B]? := a.rest B (lt_of_block h.at_) (fun e2 => own_ne h.own h.at_ hte e2.symm)
  have h2 : w'.heap[w.heap.size]? = wr.heap[w.heap.size]? := a.rest _ (lt_of_block h.box) (fun e2 => by have := h.vw _ e2.symm; omega)
  refine ⟨h1.trans h.at_, fun j x hx => EnAt.box (h2.trans h.box) j x hx, ⟨a.below.os.trans h.fr.os, a.below.tape.trans h.fr.tape, a.below.output.trans h.fr.output, Nat.le_trans h.fr.size a.below.size, fun b hb h3 h4 => ?_⟩⟩
  exact (a.rest b (Nat.lt_of_lt_of_le hb h.fr.size) (fun e2 => h4 e2.symm)).trans (h.fr.rest b hb h3 (by simp))
end
/-- What it leaves. -/
def PlPost (w w' : World) (base B : Nat) (t : TypeId) (L : List Value) (d : Du) (v : Value) (e : En) (x : Ending) : Prop :=
      (∃ v', x = .returned (.bool true) ∧ ((∃ y ∈ d.es, y.slot = e.slot) ∨ ∀ y ∈ d.es, y.slot < e.slot) ∧ DxAt w' B t L { d with es := putE d.es e } v' ∧ OwnEn w' base v' (putE d.es e) ∧ (v'.ownBlock = v.ownBlock ∨ ∀ g, v'.ownBlock = some g → w.heap.size ≤ g) ∧ Fr w w' B v.ownBlock) ∨
      (x = .returned (.bool false) ∧ (∀ y ∈ d.es, y.slot ≠ e.slot) ∧ (∃ y ∈ d.es, e.slot < y.slot) ∧ Below w.heap.size w w')
set_option maxHeartbeats 6400000 in
set_option maxRecDepth 100000 in
theorem placeE_any (w : World) (base B : Nat) (t : TypeId) (L : List Value) (d : Du) (v : Value) (e : En) (hX : DxAt w B t L d v) (hte : 36 ≠ t) (ho : OwnEn w base v d.es) (hbs : base ≤ w.heap.size) (hu : UpS d.es) (hlen : d.es.length ≤ 1099511627776) :
    Calls Try.prog 51 #[.pointer (some ⟨B, L.length, none⟩), .agg (enA e)] w fun x w' => PlPost w w' base B t L d v e x := by
  obtain ⟨p, n, q, rfl⟩ := own_form ho
  obtain ⟨i0, hi, hz0, hz1, hz2⟩ := info_parts infoEn
  have hl : d.es.length < 1152921504606846976 := by omega
  have hn : n = d.es.length := by
    rcases ho.2 with ⟨e1, e2⟩ | ⟨_, _, _, e1, _⟩
    · injection e1 with _ e3 _
      omega
    · injection e1 with _ e3 _
  have hi1 : PlI w (w.alloc (.cells (enA e) 36)) base B t L d (.slice p n q) e none := ⟨(Below.heap_alloc _ _ B (lt_of_block hX)).trans hX, ho.alloc _, heap_alloc_new w _, Fr.of ((Below.refl _ w).alloc (Nat.le_refl _) _), lt_of_block hX, hbs, fun g hg => (ho.lt g hg).2⟩
  have hBX : B ≠ w.heap.size := by have := lt_of_block hX; omega
  have I1 : Hid _ := hi1
  have BA : Hid (Below w.heap.size w (w.alloc (.cells (enA e) 36))) := (Below.refl _ w).alloc (Nat.le_refl _) _
  have c3 := (hi1.drew).at_.c3
  have ce0 := (hi1.drew).ebox 0 _ rfl
  have ce1 := (hi1.drew).ebox 1 _ rfl
  have ce2 := (hi1.drew).ebox 2 _ rfl
  have ce3 := (hi1.drew).ebox 3 _ rfl
  have ce4 := (hi1.drew).ebox 4 _ rfl
  have ce5 := (hi1.drew).ebox 5 _ rfl
  have ce6 := (hi1.drew).ebox 6 _ rfl
  have HN : Hid (n = d.es.length) := hn
  have HOW : Hid _ := ho
  have HU : Hid _ := hu
  clear hi1 hX hn ho hu
  go_enter Try.func51, Try.ntmps51
  go_wp2_with fail
  refine wp_region_held_drew (S := (fun w' : World => w'.cell? ⟨B, L.length + 3, none⟩ = some (.slice p n q) ∧ w'.cell? ⟨w.heap.size, 0, none⟩ = some (.int .i64 e.slot) ∧ w'.cell? ⟨w.heap.size, 1, none⟩ = some (.int .i64 e.ballot) ∧ w'.cell? ⟨w.heap.size, 2, none⟩ = some (.int .i64 e.cmd.kind) ∧ w'.cell? ⟨w.heap.size, 3, none⟩ = some (.int .i64 e.cmd.session) ∧ w'.cell? ⟨w.heap.size, 4, none⟩ = some (.int .i64 e.cmd.seq) ∧ w'.cell? ⟨w.heap.size, 5, none⟩ = some (.string e.cmd.name) ∧ w'.cell? ⟨w.heap.size, 6, none⟩ = some (.int .i64 e.cmd.n))) (by kernel_rfl) ?_ (fun hHeld0 => ?_)
  · try dsimp only
    go_keep
  refine tk0 (.pointer (some ⟨B, L.length, none⟩)) (by kernel_rfl) (by kernel_rfl) (by kernel_rfl) (fun _ _ _ h => h) rfl (fun w hSw => by (try dsimp only at hSw); obtain ⟨s3, q0, q1, q2, q3, q4, q5, q6⟩ := hSw; go_simp) (by assumption) ?_
  try simp only [Act.put, List.setIfInBounds_toArray, List.set_cons_zero, List.set_cons_succ]
  refine tk1 (.pointer (some ⟨B, L.length, none⟩)) (by kernel_rfl) (by kernel_rfl) (by kernel_rfl) (fun _ _ _ h => h) rfl (fun w hSw => by (try dsimp only at hSw); obtain ⟨s3, q0, q1, q2, q3, q4, q5, q6⟩ := hSw; go_simp) (by assumption) ?_
  try simp only [Act.put, List.setIfInBounds_toArray, List.set_cons_zero, List.set_cons_succ]
  refine tk2 (.pointer (some ⟨B, L.length + 3, none⟩)) (by kernel_rfl) (by kernel_rfl) (by kernel_rfl) (fun _ _ _ h => h) rfl (fun w hSw => by (try dsimp only at hSw); obtain ⟨s3, q0, q1, q2, q3, q4, q5, q6⟩ := hSw; go_simp) (by assumption) ?_
  try simp only [Act.put, List.setIfInBounds_toArray, List.set_cons_zero, List.set_cons_succ]
  refine tk3 (.slice p n q) (by kernel_rfl) (by kernel_rfl) (by kernel_rfl) (fun _ _ _ h => h) rfl (fun w hSw => by (try dsimp only at hSw); obtain ⟨s3, q0, q1, q2, q3, q4, q5, q6⟩ := hSw; go_simp) (by assumption) ?_
  try simp only [Act.put, List.setIfInBounds_toArray, List.set_cons_zero, List.set_cons_succ]
  refine tk4 (.agg (enA e)) (by kernel_rfl) (by kernel_rfl) (by kernel_rfl) (fun _ _ _ h => h) rfl (fun w hSw => by (try dsimp only at hSw); obtain ⟨s3, q0, q1, q2, q3, q4, q5, q6⟩ := hSw; go_simp) (by assumption) ?_
  try simp only [Act.put, List.setIfInBounds_toArray, List.set_cons_zero, List.set_cons_succ]
  refine cl5 (by kernel_rfl) rfl (fun K hK => ?_)
  go_simp
  go_at_call 56
  refine (bsf_own _ base _ d.es e (I1.out.drew).own HU.out hl).mono ?_
  rintro r w5 ⟨kk, bb, rfl, hF, b5⟩
  have i5 := (I1.out.drew).fresh b5
  have I5 : Hid _ := i5
  have FF : Hid _ := hF
  have B5 : Hid (Below w.heap.size w w5) := bmm BA.out BA.out.size (undrew b5)
  have y3 := (i5).at_.c3
  have ye0 := (i5).ebox 0 _ rfl
  have ye1 := (i5).ebox 1 _ rfl
  have ye2 := (i5).ebox 2 _ rfl
  have ye3 := (i5).ebox 3 _ rfl
  have ye4 := (i5).ebox 4 _ rfl
  have ye5 := (i5).ebox 5 _ rfl
  have ye6 := (i5).ebox 6 _ rfl
  clear b5 i5 hF
  refine hK.out _ _ ?_ (fun hHeld => ?_)
  · try dsimp only
    go_keep
  clear hK K
  try simp only [Act.put, List.setIfInBounds_toArray, List.set_cons_zero, List.set_cons_succ]
  refine tk6 (.tuple #[.int .i64 (kk : Int), .bool bb]) (by kernel_rfl) (by kernel_rfl) (by kernel_rfl) (fun _ _ _ h => h) rfl (fun w hSw => by (try dsimp only at hSw); obtain ⟨s3, q0, q1, q2, q3, q4, q5, q6⟩ := hSw; go_simp) (by assumption) ?_
  try simp only [Act.put, List.setIfInBounds_toArray, List.set_cons_zero, List.set_cons_succ]
  refine tk7 (.int .i64 (kk : Int)) (by kernel_rfl) (by kernel_rfl) (by kernel_rfl) (fun _ _ _ h => h) rfl (fun w hSw => by (try dsimp only at hSw); obtain ⟨s3, q0, q1, q2, q3, q4, q5, q6⟩ := hSw; go_simp) (by assumption) ?_
  try simp only [Act.put, List.setIfInBounds_toArray, List.set_cons_zero, List.set_cons_succ]
  refine tk8 (.bool bb) (by kernel_rfl) (by kernel_rfl) (by kernel_rfl) (fun _ _ _ h => h) rfl (fun w hSw => by (try dsimp only at hSw); obtain ⟨s3, q0, q1, q2, q3, q4, q5, q6⟩ := hSw; go_simp) (by assumption) ?_
  try simp only [Act.put, List.setIfInBounds_toArray, List.set_cons_zero, List.set_cons_succ]
  refine tk9 (.int .i64 (kk : Int)) (by kernel_rfl) (by kernel_rfl) (by kernel_rfl) (fun _ _ _ h => h) rfl (fun w hSw => by (try dsimp only at hSw); obtain ⟨s3, q0, q1, q2, q3, q4, q5, q6⟩ := hSw; go_simp) (by assumption) ?_
  try simp only [Act.put, List.setIfInBounds_toArray, List.set_cons_zero, List.set_cons_succ]
  refine tk10 (.bool bb) (by kernel_rfl) (by kernel_rfl) (by kernel_rfl) (fun _ _ _ h => h) rfl (fun w hSw => by (try dsimp only at hSw); obtain ⟨s3, q0, q1, q2, q3, q4, q5, q6⟩ := hSw; go_simp) (by assumption) ?_
  try simp only [Act.put, List.setIfInBounds_toArray, List.set_cons_zero, List.set_cons_succ]
  refine wpAnyH_done (by kernel_rfl) ?_ _
  have hkn : (kk : Int) ≤ (n : Int) := by have := FF.out.le; have := HN.out; omega
  cases bb with
  | true =>
    obtain ⟨hkl, hke⟩ := FF.out.yes rfl
    obtain ⟨g, rfl⟩ : ∃ g, p = some ⟨g, 0, none⟩ := by
      rcases HOW.out.2 with ⟨e1, e2⟩ | ⟨g, _, _, e1, _⟩
      · omega
      · injection e1 with e3 _ _
        exact ⟨g, e3⟩
    obtain ⟨cur, hcb, hcf, hco⟩ := own_set (I5.out.drew).own kk hkl e
    have HB : Hid (w5.drew.heap[g]? = some (.cells cur 36 (0, 0))) := hcb
    have HFit : Hid (kk * 7 + (enA e).size ≤ cur.size) := hcf
    have HO : Hid _ := hco
    have k1 : (0 : Int) ≤ (kk : Int) := by omega
    have k2 : (kk : Int) < (n : Int) := by have := HN.out; omega
    have k3 : ((kk : Int)).toNat = kk := by omega
    have v3 := (I5.out.drew).at_.c3
    have ve0 := (I5.out.drew).ebox 0 _ rfl
    have ve1 := (I5.out.drew).ebox 1 _ rfl
    have ve2 := (I5.out.drew).ebox 2 _ rfl
    have ve3 := (I5.out.drew).ebox 3 _ rfl
    have ve4 := (I5.out.drew).ebox 4 _ rfl
    have ve5 := (I5.out.drew).ebox 5 _ rfl
    have ve6 := (I5.out.drew).ebox 6 _ rfl
    clear hcb hcf hco
    go_wp2_with fail
    refine wp_region_held_drew (S := (fun w' : World => w'.cell? ⟨B, L.length + 3, none⟩ = some (.slice (some ⟨g, 0, none⟩) n q) ∧ w'.cell? ⟨w.heap.size, 0, none⟩ = some (.int .i64 e.slot) ∧ w'.cell? ⟨w.heap.size, 1, none⟩ = some (.int .i64 e.ballot) ∧ w'.cell? ⟨w.heap.size, 2, none⟩ = some (.int .i64 e.cmd.kind) ∧ w'.cell? ⟨w.heap.size, 3, none⟩ = some (.int .i64 e.cmd.session) ∧ w'.cell? ⟨w.heap.size, 4, none⟩ = some (.int .i64 e.cmd.seq) ∧ w'.cell? ⟨w.heap.size, 5, none⟩ = some (.string e.cmd.name) ∧ w'.cell? ⟨w.heap.size, 6, none⟩ = some (.int .i64 e.cmd.n))) (by kernel_rfl) ?_ (fun hHeld0 => ?_)
    · try dsimp only
      go_keep
    refine tk0 (.pointer (some ⟨B, L.length, none⟩)) (by kernel_rfl) (by kernel_rfl) (by kernel_rfl) (fun _ _ _ h => h) rfl (fun w hSw => by (try dsimp only at hSw); obtain ⟨s3, q0, q1, q2, q3, q4, q5, q6⟩ := hSw; go_simp) (by assumption) ?_
    try simp only [Act.put, List.setIfInBounds_toArray, List.set_cons_zero, List.set_cons_succ]
    refine tk1 (.pointer (some ⟨B, L.length, none⟩)) (by kernel_rfl) (by kernel_rfl) (by kernel_rfl) (fun _ _ _ h => h) rfl (fun w hSw => by (try dsimp only at hSw); obtain ⟨s3, q0, q1, q2, q3, q4, q5, q6⟩ := hSw; go_simp) (by assumption) ?_
    try simp only [Act.put, List.setIfInBounds_toArray, List.set_cons_zero, List.set_cons_succ]
    refine tk2 (.pointer (some ⟨B, L.length + 3, none⟩)) (by kernel_rfl) (by kernel_rfl) (by kernel_rfl) (fun _ _ _ h => h) rfl (fun w hSw => by (try dsimp only at hSw); obtain ⟨s3, q0, q1, q2, q3, q4, q5, q6⟩ := hSw; go_simp) (by assumption) ?_
    try simp only [Act.put, List.setIfInBounds_toArray, List.set_cons_zero, List.set_cons_succ]
    refine tk3 (.slice (some ⟨g, 0, none⟩) n q) (by kernel_rfl) (by kernel_rfl) (by kernel_rfl) (fun _ _ _ h => h) rfl (fun w hSw => by (try dsimp only at hSw); obtain ⟨s3, q0, q1, q2, q3, q4, q5, q6⟩ := hSw; go_simp) (by assumption) ?_
    try simp only [Act.put, List.setIfInBounds_toArray, List.set_cons_zero, List.set_cons_succ]
    refine tk4 (.int .i64 (kk : Int)) (by kernel_rfl) (by kernel_rfl) (by kernel_rfl) (fun _ _ _ h => h) rfl (fun w hSw => by (try dsimp only at hSw); obtain ⟨s3, q0, q1, q2, q3, q4, q5, q6⟩ := hSw; go_simp) (by assumption) ?_
    try simp only [Act.put, List.setIfInBounds_toArray, List.set_cons_zero, List.set_cons_succ]
    refine tk5 (.agg (enA e)) (by kernel_rfl) (by kernel_rfl) (by kernel_rfl) (fun _ _ _ h => h) rfl (fun w hSw => by (try dsimp only at hSw); obtain ⟨s3, q0, q1, q2, q3, q4, q5, q6⟩ := hSw; go_simp) (by assumption) ?_
    try simp only [Act.put, List.setIfInBounds_toArray, List.set_cons_zero, List.set_cons_succ]
    refine tk6 (.pointer (some ⟨g, kk * 7, none⟩)) (by kernel_rfl) (by kernel_rfl) (by kernel_rfl) (fun _ _ _ h => h) rfl (fun w hSw => by (try dsimp only at hSw); obtain ⟨s3, q0, q1, q2, q3, q4, q5, q6⟩ := hSw; go_simp) (by assumption) ?_
    try simp only [Act.put, List.setIfInBounds_toArray, List.set_cons_zero, List.set_cons_succ]
    refine cl7 (by kernel_rfl) rfl (fun K hK => ?_)
    refine wp_store_mid 36 _ _ rfl g (kk * 7) (enA e) rfl rfl 36 cur HB.out sizeEn HFit.out (by simp [Value.oneCell']) ?_
    obtain ⟨w6, hw6⟩ : ∃ w6, w6 = w5.drew.setRow g (cur.toList.take (kk * 7) ++ (enA e).toList ++ cur.toList.drop (kk * 7 + (enA e).size)).toArray := ⟨_, rfl⟩
    rw [← hw6]
    have i6 : PlI w w6 base B t L { d with es := d.es.set kk e } (.slice (some ⟨g, 0, none⟩) n q) e (some g) := by rw [hw6]; exact (I5.out.drew).turned HO.out hte (grown_setRow_g _ _ _)
    have I6 : Hid _ := i6
    have x3 := (i6).at_.c3
    have xe0 := (i6).ebox 0 _ rfl
    have xe1 := (i6).ebox 1 _ rfl
    have xe2 := (i6).ebox 2 _ rfl
    have xe3 := (i6).ebox 3 _ rfl
    have xe4 := (i6).ebox 4 _ rfl
    have xe5 := (i6).ebox 5 _ rfl
    have xe6 := (i6).ebox 6 _ rfl
    clear hw6 i6
    refine hK.out _ _ ?_ (fun hHeld => ?_)
    · try dsimp only
      go_keep
    clear hK K
    refine wpAnyH_done (by kernel_rfl) ?_ _
    go_wp2
    go_ret
    refine Or.inl ⟨.slice (some ⟨g, 0, none⟩) n q, rfl, Or.inl (put_there hkl FF.out.below hke).2, ?_, ?_, Or.inl rfl, I6.out.fr⟩
    · rw [(put_there hkl FF.out.below hke).1]
      exact I6.out.at_
    · rw [(put_there hkl FF.out.below hke).1]
      exact I6.out.own
  | false =>
    have h3 := I5.out.at_.c3
    by_cases hkl : kk = n
    · have qk : ((kk : Int) == (n : Int)) = true := by simp [hkl]
      have HAll : Hid (∀ y ∈ d.es, y.slot < e.slot) := fun y hy => FF.out.below y (by rw [hkl, HN.out, List.take_length]; exact hy)
      have v3 := (I5.out.drew).at_.c3
      have ve0 := (I5.out.drew).ebox 0 _ rfl
      have ve1 := (I5.out.drew).ebox 1 _ rfl
      have ve2 := (I5.out.drew).ebox 2 _ rfl
      have ve3 := (I5.out.drew).ebox 3 _ rfl
      have ve4 := (I5.out.drew).ebox 4 _ rfl
      have ve5 := (I5.out.drew).ebox 5 _ rfl
      have ve6 := (I5.out.drew).ebox 6 _ rfl
      go_wp2_with fail
      refine wp_region_held_drew (S := (fun w' : World => w'.cell? ⟨w.heap.size, 0, none⟩ = some (.int .i64 e.slot) ∧ w'.cell? ⟨w.heap.size, 1, none⟩ = some (.int .i64 e.ballot) ∧ w'.cell? ⟨w.heap.size, 2, none⟩ = some (.int .i64 e.cmd.kind) ∧ w'.cell? ⟨w.heap.size, 3, none⟩ = some (.int .i64 e.cmd.session) ∧ w'.cell? ⟨w.heap.size, 4, none⟩ = some (.int .i64 e.cmd.seq) ∧ w'.cell? ⟨w.heap.size, 5, none⟩ = some (.string e.cmd.name) ∧ w'.cell? ⟨w.heap.size, 6, none⟩ = some (.int .i64 e.cmd.n))) (by kernel_rfl) ?_ (fun hHeld0 => ?_)
      · try dsimp only
        go_keep
      refine tk0 (.pointer (some ⟨B, L.length, none⟩)) (by kernel_rfl) (by kernel_rfl) (by kernel_rfl) (fun _ _ _ h => h) rfl (fun w hSw => by (try dsimp only at hSw); obtain ⟨q0, q1, q2, q3, q4, q5, q6⟩ := hSw; go_simp) (by assumption) ?_
      try simp only [Act.put, List.setIfInBounds_toArray, List.set_cons_zero, List.set_cons_succ]
      refine tk1 (.pointer (some ⟨B, L.length, none⟩)) (by kernel_rfl) (by kernel_rfl) (by kernel_rfl) (fun _ _ _ h => h) rfl (fun w hSw => by (try dsimp only at hSw); obtain ⟨q0, q1, q2, q3, q4, q5, q6⟩ := hSw; go_simp) (by assumption) ?_
      try simp only [Act.put, List.setIfInBounds_toArray, List.set_cons_zero, List.set_cons_succ]
      refine tk2 (.pointer (some ⟨B, L.length, none⟩)) (by kernel_rfl) (by kernel_rfl) (by kernel_rfl) (fun _ _ _ h => h) rfl (fun w hSw => by (try dsimp only at hSw); obtain ⟨q0, q1, q2, q3, q4, q5, q6⟩ := hSw; go_simp) (by assumption) ?_
      try simp only [Act.put, List.setIfInBounds_toArray, List.set_cons_zero, List.set_cons_succ]
      refine tk3 (.pointer (some ⟨B, L.length + 3, none⟩)) (by kernel_rfl) (by kernel_rfl) (by kernel_rfl) (fun _ _ _ h => h) rfl (fun w hSw => by (try dsimp only at hSw); obtain ⟨q0, q1, q2, q3, q4, q5, q6⟩ := hSw; go_simp) (by assumption) ?_
      try simp only [Act.put, List.setIfInBounds_toArray, List.set_cons_zero, List.set_cons_succ]
      refine tk5 (.agg (enA e)) (by kernel_rfl) (by kernel_rfl) (by kernel_rfl) (fun _ _ _ h => h) rfl (fun w hSw => by (try dsimp only at hSw); obtain ⟨q0, q1, q2, q3, q4, q5, q6⟩ := hSw; go_simp) (by assumption) ?_
      try simp only [Act.put, List.setIfInBounds_toArray, List.set_cons_zero, List.set_cons_succ]
      refine rd4_6 (by kernel_rfl) rfl rfl (fun K hK => ?_) (fun K hK => ?_)
      · go_simp
        refine hK.out _ _ ?_ (fun hHeld => ?_)
        · try dsimp only
          go_keep
        clear hK K
        try simp only [Act.put, List.setIfInBounds_toArray, List.set_cons_zero, List.set_cons_succ]
        refine cl6 (by kernel_rfl) rfl (fun K hK => ?_)
        go_simp
        obtain ⟨w6, hw6⟩ : ∃ w6, w6 = (w5.alloc (.cells (enA e) 36)).drew := ⟨_, rfl⟩
        have i6 : PlI w w6 base B t L d (.slice p n q) e none := by rw [hw6]; exact (I5.out.fresh ((Below.refl _ _).alloc (Nat.le_refl _) _)).drew
        have r6 : RowAt enC w6 (.slice (some ⟨w5.heap.size, 0, none⟩) 1 1) [e] := by rw [hw6]; exact RowAt.built (w := (w5.alloc (.cells (enA e) 36)).drew) (heap_alloc_new w5 _) rfl 1 rfl rfl
        rw [← hw6]
        have I6 : Hid _ := i6
        have R6 : Hid _ := r6
        have x3 := (i6).at_.c3
        have xe0 := (i6).ebox 0 _ rfl
        have xe1 := (i6).ebox 1 _ rfl
        have xe2 := (i6).ebox 2 _ rfl
        have xe3 := (i6).ebox 3 _ rfl
        have xe4 := (i6).ebox 4 _ rfl
        have xe5 := (i6).ebox 5 _ rfl
        have xe6 := (i6).ebox 6 _ rfl
        clear i6 r6 hw6
        refine hK.out _ _ ?_ (fun hHeld => ?_)
        · try dsimp only
          go_keep
        clear hK K
        try simp only [Act.put, List.setIfInBounds_toArray, List.set_cons_zero, List.set_cons_succ]
        refine cl7 (by kernel_rfl) rfl (fun K hK => ?_)
        refine wp_app_row (k := 7) (enc := enC) (l := [e]) (.tmp 37) (.tmp 39) 22 36 rfl i0 _ 64 Try.underlying22 hi hz0 hz1 hz2 rfl (by decide) enC_len enC_one (base := base) rfl rfl I6.out.own R6.out (Nat.le_trans I6.out.bs I6.out.fr.size) (by simp; omega) (by simp; omega) ?_
        intro u7 w7 o7 a7
        obtain ⟨p7, n7, q7, rfl⟩ := own_form o7
        have i7 := I6.out.grown hte a7
        have I7 : Hid _ := i7
        have O7 : Hid (OwnEn w7 base (.slice p7 n7 q7) (d.es ++ [e])) := by show w7.ownsRow _ _ _ _ _ _; rw [rowL_append, List.length_append]; exact o7
        have L7 : Hid _ := a7.lies
        have S7 : Hid _ := I6.out.fr.size
        have f3 := i7.1.f3
        have z3 := i7.1.c3
        have ze0 := i7.2.1 0 _ rfl
        have ze1 := i7.2.1 1 _ rfl
        have ze2 := i7.2.1 2 _ rfl
        have ze3 := i7.2.1 3 _ rfl
        have ze4 := i7.2.1 4 _ rfl
        have ze5 := i7.2.1 5 _ rfl
        have ze6 := i7.2.1 6 _ rfl
        clear o7 a7 i7
        refine hK.out _ _ ?_ (fun hHeld => ?_)
        · try dsimp only
          go_keep
        clear hK K
        try simp only [Act.put, List.setIfInBounds_toArray, List.set_cons_zero, List.set_cons_succ]
        refine tk8 (.pointer (some ⟨B, L.length, none⟩)) (by kernel_rfl) (by kernel_rfl) (by kernel_rfl) (fun _ _ _ h => h) rfl (fun w hSw => by (try dsimp only at hSw); obtain ⟨q0, q1, q2, q3, q4, q5, q6⟩ := hSw; go_simp) (by assumption) ?_
        try simp only [Act.put, List.setIfInBounds_toArray, List.set_cons_zero, List.set_cons_succ]
        refine tk9 (.pointer (some ⟨B, L.length + 3, none⟩)) (by kernel_rfl) (by kernel_rfl) (by kernel_rfl) (fun _ _ _ h => h) rfl (fun w hSw => by (try dsimp only at hSw); obtain ⟨q0, q1, q2, q3, q4, q5, q6⟩ := hSw; go_simp) (by assumption) ?_
        try simp only [Act.put, List.setIfInBounds_toArray, List.set_cons_zero, List.set_cons_succ]
        refine cl10 (by kernel_rfl) rfl (fun K hK => ?_)
        go_simp
        obtain ⟨w8, hw8⟩ : ∃ w8, w8 = w7.setCell ⟨B, L.length + 3, none⟩ (.slice p7 n7 q7) := ⟨_, rfl⟩
        have d8 : DxAt w8 B t L { d with es := d.es ++ [e] } (.slice p7 n7 q7) := by rw [hw8]; exact I7.out.1.set3 _ _
        have O8 : Hid (OwnEn w8 base (.slice p7 n7 q7) (d.es ++ [e])) := by rw [hw8]; exact own_keep O7.out (fun g he => heap_setCell_other _ _ _ _ (fun e2 => own_ne O7.out I7.out.1 hte (by rw [he, e2])))
        have F8 : Hid (Fr w w8 B (Value.slice p n q).ownBlock) := by rw [hw8]; exact I7.out.2.2.trans (Fr.set _ _)
        have ke0 := box_set (i := L.length + 3) hBX I7.out.2.1 (.slice p7 n7 q7) 0 _ rfl
        have ke1 := box_set (i := L.length + 3) hBX I7.out.2.1 (.slice p7 n7 q7) 1 _ rfl
        have ke2 := box_set (i := L.length + 3) hBX I7.out.2.1 (.slice p7 n7 q7) 2 _ rfl
        have ke3 := box_set (i := L.length + 3) hBX I7.out.2.1 (.slice p7 n7 q7) 3 _ rfl
        have ke4 := box_set (i := L.length + 3) hBX I7.out.2.1 (.slice p7 n7 q7) 4 _ rfl
        have ke5 := box_set (i := L.length + 3) hBX I7.out.2.1 (.slice p7 n7 q7) 5 _ rfl
        have ke6 := box_set (i := L.length + 3) hBX I7.out.2.1 (.slice p7 n7 q7) 6 _ rfl
        rw [← hw8] at ke0 ke1 ke2 ke3 ke4 ke5 ke6
        rw [← hw8]
        have D8 : Hid _ := d8
        clear d8 hw8
        refine hK.out _ _ ?_ (fun hHeld => ?_)
        · try dsimp only
          go_keep
        clear hK K
        try simp only [Act.put, List.setIfInBounds_toArray, List.set_cons_zero, List.set_cons_succ]
        refine wpAnyH_done (by kernel_rfl) ?_ _
        go_wp2
        go_ret
        refine Or.inl ⟨.slice p7 n7 q7, rfl, Or.inr HAll.out, ?_, ?_, ?_, F8.out⟩
        · rw [putE_last _ _ HAll.out]
          exact D8.out
        · rw [putE_last _ _ HAll.out]
          exact O8.out
        · rcases L7.out with h | h
          · exact Or.inl h
          · refine Or.inr fun g hg => ?_
            rw [h] at hg
            have := Option.some.inj hg
            have := S7.out
            omega
      · go_simp
        obtain ⟨w6, hw6⟩ : ∃ w6, w6 = (w5.alloc (.cells (enA e) 36)).drew := ⟨_, rfl⟩
        have i6 : PlI w w6 base B t L d (.slice p n q) e none := by rw [hw6]; exact (I5.out.fresh ((Below.refl _ _).alloc (Nat.le_refl _) _)).drew
        have r6 : RowAt enC w6 (.slice (some ⟨w5.heap.size, 0, none⟩) 1 1) [e] := by rw [hw6]; exact RowAt.built (w := (w5.alloc (.cells (enA e) 36)).drew) (heap_alloc_new w5 _) rfl 1 rfl rfl
        rw [← hw6]
        have I6 : Hid _ := i6
        have R6 : Hid _ := r6
        have x3 := (i6).at_.c3
        have xe0 := (i6).ebox 0 _ rfl
        have xe1 := (i6).ebox 1 _ rfl
        have xe2 := (i6).ebox 2 _ rfl
        have xe3 := (i6).ebox 3 _ rfl
        have xe4 := (i6).ebox 4 _ rfl
        have xe5 := (i6).ebox 5 _ rfl
        have xe6 := (i6).ebox 6 _ rfl
        clear i6 r6 hw6
        refine hK.out _ _ ?_ (fun hHeld => ?_)
        · try dsimp only
          go_keep
        clear hK K
        try simp only [Act.put, List.setIfInBounds_toArray, List.set_cons_zero, List.set_cons_succ]
        refine cl4 (by kernel_rfl) rfl (fun K hK => ?_)
        go_simp
        refine hK.out _ _ ?_ (fun hHeld => ?_)
        · try dsimp only
          go_keep
        clear hK K
        try simp only [Act.put, List.setIfInBounds_toArray, List.set_cons_zero, List.set_cons_succ]
        refine cl7 (by kernel_rfl) rfl (fun K hK => ?_)
        refine wp_app_row (k := 7) (enc := enC) (l := [e]) (.tmp 37) (.tmp 39) 22 36 rfl i0 _ 64 Try.underlying22 hi hz0 hz1 hz2 rfl (by decide) enC_len enC_one (base := base) rfl rfl I6.out.own R6.out (Nat.le_trans I6.out.bs I6.out.fr.size) (by simp; omega) (by simp; omega) ?_
        intro u7 w7 o7 a7
        obtain ⟨p7, n7, q7, rfl⟩ := own_form o7
        have i7 := I6.out.grown hte a7
        have I7 : Hid _ := i7
        have O7 : Hid (OwnEn w7 base (.slice p7 n7 q7) (d.es ++ [e])) := by show w7.ownsRow _ _ _ _ _ _; rw [rowL_append, List.length_append]; exact o7
        have L7 : Hid _ := a7.lies
        have S7 : Hid _ := I6.out.fr.size
        have f3 := i7.1.f3
        have z3 := i7.1.c3
        have ze0 := i7.2.1 0 _ rfl
        have ze1 := i7.2.1 1 _ rfl
        have ze2 := i7.2.1 2 _ rfl
        have ze3 := i7.2.1 3 _ rfl
        have ze4 := i7.2.1 4 _ rfl
        have ze5 := i7.2.1 5 _ rfl
        have ze6 := i7.2.1 6 _ rfl
        clear o7 a7 i7
        refine hK.out _ _ ?_ (fun hHeld => ?_)
        · try dsimp only
          go_keep
        clear hK K
        try simp only [Act.put, List.setIfInBounds_toArray, List.set_cons_zero, List.set_cons_succ]
        refine tk8 (.pointer (some ⟨B, L.length, none⟩)) (by kernel_rfl) (by kernel_rfl) (by kernel_rfl) (fun _ _ _ h => h) rfl (fun w hSw => by (try dsimp only at hSw); obtain ⟨q0, q1, q2, q3, q4, q5, q6⟩ := hSw; go_simp) (by assumption) ?_
        try simp only [Act.put, List.setIfInBounds_toArray, List.set_cons_zero, List.set_cons_succ]
        refine tk9 (.pointer (some ⟨B, L.length + 3, none⟩)) (by kernel_rfl) (by kernel_rfl) (by kernel_rfl) (fun _ _ _ h => h) rfl (fun w hSw => by (try dsimp only at hSw); obtain ⟨q0, q1, q2, q3, q4, q5, q6⟩ := hSw; go_simp) (by assumption) ?_
        try simp only [Act.put, List.setIfInBounds_toArray, List.set_cons_zero, List.set_cons_succ]
        refine cl10 (by kernel_rfl) rfl (fun K hK => ?_)
        go_simp
        obtain ⟨w8, hw8⟩ : ∃ w8, w8 = w7.setCell ⟨B, L.length + 3, none⟩ (.slice p7 n7 q7) := ⟨_, rfl⟩
        have d8 : DxAt w8 B t L { d with es := d.es ++ [e] } (.slice p7 n7 q7) := by rw [hw8]; exact I7.out.1.set3 _ _
        have O8 : Hid (OwnEn w8 base (.slice p7 n7 q7) (d.es ++ [e])) := by rw [hw8]; exact own_keep O7.out (fun g he => heap_setCell_other _ _ _ _ (fun e2 => own_ne O7.out I7.out.1 hte (by rw [he, e2])))
        have F8 : Hid (Fr w w8 B (Value.slice p n q).ownBlock) := by rw [hw8]; exact I7.out.2.2.trans (Fr.set _ _)
        have ke0 := box_set (i := L.length + 3) hBX I7.out.2.1 (.slice p7 n7 q7) 0 _ rfl
        have ke1 := box_set (i := L.length + 3) hBX I7.out.2.1 (.slice p7 n7 q7) 1 _ rfl
        have ke2 := box_set (i := L.length + 3) hBX I7.out.2.1 (.slice p7 n7 q7) 2 _ rfl
        have ke3 := box_set (i := L.length + 3) hBX I7.out.2.1 (.slice p7 n7 q7) 3 _ rfl
        have ke4 := box_set (i := L.length + 3) hBX I7.out.2.1 (.slice p7 n7 q7) 4 _ rfl
        have ke5 := box_set (i := L.length + 3) hBX I7.out.2.1 (.slice p7 n7 q7) 5 _ rfl
        have ke6 := box_set (i := L.length + 3) hBX I7.out.2.1 (.slice p7 n7 q7) 6 _ rfl
        rw [← hw8] at ke0 ke1 ke2 ke3 ke4 ke5 ke6
        rw [← hw8]
        have D8 : Hid _ := d8
        clear d8 hw8
        refine hK.out _ _ ?_ (fun hHeld => ?_)
        · try dsimp only
          go_keep
        clear hK K
        try simp only [Act.put, List.setIfInBounds_toArray, List.set_cons_zero, List.set_cons_succ]
        refine wpAnyH_done (by kernel_rfl) ?_ _
        go_wp2
        go_ret
        refine Or.inl ⟨.slice p7 n7 q7, rfl, Or.inr HAll.out, ?_, ?_, ?_, F8.out⟩
        · rw [putE_last _ _ HAll.out]
          exact D8.out
        · rw [putE_last _ _ HAll.out]
          exact O8.out
        · rcases L7.out with h | h
          · exact Or.inl h
          · refine Or.inr fun g hg => ?_
            rw [h] at hg
            have := Option.some.inj hg
            have := S7.out
            omega
    · have qk : ((kk : Int) == (n : Int)) = false := by simp; omega
      have hk2 : kk < d.es.length := by have := FF.out.le; have := HN.out; omega
      go_wp2
      go_ret
      have hb := put_between hk2 FF.out.below FF.out.above HU.out (FF.out.no rfl hk2)
      exact Or.inr ⟨rfl, hb.1, hb.2, B5.out⟩
end Go.Proofs.Ytkngpfngfmbmjaa
