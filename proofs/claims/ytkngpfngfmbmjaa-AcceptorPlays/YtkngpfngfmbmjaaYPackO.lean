/-
  Parts of the proof, laid together: DuRefA, DuRefB, DuRefC, DuRefD. The conditions stand at each part.
-/
import Derived.Deep.QuietTactic
import Derived.BigQuiet
import Derived.Lib.MinMax
import Derived.RegionTactic
import Derived.ChangeAlike
import Derived.Test.YtkngpfngfmbmjaaYPackD
import Derived.Test.YtkngpfngfmbmjaaYPackI
import Derived.Test.YtkngpfngfmbmjaaYPack5
/-
  The document's state (package latchkeyref13): copied, an entry put among those that rise. The condition: at most 2^40 entries.
-/
namespace Go.Proofs.Ytkngpfngfmbmjaa
open Go.RowKit

set_option maxHeartbeats 1600000 in
set_option maxRecDepth 100000 in
theorem rcopy_any (w : World) (d : Du) (v : Value) (hv : RowAt enC w v d.es) (hl : d.es.length ≤ 1099511627776) :
    Calls Try.prog 41 #[.agg (duA d v)] w fun e w' => ∃ v', e = .returned (.agg (duA d v')) ∧ OwnEn w' w.heap.size v' d.es ∧ Below w.heap.size w w' := by
  obtain ⟨a0, cap0, rfl⟩ := hv.form
  obtain ⟨i0, hi, hz0, hz1, hz2⟩ := info_parts infoEn
  have b1 : Below w.heap.size w ((w.alloc (.cells (duA d (.slice a0 d.es.length cap0)) 24)).alloc (.cells #[.int .i64 0, .int .i64 0, .string ⟨#[]⟩, .slice none 0 0] 24)) := ((Below.refl _ w).alloc (Nat.le_refl _) _).alloc (by simp) _
  have h2 := two_blocks w (.cells (duA d (.slice a0 d.es.length cap0)) 24) (.cells #[.int .i64 0, .int .i64 0, .string ⟨#[]⟩, .slice none 0 0] 24)
  have hD := h2.1.trans (heap_alloc_new w _)
  have hR := h2.2.trans (heap_alloc_new _ _)
  have hs2 : ((w.alloc (.cells (duA d (.slice a0 d.es.length cap0)) 24)).alloc (.cells #[.int .i64 0, .int .i64 0, .string ⟨#[]⟩, .slice none 0 0] 24)).heap.size = w.heap.size + 2 := by simp
  have HV : Hid (RowAt enC _ (.slice a0 d.es.length cap0) d.es) := hv.fresh b1
  have HD : Hid (DuAt _ w.heap.size d (.slice a0 d.es.length cap0)) := hD
  have HR : Hid _ := hR
  have B1 : Hid _ := b1
  have HS : Hid _ := hs2
  clear hv hD hR h2 b1 hs2
  go_enter Try.func41, Try.ntmps41
  go_wp2_with (first
    | (show wpList _ _ _ (⟨_, Op.store 24 _ _, _, _, _, _⟩ :: _) _ _; refine store_row_g rfl 24 _ _ rfl (w.heap.size + 1) (duA d (.slice p4 n4 q4)) rfl rfl 24 _ R5.out sizeDu rfl (by simp [Value.oneCell']) ?_; intro w6 h6 g6)
    | (show wpList _ _ _ (⟨_, Op.load 24 _, _, _, _, _⟩ :: _) _ _; refine load_row_g rfl 24 _ rfl w.heap.size rfl 24 (duA d (.slice p4 n4 q4)) (0, 0) _ D5.out Try.underlying24 rfl sizeDu ?_)
    | (at_builtin; refine wpList_app_row (k := 7) (enc := enC) (l := d.es) rfl (.const (.slice none 0 0)) (.tmp 4) 22 36 rfl i0 _ 64 Try.underlying22 hi hz0 hz1 hz2 rfl (by decide) enC_len enC_one (base := w.heap.size + 2) (n := 0) (xs := []) rfl rfl (World.ownsRow_nil _ _ _ _) HV.out (by rw [HS.out]; exact Nat.le_refl _) (by omega) (by omega) ?_; intro u4 w4 o4 a4; obtain ⟨p4, n4, q4, rfl⟩ := own_form o4; have D4 : DuAt w4 w.heap.size d _ := (a4.below.block w.heap.size (by omega)).trans HD.out; have R4 := (a4.below.block (w.heap.size + 1) (by omega)).trans HR.out; have f4 := D4.f3; have z3 := D4.c3; have D5 : Hid (DuAt (w4.setCell ⟨w.heap.size, 3, none⟩ (.slice p4 n4 q4)) w.heap.size d (.slice p4 n4 q4)) := D4.set3 d.es _; have R5 : Hid ((w4.setCell ⟨w.heap.size, 3, none⟩ (.slice p4 n4 q4)).heap[w.heap.size + 1]? = _) := (heap_setCell_other _ _ _ _ (by simp)).trans R4; have O5 : Hid (OwnEn (w4.setCell ⟨w.heap.size, 3, none⟩ (.slice p4 n4 q4)) (w.heap.size + 2) (.slice p4 n4 q4) d.es) := ownsRow_setCell_below (by simpa using o4) (by show w.heap.size < w.heap.size + 2; omega) _; have B5 : Hid (Below w.heap.size w (w4.setCell ⟨w.heap.size, 3, none⟩ (.slice p4 n4 q4))) := (B1.out.trans (a4.below.mono (by omega))).setCell (p := ⟨w.heap.size, 3, none⟩) (Nat.le_refl _) _; clear o4 a4 D4 R4))
  refine bodyPost_ret (results_cell_row Try.results41 _ _ (w.heap.size + 1) 24 _ (0, 0) _ rfl h6 Try.underlying24 rfl sizeDu) rfl ?_
  refine ⟨_, rfl, own_mono (own_keep O5.out (fun g e => g6.block g (O5.out.lt g e).2 (fun e2 => ?_))) (by omega), B5.out.grown g6 B5.out.size (fun k hk => by have := Option.some.inj hk; omega)⟩
  have := (O5.out.lt g e).1
  have := Option.some.inj e2
  omega
end Go.Proofs.Ytkngpfngfmbmjaa
/-
  The document's state (package latchkeyref13): an entry put among those that rise. The condition: at most 2^30 entries.
-/
namespace Go.Proofs.Ytkngpfngfmbmjaa
open Go.RowKit

section
variable {α : Type} {enc : α → List Value} {w : World} {v : Value} {l : List α}
/-- A row from a place on. -/
theorem RowAt.from {k : Nat} (h : RowAt enc w v l) (T E : TypeId) (i0 : TypeInfo) (hu : Try.prog.underlying T = some (.slice E)) (he : Try.prog.elem T = E) (hi : Try.prog.info? E = some i0) (hz1 : i0.size = k) (hk : ∀ x, (enc x).length = k) (n : Nat) (hn : n ≤ l.length) :
    ∃ u, (∀ w', (Instr.sliceAt T v (some (.int .i64 (n : Int))) none none).run Try.prog w' = .ok u w') ∧ RowAt enc w u (l.drop n) := by
  obtain ⟨u, h1, h2⟩ := OwnRow.from (S := fun _ => True) (D := w.heap.size) ⟨h, fun bk off n cap h0 e => ⟨trivial, by have := h.lt h0 e; omega⟩⟩ T E i0 hu he hi hz1 hk n hn
  exact ⟨u, h1, h2.at'⟩
end
/-- Behind k rounds: the first k entries in a row of one's own. -/
structure PutI (w wr : World) (k : Nat) (u : Value) (es : List En) (e : En) : Prop where
  own : OwnEn wr (w.heap.size + 1) u (es.take k)
  box : wr.heap[w.heap.size]? = some (.cells (enA e) 36 (0, 0))
  bel : Below w.heap.size w wr
  sz : w.heap.size + 1 ≤ wr.heap.size
  lt : ∀ x ∈ es.take k, x.slot < e.slot
theorem PutI.drewN {w wr : World} {k : Nat} {u : Value} {es : List En} {e : En} (h : PutI w wr k u es e) (n : Nat) : PutI w (wr.drewN n) k u es e :=
  ⟨own_keep h.own (fun _ _ => rfl), h.box, below_drewN h.bel n, h.sz, h.lt⟩
theorem PutI.step {w wr w' : World} {k : Nat} {u u' : Value} {es : List En} {e x : En} (h : PutI w wr k u es e) (hx : es[k]? = some x) (hlt : x.slot < e.slot) (ho : w'.ownsRow (w.heap.size + 1) 36 7 u' ((es.take k).length + 1) (rowL enC (es.take k) ++ rowL enC [x])) (b : Below (w.heap.size + 1) wr w') : PutI w w' (k + 1) u' es e := by
  have e1 : es.take (k + 1) = es.take k ++ [x] := by rw [List.take_add_one, hx]; rfl
  refine ⟨?_, (b.block _ (by omega)).trans h.box, h.bel.trans (b.mono (by omega)), Nat.le_trans h.sz b.size, fun y hy => ?_⟩
  · show w'.ownsRow _ _ _ _ _ _
    rw [e1, rowL_append, List.length_append]
    exact ho
  · rw [e1, List.mem_append] at hy
    rcases hy with hy | hy
    · exact h.lt y hy
    · rw [List.mem_singleton] at hy
      rw [hy]
      exact hlt
/-- From where on the elder entries follow: k, or k + 1 where one of that slot is there. -/
def PutM (es : List En) (e : En) (k m : Nat) : Prop := (m = k ∧ ∀ x, es[k]? = some x → ¬ x.slot = e.slot) ∨ (m = k + 1 ∧ ∃ x, es[k]? = some x ∧ x.slot = e.slot)
theorem putE_own {w w' : World} {u : Value} {es : List En} {e : En} {k m : Nat} (hk : k ≤ es.length) (hlt : ∀ x ∈ es.take k, x.slot < e.slot) (hn : ∀ x, es[k]? = some x → e.slot ≤ x.slot) (hm : PutM es e k m)
    (ho : w'.ownsRow (w.heap.size + 1) 36 7 u ((es.take k).length + 1 + (es.drop m).length) ((rowL enC (es.take k) ++ rowL enC [e]) ++ rowL enC (es.drop m))) : OwnEn w' w.heap.size u (putE es e) := by
  show w'.ownsRow _ _ _ _ _ _
  rw [putE_at es e k hk hlt (fun x hx => by have := hn x hx; omega) m hm, rowL_append, rowL_append, List.length_append, List.length_append]
  exact own_mono ho (by omega)
set_option maxHeartbeats 3200000 in
set_option maxRecDepth 100000 in
theorem rput_any (w : World) (v : Value) (es : List En) (e : En) (hv : RowAt enC w v es) (hl : es.length ≤ 1073741824) :
    Calls Try.prog 42 #[v, .agg (enA e)] w fun x w' => ∃ v', x = .returned v' ∧ OwnEn w' w.heap.size v' (putE es e) ∧ Below w.heap.size w w' := by
  obtain ⟨a0, cap0, rfl⟩ := hv.form
  obtain ⟨i0, hi, hz0, hz1, hz2⟩ := info_parts infoEn
  have hI : PutI w (w.alloc (.cells (enA e) 36)) 0 (.slice none 0 0) es e := ⟨World.ownsRow_nil _ _ _ _, heap_alloc_new w _, (Below.refl _ w).alloc (Nat.le_refl _) _, by simp, fun x hx => by simp at hx⟩
  go_enter Try.func42, Try.ntmps42
  go_wp2
  go_loopw [5, 6] (fun u i wr => ∃ (k : Nat), k ≤ es.length ∧ i = .int .i64 (k : Int) ∧ PutI w wr k u es e) (fun _ i _ => es.length - (intOf i).toNat)
  case atStart => exact ⟨0, Nat.zero_le _, rfl, hI⟩
  case round =>
    obtain ⟨k, hk, rfl, hP⟩ := hrel
    clear hI
    by_cases hkl : k < es.length
    · have q0 : decide ((k : Int) < (es.length : Int)) = true := decide_eq_true (by omega)
      obtain ⟨bk, off, cap', hvv, hcap, hbk, hc⟩ := (hv.fresh hP.bel).cells enC_len (by omega)
      injection hvv with e1 e2 e3
      subst e1 e3
      obtain ⟨x, hx⟩ : ∃ x, x = es[k] := ⟨_, rfl⟩
      have hx0 : es[k]? = some x := by rw [List.getElem?_eq_getElem hkl, hx]
      have z0 := hc k hkl 0 (.int .i64 x.slot) (by decide) (by rw [hx]; rfl)
      have z1 := hc k hkl 1 (.int .i64 x.ballot) (by decide) (by rw [hx]; rfl)
      have z2 := hc k hkl 2 (.int .i64 x.cmd.kind) (by decide) (by rw [hx]; rfl)
      have z3 := hc k hkl 3 (.int .i64 x.cmd.session) (by decide) (by rw [hx]; rfl)
      have z4 := hc k hkl 4 (.int .i64 x.cmd.seq) (by decide) (by rw [hx]; rfl)
      have z5 := hc k hkl 5 (.string x.cmd.name) (by decide) (by rw [hx]; rfl)
      have z6 := hc k hkl 6 (.int .i64 x.cmd.n) (by decide) (by rw [hx]; rfl)
      rw [Nat.add_zero] at z0
      have y0 : wr.cell? ⟨w.heap.size, 0, none⟩ = some (.int .i64 e.slot) := by simp [World.cell?, hP.box]
      obtain ⟨p5, n5, q5, rfl⟩ := own_form hP.own
      have hbw : bk < w.heap.size := (hv.lt (bk := bk) (off := off) (n := es.length) (cap := cap0) (by omega) rfl)
      clear hx hc
      by_cases hlt : x.slot < e.slot
      · have q1 : decide (x.slot < e.slot) = true := decide_eq_true hlt
        have HP : Hid _ := hP
        have HX : Hid _ := hx0
        clear hP hx0
        go_wp2
        go_quiet (fail)
        go_wp2_with (at_builtin; refine wpList_app_row (k := 7) (enc := enC) (l := [x]) rfl (.tmp 21) (.tmp 26) 22 36 rfl i0 _ 64 Try.underlying22 hi hz0 hz1 hz2 rfl (by decide) enC_len enC_one (base := w.heap.size + 1) rfl rfl ((HP.out.drewN _).own.alloc _) (RowAt.built (heap_alloc_new _ _) rfl 1 rfl rfl) (by simp; have := HP.out.sz; omega) (by simp; omega) (by simp; omega) ?_; intro u6 w6 o6 a6; obtain ⟨p6, n6, q6, rfl⟩ := own_form o6; have I6 : Hid (PutI w w6 (k + 1) _ es e) := (HP.out.step HX.out hlt o6 ((below_drewN ((Below.refl _ wr)) _ |>.alloc HP.out.sz _).trans a6.below)); clear o6 a6)
        go_roundw
        case rel => exact ⟨k + 1, hkl, by go_num, I6.out⟩
        case measure => simp [intOf]; omega
      · have q1 : decide (x.slot < e.slot) = false := decide_eq_false hlt
        by_cases heq : x.slot = e.slot
        · obtain ⟨us, hsl, hrow⟩ := hv.from 22 36 i0 Try.underlying22 (by kernel_rfl) hi hz1 enC_len (k + 1) (by omega)
          rw [show ((k + 1 : Nat) : Int) = (k : Int) + 1 by omega] at hsl
          have HW : Hid _ := hrow
          have HE : Hid (∀ x, es[k]? = some x → e.slot ≤ x.slot) := fun y hy => by rw [hx0] at hy; rw [← Option.some.inj hy]; omega
          have HM : Hid (PutM es e k (k + 1)) := Or.inr ⟨rfl, x, hx0, heq⟩
          have qe : (x.slot == e.slot) = true := by simpa using heq
          have ZC : Hid (∀ w1, Below (w.heap.size + 1) wr w1 → w1.cell? ⟨bk, off + k * 7, none⟩ = some (.int .i64 x.slot)) := fun w1 b => (b.cell (p := ⟨bk, off + k * 7, none⟩) (by exact Nat.lt_succ_of_lt hbw)).trans z0
          have HP : Hid _ := hP
          have y1 : wr.cell? ⟨w.heap.size, 1, none⟩ = some (.int .i64 e.ballot) := by simp [World.cell?, hP.box]
          have y2 : wr.cell? ⟨w.heap.size, 2, none⟩ = some (.int .i64 e.cmd.kind) := by simp [World.cell?, hP.box]
          have y3 : wr.cell? ⟨w.heap.size, 3, none⟩ = some (.int .i64 e.cmd.session) := by simp [World.cell?, hP.box]
          have y4 : wr.cell? ⟨w.heap.size, 4, none⟩ = some (.int .i64 e.cmd.seq) := by simp [World.cell?, hP.box]
          have y5 : wr.cell? ⟨w.heap.size, 5, none⟩ = some (.string e.cmd.name) := by simp [World.cell?, hP.box]
          have y6 : wr.cell? ⟨w.heap.size, 6, none⟩ = some (.int .i64 e.cmd.n) := by simp [World.cell?, hP.box]
          clear hrow hP hv hx0 z1 z2 z3 z4 z5 z6 heq
          go_wp2
          go_quiet (fail)
          go_wp2_with (at_builtin; refine wpList_app_row (k := 7) (enc := enC) (l := [e]) rfl (.tmp 30) (.tmp 32) 22 36 rfl i0 _ 64 Try.underlying22 hi hz0 hz1 hz2 rfl (by decide) enC_len enC_one (base := w.heap.size + 1) rfl rfl ((HP.out.drewN _).own.alloc _) (RowAt.built (heap_alloc_new _ _) rfl 1 rfl rfl) (by simp; have := HP.out.sz; omega) (by simp; omega) (by simp; omega) ?_; intro u6 w6 o6 a6; obtain ⟨p6, n6, q6, rfl⟩ := own_form o6; have b6 : Below (w.heap.size + 1) wr w6 := (below_drewN (Below.refl _ wr) _ |>.alloc HP.out.sz _).trans a6.below; have O6 : Hid _ := o6; have W6 : Hid _ := HW.out.fresh (HP.out.bel.trans (b6.mono (by omega))); have y6' : w6.cell? ⟨w.heap.size, 0, none⟩ = some (.int .i64 e.slot) := (by simp [World.cell?, (b6.block w.heap.size (by omega)).trans HP.out.box]); have z6' := ZC.out w6 b6; clear o6 a6)
          go_quiet (fail)
          go_wp2_with (at_builtin; refine wpList_app_row (k := 7) (enc := enC) (l := es.drop (k + 1)) rfl (.tmp 50) (.tmp 53) 22 36 rfl i0 _ 64 Try.underlying22 hi hz0 hz1 hz2 rfl (by decide) enC_len enC_one (base := w.heap.size + 1) rfl rfl (own_keep O6.out (fun _ _ => rfl)) (W6.out.fresh (below_drewN (Below.refl _ _) _)) (by have := HP.out.sz; have := b6.size; simp; omega) (by simp; omega) (by simp; omega) ?_; intro u9 w9 o9 a9; obtain ⟨p9, n9, q9, rfl⟩ := own_form o9; have b9 : Below (w.heap.size + 1) wr w9 := (below_drewN b6 _).trans a9.below; have O9 : Hid _ := o9; clear o9 a9)
          go_ret
          exact ⟨_, rfl, putE_own hk HP.out.lt HE.out HM.out O9.out, HP.out.bel.trans (b9.mono (by omega))⟩
        · obtain ⟨us, hsl, hrow⟩ := hv.from 22 36 i0 Try.underlying22 (by kernel_rfl) hi hz1 enC_len (k) (by omega)
          have HW : Hid _ := hrow
          have HE : Hid (∀ x, es[k]? = some x → e.slot ≤ x.slot) := fun y hy => by rw [hx0] at hy; rw [← Option.some.inj hy]; omega
          have HM : Hid (PutM es e k k) := Or.inl ⟨rfl, fun y hy => by rw [hx0] at hy; rw [← Option.some.inj hy]; exact heq⟩
          have qe : (x.slot == e.slot) = false := by simpa using heq
          have ZC : Hid (∀ w1, Below (w.heap.size + 1) wr w1 → w1.cell? ⟨bk, off + k * 7, none⟩ = some (.int .i64 x.slot)) := fun w1 b => (b.cell (p := ⟨bk, off + k * 7, none⟩) (by exact Nat.lt_succ_of_lt hbw)).trans z0
          have HP : Hid _ := hP
          have y1 : wr.cell? ⟨w.heap.size, 1, none⟩ = some (.int .i64 e.ballot) := by simp [World.cell?, hP.box]
          have y2 : wr.cell? ⟨w.heap.size, 2, none⟩ = some (.int .i64 e.cmd.kind) := by simp [World.cell?, hP.box]
          have y3 : wr.cell? ⟨w.heap.size, 3, none⟩ = some (.int .i64 e.cmd.session) := by simp [World.cell?, hP.box]
          have y4 : wr.cell? ⟨w.heap.size, 4, none⟩ = some (.int .i64 e.cmd.seq) := by simp [World.cell?, hP.box]
          have y5 : wr.cell? ⟨w.heap.size, 5, none⟩ = some (.string e.cmd.name) := by simp [World.cell?, hP.box]
          have y6 : wr.cell? ⟨w.heap.size, 6, none⟩ = some (.int .i64 e.cmd.n) := by simp [World.cell?, hP.box]
          clear hrow hP hv hx0 z1 z2 z3 z4 z5 z6 heq
          go_wp2
          go_quiet (fail)
          go_wp2_with (at_builtin; refine wpList_app_row (k := 7) (enc := enC) (l := [e]) rfl (.tmp 30) (.tmp 32) 22 36 rfl i0 _ 64 Try.underlying22 hi hz0 hz1 hz2 rfl (by decide) enC_len enC_one (base := w.heap.size + 1) rfl rfl ((HP.out.drewN _).own.alloc _) (RowAt.built (heap_alloc_new _ _) rfl 1 rfl rfl) (by simp; have := HP.out.sz; omega) (by simp; omega) (by simp; omega) ?_; intro u6 w6 o6 a6; obtain ⟨p6, n6, q6, rfl⟩ := own_form o6; have b6 : Below (w.heap.size + 1) wr w6 := (below_drewN (Below.refl _ wr) _ |>.alloc HP.out.sz _).trans a6.below; have O6 : Hid _ := o6; have W6 : Hid _ := HW.out.fresh (HP.out.bel.trans (b6.mono (by omega))); have y6' : w6.cell? ⟨w.heap.size, 0, none⟩ = some (.int .i64 e.slot) := (by simp [World.cell?, (b6.block w.heap.size (by omega)).trans HP.out.box]); have z6' := ZC.out w6 b6; clear o6 a6)
          go_quiet (fail)
          go_wp2_with (at_builtin; refine wpList_app_row (k := 7) (enc := enC) (l := es.drop (k)) rfl (.tmp 50) (.tmp 53) 22 36 rfl i0 _ 64 Try.underlying22 hi hz0 hz1 hz2 rfl (by decide) enC_len enC_one (base := w.heap.size + 1) rfl rfl (own_keep O6.out (fun _ _ => rfl)) (W6.out.fresh (below_drewN (Below.refl _ _) _)) (by have := HP.out.sz; have := b6.size; simp; omega) (by simp; omega) (by simp; omega) ?_; intro u9 w9 o9 a9; obtain ⟨p9, n9, q9, rfl⟩ := own_form o9; have b9 : Below (w.heap.size + 1) wr w9 := (below_drewN b6 _).trans a9.below; have O9 : Hid _ := o9; clear o9 a9)
          go_ret
          exact ⟨_, rfl, putE_own hk HP.out.lt HE.out HM.out O9.out, HP.out.bel.trans (b9.mono (by omega))⟩
    · have q0 : decide ((k : Int) < (es.length : Int)) = false := decide_eq_false (by omega)
      obtain ⟨p5, n5, q5, rfl⟩ := own_form hP.own
      obtain ⟨us, hsl, hrow⟩ := hv.from 22 36 i0 Try.underlying22 (by kernel_rfl) hi hz1 enC_len (k) (by omega)
      have HW : Hid _ := hrow
      have HE : Hid (∀ x, es[k]? = some x → e.slot ≤ x.slot) := fun x hx => by rw [List.getElem?_eq_none (by omega)] at hx; cases hx
      have HM : Hid (PutM es e k k) := Or.inl ⟨rfl, fun x hx => by rw [List.getElem?_eq_none (by omega)] at hx; cases hx⟩
      have HP : Hid _ := hP
      have y0 : wr.cell? ⟨w.heap.size, 0, none⟩ = some (.int .i64 e.slot) := by simp [World.cell?, hP.box]
      have y1 : wr.cell? ⟨w.heap.size, 1, none⟩ = some (.int .i64 e.ballot) := by simp [World.cell?, hP.box]
      have y2 : wr.cell? ⟨w.heap.size, 2, none⟩ = some (.int .i64 e.cmd.kind) := by simp [World.cell?, hP.box]
      have y3 : wr.cell? ⟨w.heap.size, 3, none⟩ = some (.int .i64 e.cmd.session) := by simp [World.cell?, hP.box]
      have y4 : wr.cell? ⟨w.heap.size, 4, none⟩ = some (.int .i64 e.cmd.seq) := by simp [World.cell?, hP.box]
      have y5 : wr.cell? ⟨w.heap.size, 5, none⟩ = some (.string e.cmd.name) := by simp [World.cell?, hP.box]
      have y6 : wr.cell? ⟨w.heap.size, 6, none⟩ = some (.int .i64 e.cmd.n) := by simp [World.cell?, hP.box]
      clear hrow hP hv
      go_wp2
      go_quiet (fail)
      go_wp2_with (at_builtin; refine wpList_app_row (k := 7) (enc := enC) (l := [e]) rfl (.tmp 30) (.tmp 32) 22 36 rfl i0 _ 64 Try.underlying22 hi hz0 hz1 hz2 rfl (by decide) enC_len enC_one (base := w.heap.size + 1) rfl rfl ((HP.out.drewN _).own.alloc _) (RowAt.built (heap_alloc_new _ _) rfl 1 rfl rfl) (by simp; have := HP.out.sz; omega) (by simp; omega) (by simp; omega) ?_; intro u6 w6 o6 a6; obtain ⟨p6, n6, q6, rfl⟩ := own_form o6; have b6 : Below (w.heap.size + 1) wr w6 := (below_drewN (Below.refl _ wr) _ |>.alloc HP.out.sz _).trans a6.below; have O6 : Hid _ := o6; have W6 : Hid _ := HW.out.fresh (HP.out.bel.trans (b6.mono (by omega))); have y6' : w6.cell? ⟨w.heap.size, 0, none⟩ = some (.int .i64 e.slot) := (by simp [World.cell?, (b6.block w.heap.size (by omega)).trans HP.out.box]); clear o6 a6)
      go_quiet (fail)
      go_wp2_with (at_builtin; refine wpList_app_row (k := 7) (enc := enC) (l := es.drop (k)) rfl (.tmp 50) (.tmp 53) 22 36 rfl i0 _ 64 Try.underlying22 hi hz0 hz1 hz2 rfl (by decide) enC_len enC_one (base := w.heap.size + 1) rfl rfl (own_keep O6.out (fun _ _ => rfl)) (W6.out.fresh (below_drewN (Below.refl _ _) _)) (by have := HP.out.sz; have := b6.size; simp; omega) (by simp; omega) (by simp; omega) ?_; intro u9 w9 o9 a9; obtain ⟨p9, n9, q9, rfl⟩ := own_form o9; have b9 : Below (w.heap.size + 1) wr w9 := (below_drewN b6 _).trans a9.below; have O9 : Hid _ := o9; clear o9 a9)
      go_ret
      exact ⟨_, rfl, putE_own hk HP.out.lt HE.out HM.out O9.out, HP.out.bel.trans (b9.mono (by omega))⟩
end Go.Proofs.Ytkngpfngfmbmjaa
/-
  The document's Fold (package latchkeyref13): records put to a state. The conditions: the state's entries and the records lie in memory as their readings say; at most 2^29 of each.
-/
namespace Go.Proofs.Ytkngpfngfmbmjaa
open Go.RowKit

/-- Behind some records: the state so far, in its box; the result's block. -/
structure FoldI (w wr : World) (d : Du) (v : Value) : Prop where
  at_ : DuAt wr w.heap.size d v
  own : OwnEn wr (w.heap.size + 2) v d.es
  res : wr.heap[w.heap.size + 1]? = some (.cells #[.int .i64 0, .int .i64 0, .string ⟨#[]⟩, .slice none 0 0] 24 (0, 0))
  bel : Below w.heap.size w wr
  sz : w.heap.size + 2 ≤ wr.heap.size
section
variable {w wr w' : World} {d : Du} {v : Value}
theorem FoldI.fresh (h : FoldI w wr d v) (b : Below (w.heap.size + 2) wr w') (hb : ∀ g, v.ownBlock = some g → w'.heap[g]? = wr.heap[g]?) : FoldI w w' d v :=
  ⟨(b.block _ (by omega)).trans h.at_, own_keep h.own hb, (b.block _ (by omega)).trans h.res, h.bel.trans (b.mono (by omega)), Nat.le_trans h.sz b.size⟩
theorem FoldI.new (h : FoldI w wr d v) (b : Below wr.heap.size wr w') : FoldI w w' d v := h.fresh (b.mono h.sz) (fun g e => b.block g (h.own.lt g e).2)
theorem FoldI.drewN (h : FoldI w wr d v) (n : Nat) : FoldI w (wr.drewN n) d v := h.new (below_drewN (Below.refl _ _) n)
theorem FoldI.drew (h : FoldI w wr d v) : FoldI w wr.drew d v := h.new ⟨rfl, rfl, rfl, Nat.le_refl _, fun _ _ => rfl⟩
theorem FoldI.set0 (h : FoldI w wr d v) (p : Int) : FoldI w (wr.setCell ⟨w.heap.size, 0, none⟩ (.int .i64 p)) { d with p := p } v :=
  ⟨h.at_.set0 p, ownsRow_setCell_below h.own (by show w.heap.size < _; omega) _, (heap_setCell_other _ _ _ _ (by simp)).trans h.res, h.bel.setCell (p := ⟨w.heap.size, 0, none⟩) (Nat.le_refl _) _, by simpa using h.sz⟩
theorem FoldI.set3 (h : FoldI w wr d v) {es : List En} {u : Value} (o : OwnEn wr (w.heap.size + 2) u es) : FoldI w (wr.setCell ⟨w.heap.size, 3, none⟩ u) { d with es := es } u :=
  ⟨h.at_.set3 es u, ownsRow_setCell_below o (by show w.heap.size < _; omega) _, (heap_setCell_other _ _ _ _ (by simp)).trans h.res, h.bel.setCell (p := ⟨w.heap.size, 3, none⟩) (Nat.le_refl _) _, by simpa using h.sz⟩
end
theorem stepD_one {d : Du} {r : Rc} (h : r.kind = 1) : stepD d r = { d with p := max d.p r.n } := by unfold stepD; rw [if_pos h]
theorem stepD_two {d : Du} {r : Rc} (h : r.kind = 2) (hs : d.b < r.en.slot) : stepD d r = { d with p := max d.p r.en.ballot, es := putE d.es r.en } := by
  unfold stepD
  rw [if_neg (by rw [h]; decide), if_pos h, if_pos hs]
theorem stepD_low {d : Du} {r : Rc} (h : r.kind = 2) (hs : ¬ d.b < r.en.slot) : stepD d r = { d with p := max d.p r.en.ballot } := by
  unfold stepD
  rw [if_neg (by rw [h]; decide), if_pos h, if_neg hs]
theorem stepD_else {d : Du} {r : Rc} (h1 : ¬ r.kind = 1) (h2 : ¬ r.kind = 2) : stepD d r = d := by
  unfold stepD
  rw [if_neg h1, if_neg h2]
set_option maxHeartbeats 6400000 in
set_option maxRecDepth 100000 in
theorem rfold_any (w : World) (d : Du) (v lv : Value) (l : List Rc) (hv : RowAt enC w v d.es) (hr : RowAt rcC w lv l) (hl : d.es.length ≤ 536870912) (hm : l.length ≤ 536870912) :
    Calls Try.prog 24 #[.agg (duA d v), lv] w fun e w' => ∃ v', e = .returned (.agg (duA (foldD d l) v')) ∧ OwnEn w' w.heap.size v' (foldD d l).es ∧ Below w.heap.size w w' := by
  obtain ⟨a0, cap0, rfl⟩ := hv.form
  obtain ⟨la, lc, rfl⟩ := hr.form
  have b1 : Below w.heap.size w ((w.alloc (.cells (duA d (.slice a0 d.es.length cap0)) 24)).alloc (.cells #[.int .i64 0, .int .i64 0, .string ⟨#[]⟩, .slice none 0 0] 24)) := ((Below.refl _ w).alloc (Nat.le_refl _) _).alloc (by simp) _
  have h2 := two_blocks w (.cells (duA d (.slice a0 d.es.length cap0)) 24) (.cells #[.int .i64 0, .int .i64 0, .string ⟨#[]⟩, .slice none 0 0] 24)
  have hD := h2.1.trans (heap_alloc_new w _)
  have hR := h2.2.trans (heap_alloc_new _ _)
  have hs2 : ((w.alloc (.cells (duA d (.slice a0 d.es.length cap0)) 24)).alloc (.cells #[.int .i64 0, .int .i64 0, .string ⟨#[]⟩, .slice none 0 0] 24)).heap.size = w.heap.size + 2 := by simp
  have q1 := rcopy_any _ d (.slice a0 d.es.length cap0) (hv.fresh b1) (by omega)
  rw [hs2] at q1
  have HD : Hid (DuAt _ w.heap.size d (.slice a0 d.es.length cap0)) := hD
  have HR : Hid _ := hR
  have B1 : Hid _ := b1
  have HV : Hid (RowAt rcC w (.slice la l.length lc) l) := hr
  clear hv hr hD hR h2 b1 hs2
  go_enter Try.func24, Try.ntmps24
  go_wp2_with (first
    | (show wpList _ _ _ (⟨_, Op.store 24 _ _, _, _, _, _⟩ :: _) _ _; refine store_row_g rfl 24 _ _ rfl w.heap.size (duA d (.slice p2 n2 q2)) rfl rfl 24 _ D2.out sizeDu rfl (by simp [Value.oneCell']) ?_; intro w3 h3 g3)
    | (go_at_call 41; refine q1.mono ?_; rintro e w2 ⟨v2, rfl, o2, b2⟩; obtain ⟨p2, n2, q2, rfl⟩ := own_form o2; have D2 : Hid (DuAt w2 w.heap.size d (.slice a0 d.es.length cap0)) := (b2.block _ (by omega)).trans HD.out; have R2 : Hid _ := (b2.block (w.heap.size + 1) (by omega)).trans HR.out; have O2 : Hid (OwnEn w2 (w.heap.size + 2) (.slice p2 n2 q2) d.es) := o2; have C2 : Hid (Below w.heap.size w w2) := B1.out.trans (b2.mono (by omega)); have s2 : w.heap.size + 2 ≤ w2.heap.size := (by have := b2.size; simp at this; omega); have S2 : Hid _ := s2; clear o2 b2 s2)
    | (show wpList _ _ _ (⟨_, Op.load 24 _, _, _, _, _⟩ :: _) _ _; refine load_row_g rfl 24 _ rfl w.heap.size rfl 24 (duA d (.slice a0 d.es.length cap0)) (0, 0) _ HD.out Try.underlying24 rfl sizeDu ?_))
  have I3 : Hid (FoldI w w3 d (.slice p2 n2 q2)) := ⟨h3, own_keep O2.out (fun g e => g3.block g (World.ownsRow.lt O2.out g e).2 (fun e2 => by have := (World.ownsRow.lt O2.out g e).1; have := Option.some.inj e2; omega)), (g3.block _ (by have := S2.out; omega) (fun e2 => by have := Option.some.inj e2; omega)).trans R2.out, C2.out.grown g3 C2.out.size (fun k hk => by have := Option.some.inj hk; omega), Nat.le_trans S2.out g3.size⟩
  clear D2 R2 O2 C2 S2 HD HR B1 h3 g3 q1
  go_loopw [5] (fun i wr => ∃ (k : Nat) (u : Value), k ≤ l.length ∧ i = .int .i64 (k : Int) ∧ FoldI w wr (foldD d (l.take k)) u) (fun i _ => l.length - (intOf i).toNat)
  case atStart => exact ⟨0, _, Nat.zero_le _, rfl, I3.out⟩
  case round =>
    obtain ⟨k, u, hk, rfl, hI⟩ := hrel
    clear I3
    obtain ⟨D, hDD⟩ : ∃ D, D = foldD d (l.take k) := ⟨_, rfl⟩
    rw [← hDD] at hI
    obtain ⟨p5, n5, q5, rfl⟩ := own_form hI.own
    by_cases hkl : k < l.length
    · have q0 : decide ((k : Int) < (l.length : Int)) = true := decide_eq_true (by omega)
      obtain ⟨bk, off, cap', hvv, hcap, hbk, hc⟩ := HV.out.cells rcC_len (by omega)
      injection hvv with e1 e2 e3
      subst e1 e3
      obtain ⟨r, hrr⟩ : ∃ r, r = l[k] := ⟨_, rfl⟩
      have hnx : foldD d (l.take (k + 1)) = stepD D r := by
        rw [List.take_add_one, List.getElem?_eq_getElem hkl, ← hrr, hDD]
        exact foldD_snoc _ _ _
      have hlen : D.es.length ≤ 1073741824 := by
        have := foldD_length (l.take k) d
        rw [← hDD, List.length_take] at this
        omega
      have ZC : Hid (∀ w1, Below w.heap.size w w1 → ∀ j u, (rcC r)[j]? = some u → w1.cell? ⟨bk, off + k * 9 + j, none⟩ = some u) := fun w1 b j u hu => (b.cell (p := ⟨bk, off + k * 9 + j, none⟩) (by exact hbk)).trans (hc k hkl j u (by have := (List.getElem?_eq_some_iff.1 hu).1; simpa [rcC] using this) (by rw [← hrr]; exact hu))
      have z0 := ZC.out wr hI.bel 0 _ rfl
      rw [Nat.add_zero] at z0
      have HN : Hid (foldD d (l.take (k + 1)) = stepD D r) := hnx
      have HI : Hid _ := hI
      clear hnx hrr hc hDD hI
      by_cases k1 : r.kind = 1
      · have z1 := ZC.out wr HI.out.bel 1 _ rfl
        rw [k1] at z0
        have c0 := HI.out.at_.c0
        have f0 := HI.out.at_.f0
        have HS : Hid (stepD D r = { D with p := max D.p r.n }) := stepD_one k1
        clear k1
        go_wp2
        go_region
        all_goals go_wp2
        all_goals go_roundw
        case rel => exact ⟨k + 1, _, hkl, by go_num, by rw [HN.out, HS.out]; exact (HI.out.drew).set0 _⟩
        case measure => simp [intOf]; omega
      · have f1 : (r.kind == 1) = false := by simpa using k1
        by_cases k2 : r.kind = 2
        · have z3 := ZC.out wr HI.out.bel 3 _ rfl
          have z2 := ZC.out wr HI.out.bel 2 _ rfl
          rw [k2] at z0 f1
          have c0 := HI.out.at_.c0
          have c1 := HI.out.at_.c1
          have f0 := HI.out.at_.f0
          have hne : ¬ bk = w.heap.size := by omega
          by_cases hs : D.b < r.en.slot
          · have qs : decide (D.b < r.en.slot) = true := decide_eq_true hs
            have HS : Hid (stepD D r = { D with p := max D.p r.en.ballot, es := putE D.es r.en }) := stepD_two k2 hs
            clear k1 k2
            go_wp2
            go_region
            all_goals go_wp2
            all_goals go_quiet (fail)
            all_goals go_wp2
            all_goals (
              obtain ⟨w4, hw4⟩ : ∃ w4, w4 = (wr.setCell ⟨w.heap.size, 0, none⟩ (.int .i64 (max D.p r.en.ballot))).drew.drewN nq := ⟨_, rfl⟩
              have i4 : FoldI w w4 { D with p := max D.p r.en.ballot } (.slice p5 n5 q5) := by rw [hw4]; exact (HI.out.set0 _).drew.drewN _
              rw [← hw4]
              have I4 : Hid _ := i4
              have c3 := i4.at_.c3
              have e0 := ZC.out w4 i4.bel 2 (.int .i64 r.en.slot) rfl
              have e1 := ZC.out w4 i4.bel 3 (.int .i64 r.en.ballot) rfl
              have e2 := ZC.out w4 i4.bel 4 (.int .i64 r.en.cmd.kind) rfl
              have e3 := ZC.out w4 i4.bel 5 (.int .i64 r.en.cmd.session) rfl
              have e4 := ZC.out w4 i4.bel 6 (.int .i64 r.en.cmd.seq) rfl
              have e5 := ZC.out w4 i4.bel 7 (.string r.en.cmd.name) rfl
              have e6 := ZC.out w4 i4.bel 8 (.int .i64 r.en.cmd.n) rfl
              clear hw4 i4 z0 z2 z3 c0 c1 f0
              refine wp_region_held_drew (S := (fun w' : World => w'.cell? ⟨bk, off + k * 9 + 2, none⟩ = some (.int .i64 r.en.slot) ∧ w'.cell? ⟨bk, off + k * 9 + 3, none⟩ = some (.int .i64 r.en.ballot) ∧ w'.cell? ⟨bk, off + k * 9 + 4, none⟩ = some (.int .i64 r.en.cmd.kind) ∧ w'.cell? ⟨bk, off + k * 9 + 5, none⟩ = some (.int .i64 r.en.cmd.session) ∧ w'.cell? ⟨bk, off + k * 9 + 6, none⟩ = some (.int .i64 r.en.cmd.seq) ∧ w'.cell? ⟨bk, off + k * 9 + 7, none⟩ = some (.string r.en.cmd.name) ∧ w'.cell? ⟨bk, off + k * 9 + 8, none⟩ = some (.int .i64 r.en.cmd.n))) (by kernel_rfl) ?_ (fun hHeld0 => ?_)
              · try dsimp only
                go_keep
              refine tk0 (.pointer (some ⟨w.heap.size, 3, none⟩)) (by kernel_rfl) (by kernel_rfl) (by kernel_rfl) (fun _ _ _ h => h) rfl (fun w hSw => by (try dsimp only at hSw); obtain ⟨q0, q1, q2, q3, q4, q5, q6⟩ := hSw; go_simp) (by assumption) ?_
              try simp only [Act.put, List.setIfInBounds_toArray, List.set_cons_zero, List.set_cons_succ]
              refine tk2 (.slice (some ⟨bk, off, none⟩) l.length lc) (by kernel_rfl) (by kernel_rfl) (by kernel_rfl) (fun _ _ _ h => h) rfl (fun w hSw => by (try dsimp only at hSw); obtain ⟨q0, q1, q2, q3, q4, q5, q6⟩ := hSw; go_simp) (by assumption) ?_
              try simp only [Act.put, List.setIfInBounds_toArray, List.set_cons_zero, List.set_cons_succ]
              refine tk3 (.int .i64 (k : Int)) (by kernel_rfl) (by kernel_rfl) (by kernel_rfl) (fun _ _ _ h => h) rfl (fun w hSw => by (try dsimp only at hSw); obtain ⟨q0, q1, q2, q3, q4, q5, q6⟩ := hSw; go_simp) (by assumption) ?_
              try simp only [Act.put, List.setIfInBounds_toArray, List.set_cons_zero, List.set_cons_succ]
              refine tk4 (.pointer (some ⟨bk, off + k * 9, none⟩)) (by kernel_rfl) (by kernel_rfl) (by kernel_rfl) (fun _ _ _ h => h) rfl (fun w hSw => by (try dsimp only at hSw); obtain ⟨q0, q1, q2, q3, q4, q5, q6⟩ := hSw; go_simp) (by assumption) ?_
              try simp only [Act.put, List.setIfInBounds_toArray, List.set_cons_zero, List.set_cons_succ]
              refine tk5 (.pointer (some ⟨bk, off + k * 9 + 2, none⟩)) (by kernel_rfl) (by kernel_rfl) (by kernel_rfl) (fun _ _ _ h => h) rfl (fun w hSw => by (try dsimp only at hSw); obtain ⟨q0, q1, q2, q3, q4, q5, q6⟩ := hSw; go_simp) (by assumption) ?_
              try simp only [Act.put, List.setIfInBounds_toArray, List.set_cons_zero, List.set_cons_succ]
              refine tk6 (.agg (enA r.en)) (by kernel_rfl) (by kernel_rfl) (by kernel_rfl) (fun _ _ _ h => h) rfl (fun w hSw => by (try dsimp only at hSw); obtain ⟨q0, q1, q2, q3, q4, q5, q6⟩ := hSw; go_simp) (by assumption) ?_
              try simp only [Act.put, List.setIfInBounds_toArray, List.set_cons_zero, List.set_cons_succ]
              refine cl1 (by kernel_rfl) rfl (fun K hK => ?_)
              go_simp
              refine hK.out _ _ ?_ (fun hHeld => ?_)
              · try dsimp only
                go_keep
              clear hK K
              try simp only [Act.put, List.setIfInBounds_toArray, List.set_cons_zero, List.set_cons_succ]
              refine cl7 (by kernel_rfl) rfl (fun K hK => ?_)
              go_simp
              go_at_call 42
              refine (rput_any _ (.slice p5 n5 q5) D.es r.en (RowAt.own enC_len (I4.out.drew).own) hlen).mono ?_
              rintro e w5 ⟨u5, rfl, o5, b5⟩
              obtain ⟨p6, n6, q6, rfl⟩ := own_form o5
              have i5 := (I4.out.drew).new b5
              have O5 : Hid (OwnEn w5 (w.heap.size + 2) (.slice p6 n6 q6) (putE D.es r.en)) := own_mono o5 (by have := I4.out.sz; exact this)
              have I5 : Hid _ := i5
              have g3 := i5.at_.c3
              have g4 := i5.at_.f3
              have y0 := ZC.out w5 i5.bel 2 (.int .i64 r.en.slot) rfl
              have y1 := ZC.out w5 i5.bel 3 (.int .i64 r.en.ballot) rfl
              have y2 := ZC.out w5 i5.bel 4 (.int .i64 r.en.cmd.kind) rfl
              have y3 := ZC.out w5 i5.bel 5 (.int .i64 r.en.cmd.session) rfl
              have y4 := ZC.out w5 i5.bel 6 (.int .i64 r.en.cmd.seq) rfl
              have y5 := ZC.out w5 i5.bel 7 (.string r.en.cmd.name) rfl
              have y6 := ZC.out w5 i5.bel 8 (.int .i64 r.en.cmd.n) rfl
              clear o5 b5 i5
              refine hK.out _ _ ?_ (fun hHeld => ?_)
              · try dsimp only
                go_keep
              clear hK K
              try simp only [Act.put, List.setIfInBounds_toArray, List.set_cons_zero, List.set_cons_succ]
              refine tk8 (.pointer (some ⟨w.heap.size, 3, none⟩)) (by kernel_rfl) (by kernel_rfl) (by kernel_rfl) (fun _ _ _ h => h) rfl (fun w hSw => by (try dsimp only at hSw); obtain ⟨q0, q1, q2, q3, q4, q5, q6⟩ := hSw; go_simp) (by assumption) ?_
              try simp only [Act.put, List.setIfInBounds_toArray, List.set_cons_zero, List.set_cons_succ]
              refine cl9 (by kernel_rfl) rfl (fun K hK => ?_)
              go_simp
              have i6 := I5.out.set3 O5.out
              have x0 := ZC.out _ i6.bel 2 (.int .i64 r.en.slot) rfl
              have x1 := ZC.out _ i6.bel 3 (.int .i64 r.en.ballot) rfl
              have x2 := ZC.out _ i6.bel 4 (.int .i64 r.en.cmd.kind) rfl
              have x3 := ZC.out _ i6.bel 5 (.int .i64 r.en.cmd.session) rfl
              have x4 := ZC.out _ i6.bel 6 (.int .i64 r.en.cmd.seq) rfl
              have x5 := ZC.out _ i6.bel 7 (.string r.en.cmd.name) rfl
              have x6 := ZC.out _ i6.bel 8 (.int .i64 r.en.cmd.n) rfl
              have I6 : Hid _ := i6
              clear i6
              refine hK.out _ _ ?_ (fun hHeld => ?_)
              · try dsimp only
                go_keep
              clear hK K
              try simp only [Act.put, List.setIfInBounds_toArray, List.set_cons_zero, List.set_cons_succ]
              refine wpAnyH_done (by kernel_rfl) ?_ _
              go_wp2
              go_roundw
              case rel => exact ⟨k + 1, _, hkl, by go_num, by rw [HN.out, HS.out]; exact I6.out⟩
              case measure => simp [intOf]; omega)
          · have qs : decide (D.b < r.en.slot) = false := decide_eq_false hs
            have HS : Hid (stepD D r = { D with p := max D.p r.en.ballot }) := stepD_low k2 hs
            clear k1 k2
            go_wp2
            go_region
            all_goals go_wp2
            all_goals go_quiet (fail)
            all_goals go_wp2
            all_goals go_roundw
            case rel => exact ⟨k + 1, _, hkl, by go_num, by rw [HN.out, HS.out]; exact (HI.out.set0 _).drewN _⟩
            case measure => simp [intOf]; omega
        · have f2 : (r.kind == 2) = false := by simpa using k2
          have HS : Hid (stepD D r = D) := stepD_else k1 k2
          clear k1 k2
          go_wp2
          go_roundw
          case rel => exact ⟨k + 1, _, hkl, by go_num, by rw [HN.out, HS.out]; exact HI.out⟩
          case measure => simp [intOf]; omega
    · have q0 : decide ((k : Int) < (l.length : Int)) = false := decide_eq_false (by omega)
      have ht : l.take k = l := List.take_of_length_le (by omega)
      rw [ht] at hDD
      have HI : Hid _ := hI
      have HDD : Hid (D = foldD d l) := hDD
      clear hI hDD ht
      go_wp2_with (first
        | (show wpList _ _ _ (⟨_, Op.store 24 _ _, _, _, _, _⟩ :: _) _ _; refine store_row_g rfl 24 _ _ rfl (w.heap.size + 1) (duA D (.slice p5 n5 q5)) rfl rfl 24 _ HI.out.res sizeDu rfl (by simp [Value.oneCell']) ?_; intro w6 h6 g6)
        | (show wpList _ _ _ (⟨_, Op.load 24 _, _, _, _, _⟩ :: _) _ _; refine load_row_g rfl 24 _ rfl w.heap.size rfl 24 (duA D (.slice p5 n5 q5)) (0, 0) _ HI.out.at_ Try.underlying24 rfl sizeDu ?_))
      refine bodyPost_ret (results_cell_row Try.results24 _ _ (w.heap.size + 1) 24 _ (0, 0) _ rfl h6 Try.underlying24 rfl sizeDu) rfl ?_
      rw [← HDD.out]
      refine ⟨_, rfl, own_mono (own_keep HI.out.own (fun g e => g6.block g (World.ownsRow.lt HI.out.own g e).2 (fun e2 => ?_))) (by omega), HI.out.bel.grown g6 HI.out.bel.size (fun k hk => by have := Option.some.inj hk; omega)⟩
      have := (World.ownsRow.lt HI.out.own g e).1
      have := Option.some.inj e2
      omega
end Go.Proofs.Ytkngpfngfmbmjaa
/-
  The document's records of a state (package latchkeyref13). The condition: at most 2^29 entries.
-/
namespace Go.Proofs.Ytkngpfngfmbmjaa
open Go.RowKit

theorem rcC_ones : ∀ x : Rc, ∀ u ∈ rcC x, u.oneCell' = true := by
  intro x u hu
  simp only [rcC, List.mem_cons, List.not_mem_nil, or_false] at hu
  rcases hu with rfl | rfl | rfl | rfl | rfl | rfl | rfl | rfl | rfl <;> rfl
theorem infoRec : (Try.prog.info? 65).map (fun i => (i.zero, i.size, i.bytes)) = some (some (.agg #[.int .i64 0, .int .i64 0, .int .i64 0, .int .i64 0, .int .i64 0, .int .i64 0, .int .i64 0, .string ⟨#[]⟩, .int .i64 0]), 9, 80) := by kernel_rfl
/-- A row of records of the call's own. -/
abbrev OwnRc (w : World) (base : Nat) (v : Value) (l : List Rc) : Prop := w.ownsRow base 65 9 v l.length (rowL rcC l)
theorem OwnRc.row {w : World} {base : Nat} {v : Value} {l : List Rc} (h : OwnRc w base v l) : RowAt rcC w v l := RowAt.own rcC_len h
def firstRc (d : Du) : List Rc := if 0 < d.p then [⟨1, d.p, En.zero⟩] else []
/-- Behind k entries. -/
structure RecI (w wr : World) (d : Du) (v u : Value) (l : List Rc) : Prop where
  own : OwnRc wr (w.heap.size + 1) u l
  box : DuAt wr w.heap.size d v
  bel : Below w.heap.size w wr
  sz : w.heap.size + 1 ≤ wr.heap.size
theorem RecI.step {w wr w' : World} {d : Du} {v u u' : Value} {l : List Rc} {r : Rc} (h : RecI w wr d v u l) (ho : w'.ownsRow (w.heap.size + 1) 65 9 u' (l.length + 1) (rowL rcC l ++ rowL rcC [r])) (b : Below (w.heap.size + 1) wr w') : RecI w w' d v u' (l ++ [r]) := by
  refine ⟨?_, (b.block _ (by omega)).trans h.box, h.bel.trans (b.mono (by omega)), Nat.le_trans h.sz b.size⟩
  show w'.ownsRow _ _ _ _ _ _
  rw [rowL_append, List.length_append]
  exact ho
end Go.Proofs.Ytkngpfngfmbmjaa
