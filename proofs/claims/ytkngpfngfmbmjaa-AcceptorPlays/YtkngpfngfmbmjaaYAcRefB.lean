/-
  The document's acceptor: promise, Prepare, Cut. The condition: at most 2^29 entries.
-/
import Derived.Test.YtkngpfngfmbmjaaYAcRefA
import Derived.Test.YtkngpfngfmbmjaaYPack9
namespace Go.Proofs.Ytkngpfngfmbmjaa
open Go.Shelf Go.RowKit Go.Lib Go.Sort

/-- A new row laid into the document's acceptor. -/
theorem rcut_end {w w4 w5 : World} {S : Nat → Prop} {X base : Nat} {d : Du} {v v5 : Value} {es : List En} (h : RA w4 base S X d v) (k : Kept w w4 S S) (o : OwnEn w5 base v5 es) (g : w4.grownBy w5 none) (hl : ∀ b, v5.ownBlock = some b → v.ownBlock = some b ∨ w4.heap.size ≤ b) :
    CutPost 63 w base S X ⟨d.p, d.b, d.s, es⟩ (.returned (.tuple #[])) (w5.setCell ⟨X, 3, none⟩ v5) := by
  have k1 := (g.block X h.lt (by simp)).trans h.blk
  have n1 : v5.ownBlock ≠ some X := own_ne o k1 (by decide)
  have b2 : (w5.setCell ⟨X, 3, none⟩ v5).heap[X]? = some (.cells (duA ⟨d.p, d.b, d.s, es⟩ v5) 63 (0, 0)) := by
    rw [heap_setCell_same w5 X 3 _ _ _ k1]
    rfl
  have hs : ∀ b, b ≠ X → (w5.setCell ⟨X, 3, none⟩ v5).heap[b]? = w5.heap[b]? := fun b hb => heap_setCell_other _ _ _ _ hb
  refine ⟨_, v5, rfl, h.next b2 (own_keep o fun b e1 => hs b (fun e2 => n1 (by rw [e1, e2]))) (by decide), k.trans (h.kept g.os g.tape g.output (Nat.le_trans g.size (by simp)) hl (fun b hb h1 _ => ?_))⟩
  rw [hs b h1, g.block b hb (by simp)]
section
variable {w : World} {base X : Nat} {S : Nat → Prop} {d : Du} {v : Value}
/-- What promise answers. -/
structure PromPost (w : World) (base : Nat) (S : Nat → Prop) (X : Nat) (d : Du) (v : Value) (b : Int) (e : Ending) (w' : World) : Prop where
  ex : ∃ u, e = .returned u ∧ RA w' base S X ⟨b, d.b, d.s, d.es⟩ v ∧ OwnRc w' w.heap.size u (promD d b).recs ∧ Kept w w' S S
set_option maxHeartbeats 3200000 in
set_option maxRecDepth 100000 in
theorem rprom_any (h : RA w base S X d v) (b : Int) : Calls Try.prog 34 #[.pointer (some ⟨X, 0, none⟩), .int .i64 b] w (PromPost w base S X d v b) := by
  have c0 := h.c0
  have f0 := h.fz 0
  by_cases hb : b = d.p
  · have t0 : (b == d.p) = true := by simpa using hb
    have HE : Hid ((promD d b).recs = []) := by
      show (if b = d.p then [] else [promR b]) = _
      rw [if_pos hb]
    have HH : Hid (RA w base S X ⟨b, d.b, d.s, d.es⟩ v) := by show RA _ _ _ _ _ _; rw [hb]; exact h
    clear h hb
    go_enter Try.func34, Try.ntmps34
    go_wp2
    go_ret
    exact ⟨_, rfl, HH.out, by rw [HE.out]; exact World.ownsRow_nil _ _ _ _, Kept.refl _ _⟩
  · have t0 : (b == d.p) = false := by simpa using hb
    have HE : Hid ((promD d b).recs = [promR b]) := by
      show (if b = d.p then [] else [promR b]) = _
      rw [if_neg hb]
    have HH : Hid _ := h
    have HP : Hid _ := h.set0 b
    have HK : Hid _ := h.kept0 0 (.int .i64 b)
    clear h hb
    go_enter Try.func34, Try.ntmps34
    go_wp2
    go_ret
    have sz : (w.setCell ⟨X, 0, none⟩ (.int .i64 b)).heap.size = w.heap.size := by simp
    refine ⟨_, rfl, HP.out.fresh ((Below.refl _ _).alloc (Nat.le_refl _) _), ?_, HK.out.trans (Kept.of ((Below.refl _ _).alloc (Nat.le_refl _) _))⟩
    rw [HE.out]
    refine ⟨rfl, Or.inr ⟨w.heap.size, 1, #[.int .i64 1, .int .i64 b, .int .i64 0, .int .i64 0, .int .i64 0, .int .i64 0, .int .i64 0, .string ⟨#[]⟩, .int .i64 0], by simp, Nat.le_refl _, ?_, by simp, by unfold maxLen; omega, rfl, rfl⟩⟩
    rw [← sz]
    exact heap_alloc_new _ _
set_option maxHeartbeats 3200000 in
set_option maxRecDepth 100000 in
theorem rprep_any (h : RA w base S X d v) (b : Int) : Calls Try.prog 14 #[.pointer (some ⟨X, 0, none⟩), .int .i64 b] w (AnsPost 63 w base S X (prepD d b)) := by
  obtain ⟨W, hW⟩ : ∃ W, W = w.alloc (.cells (outA (.slice none 0 0)) 42) := ⟨_, rfl⟩
  have bW : Below w.heap.size w W := by rw [hW]; exact (Below.refl _ w).alloc (Nat.le_refl _) _
  have oW : W.heap[w.heap.size]? = some (.cells (outA (.slice none 0 0)) 42 (0, 0)) := by rw [hW]; exact heap_alloc_new w _
  have hP := h.fresh bW
  have c0 := hP.c0
  have HW : Hid (w.alloc (.cells (outA (.slice none 0 0)) 42) = W) := hW.symm
  have BW : Hid (Below w.heap.size w W) := bW
  have OW : Hid _ := oW
  have HP : Hid _ := hP
  have HH : Hid _ := h
  have qp := rprom_any hP b
  clear hW bW oW hP h
  by_cases hok : b < 1 ∨ b < d.p
  · have HE : Hid (prepD d b = ⟨d, [], false⟩) := by
      show (if _ then _ else _) = _
      rw [if_pos hok]
    by_cases h1 : b < 1
    · have t1 : decide (b < 1) = true := decide_eq_true h1
      go_enter Try.func14, Try.ntmps14
      go_upto_region 1 with fail
      rw [HW.out]
      go_wp2_with (show wpList _ _ _ (⟨_, Op.store 42 _ _, _, _, _, _⟩ :: _) _ _; refine store_row_g rfl 42 _ _ rfl w.heap.size (outA (.slice none 0 0)) rfl rfl 42 _ OW.out sizeOut rfl (by simp [Value.oneCell']) ?_; intro w6 h6 g6)
      refine bodyPost_ret (results_two Try.results14 _ _ w.heap.size _ rfl (load_out h6)) rfl ?_
      rw [HE.out]
      exact ⟨S, _, _, rfl, HP.out.keep fun x hx => g6.block x (HP.out.bd x hx).2 (fun e => by have h1 := (HH.out.bd x hx).2; have := Option.some.inj e; omega), World.ownsRow_nil _ _ _ _, (Kept.of BW.out).grown g6 (Nat.le_refl _)⟩
    · have t1 : decide (b < 1) = false := decide_eq_false h1
      have t2 : decide (b < d.p) = true := decide_eq_true (by omega)
      go_enter Try.func14, Try.ntmps14
      go_upto_region 1 with fail
      rw [HW.out]
      go_wp2_with (show wpList _ _ _ (⟨_, Op.store 42 _ _, _, _, _, _⟩ :: _) _ _; refine store_row_g rfl 42 _ _ rfl w.heap.size (outA (.slice none 0 0)) rfl rfl 42 _ OW.out sizeOut rfl (by simp [Value.oneCell']) ?_; intro w6 h6 g6)
      refine bodyPost_ret (results_two Try.results14 _ _ w.heap.size _ rfl (load_out h6)) rfl ?_
      rw [HE.out]
      exact ⟨S, _, _, rfl, HP.out.keep fun x hx => g6.block x (HP.out.bd x hx).2 (fun e => by have h1 := (HH.out.bd x hx).2; have := Option.some.inj e; omega), World.ownsRow_nil _ _ _ _, (Kept.of BW.out).grown g6 (Nat.le_refl _)⟩
  · have HE : Hid (prepD d b = promD d b) := by
      show (if _ then _ else _) = _
      rw [if_neg hok]
    have t1 : decide (b < 1) = false := decide_eq_false (by omega)
    have t2 : decide (b < d.p) = false := decide_eq_false (by omega)
    clear hok
    go_enter Try.func14, Try.ntmps14
    go_upto_region 1 with fail
    rw [HW.out]
    go_wp2_with (first
      | (show wpList _ _ _ (⟨_, Op.store 42 _ _, _, _, _, _⟩ :: _) _ _; refine store_row_g rfl 42 _ _ rfl w.heap.size (outA (.slice p3 n3 c3)) rfl rfl 42 _ O3.out sizeOut rfl (by simp [Value.oneCell']) ?_; intro w6 h6 g6)
      | (go_at_call 34; refine qp.mono ?_; rintro e w3 ⟨u3, rfl, h3, r3, k3⟩; obtain ⟨p3, n3, c3, rfl⟩ := own_form r3; have O3 : Hid (w3.heap[w.heap.size]? = some (.cells (outA (.slice none 0 0)) 42 (0, 0))) := (k3.kept _ (lt_of_block OW.out) (fun e => by have h1 := (HH.out.bd _ e).2; omega)).trans OW.out; have H3 : Hid _ := h3; have R3 : Hid _ := r3; have K3 : Hid (Kept w w3 S S) := (Kept.of BW.out).trans k3; clear h3 r3 k3))
    refine bodyPost_ret (results_two Try.results14 _ _ w.heap.size _ rfl (load_out h6)) rfl ?_
    rw [HE.out]
    exact ⟨S, _, _, rfl, H3.out.keep fun x hx => g6.block x (H3.out.bd x hx).2 (fun e => by have h1 := (HH.out.bd x hx).2; have := Option.some.inj e; omega), own_mono (own_keep R3.out fun x e => g6.block x (World.ownsRow.lt R3.out x e).2 (fun e2 => own_ne R3.out O3.out (by decide) (by rw [e, e2]))) BW.out.size, K3.out.grown g6 (Nat.le_refl _)⟩
theorem cut_from {es : List En} {b : Int} : fromE es (b + 1) = es.filter fun e => decide (b < e.slot) := by
  unfold fromE
  refine List.filter_congr fun e _ => ?_
  by_cases h : b < e.slot
  · have h2 : b + 1 ≤ e.slot := by omega
    simp [h, h2]
  · have h2 : ¬ b + 1 ≤ e.slot := by omega
    simp [h, h2]
set_option maxHeartbeats 6400000 in
set_option maxRecDepth 100000 in
theorem rcut_any (h : RA w base S X d v) (hl : d.es.length ≤ 536870912) (hsl : ∀ e ∈ d.es, e.slot ≤ 9223372036854775807) (b : Int) (hb : b ≤ 9223372036854775807) (hb0 : 0 ≤ d.b) (sn : ByteArray) : Calls Try.prog 18 #[.pointer (some ⟨X, 0, none⟩), .int .i64 b, .string sn] w (CutPost 63 w base S X (cutD d b sn)) := by
  obtain ⟨pv, nv, qv, rfl⟩ := own_form h.own
  have c1 := h.c1
  by_cases hlt : d.b < b
  · have t1 : decide (d.b < b) = true := decide_eq_true hlt
    have e2 := h.c2
    have f1 := h.fz 1
    have f2 := h.fz 2
    obtain ⟨w4, hw4⟩ : ∃ w4, w4 = (w.setCell ⟨X, 1, none⟩ (.int .i64 b)).setCell ⟨X, 2, none⟩ (.string sn) := ⟨_, rfl⟩
    have q4 := h.set12 b sn
    rw [← hw4] at q4
    have HW4 : Hid ((w.setCell ⟨X, 1, none⟩ (.int .i64 b)).setCell ⟨X, 2, none⟩ (.string sn) = w4) := hw4.symm
    have Q4 : Hid _ := q4
    have e3 := q4.1.c3
    have f3 := q4.1.fz 3
    by_cases hmx : b = 9223372036854775807
    · have t2 : (b == 9223372036854775807) = true := by simpa using hmx
      have HE : Hid (cutD d b sn = ⟨d.p, b, sn, []⟩) := by
        show (if _ then _ else _) = _
        rw [if_pos hlt, List.filter_eq_nil_iff.2]
        intro x hx
        have := hsl x hx
        simp only [decide_eq_true_eq]
        omega
      clear hw4 q4 h hlt hmx
      go_enter Try.func18, Try.ntmps18
      go_upto_region 2 with fail
      rw [HW4.out]
      clear e2 f1 f2 c1 HW4
      go_wp2
      go_returns
      rw [HE.out]
      exact rcut_end Q4.out.1 Q4.out.2 (World.ownsRow_nil _ _ _ _) (grown_refl _ _) (fun g e => by simp [Value.ownBlock] at e)
    · have t2 : (b == 9223372036854775807) = false := by simpa using hmx
      have HE : Hid (cutD d b sn = ⟨d.p, b, sn, fromE d.es (b + 1)⟩) := by
        show (if _ then _ else _) = _
        rw [if_pos hlt, cut_from]
      obtain ⟨b1, hb1⟩ : ∃ b1 : Int, b + 1 = b1 := ⟨_, rfl⟩
      have rb : IntKind.i64.wrap b1 = b1 := by rw [IntKind.wrap_i64]; omega
      have rb' : IntKind.i64.wrap (b + 1) = b1 := by rw [IntKind.wrap_i64]; omega
      rw [hb1] at HE
      have q5 := rfrom_any q4.1 hl b1
      clear hw4 q4 h hlt
      go_enter Try.func18, Try.ntmps18
      go_upto_region 2 with fail
      rw [HW4.out]
      clear e2 f1 f2 c1 HW4
      go_wp2_with (go_at_call 30; refine q5.mono ?_; rintro x w5 ⟨u5, rfl, o5, b5⟩; obtain ⟨p5, n5, r5, rfl⟩ := own_form o5; have h5 := Q4.out.1.fresh b5; have z5 := h5.c3; have y5 := h5.fz 3; have H5 : Hid _ := h5; have O5 : Hid _ := o5; have B5 : Hid _ := b5; clear o5 b5 h5)
      go_returns
      rw [HE.out]
      exact rcut_end Q4.out.1 Q4.out.2 (own_mono O5.out (Nat.le_trans Q4.out.1.lo (Nat.le_of_lt Q4.out.1.lt))) ⟨B5.out.os, B5.out.tape, B5.out.output, B5.out.size, fun b hb _ => B5.out.block b hb⟩ (fun g e => Or.inr (World.ownsRow.lt O5.out g e).1)
  · have t1 : decide (d.b < b) = false := decide_eq_false hlt
    have HE : Hid (cutD d b sn = d) := by
      show (if _ then _ else _) = _
      rw [if_neg hlt]
    have HH : Hid _ := h
    clear h
    go_enter Try.func18, Try.ntmps18
    go_wp2
    go_returns
    rw [HE.out]
    exact ⟨S, _, rfl, HH.out, Kept.refl _ _⟩
end
end Go.Proofs.Ytkngpfngfmbmjaa
