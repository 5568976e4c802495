/-
  The document's sessions: Open, as plain data. The condition: fewer than a million sessions.
-/
import Derived.Test.YthokbififjhflaaSxAsk
import Derived.Test.YthokbififjhflaaSeAdd
namespace Go.Proofs.Ythokbififjhflaa
open Go.RowKit

theorem infoSx : (Try.prog.info? 70).map (fun i => (i.zero, i.size, i.bytes)) = some (some (.agg #[.int .i64 0, .int .i64 0, .bool false, .int .i64 0, .bool false, .int .i64 0, .int .i64 0, .int .i64 0, .int .u64 0, .int .i64 0]), 10, 80) := by kernel_rfl
theorem sxA_set (v : Value) (F I : Nat → Int) (c : Nat) (hc : c < 8) (a b : Int) : ((sxA v F I).setIfInBounds (1 + c * 2) (.int .i64 a)).setIfInBounds (1 + c * 2 + 1) (.int .i64 b) = sxA v (fun i => if i = c then a else F i) (fun i => if i = c then b else I i) := by
  rcases (by omega : c = 0 ∨ c = 1 ∨ c = 2 ∨ c = 3 ∨ c = 4 ∨ c = 5 ∨ c = 6 ∨ c = 7) with rfl | rfl | rfl | rfl | rfl | rfl | rfl | rfl <;> rfl
structure SxOpP (w : World) (base X : Nat) (S : Nat → Prop) (q : List SeX × Int × Bool × Int) (e : Ending) (w' : World) : Prop where
  ex : ∃ S', e = .returned (.tuple #[.int .i64 q.2.1, .bool q.2.2.1, .int .i64 q.2.2.2]) ∧ SxAt w' base X S' q.1 ∧ Kept w w' S S'
/-- One more behind the row, its client's latest. -/
theorem SxM.more {w w4 w5 : World} {base X : Nat} {S : Nat → Prop} {raw : List SeX} {v u : Value} {F I : Nat → Int} (h : SxM w base X S raw v F I) {c : Nat} {x : SeX} (hxc : x.client = c) (ho : OwnX w4 base u (raw ++ [x])) (ha : Appended base w w4 v u)
    (hX : w5.heap[X]? = some (.cells (sxA u (fun i => if i = c then x.life else F i) (fun i => if i = c then (raw.length : Int) + 1 else I i)) 31 (0, 0))) (g5 : w4.grownBy w5 (some X)) :
    SxM w5 base X (fun g => g = X ∨ u.ownBlock = some g) (raw ++ [x]) u (fun i => if i = c then x.life else F i) (fun i => if i = c then (raw.length : Int) + 1 else I i) ∧ Kept w w5 S (fun g => g = X ∨ u.ownBlock = some g) := by
  have hXw : X < w.heap.size := lt_of_block h.blk
  have huX : u.ownBlock ≠ some X := by
    rcases ha.lies with e | e
    · rw [e]; exact h.ne
    · rw [e]
      intro e2
      have := Option.some.inj e2
      omega
  refine ⟨⟨hX, own_keep ho fun g e => g5.block g (ho.lt g e).2 (fun e2 => huX (by rw [e, e2])), fun i hi => ?_, fun i hi => ?_, h.lo, fun _ => Iff.rfl⟩, ⟨g5.os.trans ha.below.os, g5.tape.trans ha.below.tape, g5.output.trans ha.below.output, Nat.le_trans ha.below.size g5.size, fun b hb => ?_, fun b hb hn => ?_⟩⟩
  · rw [seLif_app, hxc]
    show (if i = c then _ else _) = _
    by_cases e : i = c
    · rw [if_pos e, if_pos (by rw [e])]
    · rw [if_neg e, if_neg (by omega)]
      exact h.lf i hi
  · rw [seLat_app, hxc]
    show (if i = c then _ else _) = _
    by_cases e : i = c
    · rw [if_pos e, if_pos (by rw [e])]
      simp
    · rw [if_neg e, if_neg (by omega)]
      exact h.li i hi
  · rcases hb with rfl | e
    · exact Or.inl ((h.set _).2 (Or.inl rfl))
    · rcases ha.lies with e2 | e2
      · rw [e2] at e
        exact Or.inl ((h.set b).2 (Or.inr e))
      · rw [e2] at e
        have := Option.some.inj e
        exact Or.inr (by omega)
  · have h1 : b ≠ X := fun e => hn ((h.set b).2 (Or.inl e))
    have h2 : v.ownBlock ≠ some b := fun e => hn ((h.set b).2 (Or.inr e))
    exact (g5.block b (Nat.lt_of_lt_of_le hb ha.below.size) (fun e => h1 (Option.some.inj e))).trans (ha.rest b hb (fun e => h2 e.symm))
set_option maxRecDepth 100000 in
set_option maxHeartbeats 8000000 in
theorem xopen_any {w : World} {base X : Nat} {S : Nat → Prop} {l : List SeX} (h : SxAt w base X S l) (hl : l.length < 1000000) {c f : Int} :
    Calls Try.prog 26 #[.pointer (some ⟨X, 0, none⟩), .int .i64 c, .int .i64 f] w (SxOpP w base X S (seOpn l c f)) := by
  have HH : Hid (SxAt w base X S l) := h
  cases hm : seMay c f with
  | false =>
    have e1 : seOpn l c f = (l, 0, false, 1) := by unfold seOpn; rw [if_pos hm]
    rw [e1]
    have t : decide (c < 0) = true ∨ (decide (c < 0) = false ∧ decide (8 ≤ c) = true) ∨ (decide (c < 0) = false ∧ decide (8 ≤ c) = false ∧ decide (f < 1) = true) ∨ (decide (c < 0) = false ∧ decide (8 ≤ c) = false ∧ decide (f < 1) = false ∧ decide (1073741824 < f) = true) := by
      have hm' : ¬ (((0 ≤ c ∧ c < 8) ∧ 1 ≤ f) ∧ f ≤ 1073741824) := by
        intro hh
        have : seMay c f = true := by unfold seMay; simp only [Bool.and_eq_true, decide_eq_true_eq]; exact hh
        rw [this] at hm
        cases hm
      by_cases h1 : c < 0
      · exact Or.inl (decide_eq_true h1)
      by_cases h2 : 8 ≤ c
      · exact Or.inr (Or.inl ⟨decide_eq_false h1, decide_eq_true h2⟩)
      by_cases h3 : f < 1
      · exact Or.inr (Or.inr (Or.inl ⟨decide_eq_false h1, decide_eq_false h2, decide_eq_true h3⟩))
      · exact Or.inr (Or.inr (Or.inr ⟨decide_eq_false h1, decide_eq_false h2, decide_eq_false h3, decide_eq_true (by omega)⟩))
    clear h e1 hm
    rcases t with t1 | ⟨t1, t2⟩ | ⟨t1, t2, t3⟩ | ⟨t1, t2, t3, t4⟩
    all_goals
      go_enter Try.func26, Try.ntmps26
      go_wp2
      go_ret3
      exact ⟨S, rfl, HH.out, Kept.refl _ _⟩
  | true =>
    have hmm := hm
    simp only [seMay, Bool.and_eq_true, decide_eq_true_eq] at hmm
    obtain ⟨⟨⟨m1, m2⟩, m3⟩, m4⟩ := hmm
    obtain ⟨k, rfl⟩ : ∃ k : Nat, c = k := ⟨c.toNat, by omega⟩
    have hk8 : k < 8 := by omega
    have t1 : decide ((k : Int) < 0) = false := decide_eq_false (by omega)
    have t2 : decide ((8 : Int) ≤ (k : Int)) = false := decide_eq_false (by omega)
    have t2' : decide (8 ≤ k) = false := decide_eq_false (by omega)
    have t3 : decide (f < 1) = false := decide_eq_false (by omega)
    have t4 : decide (1073741824 < f) = false := decide_eq_false (by omega)
    obtain ⟨raw, v, F, I, hM, hraw⟩ := h.ex
    have hcF := hM.cellF k hk8
    have e0 : seLif l k = seLif raw k := by rw [hraw, seLif_map]
    have e00 : seLat l k = seLat raw k := by rw [hraw, seLat_map]
    rw [← e0, ← e00] at hcF
    obtain ⟨y0, y1⟩ := hcF
    have hb : (k : Int) < 8 := m2
    obtain ⟨W, hW⟩ : ∃ W, W = w.alloc (.cells #[.int .i64 (seLif l k), .int .i64 (seLat l k : Int)] 28) := ⟨_, rfl⟩
    have bW : Below w.heap.size w W := by rw [hW]; exact (Below.refl _ w).alloc (Nat.le_refl _) _
    have HW : Hid (w.alloc (.cells #[.int .i64 (seLif l k), .int .i64 (seLat l k : Int)] 28) = W) := hW.symm
    have z0 : W.cell? ⟨w.heap.size, 0, none⟩ = some (.int .i64 (seLif l k)) := by rw [hW]; simp
    have z1 : W.cell? ⟨w.heap.size, 1, none⟩ = some (.int .i64 (seLat l k : Int)) := by rw [hW]; simp
    have BW : Hid (Below w.heap.size w W) := bW
    clear hW bW
    by_cases h2 : f < seLif l k
    · have e1 : seOpn l k f = (l, 0, false, 18) := by unfold seOpn; rw [if_neg (by rw [hm]; decide), if_pos h2]
      have t5 : decide (f < seLif l k) = true := decide_eq_true h2
      rw [e1]
      clear h hM e0 e00 e1 hm h2 m1 m2 m3 m4 hraw
      go_enter Try.func26, Try.ntmps26
      go_upto_region 4 with fail
      rw [HW.out]
      go_wp2
      go_ret3
      exact ⟨S, rfl, HH.out.fresh BW.out, Kept.of BW.out⟩
    have t5 : decide (f < seLif l k) = false := decide_eq_false h2
    by_cases h3 : seLif l k = f
    · have e1 : seOpn l k f = (l, (seLat l k : Int), false, 0) := by unfold seOpn; rw [if_neg (by rw [hm]; decide), if_neg h2, if_pos h3]
      have t6 : (f == seLif l k) = true := by simpa using h3.symm
      rw [e1]
      clear h hM e0 e00 e1 hm h2 h3 m1 m2 m3 m4 hraw
      go_enter Try.func26, Try.ntmps26
      go_upto_region 4 with fail
      rw [HW.out]
      go_wp2
      go_ret3
      exact ⟨S, rfl, HH.out.fresh BW.out, Kept.of BW.out⟩
    have t6 : (f == seLif l k) = false := by simpa using fun e => h3 e.symm
    have HAll : Hid (Calls Try.prog 14 #[.pointer (some ⟨X, 0, none⟩)] W (AlP W l)) := xall_any (h.fresh BW.out)
    by_cases h4 : 256 ≤ (seAll l).length
    · have e1 : seOpn l k f = (l, 0, false, 17) := by unfold seOpn; rw [if_neg (by rw [hm]; decide), if_neg h2, if_neg h3, if_pos h4]
      have t7 : decide ((256 : Int) ≤ ((seAll l).length : Int)) = true := decide_eq_true (by omega)
      have t8 : decide (256 ≤ (seAll l).length) = true := decide_eq_true h4
      rw [e1]
      clear h hM e0 e00 e1 hm h2 h3 m1 m2 m3 m4 h4 hraw
      go_enter Try.func26, Try.ntmps26
      go_upto_region 4 with fail
      rw [HW.out]
      go_wp2_with (go_at_call 14; refine Calls.mono HAll.out ?_; rintro r w2 ⟨⟨u2, rfl, o2, b2⟩⟩; obtain ⟨p2, n2, c2, rfl⟩ := own_form o2; have e2 := (RowAt.own (k := 1) (l := seAll l) (enc := intC) intC_len (by rw [rowL_int]; exact o2)).form; obtain ⟨_, _, e2⟩ := e2; injection e2 with _ e2 _; rw [e2]; have B2 : Hid (Below W.heap.size W w2) := b2; clear o2 b2 e2)
      go_ret3
      have b4 := bmm BW.out BW.out.size B2.out
      exact ⟨S, rfl, HH.out.fresh b4, Kept.of b4⟩
    have e1 : seOpn l k f = (l ++ [seNew k f], (l.length : Int) + 1, true, 0) := by unfold seOpn; rw [if_neg (by rw [hm]; decide), if_neg h2, if_neg h3, if_neg h4]
    have t7 : decide ((256 : Int) ≤ ((seAll l).length : Int)) = false := decide_eq_false (by omega)
    have t8 : decide (256 ≤ (seAll l).length) = false := decide_eq_false h4
    have hok := h.ok.opn k f
    rw [e1] at hok ⊢
    have hlr : raw.length = l.length := by rw [hraw, List.length_map]
    obtain ⟨i0, hi, hz0, hz1, hz2⟩ := info_parts infoSx
    have HM : Hid (SxM w base X S raw v F I ∧ l = raw.map sxN ∧ SeOk (l ++ [seNew k f])) := (show Hid _ from (⟨hM, hraw, hok⟩ : _ ∧ _ ∧ _))
    have HXd : Hid (base ≤ w.heap.size) := Nat.le_trans hM.lo (Nat.le_of_lt (lt_of_block hM.blk))
    obtain ⟨pv, cv, hv⟩ := hM.form
    have HVf : Hid (v = .slice pv raw.length cv) := hv
    have HF : Hid (∀ y, Below w.heap.size w y → y.cell? ⟨X, 0, none⟩ = some (.slice pv raw.length cv)) := fun y b => by rw [← hv]; exact (hM.keep fun g hg => b.block g (hM.bd g hg).2).cell 0 _ rfl
    have HRn : Hid (raw.length = l.length ∧ l.length < 1000000) := (show Hid _ from (⟨hlr, hl⟩ : _ ∧ _))
    clear h hM e0 e00 e1 hm h2 h3 m1 m2 m3 m4 h4 hraw hok hv hlr
    go_enter Try.func26, Try.ntmps26
    go_upto_region 4 with fail
    rw [HW.out]
    go_upto_region 10 with (go_at_call 14; refine Calls.mono HAll.out ?_; rintro r w2 ⟨⟨u2, rfl, o2, b2⟩⟩; obtain ⟨p2, n2, c2, rfl⟩ := own_form o2; have e2 := (RowAt.own (k := 1) (l := seAll l) (enc := intC) intC_len (by rw [rowL_int]; exact o2)).form; obtain ⟨_, _, e2⟩ := e2; injection e2 with _ e2 _; rw [e2]; have B2 : Hid (Below w.heap.size w w2) := bmm BW.out BW.out.size b2; clear o2 b2 e2)
    have hM2 := HM.out.1.keep (w' := w2) fun g hg => B2.out.block g (HM.out.1.bd g hg).2
    rw [HVf.out] at hM2
    have HM2 : Hid (SxM w2 base X S raw (.slice pv raw.length cv) F I) := hM2
    have v0 := HF.out w2 B2.out
    have hll : raw.length < 1000000 := by rw [HRn.out.1]; exact HRn.out.2
    have hbs : base ≤ w2.heap.size := Nat.le_trans HXd.out B2.out.size
    clear z0 z1 hM2 y0 y1 hl
    go_upto_region 11 with (at_builtin; refine wpList_app_row (k := 10) (enc := sxC) (l := [seNew k f]) rfl (.tmp 51) (.tmp 55) 26 70 rfl i0 _ 80 Try.underlying26 hi hz0 hz1 hz2 rfl (by decide) sxC_len sxC_one (base := base) rfl rfl (World.ownsRow.alloc HM2.out.own _) (RowAt.built (heap_alloc_new _ _) rfl 1 rfl rfl) (by simp; omega) (by simp only [List.length_singleton]; omega) (by simp only [List.length_singleton]; omega) ?_; intro u4 w4 o4 a4; have o4' : OwnX w4 base u4 (raw ++ [seNew k f]) := (by show World.ownsRow _ _ _ _ _ _ _; rw [List.length_append, rowL_append]; exact o4); have f4 := (RowAt.own sxC_len o4').form; obtain ⟨p4, c4, rfl⟩ := f4; rw [List.length_append, List.length_singleton] at o4' a4 ⊢; have O4 : Hid (OwnX w4 base (.slice p4 (raw.length + 1) c4) (raw ++ [seNew k f])) := o4'; have A4 : Hid _ := a4; have x4 : w4.heap[X]? = some (.cells (sxA (.slice pv raw.length cv) F I) 31 (0, 0)) := (a4.rest X (by have := lt_of_block HM2.out.blk; simp; omega) (fun e => HM2.out.ne e.symm)).trans ((heap_alloc_old w2 _ (lt_of_block HM2.out.blk)).trans HM2.out.blk); have X4 : Hid _ := x4; have xc : w4.cell? ⟨X, 0, none⟩ = some (.slice pv raw.length cv) := (by simp [World.cell?, x4]); have xf : w4.frozen? ⟨X, 0, none⟩ = false := (by simp [World.frozen?, x4]); clear o4 o4' a4 x4)
    obtain ⟨W5, hW5⟩ : ∃ W5, W5 = w4.setCell ⟨X, 0, none⟩ (.slice p4 (raw.length + 1) c4) := ⟨_, rfl⟩
    have x5 : W5.heap[X]? = some (.cells (sxA (.slice p4 (raw.length + 1) c4) F I) 31 (0, 0)) := by rw [hW5]; exact heap_setCell_same w4 X 0 _ _ _ X4.out
    have g5 : w4.grownBy W5 (some X) := by rw [hW5]; exact grown_cell (grown_rf _ _)
    have X5 : Hid _ := x5
    have G5 : Hid _ := g5
    have u0 : W5.cell? ⟨X, 0, none⟩ = some (.slice p4 (raw.length + 1) c4) := by simp [World.cell?, x5]
    have ux : W5.cell? ⟨X, 1 + k * 2, none⟩ = some (.int .i64 (F k)) ∧ W5.cell? ⟨X, 1 + k * 2 + 1, none⟩ = some (.int .i64 (I k)) := by
      simp only [World.cell?, x5]
      rcases (by omega : k = 0 ∨ k = 1 ∨ k = 2 ∨ k = 3 ∨ k = 4 ∨ k = 5 ∨ k = 6 ∨ k = 7) with rfl | rfl | rfl | rfl | rfl | rfl | rfl | rfl <;> exact ⟨rfl, rfl⟩
    obtain ⟨u1, u2⟩ := ux
    have uf : ∀ j, W5.frozen? ⟨X, j, none⟩ = false := fun j => by simp [World.frozen?, x5]
    rw [← hW5]
    clear hW5 x5 g5 xc xf
    go_region
    all_goals (go_upto_region 12 with fail)
    obtain ⟨W6, hW6⟩ : ∃ W6, W6 = ((W5.setCell ⟨X, 1 + k * 2, none⟩ (.int .i64 f)).setCell ⟨X, 1 + k * 2 + 1, none⟩ (.int .i64 ((raw.length : Int) + 1))).drew := ⟨_, rfl⟩
    have x6 : W6.heap[X]? = some (.cells (sxA (.slice p4 (raw.length + 1) c4) (fun i => if i = k then (seNew k f).life else F i) (fun i => if i = k then (raw.length : Int) + 1 else I i)) 31 (0, 0)) := by
      have h1 := heap_setCell_same W5 X (1 + k * 2) _ _ (.int .i64 f) X5.out
      have h2 := heap_setCell_same _ X (1 + k * 2 + 1) _ _ (.int .i64 ((raw.length : Int) + 1)) h1
      rw [sxA_set _ F I k hk8] at h2
      rw [hW6]
      exact h2
    have g6 : w4.grownBy W6 (some X) := by
      have g := grown_cell (j := 1 + k * 2 + 1) (v := .int .i64 ((raw.length : Int) + 1)) (grown_cell (j := 1 + k * 2) (v := .int .i64 f) G5.out)
      rw [hW6]
      exact ⟨g.os, g.tape, g.output, g.size, g.block⟩
    have b3 : Below w2.heap.size w2 (w2.alloc (.cells (sxC (seNew k f)).toArray 70)) := (Below.refl _ w2).alloc (Nat.le_refl _) _
    have hM3 := HM2.out.keep (w' := w2.alloc (.cells (sxC (seNew k f)).toArray 70)) fun g hg => b3.block g (HM2.out.bd g hg).2
    have hfin := hM3.more (x := seNew k f) rfl O4.out A4.out x6 g6
    have HFin : Hid (SxAt W6 base X (fun g => g = X ∨ (Value.slice p4 (raw.length + 1) c4).ownBlock = some g) (l ++ [seNew k f]) ∧ Kept w W6 S (fun g => g = X ∨ (Value.slice p4 (raw.length + 1) c4).ownBlock = some g)) := by
      refine (show Hid _ from (⟨⟨⟨_, _, _, _, hfin.1, ?_⟩, HM.out.2.2, by rw [List.length_append, List.length_singleton]; have := HRn.out.2; omega⟩, ((Kept.of B2.out).trans (Kept.of (S := S) b3)).trans hfin.2⟩ : _ ∧ _))
      rw [List.map_append, HM.out.2.1]
      rfl
    have y0 : W6.cell? ⟨X, 0, none⟩ = some (.slice p4 (raw.length + 1) c4) := by simp [World.cell?, x6]
    rw [← hW6]
    clear hW6 x6 g6 b3 hM3 hfin u0 u1 u2 uf
    go_wp2
    go_ret3
    refine ⟨_, ?_, HFin.out.1, HFin.out.2⟩
    have := HRn.out.1
    show Ending.returned (Value.tuple #[Value.int .i64 (((raw.length + 1 : Nat) : Int)), Value.bool true, Value.int .i64 0]) = Ending.returned (Value.tuple #[Value.int .i64 ((l.length : Int) + 1), Value.bool true, Value.int .i64 0])
    rw [this]
    rfl
end Go.Proofs.Ythokbififjhflaa
