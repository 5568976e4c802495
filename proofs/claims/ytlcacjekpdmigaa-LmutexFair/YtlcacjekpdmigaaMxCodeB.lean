/-
  The program's mutex (package lmutex): locked, unlocked; who waits for it. The conditions: the task's number is an int's; fewer than 65536 wait.
-/
import Derived.Test.YtlcacjekpdmigaaMxCodeA
namespace Go.Proofs.Ytlcacjekpdmigaa
open Go.RowKit

section
variable {w w' : World} {base base' D : Nat} {S S' : Nat → Prop} {who : Int} {l : List Int}
theorem mxQ_append (l : List Int) (t : Int) : mxQ (l ++ [t]) = mxQ l ++ [(t, false, true)] := by unfold mxQ; simp
set_option maxHeartbeats 6400000 in
set_option maxRecDepth 100000 in
theorem pm_lock (h : PMx w base D S who l) (t : Int) (ht : okI t) (hl : l.length < 65536) : Calls Try.prog 12 #[.pointer (some ⟨D, 0, none⟩), .int .i64 t] w fun e w' => e = .returned (.tuple #[.bool (lockB who l t), .int .i64 (lockZ who l t)]) ∧ ∃ S', PMx w' base D S' (lockW who l t) (lockL who l t) ∧ Kept w w' S S' := by
  by_cases h1 : t < 0
  · have e1 : lockZ who l t = 1 := by unfold lockZ; rw [if_pos h1]
    have e2 : lockB who l t = false := decide_eq_false (fun e => absurd e.1 (by omega))
    have e3 : lockW who l t = who := by unfold lockW; rw [e2]; rfl
    have e4 : lockL who l t = l := by unfold lockL; rw [e1, if_neg (by simp)]
    rw [e1, e2, e3, e4]
    have q1 : decide (t < 0) = true := decide_eq_true h1
    have H : Hid _ := h
    clear h e1 e2 e3 e4
    go_enter Try.func12, Try.ntmps12
    go_wp2
    go_ret2
    exact ⟨rfl, S, H.out, Kept.refl _ _⟩
  have q1 : decide (t < 0) = false := decide_eq_false h1
  have hh := pm_holds h t
  obtain ⟨b, hq, hby⟩ := h.ex
  have hw := q_waits hq t ht
  rw [mxQ_has] at hw
  have H : Hid _ := h
  have HQ : Hid _ := hq
  obtain ⟨c2, c3, f2, f3, hD⟩ := hq.cells
  by_cases h2 : who = t ∨ t ∈ l
  · have e1 : lockZ who l t = 12 := by unfold lockZ; rw [if_neg h1, if_pos h2]
    have e2 : lockB who l t = false := decide_eq_false (fun e => h2.elim e.2.1 e.2.2.1)
    have e3 : lockW who l t = who := by unfold lockW; rw [e2]; rfl
    have e4 : lockL who l t = l := by unfold lockL; rw [e1, if_neg (by simp)]
    rw [e1, e2, e3, e4]
    cases hb : (decide (0 ≤ who) && (who == t)) with
    | true =>
      rw [hb] at hh
      clear h hq hw e1 e2 e3 e4 h1 h2 hby hb c2 c3
      go_enter Try.func12, Try.ntmps12
      go_wp2_with (go_at_call 27; refine hh.mono ?_; rintro e w1 ⟨rfl, rfl⟩)
      go_ret2
      exact ⟨rfl, S, H.out, Kept.refl _ _⟩
    | false =>
      have h3 : hasB l t = true := by
        rcases h2 with h2 | h2
        · rw [h2, beq_self_eq_true, decide_eq_true (by omega)] at hb
          cases hb
        · exact decide_eq_true h2
      rw [hb] at hh
      rw [h3] at hw
      clear h hq e1 e2 e3 e4 h1 h2 h3 hby hb c2 c3
      go_enter Try.func12, Try.ntmps12
      go_wp2_with (first
        | (go_at_call 30; refine hw.mono ?_; rintro e w1 ⟨rfl, b1⟩)
        | (go_at_call 27; refine hh.mono ?_; rintro e w1 ⟨rfl, rfl⟩))
      go_ret2
      exact ⟨rfl, S, H.out.fresh b1, Kept.of b1⟩
  · have hb : (decide (0 ≤ who) && (who == t)) = false := by
      rw [beq_eq_false_iff_ne.2 (fun e => h2 (Or.inl e)), Bool.and_false]
    have h3 : hasB l t = false := decide_eq_false (fun e => h2 (Or.inr e))
    have e1 : lockZ who l t = 0 := by unfold lockZ; rw [if_neg h1, if_neg h2]
    rw [hb] at hh
    rw [h3] at hw
    have HB3 : Hid (qHas (mxQ l) t = false) := by
      show _ = _
      rw [mxQ_has, h3]
    by_cases h4 : who < 0
    · have e2 : lockB who l t = true := decide_eq_true ⟨by omega, fun e => h2 (Or.inl e), fun e => h2 (Or.inr e), h4⟩
      have e3 : lockW who l t = t := by unfold lockW; rw [e2]; rfl
      have e4 : lockL who l t = l := by unfold lockL; rw [e1, if_neg (fun e => e.2 h4)]
      rw [e1, e2, e3, e4]
      rw [decide_eq_false (by omega)] at c2
      have fin : ∀ w1 : World, Below w.heap.size w w1 → PMx ((w1.setCell ⟨D, 2, none⟩ (.bool true)).setCell ⟨D, 3, none⟩ (.int .i64 t)) base D S t l ∧ Kept w ((w1.setCell ⟨D, 2, none⟩ (.bool true)).setCell ⟨D, 3, none⟩ (.int .i64 t)) S S := fun w1 b1 => by
        have k1 := (hq.fresh b1).setX (.bool true) (fun M e => by cases e)
        have k2 := k1.1.setY (.int .i64 t)
        refine ⟨⟨⟨t, ?_, fun _ => rfl⟩, fun e => absurd e h1, h.len, h.pos⟩, (Kept.of b1).trans (k1.2.trans k2.2)⟩
        rw [decide_eq_true (by omega)]
        exact k2.1
      have FIN : Hid _ := fin
      clear h hq e1 e2 e3 e4 h1 h2 h3 h4 hby hb fin
      go_enter Try.func12, Try.ntmps12
      go_wp2_with (first
        | (go_at_call 30; refine hw.mono ?_; rintro e w1 ⟨rfl, b1⟩; have z2 := (b1.cell (p := ⟨D, 2, none⟩) (by exact hD)).trans c2; have z3 := (b1.cell (p := ⟨D, 3, none⟩) (by exact hD)).trans c3; have y2 := (b1.frozen (p := ⟨D, 2, none⟩) (by exact hD)).trans f2; have y3 := (b1.frozen (p := ⟨D, 3, none⟩) (by exact hD)).trans f3)
        | (go_at_call 27; refine hh.mono ?_; rintro e w1 ⟨rfl, rfl⟩))
      go_ret2
      exact ⟨rfl, S, FIN.out _ b1⟩
    · have e2 : lockB who l t = false := decide_eq_false (fun e => h4 e.2.2.2)
      have e3 : lockW who l t = who := by unfold lockW; rw [e2]; rfl
      have e4 : lockL who l t = l ++ [t] := by unfold lockL; rw [if_pos ⟨e1, h4⟩]
      rw [e1, e2, e3, e4]
      have hj : ∀ w1 : World, Below w.heap.size w w1 → Calls Try.prog 31 #[.pointer (some ⟨D, 0, none⟩), .int .i64 t, .bool false] w1 fun e w' => e = .returned (.tuple #[]) ∧ ∃ S', PMx w' base D S' who (l ++ [t]) ∧ Kept w w' S S' := fun w1 b1 =>
        (q_join (hq.fresh b1) t false ht HB3.out (by rw [mxQ_length]; omega)).mono (fun e w' ⟨h5, S', h6, h7, _⟩ => ⟨h5, S', ⟨⟨b, by rw [mxQ_append]; exact h6, hby⟩, h.no, by rw [List.length_append]; simp; omega, fun x hx => (List.mem_append.1 hx).elim (h.pos x) (fun hx => by rw [List.mem_singleton] at hx; omega)⟩, (Kept.of b1).trans h7⟩)
      have HJ : Hid _ := hj
      rw [decide_eq_true (by omega)] at c2
      clear h hq e1 e2 e3 e4 h1 h2 h3 h4 hby hb hj
      go_enter Try.func12, Try.ntmps12
      go_wp2_with (first
        | (go_at_call 31; refine (HJ.out _ b1).mono ?_; rintro e w2 ⟨rfl, S2, hp2, hk2⟩)
        | (go_at_call 30; refine hw.mono ?_; rintro e w1 ⟨rfl, b1⟩; have z2 := (b1.cell (p := ⟨D, 2, none⟩) (by exact hD)).trans c2)
        | (go_at_call 27; refine hh.mono ?_; rintro e w1 ⟨rfl, rfl⟩))
      go_ret2
      exact ⟨rfl, S2, hp2, hk2⟩
set_option maxHeartbeats 6400000 in
set_option maxRecDepth 100000 in
theorem pm_unlock (h : PMx w base D S who l) (t : Int) : Calls Try.prog 10 #[.pointer (some ⟨D, 0, none⟩), .int .i64 t] w fun e w' => e = .returned (.tuple #[.int .i64 (unN who l t), .int .i64 (unZ who t)]) ∧ ∃ S', PMx w' base D S' (unW who l t) (unL who l t) ∧ Kept w w' S S' := by
  have hh := pm_holds h t
  obtain ⟨b, hq, hby⟩ := h.ex
  have hc : (decide (0 ≤ who) && (who == t)) = decide (¬ (t < 0 ∨ ¬ who = t)) := by
    rw [Bool.eq_iff_iff, Bool.and_eq_true, decide_eq_true_eq, beq_iff_eq, decide_eq_true_eq]
    omega
  rw [hc] at hh
  unfold unN unZ unW unL
  have H : Hid _ := h
  by_cases h1 : t < 0 ∨ ¬ who = t
  · rw [if_pos h1, if_pos h1, if_pos h1, if_pos h1]
    rw [decide_eq_false (fun e => e h1)] at hh
    clear h hq hby hc h1
    go_enter Try.func10, Try.ntmps10
    go_wp2_with (go_at_call 27; refine hh.mono ?_; rintro e w1 ⟨rfl, rfl⟩)
    go_ret2
    exact ⟨rfl, S, H.out, Kept.refl _ _⟩
  · rw [if_neg h1, if_neg h1, if_neg h1, if_neg h1]
    rw [decide_eq_true h1] at hh
    have ha := q_anybody hq
    rw [mxQ_length] at ha
    obtain ⟨c2, c3, f2, f3, hD⟩ := hq.cells
    cases l with
    | nil =>
      have k1 := hq.setX (.bool false) (fun M e => by cases e)
      have hp : PMx (w.setCell ⟨D, 2, none⟩ (.bool false)) base D S (-1) [] := ⟨⟨b, k1.1, fun e => absurd e (by decide)⟩, fun _ => rfl, Nat.zero_le _, fun x hx => (by cases hx)⟩
      have hl := pm_holder hp
      rw [decide_eq_false (by simp)] at ha
      have HP : Hid _ := hp
      have HK : Hid _ := k1.2
      have z2 := (k1.1.cells).1
      clear h hq hby hc h1 k1 hp
      go_enter Try.func10, Try.ntmps10
      go_wp2_with (first
        | (go_at_call 14; refine hl.mono ?_; rintro e w3 ⟨rfl, rfl⟩)
        | (go_at_call 28; refine ha.mono ?_; rintro e w2 ⟨rfl, rfl⟩)
        | (go_at_call 27; refine hh.mono ?_; rintro e w1 ⟨rfl, rfl⟩))
      go_ret2
      exact ⟨rfl, S, HP.out, HK.out⟩
    | cons t' l =>
      have k1 := hq.setX (.bool true) (fun M e => by cases e)
      have hlv := q_leave (q := mxQ l) (t := t') (r := false) (b := true) k1.1
      have ht' : okI t' := hq.lo (t', false, true) (by unfold mxQ; simp)
      rw [decide_eq_true (by simp)] at ha
      have z2 := (k1.1.cells).1
      have ht0 : 0 ≤ t' := h.pos t' (by simp)
      have fin : ∀ (w2 : World) (S2 : Nat → Prop), QAt w2 base D S2 69 (.bool true) (.int .i64 b) (mxQ l) → Kept (w.setCell ⟨D, 2, none⟩ (.bool true)) w2 S S2 → PMx (w2.setCell ⟨D, 3, none⟩ (.int .i64 t')) base D S2 t' l ∧ Kept w (w2.setCell ⟨D, 3, none⟩ (.int .i64 t')) S S2 := fun w2 S2 h2 h3 => by
        have k3 := h2.setY (.int .i64 t')
        refine ⟨⟨⟨t', ?_, fun _ => rfl⟩, fun e => absurd e (by omega), by have := h.len; rw [List.length_cons] at this; omega, fun x hx => h.pos x (by simp [hx])⟩, (k1.2.trans h3).trans k3.2⟩
        rw [decide_eq_true ht0]
        exact k3.1
      have FIN : Hid _ := fin
      have hfd := field_task t' false true
      clear h hq hby hc h1 k1 fin
      go_enter Try.func10, Try.ntmps10
      go_wp2_with (first
        | (go_at_call 14; refine (pm_holder hf2.1).mono ?_; rintro e w3 ⟨rfl, rfl⟩)
        | (go_at_call 29; refine hlv.mono ?_; rintro e w2 ⟨rfl, S2, hq2, hk2, _⟩; have hf2 := FIN.out w2 S2 hq2 hk2; obtain ⟨_, y3, _, x3, _⟩ := hq2.cells)
        | (go_at_call 28; refine ha.mono ?_; rintro e w2 ⟨rfl, rfl⟩)
        | (go_at_call 27; refine hh.mono ?_; rintro e w1 ⟨rfl, rfl⟩))
      go_ret2
      exact ⟨rfl, S2, hf2⟩
/-- A new row whose first k places are filled. -/
structure QRow (w wr : World) (G : Nat) (l : List Int) (k : Nat) : Prop where
  bel : Below G w wr
  ex : ∃ cs, wr.heap[G]? = some (.cells cs 3 (0, 0)) ∧ cs.size = l.length ∧ ∀ j (hj : j < l.length), j < k → cs[j]? = some (.int .i64 l[j])
theorem QRow.at {w wr : World} {G : Nat} {l : List Int} {k : Nat} (h : QRow w wr G l k) (j : Nat) (hj : j < l.length) (o : Obj) : ∃ v, (wr.alloc o).cell? ⟨G, j, none⟩ = some v ∧ (wr.alloc o).frozen? ⟨G, j, none⟩ = false := by
  obtain ⟨cs, h1, h2, _⟩ := h.ex
  have e := (Below.heap_alloc wr o G (lt_of_block h1)).trans h1
  exact ⟨cs[j]'(by omega), by simp [World.cell?, e, h2, hj], by simp [World.frozen?, e]⟩
theorem QRow.next {w wr : World} {G : Nat} {l : List Int} {k : Nat} (h : QRow w wr G l k) (hk : k < l.length) (o : Obj) : QRow w ((wr.alloc o).setCell ⟨G, k, none⟩ (.int .i64 l[k])) G l (k + 1) := by
  obtain ⟨cs, h1, h2, h3⟩ := h.ex
  have hG := lt_of_block h1
  have e := (Below.heap_alloc wr o G hG).trans h1
  refine ⟨⟨h.bel.os, h.bel.tape, h.bel.output, by have := h.bel.size; simp; omega, fun b hb => ?_⟩, cs.setIfInBounds k (.int .i64 l[k]), ?_, by simp [h2], fun j hj hjk => ?_⟩
  · rw [heap_setCell_other _ _ _ _ (by show b ≠ G; omega), Below.heap_alloc wr o b (by omega)]
    exact h.bel.block b hb
  · rw [heap_setCell_same _ G k _ _ _ e]
  · by_cases hjk2 : j = k
    · subst hjk2
      simp [h2, hj]
    · rw [Array.getElem?_setIfInBounds_ne (by omega)]
      exact h3 j hj (by omega)
theorem QRow.done {w wr : World} {G : Nat} {l : List Int} {k : Nat} (h : QRow w wr G l k) (hk : l.length ≤ k) : RowAt intC wr (.slice (some ⟨G, 0, none⟩) l.length l.length) l := by
  obtain ⟨cs, h1, h2, h3⟩ := h.ex
  refine RowAt.built h1 (l := l) ?_ l.length rfl rfl
  rw [rowL_int]
  unfold intL
  apply List.ext_getElem?
  intro j
  rw [List.getElem?_map]
  by_cases hj : j < l.length
  · rw [List.getElem?_eq_getElem hj]
    have := h3 j hj (by omega)
    simpa using this
  · rw [List.getElem?_eq_none (by simp; omega), List.getElem?_eq_none (by omega)]
    rfl
set_option maxHeartbeats 6400000 in
set_option maxRecDepth 100000 in
theorem pm_queue (h : PMx w base D S who l) : Calls Try.prog 16 #[.pointer (some ⟨D, 0, none⟩)] w fun e w' => ∃ u, e = .returned u ∧ RowAt intC w' u l ∧ Below w.heap.size w w' := by
  obtain ⟨i0, hi, hz0, hz1, hz2⟩ := info_parts infoI
  have hlen := h.len
  obtain ⟨b, hq, hby⟩ := h.ex
  obtain ⟨v, mo, ks, h1, h2, h3, h4, h5, h6⟩ := hq.ex
  have hrow := h2.row waitC_len
  obtain ⟨a, cap, rfl⟩ := h2.form
  rw [mxQ_length] at h1 hrow
  have c0 : w.cell? ⟨D, 0, none⟩ = some (.slice a l.length cap) := by simp [World.cell?, h1]
  have hD := lt_of_block h1
  have hmk := run_make (P := Try.prog) w 39 3 i0 (.int .i64 0) Try.underlying39 hi hz0 .i64 .i64 (l.length : Int) (l.length : Int) (by omega) (Int.le_refl _) (by rw [hz2]; omega) (by omega)
  rw [Int.toNat_natCast] at hmk
  have hcs : (madeCells (Value.int .i64 0).cells (l.length * i0.size)).size = l.length := by rw [size_madeCells, hz1, Nat.mul_one]
  generalize madeCells (Value.int .i64 0).cells (l.length * i0.size) = cs0 at hmk hcs
  have HB0 : Hid _ := heap_alloc_new w (.cells cs0 3)
  have HBL : Hid _ := (Below.refl _ w).alloc (Nat.le_refl _) (.cells cs0 3)
  have zc0 := (World.cell?_of_block (a := ⟨D, 0, none⟩) (Below.heap_alloc w (.cells cs0 3) D hD)).trans c0
  have HR : Hid _ := hrow
  have HCS : Hid _ := hcs
  clear h hq hby h1 h2 h3 h4 h5 h6 hrow hcs
  go_enter Try.func16, Try.ntmps16
  go_wp2
  go_loopw [4, 5, 21] (fun _ _ i wr => ∃ k : Nat, k ≤ l.length ∧ i = .int .i64 k ∧ Hid (QRow w wr w.heap.size l k)) (fun _ _ i _ => l.length - (RowKit.intOf i).toNat)
  case atStart => exact ⟨0, Nat.zero_le _, rfl, HBL.out, cs0, HB0.out, HCS.out, fun j hj h0 => absurd h0 (Nat.not_lt_zero _)⟩
  case round =>
    obtain ⟨k, hk, rfl, HN⟩ := hrel
    by_cases hkl : k < l.length
    · obtain ⟨bk, off, cp, e, hcap, hbk, hx⟩ := HR.out.cells waitC_len (by rw [mxQ_length]; omega)
      rw [mxQ_length] at e
      simp only [Value.slice.injEq] at e
      obtain ⟨rfl, _, rfl⟩ := e
      have hkm : k < (mxQ l).length := by rw [mxQ_length]; exact hkl
      have em : (mxQ l)[k] = (l[k], false, true) := List.getElem_map _
      have z0 : wr.cell? ⟨bk, off + k * 3, none⟩ = some (.int .i64 l[k]) := (HN.out.bel.cell (p := ⟨bk, off + k * 3, none⟩) (by exact hbk)).trans (hx k hkm 0 _ (by decide) (by rw [em]; rfl))
      have z1 : wr.cell? ⟨bk, off + k * 3 + 1, none⟩ = some (.bool false) := (HN.out.bel.cell (p := ⟨bk, off + k * 3 + 1, none⟩) (by exact hbk)).trans (hx k hkm 1 _ (by decide) (by rw [em]; rfl))
      have z2 : wr.cell? ⟨bk, off + k * 3 + 2, none⟩ = some (.bool true) := (HN.out.bel.cell (p := ⟨bk, off + k * 3 + 2, none⟩) (by exact hbk)).trans (hx k hkm 2 _ (by decide) (by rw [em]; rfl))
      have q0 : decide ((k : Int) < (l.length : Int)) = true := decide_eq_true (by omega)
      obtain ⟨o, zo, zf⟩ := HN.out.at k hkl (.cells #[.int .i64 l[k], .bool false, .bool true] 72)
      have NXT : Hid _ := HN.out.next hkl (.cells #[.int .i64 l[k], .bool false, .bool true] 72)
      clear hx em hkm
      generalize l[k] = X at *
      go_wp2
      go_roundw
      case rel => exact ⟨k + 1, hkl, by go_num, NXT.out⟩
      case measure => simp [RowKit.intOf]; omega
    · have q0 : decide ((k : Int) < (l.length : Int)) = false := decide_eq_false (by omega)
      have hke : k = l.length := by omega
      go_wp2
      go_ret
      exact ⟨_, rfl, HN.out.done (by omega), HN.out.bel⟩
end
end Go.Proofs.Ytlcacjekpdmigaa
