/-
  The document's rwlock (package latchkeyref08), locked: what is answered, who holds it, who waits behind it. The condition: fewer than 65536 hold it or wait.
-/
import Derived.Test.YtlcacjekpdmigaaRwMem
namespace Go.Proofs.Ytlcacjekpdmigaa
open Go.RowKit

theorem infoW : (Try.prog.info? 72).map (fun i => (i.zero, i.size, i.bytes)) = some (some (.agg #[.int .i64 0, .bool false, .bool false]), 3, 16) := by kernel_rfl
/-- Does one hold it or wait? -/
def heldB (L : List Int) (q : List Wt) (t : Int) : Bool := hasB L t || q.any fun x => x.1 == t
def rwZ (L : List Int) (q : List Wt) (t : Int) : Int := if t < 0 then 1 else if heldB L q t = true then 12 else 0
def rwB (L : List Int) (wt : Bool) (q : List Wt) (t : Int) (rd : Bool) : Bool := decide (rwZ L q t = 0) && decide (q.length = 0) && fitsB L wt rd
/-- The state behind it. -/
def rwSt (L : List Int) (wt : Bool) (q : List Wt) (t : Int) (rd : Bool) : List Int × Bool × List Wt := if rwZ L q t = 0 then (if rwB L wt q t rd = true then (putL L t, !rd, q) else (L, wt, q ++ [(t, rd, true)])) else (L, wt, q)
def heldK (L : List Int) (q : List Wt) (t : Int) (k : Nat) : Bool := hasB L t || (q.take k).any fun x => x.1 == t
theorem heldK_succ (L : List Int) (q : List Wt) (t : Int) (k : Nat) (hk : k < q.length) : heldK L q t (k + 1) = (heldK L q t k || (q[k].1 == t)) := by
  unfold heldK
  rw [List.take_succ_eq_append_getElem hk, List.any_append]
  simp [Bool.or_assoc]
section
variable {w : World} {base D : Nat} {S : Nat → Prop} {L : List Int} {wt : Bool} {q : List Wt}
set_option maxHeartbeats 3200000 in
set_option maxRecDepth 100000 in
theorem rwlock_any (h : RwAt w base D S L wt q) (t : Int) (ht : okI t) (rd : Bool) (hL : L.length < 65536) (hQ : q.length < 65536) :
    Calls Try.prog 22 #[.pointer (some ⟨D, 0, none⟩), .int .i64 t, .bool rd] w fun e w' => e = .returned (.tuple #[.bool (rwB L wt q t rd), .int .i64 (rwZ L q t)]) ∧ ∃ S', RwAt w' base D S' (rwSt L wt q t rd).1 (rwSt L wt q t rd).2.1 (rwSt L wt q t rd).2.2 ∧ Kept w w' S S' := by
  obtain ⟨a, cap, b, cap2, hb, c0, c1, c2, f0, f1, f2, hl, hq, hD⟩ := h.cells
  have hh := (has_any w _ L t (hl.at'.ints h.lo (by omega))).mono (fun e w' h => (⟨h.1, h.2.symm⟩ : e = .returned (.bool (hasB L t)) ∧ w = w'))
  have HC : Hid _ := h
  by_cases h1 : t < 0
  · have q1 : decide (t < 0) = true := decide_eq_true h1
    have e1 : rwZ L q t = 1 := by unfold rwZ; rw [if_pos h1]
    have e2 : rwB L wt q t rd = false := by unfold rwB; rw [e1]; rfl
    have e3 : rwSt L wt q t rd = (L, wt, q) := by unfold rwSt; rw [e1, if_neg (by decide)]
    rw [e1, e2, e3]
    clear hb hl hq h hh e1 e2 e3
    go_enter Try.func22, Try.ntmps22
    go_wp2
    go_ret2
    exact ⟨rfl, S, HC.out, Kept.refl _ _⟩
  have fin : ∀ (w3 : World) (u3 : Value), Below w.heap.size w w3 → w3.ownsRow w.heap.size 72 3 u3 (q.length + 1) (rowL waitC (q ++ [(t, rd, true)])) → ∃ S', RwAt (w3.setCell ⟨D, 2, none⟩ u3) base D S' L wt (q ++ [(t, rd, true)]) ∧ Kept w (w3.setCell ⟨D, 2, none⟩ u3) S S' := fun w3 u3 b3 r3 =>
    ⟨_, h.setQ b3 (OwnRow.new (k := 3) (T := 72) waitC_len (by rw [List.length_append]; exact r3) hD (fun x h1 h2 => Or.inr ⟨h1, h2⟩)) (fun x hx => by
      rcases List.mem_append.1 hx with hx | hx
      · exact h.qlo x hx
      · rw [List.mem_singleton] at hx
        rw [hx]
        exact ht), h.kept1 b3 2 u3⟩
  have FIN : Hid _ := fin
  obtain ⟨i0, hi, hz0, hz1, hz2⟩ := info_parts infoW
  clear fin
  have q1 : decide (t < 0) = false := decide_eq_false h1
  have H1 : Hid _ := h1
  have HQ : Hid _ := hq.at'
  have HOQ : Hid _ := hq
  clear hb hl hq h
  go_enter Try.func22, Try.ntmps22
  go_wp2_with (go_at_call 26; refine hh.mono ?_; rintro e w1 ⟨rfl, rfl⟩)
  go_loop [8, 9] (fun hd i => ∃ k : Nat, k ≤ q.length ∧ i = .int .i64 k ∧ hd = .bool (heldK L q t k)) (fun _ i => q.length - (intOf i).toNat)
  case atStart => exact ⟨0, Nat.zero_le _, rfl, by unfold heldK; simp⟩
  case round =>
    obtain ⟨k, hk, rfl, rfl⟩ := hrel
    by_cases hkl : k < q.length
    · obtain ⟨bk, off, cp, e, hcap, hbk, hx⟩ := HQ.out.cells waitC_len (by omega)
      simp only [Value.slice.injEq] at e
      obtain ⟨rfl, _, rfl⟩ := e
      have z0 : w.cell? ⟨bk, off + k * 3, none⟩ = some (.int .i64 q[k].1) := hx k hkl 0 _ (by decide) rfl
      have HS : Hid _ := heldK_succ L q t k hkl
      clear hx
      cases hb : heldK L q t k with
      | true =>
        have HS2 : Hid (heldK L q t (k + 1) = true) := by
          have := HS.out
          rw [hb, Bool.true_or] at this
          exact this
        clear HS hb
        go_wp2
        go_round
        case rel => exact ⟨k + 1, hkl, by go_num, by rw [HS2.out]⟩
        case measure => simp [intOf]; omega
      | false =>
        have HS2 : Hid (heldK L q t (k + 1) = (q[k].1 == t)) := by
          have := HS.out
          rw [hb, Bool.false_or] at this
          exact this
        clear HS hb
        go_wp2
        go_round
        case rel => exact ⟨k + 1, hkl, by go_num, by rw [HS2.out]⟩
        case measure => simp [intOf]; omega
    · have hke : k = q.length := by omega
      subst hke
      have he : heldK L q t q.length = heldB L q t := by unfold heldK heldB; rw [List.take_length]
      rw [he]
      cases hb : heldB L q t with
      | true =>
        have e1 : rwZ L q t = 12 := by unfold rwZ; rw [if_neg H1.out, if_pos hb]
        have HE1 : Hid _ := e1
        have HE2 : Hid (rwB L wt q t rd = false) := by
          show _ = _
          unfold rwB
          rw [e1]
          rfl
        have HE3 : Hid (rwSt L wt q t rd = (L, wt, q)) := by
          show _ = _
          unfold rwSt
          rw [e1, if_neg (by decide)]
        clear hb he e1 hk
        go_wp2
        go_ret2
        exact ⟨by rw [HE1.out, HE2.out]; rfl, S, by rw [HE3.out]; exact HC.out, Kept.refl _ _⟩
      | false =>
        have e1 : rwZ L q t = 0 := by unfold rwZ; rw [if_neg H1.out, hb]; rfl
        have HE1 : Hid _ := e1
        clear hb he hk
        by_cases h0 : q.length = 0
        · have q0 : ((q.length : Int) == 0) = true := by rw [beq_iff_eq]; omega
          have hf := rfits_any HC.out rd
          cases hfb : fitsB L wt rd with
          | true =>
            rw [hfb] at hf
            have hg := rgive_any HC.out t ht rd hL
            have HE2 : Hid (rwB L wt q t rd = true) := by
              show _ = _
              unfold rwB
              rw [e1, h0, hfb]
              rfl
            have HE3 : Hid (rwSt L wt q t rd = (putL L t, !rd, q)) := by
              show _ = _
              unfold rwSt
              rw [e1, if_pos rfl, HE2.out, if_pos rfl]
            clear hfb h0 e1
            go_wp2_with (first
              | (go_at_call 38; refine hg.mono ?_; rintro e w2 ⟨rfl, S2, hr2, hk2, _⟩)
              | (go_at_call 37; refine hf.mono ?_; rintro e w1 ⟨rfl, rfl⟩))
            go_ret2
            exact ⟨by rw [HE1.out, HE2.out]; rfl, S2, by rw [HE3.out]; exact hr2, hk2⟩
          | false =>
            rw [hfb] at hf
            have HE2 : Hid (rwB L wt q t rd = false) := by
              show _ = _
              unfold rwB
              rw [hfb, Bool.and_false]
            have HE3 : Hid (rwSt L wt q t rd = (L, wt, q ++ [(t, rd, true)])) := by
              show _ = _
              unfold rwSt
              rw [e1, if_pos rfl, HE2.out, if_neg (by decide)]
            have H0 : Hid _ := h0
            clear hfb h0 e1
            go_wp2_with (first
              | (at_builtin; have kz := d2; refine wpList_app_row (k := 3) (enc := waitC) (l := [(t, rd, true)]) rfl (.tmp 61) (.tmp 65) 49 72 rfl i0 _ 16 Try.underlying49 hi hz0 hz1 hz2 rfl (by decide) waitC_len waitC_one rfl rfl (h2.alloc _) (RowAt.built (heap_alloc_new w2 _) rfl 1 rfl rfl) (by simp; have := d2.size; omega) (by simp; omega) (by simp; omega) ?_; intro u3 w3 h3 b3; obtain ⟨p3, n3, q3, rfl⟩ := own_form h3; have b4 : Below w.heap.size w w3 := (d2.alloc d2.size _).trans b3.below; have z3 := (b4.cell (p := ⟨D, 2, none⟩) (by exact hD)).trans c2; have y3 := (b4.frozen (p := ⟨D, 2, none⟩) (by exact hD)).trans f2)
              | (at_builtin; refine wpList_app_row (k := 3) (enc := waitC) (l := q) rfl (.const (.slice none 0 0)) (.tmp 60) 49 72 rfl i0 _ 16 Try.underlying49 hi hz0 hz1 hz2 rfl (by decide) waitC_len waitC_one (base := w.heap.size) (n := 0) (xs := []) rfl rfl (World.ownsRow_nil _ _ _ _) HQ.out (Nat.le_refl _) (by omega) (by omega) ?_; intro u2 w2 h2 dd2; have d2 := dd2.below)
              | (go_at_call 37; refine hf.mono ?_; rintro e w1 ⟨rfl, rfl⟩))
            go_ret2
            refine ⟨by rw [HE1.out, HE2.out]; rfl, ?_⟩
            rw [HE3.out]
            refine FIN.out _ _ b4 ?_
            have e3 : 0 + q.length + [(t, rd, true)].length = q.length + 1 := by simp
            have e4 : [] ++ rowL waitC q ++ rowL waitC [(t, rd, true)] = rowL waitC (q ++ [(t, rd, true)]) := by rw [rowL_append]; simp
            rw [e3, e4] at h3
            exact h3
        · have q0 : ((q.length : Int) == 0) = false := by rw [beq_eq_false_iff_ne]; omega
          have HE2 : Hid (rwB L wt q t rd = false) := by
            show _ = _
            unfold rwB
            rw [decide_eq_false h0, Bool.and_false, Bool.false_and]
          have HE3 : Hid (rwSt L wt q t rd = (L, wt, q ++ [(t, rd, true)])) := by
            show _ = _
            unfold rwSt
            rw [e1, if_pos rfl, HE2.out, if_neg (by decide)]
          clear h0 e1
          go_wp2_with (first
            | (at_builtin; have kz := d2; refine wpList_app_row (k := 3) (enc := waitC) (l := [(t, rd, true)]) rfl (.tmp 61) (.tmp 65) 49 72 rfl i0 _ 16 Try.underlying49 hi hz0 hz1 hz2 rfl (by decide) waitC_len waitC_one rfl rfl (h2.alloc _) (RowAt.built (heap_alloc_new w2 _) rfl 1 rfl rfl) (by simp; have := d2.size; omega) (by simp; omega) (by simp; omega) ?_; intro u3 w3 h3 b3; obtain ⟨p3, n3, q3, rfl⟩ := own_form h3; have b4 : Below w.heap.size w w3 := (d2.alloc d2.size _).trans b3.below; have z3 := (b4.cell (p := ⟨D, 2, none⟩) (by exact hD)).trans c2; have y3 := (b4.frozen (p := ⟨D, 2, none⟩) (by exact hD)).trans f2)
            | (at_builtin; refine wpList_app_row (k := 3) (enc := waitC) (l := q) rfl (.const (.slice none 0 0)) (.tmp 60) 49 72 rfl i0 _ 16 Try.underlying49 hi hz0 hz1 hz2 rfl (by decide) waitC_len waitC_one (base := w.heap.size) (n := 0) (xs := []) rfl rfl (World.ownsRow_nil _ _ _ _) HQ.out (Nat.le_refl _) (by omega) (by omega) ?_; intro u2 w2 h2 dd2; have d2 := dd2.below))
          go_ret2
          refine ⟨by rw [HE1.out, HE2.out]; rfl, ?_⟩
          rw [HE3.out]
          refine FIN.out _ _ b4 ?_
          have e3 : 0 + q.length + [(t, rd, true)].length = q.length + 1 := by simp
          have e4 : [] ++ rowL waitC q ++ rowL waitC [(t, rd, true)] = rowL waitC (q ++ [(t, rd, true)]) := by rw [rowL_append]; simp
          rw [e3, e4] at h3
          exact h3
end
end Go.Proofs.Ytlcacjekpdmigaa
