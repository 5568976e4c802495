/-
  The program's rwlock (package lmutex): locked; who holds it, who waits for it. The conditions: the task's number is an int's; fewer than 65536 hold it or wait.
-/
import Derived.Test.YtlcacjekpdmigaaRwKeys
namespace Go.Proofs.Ytlcacjekpdmigaa
open Go.RowKit

section
variable {w w' : World} {base base' D : Nat} {S S' : Nat → Prop} {L : List Int} {wt : Bool} {q : List Wt}
/-- One more waits. -/
theorem pr_join (h : PRw w base D S L wt q) (t : Int) (rd : Bool) (ht : okI t) (htL : hasB L t = false) (htq : qHas q t = false) (hN : L.length + q.length < 65536) :
    Calls Try.prog 31 #[.pointer (some ⟨D, 0, none⟩), .int .i64 t, .bool rd] w fun e w' => e = .returned (.tuple #[]) ∧ ∃ S', PRw w' base D S' L wt (q ++ [(t, rd, true)]) ∧ Kept w w' S S' := by
  obtain ⟨ho, hs, hq, h2, h3, h4⟩ := h.ex
  refine (q_join hq t rd ht htq (by omega)).mono ?_
  rintro e w' ⟨rfl, S', h5, h6, h7, h8⟩
  refine ⟨rfl, S', ⟨⟨ho, hs, h5, h2.keepX h7, fun M e => h8 M (h3 M e), h4⟩, h.srt, h.one, fun z hz e => ?_, by rw [List.length_append]; simp; omega, h.lo⟩, h6⟩
  rw [List.map_append, List.mem_append] at e
  rcases e with e | e
  · exact h.dis z hz e
  · have e2 : z = t := by simpa using e
    rw [e2] at hz
    have := decide_eq_true hz
    unfold hasB at htL
    rw [htL] at this
    cases this
set_option maxHeartbeats 6400000 in
set_option maxRecDepth 100000 in
theorem pr_lock (h : PRw w base D S L wt q) (t : Int) (ht : okI t) (rd : Bool) (hN : L.length + q.length < 65536) : Calls Try.prog 21 #[.pointer (some ⟨D, 0, none⟩), .int .i64 t, .bool rd] w fun e w' => e = .returned (.tuple #[.bool (rwB L wt q t rd), .int .i64 (rwZ L q t)]) ∧ ∃ S', PRw w' base D S' (rwSt L wt q t rd).1 (rwSt L wt q t rd).2.1 (rwSt L wt q t rd).2.2 ∧ Kept w w' S S' := by
  have H : Hid _ := h
  by_cases h1 : t < 0
  · have e1 : rwZ L q t = 1 := by unfold rwZ; rw [if_pos h1]
    have e2 : rwB L wt q t rd = false := by unfold rwB; rw [e1]; rfl
    have e3 : rwSt L wt q t rd = (L, wt, q) := by unfold rwSt; rw [e1, if_neg (by decide)]
    rw [e1, e2, e3]
    have q1 : decide (t < 0) = true := decide_eq_true h1
    clear h e1 e2 e3
    go_enter Try.func21, Try.ntmps21
    go_wp2
    go_ret2
    exact ⟨rfl, S, H.out, Kept.refl _ _⟩
  have q1 : decide (t < 0) = false := decide_eq_false h1
  have hh := pr_holds h t ht
  have hw : ∀ w1 : World, Below w.heap.size w w1 → Calls Try.prog 30 #[.pointer (some ⟨D, 0, none⟩), .int .i64 t] w1 fun e w2 => e = .returned (.bool (qHas q t)) ∧ Below w.heap.size w w2 := fun w1 b1 => by
    obtain ⟨ho, hs, hq, _⟩ := (h.fresh b1).ex
    exact (q_waits hq t ht).mono (fun e w2 h => ⟨h.1, b1.trans (h.2.mono b1.size)⟩)
  have HW : Hid _ := hw
  cases hb : hasB L t with
  | true =>
    have e1 : rwZ L q t = 12 := by unfold rwZ heldB; rw [if_neg h1, hb]; rfl
    have e2 : rwB L wt q t rd = false := by unfold rwB; rw [e1]; rfl
    have e3 : rwSt L wt q t rd = (L, wt, q) := by unfold rwSt; rw [e1, if_neg (by decide)]
    rw [e1, e2, e3]
    rw [hb] at hh
    clear h hw e1 e2 e3 h1 hb
    go_enter Try.func21, Try.ntmps21
    go_wp2_with (go_at_call 32; refine hh.mono ?_; rintro e w1 ⟨rfl, b1⟩)
    go_ret2
    exact ⟨rfl, S, H.out.fresh b1, Kept.of b1⟩
  | false =>
    rw [hb] at hh
    cases hc : qHas q t with
    | true =>
      have e1 : rwZ L q t = 12 := by
        unfold rwZ heldB
        unfold qHas at hc
        rw [if_neg h1, hb, hc]
        rfl
      have e2 : rwB L wt q t rd = false := by unfold rwB; rw [e1]; rfl
      have e3 : rwSt L wt q t rd = (L, wt, q) := by unfold rwSt; rw [e1, if_neg (by decide)]
      rw [e1, e2, e3]
      rw [hc] at HW
      clear h hw e1 e2 e3 h1 hb hc
      go_enter Try.func21, Try.ntmps21
      go_wp2_with (first
        | (go_at_call 30; refine (HW.out _ b1).mono ?_; rintro e w2 ⟨rfl, b2⟩)
        | (go_at_call 32; refine hh.mono ?_; rintro e w1 ⟨rfl, b1⟩))
      go_ret2
      exact ⟨rfl, S, H.out.fresh b2, Kept.of b2⟩
    | false =>
      have e1 : rwZ L q t = 0 := by
        unfold rwZ heldB
        unfold qHas at hc
        rw [if_neg h1, hb, hc]
        rfl
      have ha : ∀ w1 : World, Below w.heap.size w w1 → Calls Try.prog 28 #[.pointer (some ⟨D, 0, none⟩)] w1 fun e w2 => e = .returned (.bool (decide (0 < q.length))) ∧ w1 = w2 := fun w1 b1 => by
        obtain ⟨ho, hs, hq, _⟩ := (h.fresh b1).ex
        exact q_anybody hq
      have HA : Hid _ := ha
      have hr : ∀ w1 : World, Below w.heap.size w w1 → Calls Try.prog 33 #[.pointer (some ⟨D, 0, none⟩), .bool rd] w1 fun e w2 => e = .returned (.bool (fitsB L wt rd)) ∧ w1 = w2 := fun w1 b1 => pr_room (h.fresh b1) rd
      have HR : Hid _ := hr
      have hj : ∀ w1 : World, Below w.heap.size w w1 → Calls Try.prog 31 #[.pointer (some ⟨D, 0, none⟩), .int .i64 t, .bool rd] w1 fun e w' => e = .returned (.tuple #[]) ∧ ∃ S', PRw w' base D S' L wt (q ++ [(t, rd, true)]) ∧ Kept w w' S S' := fun w1 b1 =>
        (pr_join (h.fresh b1) t rd ht hb hc hN).mono (fun e w' ⟨h5, S', h6, h7⟩ => ⟨h5, S', h6, (Kept.of b1).trans h7⟩)
      have HJ : Hid _ := hj
      rw [hc] at HW
      by_cases h0 : 0 < q.length
      · have e2 : rwB L wt q t rd = false := by unfold rwB; rw [decide_eq_false (p := q.length = 0) (by omega), Bool.and_false, Bool.false_and]
        have e3 : rwSt L wt q t rd = (L, wt, q ++ [(t, rd, true)]) := by unfold rwSt; rw [e1, if_pos rfl, e2, if_neg (by decide)]
        rw [e1, e2, e3]
        rw [decide_eq_true h0] at HA
        clear h hw e1 e2 e3 h1 hb hc ha hr hj h0
        go_enter Try.func21, Try.ntmps21
        go_wp2_with (first
          | (go_at_call 31; refine (HJ.out _ b2).mono ?_; rintro e w4 ⟨rfl, S4, hp4, hk4⟩)
          | (go_at_call 28; refine (HA.out _ b2).mono ?_; rintro e w3 ⟨rfl, rfl⟩)
          | (go_at_call 30; refine (HW.out _ b1).mono ?_; rintro e w2 ⟨rfl, b2⟩)
          | (go_at_call 32; refine hh.mono ?_; rintro e w1 ⟨rfl, b1⟩))
        go_ret2
        exact ⟨rfl, S4, hp4, hk4⟩
      · have h00 : q.length = 0 := by omega
        rw [decide_eq_false h0] at HA
        cases hf : fitsB L wt rd with
        | false =>
          have e2 : rwB L wt q t rd = false := by unfold rwB; rw [hf, Bool.and_false]
          have e3 : rwSt L wt q t rd = (L, wt, q ++ [(t, rd, true)]) := by unfold rwSt; rw [e1, if_pos rfl, e2, if_neg (by decide)]
          rw [e1, e2, e3]
          rw [hf] at HR
          clear h hw e1 e2 e3 h1 hb hc ha hr hj h0 h00 hf
          go_enter Try.func21, Try.ntmps21
          go_wp2_with (first
            | (go_at_call 31; refine (HJ.out _ b2).mono ?_; rintro e w4 ⟨rfl, S4, hp4, hk4⟩)
            | (go_at_call 33; refine (HR.out _ b2).mono ?_; rintro e w3 ⟨rfl, rfl⟩)
            | (go_at_call 28; refine (HA.out _ b2).mono ?_; rintro e w3 ⟨rfl, rfl⟩)
            | (go_at_call 30; refine (HW.out _ b1).mono ?_; rintro e w2 ⟨rfl, b2⟩)
            | (go_at_call 32; refine hh.mono ?_; rintro e w1 ⟨rfl, b1⟩))
          go_ret2
          exact ⟨rfl, S4, hp4, hk4⟩
        | true =>
          have e2 : rwB L wt q t rd = true := by unfold rwB; rw [e1, h00, hf]; rfl
          have e3 : rwSt L wt q t rd = (putL L t, !rd, q) := by unfold rwSt; rw [e1, if_pos rfl, e2, if_pos rfl]
          rw [e1, e2, e3]
          have hg : ∀ w1 : World, Below w.heap.size w w1 → Calls Try.prog 35 #[.pointer (some ⟨D, 0, none⟩), .int .i64 t, .bool rd] w1 fun e w' => e = .returned (.tuple #[]) ∧ ∃ S', PRw w' base D S' (putL L t) (!rd) q ∧ Kept w w' S S' := fun w1 b1 =>
            (pr_hold (h.fresh b1) t rd ht (fun e => by have := decide_eq_true e; unfold hasB at hb; rw [hb] at this; cases this) (fun e => by have := qHas_iff.2 e; rw [hc] at this; cases this) hf hN).mono (fun e w' ⟨h5, S', h6, h7⟩ => ⟨h5, S', h6, (Kept.of b1).trans h7⟩)
          have HG : Hid _ := hg
          rw [hf] at HR
          clear h hw e1 e2 e3 h1 hb hc ha hr hj h0 h00 hf hg
          go_enter Try.func21, Try.ntmps21
          go_wp2_with (first
            | (go_at_call 35; refine (HG.out _ b2).mono ?_; rintro e w4 ⟨rfl, S4, hp4, hk4⟩)
            | (go_at_call 33; refine (HR.out _ b2).mono ?_; rintro e w3 ⟨rfl, rfl⟩)
            | (go_at_call 28; refine (HA.out _ b2).mono ?_; rintro e w3 ⟨rfl, rfl⟩)
            | (go_at_call 30; refine (HW.out _ b1).mono ?_; rintro e w2 ⟨rfl, b2⟩)
            | (go_at_call 32; refine hh.mono ?_; rintro e w1 ⟨rfl, b1⟩))
          go_ret2
          exact ⟨rfl, S4, hp4, hk4⟩
end
end Go.Proofs.Ytlcacjekpdmigaa
