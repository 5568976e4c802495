/-
  The program's rwlock (package lmutex), given to one. The conditions: there is room for it; it neither holds it nor waits; its number is an int's; fewer than 65536 hold it or wait.
-/
import Derived.Test.YtlcacjekpdmigaaRwCodeA
namespace Go.Proofs.Ytlcacjekpdmigaa
open Go.RowKit

section
variable {w w' : World} {base base' D : Nat} {S S' : Nat → Prop} {L : List Int} {wt : Bool} {q : List Wt}
/-- Behind it all is in its place. -/
theorem hold_fin (h : PRw w base D S L wt q) (t : Int) (rd : Bool) (ht : okI t) (htL : t ∉ L) (htq : t ∉ q.map (·.1)) (hf : fitsB L wt rd = true) (hN : L.length + q.length < 65536) {hs : List Int} {M : Nat} (hp : hs.Perm L) (hq : QAt w' base D S' 76 (.map (some M)) (.bool (!rd)) q) (hs' : SetAt w' M (hs ++ [t])) (hM : S' M) : PRw w' base D S' (putL L t) (!rd) q := by
  refine ⟨⟨some M, hs ++ [t], ?_, SetO.some hs', fun M' e => (by cases e; exact hM), ?_⟩, putL_sorted L t h.srt htL, fun e => ?_, fun z hz => ?_, by rw [putL_length]; omega, fun z hz => ?_⟩
  · rw [putL_length, decide_eq_true (by omega), Bool.and_true]
    exact hq
  · exact (List.perm_append_comm.trans (List.Perm.cons t hp)).trans (putL_perm L t).symm
  · have e2 : rd = false := by simpa using e
    rw [e2] at hf
    unfold fitsB at hf
    rw [Bool.false_and, Bool.or_false, decide_eq_true_eq] at hf
    rw [putL_length]
    omega
  · rcases putL_mem hz with e | hz
    · rw [e]; exact htq
    · exact h.dis z hz
  · rcases putL_mem hz with e | hz
    · rw [e]; exact ht
    · exact h.lo z hz
set_option maxHeartbeats 6400000 in
set_option maxRecDepth 100000 in
theorem pr_hold (h : PRw w base D S L wt q) (t : Int) (rd : Bool) (ht : okI t) (htL : t ∉ L) (htq : t ∉ q.map (·.1)) (hf : fitsB L wt rd = true) (hN : L.length + q.length < 65536) :
    Calls Try.prog 35 #[.pointer (some ⟨D, 0, none⟩), .int .i64 t, .bool rd] w fun e w' => e = .returned (.tuple #[]) ∧ ∃ S', PRw w' base D S' (putL L t) (!rd) q ∧ Kept w w' S S' := by
  obtain ⟨ho, hs, hq, h2, h3, h4⟩ := h.ex
  have hnk : t ∉ hs := fun e => htL (h4.mem_iff.1 e)
  have hkl : hs.length < maxLen := by
    have := h4.length_eq
    unfold maxLen
    omega
  obtain ⟨c2, c3', f2, f3', hD⟩ := hq.cells
  rcases h2.ex with ⟨rfl, rfl⟩ | ⟨M, rfl, h7⟩
  · have heq := map_is_nil
    have hmk := @run_makeMap Try.prog
    have hq1 := hq.fresh ((Below.refl _ w).alloc (Nat.le_refl _) (.map #[] 0))
    have k2 := hq1.setX (.map (some w.heap.size)) (fun M e => by
      simp only [Value.map.injEq, Option.some.injEq] at e
      subst e
      exact ⟨by simp, fun e => by have := (hq.bd _ e).2; omega⟩)
    have z1 := (k2.1.cells).1
    have z2 := (hq1.cells).1
    have z3 := (hq1.cells).2.2.1
    have hst := (set_new w).keep (w' := (w.alloc (.map #[] 0)).setCell ⟨D, 2, none⟩ (.map (some w.heap.size))) (heap_setCell_other _ _ _ _ (by show w.heap.size ≠ D; omega))
    obtain ⟨w3, hup, hs3, hg3, hz3⟩ := set_put hst ht (by unfold maxLen; simp) hnk
    have hq3 := k2.1.turnX hst hg3
    have hMD : w.heap.size ≠ D := by omega
    have c3 : w3.cell? ⟨D, 3, none⟩ = some (.bool (wt && decide (0 < L.length))) := (hq3.cells).2.1
    have f3 : w3.frozen? ⟨D, 3, none⟩ = false := (hq3.cells).2.2.2.1
    have k4 := hq3.setY (.bool (!rd))
    have hs4 := hs3.keep (w' := w3.setCell ⟨D, 3, none⟩ (.bool (!rd))) (heap_setCell_other _ _ _ _ (by simpa using hMD))
    have KK : Kept w (w3.setCell ⟨D, 3, none⟩ (.bool (!rd))) S (fun b => S b ∨ b = w.heap.size) := by
      have k5 : Kept w (w3.setCell ⟨D, 3, none⟩ (.bool (!rd))) S S := ⟨k4.2.os.trans hg3.os, k4.2.tape.trans hg3.tape, k4.2.output.trans hg3.output, by simp [hz3], fun b hb => Or.inl hb, fun b hb hn => by
        rw [k4.2.kept b (by rw [hz3]; simp; omega) hn, hg3.block b (by simp; omega) (fun e => by have := Option.some.inj e; omega), k2.2.kept b (by simp; omega) hn, Below.heap_alloc w _ b hb]⟩
      exact ⟨k5.os, k5.tape, k5.output, k5.size, fun b hb => hb.imp id (fun e => by omega), k5.kept⟩
    have FIN : Hid _ := hold_fin (S' := fun b => S b ∨ b = w.heap.size) h t rd ht htL htq hf hN h4 (k4.1.grow (fun b hb => Or.inl hb) (fun b hb => by
      rcases hb with hb | hb
      · exact k4.1.bd b hb
      · have := hq.base_le
        exact ⟨by omega, by simp [hz3]; omega⟩)) hs4 (Or.inr rfl)
    have HK : Hid _ := KK
    clear h hq h2 h3 h4 hnk hkl hf hq1 k2 hst hs3 hg3 hq3 k4 hs4 KK htL htq hD hMD hz3
    go_enter Try.func35, Try.ntmps35
    go_wp2
    go_returns
    exact ⟨rfl, _, FIN.out, HK.out⟩
  · have heq := map_no_nil M
    obtain ⟨w3, hup, hs3, hg3, hz3⟩ := set_put h7 ht hkl hnk
    have hq3 := hq.turnX h7 hg3
    have hMD : M ≠ D := by
      obtain ⟨v, mo, ks, h1, _⟩ := hq.ex
      exact h7.ne h1
    have c3 : w3.cell? ⟨D, 3, none⟩ = some (.bool (wt && decide (0 < L.length))) := (hq3.cells).2.1
    have f3 : w3.frozen? ⟨D, 3, none⟩ = false := (hq3.cells).2.2.2.1
    have k4 := hq3.setY (.bool (!rd))
    have hs4 := hs3.keep (w' := w3.setCell ⟨D, 3, none⟩ (.bool (!rd))) (heap_setCell_other _ _ _ _ (by simpa using hMD))
    have KK : Kept w (w3.setCell ⟨D, 3, none⟩ (.bool (!rd))) S S := ⟨k4.2.os.trans hg3.os, k4.2.tape.trans hg3.tape, k4.2.output.trans hg3.output, by simp [hz3], fun b hb => Or.inl hb, fun b hb hn => by
        rw [k4.2.kept b (by rw [hz3]; omega) hn, hg3.block b hb (fun e => hn (by rw [Option.some.inj e]; exact h3 M rfl))]⟩
    have FIN : Hid _ := hold_fin (S' := S) h t rd ht htL htq hf hN h4 k4.1 hs4 (h3 M rfl)
    have HK : Hid _ := KK
    clear h hq h2 h3 h4 hnk hkl hf h7 hs3 hg3 hq3 k4 hs4 KK htL htq
    go_enter Try.func35, Try.ntmps35
    go_wp2
    go_returns
    exact ⟨rfl, _, FIN.out, HK.out⟩
end
end Go.Proofs.Ytlcacjekpdmigaa
