/-
  The document's mutex (package latchkeyref08), unlocked, and both calls whole: what is answered, who holds it, who waits behind them. The condition: at most 65535 wait.
-/
import Derived.Test.YtlcacjekpdmigaaMxLock
namespace Go.Proofs.Ytlcacjekpdmigaa
open Go.RowKit

section
variable {w : World} {base D : Nat} {S : Nat → Prop} {l : List Int} {who : Int}
theorem rlock_any (h : MxAt w base D S who l) (t : Int) (ht : t ≤ 9223372036854775807) (hl : l.length < 65536) : Calls Try.prog 13 #[.pointer (some ⟨D, 0, none⟩), .int .i64 t] w fun e w' => e = .returned (.tuple #[.bool (lockB who l t), .int .i64 (lockZ who l t)]) ∧ ∃ S', MxAt w' base D S' (lockW who l t) (lockL who l t) ∧ Kept w w' S S' := by
  by_cases hz : t < 0 ∨ who = t ∨ t ∈ l
  · have e1 : lockB who l t = false := decide_eq_false (fun ⟨a, b, c, _⟩ => by
      rcases hz with hz | hz | hz
      · omega
      · exact b hz
      · exact c hz)
    have e2 : lockZ who l t = if t < 0 then 1 else 12 := by
      unfold lockZ
      by_cases h1 : t < 0
      · rw [if_pos h1, if_pos h1]
      · rw [if_neg h1, if_neg h1, if_pos (hz.elim (fun h => absurd h h1) id)]
    have e3 : lockW who l t = who := by unfold lockW; rw [e1]; rfl
    have e4 : lockL who l t = l := by
      unfold lockL
      rw [if_neg]
      rw [e2]
      by_cases h1 : t < 0
      · rw [if_pos h1]; omega
      · rw [if_neg h1]; omega
    rw [e1, e2, e3, e4]
    refine (rlock_no h t hz).mono fun e w' ⟨h1, h2⟩ => ⟨h1, S, ?_⟩
    subst h2
    exact ⟨h, Kept.refl _ _⟩
  · have h1 : ¬ t < 0 := fun h => hz (Or.inl h)
    have h2 : ¬ who = t := fun h => hz (Or.inr (Or.inl h))
    have h3 : t ∉ l := fun h => hz (Or.inr (Or.inr h))
    have e2 : lockZ who l t = 0 := by unfold lockZ; rw [if_neg h1, if_neg (fun h => h.elim h2 h3)]
    by_cases h4 : who < 0
    · have e1 : lockB who l t = true := decide_eq_true ⟨by omega, h2, h3, h4⟩
      have e3 : lockW who l t = t := by unfold lockW; rw [e1]; rfl
      have e4 : lockL who l t = l := by unfold lockL; rw [if_neg (fun h => h.2 h4)]
      rw [e1, e2, e3, e4]
      exact (rlock_got h t h1 h2 h3 h4).mono fun e w' ⟨g1, g2⟩ => ⟨g1, S, g2⟩
    · have e1 : lockB who l t = false := decide_eq_false (fun h => h4 h.2.2.2)
      have e3 : lockW who l t = who := by unfold lockW; rw [e1]; rfl
      have e4 : lockL who l t = l ++ [t] := by unfold lockL; rw [if_pos ⟨e2, h4⟩]
      rw [e1, e2, e3, e4]
      exact rlock_wait h t h1 h2 h3 h4 ht hl
def unZ (who t : Int) : Int := if t < 0 ∨ ¬ who = t then 13 else 0
def unN (who : Int) (l : List Int) (t : Int) : Int := if t < 0 ∨ ¬ who = t then 0 else l.headD (-1)
def unW (who : Int) (l : List Int) (t : Int) : Int := if t < 0 ∨ ¬ who = t then who else l.headD (-1)
def unL (who : Int) (l : List Int) (t : Int) : List Int := if t < 0 ∨ ¬ who = t then l else l.tail
def tailA (bk off c : Nat) : Addr := if c = 1 then ⟨bk, off, none⟩ else ⟨bk, off + 1, none⟩
theorem slice_tail1 (bk off len c : Nat) (hn : 1 ≤ len) (w : World) : (Instr.sliceAt 39 (.slice (some ⟨bk, off, none⟩) len c) (some (.int .i64 1)) none none).run Try.prog w = .ok (.slice (some (tailA bk off c)) (len - 1) (c - 1)) w := by
  obtain ⟨i0, hi, _, hz1, _⟩ := info_parts infoI
  have hu := Try.underlying39
  have he : Try.prog.elem 39 = 3 := by kernel_rfl
  have hu2 : Try.prog.underlying 39 = some (.slice (Try.prog.elem 39)) := by rw [he]; exact hu
  have hsz : ∀ w, (sizeOf 3).run Try.prog w = .ok 1 w := fun w => by simp [sizeOf, typeInfo, hi, hz1]
  have hnat : (1 : Int).toNat = 1 := rfl
  rw [run_sliceAt_slice _ _ _ _ _ _ hu2, run_slice_l _ _ _ _ _ hu2 _ _ (by omega) (by omega), he, hsz]
  simp only [Result.andThen_ok, sliced, hnat]
  unfold tailA
  by_cases hc : c = 1
  · rw [if_pos hc, if_pos hc]
  · rw [if_neg hc, if_neg hc]
    simp [Addr.add_mid]
theorem OwnInts.tail {v : Value} {bk off cap : Nat} {x : Int} (h : OwnInts w S D v (x :: l)) (hv : v = .slice (some ⟨bk, off, none⟩) (l.length + 1) cap) : OwnInts w S D (.slice (some (tailA bk off cap)) l.length (cap - 1)) l := by
  obtain ⟨a, c, e, hc, h0 | ⟨bk', off', ha, hb, hx⟩⟩ := h.at'.ex
  · simp at h0
  rw [hv] at e
  simp only [Value.slice.injEq, List.length_cons] at e
  obtain ⟨e1, _, e3⟩ := e
  subst e1 e3
  cases ha
  rw [List.length_cons] at hc
  have hmx := h.mx
  rw [List.length_cons] at hmx
  refine ⟨⟨⟨_, _, rfl, by omega, ?_⟩, fun y hy => h.at'.lo y (List.mem_cons_of_mem _ hy), by unfold maxLen; omega⟩, fun a bk' off' n c h0 e1 e2 => ?_, by omega, fun n c e => by simp at e⟩
  · by_cases hl : l.length = 0
    · exact Or.inl hl
    · refine Or.inr ⟨bk, off + 1, by unfold tailA; rw [if_neg (by omega)], hb, fun j hj => ?_⟩
      have := hx (j + 1) (by simp; omega)
      rw [Nat.add_assoc, Nat.add_comm 1 j]
      simpa using this
  · simp only [Value.slice.injEq] at e1
    refine h.own _ bk off _ _ (by simp) hv rfl |>.imp (fun h => ?_) (fun h => ?_)
    · rw [← e1.1] at e2
      unfold tailA at e2
      split at e2 <;> (cases e2; exact h)
    · rw [← e1.1] at e2
      unfold tailA at e2
      split at e2 <;> (cases e2; exact h)
set_option maxHeartbeats 3200000 in
set_option maxRecDepth 100000 in
theorem runlock_no (h : MxAt w base D S who l) (t : Int) (hz : t < 0 ∨ ¬ who = t) : Calls Try.prog 11 #[.pointer (some ⟨D, 0, none⟩), .int .i64 t] w fun e w' => e = .returned (.tuple #[.int .i64 0, .int .i64 13]) ∧ w' = w := by
  obtain ⟨a, cap, hb, c0, c1, _, _, ho⟩ := h.cells
  clear hb ho h
  by_cases h1 : t < 0
  · have q1 : decide (t < 0) = true := decide_eq_true h1
    clear hz
    go_enter Try.func11, Try.ntmps11
    go_wp2
    go_ret2
    exact ⟨rfl, rfl⟩
  · have q1 : decide (t < 0) = false := decide_eq_false h1
    have q2 : (who == t) = false := beq_eq_false_iff_ne.2 (hz.elim (fun h => absurd h h1) id)
    clear hz
    go_enter Try.func11, Try.ntmps11
    go_wp2
    go_ret2
    exact ⟨rfl, rfl⟩
set_option maxHeartbeats 3200000 in
set_option maxRecDepth 100000 in
theorem runlock_yes (h : MxAt w base D S who l) (h1 : ¬ who < 0) : Calls Try.prog 11 #[.pointer (some ⟨D, 0, none⟩), .int .i64 who] w fun e w' => e = .returned (.tuple #[.int .i64 (l.headD (-1)), .int .i64 0]) ∧ ∃ S', MxAt w' base D S' (l.headD (-1)) l.tail ∧ Kept w w' S S' := by
  have q1 : decide (who < 0) = false := decide_eq_false h1
  obtain ⟨a, cap, hb, c0, c1, f0, f1, ho⟩ := h.cells
  cases l with
  | nil =>
    have HP : Hid _ := h.setWho (-1)
    change w.cell? ⟨D, 1, none⟩ = some (.slice a 0 cap) at c1
    clear hb ho h h1
    go_enter Try.func11, Try.ntmps11
    go_wp2
    go_ret2
    exact ⟨rfl, S, HP.out⟩
  | cons x l =>
    obtain ⟨a', cap', e, _, h0 | ⟨bk, off, rfl, hbk, hx⟩⟩ := ho.at'.ex
    · simp at h0
    simp only [Value.slice.injEq] at e
    obtain ⟨rfl, _, rfl⟩ := e
    have z0 : w.cell? ⟨bk, off, none⟩ = some (.int .i64 x) := hx 0 (by simp)
    have hne := (ho.own _ bk off _ _ (by simp) rfl rfl).2
    have hsl := slice_tail1 bk off (l.length + 1) cap (by omega)
    obtain ⟨hm0, hk0⟩ := h.setWho (-1)
    obtain ⟨hm, hk⟩ := hm0.setWho x
    have ho2 : OwnInts ((w.setCell ⟨D, 0, none⟩ (.int .i64 (-1))).setCell ⟨D, 0, none⟩ (.int .i64 x)) S D (.slice (some (tailA bk off cap)) l.length (cap - 1)) l := (ho.tail rfl).keep (by simp) (fun b _ hb => by
      rw [heap_setCell_other _ ⟨D, 0, none⟩ _ _ (by simpa using hb), heap_setCell_other _ ⟨D, 0, none⟩ _ _ (by simpa using hb)])
    have HP : Hid _ := hm.setL (Below.refl _ _) ho2 (fun b hb => ⟨Or.inl hb, (hm.bd b hb).2⟩)
    have HK : Hid _ := hk0.trans hk
    have z1 : (w.setCell ⟨D, 0, none⟩ (.int .i64 (-1))).cell? ⟨bk, off, none⟩ = some (.int .i64 x) := (World.cell?_of_block (heap_setCell_other _ ⟨D, 0, none⟩ _ _ (by simpa using hne))).trans z0
    change w.cell? ⟨D, 1, none⟩ = some (.slice (some ⟨bk, off, none⟩) (l.length + 1) cap) at c1
    have q2 : decide ((0 : Int) < ((l.length + 1 : Nat) : Int)) = true := decide_eq_true (by omega)
    have e1 : l.length + 1 - 1 = l.length := by omega
    rw [e1] at hsl
    clear hx hm0 hk0 hm hk ho2 ho h hb h1 e1
    go_enter Try.func11, Try.ntmps11
    go_wp2
    go_ret2
    exact ⟨rfl, _, HP.out.1, HK.out.trans HP.out.2⟩
theorem runlock_any (h : MxAt w base D S who l) (t : Int) : Calls Try.prog 11 #[.pointer (some ⟨D, 0, none⟩), .int .i64 t] w fun e w' => e = .returned (.tuple #[.int .i64 (unN who l t), .int .i64 (unZ who t)]) ∧ ∃ S', MxAt w' base D S' (unW who l t) (unL who l t) ∧ Kept w w' S S' := by
  unfold unN unZ unW unL
  by_cases hz : t < 0 ∨ ¬ who = t
  · rw [if_pos hz, if_pos hz, if_pos hz, if_pos hz]
    refine (runlock_no h t hz).mono fun e w' ⟨h1, h2⟩ => ⟨h1, S, ?_⟩
    subst h2
    exact ⟨h, Kept.refl _ _⟩
  · rw [if_neg hz, if_neg hz, if_neg hz, if_neg hz]
    have h1 : who = t := Classical.byContradiction fun h => hz (Or.inr h)
    subst h1
    exact runlock_yes h (fun h => hz (Or.inl h))
end
end Go.Proofs.Ytlcacjekpdmigaa
