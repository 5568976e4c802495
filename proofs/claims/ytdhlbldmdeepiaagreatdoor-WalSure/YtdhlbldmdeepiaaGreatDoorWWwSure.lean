/-
  WalSure of layer 11, walked: behind a crash all records are read that were appended, and of those that were written alone a beginning. The condition: package frame's table lies in memory.
-/
import Derived.Test.YtdhlbldmdeepiaaGreatDoorWWwAwake
import Derived.Test.YtdhlbldmdeepiaaGreatDoorWWwPlain
import Derived.Test.YtdhlbldmdeepiaaGreatDoorWPackD
namespace Go.Proofs.YtdhlbldmdeepiaaGreatDoor
open Go.RowKit

theorem frames_300 {l : List Rc} (h : l.all mayR = true) (hl : l.length ≤ 300) : (framesOf l).length ≤ 120000 := by
  have := framesOf_few l h
  have : l.length * 400 ≤ 300 * 400 := Nat.mul_le_mul_right _ hl
  omega
/-- The disk behind an Append of la onto nothing. -/
def StA (la : List Rc) (k : Nat) (A : List CF) (t : Nat) : Prop := (la = [] ∧ k = 0 ∧ A = [] ∧ t = 0) ∨ (k = 1 ∧ t = 1 ∧ ∃ c, A = oneN (segB 1) c (framesOf la) (framesOf la).length [])
/-- .. and a Write of lb. -/
def pcs (lb : List Rc) (t0 : Nat) : List (Nat × Nat) := if lb = [] then [] else [(t0, (framesOf lb).length)]
def StB (la lb : List Rc) (A : List CF) (t : Nat) : Prop := t ≤ 2 ∧ ((la = [] ∧ lb = [] ∧ A = []) ∨ ∃ c t0, A = oneN (segB 1) c (framesOf la ++ framesOf lb) (framesOf la).length (pcs lb t0))
/-- .. and a crash. -/
def StC (la lb : List Rc) (keep : Int) (A : List CF) : Prop := (la = [] ∧ lb = [] ∧ A = []) ∨ ∃ c, A = oneN (segB 1) c (crT la lb keep) (crT la lb keep).length []
section
variable {w : World} {base L D k : Nat} {A : List CF} {t : Nat} {ro : Nat → Option Nat}
theorem appendS (h : LgS w base L D 0 [] 0 ro) (v : Value) (la : List Rc) (hv : RowAt rcC w v la) (hl : la.length ≤ 300) (hT : Tab w) (hm : la.all mayR = true) :
    Calls Tryz.prog 16 #[.pointer (some ⟨L, 0, none⟩), v] w fun e w' => e = .returned (.int .i64 0) ∧ ∃ k A t ro', LgS w' base L D k A t ro' ∧ StA la k A t ∧ Below base w w' := by
  by_cases h0 : la = []
  · subst h0
    exact (wappend_none h v hv hT).mono fun e w' ⟨h1, h2⟩ => ⟨h1, 0, [], 0, ro, h.fresh h2, Or.inl ⟨rfl, rfl, rfl, rfl⟩, h2.mono h.base⟩
  · have hf := frames_300 hm hl
    exact (wappend_new h v la hv (by omega) hT hm h0 (by omega) (by decide)).mono fun e w' ⟨h1, c, ro', h2, h3⟩ => ⟨h1, 1, _, 1, ro', h2, Or.inr ⟨rfl, rfl, c, rfl⟩, h3⟩
theorem writeS {la : List Rc} (h : LgS w base L D k A t ro) (hA : StA la k A t) (ha : la.all mayR = true) (hla : la.length ≤ 300) (v : Value) (lb : List Rc) (hv : RowAt rcC w v lb) (hl : lb.length ≤ 300) (hT : Tab w) (hm : lb.all mayR = true) :
    Calls Tryz.prog 18 #[.pointer (some ⟨L, 0, none⟩), v] w fun e w' => e = .returned (.int .i64 0) ∧ ∃ k' A' t' ro', LgS w' base L D k' A' t' ro' ∧ StB la lb A' t' ∧ Below base w w' := by
  have hfa := frames_300 ha hla
  have hfb := frames_300 hm hl
  by_cases h0 : lb = []
  · subst h0
    refine (write_none L v hv hT).mono fun e w' ⟨h1, h2⟩ => ⟨h1, k, A, t, ro, h.fresh h2, ?_, h2.mono h.base⟩
    rcases hA with ⟨e1, _, e3, e4⟩ | ⟨_, e4, c, e3⟩
    · exact ⟨by omega, Or.inl ⟨e1, rfl, e3⟩⟩
    · refine ⟨by omega, Or.inr ⟨c, 0, ?_⟩⟩
      rw [e3]
      show oneN _ _ _ _ _ = oneN _ _ (framesOf la ++ []) _ (pcs [] 0)
      rw [List.append_nil]
      rfl
  · rcases hA with ⟨e1, e2, e3, e4⟩ | ⟨e1, e4, c, e3⟩
    · subst e1 e2 e3 e4
      refine (write_new h v lb hv (by omega) hT hm h0 (by omega) (by decide)).mono fun e w' ⟨h1, c, ro', h2, h3⟩ => ⟨h1, 1, _, _, ro', h2, ⟨by decide, Or.inr ⟨c, 0 + 1, ?_⟩⟩, h3⟩
      unfold pcs
      rw [if_neg h0]
      rfl
    · subst e1 e3 e4
      refine (write_more (by decide) (by decide) h v lb hv (by omega) hT hm h0 (by omega) (by decide)).mono fun e w' ⟨h1, t', ro', h2, h3, h4⟩ => ⟨h1, 1, _, t', ro', h3, ⟨by omega, Or.inr ⟨c, 1 + 1, ?_⟩⟩, h4⟩
      unfold pcs
      rw [if_neg h0]
      rfl
theorem crashS {la lb : List Rc} (h : DkS w base D A t ro) (hB : StB la lb A t) (keep : Int) (h1 : -9223372036854775808 ≤ keep) (h2 : keep ≤ 9223372036854775807) :
    Calls Tryz.prog 21 #[.pointer (some ⟨D, 0, none⟩), .int .i64 keep] w fun e w' => e = .returned (.tuple #[]) ∧ ∃ A', DkS w' base D A' t ro ∧ StC la lb keep A' ∧ Below base w w' := by
  rcases hB.2 with ⟨e1, e2, e3⟩ | ⟨c, t0, e3⟩
  · subst e3
    exact (o_crash0 h keep h1 h2).mono fun e w' ⟨h3, h4, h5⟩ => ⟨h3, [], h4, Or.inl ⟨e1, e2, rfl⟩, h.below h5⟩
  · subst e3
    by_cases h0 : lb = []
    · subst h0
      refine (o_crashN h keep h1 h2).mono fun e w' ⟨h3, h4, h5⟩ => ⟨h3, _, h4, Or.inr ⟨c, ?_⟩, h.below h5⟩
      rw [crT_len]
      unfold crT
      rw [show framesOf [] = [] from rfl]
      simp
    · have hp := frames_pos h0
      have h' : DkS w base D (oneN (segB 1) c (framesOf la ++ framesOf lb) (framesOf la).length [(t0, (framesOf lb).length)]) t ro := by
        unfold pcs at h
        rw [if_neg h0] at h
        exact h
      refine (o_crash1 hp h' keep h1 h2).mono fun e w' ⟨h3, h4, h5⟩ => ⟨h3, _, h4, Or.inr ⟨c, ?_⟩, h'.below h5⟩
      rw [crT_len]
      rfl
theorem openS {la lb : List Rc} {keep : Int} (h : DkS w base D A t ro) (hC : StC la lb keep A) (ht : t ≤ 2) (hT : Tab w) :
    Calls Tryz.prog 14 #[.pointer (some ⟨D, 0, none⟩)] w fun e w' => ∃ L v, e = .returned (.tuple #[.pointer (some ⟨L, 0, none⟩), v, .int .i64 0]) ∧ RowAt rcC w' v (recs (crT la lb keep)).1 ∧ Below base w w' := by
  rcases hC with ⟨e1, e2, e3⟩ | ⟨c, e3⟩
  · subst e1 e2 e3
    exact (open_zero h).mono fun e w' ⟨L, h1, h2, h3⟩ => ⟨L, _, h1, by rw [crT_nil, recs_nil]; exact RowAt.nil w', h3.mono h.base⟩
  · subst e3
    exact (open_one (by decide) (by decide) h (by omega) hT).mono fun e w' ⟨L, v, k', c', bs', sure', ps', t', ro', h1, _, h3, h4, h5, _⟩ => ⟨L, v, h1, h4.row, h.below h5⟩
end
/-- A row up to a place. -/
theorem slice_to {w : World} {base : Nat} {u : Value} {n : Nat} {xs : List Value} (h : w.ownsRow base 27 9 u n xs) (m : Nat) (hm : m ≤ n) : ∃ p q, u = .slice p n q ∧ n ≤ q ∧ ∀ w', (Instr.sliceAt 47 u none (some (.int .i64 (m : Int))) none).run Tryz.prog w' = .ok (.slice p m q) w' := by
  have hu2 : Tryz.prog.underlying 47 = some (.slice (Tryz.prog.elem 47)) := by
    rw [show Tryz.prog.elem 47 = 27 by kernel_rfl]
    exact Tryz.underlying47
  obtain ⟨i0, hi, _, hz1, _⟩ := info_parts infoRc
  have hsz : ∀ w, (sizeOf 27).run Tryz.prog w = .ok 9 w := fun w => by simp [sizeOf, typeInfo, hi, hz1]
  have hel : Tryz.prog.elem 47 = 27 := by kernel_rfl
  rcases h.2 with ⟨rfl, h0⟩ | ⟨g, cap, cur, rfl, _, _, hc, _⟩
  · have hm0 : m = 0 := by omega
    subst h0 hm0
    refine ⟨none, 0, rfl, Nat.le_refl _, fun w' => ?_⟩
    rw [run_sliceAt_slice _ _ _ _ _ _ hu2, run_slice_h _ _ _ _ _ hu2 _ _ (by omega) (by omega), hel, hsz]
    simp [Result.andThen_ok, sliced]
  · refine ⟨_, cap, rfl, hc, fun w' => ?_⟩
    rw [run_sliceAt_slice _ _ _ _ _ _ hu2, run_slice_h _ _ _ _ _ hu2 _ _ (by omega) (by omega), hel, hsz]
    simp only [Result.andThen_ok, sliced, Int.toNat_natCast, Nat.zero_mul, Nat.sub_zero]
    split <;> simp [Addr.add]
theorem RowAt.upto {w : World} {a : Option Addr} {n cap : Nat} {l : List Rc} (h : RowAt rcC w (.slice a n cap) l) (m : Nat) (hm : m ≤ l.length) : RowAt rcC w (.slice a m cap) (l.take m) := by
  obtain ⟨a', cap', e, h1, h2, h3⟩ := h.ex
  injection e with e1 e2 e3
  subst e1 e3
  have hl : (l.take m).length = m := by rw [List.length_take]; omega
  refine ⟨a, cap, by rw [hl], by omega, fun e => ?_, ?_⟩
  · have := h2 e
    omega
  · by_cases h0 : m = 0
    · exact Or.inl (by omega)
    · rcases h3 with h3 | ⟨bk, off, e1, hb, hx⟩
      · omega
      · refine Or.inr ⟨bk, off, e1, hb, fun j u hu => hx j u ?_⟩
        have hp : rowL rcC l = rowL rcC (l.take m) ++ rowL rcC (l.drop m) := by rw [← rowL_append, List.take_append_drop]
        rw [hp, List.getElem?_append_left (List.getElem?_eq_some_iff.1 hu).1]
        exact hu
end Go.Proofs.YtdhlbldmdeepiaaGreatDoor
