/-
  LearnerOrder's plain part: slots 1 to n learned in any order are told in order; when all were learned, all are told. No condition.
-/
import Derived.Test.YtnoappklbipdhaaLrnLePlain
namespace Go.Proofs.Ytnoappklbipdhaa

/-- What is learned at a slot. -/
def orE (s : Int) : En := ⟨s, 0, ⟨1, 0, 0, ⟨#[]⟩, s⟩⟩
structure OrI (n : Int) (q : Ln) (j : Nat) : Prop where
  ent : ∀ e ∈ q.l, e = orE e.slot ∧ 1 ≤ e.slot ∧ e.slot ≤ n
  ap : 0 ≤ q.ap ∧ q.ap ≤ n
  gap : leF q.l (q.ap + 1) = none
  had : ∀ s : Int, 1 ≤ s → s ≤ (j : Int) → s ≤ q.ap ∨ (leF q.l s).isSome = true
theorem OrI.start (n : Int) (hn : 0 ≤ n) : OrI n ⟨0, []⟩ 0 := ⟨fun e he => (by cases he), ⟨Int.le_refl _, hn⟩, rfl, fun s h1 h2 => by omega⟩
structure OrPost (n : Int) (q : Ln) (j : Nat) (s : Int) (r : Ln × List En) : Prop where
  told : ∀ k (h : k < r.2.length), r.2[k] = orE (q.ap + 1 + (k : Int))
  ap : r.1.ap = q.ap + (r.2.length : Int)
  inv : OrI n r.1 j
  next : s = (j : Int) + 1 → OrI n r.1 (j + 1)
theorem OrI.step {n : Int} {q : Ln} {j : Nat} (h : OrI n q j) (hn : n ≤ 30) {s : Int} (h1 : 1 ≤ s) (h2 : s ≤ n) : OrPost n q j s (leaL q (orE s)) := by
  have hap := h.ap
  have hsl : (orE s).slot = s := rfl
  by_cases hc : s ≤ q.ap ∨ (leF q.l s).isSome = true
  · have e : leaL q (orE s) = (q, []) := by unfold leaL; rw [hsl, if_pos hc]
    rw [e]
    refine ⟨fun k hk => (by cases hk), by simp, h, fun hs => ⟨h.ent, h.ap, h.gap, fun x hx1 hx2 => ?_⟩⟩
    by_cases hxj : x ≤ (j : Int)
    · exact h.had x hx1 hxj
    · have : x = s := by omega
      rw [this]
      exact hc
  · have hno : leF q.l s = none := by
      cases hf : leF q.l s with
      | none => rfl
      | some e => exact absurd (Or.inr (by rw [hf]; rfl)) hc
    have hput := leF_put (e := orE s) (by rw [hsl]; exact hno)
    rw [hsl] at hput
    obtain ⟨L, hL⟩ : ∃ L, L = q.l ++ [orE s] := ⟨_, rfl⟩
    rw [← hL] at hput
    have hent : ∀ e ∈ L, e = orE e.slot ∧ 1 ≤ e.slot ∧ e.slot ≤ n := fun e he => by
      rw [hL, List.mem_append, List.mem_singleton] at he
      rcases he with he | he
      · exact h.ent e he
      · rw [he]; exact ⟨rfl, h1, h2⟩
    have hmx : ¬ q.ap = MXi := by unfold MXi; omega
    have e : leaL q (orE s) = (⟨q.ap + ((leRow L (q.ap + 1)).length : Int), L⟩, leRow L (q.ap + 1)) := by
      unfold leaL
      rw [hsl, if_neg hc]
      unfold folL
      rw [if_neg hmx, ← hL]
    obtain ⟨xs, hxs⟩ : ∃ xs, xs = leRow L (q.ap + 1) := ⟨_, rfl⟩
    rw [e, ← hxs]
    have hrow : RowF (leF L) (q.ap + 1) xs := by
      rw [hxs]
      exact (leRow_is (fun e he => by have := (hent e he).2.2; unfold MXi; omega) _).1
    have hle : q.ap + (xs.length : Int) ≤ n := by
      by_cases h0 : xs.length = 0
      · rw [h0]; simp; omega
      · have h3 := hrow.slot (xs.length - 1) (by omega)
        have h4 := (hent _ h3.2).2.2
        rw [h3.1] at h4
        omega
    have hgap : leF L (q.ap + (xs.length : Int) + 1) = none := by
      rcases hrow.stop with h3 | ⟨_, h3⟩
      · rw [← h3]; congr 1; omega
      · unfold MXi at h3; omega
    have hhad : ∀ x : Int, 1 ≤ x → (x ≤ (j : Int) ∨ x = s) → x ≤ q.ap + (xs.length : Int) ∨ (leF L x).isSome = true := fun x hx1 hx2 => by
      by_cases hxs : x = s
      · right
        rw [hput, if_pos hxs]
        rfl
      · have hxj : x ≤ (j : Int) := by
          rcases hx2 with h3 | h3
          · exact h3
          · exact absurd h3 hxs
        rcases h.had x hx1 hxj with h3 | h3
        · left; omega
        · right
          rw [hput, if_neg hxs]
          exact h3
    refine ⟨fun k hk => ?_, rfl, ⟨hent, ⟨by show 0 ≤ q.ap + _; omega, hle⟩, hgap, fun x hx1 hx2 => hhad x hx1 (Or.inl hx2)⟩, fun hs => ⟨hent, ⟨by show 0 ≤ q.ap + _; omega, hle⟩, hgap, fun x hx1 hx2 => hhad x hx1 (by omega)⟩⟩
    have h3 := hrow.slot k hk
    rw [(hent _ h3.2).1, h3.1]
/-- When all were learned, all are applied. -/
theorem OrI.all {n : Int} {q : Ln} {j : Nat} (h : OrI n q j) (hj : (j : Int) = n) : q.ap = n := by
  have hap := h.ap
  by_cases hlt : q.ap < n
  · rcases h.had (q.ap + 1) (by omega) (by omega) with h1 | h1
    · omega
    · rw [h.gap] at h1
      cases h1
  · omega
end Go.Proofs.Ytnoappklbipdhaa
