/-
  What a learner knows as plain data: its entries by slots, the row of those that follow one another. No condition.
-/
import Derived.Test.YtnoappklbipdhaaLrpPackD
namespace Go.Proofs.Ytnoappklbipdhaa

def MXi : Int := 9223372036854775807
/-- The first entry of a slot. -/
def leF (l : List En) (s : Int) : Option En := l.find? fun e => decide (e.slot = s)
theorem leF_some {l : List En} {s : Int} {e : En} (h : leF l s = some e) : e ∈ l ∧ e.slot = s := by
  unfold leF at h
  exact ⟨List.mem_of_find?_eq_some h, by simpa using List.find?_some h⟩
theorem leF_put {l : List En} {e : En} (h : leF l e.slot = none) (s : Int) : leF (l ++ [e]) s = if s = e.slot then some e else leF l s := by
  unfold leF at h ⊢
  rw [List.find?_append]
  by_cases hs : s = e.slot
  · rw [if_pos hs, hs, h]
    simp
  · rw [if_neg hs]
    have : ¬ e.slot = s := fun x => hs x.symm
    simp [this]
/-- What is left above a slot. -/
def dropE (l : List En) (b : Int) : List En := l.filter fun e => decide (b < e.slot)
theorem leF_drop (l : List En) (b s : Int) : leF (dropE l b) s = if b < s then leF l s else none := by
  unfold leF dropE
  rw [List.find?_filter]
  by_cases h : b < s
  · rw [if_pos h]
    congr 1
    funext e
    by_cases he : e.slot = s
    · simp [he, h]
    · simp [he]
  · rw [if_neg h, List.find?_eq_none]
    intro e _
    simp
    intro h1 h2
    omega
/-- A row from a slot on: what is known, one behind the other. -/
structure RowF (f : Int → Option En) (s : Int) (xs : List En) : Prop where
  at' : ∀ i (h : i < xs.length), f (s + (i : Int)) = some xs[i]
  mx : ∀ i : Nat, i < xs.length → s + (i : Int) ≤ MXi
  stop : f (s + (xs.length : Int)) = none ∨ (0 < xs.length ∧ s + (xs.length : Int) = MXi + 1)
def rowP (f : Int → Option En) : Nat → Int → List En
  | 0, _ => []
  | n + 1, s => match f s with
    | none => []
    | some e => e :: (if s = MXi then [] else rowP f n (s + 1))
def cntE (l : List En) (s : Int) : Nat := (l.filter fun e => decide (s ≤ e.slot)).length
theorem cnt_le (l : List En) (s : Int) : cntE l s ≤ l.length := List.length_filter_le _ _
theorem cnt_next (s : Int) : ∀ (l : List En), cntE l (s + 1) ≤ cntE l s
  | [] => Nat.le_refl _
  | x :: l => by
    have ih := cnt_next s l
    unfold cntE at ih ⊢
    rw [List.filter_cons, List.filter_cons]
    by_cases h : s + 1 ≤ x.slot
    · have : s ≤ x.slot := by omega
      simp [h, this]
      exact ih
    · by_cases h2 : s ≤ x.slot
      · simp [h, h2]
        omega
      · simp [h, h2]
        exact ih
theorem cnt_lt {s : Int} {e : En} : ∀ {l : List En}, leF l s = some e → cntE l (s + 1) < cntE l s
  | [], h => by simp [leF] at h
  | x :: l, h => by
    have hn := cnt_next s l
    by_cases hx : x.slot = s
    · unfold cntE at hn ⊢
      rw [List.filter_cons, List.filter_cons]
      have h1 : ¬ s + 1 ≤ x.slot := by omega
      have h2 : s ≤ x.slot := by omega
      simp [h1, h2]
      omega
    · have h2 : leF l s = some e := by
        unfold leF at h ⊢
        rw [List.find?_cons] at h
        simpa [hx] using h
      have ih := cnt_lt h2
      unfold cntE at ih ⊢
      rw [List.filter_cons, List.filter_cons]
      by_cases h3 : s ≤ x.slot
      · have h4 : s + 1 ≤ x.slot := by omega
        simp [h3, h4]
        exact ih
      · have h4 : ¬ s + 1 ≤ x.slot := by omega
        simp [h3, h4]
        exact ih
theorem rowP_is {l : List En} (hm : ∀ e ∈ l, e.slot ≤ MXi) : ∀ (n : Nat) (s : Int), cntE l s ≤ n → RowF (leF l) s (rowP (leF l) n s) ∧ (rowP (leF l) n s).length ≤ n
  | 0, s, h => by
    refine ⟨⟨fun i hi => (by cases hi), fun i hi => (by cases hi), Or.inl ?_⟩, Nat.le_refl _⟩
    cases hf : leF l s with
    | none => rw [← hf]; congr 1; simp [rowP]
    | some e => have := cnt_lt hf; omega
  | n + 1, s, h => by
    unfold rowP
    cases hf : leF l s with
    | none => exact ⟨⟨fun i hi => (by cases hi), fun i hi => (by cases hi), Or.inl (by rw [show s + ((([] : List En).length : Nat) : Int) = s by simp]; exact hf)⟩, Nat.zero_le _⟩
    | some e =>
      have he := leF_some hf
      have hes := hm e he.1
      by_cases hs : s = MXi
      · simp only [hs, if_true]
        subst hs
        refine ⟨⟨fun i hi => ?_, fun i hi => ?_, Or.inr ⟨by simp, by simp⟩⟩, by simp⟩
        · have : i = 0 := by simp at hi; exact hi
          subst this
          simpa using hf
        · have : i = 0 := by simp at hi; exact hi
          subst this
          simp
      · simp only [hs, if_false]
        have hc := cnt_lt hf
        obtain ⟨ih, ihl⟩ := rowP_is hm n (s + 1) (by omega)
        refine ⟨⟨fun i hi => ?_, fun i hi => ?_, ?_⟩, by simp; exact ihl⟩
        · cases i with
          | zero => simpa using hf
          | succ i =>
            have := ih.at' i (by simpa using hi)
            rw [show s + ((i + 1 : Nat) : Int) = s + 1 + (i : Int) by omega, this]
            rfl
        · cases i with
          | zero => simp; omega
          | succ i =>
            have := ih.mx i (by simpa using hi)
            omega
        · rw [List.length_cons, show s + ((((rowP (leF l) n (s + 1)).length + 1 : Nat)) : Int) = s + 1 + ((rowP (leF l) n (s + 1)).length : Int) by omega]
          rcases ih.stop with h1 | ⟨h1, h2⟩
          · exact Or.inl h1
          · exact Or.inr ⟨by omega, h2⟩
/-- The row from a slot on. -/
def leRow (l : List En) (s : Int) : List En := rowP (leF l) l.length s
theorem leRow_is {l : List En} (hm : ∀ e ∈ l, e.slot ≤ MXi) (s : Int) : RowF (leF l) s (leRow l s) ∧ (leRow l s).length ≤ l.length := rowP_is hm l.length s (cnt_le l s)
theorem RowF.slot {l : List En} {s : Int} {xs : List En} (h : RowF (leF l) s xs) (i : Nat) (hi : i < xs.length) : xs[i].slot = s + (i : Int) ∧ xs[i] ∈ l := by
  have := leF_some (h.at' i hi)
  exact ⟨this.2, this.1⟩
/-- A learner. -/
structure Ln where
  ap : Int
  l : List En
def folL (p : Ln) : Ln × List En := if p.ap = MXi then (p, []) else (⟨p.ap + ((leRow p.l (p.ap + 1)).length : Int), p.l⟩, leRow p.l (p.ap + 1))
def leaL (p : Ln) (e : En) : Ln × List En := if e.slot ≤ p.ap ∨ (leF p.l e.slot).isSome = true then (p, []) else folL ⟨p.ap, p.l ++ [e]⟩
def jumL (p : Ln) (b : Int) : Ln × List En := if b ≤ p.ap then (p, []) else folL ⟨b, dropE p.l b⟩
def sinL (p : Ln) (s most : Int) : List En := (leRow p.l s).take (min (p.ap - s + 1) most).toNat
def forL (p : Ln) (b : Int) : Ln := ⟨p.ap, dropE p.l (min b p.ap)⟩
def knoL (p : Ln) (s : Int) : Cm × Bool := match leF p.l s with
  | none => (Cm.zero, false)
  | some e => (e.cmd, true)
/-- What a learner is like: slots above 0, within an int; at most n entries; names that fit. -/
structure LnOk (p : Ln) (n : Nat) : Prop where
  ap : 0 ≤ p.ap ∧ p.ap ≤ MXi
  sl : ∀ e ∈ p.l, 1 ≤ e.slot ∧ e.slot ≤ MXi
  nm : ∀ e ∈ p.l, e.cmd.name.size ≤ 281474976710656
  ln : p.l.length ≤ n
theorem LnOk.row {p : Ln} {n : Nat} (h : LnOk p n) (s : Int) : RowF (leF p.l) s (leRow p.l s) ∧ (leRow p.l s).length ≤ n :=
  ⟨(leRow_is (fun e he => (h.sl e he).2) s).1, Nat.le_trans (leRow_is (fun e he => (h.sl e he).2) s).2 h.ln⟩
theorem LnOk.mono {p : Ln} {n m : Nat} (h : LnOk p n) (hm : n ≤ m) : LnOk p m := ⟨h.ap, h.sl, h.nm, Nat.le_trans h.ln hm⟩
theorem LnOk.put {p : Ln} {n : Nat} (h : LnOk p n) {e : En} (h1 : 1 ≤ e.slot) (h2 : e.slot ≤ MXi) (h3 : e.cmd.name.size ≤ 281474976710656) : LnOk ⟨p.ap, p.l ++ [e]⟩ (n + 1) := by
  refine ⟨h.ap, fun x hx => ?_, fun x hx => ?_, by rw [List.length_append]; have := h.ln; simp; omega⟩
  · rcases List.mem_append.1 hx with hx | hx
    · exact h.sl x hx
    · rw [List.mem_singleton.1 hx]; exact ⟨h1, h2⟩
  · rcases List.mem_append.1 hx with hx | hx
    · exact h.nm x hx
    · rw [List.mem_singleton.1 hx]; exact h3
theorem LnOk.drop {p : Ln} {n : Nat} (h : LnOk p n) {a b : Int} (h1 : 0 ≤ a) (h2 : a ≤ MXi) : LnOk ⟨a, dropE p.l b⟩ n := by
  refine ⟨⟨h1, h2⟩, fun x hx => h.sl x ?_, fun x hx => h.nm x ?_, Nat.le_trans (List.length_filter_le _ _) h.ln⟩
  · exact (List.mem_filter.1 hx).1
  · exact (List.mem_filter.1 hx).1
theorem LnOk.for' {p : Ln} {n : Nat} (h : LnOk p n) (b : Int) : LnOk (forL p b) n := h.drop h.ap.1 h.ap.2
end Go.Proofs.Ytnoappklbipdhaa
