/-
  A heap of numbers as plain data: exchanged, moved up, moved down; the least one is the first. No condition.
-/
import Derived.Test.YtnoappklbipdhaaLrpPackA
namespace Go.Proofs.Ytnoappklbipdhaa
open Go.RowKit

def atI (l : List Int) (k : Nat) : Int := l.getD k 0
def parI (k : Nat) : Nat := (k - 1) / 2
/-- Two of them exchanged. -/
def swI (l : List Int) (i j : Nat) : List Int := (l.set i (atI l j)).set j (atI l i)
theorem swI_len (l : List Int) (i j : Nat) : (swI l i j).length = l.length := by unfold swI; simp
theorem atI_get {l : List Int} {k : Nat} (h : k < l.length) : l[k] = atI l k := by
  unfold atI
  rw [List.getD_eq_getElem?_getD, List.getElem?_eq_getElem h]
  rfl
theorem swI_at {l : List Int} {i j : Nat} (hi : i < l.length) (hj : j < l.length) (k : Nat) : atI (swI l i j) k = if k = j then atI l i else if k = i then atI l j else atI l k := by
  unfold swI
  conv => lhs; unfold atI
  rw [List.getD_eq_getElem?_getD, List.getElem?_set, List.getElem?_set]
  simp only [List.length_set]
  by_cases h1 : j = k
  · subst h1
    simp [hj, atI]
  · have h1' : ¬ k = j := fun e => h1 e.symm
    rw [if_neg h1, if_neg h1']
    by_cases h2 : i = k
    · subst h2
      simp [hi, atI]
    · have h2' : ¬ k = i := fun e => h2 e.symm
      rw [if_neg h2, if_neg h2']
      unfold atI
      rw [List.getD_eq_getElem?_getD]
theorem swI_perm {l : List Int} {i j : Nat} (hi : i < l.length) (hj : j < l.length) : (swI l i j).Perm l := by
  have h := Array.perm_iff_toList_perm.1 (Array.swap_perm (xs := l.toArray) (i := i) (j := j) (by simpa using hi) (by simpa using hj))
  have e : (l.toArray.swap i j (by simpa using hi) (by simpa using hj)).toList = swI l i j := by
    unfold swI
    rw [Array.swap]
    simp [atI_get hi, atI_get hj]
  rw [e] at h
  simpa using h
/-- The first n are a heap. -/
def HeapN (l : List Int) (n : Nat) : Prop := ∀ k, 0 < k → k < n → atI l (parI k) ≤ atI l k
theorem HeapN.least {l : List Int} {n : Nat} (h : HeapN l n) : ∀ m k, k ≤ m → k < n → atI l 0 ≤ atI l k := by
  intro m
  induction m with
  | zero => intro k h1 _; rw [show k = 0 by omega]; exact Int.le_refl _
  | succ m ih =>
    intro k h1 h2
    by_cases hk : k = 0
    · rw [hk]; exact Int.le_refl _
    · have h3 := h k (by omega) h2
      have h4 := ih (parI k) (by unfold parI; omega) (by unfold parI; omega)
      omega
theorem HeapN.first {l : List Int} (h : HeapN l l.length) : ∀ x ∈ l, atI l 0 ≤ x := by
  intro x hx
  obtain ⟨k, hk, rfl⟩ := List.getElem_of_mem hx
  rw [atI_get hk]
  exact h.least k k (Nat.le_refl _) hk
/-- On the way up: all is in order but what stands at j. -/
structure UpI (l : List Int) (j : Nat) : Prop where
  lt : j < l.length
  other : ∀ k, 0 < k → k < l.length → k ≠ j → atI l (parI k) ≤ atI l k
  under : ∀ k, 0 < k → k < l.length → parI k = j → 0 < j → atI l (parI j) ≤ atI l k
theorem UpI.start {l : List Int} (h : HeapN l l.length) (x : Int) : UpI (l ++ [x]) l.length := by
  have ha : ∀ k, k < l.length → atI (l ++ [x]) k = atI l k := fun k hk => by
    unfold atI
    rw [List.getD_eq_getElem?_getD, List.getD_eq_getElem?_getD, List.getElem?_append_left hk]
  refine ⟨by simp, fun k h0 hk hn => ?_, fun k h0 hk hp _ => ?_⟩
  · have hk2 : k < l.length := by simp at hk; omega
    rw [ha k hk2, ha (parI k) (by unfold parI; omega)]
    exact h k h0 hk2
  · simp at hk
    unfold parI at hp
    omega
theorem UpI.step {l : List Int} {j : Nat} (h : UpI l j) (h0 : 0 < j) (hlt : atI l j < atI l (parI j)) : UpI (swI l (parI j) j) (parI j) := by
  have hp : parI j < j := by unfold parI; omega
  have hj := h.lt
  have sa := swI_at (l := l) (i := parI j) (j := j) (by omega) hj
  refine ⟨by rw [swI_len]; omega, fun k k0 hk hn => ?_, fun k k0 hk hpk p0 => ?_⟩
  · rw [swI_len] at hk
    have hpk : parI k < k := by unfold parI; omega
    rw [sa (parI k), sa k]
    by_cases h1 : k = j
    · subst h1
      rw [if_pos rfl, if_neg (by omega), if_pos rfl]
      omega
    · rw [if_neg h1, if_neg hn]
      have a1 := h.other k k0 hk h1
      by_cases h2 : parI k = j
      · rw [if_pos h2]
        exact h.under k k0 hk h2 h0
      · rw [if_neg h2]
        by_cases h3 : parI k = parI j
        · rw [if_pos h3]
          rw [h3] at a1
          omega
        · rw [if_neg h3]
          exact a1
  · rw [swI_len] at hk
    have hpp : parI (parI j) < parI j := by unfold parI; unfold parI at p0; omega
    rw [sa (parI (parI j)), sa k, if_neg (by omega), if_neg (by omega)]
    have a2 := h.other (parI j) p0 (by omega) (by omega)
    have hkp : parI k < k := by unfold parI; omega
    by_cases h1 : k = j
    · rw [if_pos h1]
      exact a2
    · rw [if_neg h1, if_neg (by omega)]
      have a1 := h.other k k0 hk h1
      rw [hpk] at a1
      omega
theorem UpI.top {l : List Int} (h : UpI l 0) : HeapN l l.length := fun k h0 hk => h.other k h0 hk (by omega)
theorem UpI.stop {l : List Int} {j : Nat} (h : UpI l j) (hge : atI l (parI j) ≤ atI l j) : HeapN l l.length := fun k h0 hk => by
  by_cases hkj : k = j
  · rw [hkj]; exact hge
  · exact h.other k h0 hk hkj
/-- On the way down: all is in order but what stands under i. -/
structure DownI (l : List Int) (n i : Nat) : Prop where
  le : n ≤ l.length
  other : ∀ k, 0 < k → k < n → parI k ≠ i → atI l (parI k) ≤ atI l k
  under : ∀ k, 0 < k → k < n → parI k = i → 0 < i → atI l (parI i) ≤ atI l k
theorem DownI.start {l : List Int} (h : HeapN l l.length) (h0 : 0 < l.length) : DownI (swI l 0 (l.length - 1)) (l.length - 1) 0 := by
  have sa := swI_at (l := l) (i := 0) (j := l.length - 1) h0 (by omega)
  refine ⟨by rw [swI_len]; omega, fun k k0 hk hn => ?_, fun k k0 hk hp p0 => absurd p0 (Nat.lt_irrefl _)⟩
  have hkp : parI k < k := by unfold parI; omega
  rw [sa (parI k), sa k, if_neg (by omega), if_neg hn, if_neg (by omega), if_neg (by omega)]
  exact h k k0 (by omega)
theorem DownI.step {l : List Int} {n i j : Nat} (h : DownI l n i) (hj : j < n) (hp : parI j = i) (j0 : 0 < j) (hmin : ∀ k, 0 < k → k < n → parI k = i → atI l j ≤ atI l k) (hlt : atI l j < atI l i) : DownI (swI l i j) n j := by
  have hij : i < j := by unfold parI at hp; omega
  have hle := h.le
  have sa := swI_at (l := l) (i := i) (j := j) (by omega) (by omega)
  refine ⟨by rw [swI_len]; exact hle, fun k k0 hk hn => ?_, fun k k0 hk hpk _ => ?_⟩
  · have hkp : parI k < k := by unfold parI; omega
    rw [sa (parI k), sa k, if_neg hn]
    by_cases h1 : k = j
    · subst h1
      rw [if_pos hp, if_pos rfl]
      omega
    · rw [if_neg h1]
      by_cases h2 : parI k = i
      · rw [if_pos h2, if_neg (by omega)]
        exact hmin k k0 hk h2
      · rw [if_neg h2]
        by_cases h3 : k = i
        · rw [if_pos h3]
          have := h.under j j0 hj hp (by omega)
          rw [h3]
          exact this
        · rw [if_neg h3]
          exact h.other k k0 hk h2
  · have hkp : parI k < k := by unfold parI; omega
    rw [hp, sa i, sa k, if_neg (by omega), if_pos rfl, if_neg (by omega), if_neg (by omega)]
    have := h.other k k0 hk (by omega)
    rw [hpk] at this
    exact this
theorem DownI.stop {l : List Int} {n i : Nat} (h : DownI l n i) (hmin : ∀ k, 0 < k → k < n → parI k = i → atI l i ≤ atI l k) : HeapN l n := fun k k0 hk => by
  by_cases hp : parI k = i
  · rw [hp]; exact hmin k k0 hk hp
  · exact h.other k k0 hk hp
end Go.Proofs.Ytnoappklbipdhaa
