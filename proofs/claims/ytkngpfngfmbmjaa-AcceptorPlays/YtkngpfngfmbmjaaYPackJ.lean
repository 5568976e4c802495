/-
  Parts of the proof, laid together: StPlain, FoPlain. The conditions stand at each part.
-/
import Derived.Sort.LotA
import Derived.Sort.WalkA
import Derived.Test.YtkngpfngfmbmjaaYPackI
/-
  A stable sort as plain data: rows as functions of places, rotations, merges of two sorted pieces in place; what keeps the order of equals. No condition but what each part says.
-/
namespace Go.Proofs.Ytkngpfngfmbmjaa
open Go.Sort

section
variable {α : Type}
/-- A piece of a row: n places from i on. -/
def sgm (f : Nat → α) (i n : Nat) : List α := (List.range n).map fun j => f (i + j)
theorem sgm_length (f : Nat → α) (i n : Nat) : (sgm f i n).length = n := by simp [sgm]
theorem sgm_add (f : Nat → α) (i n m : Nat) : sgm f i (n + m) = sgm f i n ++ sgm f (i + n) m := by
  unfold sgm
  rw [List.range_add, List.map_append, List.map_map]
  congr 1
  apply List.map_congr_left
  intro j _
  show f (i + (n + j)) = f (i + n + j)
  rw [Nat.add_assoc]
theorem sgm_congr {f g : Nat → α} {i k n : Nat} (h : ∀ j, j < n → f (i + j) = g (k + j)) : sgm f i n = sgm g k n := by
  unfold sgm
  apply List.map_congr_left
  intro j hj
  exact h j (List.mem_range.1 hj)
theorem mem_sgm {f : Nat → α} {i n : Nat} {x : α} : x ∈ sgm f i n ↔ ∃ j, i ≤ j ∧ j < i + n ∧ f j = x := by
  unfold sgm
  rw [List.mem_map]
  constructor
  · rintro ⟨j, hj, rfl⟩
    have := List.mem_range.1 hj
    exact ⟨i + j, by omega, by omega, rfl⟩
  · rintro ⟨j, h1, h2, rfl⟩
    exact ⟨j - i, List.mem_range.2 (by omega), by rw [show i + (j - i) = j by omega]⟩
end
section
variable {α : Type} (key : α → Int)
/-- The same but for the order within a piece, in which those of one key keep theirs. -/
structure Stab (f g : Nat → α) (a b : Nat) : Prop where
  out : ∀ x, x < a ∨ b ≤ x → g x = f x
  eqk : ∀ k, (sgm g a (b - a)).filter (fun x => decide (key x = k)) = (sgm f a (b - a)).filter (fun x => decide (key x = k))
def Srt (f : Nat → α) (a b : Nat) : Prop := ∀ i j, a ≤ i → i < j → j < b → key (f i) ≤ key (f j)
variable {key}
theorem Stab.refl (f : Nat → α) (a b : Nat) : Stab key f f a b := ⟨fun _ _ => rfl, fun _ => rfl⟩
theorem Stab.trans {f g h : Nat → α} {a b : Nat} (h1 : Stab key f g a b) (h2 : Stab key g h a b) : Stab key f h a b :=
  ⟨fun x hx => (h2.out x hx).trans (h1.out x hx), fun k => (h2.eqk k).trans (h1.eqk k)⟩
theorem sgm_three (f : Nat → α) {a c d b : Nat} (h1 : a ≤ c) (h2 : c ≤ d) (h3 : d ≤ b) : sgm f a (b - a) = sgm f a (c - a) ++ (sgm f c (d - c) ++ sgm f d (b - d)) := by
  have e : b - a = (c - a) + ((d - c) + (b - d)) := by omega
  rw [e, sgm_add, sgm_add, show a + (c - a) = c by omega, show c + (d - c) = d by omega]
theorem sgm_two (f : Nat → α) {a c b : Nat} (h1 : a ≤ c) (h2 : c ≤ b) : sgm f a (b - a) = sgm f a (c - a) ++ sgm f c (b - c) := by
  have e : b - a = (c - a) + (b - c) := by omega
  rw [e, sgm_add, show a + (c - a) = c by omega]
theorem Stab.wide {f g : Nat → α} {a c d b : Nat} (h : Stab key f g c d) (h1 : a ≤ c) (h2 : c ≤ d) (h3 : d ≤ b) : Stab key f g a b := by
  refine ⟨fun x hx => h.out x (by omega), fun k => ?_⟩
  rw [sgm_three g h1 h2 h3, sgm_three f h1 h2 h3, List.filter_append, List.filter_append, List.filter_append, List.filter_append, h.eqk k,
    sgm_congr (f := g) (g := f) (i := a) (k := a) (fun j hj => h.out _ (by omega)), sgm_congr (f := g) (g := f) (i := d) (k := d) (fun j hj => h.out _ (by omega))]
theorem Stab.mem {f g : Nat → α} {a b : Nat} (h : Stab key f g a b) {x : Nat} (h1 : a ≤ x) (h2 : x < b) : ∃ y, a ≤ y ∧ y < b ∧ f y = g x := by
  have hx : g x ∈ (sgm g a (b - a)).filter (fun z => decide (key z = key (g x))) := List.mem_filter.2 ⟨mem_sgm.2 ⟨x, h1, by omega, rfl⟩, by simp⟩
  rw [h.eqk] at hx
  obtain ⟨y, h3, h4, h5⟩ := mem_sgm.1 (List.mem_filter.1 hx).1
  exact ⟨y, h3, by omega, h5⟩
/-- Two pieces change places. -/
def rotF (f : Nat → α) (a m b : Nat) (x : Nat) : α := if a ≤ x ∧ x < a + (b - m) then f (x + (m - a)) else if a + (b - m) ≤ x ∧ x < b then f (x - (b - m)) else f x
/-- Two places. -/
def swF (f : Nat → α) (i j : Nat) (x : Nat) : α := if x = j then f i else if x = i then f j else f x
/-- n places from a on, and n from b on. -/
def swR (f : Nat → α) (a b n : Nat) (x : Nat) : α := if a ≤ x ∧ x < a + n then f (x - a + b) else if b ≤ x ∧ x < b + n then f (x - b + a) else f x
theorem swR_zero (f : Nat → α) (a b : Nat) : swR f a b 0 = f := by
  funext x
  unfold swR
  rw [if_neg (by omega), if_neg (by omega)]
theorem swR_step (f : Nat → α) (a b i : Nat) (h : a + (i + 1) ≤ b) : swF (swR f a b i) (a + i) (b + i) = swR f a b (i + 1) := by
  funext x
  unfold swF
  by_cases h1 : x = b + i
  · subst h1
    rw [if_pos rfl]
    unfold swR
    rw [if_neg (by omega), if_neg (by omega), if_neg (by omega), if_pos (by omega)]
    congr 1
    omega
  rw [if_neg h1]
  by_cases h2 : x = a + i
  · subst h2
    rw [if_pos rfl]
    unfold swR
    rw [if_neg (by omega), if_neg (by omega), if_pos (by omega)]
    congr 1
    omega
  rw [if_neg h2]
  unfold swR
  by_cases h3 : a ≤ x ∧ x < a + i
  · rw [if_pos h3, if_pos (by omega)]
  by_cases h4 : b ≤ x ∧ x < b + i
  · rw [if_neg h3, if_pos h4, if_neg (by omega), if_pos (by omega)]
  rw [if_neg h3, if_neg h4, if_neg (by omega), if_neg (by omega)]
theorem rotF_left (f : Nat → α) (a m : Nat) : rotF f a m m = f := by
  funext x
  unfold rotF
  rw [if_neg (by omega)]
  split
  · congr 1
    omega
  · rfl
theorem rotF_right (f : Nat → α) (m b : Nat) : rotF f m m b = f := by
  funext x
  unfold rotF
  split
  · congr 1
    omega
  · rw [if_neg (by omega)]
theorem rot_more (f : Nat → α) (m i j : Nat) (h1 : j < i) (h2 : i ≤ m) : rotF (swR f (m - i) m j) (m - (i - j)) m (m + j) = rotF f (m - i) m (m + j) := by
  funext x
  by_cases h3 : m - i ≤ x ∧ x < m - i + j
  · have e1 : rotF (swR f (m - i) m j) (m - (i - j)) m (m + j) x = swR f (m - i) m j x := by
      unfold rotF
      rw [if_neg (by omega), if_neg (by omega)]
    rw [e1]
    unfold swR rotF
    rw [if_pos h3, if_pos (by omega)]
    congr 1
    omega
  by_cases h4 : m - (i - j) ≤ x ∧ x < m - (i - j) + j
  · have e1 : rotF (swR f (m - i) m j) (m - (i - j)) m (m + j) x = swR f (m - i) m j (x + (i - j)) := by
      unfold rotF
      rw [if_pos (by omega)]
      congr 1
      omega
    rw [e1]
    unfold swR rotF
    rw [if_neg (by omega), if_pos (by omega), if_neg (by omega), if_pos (by omega)]
    congr 1
    omega
  by_cases h5 : m - (i - j) + j ≤ x ∧ x < m + j
  · have e1 : rotF (swR f (m - i) m j) (m - (i - j)) m (m + j) x = swR f (m - i) m j (x - j) := by
      unfold rotF
      rw [if_neg (by omega), if_pos (by omega)]
      congr 1
      omega
    rw [e1]
    unfold swR rotF
    rw [if_neg (by omega), if_neg (by omega), if_neg (by omega), if_pos (by omega)]
    congr 1
    omega
  · have e1 : rotF (swR f (m - i) m j) (m - (i - j)) m (m + j) x = swR f (m - i) m j x := by
      unfold rotF
      rw [if_neg (by omega), if_neg (by omega)]
    rw [e1]
    unfold swR rotF
    rw [if_neg (by omega), if_neg (by omega), if_neg (by omega), if_neg (by omega)]
theorem rot_less (f : Nat → α) (m i j : Nat) (h1 : i < j) (h2 : i ≤ m) : rotF (swR f (m - i) (m + j - i) i) (m - i) m (m + (j - i)) = rotF f (m - i) m (m + j) := by
  funext x
  by_cases h3 : m - i ≤ x ∧ x < m - i + (j - i)
  · have e1 : rotF (swR f (m - i) (m + j - i) i) (m - i) m (m + (j - i)) x = swR f (m - i) (m + j - i) i (x + i) := by
      unfold rotF
      rw [if_pos (by omega)]
      congr 1
      omega
    rw [e1]
    unfold swR rotF
    rw [if_neg (by omega), if_neg (by omega), if_pos (by omega)]
    congr 1
    omega
  by_cases h4 : m - i + (j - i) ≤ x ∧ x < m + (j - i)
  · have e1 : rotF (swR f (m - i) (m + j - i) i) (m - i) m (m + (j - i)) x = swR f (m - i) (m + j - i) i (x - (j - i)) := by
      unfold rotF
      rw [if_neg (by omega), if_pos (by omega)]
      congr 1
      omega
    rw [e1]
    unfold swR rotF
    rw [if_pos (by omega), if_pos (by omega)]
    congr 1
    omega
  have e1 : rotF (swR f (m - i) (m + j - i) i) (m - i) m (m + (j - i)) x = swR f (m - i) (m + j - i) i x := by
    unfold rotF
    rw [if_neg (by omega), if_neg (by omega)]
  rw [e1]
  by_cases h5 : m + j - i ≤ x ∧ x < m + j - i + i
  · unfold swR rotF
    rw [if_neg (by omega), if_pos (by omega), if_neg (by omega), if_pos (by omega)]
    congr 1
    omega
  · unfold swR rotF
    rw [if_neg (by omega), if_neg (by omega), if_neg (by omega), if_neg (by omega)]
theorem rot_same (f : Nat → α) (m i : Nat) (h : i ≤ m) : swR f (m - i) m i = rotF f (m - i) m (m + i) := by
  funext x
  unfold swR rotF
  by_cases h1 : m - i ≤ x ∧ x < m - i + i
  · rw [if_pos h1, if_pos (by omega)]
    congr 1
    omega
  by_cases h2 : m ≤ x ∧ x < m + i
  · rw [if_neg h1, if_pos h2, if_neg (by omega), if_pos (by omega)]
    congr 1
    omega
  · rw [if_neg h1, if_neg h2, if_neg (by omega), if_neg (by omega)]
/-- One place upwards. -/
theorem rot_up (f : Nat → α) (k b : Nat) (h : k + 1 < b) : rotF (swF f k (k + 1)) (k + 1) (k + 2) b = rotF f k (k + 1) b := by
  funext x
  by_cases h1 : x = k
  · subst h1
    unfold rotF swF
    rw [if_neg (by omega), if_neg (by omega), if_neg (by omega), if_pos rfl, if_pos (by omega)]
    congr 1
    omega
  by_cases h2 : k + 1 ≤ x ∧ x < k + 1 + (b - (k + 2))
  · unfold rotF swF
    rw [if_pos h2, if_neg (by omega), if_neg (by omega), if_pos (by omega)]
    congr 1
    omega
  by_cases h3 : x = b - 1
  · unfold rotF swF
    rw [if_neg h2, if_pos (by omega), if_pos (by omega), if_neg (by omega), if_pos (by omega)]
    congr 1
    omega
  · unfold rotF swF
    rw [if_neg h2, if_neg (by omega), if_neg (by omega), if_neg (by omega), if_neg (by omega), if_neg (by omega)]
/-- One place downwards. -/
theorem rot_down (f : Nat → α) (i k : Nat) (h : i < k) : rotF (swF f k (k - 1)) i (k - 1) k = rotF f i k (k + 1) := by
  funext x
  by_cases h1 : x = k
  · subst h1
    unfold rotF swF
    rw [if_neg (by omega), if_neg (by omega), if_neg (by omega), if_pos rfl, if_neg (by omega), if_pos (by omega)]
    congr 1
    omega
  by_cases h2 : x = i
  · unfold rotF swF
    rw [if_pos (by omega), if_pos (by omega), if_pos (by omega)]
    congr 1
    omega
  by_cases h3 : i < x ∧ x < k
  · unfold rotF swF
    rw [if_neg (by omega), if_pos (by omega), if_neg (by omega), if_neg (by omega), if_neg (by omega), if_pos (by omega)]
    congr 1
    omega
  · unfold rotF swF
    rw [if_neg (by omega), if_neg (by omega), if_neg (by omega), if_neg (by omega), if_neg (by omega), if_neg (by omega)]
theorem rotF_lo (f : Nat → α) {a m b x : Nat} (h1 : a ≤ x) (h2 : x < a + (b - m)) : rotF f a m b x = f (x + (m - a)) := by
  unfold rotF
  rw [if_pos ⟨h1, h2⟩]
theorem rotF_hi (f : Nat → α) {a m b x : Nat} (h1 : a + (b - m) ≤ x) (h2 : x < b) : rotF f a m b x = f (x - (b - m)) := by
  unfold rotF
  rw [if_neg (by omega), if_pos ⟨h1, h2⟩]
theorem rotF_out (f : Nat → α) {a m b x : Nat} (h1 : a ≤ m) (h2 : m ≤ b) (h : x < a ∨ b ≤ x) : rotF f a m b x = f x := by
  unfold rotF
  rw [if_neg (by omega), if_neg (by omega)]
theorem stab_rot {f : Nat → α} {a m b : Nat} (h1 : a ≤ m) (h2 : m ≤ b) (h : ∀ i j, a ≤ i → i < m → m ≤ j → j < b → key (f j) < key (f i)) : Stab key f (rotF f a m b) a b := by
  refine ⟨fun x hx => rotF_out f h1 h2 hx, fun k => ?_⟩
  have e1 : sgm (rotF f a m b) a (b - a) = sgm f m (b - m) ++ sgm f a (m - a) := by
    rw [sgm_two (rotF f a m b) (a := a) (c := a + (b - m)) (b := b) (by omega) (by omega)]
    congr 1
    · rw [show a + (b - m) - a = b - m by omega]
      refine sgm_congr fun j hj => ?_
      rw [rotF_lo f (by omega) (by omega)]
      congr 1
      omega
    · rw [show b - (a + (b - m)) = m - a by omega]
      refine sgm_congr fun j hj => ?_
      rw [rotF_hi f (by omega) (by omega)]
      congr 1
      omega
  rw [e1, sgm_two f h1 h2, List.filter_append, List.filter_append]
  by_cases hA : (sgm f a (m - a)).filter (fun x => decide (key x = k)) = []
  · rw [hA, List.append_nil, List.nil_append]
  · have hB : (sgm f m (b - m)).filter (fun x => decide (key x = k)) = [] := by
      obtain ⟨x, hx⟩ := List.exists_mem_of_ne_nil _ hA
      obtain ⟨hx1, hx2⟩ := List.mem_filter.1 hx
      obtain ⟨i, h3, h4, rfl⟩ := mem_sgm.1 hx1
      rw [List.filter_eq_nil_iff]
      intro y hy hk
      obtain ⟨j, h5, h6, rfl⟩ := mem_sgm.1 hy
      have := h i j h3 (by omega) h5 (by omega)
      simp only [decide_eq_true_eq] at hx2 hk
      omega
    rw [hB, List.append_nil, List.nil_append]
/-- A piece, sorted, those of one key in the order in which they were. -/
structure Mrg (key : α → Int) (f g : Nat → α) (a b : Nat) : Prop where
  st : Stab key f g a b
  so : Srt key g a b
theorem mrg_left {f : Nat → α} {a b i : Nat} (hi1 : a + 1 ≤ i) (hi2 : i ≤ b) (hs : Srt key f (a + 1) b) (hl : ∀ x, a + 1 ≤ x → x < i → key (f x) < key (f a)) (hr : ∀ x, i ≤ x → x < b → key (f a) ≤ key (f x)) : Mrg key f (rotF f a (a + 1) i) a b := by
  refine ⟨(stab_rot (by omega) hi1 (fun u v h1 h2 h3 h4 => ?_)).wide (Nat.le_refl _) (by omega) hi2, fun u v h1 h2 h3 => ?_⟩
  · have e : u = a := by omega
    rw [e]
    exact hl v h3 h4
  · have val : ∀ x, a ≤ x → (x < i - 1 ∧ rotF f a (a + 1) i x = f (x + 1)) ∨ (x = i - 1 ∧ rotF f a (a + 1) i x = f a) ∨ (i ≤ x ∧ rotF f a (a + 1) i x = f x) := by
      intro x hx
      by_cases c1 : x < i - 1
      · refine Or.inl ⟨c1, ?_⟩
        rw [rotF_lo f hx (by omega)]
        congr 1
        omega
      by_cases c2 : x = i - 1
      · refine Or.inr (Or.inl ⟨c2, ?_⟩)
        rw [rotF_hi f (by omega) (by omega)]
        congr 1
        omega
      · exact Or.inr (Or.inr ⟨by omega, rotF_out f (by omega) hi1 (by omega)⟩)
    rcases val u h1 with ⟨c, e⟩ | ⟨c, e⟩ | ⟨c, e⟩ <;> rcases val v (by omega) with ⟨c', e'⟩ | ⟨c', e'⟩ | ⟨c', e'⟩ <;> rw [e, e']
    · exact hs _ _ (by omega) (by omega) (by omega)
    · exact Int.le_of_lt (hl _ (by omega) (by omega))
    · exact hs _ _ (by omega) (by omega) (by omega)
    · omega
    · omega
    · exact hr _ (by omega) (by omega)
    · omega
    · omega
    · exact hs _ _ (by omega) (by omega) (by omega)
theorem mrg_right {f : Nat → α} {a m i : Nat} (hi1 : a ≤ i) (hi2 : i ≤ m) (hs : Srt key f a m) (hl : ∀ x, a ≤ x → x < i → key (f x) ≤ key (f m)) (hr : ∀ x, i ≤ x → x < m → key (f m) < key (f x)) : Mrg key f (rotF f i m (m + 1)) a (m + 1) := by
  refine ⟨(stab_rot hi2 (by omega) (fun u v h1 h2 h3 h4 => ?_)).wide hi1 (by omega) (Nat.le_refl _), fun u v h1 h2 h3 => ?_⟩
  · have e : v = m := by omega
    rw [e]
    exact hr u h1 h2
  · have val : ∀ x, x < m + 1 → (x < i ∧ rotF f i m (m + 1) x = f x) ∨ (x = i ∧ rotF f i m (m + 1) x = f m) ∨ (i < x ∧ rotF f i m (m + 1) x = f (x - 1)) := by
      intro x hx
      by_cases c1 : x < i
      · exact Or.inl ⟨c1, rotF_out f hi2 (by omega) (by omega)⟩
      by_cases c2 : x = i
      · refine Or.inr (Or.inl ⟨c2, ?_⟩)
        rw [rotF_lo f (by omega) (by omega)]
        congr 1
        omega
      · refine Or.inr (Or.inr ⟨by omega, ?_⟩)
        rw [rotF_hi f (by omega) (by omega)]
        congr 1
        omega
    rcases val u (by omega) with ⟨c, e⟩ | ⟨c, e⟩ | ⟨c, e⟩ <;> rcases val v h3 with ⟨c', e'⟩ | ⟨c', e'⟩ | ⟨c', e'⟩ <;> rw [e, e']
    · exact hs _ _ (by omega) (by omega) (by omega)
    · exact hl _ (by omega) (by omega)
    · exact hs _ _ (by omega) (by omega) (by omega)
    · omega
    · omega
    · exact Int.le_of_lt (hr _ (by omega) (by omega))
    · omega
    · omega
    · exact hs _ _ (by omega) (by omega) (by omega)
/-- Where two sorted pieces are cut so that what changes places lies at the right side. -/
structure Cut (key : α → Int) (f : Nat → α) (a m b s e mid : Nat) : Prop where
  h1 : a ≤ s
  h2 : s ≤ m
  h3 : m ≤ e
  h4 : e ≤ b
  hm : mid = s + (e - m)
  c1 : ∀ i j, s ≤ i → i < m → m ≤ j → j < e → key (f j) < key (f i)
  c2 : ∀ i j, a ≤ i → i < s → e ≤ j → j < b → key (f i) ≤ key (f j)
theorem Cut.stab {f : Nat → α} {a m b s e mid : Nat} (c : Cut key f a m b s e mid) : Stab key f (rotF f s m e) a b :=
  (stab_rot c.h2 c.h3 c.c1).wide c.h1 (Nat.le_trans c.h2 c.h3) c.h4
theorem Cut.ll {f : Nat → α} {a m b s e mid : Nat} (c : Cut key f a m b s e mid) (hs : Srt key f a m) : Srt key (rotF f s m e) a s := fun i j h1 h2 h3 => by
  rw [rotF_out f c.h2 c.h3 (by omega), rotF_out f c.h2 c.h3 (by omega)]
  exact hs i j h1 h2 (by have := c.h2; omega)
theorem Cut.lr {f : Nat → α} {a m b s e mid : Nat} (c : Cut key f a m b s e mid) (hs : Srt key f m b) : Srt key (rotF f s m e) s mid := fun i j h1 h2 h3 => by
  have := c.hm; have := c.h2; have := c.h3; have := c.h4
  rw [rotF_lo f (by omega) (by omega), rotF_lo f (by omega) (by omega)]
  exact hs _ _ (by omega) (by omega) (by omega)
theorem Cut.rl {f : Nat → α} {a m b s e mid : Nat} (c : Cut key f a m b s e mid) (hs : Srt key f a m) : Srt key (rotF f s m e) mid e := fun i j h1 h2 h3 => by
  have := c.hm; have := c.h1; have := c.h2; have := c.h3; have := c.h4
  rw [rotF_hi f (by omega) (by omega), rotF_hi f (by omega) (by omega)]
  exact hs _ _ (by omega) (by omega) (by omega)
theorem Cut.rr {f : Nat → α} {a m b s e mid : Nat} (c : Cut key f a m b s e mid) (hs : Srt key f m b) : Srt key (rotF f s m e) e b := fun i j h1 h2 h3 => by
  rw [rotF_out f c.h2 c.h3 (by omega), rotF_out f c.h2 c.h3 (by omega)]
  exact hs i j (by have := c.h3; omega) h2 h3
theorem Cut.join {f g h : Nat → α} {a m b s e mid : Nat} (c : Cut key f a m b s e mid) (hA : Srt key f a m) (hB : Srt key f m b) (m1 : Mrg key (rotF f s m e) g a mid) (m2 : Mrg key g h mid b) : Mrg key f h a b := by
  have k1 := c.hm; have k2 := c.h1; have k3 := c.h2; have k4 := c.h3; have k5 := c.h4
  refine ⟨c.stab.trans ((m1.st.wide (Nat.le_refl _) (by omega) (by omega)).trans (m2.st.wide (by omega) (by omega) (Nat.le_refl _))), fun i j h1 h2 h3 => ?_⟩
  by_cases c1 : j < mid
  · rw [m2.st.out i (by omega), m2.st.out j (by omega)]
    exact m1.so i j h1 h2 c1
  by_cases c2 : mid ≤ i
  · exact m2.so i j c2 h2 h3
  rw [m2.st.out i (by omega)]
  obtain ⟨y, hy1, hy2, hy⟩ := m1.st.mem h1 (show i < mid by omega)
  obtain ⟨z, hz1, hz2, hz⟩ := m2.st.mem (show mid ≤ j by omega) h3
  rw [← hy, ← hz, m1.st.out z (by omega)]
  have vy : (y < s ∧ rotF f s m e y = f y) ∨ (∃ t, m ≤ t ∧ t < e ∧ rotF f s m e y = f t) := by
    by_cases d1 : y < s
    · exact Or.inl ⟨d1, rotF_out f k3 k4 (by omega)⟩
    · exact Or.inr ⟨y + (m - s), by omega, by omega, rotF_lo f (by omega) (by omega)⟩
  have vz : (e ≤ z ∧ rotF f s m e z = f z) ∨ (∃ t, s ≤ t ∧ t < m ∧ rotF f s m e z = f t) := by
    by_cases d1 : e ≤ z
    · exact Or.inl ⟨d1, rotF_out f k3 k4 (by omega)⟩
    · exact Or.inr ⟨z - (e - m), by omega, by omega, rotF_hi f (by omega) (by omega)⟩
  rcases vy with ⟨d1, e1⟩ | ⟨t, d1, d2, e1⟩ <;> rcases vz with ⟨d3, e3⟩ | ⟨u, d3, d4, e3⟩ <;> rw [e1, e3]
  · exact c.c2 y z hy1 d1 d3 hz2
  · exact hA y u hy1 (by omega) d4
  · exact hB t z d1 (by omega) hz2
  · exact Int.le_of_lt (c.c1 u t d3 d4 d1 d2)
/-- What the search has found when it ends. -/
theorem cut_of {f : Nat → α} {a m b s : Nat} (h1 : a < m) (h2 : m < b) (hA : Srt key f a m) (hB : Srt key f m b) {lo hi : Nat} (hlo : ((a + b) / 2 < m ∧ lo = (a + b) / 2 + m - b ∧ hi = (a + b) / 2) ∨ (m ≤ (a + b) / 2 ∧ lo = a ∧ hi = m))
    (hs1 : lo ≤ s) (hs2 : s ≤ hi) (hl : lo < s → key (f (s - 1)) ≤ key (f ((a + b) / 2 + m - 1 - (s - 1)))) (hr : s < hi → key (f ((a + b) / 2 + m - 1 - s)) < key (f s)) : Cut key f a m b s ((a + b) / 2 + m - s) ((a + b) / 2) := by
  refine ⟨by omega, by omega, by omega, by omega, by omega, fun i j c1 c2 c3 c4 => ?_, fun i j c1 c2 c3 c4 => ?_⟩
  · have hsh : s < hi := by omega
    have k1 := hr hsh
    have k2 : key (f s) ≤ key (f i) := by
      by_cases e : s = i
      · rw [e]
        exact Int.le_refl _
      · exact hA s i (by omega) (by omega) c2
    have k3 : key (f j) ≤ key (f ((a + b) / 2 + m - 1 - s)) := by
      by_cases e : j = (a + b) / 2 + m - 1 - s
      · rw [e]
        exact Int.le_refl _
      · exact hB j _ c3 (by omega) (by omega)
    omega
  · have hsl : lo < s := by omega
    have k1 := hl hsl
    have k2 : key (f i) ≤ key (f (s - 1)) := by
      by_cases e : i = s - 1
      · rw [e]
        exact Int.le_refl _
      · exact hA i (s - 1) c1 (by omega) (by omega)
    have k3 : key (f ((a + b) / 2 + m - 1 - (s - 1))) ≤ key (f j) := by
      by_cases e : (a + b) / 2 + m - 1 - (s - 1) = j
      · rw [e]
        exact Int.le_refl _
      · exact hB _ j (by omega) (by omega) c4
    omega
end
section
variable {α : Type} [Inhabited α] {key : α → Int}
/-- A row by its places. -/
abbrev rd (d : Array α) : Nat → α := fun i => d[i]!
theorem rd_swp (d : Array α) {i j : Nat} (hi : i < d.size) (hj : j < d.size) : rd (swp d i j) = swF (rd d) i j := by
  funext x
  exact swp_get d hi hj x
theorem stab_inner (lt : α → α → Bool) (hlt : ∀ x y, lt x y = decide (key x < key y)) (a b : Nat) : ∀ (i : Nat) (d : Array α), i < b → b ≤ d.size → Stab key (rd d) (rd (insInner lt a i d)) a b ∧ (insInner lt a i d).size = d.size
  | 0, d, _, _ => ⟨Stab.refl _ _ _, rfl⟩
  | j + 1, d, h1, h2 => by
    unfold insInner
    split
    · rename_i h
      rw [Bool.and_eq_true, decide_eq_true_eq, hlt, decide_eq_true_eq] at h
      have ih := stab_inner lt hlt a b j (swp d (j + 1) j) (by omega) (by rw [size_swp]; exact h2)
      have e : rd (swp d (j + 1) j) = rotF (rd d) j (j + 1) (j + 2) := by
        rw [rd_swp d (by omega) (by omega)]
        funext x
        unfold swF rotF
        by_cases c1 : x = j
        · rw [if_pos c1, if_pos (by omega)]
          congr 1
          omega
        by_cases c2 : x = j + 1
        · rw [if_neg c1, if_pos c2, if_neg (by omega), if_pos (by omega)]
          congr 1
          omega
        · rw [if_neg c1, if_neg c2, if_neg (by omega), if_neg (by omega)]
      have st : Stab key (rd d) (rd (swp d (j + 1) j)) a b := by
        rw [e]
        refine (stab_rot (by omega) (by omega) (fun u v c1 c2 c3 c4 => ?_)).wide (by omega) (by omega) (by omega)
        rw [show u = j by omega, show v = j + 1 by omega]
        exact h.2
      exact ⟨st.trans ih.1, ih.2.trans (size_swp _ _ _)⟩
    · exact ⟨Stab.refl _ _ _, rfl⟩
theorem stab_outer (lt : α → α → Bool) (hlt : ∀ x y, lt x y = decide (key x < key y)) (a b : Nat) : ∀ (n i : Nat) (d : Array α), b - i ≤ n → b ≤ d.size → Stab key (rd d) (rd (insOuter lt a b i d)) a b ∧ (insOuter lt a b i d).size = d.size
  | 0, i, d, h, _ => by
    rw [insOuter_stop lt a b i d (by omega)]
    exact ⟨Stab.refl _ _ _, rfl⟩
  | n + 1, i, d, h, hb => by
    by_cases hi : i < b
    · have h1 := stab_inner lt hlt a b i d hi hb
      have h2 := stab_outer lt hlt a b n (i + 1) (insInner lt a i d) (by omega) (by rw [h1.2]; exact hb)
      rw [insOuter_go lt a b i d hi]
      exact ⟨h1.1.trans h2.1, h2.2.trans h1.2⟩
    · rw [insOuter_stop lt a b i d hi]
      exact ⟨Stab.refl _ _ _, rfl⟩
omit [Inhabited α] in
theorem swo_key (lt : α → α → Bool) (hlt : ∀ x y, lt x y = decide (key x < key y)) : SWO lt where
  irrefl x := by rw [hlt]; simp
  trans x y z h1 h2 := by rw [hlt] at *; simp at *; omega
  ntrans x y z h1 h2 := by rw [hlt] at *; simp at *; omega
theorem mrg_ins (lt : α → α → Bool) (hlt : ∀ x y, lt x y = decide (key x < key y)) (a b : Nat) (hab : a ≤ b) (d : Array α) (hb : b ≤ d.size) : Mrg key (rd d) (rd (insertionSort lt d a b)) a b ∧ (insertionSort lt d a b).size = d.size := by
  have h1 := stab_outer lt hlt a b (b - (a + 1)) (a + 1) d (Nat.le_refl _) hb
  have h2 := (insertionSort_holds (swo_key lt hlt) d a b hab hb).2
  refine ⟨⟨h1.1, fun i j c1 c2 c3 => ?_⟩, h1.2⟩
  have := h2 i j c1 c2 c3
  rw [hlt, decide_eq_false_iff_not] at this
  exact Int.not_lt.1 this
/-- Sorted block by block, up to a place. -/
def Blk (key : α → Int) (f : Nat → α) (s n : Nat) : Prop := ∀ i j, i < j → j < n → i / s = j / s → key (f i) ≤ key (f j)
/-- .. from a place on. -/
def Bln (key : α → Int) (f : Nat → α) (s u n : Nat) : Prop := ∀ i j, u ≤ i → i < j → j < n → i / s = j / s → key (f i) ≤ key (f j)
theorem div_at {s q j : Nat} (h1 : q * s ≤ j) (h2 : j < q * s + s) : j / s = q := Nat.div_eq_of_lt_le h1 (by rw [Nat.add_mul, Nat.one_mul]; exact h2)
omit [Inhabited α] in
theorem Blk.whole {f : Nat → α} {s n : Nat} (h : Blk key f s n) (hn : n ≤ s) : Srt key f 0 n := fun i j _ h2 h3 => h i j h2 h3 (by rw [Nat.div_eq_of_lt (by omega), Nat.div_eq_of_lt (by omega)])
omit [Inhabited α] in
theorem Blk.none (f : Nat → α) (s : Nat) : Blk key f s 0 := fun _ _ _ h => absurd h (Nat.not_lt_zero _)
omit [Inhabited α] in
theorem Blk.step {f g : Nat → α} {s a b q : Nat} (hP : Blk key f s a) (ha : a = q * s) (hb : b ≤ a + s) (h : Mrg key f g a b) : Blk key g s b := fun i j h1 h2 h3 => by
  by_cases c : j < a
  · rw [h.st.out i (by omega), h.st.out j (by omega)]
    exact hP i j h1 c h3
  · have e : j / s = q := div_at (by omega) (by omega)
    have e2 := Nat.div_mul_le_self i s
    rw [h3, e] at e2
    exact h.so i j (by omega) h1 h2
omit [Inhabited α] in
theorem Blk.bln {f : Nat → α} {s n : Nat} (h : Blk key f s n) : Bln key f s 0 n := fun i j _ h2 h3 h4 => h i j h2 h3 h4
omit [Inhabited α] in
theorem Bln.step {f g : Nat → α} {s a b n : Nat} (h : Bln key f s a n) (hab : a ≤ b) (hs : Stab key f g a b) : Bln key g s b n := fun i j h1 h2 h3 h4 => by
  rw [hs.out i (by omega), hs.out j (by omega)]
  exact h i j (by omega) h2 h3 h4
omit [Inhabited α] in
/-- The two halves of the next block. -/
theorem Bln.left {f : Nat → α} {s a n q m : Nat} (h : Bln key f s a n) (ha : a = 2 * q * s) (hm : m ≤ a + s) (hn : m ≤ n) : Srt key f a m := fun i j h1 h2 h3 => by
  refine h i j h1 h2 (by omega) ?_
  rw [div_at (s := s) (q := 2 * q) (by omega) (by omega), div_at (s := s) (q := 2 * q) (by omega) (by omega)]
omit [Inhabited α] in
theorem Bln.right {f : Nat → α} {s a n q b : Nat} (h : Bln key f s a n) (ha : a = 2 * q * s) (hb : b ≤ a + s + s) (hn : b ≤ n) : Srt key f (a + s) b := fun i j h1 h2 h3 => by
  have e : (2 * q + 1) * s = a + s := by rw [Nat.add_mul, Nat.one_mul, ha]
  refine h i j (by omega) h2 (by omega) ?_
  rw [div_at (s := s) (q := 2 * q + 1) (by omega) (by omega), div_at (s := s) (q := 2 * q + 1) (by omega) (by omega)]
omit [Inhabited α] in
theorem Mrg.same {f : Nat → α} {a b : Nat} (h : Srt key f a b) : Mrg key f f a b := ⟨Stab.refl _ _ _, h⟩
end
end Go.Proofs.Ytkngpfngfmbmjaa
/-
  Records put to a state as package durable does it, as plain data: what has its place at once, and what is put between the others at the end by a stable sort. No condition but what each part says.
-/
namespace Go.Proofs.Ytkngpfngfmbmjaa

/-- The entries of one slot. -/
abbrev ofS (k : Int) (l : List En) : List En := l.filter fun x => decide (x.slot = k)
/-- .. the last of them. -/
abbrev lastS (k : Int) (l : List En) : List En := (ofS k l).getLast?.toList
abbrev UpS (l : List En) : Prop := l.Pairwise fun x y => x.slot < y.slot
theorem ofS_nil_of {k : Int} {l : List En} (h : ∀ x ∈ l, x.slot ≠ k) : ofS k l = [] := by
  rw [List.filter_eq_nil_iff]
  intro x hx hk
  exact h x hx (of_decide_eq_true hk)
theorem ofS_cons_yes {k : Int} {x : En} {l : List En} (h : x.slot = k) : ofS k (x :: l) = x :: ofS k l := List.filter_cons_of_pos (by simpa using h)
theorem ofS_cons_no {k : Int} {x : En} {l : List En} (h : ¬ x.slot = k) : ofS k (x :: l) = ofS k l := List.filter_cons_of_neg (by simpa using h)
theorem ofS_put : ∀ (l : List En) (e : En) (k : Int), UpS l → ofS k (putE l e) = if e.slot = k then [e] else ofS k l
  | [], e, k, _ => by
    unfold putE
    by_cases h : e.slot = k
    · rw [if_pos h, ofS_cons_yes h]
      rfl
    · rw [if_neg h, ofS_cons_no h]
  | x :: l, e, k, hu => by
    rw [UpS, List.pairwise_cons] at hu
    have ih := ofS_put l e k hu.2
    unfold putE
    by_cases h1 : x.slot < e.slot
    · rw [if_pos h1]
      by_cases h : e.slot = k
      · rw [if_pos h] at ih ⊢
        rw [ofS_cons_no (by omega), ih]
      · rw [if_neg h] at ih ⊢
        by_cases hx : x.slot = k
        · rw [ofS_cons_yes hx, ofS_cons_yes hx, ih]
        · rw [ofS_cons_no hx, ofS_cons_no hx, ih]
    · rw [if_neg h1]
      by_cases h2 : x.slot = e.slot
      · rw [if_pos h2]
        by_cases h : e.slot = k
        · rw [if_pos h, ofS_cons_yes h, ofS_nil_of (fun y hy => by have := hu.1 y hy; omega)]
        · rw [if_neg h, ofS_cons_no h, ofS_cons_no (by omega)]
      · rw [if_neg h2]
        by_cases h : e.slot = k
        · rw [if_pos h, ofS_cons_yes h, ofS_cons_no (by omega), ofS_nil_of (fun y hy => by have := hu.1 y hy; omega)]
        · rw [if_neg h, ofS_cons_no h]
theorem putE_has : ∀ (l : List En) (e y : En), y ∈ l → ∃ z ∈ putE l e, z.slot = y.slot
  | [], _, _, h => by cases h
  | x :: l, e, y, h => by
    unfold putE
    rcases List.mem_cons.1 h with rfl | h
    · split
      · exact ⟨y, by simp, rfl⟩
      · split
        · rename_i h2
          exact ⟨e, by simp, h2.symm⟩
        · exact ⟨y, by simp, rfl⟩
    · split
      · obtain ⟨z, h1, h2⟩ := putE_has l e y h
        exact ⟨z, by simp [h1], h2⟩
      · split
        · exact ⟨y, by simp [h], rfl⟩
        · exact ⟨y, by simp [h], rfl⟩
/-- Two rows that rise and have the same entry of each slot. -/
theorem up_only : ∀ (A B : List En), UpS A → UpS B → (∀ k, ofS k A = ofS k B) → A = B
  | [], [], _, _, _ => rfl
  | [], y :: B, _, _, h => by
    have := h y.slot
    rw [ofS_cons_yes rfl] at this
    cases this
  | x :: A, [], _, _, h => by
    have := h x.slot
    rw [ofS_cons_yes rfl] at this
    cases this
  | x :: A, y :: B, ha, hb, h => by
    rw [UpS, List.pairwise_cons] at ha hb
    have h1 : x ∈ y :: B := by
      have : x ∈ ofS x.slot (x :: A) := by
        rw [ofS_cons_yes rfl]
        simp
      rw [h] at this
      exact (List.mem_filter.1 this).1
    have h2 : y ∈ x :: A := by
      have : y ∈ ofS y.slot (y :: B) := by
        rw [ofS_cons_yes rfl]
        simp
      rw [← h] at this
      exact (List.mem_filter.1 this).1
    have e : x = y := by
      rcases List.mem_cons.1 h1 with h1 | h1
      · exact h1
      rcases List.mem_cons.1 h2 with h2 | h2
      · exact h2.symm
      have := hb.1 x h1
      have := ha.1 y h2
      omega
    subst e
    congr 1
    refine up_only A B ha.2 hb.2 fun k => ?_
    have hk := h k
    by_cases c : x.slot = k
    · rw [ofS_cons_yes c, ofS_cons_yes c] at hk
      exact (List.cons.inj hk).2
    · rw [ofS_cons_no c, ofS_cons_no c] at hk
      exact hk
theorem ofS_up {l : List En} (h : UpS l) (k : Int) : ofS k l = lastS k l := by
  induction l with
  | nil => rfl
  | cons x l ih =>
    rw [UpS, List.pairwise_cons] at h
    by_cases c : x.slot = k
    · have e : ofS k l = [] := ofS_nil_of fun y hy => by have := h.1 y hy; omega
      rw [lastS, ofS_cons_yes c, e]
      rfl
    · rw [lastS, ofS_cons_no c]
      exact ih h.2
/-- Of those of one slot that lie side by side the last. -/
def keepL : List En → List En
  | [] => []
  | [x] => [x]
  | x :: y :: l => if x.slot = y.slot then keepL (y :: l) else x :: keepL (y :: l)
theorem keepL_mem : ∀ (l : List En) (x : En), x ∈ keepL l → x ∈ l
  | [], _, h => h
  | [_], _, h => h
  | x :: y :: l, z, h => by
    unfold keepL at h
    split at h
    · exact List.mem_cons_of_mem _ (keepL_mem (y :: l) z h)
    · rcases List.mem_cons.1 h with h | h
      · simp [h]
      · exact List.mem_cons_of_mem _ (keepL_mem (y :: l) z h)
theorem keepL_up : ∀ (l : List En), l.Pairwise (fun x y => x.slot ≤ y.slot) → UpS (keepL l)
  | [], _ => List.Pairwise.nil
  | [x], _ => List.pairwise_singleton _ _
  | x :: y :: l, h => by
    have h1 := List.pairwise_cons.1 h
    have h2 := List.pairwise_cons.1 h1.2
    unfold keepL
    split
    · exact keepL_up (y :: l) h1.2
    · rename_i hne
      refine List.pairwise_cons.2 ⟨fun z hz => ?_, keepL_up (y :: l) h1.2⟩
      have h3 := h1.1 y (by simp)
      rcases List.mem_cons.1 (keepL_mem _ _ hz) with rfl | hz
      · omega
      · have := h2.1 z hz
        omega
theorem keepL_ofS : ∀ (l : List En), l.Pairwise (fun x y => x.slot ≤ y.slot) → ∀ k, ofS k (keepL l) = lastS k l
  | [], _, _ => rfl
  | [x], _, k => by
    show ofS k [x] = lastS k [x]
    exact ofS_up (List.pairwise_singleton _ _) k
  | x :: y :: l, h, k => by
    have h1 := List.pairwise_cons.1 h
    have h2 := List.pairwise_cons.1 h1.2
    have ih := keepL_ofS (y :: l) h1.2 k
    unfold keepL
    split
    · rename_i he
      rw [ih]
      unfold lastS
      by_cases c : x.slot = k
      · rw [ofS_cons_yes (x := x) c, ofS_cons_yes (x := y) (by omega), List.getLast?_cons_cons]
      · rw [ofS_cons_no (x := x) c]
    · rename_i hne
      have h3 := h1.1 y (by simp)
      unfold lastS at ih ⊢
      by_cases c : x.slot = k
      · have e : ofS k (y :: l) = [] := ofS_nil_of fun z hz => by
          rcases List.mem_cons.1 hz with rfl | hz
          · omega
          · have := h2.1 z hz
            omega
        rw [e] at ih
        rw [ofS_cons_yes c, ofS_cons_yes c, ih, e]
        rfl
      · rw [ofS_cons_no c, ofS_cons_no c, ih]
/-- One place of the walk over a sorted row. -/
theorem keepL_drop (l : List En) (i : Nat) (hi : i < l.length) : keepL (l.drop i) = if i + 1 = l.length ∨ (∃ y, l[i + 1]? = some y ∧ y.slot ≠ l[i].slot) then l[i] :: keepL (l.drop (i + 1)) else keepL (l.drop (i + 1)) := by
  rw [List.drop_eq_getElem_cons hi]
  by_cases h1 : i + 1 = l.length
  · rw [if_pos (Or.inl h1), List.drop_eq_nil_of_le (by omega)]
    rfl
  · have h2 : i + 1 < l.length := by omega
    rw [List.drop_eq_getElem_cons h2]
    show (if l[i].slot = l[i + 1].slot then keepL (l[i + 1] :: l.drop (i + 1 + 1)) else l[i] :: keepL (l[i + 1] :: l.drop (i + 1 + 1))) = _
    by_cases h3 : l[i].slot = l[i + 1].slot
    · rw [if_pos h3, if_neg]
      rintro (h4 | ⟨y, h4, h5⟩)
      · exact h1 h4
      · rw [List.getElem?_eq_getElem h2] at h4
        cases h4
        exact h5 h3.symm
    · rw [if_neg h3, if_pos (Or.inr ⟨_, List.getElem?_eq_getElem h2, fun h => h3 h.symm⟩)]
/-- What has its place, and what is to be put between: together the state's entries. -/
structure Btw (b : Int) (D es bt : List En) : Prop where
  ri : Rises b es
  rd : Rises b D
  lk : ∀ k, ofS k D = lastS k (es ++ bt)
  bt : ∀ x ∈ bt, b < x.slot ∧ (∃ y ∈ es, x.slot < y.slot) ∧ ∀ y ∈ es, y.slot ≠ x.slot
theorem Btw.start {b : Int} {es : List En} (h : Rises b es) : Btw b es es [] := ⟨h, h, fun k => by rw [List.append_nil]; exact ofS_up h.2 k, fun _ h => by cases h⟩
theorem lastS_append (k : Int) (A B : List En) : lastS k (A ++ B) = ((ofS k B).getLast?.or (ofS k A).getLast?).toList := by
  unfold lastS ofS
  rw [List.filter_append, List.getLast?_append]
theorem rises_put {b : Int} {es : List En} {e : En} (h : Rises b es) (hb : b < e.slot) : Rises b (putE es e) := ⟨fun x hx => by
    rcases putE_mem _ _ _ hx with rfl | hx
    · exact hb
    · exact h.1 x hx, putE_pair _ _ h.2⟩
theorem Btw.place {b : Int} {D es bt : List En} (h : Btw b D es bt) {e : En} (hb : b < e.slot) (he : (∃ y ∈ es, y.slot = e.slot) ∨ ∀ y ∈ es, y.slot < e.slot) : Btw b (putE D e) (putE es e) bt := by
  have hne : ∀ x ∈ bt, x.slot ≠ e.slot := fun x hx => by
    obtain ⟨_, ⟨y, hy, hlt⟩, h3⟩ := h.bt x hx
    rcases he with ⟨z, hz, hz2⟩ | he
    · have := h3 z hz
      omega
    · have := he y hy
      omega
  refine ⟨rises_put h.ri hb, rises_put h.rd hb, fun k => ?_, fun x hx => ?_⟩
  · rw [ofS_put _ _ _ h.rd.2, lastS_append, ofS_put _ _ _ h.ri.2]
    by_cases c : e.slot = k
    · rw [if_pos c, if_pos c, ofS_nil_of (l := bt) (fun x hx => by have := hne x hx; omega)]
      rfl
    · rw [if_neg c, if_neg c, h.lk, lastS_append]
  · obtain ⟨h1, ⟨y, hy, hlt⟩, h3⟩ := h.bt x hx
    refine ⟨h1, ?_, fun z hz => ?_⟩
    · obtain ⟨z, hz, hz2⟩ := putE_has es e y hy
      exact ⟨z, hz, by omega⟩
    · rcases putE_mem _ _ _ hz with rfl | hz
      · exact fun h => hne x hx h.symm
      · exact h3 z hz
theorem Btw.later {b : Int} {D es bt : List En} (h : Btw b D es bt) {e : En} (hb : b < e.slot) (h1 : ∀ y ∈ es, y.slot ≠ e.slot) (h2 : ∃ y ∈ es, e.slot < y.slot) : Btw b (putE D e) es (bt ++ [e]) := by
  refine ⟨h.ri, rises_put h.rd hb, fun k => ?_, fun x hx => ?_⟩
  · rw [ofS_put _ _ _ h.rd.2, lastS_append]
    by_cases c : e.slot = k
    · rw [if_pos c]
      have : ofS k (bt ++ [e]) = ofS k bt ++ [e] := by
        unfold ofS
        rw [List.filter_append]
        congr 1
        exact ofS_cons_yes c
      rw [this, List.getLast?_concat]
      rfl
    · rw [if_neg c, h.lk, lastS_append]
      have : ofS k (bt ++ [e]) = ofS k bt := by
        unfold ofS
        rw [List.filter_append]
        have : ([e] : List En).filter (fun x => decide (x.slot = k)) = [] := ofS_cons_no c
        rw [this, List.append_nil]
      rw [this]
  · rw [List.mem_append, List.mem_singleton] at hx
    rcases hx with hx | rfl
    · exact h.bt x hx
    · exact ⟨hb, h2, h1⟩
theorem Btw.none {b : Int} {D es : List En} (h : Btw b D es []) : es = D := by
  refine up_only es D h.ri.2 h.rd.2 fun k => ?_
  rw [h.lk, List.append_nil]
  exact ofS_up h.ri.2 k
theorem Btw.sorted {b : Int} {D es bt L : List En} (h : Btw b D es bt) (h1 : L.Pairwise (fun x y => x.slot ≤ y.slot)) (h2 : ∀ k, ofS k L = ofS k (es ++ bt)) : keepL L = D := by
  refine up_only _ D (keepL_up L h1) h.rd.2 fun k => ?_
  rw [keepL_ofS L h1, h.lk]
  unfold lastS
  rw [h2]
/-- Where an entry would come: k are below it. -/
theorem put_there {es : List En} {e : En} {k : Nat} (hk : k < es.length) (hl : ∀ x ∈ es.take k, x.slot < e.slot) (he : es[k].slot = e.slot) : putE es e = es.set k e ∧ ∃ y ∈ es, y.slot = e.slot := by
  refine ⟨?_, es[k], List.getElem_mem hk, he⟩
  rw [putE_at es e k (by omega) hl (fun x hx => by rw [List.getElem?_eq_getElem hk] at hx; cases hx; omega) (k + 1) (Or.inr ⟨rfl, es[k], List.getElem?_eq_getElem hk, he⟩)]
  rw [List.set_eq_take_append_cons_drop, if_pos hk, List.append_assoc]
  rfl
theorem put_between {es : List En} {e : En} {k : Nat} (hk : k < es.length) (hl : ∀ x ∈ es.take k, x.slot < e.slot) (hr : ∀ x ∈ es.drop k, ¬ x.slot < e.slot) (hu : UpS es) (he : es[k].slot ≠ e.slot) : (∀ y ∈ es, y.slot ≠ e.slot) ∧ ∃ y ∈ es, e.slot < y.slot := by
  have h1 : e.slot < es[k].slot := by
    have := hr es[k] (List.mem_drop_iff_getElem.2 ⟨0, by simpa using hk, by simp⟩)
    omega
  refine ⟨fun y hy => ?_, es[k], List.getElem_mem hk, h1⟩
  rw [← List.take_append_drop k es, List.mem_append] at hy
  rcases hy with hy | hy
  · have := hl y hy
    omega
  · rw [List.drop_eq_getElem_cons hk] at hy
    have hp : (es.drop k).Pairwise (fun x y => x.slot < y.slot) := hu.sublist (List.drop_sublist k es)
    rw [List.drop_eq_getElem_cons hk, List.pairwise_cons] at hp
    rcases List.mem_cons.1 hy with rfl | hy
    · omega
    · have := hp.1 y hy
      omega
/-- Sorted by places, and the same of each slot: the same as a row. -/
theorem of_mrg {d g : Array En} [Inhabited En] {n : Nat} (hd : d.size = n) (hg : g.size = n) (h : Mrg (fun x : En => x.slot) (rd d) (rd g) 0 n) : g.toList.Pairwise (fun x y => x.slot ≤ y.slot) ∧ ∀ k, ofS k g.toList = ofS k d.toList := by
  have e : ∀ x : Array En, x.size = n → sgm (rd x) 0 (n - 0) = x.toList := by
    intro x hx
    apply List.ext_getElem
    · rw [sgm_length, Array.length_toList]
      omega
    · intro i h1 h2
      rw [Array.length_toList] at h2
      simp [sgm, rd, h2]
  refine ⟨?_, fun k => ?_⟩
  · rw [List.pairwise_iff_getElem]
    intro i j hi hj hij
    rw [Array.length_toList] at hi hj
    have := h.so i j (Nat.zero_le _) hij (by omega)
    simpa [rd, hi, hj] using this
  · have := h.st.eqk k
    rw [e g hg, e d hd] at this
    exact this
end Go.Proofs.Ytkngpfngfmbmjaa
