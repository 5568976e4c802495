/-
  Frames one behind the other, on lists of bytes: of any beginning of them just those are read that are whole. No condition but that no text is longer than a text may be.
-/
import Derived.Test.YtpokiijbhmmmaaaDoorFAwake
namespace Go.Proofs.YtpokiijbhmmmaaaDoor

/-- n frames from place i on. -/
def cat (T : Nat → List UInt8) : Nat → Nat → List UInt8
  | _, 0 => []
  | i, n + 1 => frameOf (T i) ++ cat T (i + 1) n

theorem cat_snoc (T : Nat → List UInt8) : ∀ (n i : Nat), cat T i (n + 1) = cat T i n ++ frameOf (T (i + n))
  | 0, i => by simp [cat]
  | n + 1, i => by rw [cat, cat_snoc T n (i + 1), cat, List.append_assoc, show i + 1 + n = i + (n + 1) by omega]
theorem cat_split (T : Nat → List UInt8) : ∀ (m i n : Nat), m ≤ n → cat T i n = cat T i m ++ cat T (i + m) (n - m)
  | 0, i, n, _ => by simp [cat]
  | m + 1, i, n, h => by
    obtain ⟨n', rfl⟩ : ∃ n', n = n' + 1 := ⟨n - 1, by omega⟩
    rw [cat, cat_split T m (i + 1) n' (by omega), cat, List.append_assoc, show i + 1 + m = i + (m + 1) by omega, show n' + 1 - (m + 1) = n' - m by omega]
theorem cat_ge (T : Nat → List UInt8) : ∀ (n i : Nat), 8 * n ≤ (cat T i n).length
  | 0, _ => by simp
  | n + 1, i => by
    have := cat_ge T n (i + 1)
    rw [cat, List.length_append, frameOf_len]
    omega
theorem cat_le {T : Nat → List UInt8} {k : Nat} (hT : ∀ j, j < k → (T j).length ≤ 524288) : ∀ (n i : Nat), i + n ≤ k → (cat T i n).length ≤ n * 524296
  | 0, _, _ => by simp [cat]
  | n + 1, i, h => by
    have h1 := cat_le hT n (i + 1) (by omega)
    have h2 := hT i (by omega)
    rw [cat, List.length_append, frameOf_len]
    omega

/-- A beginning of a frame that is not whole is none. -/
theorem first_cut {t x p : List UInt8} {n : Nat} (ht : t.length ≤ 524288) (hp : p = (frameOf t ++ x).take n) (hn : n < t.length + 8) : (firstOf p).2.2 ≠ 0 := by
  have hl : p.length = n := by rw [hp, List.length_take, List.length_append, frameOf_len]; omega
  unfold firstOf
  rw [hl]
  by_cases h8 : n < 8
  · rw [if_pos h8]; simp
  · rw [if_neg h8]
    have hnum : num4 p = t.length := by
      have e : num4 (frameOf t ++ x) = t.length := by
        unfold frameOf
        rw [List.append_assoc]
        exact num4_four (by omega) _
      rw [← e, hp]
      unfold num4
      have g : ∀ j, j < 4 → ((frameOf t ++ x).take n).getD j 0 = (frameOf t ++ x).getD j 0 := fun j hj => by
        rw [List.getD_eq_getElem?_getD, List.getD_eq_getElem?_getD, List.getElem?_take, if_pos (by omega)]
      rw [g 0 (by omega), g 1 (by omega), g 2 (by omega), g 3 (by omega)]
    rw [hnum, if_neg (by omega), if_pos (by omega)]
    simp

theorem all_cat {T : Nat → List UInt8} {k : Nat} (hT : ∀ j, j < k → (T j).length ≤ 524288) {rest : List UInt8} (hr : (firstOf rest).2.2 ≠ 0) : ∀ (m i f : Nat), i + m ≤ k → m < f →
    allOf f (cat T i m ++ rest) = ((List.range' i m).map T, (cat T i m).length)
  | 0, i, f, _, hf => by
    obtain ⟨f', rfl⟩ : ∃ f', f = f' + 1 := ⟨f - 1, by omega⟩
    show allOf (f' + 1) rest = _
    rw [allOf_stop hr]
    rfl
  | m + 1, i, f, h, hf => by
    obtain ⟨f', rfl⟩ : ∃ f', f = f' + 1 := ⟨f - 1, by omega⟩
    rw [cat, List.append_assoc, all_one (T i) (hT i (by omega)), all_cat hT hr m (i + 1) f' (by omega) (by omega), List.range'_succ, List.map_cons, List.length_append, frameOf_len]

/-- OF ANY BEGINNING OF FRAMES JUST THOSE THAT ARE WHOLE. -/
theorem whole {T : Nat → List UInt8} {k m C : Nat} (hT : ∀ j, j < k → (T j).length ≤ 524288) (hm : m ≤ k) (h1 : (cat T 0 m).length ≤ C) (h2 : m = k ∨ C < (cat T 0 (m + 1)).length) :
    allT ((cat T 0 k).take C) = ((List.range' 0 m).map T, (cat T 0 m).length) := by
  have e : (cat T 0 k).take C = cat T 0 m ++ (cat T m (k - m)).take (C - (cat T 0 m).length) := by
    rw [cat_split T m 0 k hm, Nat.zero_add, List.take_append]
    rw [List.take_of_length_le h1]
  have hr : (firstOf ((cat T m (k - m)).take (C - (cat T 0 m).length))).2.2 ≠ 0 := by
    rcases h2 with h2 | h2
    · rw [h2, Nat.sub_self]
      simp [cat, firstOf]
    · by_cases hmk : m = k
      · rw [hmk, Nat.sub_self]
        simp [cat, firstOf]
      · obtain ⟨r, hrr⟩ : ∃ r, k - m = r + 1 := ⟨k - m - 1, by omega⟩
        rw [cat_snoc, Nat.zero_add, List.length_append, frameOf_len] at h2
        rw [hrr, cat]
        exact first_cut (hT m (by omega)) rfl (by omega)
  have hg := cat_ge T m 0
  unfold allT
  rw [e]
  exact all_cat hT hr m 0 _ (by omega) (by rw [List.length_append]; omega)
end Go.Proofs.YtpokiijbhmmmaaaDoor
