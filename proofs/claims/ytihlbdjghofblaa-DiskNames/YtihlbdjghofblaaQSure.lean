/-
  DiskSure of layer 5, walked: what was synced is there behind any crash; of what was not, a beginning. No condition.
-/
import Derived.Test.YtihlbdjghofblaaQNone
namespace Go.Proofs.Ytihlbdjghofblaa
open Go.RowKit

/-- One file, 'a', with these bytes, of which so many are sure. -/
def oneF (c : Nat) (bs : List UInt8) (sure : Nat) (ps : List (Nat × Nat)) : List CF := [⟨⟨#[97]⟩, c, .slice none 0 0, .slice none 0 0, bs, sure, ps⟩]
def morePs (ps : List (Nat × Nat)) (s : ByteArray) (t : Nat) : List (Nat × Nat) := if s.size = 0 then ps else ps ++ [(t, s.size)]
def moreT (s : ByteArray) (t : Nat) : Nat := if s.size = 0 then t else t + 1
theorem empty_of {s : ByteArray} (h : s.size = 0) : s = ⟨#[]⟩ := by
  apply ByteArray.ext
  exact Array.eq_empty_of_size_eq_zero h
section
variable {w : World} {base D : Nat} {ro : Nat → Option Nat}
/-- The first append. -/
theorem one_first (k : DkS w base D [] 0 ro) (s : ByteArray) (hs : s.size ≤ 4194304) : Calls Try.prog 12 #[.pointer (some ⟨D, 0, none⟩), .string ⟨#[97]⟩, .string s] w fun e w' => e = .returned (.int .i64 0) ∧ ∃ c ro', DkS w' base D (oneF c s.data.toList 0 (morePs [] s 1)) (moreT s 0) ro' ∧ Below base w w' := by
  by_cases h0 : s.size = 0
  · have e := empty_of h0
    subst e
    exact (S_append_noneN k ⟨#[97]⟩ (by decide) rfl).mono fun _ _ ⟨h1, c, ro', h2, h3⟩ => ⟨h1, c, ro', h2, k.below h3⟩
  · refine (S_append_new k ⟨#[97]⟩ s (by decide) rfl (by omega) hs (by decide)).mono fun _ _ ⟨h1, c, ro', h2, h3⟩ => ⟨h1, c, ro', ?_, k.below h3⟩
    have e1 : morePs [] s 1 = [(1, s.size)] := by simp [morePs, h0]
    have e2 : moreT s 0 = 1 := by simp [moreT, h0]
    rw [e1, e2]
    exact h2
/-- An append more. -/
theorem one_more {c t sure : Nat} {bs : List UInt8} {ps : List (Nat × Nat)} (k : DkS w base D (oneF c bs sure ps) t ro) (s : ByteArray) (hs : bs.length + s.size ≤ 4194304) (ht : t < 4611686018427387904) : Calls Try.prog 12 #[.pointer (some ⟨D, 0, none⟩), .string ⟨#[97]⟩, .string s] w fun e w' => e = .returned (.int .i64 0) ∧ ∃ ro', DkS w' base D (oneF c (bs ++ s.data.toList) sure (morePs ps s (t + 1))) (moreT s t) ro' ∧ Below base w w' := by
  by_cases h0 : s.size = 0
  · have e := empty_of h0
    subst e
    refine (S_append_none k ⟨#[97]⟩ (by decide) _ rfl).mono fun _ _ ⟨h1, h2⟩ => ⟨h1, ro, ?_, by rw [← h2]; exact Below.refl _ _⟩
    have e1 : bs ++ (⟨#[]⟩ : ByteArray).data.toList = bs := by simp
    rw [e1, ← h2]
    exact k
  · refine (S_append k ⟨#[97]⟩ s (by decide) _ rfl (by omega) hs ht).mono fun _ _ ⟨h1, ro', h2, h3⟩ => ⟨h1, ro', ?_, k.below h3⟩
    have e1 : morePs ps s (t + 1) = ps ++ [(t + 1, s.size)] := by simp [morePs, h0]
    have e2 : moreT s t = t + 1 := by simp [moreT, h0]
    rw [e1, e2]
    have e : setF (oneF c bs sure ps) (appA ⟨⟨#[97]⟩, c, .slice none 0 0, .slice none 0 0, bs, sure, ps⟩ s (t + 1)) = oneF c (bs ++ s.data.toList) sure (ps ++ [(t + 1, s.size)]) := by
      show [if c = c then _ else _] = _
      rw [if_pos rfl]
      rfl
    rw [← e]
    exact h2
/-- One append more than may be. -/
theorem one_long {c t sure : Nat} {bs : List UInt8} {ps : List (Nat × Nat)} (k : DkS w base D (oneF c bs sure ps) t ro) (s : ByteArray) (hs : 4194304 < bs.length + s.size) : Calls Try.prog 12 #[.pointer (some ⟨D, 0, none⟩), .string ⟨#[97]⟩, .string s] w fun e w' => e = .returned (.int .i64 15) ∧ w = w' :=
  S_append_long k ⟨#[97]⟩ s (by decide) _ rfl hs
theorem one_sync {c t sure : Nat} {bs : List UInt8} {ps : List (Nat × Nat)} (k : DkS w base D (oneF c bs sure ps) t ro) : Calls Try.prog 13 #[.pointer (some ⟨D, 0, none⟩), .string ⟨#[97]⟩] w fun e w' => e = .returned (.int .i64 0) ∧ DkS w' base D (oneF c bs bs.length []) t ro ∧ Below base w w' := by
  refine (S_sync k ⟨#[97]⟩ (by decide) _ rfl).mono fun _ _ ⟨h1, h2, h3⟩ => ⟨h1, ?_, k.below h3⟩
  have e : setF (oneF c bs sure ps) (syncF ⟨⟨#[97]⟩, c, .slice none 0 0, .slice none 0 0, bs, sure, ps⟩) = oneF c bs bs.length [] := by
    show [if c = c then _ else _] = _
    rw [if_pos rfl]
    rfl
  rw [← e]
  exact h2
theorem one_read {c t sure : Nat} {bs : List UInt8} {ps : List (Nat × Nat)} (k : DkS w base D (oneF c bs sure ps) t ro) : Calls Try.prog 15 #[.pointer (some ⟨D, 0, none⟩), .string ⟨#[97]⟩] w fun e w' => e = .returned (.tuple #[.string (textOf bs), .int .i64 0]) ∧ w = w' :=
  S_read k ⟨#[97]⟩ (by decide) _ rfl
theorem one_unsynced {c t sure : Nat} {bs : List UInt8} {ps : List (Nat × Nat)} (k : DkS w base D (oneF c bs sure ps) t ro) : Calls Try.prog 16 #[.pointer (some ⟨D, 0, none⟩), .string ⟨#[97]⟩] w fun e w' => e = .returned (.int .i64 (tot ps : Int)) ∧ Below w.heap.size w w' :=
  (S_unsynced k ⟨#[97]⟩ (by decide) _ rfl).mono fun _ _ ⟨h1, h2⟩ => ⟨h1, by rw [h2]; exact ⟨rfl, rfl, rfl, Nat.le_refl _, fun _ _ => rfl⟩⟩
/-- A crash of a file with at most one piece. -/
theorem one_crash {c t t0 sure : Nat} {bs : List UInt8} {s : ByteArray} (k : DkS w base D (oneF c bs sure (morePs [] s t0)) t ro) (keep : Int) (h1 : -9223372036854775808 ≤ keep) (h2 : keep ≤ 9223372036854775807) : Calls Try.prog 14 #[.pointer (some ⟨D, 0, none⟩), .int .i64 keep] w fun e w' => e = .returned (.tuple #[]) ∧
    DkS w' base D (oneF c (bs.take (sure + min s.size keep.toNat)) (sure + min s.size keep.toNat) []) t ro ∧ Below base w w' := by
  refine (S_crash k keep h1 h2 (by simp [oneF])).mono fun _ _ ⟨e1, d, hp, hs, h3, h4⟩ => ⟨e1, ?_, k.below h4⟩
  have hk : keptA d keep.toNat c = min s.size keep.toNat := by
    by_cases h0 : s.size = 0
    · have e : allP (oneF c bs sure (morePs [] s t0)) = [] := by simp [morePs, h0, oneF, allP, p3]
      rw [e] at hp
      rw [hp.eq_nil]
      simp [keptA, h0]
    · have e : allP (oneF c bs sure (morePs [] s t0)) = [(t0, s.size, c)] := by simp [morePs, h0, oneF, allP, p3]
      rw [e] at hp
      rw [List.perm_singleton.1 hp]
      simp [keptA]
  have e : (oneF c bs sure (morePs [] s t0)).map (crA d keep.toNat) = oneF c (bs.take (sure + min s.size keep.toNat)) (sure + min s.size keep.toNat) [] := by
    simp only [oneF, List.map_cons, List.map_nil, crA, crashF, abs, sureN]
    rw [hk]
  rw [← e]
  exact h3
end
end Go.Proofs.Ytihlbdjghofblaa
