/-
  The steps of DiskNames of layer 5: a file laid, removed, renamed, read. No condition.
-/
import Derived.Test.YtihlbdjghofblaaQSureW
namespace Go.Proofs.Ytihlbdjghofblaa
open Go.RowKit

def fileF (n : ByteArray) (c : Nat) (bs : List UInt8) (sure : Nat) (ps : List (Nat × Nat)) : CF := ⟨n, c, .slice none 0 0, .slice none 0 0, bs, sure, ps⟩
/-- The file that is in the way; the file that is renamed, alone. -/
def wayF (b : ByteArray) (c : Nat) : List CF := [fileF b c [111, 108, 100] 0 [(1, 3)]]
def doneF (b : ByteArray) (c : Nat) (s : ByteArray) : List CF := [fileF b c s.data.toList s.data.toList.length []]
theorem lk_one_yes (f : CF) (n : ByteArray) (h : f.name = n) : lk [f] n = some f := by simp [lk, h]
theorem lk_one_no (f : CF) (n : ByteArray) (h : ¬ f.name = n) : lk [f] n = none := by simp [lk, h]
section
variable {w : World} {base D : Nat} {ro : Nat → Option Nat}
theorem nm_append {A : List CF} {t : Nat} (k : DkS w base D A t ro) (n s : ByteArray) (hn : nameB n = true) (hf : lk A n = none) (hs : s.size ≤ 4194304) (ht : t < 4611686018427387904) : Calls Try.prog 12 #[.pointer (some ⟨D, 0, none⟩), .string n, .string s] w fun e w' => e = .returned (.int .i64 0) ∧ ∃ c ro', DkS w' base D (A ++ [fileF n c s.data.toList 0 (morePs [] s (t + 1))]) (moreT s t) ro' ∧ Below base w w' := by
  by_cases h0 : s.size = 0
  · have e := empty_of h0
    subst e
    exact (S_append_noneN k n hn hf).mono fun _ _ ⟨h1, c, ro', h2, h3⟩ => ⟨h1, c, ro', h2, k.below h3⟩
  · refine (S_append_new k n s hn hf (by omega) hs ht).mono fun _ _ ⟨h1, c, ro', h2, h3⟩ => ⟨h1, c, ro', ?_, k.below h3⟩
    have e1 : morePs [] s (t + 1) = [(t + 1, s.size)] := by simp [morePs, h0]
    have e2 : moreT s t = t + 1 := by simp [moreT, h0]
    rw [e1, e2]
    exact h2
theorem nm_way (k : DkS w base D [] 0 ro) (b : ByteArray) (hn : nameB b = true) : Calls Try.prog 12 #[.pointer (some ⟨D, 0, none⟩), .string b, .string ⟨#[111, 108, 100]⟩] w fun e w' => e = .returned (.int .i64 0) ∧ ∃ c ro', DkS w' base D (wayF b c) 1 ro' ∧ Below base w w' :=
  (nm_append k b ⟨#[111, 108, 100]⟩ hn rfl (by decide) (by decide)).mono fun _ _ ⟨h1, c, ro', h2, h3⟩ => ⟨h1, c, ro', h2, h3⟩
theorem nm_gone {c t : Nat} {b : ByteArray} (k : DkS w base D (wayF b c) t ro) (hn : b.size ≤ maxLen) : Calls Try.prog 17 #[.pointer (some ⟨D, 0, none⟩), .string b] w fun e w' => e = .returned (.int .i64 0) ∧ DkS w' base D [] t ro ∧ Below base w w' := by
  refine (S_remove k b hn _ (lk_one_yes _ _ rfl)).mono fun _ _ ⟨h1, h2, h3⟩ => ⟨h1, ?_, k.below h3⟩
  have e : delF (wayF b c) b = [] := by simp [delF, wayF, fileF]
  rw [← e]
  exact h2
theorem nm_stays {c t : Nat} {a b : ByteArray} (k : DkS w base D (wayF b c) t ro) (hn : a.size ≤ maxLen) (hne : ¬ b = a) : Calls Try.prog 17 #[.pointer (some ⟨D, 0, none⟩), .string a] w fun e w' => e = .returned (.int .i64 5) ∧ w = w' :=
  S_remove_no k a hn (lk_one_no _ _ hne)
theorem nm_sync {A : List CF} {c t : Nat} {n s : ByteArray} {ps : List (Nat × Nat)} (k : DkS w base D (A ++ [fileF n c s.data.toList 0 ps]) t ro) (hA : lk A n = none) (hn : n.size ≤ maxLen) : Calls Try.prog 13 #[.pointer (some ⟨D, 0, none⟩), .string n] w fun e w' => e = .returned (.int .i64 0) ∧ DkS w' base D (A ++ doneF n c s) t ro ∧ Below base w w' := by
  have hl : lk (A ++ [fileF n c s.data.toList 0 ps]) n = some (fileF n c s.data.toList 0 ps) := by
    unfold lk at hA ⊢
    rw [List.find?_append, hA]
    simp [fileF]
  refine (S_sync k n hn _ hl).mono fun _ _ ⟨h1, h2, h3⟩ => ⟨h1, ?_, k.below h3⟩
  have hnd := k.ok.2.1
  rw [List.map_append, List.nodup_append] at hnd
  rw [setF_last A (fileF n c s.data.toList 0 ps) (syncF (fileF n c s.data.toList 0 ps)) rfl (fun g hg => hnd.2.2 g.c (List.mem_map.2 ⟨g, hg, rfl⟩) c (by simp [fileF]))] at h2
  exact h2
theorem nm_rename {A : List CF} {c t : Nat} {n m s : ByteArray} (k : DkS w base D (A ++ doneF n c s) t ro) (hA : A = [] ∨ ∃ c1, A = wayF m c1 ∧ ¬ m = n) (hn : n.size ≤ maxLen) (hm : nameB m = true) : Calls Try.prog 18 #[.pointer (some ⟨D, 0, none⟩), .string n, .string m] w fun e w' => e = .returned (.int .i64 0) ∧ DkS w' base D (doneF m c s) t ro ∧ Below base w w' := by
  have hAl : lk A n = none := by
    rcases hA with rfl | ⟨c1, rfl, hne⟩
    · rfl
    · exact lk_one_no _ _ hne
  have hl : lk (A ++ doneF n c s) n = some (fileF n c s.data.toList s.data.toList.length []) := by
    unfold lk at hAl ⊢
    rw [List.find?_append, hAl]
    simp [doneF, fileF]
  refine (S_rename k n m hm hn _ hl).mono fun _ _ ⟨h1, h2, h3⟩ => ⟨h1, ?_, k.below h3⟩
  have e : renF (delF (A ++ doneF n c s) n) (fileF n c s.data.toList s.data.toList.length []) m = doneF m c s := by
    rcases hA with rfl | ⟨c1, rfl, hne⟩
    · simp [delF, doneF, fileF, renF, lk, nameF]
    · simp [delF, doneF, fileF, wayF, renF, lk, nameF, hne]
  rw [e] at h2
  exact h2
theorem nm_crash {c t : Nat} {b s : ByteArray} (k : DkS w base D (doneF b c s) t ro) : Calls Try.prog 14 #[.pointer (some ⟨D, 0, none⟩), .int .i64 0] w fun e w' => e = .returned (.tuple #[]) ∧ DkS w' base D (doneF b c s) t ro ∧ Below base w w' := by
  refine (S_crash k 0 (by decide) (by decide) (by simp [doneF])).mono fun _ _ ⟨h1, d, hp, hs, h2, h3⟩ => ⟨h1, ?_, k.below h3⟩
  have e : allP (doneF b c s) = [] := by simp [doneF, fileF, allP, p3]
  rw [e] at hp
  rw [hp.eq_nil] at h2
  have e2 : (doneF b c s).map (crA [] (0 : Int).toNat) = doneF b c s := by
    simp only [doneF, fileF, List.map_cons, List.map_nil, crA, crashF, abs, sureN, keptA, Nat.add_zero]
    rw [List.take_length]
  rw [e2] at h2
  exact h2
theorem nm_read {c t : Nat} {b s : ByteArray} (k : DkS w base D (doneF b c s) t ro) (hn : b.size ≤ maxLen) : Calls Try.prog 15 #[.pointer (some ⟨D, 0, none⟩), .string b] w fun e w' => e = .returned (.tuple #[.string s, .int .i64 0]) ∧ w = w' := by
  have h := S_read k b hn _ (lk_one_yes _ _ rfl)
  have e : textOf (fileF b c s.data.toList s.data.toList.length []).bs = s := Lib.mk_data s
  rw [e] at h
  exact h
theorem nm_away {c t : Nat} {a b s : ByteArray} (k : DkS w base D (doneF b c s) t ro) (hn : a.size ≤ maxLen) (hne : ¬ b = a) : Calls Try.prog 15 #[.pointer (some ⟨D, 0, none⟩), .string a] w fun e w' => e = .returned (.tuple #[.string ⟨#[]⟩, .int .i64 5]) ∧ w = w' :=
  S_read_no k a hn (lk_one_no _ _ hne)
theorem nm_files {c t : Nat} {b s : ByteArray} (k : DkS w base D (doneF b c s) t ro) : Calls Try.prog 19 #[.pointer (some ⟨D, 0, none⟩)] w fun e w' => ∃ p cap, e = .returned (.slice p 1 cap) ∧ Below w.heap.size w w' := by
  refine (S_files k (by simp [doneF])).mono fun _ _ ⟨v, h1, acc, ss, p, cap, h2, h3, h4, h5, _⟩ => ⟨p, cap, ?_, h5⟩
  have e : ss.length = 1 := by
    rw [h4, List.length_mergeSort, h3.length_eq]
    simp [doneF]
  rw [h1, h2, e]
end
end Go.Proofs.Ytihlbdjghofblaa
