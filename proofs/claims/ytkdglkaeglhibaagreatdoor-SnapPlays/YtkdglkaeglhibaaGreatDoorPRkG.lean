/-
  The document's disk (package latchkeyref05): what a crash leaves, as plain data; the byte that was appended first of those that are left, while it is looked for. No condition.
-/
import Derived.Test.YtkdglkaeglhibaaGreatDoorPRkF
namespace Go.Proofs.YtkdglkaeglhibaaGreatDoor
open Go.RowKit

abbrev BB : Type := UInt8 × Nat
def filtZ (bs : List BB) : List BB := bs.filter fun b => decide (b.2 = 0)
def allZ (L : List (List BB)) : Prop := ∀ bs ∈ L, ∀ b ∈ bs, b.2 = 0
def set0 (L : List (List BB)) (F k : Nat) : List (List BB) := L.set F ((L.getD F []).set k (((L.getD F []).getD k (0, 0)).1, 0))
/-- The byte at (F, k) is one of those that were appended first. -/
structure Least (L : List (List BB)) (F k : Nat) : Prop where
  hF : F < L.length
  hk : k < L[F].length
  pos : 0 < L[F][k].2
  le : ∀ i (hi : i < L.length) j (hj : j < L[i].length), 0 < L[i][j].2 → L[F][k].2 ≤ L[i][j].2
/-- What a crash may leave, step by step. -/
def CR : Nat → List (List BB) → List (List BB) → Prop
  | 0, L, L' => L' = L.map filtZ
  | K + 1, L, L' => (allZ L ∧ L' = L) ∨ ∃ F k, Least L F k ∧ CR K (set0 L F k) L'
theorem filtZ_id {bs : List BB} (h : ∀ b ∈ bs, b.2 = 0) : filtZ bs = bs := by
  unfold filtZ
  rw [List.filter_eq_self]
  intro b hb
  simpa using h b hb
theorem CR.all {K : Nat} {L : List (List BB)} (h : allZ L) : CR K L L := by
  cases K with
  | zero =>
    show L = L.map filtZ
    conv => lhs; rw [← List.map_id L]
    refine List.map_congr_left fun bs hbs => ?_
    rw [filtZ_id (h bs hbs)]
    rfl
  | succ K => exact Or.inl ⟨h, rfl⟩
def bsO (l : List (Fl × Value)) : List (List BB) := l.map fun p => p.1.bs
theorem bsO_at {l : List (Fl × Value)} {i : Nat} (h : i < l.length) : (bsO l)[i]'(by unfold bsO; simpa using h) = l[i].1.bs := by unfold bsO; simp
/-- While the first one is looked for: the files ahead of place i, and of that one the bytes ahead of place k, have been seen. -/
def BestR (L : List (List BB)) (i k : Nat) (f a t : Int) : Prop :=
  (f = -1 ∧ a = -1 ∧ t = 0 ∧ ∀ i' (h1 : i' < L.length) k' (h2 : k' < L[i'].length), (i' < i ∨ (i' = i ∧ k' < k)) → L[i'][k'].2 = 0) ∨
  (∃ F K : Nat, ∃ (h1 : F < L.length) (h2 : K < L[F].length), f = (F : Int) ∧ a = (K : Int) ∧ t = (L[F][K].2 : Int) ∧ 0 < L[F][K].2 ∧ ∀ i' (h3 : i' < L.length) k' (h4 : k' < L[i'].length), (i' < i ∨ (i' = i ∧ k' < k)) → 0 < L[i'][k'].2 → L[F][K].2 ≤ L[i'][k'].2)
theorem BestR.start (L : List (List BB)) : BestR L 0 0 (-1) (-1) 0 := Or.inl ⟨rfl, rfl, rfl, fun i' h1 k' h2 h => by omega⟩
theorem BestR.next {L : List (List BB)} {i k : Nat} {f a t : Int} (h : BestR L i k f a t) (hk : ∀ (hi : i < L.length), L[i].length ≤ k) : BestR L (i + 1) 0 f a t := by
  rcases h with ⟨h1, h2, h3, h4⟩ | ⟨F, K, h1, h2, h3, h4, h5, h6, h7⟩
  · refine Or.inl ⟨h1, h2, h3, fun i' g1 k' g2 hs => h4 i' g1 k' g2 ?_⟩
    by_cases e : i' = i
    · subst e
      have := hk g1
      omega
    · omega
  · refine Or.inr ⟨F, K, h1, h2, h3, h4, h5, h6, fun i' g1 k' g2 hs => h7 i' g1 k' g2 ?_⟩
    by_cases e : i' = i
    · subst e
      have := hk g1
      omega
    · omega
/-- A byte that is sure, or not ahead of the one that was found. -/
theorem BestR.skip {L : List (List BB)} {i k : Nat} {f a t : Int} (h : BestR L i k f a t) (hi : i < L.length) (hk : k < L[i].length) (hs : L[i][k].2 = 0 ∨ (0 ≤ f ∧ t ≤ (L[i][k].2 : Int))) : BestR L i (k + 1) f a t := by
  rcases h with ⟨h1, h2, h3, h4⟩ | ⟨F, K, h1, h2, h3, h4, h5, h6, h7⟩
  · refine Or.inl ⟨h1, h2, h3, fun i' g1 k' g2 hs2 => ?_⟩
    by_cases e : i' = i ∧ k' = k
    · obtain ⟨rfl, rfl⟩ := e
      rcases hs with h | h
      · exact h
      · omega
    · exact h4 i' g1 k' g2 (by omega)
  · refine Or.inr ⟨F, K, h1, h2, h3, h4, h5, h6, fun i' g1 k' g2 hs2 hp => ?_⟩
    by_cases e : i' = i ∧ k' = k
    · obtain ⟨rfl, rfl⟩ := e
      rcases hs with h | h
      · omega
      · omega
    · exact h7 i' g1 k' g2 (by omega) hp
theorem BestR.take {L : List (List BB)} {i k : Nat} {f a t : Int} (h : BestR L i k f a t) (hi : i < L.length) (hk : k < L[i].length) (hp : 0 < L[i][k].2) (hs : f < 0 ∨ (L[i][k].2 : Int) < t) : BestR L i (k + 1) (i : Int) (k : Int) (L[i][k].2 : Int) := by
  refine Or.inr ⟨i, k, hi, hk, rfl, rfl, rfl, hp, fun i' g1 k' g2 hs2 hp2 => ?_⟩
  by_cases e : i' = i ∧ k' = k
  · obtain ⟨rfl, rfl⟩ := e
    exact Nat.le_refl _
  · rcases h with ⟨h1, h2, h3, h4⟩ | ⟨F, K, h1, h2, h3, h4, h5, h6, h7⟩
    · have := h4 i' g1 k' g2 (by omega)
      omega
    · have := h7 i' g1 k' g2 (by omega) hp2
      omega
/-- All has been seen. -/
theorem BestR.end {L : List (List BB)} {i : Nat} {f a t : Int} (h : BestR L i 0 f a t) (hi : L.length ≤ i) : (f = -1 ∧ allZ L) ∨ ∃ F K : Nat, f = (F : Int) ∧ a = (K : Int) ∧ Least L F K := by
  rcases h with ⟨h1, h2, h3, h4⟩ | ⟨F, K, h1, h2, h3, h4, h5, h6, h7⟩
  · refine Or.inl ⟨h1, fun bs hbs b hb => ?_⟩
    obtain ⟨i', g1, rfl⟩ := List.getElem_of_mem hbs
    obtain ⟨k', g2, rfl⟩ := List.getElem_of_mem hb
    exact h4 i' g1 k' g2 (by omega)
  · exact Or.inr ⟨F, K, h3, h4, h1, h2, h6, fun i' g1 k' g2 hp => h7 i' g1 k' g2 (by omega) hp⟩
/-- What turns and what stays. -/
structure CFr (w w' : World) (l l' : List (Fl × Value)) (v : Value) : Prop where
  os : w'.os = w.os
  tape : w'.tape = w.tape
  output : w'.output = w.output
  size : w.heap.size ≤ w'.heap.size
  kept : ∀ b, b < w.heap.size → v.ownBlock ≠ some b → (∀ p ∈ l, p.2.ownBlock ≠ some b) → w'.heap[b]? = w.heap[b]?
  blk : ∀ p ∈ l', ∀ g, p.2.ownBlock = some g → (∃ q ∈ l, q.2.ownBlock = some g) ∨ w.heap.size ≤ g
/-- What a crash leaves. -/
def CPost (w w' : World) (base D : Nat) (l : List (Fl × Value)) (clock : Nat) (v : Value) (K : Nat) : Prop :=
  ∃ l', DkAt w' base D l' clock v ∧ l'.map (·.1.name) = l.map (·.1.name) ∧ CR K (bsO l) (bsO l') ∧ CFr w w' l l' v
/-- While bytes are made sure: so many more may be. -/
structure ZInv (w wr : World) (base D : Nat) (l l2 : List (Fl × Value)) (clock : Nat) (v : Value) (K0 K : Nat) : Prop where
  d : DkAt wr base D l2 clock v
  nm : l2.map (·.1.name) = l.map (·.1.name)
  vl : l2.map (·.2) = l.map (·.2)
  ln : (bsO l2).map List.length = (bsO l).map List.length
  cr : ∀ L', CR K (bsO l2) L' → CR K0 (bsO l) L'
  fr : CFr w wr l l2 v
theorem CFr.refl (w : World) (l : List (Fl × Value)) (v : Value) : CFr w w l l v := ⟨rfl, rfl, rfl, Nat.le_refl _, fun _ _ _ _ => rfl, fun p hp _ e => Or.inl ⟨p, hp, e⟩⟩
theorem ZInv.start {w : World} {base D : Nat} {l : List (Fl × Value)} {clock : Nat} {v : Value} (h : DkAt w base D l clock v) (K : Nat) : ZInv w w base D l l clock v K K := ⟨h, rfl, rfl, rfl, fun _ h => h, CFr.refl w l v⟩
theorem set_bs {l : List (Fl × Value)} {F k : Nat} (hF : F < l.length) (hk : k < l[F].1.bs.length) : bsO (l.set F (⟨l[F].1.name, l[F].1.bs.set k (l[F].1.bs[k].1, 0)⟩, l[F].2)) = set0 (bsO l) F k := by
  unfold bsO set0
  rw [List.map_set]
  simp [hF, hk]
theorem ZInv.more {w wr w' : World} {base D : Nat} {l l2 : List (Fl × Value)} {clock : Nat} {v : Value} {K0 K F k : Nat} (I : ZInv w wr base D l l2 clock v K0 (K + 1)) (hF : F < l2.length) (hk : k < l2[F].1.bs.length) (hm : Least (bsO l2) F k) (hg : wr.grownBy w' l2[F].2.ownBlock)
    (hr : w'.ownsRow base 70 2 l2[F].2 (l2[F].1.bs.set k (l2[F].1.bs[k].1, 0)).length (bsL (l2[F].1.bs.set k (l2[F].1.bs[k].1, 0)))) : ZInv w w' base D l (l2.set F (⟨l2[F].1.name, l2[F].1.bs.set k (l2[F].1.bs[k].1, 0)⟩, l2[F].2)) clock v K0 K := by
  have hmem : ∀ p ∈ l2, ∃ q ∈ l, q.2 = p.2 := fun p hp => by
    have : p.2 ∈ l2.map (·.2) := List.mem_map.2 ⟨p, hp, rfl⟩
    rw [I.vl] at this
    obtain ⟨q, hq, e⟩ := List.mem_map.1 this
    exact ⟨q, hq, e⟩
  refine ⟨I.d.bytes hF hg hr, ?_, ?_, ?_, fun L' h => I.cr L' (Or.inr ⟨F, k, hm, by rw [← set_bs hF hk]; exact h⟩), ?_⟩
  · rw [← I.nm, List.map_set]
    exact List.ext_getElem (by simp) (fun i h1 h2 => by
      rw [List.getElem_set]
      by_cases e : F = i
      · subst e
        simp
      · simp [e])
  · rw [set_vals hF]
    exact I.vl
  · rw [← I.ln, set_bs hF hk]
    unfold set0
    rw [List.map_set]
    refine List.ext_getElem (by simp) (fun i h1 h2 => ?_)
    rw [List.getElem_set]
    by_cases e : F = i
    · subst e
      have hFb : F < (bsO l2).length := by unfold bsO; simpa using hF
      simp [hFb]
    · simp [e]
  · refine ⟨hg.os.trans I.fr.os, hg.tape.trans I.fr.tape, hg.output.trans I.fr.output, Nat.le_trans I.fr.size hg.size, fun b hb hv hp => ?_, fun p hp g e => ?_⟩
    · rw [hg.block b (Nat.lt_of_lt_of_le hb I.fr.size) (fun e => ?_)]
      · exact I.fr.kept b hb hv hp
      · obtain ⟨q, hq, e2⟩ := hmem _ (List.getElem_mem hF)
        exact hp q hq (by rw [e2]; exact e.symm)
    · rcases set_mem hp with rfl | ⟨i, hi, _, rfl⟩
      · exact I.fr.blk _ (List.getElem_mem hF) g e
      · exact I.fr.blk _ (List.getElem_mem hi) g e
end Go.Proofs.YtkdglkaeglhibaaGreatDoor
