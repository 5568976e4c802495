/-
  What a crash leaves, in plain words: for some time T, of each file the bytes that are sure or were appended no later than T; as many of these as may be kept. The condition: no two bytes that are not sure were appended at the same time.
-/
import Derived.Test.YtkdglkaeglhibaaGreatDoorPPlA
namespace Go.Proofs.YtkdglkaeglhibaaGreatDoor
open Go.RowKit

def cutO (T : Nat) (b : BB) : Option BB := if b.2 ≤ T then some (b.1, 0) else none
def cutF (T : Nat) (bs : List BB) : List BB := (bs.map (cutO T)).filterMap id
def cntO (T : Nat) (b : BB) : Nat := if 0 < b.2 ∧ b.2 ≤ T then 1 else 0
def cntB (T : Nat) (bs : List BB) : Nat := (bs.map (cntO T)).sum
def cntAll (T : Nat) (L : List (List BB)) : Nat := (L.map (cntB T)).sum
structure Dist (L : List (List BB)) : Prop where
  d : ∀ i (hi : i < L.length) j (hj : j < L[i].length) i' (hi' : i' < L.length) j' (hj' : j' < L[i'].length), 0 < L[i][j].2 → L[i][j].2 = L[i'][j'].2 → i = i' ∧ j = j'
theorem cutF_zero (bs : List BB) : cutF 0 bs = filtZ bs := by
  unfold cutF filtZ
  induction bs with
  | nil => rfl
  | cons b bs ih =>
    rw [List.map_cons, List.filter_cons]
    by_cases h : b.2 = 0
    · have e : cutO 0 b = some b := by
        unfold cutO
        rw [if_pos (by omega)]
        obtain ⟨x, y⟩ := b
        simp only at h
        rw [h]
      rw [e, List.filterMap_cons]
      simp only [id]
      rw [ih]
      simp [h]
    · have e : cutO 0 b = none := by
        unfold cutO
        rw [if_neg (by omega)]
      rw [e, List.filterMap_cons]
      simp only [id]
      rw [ih]
      simp [h]
theorem cntB_zero (bs : List BB) : cntB 0 bs = 0 := by
  unfold cntB
  induction bs with
  | nil => rfl
  | cons b bs ih =>
    rw [List.map_cons, List.sum_cons, ih]
    unfold cntO
    rw [if_neg (by omega)]
theorem cntAll_zero (L : List (List BB)) : cntAll 0 L = 0 := by
  unfold cntAll
  induction L with
  | nil => rfl
  | cons b bs ih => rw [List.map_cons, List.sum_cons, ih, cntB_zero]
theorem sum_set : ∀ (l : List Nat) (i : Nat) (hi : i < l.length) (x : Nat), (l.set i x).sum + l[i] = l.sum + x
  | [], _, h, _ => by simp at h
  | a :: l, 0, _, x => by
    rw [List.set_cons_zero, List.sum_cons, List.sum_cons]
    simp only [List.getElem_cons_zero]
    omega
  | a :: l, i + 1, h, x => by
    rw [List.set_cons_succ, List.sum_cons, List.sum_cons]
    have := sum_set l i (by simpa using h) x
    simp only [List.getElem_cons_succ]
    omega
/-- One byte made sure. -/
theorem set0_len (L : List (List BB)) (F k : Nat) : (set0 L F k).length = L.length := by unfold set0; simp
theorem set0_at {L : List (List BB)} {F k : Nat} (hF : F < L.length) (hk : k < L[F].length) : set0 L F k = L.set F (L[F].set k (L[F][k].1, 0)) := by
  unfold set0
  simp [List.getD, hF, hk]
theorem set0_row {L : List (List BB)} {F k i : Nat} (hF : F < L.length) (hk : k < L[F].length) (hi : i < L.length) (hi2 : i < (set0 L F k).length) : (set0 L F k)[i].length = L[i].length := by
  simp only [set0_at hF hk, List.getElem_set]
  by_cases e : F = i
  · subst e
    simp
  · simp [e]
theorem set0_byte {L : List (List BB)} {F k i j : Nat} (hF : F < L.length) (hk : k < L[F].length) (hi : i < L.length) (hj : j < L[i].length) (hi2 : i < (set0 L F k).length) (hj2 : j < (set0 L F k)[i].length) :
    (set0 L F k)[i][j] = if i = F ∧ j = k then (L[i][j].1, 0) else L[i][j] := by
  have e0 := set0_at hF hk
  have h1 : (set0 L F k)[i]? = some (if F = i then L[F].set k (L[F][k].1, 0) else L[i]) := by
    rw [e0, List.getElem?_set]
    by_cases e : F = i
    · subst e
      simp [hF]
    · simp [e, hi]
  have h2 : (set0 L F k)[i] = (if F = i then L[F].set k (L[F][k].1, 0) else L[i]) := by
    rw [List.getElem?_eq_getElem hi2] at h1
    exact Option.some.inj h1
  have h3 : (set0 L F k)[i][j]? = (if F = i then L[F].set k (L[F][k].1, 0) else L[i])[j]? := by rw [h2]
  rw [List.getElem?_eq_getElem hj2] at h3
  by_cases e : F = i
  · subst e
    rw [if_pos rfl, List.getElem?_set] at h3
    by_cases e2 : k = j
    · subst e2
      rw [if_pos ⟨rfl, rfl⟩]
      simp [hk] at h3
      exact h3
    · rw [if_neg (by omega)]
      simp [e2, hj] at h3
      exact h3
  · rw [if_neg e] at h3
    rw [if_neg (by omega)]
    simp [hj] at h3
    exact h3
theorem other_byte {L : List (List BB)} {F k T1 W : Nat} (hm : Least L F k) (hd : Dist L) (hW : W = ((L[F]'hm.hF)[k]'hm.hk).2) {i j : Nat} (hi : i < L.length) (hj : j < L[i].length) (hne : ¬ (i = F ∧ j = k)) : cutO T1 L[i][j] = cutO (max T1 W) L[i][j] ∧ cntO T1 L[i][j] = cntO (max T1 W) L[i][j] := by
  have h0 : L[i][j].2 = 0 ∨ W < L[i][j].2 := by
    by_cases h : 0 < L[i][j].2
    · right
      have h1 := hm.le i hi j hj h
      have h2 : ¬ L[i][j].2 = ((L[F]'hm.hF)[k]'hm.hk).2 := fun e => hne (hd.d i hi j hj F hm.hF k hm.hk h e)
      omega
    · left
      omega
  unfold cutO cntO
  rcases h0 with h | h
  · rw [if_pos (by omega), if_pos (by omega), if_neg (by omega), if_neg (by omega)]
    exact ⟨rfl, rfl⟩
  · by_cases c : L[i][j].2 ≤ T1
    · rw [if_pos c, if_pos (by omega), if_pos (by omega), if_pos (by omega)]
      exact ⟨rfl, rfl⟩
    · rw [if_neg c, if_neg (by omega), if_neg (by omega), if_neg (by omega)]
      exact ⟨rfl, rfl⟩
theorem cut_step {L : List (List BB)} {F k T1 W : Nat} (hm : Least L F k) (hd : Dist L) (hW : W = ((L[F]'hm.hF)[k]'hm.hk).2) : (set0 L F k).map (cutF T1) = L.map (cutF (max T1 W)) := by
  have hF := hm.hF
  have hk := hm.hk
  refine List.ext_getElem (by rw [List.length_map, List.length_map, set0_len]) (fun i h1 h2 => ?_)
  have hi : i < L.length := by simpa using h2
  have hi2 : i < (set0 L F k).length := by simpa using h1
  rw [List.getElem_map, List.getElem_map]
  have hl := set0_row hF hk hi hi2
  refine congrArg (List.filterMap id) (List.ext_getElem (by simp only [List.length_map]; exact hl) (fun j h3 h4 => ?_))
  have hj : j < L[i].length := by simpa using h4
  have hj2 : j < (set0 L F k)[i].length := by rw [hl]; exact hj
  rw [List.getElem_map, List.getElem_map, set0_byte hF hk hi hj hi2 hj2]
  by_cases e : i = F ∧ j = k
  · rw [if_pos e]
    obtain ⟨rfl, rfl⟩ := e
    unfold cutO
    rw [if_pos (by omega), if_pos (by omega)]
  · rw [if_neg e]
    exact (other_byte hm hd hW hi hj e).1
theorem cnt_step {L : List (List BB)} {F k T1 W : Nat} (hm : Least L F k) (hd : Dist L) (hW : W = ((L[F]'hm.hF)[k]'hm.hk).2) : cntAll (max T1 W) L = cntAll T1 (set0 L F k) + 1 := by
  have hF := hm.hF
  have hk := hm.hk
  have hpos := hm.pos
  -- the row of counts of the file F
  have e1 : (L[F].map (cntO (max T1 W))) = (((L[F].set k (L[F][k].1, 0)).map (cntO T1)).set k 1) := by
    refine List.ext_getElem (by simp) (fun j h3 h4 => ?_)
    have hj : j < L[F].length := by simpa using h3
    rw [List.getElem_map, List.getElem_set]
    by_cases e : k = j
    · subst e
      rw [if_pos rfl]
      unfold cntO
      rw [if_pos (by omega)]
    · rw [if_neg e, List.getElem_map, List.getElem_set, if_neg e]
      exact (other_byte (T1 := T1) hm hd hW hF hj (by omega)).2.symm
  have e2 : cntB (max T1 W) L[F] = cntB T1 (L[F].set k (L[F][k].1, 0)) + 1 := by
    unfold cntB
    have h1 := sum_set ((L[F].set k (L[F][k].1, 0)).map (cntO T1)) k (by simpa using hk) 1
    rw [← e1] at h1
    have h2 : ((L[F].set k (L[F][k].1, 0)).map (cntO T1))[k]'(by simpa using hk) = 0 := by
      rw [List.getElem_map, List.getElem_set, if_pos rfl]
      unfold cntO
      rw [if_neg (by omega)]
    rw [h2] at h1
    omega
  have e3 : L.map (cntB (max T1 W)) = ((set0 L F k).map (cntB T1)).set F (cntB (max T1 W) L[F]) := by
    rw [set0_at hF hk]
    refine List.ext_getElem (by simp) (fun i h1 h2 => ?_)
    have hi : i < L.length := by simpa using h1
    rw [List.getElem_map, List.getElem_set]
    by_cases e : F = i
    · subst e
      rw [if_pos rfl]
    · rw [if_neg e, List.getElem_map, List.getElem_set, if_neg e]
      unfold cntB
      congr 1
      refine List.map_congr_left fun b hb => ?_
      obtain ⟨j, hj, rfl⟩ := List.getElem_of_mem hb
      exact (other_byte (T1 := T1) hm hd hW hi hj (by omega)).2.symm
  unfold cntAll
  have h1 := sum_set ((set0 L F k).map (cntB T1)) F (by rw [List.length_map, set0_len]; exact hF) (cntB (max T1 W) L[F])
  rw [← e3] at h1
  have h2 : ((set0 L F k).map (cntB T1))[F]'(by rw [List.length_map, set0_len]; exact hF) = cntB T1 (L[F].set k (L[F][k].1, 0)) := by
    rw [List.getElem_map]
    congr 1
    simp only [set0_at hF hk, List.getElem_set, if_true]
  rw [h2, e2] at h1
  omega
theorem Dist.set0 {L : List (List BB)} {F k : Nat} (hm : Least L F k) (hd : Dist L) : Dist (set0 L F k) := by
  have hF := hm.hF
  have hk := hm.hk
  refine ⟨fun i hi j hj i' hi' j' hj' hp he => ?_⟩
  have a1 : i < L.length := by rw [← set0_len L F k]; exact hi
  have a2 : i' < L.length := by rw [← set0_len L F k]; exact hi'
  have b1 : j < L[i].length := by rw [← set0_row hF hk a1 hi]; exact hj
  have b2 : j' < L[i'].length := by rw [← set0_row hF hk a2 hi']; exact hj'
  rw [set0_byte hF hk a1 b1 hi hj] at hp he
  rw [set0_byte hF hk a2 b2 hi' hj'] at he
  by_cases c1 : i = F ∧ j = k
  · rw [if_pos c1] at hp
    simp at hp
  · rw [if_neg c1] at hp he
    by_cases c2 : i' = F ∧ j' = k
    · rw [if_pos c2] at he
      simp only at he
      omega
    · rw [if_neg c2] at he
      exact hd.d i a1 j b1 i' a2 j' b2 hp he
/-- The time. -/
theorem CR_cut : ∀ (K : Nat) (L L' : List (List BB)), Dist L → CR K L L' → ∃ T, L' = L.map (cutF T) ∧ (cntAll T L = K ∨ (cntAll T L ≤ K ∧ ∀ bs ∈ L, ∀ b ∈ bs, b.2 ≤ T))
  | 0, L, L', _, h => by
    refine ⟨0, ?_, Or.inl (cntAll_zero L)⟩
    have h1 : L' = L.map filtZ := h
    rw [h1]
    exact List.map_congr_left fun bs _ => (cutF_zero bs).symm
  | K + 1, L, L', hd, h => by
    rcases h with ⟨hz, rfl⟩ | ⟨F, k, hm, hc⟩
    · refine ⟨0, ?_, Or.inr ⟨by rw [cntAll_zero]; omega, fun bs hbs b hb => by rw [hz bs hbs b hb]; exact Nat.le_refl _⟩⟩
      conv => lhs; rw [← List.map_id L']
      exact List.map_congr_left fun bs hbs => by rw [cutF_zero, filtZ_id (hz bs hbs)]; rfl
    · obtain ⟨T1, h1, h2⟩ := CR_cut K _ L' (hd.set0 hm) hc
      obtain ⟨W, hW⟩ : ∃ W, W = ((L[F]'hm.hF)[k]'hm.hk).2 := ⟨_, rfl⟩
      refine ⟨max T1 W, by rw [h1, cut_step hm hd hW], ?_⟩
      rw [cnt_step hm hd hW]
      rcases h2 with h2 | ⟨h2, h3⟩
      · exact Or.inl (by omega)
      · refine Or.inr ⟨by omega, fun bs hbs b hb => ?_⟩
        obtain ⟨i, hi, rfl⟩ := List.getElem_of_mem hbs
        obtain ⟨j, hj, rfl⟩ := List.getElem_of_mem hb
        have hi2 : i < (set0 L F k).length := by rw [set0_len]; exact hi
        have hj2 : j < (set0 L F k)[i].length := by rw [set0_row hm.hF hm.hk hi hi2]; exact hj
        have h4 := h3 _ (List.getElem_mem hi2) _ (List.getElem_mem hj2)
        rw [set0_byte hm.hF hm.hk hi hj hi2 hj2] at h4
        by_cases c : i = F ∧ j = k
        · obtain ⟨rfl, rfl⟩ := c
          omega
        · rw [if_neg c] at h4
          omega
end Go.Proofs.YtkdglkaeglhibaaGreatDoor
