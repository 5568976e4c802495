/-
  The program's lock in memory: its block and the ring of the places of those that wait: a neighbour set, one put behind the last, one taken out. No condition.
-/
import Derived.Test.YtmfadmhbkgemmaaQPackA
import Derived.Test.YtmfadmhbkgemmaaQLoPlain
namespace Go.Proofs.Ytmfadmhbkgemmaa
open Go.RowKit

abbrev lcT : TypeId := 89
abbrev lcPT : TypeId := 87
abbrev pt2 (a : Nat × Nat) : Value := .pointer (some ⟨a.1, a.2, none⟩)
abbrev lcXA (H : Nat) (wr : Bool) (P : Nat) (a b : Nat × Nat) : Array Value := #[.map (some H), .bool wr, .map (some P), .int .i64 0, .int .i64 0, .bool false, pt2 a, pt2 b]
abbrev lcPA (x : Wq) (a b : Nat × Nat) : Array Value := #[.int .i64 x.s, .int .i64 x.n, .bool x.rd, pt2 a, pt2 b]
/-- Where the place number j of the ring lies: the lock's own is the first and the one behind the last. -/
def adL (X : Nat) (L : List (Nat × Wq)) : Nat → Nat × Nat
  | 0 => (X, 3)
  | j + 1 => match L[j]? with
    | some p => (p.1, 0)
    | none => (X, 3)
def updF (f : Nat → Nat × Nat) (j : Nat) (a : Nat × Nat) : Nat → Nat × Nat := fun i => if i = j then a else f i
structure LcR (w : World) (X H : Nat) (wr : Bool) (P : Nat) (L : List (Nat × Wq)) (pa pb : Nat → Nat × Nat) : Prop where
  blk : w.heap[X]? = some (.cells (lcXA H wr P (pa 0) (pb 0)) lcT (0, 0))
  nod : ∀ i (p : Nat × Wq), L[i]? = some p → w.heap[p.1]? = some (.cells (lcPA p.2 (pa (i + 1)) (pb (i + 1))) lcPT (0, 0))
  nd : (L.map (·.1)).Nodup
  nx : X ∉ L.map (·.1)
section
variable {w w' : World} {X H P : Nat} {wr : Bool} {L : List (Nat × Wq)} {pa pb : Nat → Nat × Nat}
theorem LcR.congr (h : LcR w X H wr P L pa pb) {pa' pb' : Nat → Nat × Nat} (ha : ∀ i, i ≤ L.length → pa' i = pa i) (hb : ∀ i, i ≤ L.length → pb' i = pb i) : LcR w X H wr P L pa' pb' := by
  refine ⟨by rw [ha 0 (Nat.zero_le _), hb 0 (Nat.zero_le _)]; exact h.blk, fun i p hp => ?_, h.nd, h.nx⟩
  have := (List.getElem?_eq_some_iff.1 hp).1
  rw [ha _ this, hb _ this]
  exact h.nod i p hp
theorem LcR.keep (h : LcR w X H wr P L pa pb) (hk : ∀ g, g = X ∨ g ∈ L.map (·.1) → w'.heap[g]? = w.heap[g]?) : LcR w' X H wr P L pa pb :=
  ⟨(hk X (Or.inl rfl)).trans h.blk, fun i p hp => (hk p.1 (Or.inr (List.mem_map.2 ⟨p, List.mem_of_getElem? hp, rfl⟩))).trans (h.nod i p hp), h.nd, h.nx⟩
theorem LcR.node (h : LcR w X H wr P L pa pb) {j : Nat} (hj : j < L.length) : adL X L (j + 1) = (L[j].1, 0) ∧ w.heap[L[j].1]? = some (.cells (lcPA L[j].2 (pa (j + 1)) (pb (j + 1))) lcPT (0, 0)) ∧ L[j].1 ≠ X := by
  refine ⟨by simp [adL, List.getElem?_eq_getElem hj], h.nod j _ (List.getElem?_eq_getElem hj), fun e => h.nx (by rw [← e]; exact List.mem_map.2 ⟨L[j], List.getElem_mem hj, rfl⟩)⟩
theorem LcR.two (h : LcR w X H wr P L pa pb) {i j : Nat} {p q : Nat × Wq} (hi : L[i]? = some p) (hj : L[j]? = some q) (e : p.1 = q.1) : i = j := by
  obtain ⟨h1, h2⟩ := List.getElem?_eq_some_iff.1 hi
  obtain ⟨h3, h4⟩ := List.getElem?_eq_some_iff.1 hj
  have hn := List.pairwise_iff_getElem.1 h.nd
  rcases Nat.lt_trichotomy i j with c | c | c
  · exact absurd (by rw [List.getElem_map, List.getElem_map, h2, h4]; exact e) (hn i j (by simpa using h1) (by simpa using h3) c)
  · exact c
  · exact absurd (by rw [List.getElem_map, List.getElem_map, h2, h4]; exact e.symm) (hn j i (by simpa using h3) (by simpa using h1) c)
/-- What is read of a place's neighbours. -/
theorem LcR.cellA (h : LcR w X H wr P L pa pb) (j : Nat) (hj : j ≤ L.length) : w.cell? ⟨(adL X L j).1, (adL X L j).2 + 3, none⟩ = some (pt2 (pa j)) ∧ w.frozen? ⟨(adL X L j).1, (adL X L j).2 + 3, none⟩ = false := by
  match j with
  | 0 => exact ⟨by simp [adL, World.cell?, h.blk], by simp [adL, World.frozen?, h.blk]⟩
  | j + 1 =>
    obtain ⟨e, hb, _⟩ := h.node (j := j) (by omega)
    rw [e]
    exact ⟨by simp [World.cell?, hb], by simp [World.frozen?, hb]⟩
theorem LcR.cellB (h : LcR w X H wr P L pa pb) (j : Nat) (hj : j ≤ L.length) : w.cell? ⟨(adL X L j).1, (adL X L j).2 + 4, none⟩ = some (pt2 (pb j)) ∧ w.frozen? ⟨(adL X L j).1, (adL X L j).2 + 4, none⟩ = false := by
  match j with
  | 0 => exact ⟨by simp [adL, World.cell?, h.blk], by simp [adL, World.frozen?, h.blk]⟩
  | j + 1 =>
    obtain ⟨e, hb, _⟩ := h.node (j := j) (by omega)
    rw [e]
    exact ⟨by simp [World.cell?, hb], by simp [World.frozen?, hb]⟩
theorem LcR.setA (h : LcR w X H wr P L pa pb) (j : Nat) (hj : j ≤ L.length) (a : Nat × Nat) : LcR (w.setCell ⟨(adL X L j).1, (adL X L j).2 + 3, none⟩ (pt2 a)) X H wr P L (updF pa j a) pb := by
  match j with
  | 0 =>
    refine ⟨by rw [show adL X L 0 = (X, 3) from rfl, heap_setCell_same _ X _ _ _ _ h.blk]; rfl, fun i p hp => ?_, h.nd, h.nx⟩
    rw [heap_setCell_other _ _ _ _ (fun e => h.nx (by rw [show X = p.1 from e.symm]; exact List.mem_map.2 ⟨p, List.mem_of_getElem? hp, rfl⟩)), show updF pa 0 a (i + 1) = pa (i + 1) from if_neg (by omega)]
    exact h.nod i p hp
  | j + 1 =>
    obtain ⟨e, hb, hne⟩ := h.node (j := j) (by omega)
    rw [e]
    refine ⟨by rw [heap_setCell_other _ _ _ _ hne.symm, show updF pa (j + 1) a 0 = pa 0 from if_neg (by omega)]; exact h.blk, fun i p hp => ?_, h.nd, h.nx⟩
    by_cases hij : i = j
    · subst hij
      obtain ⟨h1, h2⟩ := List.getElem?_eq_some_iff.1 hp
      subst h2
      rw [heap_setCell_same _ _ _ _ _ _ hb, show updF pa (i + 1) a (i + 1) = a from if_pos rfl]
      rfl
    · rw [heap_setCell_other _ _ _ _ (fun e2 => hij (h.two hp (List.getElem?_eq_getElem (by omega)) e2)), show updF pa (j + 1) a (i + 1) = pa (i + 1) from if_neg (by omega)]
      exact h.nod i p hp
theorem LcR.setB (h : LcR w X H wr P L pa pb) (j : Nat) (hj : j ≤ L.length) (a : Nat × Nat) : LcR (w.setCell ⟨(adL X L j).1, (adL X L j).2 + 4, none⟩ (pt2 a)) X H wr P L pa (updF pb j a) := by
  match j with
  | 0 =>
    refine ⟨by rw [show adL X L 0 = (X, 3) from rfl, heap_setCell_same _ X _ _ _ _ h.blk]; rfl, fun i p hp => ?_, h.nd, h.nx⟩
    rw [heap_setCell_other _ _ _ _ (fun e => h.nx (by rw [show X = p.1 from e.symm]; exact List.mem_map.2 ⟨p, List.mem_of_getElem? hp, rfl⟩)), show updF pb 0 a (i + 1) = pb (i + 1) from if_neg (by omega)]
    exact h.nod i p hp
  | j + 1 =>
    obtain ⟨e, hb, hne⟩ := h.node (j := j) (by omega)
    rw [e]
    refine ⟨by rw [heap_setCell_other _ _ _ _ hne.symm, show updF pb (j + 1) a 0 = pb 0 from if_neg (by omega)]; exact h.blk, fun i p hp => ?_, h.nd, h.nx⟩
    by_cases hij : i = j
    · subst hij
      obtain ⟨h1, h2⟩ := List.getElem?_eq_some_iff.1 hp
      subst h2
      rw [heap_setCell_same _ _ _ _ _ _ hb, show updF pb (i + 1) a (i + 1) = a from if_pos rfl]
      rfl
    · rw [heap_setCell_other _ _ _ _ (fun e2 => hij (h.two hp (List.getElem?_eq_getElem (by omega)) e2)), show updF pb (j + 1) a (i + 1) = pb (i + 1) from if_neg (by omega)]
      exact h.nod i p hp
theorem LcR.setW (h : LcR w X H wr P L pa pb) (v : Bool) : LcR (w.setCell ⟨X, 1, none⟩ (.bool v)) X H v P L pa pb := by
  refine ⟨by rw [heap_setCell_same _ X _ _ _ _ h.blk]; rfl, fun i p hp => ?_, h.nd, h.nx⟩
  rw [heap_setCell_other _ _ _ _ (fun e => h.nx (by rw [show X = p.1 from e.symm]; exact List.mem_map.2 ⟨p, List.mem_of_getElem? hp, rfl⟩))]
  exact h.nod i p hp
end
/-- The ring as it stands between two calls. -/
def paC (X : Nat) (L : List (Nat × Wq)) : Nat → Nat × Nat
  | 0 => adL X L L.length
  | i + 1 => adL X L i
def pbC (X : Nat) (L : List (Nat × Wq)) (i : Nat) : Nat × Nat := adL X L (i + 1)
abbrev LcC (w : World) (X H : Nat) (wr : Bool) (P : Nat) (L : List (Nat × Wq)) : Prop := LcR w X H wr P L (paC X L) (pbC X L)
section
variable {w w' : World} {X H P : Nat} {wr : Bool} {L : List (Nat × Wq)}
theorem adL_end (X : Nat) (L : List (Nat × Wq)) {j : Nat} (h : L.length < j) : adL X L j = (X, 3) := by
  match j with
  | 0 => rfl
  | j + 1 => simp [adL, List.getElem?_eq_none (show L.length ≤ j by omega)]
theorem adL_app (X : Nat) (L : List (Nat × Wq)) (p : Nat × Wq) {j : Nat} (h : j ≤ L.length) : adL X (L ++ [p]) j = adL X L j := by
  match j with
  | 0 => rfl
  | j + 1 => simp [adL, List.getElem?_append_left (show j < L.length by omega)]
theorem adL_last (X : Nat) (L : List (Nat × Wq)) (p : Nat × Wq) : adL X (L ++ [p]) (L.length + 1) = (p.1, 0) := by simp [adL]
/-- One put behind the last: its block is made, then its neighbours learn of it. -/
theorem LcC.join (h : LcC w X H wr P L) {b : Nat} {x : Wq} {w1 : World} (hb : w1.heap[b]? = some (.cells (lcPA x (adL X L L.length) (X, 3)) lcPT (0, 0))) (hk : ∀ g, g = X ∨ g ∈ L.map (·.1) → w1.heap[g]? = w.heap[g]?) (hnX : b ≠ X) (hnL : b ∉ L.map (·.1)) :
    LcC ((w1.setCell ⟨(adL X L L.length).1, (adL X L L.length).2 + 4, none⟩ (pt2 (b, 0))).setCell ⟨X, 3 + 3, none⟩ (pt2 (b, 0))) X H wr P (L ++ [(b, x)]) := by
  have h1 := h.keep hk
  have h2 : LcR w1 X H wr P (L ++ [(b, x)]) (updF (paC X L) (L.length + 1) (adL X L L.length)) (updF (pbC X L) (L.length + 1) (X, 3)) := by
    refine ⟨by rw [show updF (paC X L) (L.length + 1) (adL X L L.length) 0 = paC X L 0 from if_neg (by omega), show updF (pbC X L) (L.length + 1) (X, 3) 0 = pbC X L 0 from if_neg (by omega)]; exact h1.blk, fun i p hp => ?_, ?_, ?_⟩
    · by_cases hi : i < L.length
      · rw [List.getElem?_append_left hi] at hp
        rw [show updF (paC X L) (L.length + 1) (adL X L L.length) (i + 1) = paC X L (i + 1) from if_neg (by omega), show updF (pbC X L) (L.length + 1) (X, 3) (i + 1) = pbC X L (i + 1) from if_neg (by omega)]
        exact h1.nod i p hp
      · have h3 := (List.getElem?_eq_some_iff.1 hp).1
        rw [List.length_append, List.length_singleton] at h3
        obtain rfl : i = L.length := by omega
        rw [List.getElem?_append_right (Nat.le_refl _), Nat.sub_self, List.getElem?_cons_zero] at hp
        cases hp
        rw [show updF (paC X L) (L.length + 1) (adL X L L.length) (L.length + 1) = adL X L L.length from if_pos rfl, show updF (pbC X L) (L.length + 1) (X, 3) (L.length + 1) = (X, 3) from if_pos rfl]
        exact hb
    · rw [List.map_append, List.nodup_append]
      refine ⟨h.nd, by simp, fun a ha c hc => ?_⟩
      simp only [List.map_cons, List.map_nil, List.mem_singleton] at hc
      rw [hc]
      exact fun e => hnL (e ▸ ha)
    · rw [List.map_append, List.mem_append]
      rintro (e | e)
      · exact h.nx e
      · simp only [List.map_cons, List.map_nil, List.mem_singleton] at e
        exact hnX e.symm
  have hl : (L ++ [(b, x)]).length = L.length + 1 := by simp
  have h3 := (h2.setB L.length (by omega) (b, 0)).setA 0 (by omega) (b, 0)
  rw [adL_app X L (b, x) (Nat.le_refl _)] at h3
  refine LcR.congr h3 (fun i hi => ?_) (fun i hi => ?_)
  · rw [hl] at hi
    match i with
    | 0 => show adL X _ (L ++ [(b, x)]).length = updF _ 0 (b, 0) 0; rw [hl, adL_last, show updF _ 0 (b, 0) 0 = (b, 0) from if_pos rfl]
    | i + 1 =>
      rw [show updF (updF (paC X L) (L.length + 1) (adL X L L.length)) 0 (b, 0) (i + 1) = updF (paC X L) (L.length + 1) (adL X L L.length) (i + 1) from if_neg (by omega)]
      show adL X _ i = _
      rw [adL_app X L (b, x) (by omega)]
      by_cases e : i = L.length
      · subst e
        rw [show updF (paC X L) (L.length + 1) (adL X L L.length) (L.length + 1) = adL X L L.length from if_pos rfl]
      · rw [show updF (paC X L) (L.length + 1) (adL X L L.length) (i + 1) = paC X L (i + 1) from if_neg (by omega)]
        rfl
  · rw [hl] at hi
    show adL X _ (i + 1) = _
    by_cases e1 : i = L.length + 1
    · subst e1
      rw [adL_end X _ (by rw [hl]; omega), show updF (updF (pbC X L) (L.length + 1) (X, 3)) L.length (b, 0) (L.length + 1) = updF (pbC X L) (L.length + 1) (X, 3) (L.length + 1) from if_neg (by omega), show updF (pbC X L) (L.length + 1) (X, 3) (L.length + 1) = (X, 3) from if_pos rfl]
    · by_cases e2 : i = L.length
      · subst e2
        rw [adL_last, show updF (updF (pbC X L) (L.length + 1) (X, 3)) L.length (b, 0) L.length = (b, 0) from if_pos rfl]
      · rw [show updF (updF (pbC X L) (L.length + 1) (X, 3)) L.length (b, 0) i = updF (pbC X L) (L.length + 1) (X, 3) i from if_neg e2, show updF (pbC X L) (L.length + 1) (X, 3) i = pbC X L i from if_neg e1, adL_app X L (b, x) (by omega)]
        rfl
theorem lc_drop_at {A B : List (Nat × Wq)} {p : Nat × Wq} (i : Nat) : (A ++ B)[i]? = (A ++ p :: B)[if i < A.length then i else i + 1]? := by
  by_cases h : i < A.length
  · rw [if_pos h, List.getElem?_append_left h, List.getElem?_append_left h]
  · rw [if_neg h, List.getElem?_append_right (by omega), List.getElem?_append_right (by omega), show i + 1 - A.length = (i - A.length) + 1 by omega, List.getElem?_cons_succ]
theorem adL_low (X : Nat) (A B : List (Nat × Wq)) (p : Nat × Wq) {j : Nat} (h : j ≤ A.length) : adL X (A ++ B) j = adL X (A ++ p :: B) j := by
  match j with
  | 0 => rfl
  | j + 1 =>
    have := lc_drop_at (A := A) (B := B) (p := p) j
    rw [if_pos (by omega)] at this
    simp only [adL, this]
theorem adL_high (X : Nat) (A B : List (Nat × Wq)) (p : Nat × Wq) {j : Nat} (h : A.length < j) : adL X (A ++ B) j = adL X (A ++ p :: B) (j + 1) := by
  match j with
  | 0 => omega
  | j + 1 =>
    have := lc_drop_at (A := A) (B := B) (p := p) j
    rw [if_neg (by omega)] at this
    simp only [adL, this]
theorem LcR.drop {A B : List (Nat × Wq)} {p : Nat × Wq} {pa pb : Nat → Nat × Nat} (h : LcR w X H wr P (A ++ p :: B) pa pb) : LcR w X H wr P (A ++ B) (fun k => if k ≤ A.length then pa k else pa (k + 1)) (fun k => if k ≤ A.length then pb k else pb (k + 1)) := by
  have hsub : (A ++ B).Sublist (A ++ p :: B) := List.Sublist.append (List.Sublist.refl A) (List.sublist_cons_self p B)
  refine ⟨by simpa using h.blk, fun i q hq => ?_, h.nd.sublist (hsub.map _), fun e => h.nx ((hsub.map _).subset e)⟩
  rw [lc_drop_at (p := p)] at hq
  have := h.nod _ q hq
  by_cases hi : i < A.length
  · rw [if_pos hi] at this
    rw [if_pos (show i + 1 ≤ A.length by omega), if_pos (show i + 1 ≤ A.length by omega)]
    exact this
  · rw [if_neg hi] at this
    rw [if_neg (show ¬ i + 1 ≤ A.length by omega), if_neg (show ¬ i + 1 ≤ A.length by omega)]
    exact this
/-- One taken out: its neighbours learn of each other. -/
theorem LcC.out {A B : List (Nat × Wq)} {p : Nat × Wq} (h : LcC w X H wr P (A ++ p :: B)) :
    LcC ((w.setCell ⟨(adL X (A ++ p :: B) A.length).1, (adL X (A ++ p :: B) A.length).2 + 4, none⟩ (pt2 (adL X (A ++ p :: B) (A.length + 2)))).setCell ⟨(adL X (A ++ p :: B) (A.length + 2)).1, (adL X (A ++ p :: B) (A.length + 2)).2 + 3, none⟩ (pt2 (adL X (A ++ p :: B) A.length))) X H wr P (A ++ B) := by
  have hl : (A ++ p :: B).length = A.length + B.length + 1 := by simp; omega
  have h1 := h.setB A.length (by omega) (adL X (A ++ p :: B) (A.length + 2))
  obtain ⟨j, hj, ej, hj2⟩ : ∃ j, j ≤ (A ++ p :: B).length ∧ adL X (A ++ p :: B) j = adL X (A ++ p :: B) (A.length + 2) ∧ j = if B.length = 0 then 0 else A.length + 2 := by
    by_cases hB : B.length = 0
    · exact ⟨0, Nat.zero_le _, by rw [adL_end X _ (show (A ++ p :: B).length < A.length + 2 by omega)]; rfl, by rw [if_pos hB]⟩
    · exact ⟨A.length + 2, by omega, rfl, by rw [if_neg hB]⟩
  have h2 := h1.setA j hj (adL X (A ++ p :: B) A.length)
  rw [ej] at h2
  refine LcR.congr h2.drop (fun i hi => ?_) (fun i hi => ?_)
  · rw [List.length_append] at hi
    match i with
    | 0 =>
      rw [if_pos (Nat.zero_le _)]
      show adL X (A ++ B) (A ++ B).length = _
      rw [List.length_append]
      by_cases hB : B.length = 0
      · rw [if_pos hB] at hj2
        rw [hB, hj2, show updF (paC X (A ++ p :: B)) 0 (adL X (A ++ p :: B) A.length) 0 = adL X (A ++ p :: B) A.length from if_pos rfl, Nat.add_zero, adL_low X A B p (Nat.le_refl _)]
      · rw [if_neg hB] at hj2
        rw [hj2, show updF (paC X (A ++ p :: B)) (A.length + 2) (adL X (A ++ p :: B) A.length) 0 = paC X (A ++ p :: B) 0 from if_neg (by omega), adL_high X A B p (by omega)]
        show _ = adL X (A ++ p :: B) (A ++ p :: B).length
        rw [hl]
    | i + 1 =>
      show adL X (A ++ B) i = _
      by_cases hi2 : i + 1 ≤ A.length
      · rw [if_pos hi2, show updF (paC X (A ++ p :: B)) j (adL X (A ++ p :: B) A.length) (i + 1) = paC X (A ++ p :: B) (i + 1) from if_neg (by rw [hj2]; split <;> omega), adL_low X A B p (by omega)]
        rfl
      · rw [if_neg hi2]
        have hB : ¬ B.length = 0 := by omega
        rw [if_neg hB] at hj2
        by_cases e : i = A.length
        · subst e
          rw [hj2, show updF (paC X (A ++ p :: B)) (A.length + 2) (adL X (A ++ p :: B) A.length) (A.length + 1 + 1) = adL X (A ++ p :: B) A.length from if_pos rfl, adL_low X A B p (Nat.le_refl _)]
        · rw [show updF (paC X (A ++ p :: B)) j (adL X (A ++ p :: B) A.length) (i + 1 + 1) = paC X (A ++ p :: B) (i + 1 + 1) from if_neg (by omega), adL_high X A B p (by omega)]
          rfl
  · rw [List.length_append] at hi
    show adL X (A ++ B) (i + 1) = _
    by_cases hi2 : i ≤ A.length
    · rw [if_pos hi2]
      by_cases e : i = A.length
      · subst e
        rw [show updF (pbC X (A ++ p :: B)) A.length (adL X (A ++ p :: B) (A.length + 2)) A.length = adL X (A ++ p :: B) (A.length + 2) from if_pos rfl, adL_high X A B p (by omega)]
      · rw [show updF (pbC X (A ++ p :: B)) A.length (adL X (A ++ p :: B) (A.length + 2)) i = pbC X (A ++ p :: B) i from if_neg e, adL_low X A B p (by omega)]
        rfl
    · rw [if_neg hi2, show updF (pbC X (A ++ p :: B)) A.length (adL X (A ++ p :: B) (A.length + 2)) (i + 1) = pbC X (A ++ p :: B) (i + 1) from if_neg (by omega), adL_high X A B p (by omega)]
      rfl
end
end Go.Proofs.Ytmfadmhbkgemmaa
