/-
  What the program's proposer keeps, against the document's as plain data: that both say the same is kept by each deed. No condition.
-/
import Derived.Test.YtmlgoecdefeapaaPPxEntries
import Derived.Test.YtmlgoecdefeapaaPBaPlain
namespace Go.Proofs.Ytmlgoecdefeapaa
open Go.RowKit

theorem maR_pos (n : Int) : 1 ≤ maR n := by
  unfold maR
  split <;> omega
/-- Who accepted, as the program has it, against the document's: the same until it is a majority; at least one from then on. -/
structure AccR (m : Int) (x : Sl) (ws : List Int) : Prop where
  no : x.most = false → ws = x.who ∧ (ws.length : Int) < m
  yes : x.most = true → m ≤ (ws.length : Int)
def wsOf (l : List (Int × (Nat × List Int))) (s : Int) : List Int := ((lookM l s).map (·.2)).getD []
/-- Ahead of ready. -/
structure RelE (q : Pp) (p : Px) : Prop where
  best : ∀ s, lookM p.best s = bestE q.best s
  who : p.who = q.who
  rows : p.rows = []
  acc : p.acc = []
  keys : ∀ x ∈ p.best, q.f ≤ x.1 ∧ x.1 = x.2.slot
  vals : q.vals = []
  l : q.l = []
/-- From ready on. -/
structure RelR (q : Pp) (p : Px) : Prop where
  vf : p.vf = q.f
  vl : q.f ≤ p.vl ∧ p.vl ≤ p.last
  vals : q.vals = (slotsF ((p.vl - q.f).toNat + 1) q.f).map (entP q.b p.best)
  last : p.last + 1 = q.next
  up : p.rows.Pairwise fun a b => a.2 < b.1
  ok : ∀ r ∈ p.rows, q.f ≤ r.1 ∧ r.1 ≤ r.2 ∧ r.2 ≤ p.last
  open' : q.l.map (·.e) = (rowsS p.rows).map (entP q.b p.best)
  acc : ∀ x ∈ q.l, AccR (maR q.n) x (wsOf p.acc x.e.slot)
  keys : ∀ y ∈ p.acc, y.1 ≤ p.last
structure Rel (q : Pp) (p : Px) : Prop where
  names : Names p.best
  early : q.is = false → RelE q p
  ready : q.is = true → RelR q p

/-! ## An entry heard -/
theorem bestE_insP' (f s : Int) (l : List En) (e : En) : bestE (insP f l e) s = if e.slot < f then bestE l s else moreE s (bestE l s) e := by
  unfold insP
  split
  · rfl
  · exact bestE_insB e s l
theorem lookM_hear (f : Int) (l : List (Int × En)) (e : En) (s : Int) : lookM (hearB f l e) s = if e.slot < f then lookM l s else moreE s (lookM l s) e := by
  unfold hearB
  by_cases hf : e.slot < f
  · rw [if_pos hf, if_pos hf]
  · rw [if_neg hf, if_neg hf]
    unfold moreE
    by_cases hs : e.slot = s
    · subst hs
      rw [if_pos rfl]
      cases hl : lookM l e.slot with
      | none =>
        show lookM (putM l e.slot e) e.slot = _
        rw [lookM_put, if_pos rfl]
      | some x =>
        show lookM (if x.ballot < e.ballot then _ else _) e.slot = if x.ballot < e.ballot then _ else _
        by_cases hx : x.ballot < e.ballot
        · rw [if_pos hx, if_pos hx, lookM_put, if_pos rfl]
        · rw [if_neg hx, if_neg hx, hl]
    · rw [if_neg hs]
      have hs' : ¬ s = e.slot := fun h => hs h.symm
      cases hl : lookM l e.slot with
      | none =>
        show lookM (putM l e.slot e) s = _
        rw [lookM_put, if_neg hs']
      | some x =>
        show lookM (if x.ballot < e.ballot then _ else _) s = _
        split
        · rw [lookM_put, if_neg hs']
        · rfl
theorem putM_mem {l : List (Int × En)} {n : Int} {c : En} {x : Int × En} (h : x ∈ putM l n c) : x = (n, c) ∨ x ∈ l := by
  unfold putM at h
  split at h
  · rcases List.mem_append.1 h with h | h
    · exact Or.inr h
    · exact Or.inl (List.mem_singleton.1 h)
  · obtain ⟨y, hy, e⟩ := List.mem_map.1 h
    split at e
    · exact Or.inl e.symm
    · exact Or.inr (e ▸ hy)
theorem hearB_mem {f : Int} {l : List (Int × En)} {e : En} {x : Int × En} (h : x ∈ hearB f l e) : (x = (e.slot, e) ∧ f ≤ e.slot) ∨ x ∈ l := by
  unfold hearB at h
  split at h
  · exact Or.inr h
  · rename_i hf
    split at h
    · exact (putM_mem h).imp (fun h => ⟨h, by omega⟩) id
    · split at h
      · exact (putM_mem h).imp (fun h => ⟨h, by omega⟩) id
      · exact Or.inr h
/-! ## It becomes ready -/
theorem maxK_mem {x : Int × En} : ∀ {l : List (Int × En)} (z : Int), x ∈ l → x.1 ≤ maxK z l
  | y :: l, z, h => by
    show x.1 ≤ maxK (max z y.1) l
    rcases List.mem_cons.1 h with h | h
    · have := maxK_ge l (max z y.1)
      rw [h]
      omega
    · exact maxK_mem _ h
theorem bestE_mem {l : List En} {s : Int} {e : En} (h : bestE l s = some e) : e ∈ l ∧ e.slot = s := ⟨List.mem_of_find?_eq_some h, by simpa using List.find?_some h⟩
theorem bestE_some {l : List En} {e : En} (h : e ∈ l) : ∃ x, bestE l e.slot = some x := by
  cases hb : bestE l e.slot with
  | none =>
    unfold bestE at hb
    rw [List.find?_eq_none] at hb
    have := hb e h
    simp at this
  | some x => exact ⟨x, rfl⟩
/-- The last slot that was told of, and one. -/
theorem endL_eq {f : Int} {L : List En} {p : Px} (h : ∀ s, lookM p.best s = bestE L s) (hk : ∀ x ∈ p.best, f ≤ x.1) (hn : (p.best.map (·.1)).Nodup) : endL ⟨p.who, p.best, p.vf, p.vl, maxK f p.best, p.rows, p.acc⟩ = lastS (f - 1) L + 1 := by
  have hl : ∀ x ∈ p.best, x.1 ≤ lastS (f - 1) L := fun x hx => by
    have h1 := lookM_some hn (n := x.1) (c := x.2) hx
    rw [h] at h1
    obtain ⟨h2, h3⟩ := bestE_mem h1
    have := lastS_mem (f - 1) h2
    omega
  have hL : ∀ e ∈ L, ∃ x ∈ p.best, x.1 = e.slot := fun e he => by
    obtain ⟨x, hx⟩ := bestE_some he
    rw [← h] at hx
    exact ⟨_, lookM_mem hx, rfl⟩
  show (if p.best = [] then maxK f p.best else maxK f p.best + 1) = _
  by_cases hb : p.best = []
  · rw [if_pos hb, hb]
    have hLn : L = [] := by
      cases L with
      | nil => rfl
      | cons e t =>
        obtain ⟨x, hx, _⟩ := hL e List.mem_cons_self
        rw [hb] at hx
        cases hx
    rw [hLn]
    show f = f - 1 + 1
    omega
  · rw [if_neg hb]
    have hle : maxK f p.best ≤ lastS (f - 1) L := by
      obtain ⟨x, hx⟩ := List.exists_mem_of_ne_nil _ hb
      exact maxK_le (by have := hk x hx; have := hl x hx; omega) hl
    have hge : lastS (f - 1) L ≤ maxK f p.best := by
      refine lastS_le (by have := maxK_ge p.best f; omega) (fun e he => ?_)
      obtain ⟨x, hx, e1⟩ := hL e he
      rw [← e1]
      exact maxK_mem f hx
    omega
theorem map_ents {b : Int} {l : List (Int × En)} {L : List En} (h : ∀ s, lookM l s = bestE L s) : ∀ (k : Nat) (s : Int), (slotsF k s).map (entP b l) = spanE b L k s
  | 0, _ => rfl
  | k + 1, s => by
    show entP b l s :: (slotsF k (s + 1)).map (entP b l) = ⟨s, b, bestC L s⟩ :: spanE b L k (s + 1)
    rw [map_ents h k (s + 1)]
    unfold entP bestC
    rw [h]
theorem ents_put {b : Int} {l : List (Int × En)} {n : Int} {c : En} {xs : List Int} (h : ∀ s ∈ xs, s ≠ n) : xs.map (entP b (putM l n c)) = xs.map (entP b l) := by
  refine List.map_congr_left fun s hs => ?_
  unfold entP
  rw [lookM_put, if_neg (h s hs)]
theorem rel_ready {q : Pp} {p : Px} (hn : Names p.best) (h : RelE q p) (hnd : (p.best.map (·.1)).Nodup) : Rel (readyP q) (readyX q.b q.f p) := by
  have hL := endL_eq h.best (fun x hx => (h.keys x hx).1) hnd
  have hge := lastS_ge q.best (q.f - 1)
  obtain ⟨L, hLd⟩ : ∃ L, L = lastS (q.f - 1) q.best + 1 := ⟨_, rfl⟩
  have hr : readyX q.b q.f p = ⟨p.who, putM p.best L (termX q.b L), q.f, L, L, [(q.f, L)], p.acc⟩ := by
    rw [readyX, hL, ← hLd]
  obtain ⟨k, hk⟩ : ∃ k : Nat, (lastS (q.f - 1) q.best - (q.f - 1)).toNat = k := ⟨_, rfl⟩
  have hkL : q.f + (k : Int) = L := by omega
  have hk2 : (L - q.f).toNat = k := by omega
  have hv : valsR q.b q.f q.best = (slotsF (k + 1) q.f).map (entP q.b (putM p.best L (termX q.b L))) := by
    unfold valsR
    rw [hk, slotsF_add k 1, List.map_append, ents_put (fun s hs => by have := (slotsF_mem.1 hs).2; omega), map_ents h.best, ← hLd]
    congr 1
    show [termE q.b L] = [entP q.b (putM p.best L (termX q.b L)) (q.f + (k : Int))]
    rw [hkL]
    unfold entP
    rw [lookM_put, if_pos rfl]
    rfl
  rw [hr]
  refine ⟨hn.put _ (Nat.zero_le _), (fun hi => by cases hi), fun _ => ⟨rfl, ⟨?_, Int.le_refl _⟩, ?_, ?_, List.pairwise_singleton _ _, fun r hr' => ?_, ?_, fun x hx => ?_, fun y hy => ?_⟩⟩
  · show q.f ≤ L
    omega
  · show q.vals ++ valsR q.b q.f q.best = (slotsF ((L - q.f).toNat + 1) q.f).map _
    rw [h.vals, List.nil_append, hv, hk2]
    rfl
  · show L + 1 = lastS (q.f - 1) q.best + 2
    omega
  · rw [List.mem_singleton.1 hr']
    refine ⟨Int.le_refl _, ?_, Int.le_refl _⟩
    show q.f ≤ L
    omega
  · show (q.l ++ (q.vals ++ valsR q.b q.f q.best).map slOf).map (·.e) = (rowsS [(q.f, L)]).map _
    rw [h.vals, h.l, List.nil_append, List.nil_append, List.map_map, hv]
    have e1 : rowsS [(q.f, L)] = slotsF (k + 1) q.f := by
      unfold rowsS rowS
      rw [List.flatMap_cons, List.flatMap_nil, List.append_nil, hk2]
    rw [e1]
    refine (List.map_id'' (fun _ => rfl) _)
  · have hx' : x ∈ (q.vals ++ valsR q.b q.f q.best).map slOf := by
      have : x ∈ q.l ++ (q.vals ++ valsR q.b q.f q.best).map slOf := hx
      rw [h.l, List.nil_append] at this
      exact this
    obtain ⟨e, _, rfl⟩ := List.mem_map.1 hx'
    have ha : wsOf p.acc (slOf e).e.slot = [] := by
      unfold wsOf
      rw [h.acc]
      rfl
    show AccR (maR q.n) (slOf e) (wsOf p.acc _)
    rw [ha]
    have := maR_pos q.n
    exact ⟨fun _ => ⟨rfl, by simp; omega⟩, fun hm => by cases hm⟩
  · have : y ∈ p.acc := hy
    rw [h.acc] at this
    cases this

/-! ## One more proposed -/
theorem rowS_snoc (a s : Int) (h : a ≤ s - 1) : rowS (a, s) = rowS (a, s - 1) ++ [s] := by
  unfold rowS
  show slotsF ((s - a).toNat + 1) a = slotsF ((s - 1 - a).toNat + 1) a ++ [s]
  rw [show (s - a).toNat + 1 = ((s - 1 - a).toNat + 1) + 1 by omega, slotsF_add _ 1]
  congr 1
  show [a + (((s - 1 - a).toNat + 1 : Nat) : Int)] = [s]
  congr 1
  omega
theorem rowS_one (s : Int) : rowS (s, s) = [s] := by
  unfold rowS
  show slotsF ((s - s).toNat + 1) s = [s]
  rw [show (s - s).toNat + 1 = 1 by omega]
  rfl
theorem rowsS_with {l : List (Int × Int)} {s : Int} (hok : ∀ r ∈ l, r.1 ≤ r.2) : rowsS (withR l s) = rowsS l ++ [s] := by
  cases hg : l.getLast? with
  | none =>
    rw [List.getLast?_eq_none_iff.1 hg]
    show rowsS [(s, s)] = [] ++ [s]
    unfold rowsS
    rw [List.flatMap_cons, List.flatMap_nil, List.append_nil, rowS_one]
    rfl
  | some r =>
    obtain ⟨ys, rfl⟩ := List.getLast?_eq_some_iff.1 hg
    have hr := hok r (by simp)
    by_cases hs : r.2 = s - 1
    · rw [withR_join hs]
      unfold rowsS
      rw [List.flatMap_append, List.flatMap_append, List.append_assoc, List.flatMap_cons, List.flatMap_nil, List.append_nil, List.flatMap_cons, List.flatMap_nil, List.append_nil, rowS_snoc _ _ (by omega), ← hs]
    · rw [withR_new hs]
      unfold rowsS
      rw [List.flatMap_append (xs := ys ++ [r]), List.flatMap_cons, List.flatMap_nil, List.append_nil, rowS_one]
theorem withR_up {l : List (Int × Int)} {s z : Int} (hu : l.Pairwise fun a b => a.2 < b.1) (hok : ∀ r ∈ l, z ≤ r.1 ∧ r.1 ≤ r.2 ∧ r.2 < s) (hz : z ≤ s) : (withR l s).Pairwise (fun a b => a.2 < b.1) ∧ ∀ r ∈ withR l s, z ≤ r.1 ∧ r.1 ≤ r.2 ∧ r.2 ≤ s := by
  cases hg : l.getLast? with
  | none =>
    rw [List.getLast?_eq_none_iff.1 hg]
    refine ⟨List.pairwise_singleton _ _, fun r hr => ?_⟩
    have e : r = (s, s) := List.mem_singleton.1 hr
    rw [e]
    exact ⟨hz, Int.le_refl _, Int.le_refl _⟩
  | some r =>
    obtain ⟨ys, rfl⟩ := List.getLast?_eq_some_iff.1 hg
    have hp := List.pairwise_append.1 hu
    by_cases hs : r.2 = s - 1
    · rw [withR_join hs]
      refine ⟨List.pairwise_append.2 ⟨hp.1, List.pairwise_singleton _ _, fun a ha b hb => ?_⟩, fun x hx => ?_⟩
      · rw [List.mem_singleton.1 hb]
        exact hp.2.2 a ha r (by simp)
      · rcases List.mem_append.1 hx with hx | hx
        · have := hok x (List.mem_append.2 (Or.inl hx))
          omega
        · rw [List.mem_singleton.1 hx]
          have := hok r (by simp)
          refine ⟨this.1, ?_, Int.le_refl _⟩
          show r.1 ≤ s
          omega
    · rw [withR_new hs]
      refine ⟨List.pairwise_append.2 ⟨hu, List.pairwise_singleton _ _, fun a ha b hb => ?_⟩, fun x hx => ?_⟩
      · rw [List.mem_singleton.1 hb]
        have := hok a ha
        show a.2 < s
        omega
      · rcases List.mem_append.1 hx with hx | hx
        · have := hok x hx
          omega
        · rw [List.mem_singleton.1 hx]
          exact ⟨hz, Int.le_refl _, Int.le_refl _⟩
/-- What Propose leaves. -/
def propX (p : Px) (c : Cm) : Px := ⟨p.who, putM p.best (p.last + 1) ⟨p.last + 1, 0, c⟩, p.vf, p.vl, p.last + 1, withR p.rows (p.last + 1), p.acc⟩
theorem rowsS_mem {l : List (Int × Int)} {s : Int} (hok : ∀ r ∈ l, r.1 ≤ r.2) (h : s ∈ rowsS l) : ∃ r ∈ l, r.1 ≤ s ∧ s ≤ r.2 := by
  unfold rowsS at h
  obtain ⟨r, hr, hs⟩ := List.mem_flatMap.1 h
  have := hok r hr
  unfold rowS at hs
  rw [slotsF_mem] at hs
  exact ⟨r, hr, by omega, by omega⟩
theorem rel_prop {q : Pp} {p : Px} (hi : q.is = true) (h : Rel q p) (c : Cm) (hc : c.name.size ≤ 281474976710656) : Rel (propP q c).1 (propX p c) := by
  have hR := h.ready hi
  have hlt := hR.last
  have e0 : (propP q c).1 = ⟨q.n, q.b, q.f, q.who, q.best, q.is, q.vals, q.next + 1, q.l ++ [slOf (nextE q c)]⟩ := by
    unfold propP
    rw [if_pos hi]
  rw [e0]
  have hup := withR_up (s := p.last + 1) (z := q.f) hR.up (fun r hr => by have := hR.ok r hr; omega) (by have := hR.vl; omega)
  refine ⟨h.names.put _ hc, (fun h2 => by rw [hi] at h2; cases h2), fun _ => ⟨hR.vf, ⟨hR.vl.1, ?_⟩, ?_, ?_, hup.1, hup.2, ?_, fun x hx => ?_, fun y hy => ?_⟩⟩
  · show p.vl ≤ p.last + 1
    have := hR.vl
    omega
  · show q.vals = (slotsF ((p.vl - q.f).toNat + 1) q.f).map (entP q.b (putM p.best (p.last + 1) _))
    rw [ents_put (fun s hs => by have := (slotsF_mem.1 hs).2; have := hR.vl; omega)]
    exact hR.vals
  · show p.last + 1 + 1 = q.next + 1
    omega
  · show (q.l ++ [slOf (nextE q c)]).map (·.e) = (rowsS (withR p.rows (p.last + 1))).map (entP q.b (putM p.best (p.last + 1) _))
    rw [rowsS_with (fun r hr => (hR.ok r hr).2.1), List.map_append, List.map_append, ents_put (fun s hs => by
      obtain ⟨r, hr, h1, h2⟩ := rowsS_mem (fun r hr => (hR.ok r hr).2.1) hs
      have := hR.ok r hr
      omega), hR.open']
    congr 1
    show [nextE q c] = [entP q.b (putM p.best (p.last + 1) ⟨p.last + 1, 0, c⟩) (p.last + 1)]
    unfold nextE entP
    rw [lookM_put, if_pos rfl, hlt]
    rfl
  · rcases List.mem_append.1 hx with hx | hx
    · exact hR.acc x hx
    · rw [List.mem_singleton.1 hx]
      have ha : wsOf p.acc (slOf (nextE q c)).e.slot = [] := by
        unfold wsOf
        rw [lookM_none (fun y hy => ?_)]
        · rfl
        · have := hR.keys y hy
          show y.1 ≠ q.next
          omega
      show AccR (maR q.n) (slOf (nextE q c)) (wsOf p.acc (slOf (nextE q c)).e.slot)
      rw [ha]
      have := maR_pos q.n
      exact ⟨fun _ => ⟨rfl, by simp; omega⟩, fun hm => by cases hm⟩
  · have := hR.keys y hy
    show y.1 ≤ p.last + 1
    omega
end Go.Proofs.Ytmlgoecdefeapaa
