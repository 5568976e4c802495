/-
  What a choice turns in the program's proposer, against the document's: plain data. No condition.
-/
import Derived.Test.YtmlgoecdefeapaaPPxAccR
namespace Go.Proofs.Ytmlgoecdefeapaa
open Go.RowKit

/-- What is left of a row without one of its slots. -/
def cutR (r : Int × Int) (s : Int) : List (Int × Int) := (if r.1 < s then [(r.1, s - 1)] else []) ++ (if s < r.2 then [(s + 1, r.2)] else [])
theorem cutR_len (r : Int × Int) (s : Int) : (cutR r s).length ≤ 2 := by
  unfold cutR
  split <;> split <;> simp
theorem cutR_mem {r x : Int × Int} {s : Int} (h : x ∈ cutR r s) : r.1 ≤ x.1 ∧ x.1 ≤ x.2 ∧ x.2 ≤ r.2 ∨ ¬ (r.1 ≤ s ∧ s ≤ r.2) := by
  unfold cutR at h
  rcases List.mem_append.1 h with h | h
  · split at h
    · rw [List.mem_singleton.1 h]
      by_cases hs : s ≤ r.2
      · exact Or.inl ⟨Int.le_refl _, by show r.1 ≤ s - 1; omega, by show s - 1 ≤ r.2; omega⟩
      · exact Or.inr (fun h2 => hs h2.2)
    · cases h
  · split at h
    · rw [List.mem_singleton.1 h]
      by_cases hs : r.1 ≤ s
      · exact Or.inl ⟨by show r.1 ≤ s + 1; omega, by show s + 1 ≤ r.2; omega, Int.le_refl _⟩
      · exact Or.inr (fun h2 => hs h2.1)
    · cases h
theorem slotsF_ne {k : Nat} {a s : Int} (h : s < a ∨ a + k ≤ s) : (slotsF k a).filter (fun t => decide (t ≠ s)) = slotsF k a := by
  rw [List.filter_eq_self]
  intro t ht
  have := slotsF_mem.1 ht
  simp
  omega
theorem rowsS_app (a b : List (Int × Int)) : rowsS (a ++ b) = rowsS a ++ rowsS b := by
  unfold rowsS
  rw [List.flatMap_append]
theorem rowsS_one (r : Int × Int) : rowsS [r] = rowS r := by
  unfold rowsS
  rw [List.flatMap_cons, List.flatMap_nil, List.append_nil]
theorem rowS_cut {r : Int × Int} {s : Int} (h1 : r.1 ≤ s) (h2 : s ≤ r.2) : rowsS (cutR r s) = (rowS r).filter (fun t => decide (t ≠ s)) := by
  have e0 : rowS r = slotsF (s - r.1).toNat r.1 ++ ([s] ++ slotsF (r.2 - s).toNat (s + 1)) := by
    unfold rowS
    rw [show (r.2 - r.1).toNat + 1 = (s - r.1).toNat + (1 + (r.2 - s).toNat) by omega, slotsF_add, slotsF_add]
    rw [show r.1 + ((s - r.1).toNat : Int) = s by omega]
    congr 1
  have e1 : (if r.1 < s then [(r.1, s - 1)] else []).flatMap rowS = slotsF (s - r.1).toNat r.1 := by
    split
    · rw [List.flatMap_cons, List.flatMap_nil, List.append_nil]
      unfold rowS
      rw [show (s - 1 - r.1).toNat + 1 = (s - r.1).toNat by omega]
    · rw [show (s - r.1).toNat = 0 by omega]
      rfl
  have e2 : (if s < r.2 then [(s + 1, r.2)] else []).flatMap rowS = slotsF (r.2 - s).toNat (s + 1) := by
    split
    · rw [List.flatMap_cons, List.flatMap_nil, List.append_nil]
      unfold rowS
      rw [show (r.2 - (s + 1)).toNat + 1 = (r.2 - s).toNat by omega]
    · rw [show (r.2 - s).toNat = 0 by omega]
      rfl
  rw [e0, List.filter_append, List.filter_append, slotsF_ne (by omega), slotsF_ne (by omega)]
  have e3 : [s].filter (fun t => decide (t ≠ s)) = [] := by simp
  rw [e3, List.nil_append]
  unfold cutR rowsS
  rw [List.flatMap_append, e1, e2]
/-- The rows without a slot of the row k. -/
def withoutR (l : List (Int × Int)) (k : Nat) (s : Int) : List (Int × Int) := l.take k ++ (cutR (l.getD k (0, 0)) s ++ l.drop (k + 1))
theorem rows_split {l : List (Int × Int)} {k : Nat} (hk : k < l.length) : l = l.take k ++ (l[k] :: l.drop (k + 1)) := by
  rw [List.getElem_cons_drop hk, List.take_append_drop]
theorem rows_out {l : List (Int × Int)} {s : Int} (h : ∀ r ∈ l, s < r.1 ∨ r.2 < s) (ho : ∀ r ∈ l, r.1 ≤ r.2) : (rowsS l).filter (fun t => decide (t ≠ s)) = rowsS l := by
  rw [List.filter_eq_self]
  intro t ht
  obtain ⟨r, hr, a, b⟩ := rowsS_mem ho ht
  have := h r hr
  simp
  omega
theorem without_rows {l : List (Int × Int)} {k : Nat} {s : Int} (hu : l.Pairwise fun a b => a.2 < b.1) (ho : ∀ r ∈ l, r.1 ≤ r.2) (hk : k < l.length) (h1 : l[k].1 ≤ s) (h2 : s ≤ l[k].2) : rowsS (withoutR l k s) = (rowsS l).filter (fun t => decide (t ≠ s)) := by
  have e := rows_split hk
  have hp := hu
  rw [e] at hp
  obtain ⟨p1, p2, p3⟩ := List.pairwise_append.1 hp
  have p4 := List.pairwise_cons.1 p2
  have g : l.getD k (0, 0) = l[k] := by simp [List.getD, hk]
  have m1 : ∀ r ∈ l.take k, r ∈ l := fun r hr => List.mem_of_mem_take hr
  have m2 : ∀ r ∈ l.drop (k + 1), r ∈ l := fun r hr => List.mem_of_mem_drop hr
  have f1 := rows_out (s := s) (l := l.take k) (fun r hr => Or.inr (by have := p3 r hr l[k] List.mem_cons_self; omega)) (fun r hr => ho r (m1 r hr))
  have f2 := rows_out (s := s) (l := l.drop (k + 1)) (fun r hr => Or.inl (by have := p4.1 r hr; omega)) (fun r hr => ho r (m2 r hr))
  unfold withoutR
  rw [g, rowsS_app, rowsS_app, rowS_cut h1 h2]
  conv => rhs; rw [e]
  rw [rowsS_app, show l[k] :: l.drop (k + 1) = [l[k]] ++ l.drop (k + 1) from rfl, rowsS_app, rowsS_one, List.filter_append, List.filter_append, f1, f2]
theorem cutR_up (r : Int × Int) (s : Int) : (cutR r s).Pairwise fun a b => a.2 < b.1 := by
  unfold cutR
  split <;> split
  · exact List.pairwise_cons.2 ⟨fun b hb => by rw [List.mem_singleton.1 hb]; show s - 1 < s + 1; omega, List.pairwise_singleton _ _⟩
  · exact List.pairwise_singleton _ _
  · exact List.pairwise_singleton _ _
  · exact List.Pairwise.nil
theorem without_up {l : List (Int × Int)} {k : Nat} {s z y : Int} (hu : l.Pairwise fun a b => a.2 < b.1) (ho : ∀ r ∈ l, z ≤ r.1 ∧ r.1 ≤ r.2 ∧ r.2 ≤ y) (hk : k < l.length) (h1 : l[k].1 ≤ s) (h2 : s ≤ l[k].2) : (withoutR l k s).Pairwise (fun a b => a.2 < b.1) ∧ ∀ r ∈ withoutR l k s, z ≤ r.1 ∧ r.1 ≤ r.2 ∧ r.2 ≤ y := by
  have e := rows_split hk
  have hp := hu
  rw [e] at hp
  obtain ⟨p1, p2, p3⟩ := List.pairwise_append.1 hp
  have p4 := List.pairwise_cons.1 p2
  have g : l.getD k (0, 0) = l[k] := by simp [List.getD, hk]
  have hc : ∀ x ∈ cutR l[k] s, l[k].1 ≤ x.1 ∧ x.1 ≤ x.2 ∧ x.2 ≤ l[k].2 := fun x hx => by
    rcases cutR_mem hx with h | h
    · exact h
    · exact absurd ⟨h1, h2⟩ h
  have hkl := ho l[k] (List.getElem_mem hk)
  unfold withoutR
  rw [g]
  refine ⟨List.pairwise_append.2 ⟨p1, List.pairwise_append.2 ⟨cutR_up _ _, p4.2, fun a ha b hb => ?_⟩, fun a ha b hb => ?_⟩, fun r hr => ?_⟩
  · have := hc a ha
    have := p4.1 b hb
    omega
  · have q1 := p3 a ha l[k] List.mem_cons_self
    rcases List.mem_append.1 hb with hb | hb
    · have := hc b hb
      omega
    · have := p4.1 b hb
      omega
  · rcases List.mem_append.1 hr with hr | hr
    · exact ho r (List.mem_of_mem_take hr)
    · rcases List.mem_append.1 hr with hr | hr
      · have := hc r hr
        omega
      · exact ho r (List.mem_of_mem_drop hr)
/-- What Chosen leaves. -/
def choX (p : Px) (k : Nat) (s : Int) : Px := ⟨p.who, if p.vl < s then delM p.best s else p.best, p.vf, p.vl, p.last, withoutR p.rows k s, delM p.acc s⟩
theorem choP_same {q : Pp} {s : Int} (h : ∀ x ∈ q.l, x.e.slot ≠ s) : choP q s = q := by
  unfold choP
  rw [List.filter_eq_self.2 (fun x hx => decide_eq_true (h x hx))]
theorem ents_del {b : Int} {l : List (Int × En)} {s : Int} {xs : List Int} (h : ∀ t ∈ xs, t ≠ s) : xs.map (entP b (delM l s)) = xs.map (entP b l) := by
  refine List.map_congr_left fun t ht => ?_
  unfold entP
  rw [lookM_del, if_neg (h t ht)]
theorem rel_cho {q : Pp} {p : Px} {s : Int} {k : Nat} (hi : q.is = true) (h : Rel q p) (hk : k < p.rows.length) (h1 : p.rows[k].1 ≤ s) (h2 : s ≤ p.rows[k].2) : Rel (choP q s) (choX p k s) := by
  have hR := h.ready hi
  have hr := without_rows hR.up (fun r hr => (hR.ok r hr).2.1) hk h1 h2
  have hup := without_up hR.up hR.ok hk h1 h2
  have hne : ∀ t ∈ rowsS (withoutR p.rows k s), t ≠ s := fun t ht => by
    rw [hr] at ht
    simpa using (List.mem_filter.1 ht).2
  have hbest : ∀ xs : List Int, (∀ t ∈ xs, t ≠ s ∨ t ≤ p.vl) → xs.map (entP q.b (choX p k s).best) = xs.map (entP q.b p.best) := fun xs hx => by
    show xs.map (entP q.b (if p.vl < s then delM p.best s else p.best)) = _
    split
    · refine ents_del fun t ht => ?_
      rcases hx t ht with h3 | h3
      · exact h3
      · omega
    · rfl
  refine ⟨fun x hx => ?_, (fun h3 => by have h4 : q.is = false := h3; rw [hi] at h4; cases h4), fun _ => ⟨hR.vf, hR.vl, ?_, hR.last, hup.1, hup.2, ?_, fun x hx => ?_, fun y hy => ?_⟩⟩
  · have hx' : x ∈ (if p.vl < s then delM p.best s else p.best) := hx
    split at hx'
    · exact h.names x (delM_mem.1 hx').1
    · exact h.names x hx'
  · show q.vals = _
    rw [hR.vals]
    exact (hbest _ (fun t ht => Or.inr (by have := slotsF_mem.1 ht; have := hR.vl; omega))).symm
  · show (q.l.filter fun x => decide (x.e.slot ≠ s)).map (·.e) = (rowsS (withoutR p.rows k s)).map (entP q.b (choX p k s).best)
    rw [hbest _ (fun t ht => Or.inl (hne t ht)), hr]
    have e1 : (q.l.filter fun x => decide (x.e.slot ≠ s)).map (·.e) = (q.l.map (·.e)).filter fun e => decide (e.slot ≠ s) := by
      rw [List.filter_map]
      rfl
    rw [e1, hR.open', List.filter_map]
    rfl
  · have hx' := List.mem_filter.1 hx
    have hs : x.e.slot ≠ s := by simpa using hx'.2
    have := hR.acc x hx'.1
    have e2 : wsOf (delM p.acc s) x.e.slot = wsOf p.acc x.e.slot := by
      unfold wsOf
      rw [lookM_del, if_neg hs]
    show AccR (maR q.n) x (wsOf (delM p.acc s) x.e.slot)
    rw [e2]
    exact this
  · exact hR.keys y (delM_mem.1 hy).1
end Go.Proofs.Ytmlgoecdefeapaa
