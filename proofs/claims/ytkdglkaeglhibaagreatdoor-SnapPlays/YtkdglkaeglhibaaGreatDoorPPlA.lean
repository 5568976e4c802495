/-
  Files in the order of their names, looked up by name: what each call of the document's disk does to the look-up. No condition.
-/
import Derived.Test.YtkdglkaeglhibaaGreatDoorPRkH
import Derived.Sort.Walk0
namespace Go.Proofs.YtkdglkaeglhibaaGreatDoor
open Go.RowKit

def nB (n : ByteArray) : List UInt8 := n.data.toList
theorem ltN_eq (a b : ByteArray) : ltN a b = decide (nB a < nB b) := by
  unfold ltN nB
  rw [Go.Proofs.bytesLess_eq, Lib.toList_data, Lib.toList_data]
theorem nB_inj {a b : ByteArray} (h : nB a = nB b) : a = b := by
  unfold nB at h
  rw [← Lib.mk_data a, ← Lib.mk_data b, h]
theorem ltN_irr (a : ByteArray) : ltN a a = false := by
  rw [ltN_eq, decide_eq_false_iff_not]
  exact List.lt_irrefl _
theorem ltN_tr {a b c : ByteArray} (h : ltN a b = true) (k : ltN b c = true) : ltN a c = true := by
  rw [ltN_eq, decide_eq_true_eq] at *
  exact List.lt_trans h k
theorem ltN_tri {a b : ByteArray} (h : ltN a b = false) (hne : a ≠ b) : ltN b a = true := by
  rw [ltN_eq, decide_eq_false_iff_not] at h
  rw [ltN_eq, decide_eq_true_eq]
  have h1 : nB b ≤ nB a := List.not_lt.1 h
  rcases List.le_iff_lt_or_eq.1 h1 with h2 | h2
  · exact h2
  · exact absurd (nB_inj h2).symm hne
def lkR (l : List (Fl × Value)) (n : ByteArray) : Option (List BB) := (l.find? fun p => decide (p.1.name = n)).map fun p => p.1.bs
theorem lkR_nil (n : ByteArray) : lkR [] n = none := rfl
theorem lkR_cons (p : Fl × Value) (l : List (Fl × Value)) (n : ByteArray) : lkR (p :: l) n = if p.1.name = n then some p.1.bs else lkR l n := by
  unfold lkR
  rw [List.find?_cons]
  by_cases h : p.1.name = n
  · simp [h]
  · simp [h]
theorem place_cons (p : Fl × Value) (l : List (Fl × Value)) (n : ByteArray) : placeOf (p :: l) n = if p.1.name = n then 0 else placeOf l n + 1 := by
  unfold placeOf
  rw [List.findIdx_cons]
  by_cases h : p.1.name = n
  · simp [h]
  · simp [h]
theorem lkR_place (n : ByteArray) : ∀ (l : List (Fl × Value)), lkR l n = (l[placeOf l n]?).map fun p => p.1.bs
  | [] => rfl
  | p :: l => by
    rw [lkR_cons, place_cons]
    by_cases h : p.1.name = n
    · simp [h]
    · rw [if_neg h, if_neg h, List.getElem?_cons_succ]
      exact lkR_place n l
theorem place_name (n : ByteArray) : ∀ (l : List (Fl × Value)) (h : placeOf l n < l.length), l[placeOf l n].1.name = n
  | [], h => by simp at h
  | p :: l, h => by
    by_cases e : p.1.name = n
    · have e2 : placeOf (p :: l) n = 0 := by rw [place_cons, if_pos e]
      simp only [e2, List.getElem_cons_zero]
      exact e
    · have e2 : placeOf (p :: l) n = placeOf l n + 1 := by rw [place_cons, if_neg e]
      have h2 : placeOf l n < l.length := by rw [e2] at h; simpa using h
      simp only [e2, List.getElem_cons_succ]
      exact place_name n l h2
theorem place_some {l : List (Fl × Value)} {n : ByteArray} {bs : List BB} (h : lkR l n = some bs) : ∃ (hp : placeOf l n < l.length), l[placeOf l n].1.bs = bs := by
  rw [lkR_place] at h
  obtain ⟨p, hp, e⟩ := Option.map_eq_some_iff.1 h
  obtain ⟨h1, h2⟩ := List.getElem?_eq_some_iff.1 hp
  exact ⟨h1, by rw [h2]; exact e⟩
theorem place_none {l : List (Fl × Value)} {n : ByteArray} (h : lkR l n = none) : ¬ placeOf l n < l.length := by
  rw [lkR_place, Option.map_eq_none_iff, List.getElem?_eq_none_iff] at h
  omega
def SortedN (l : List (Fl × Value)) : Prop := l.Pairwise fun p q => ltN p.1.name q.1.name = true
theorem lkR_far {n : ByteArray} : ∀ (l : List (Fl × Value)), (∀ p ∈ l, p.1.name ≠ n) → lkR l n = none
  | [], _ => rfl
  | p :: l, h => by
    rw [lkR_cons, if_neg (h p (by simp))]
    exact lkR_far l (fun q hq => h q (by simp [hq]))
theorem lkR_mem : ∀ {l : List (Fl × Value)}, SortedN l → ∀ p ∈ l, lkR l p.1.name = some p.1.bs
  | [], _, p, hp => by simp at hp
  | q :: l, hs, p, hp => by
    unfold SortedN at hs
    rw [List.pairwise_cons] at hs
    rw [lkR_cons]
    rcases List.mem_cons.1 hp with rfl | hp
    · rw [if_pos rfl]
    · rw [if_neg (fun e => by
        have := hs.1 p hp
        rw [e, ltN_irr] at this
        cases this)]
      exact lkR_mem hs.2 p hp
theorem lkR_name {n : ByteArray} : ∀ {l : List (Fl × Value)}, lkR l n ≠ none → ∃ p ∈ l, p.1.name = n
  | [], h => absurd rfl h
  | q :: l, h => by
    rw [lkR_cons] at h
    by_cases e : q.1.name = n
    · exact ⟨q, by simp, e⟩
    · rw [if_neg e] at h
      obtain ⟨p, hp, e2⟩ := lkR_name h
      exact ⟨p, by simp [hp], e2⟩
/-- A file's bytes are others. -/
theorem lkR_set (n : ByteArray) (bs : List BB) (u : Value) (m : ByteArray) : ∀ (l : List (Fl × Value)), placeOf l n < l.length → lkR (l.set (placeOf l n) (⟨n, bs⟩, u)) m = if m = n then some bs else lkR l m
  | [], h => by simp at h
  | p :: l, h => by
    by_cases e : p.1.name = n
    · rw [place_cons, if_pos e, List.set_cons_zero, lkR_cons, lkR_cons]
      by_cases e2 : m = n
      · simp [e2]
      · rw [if_neg (fun e3 => e2 e3.symm), if_neg e2, if_neg (fun e3 => e2 (by rw [← e3, e]))]
    · have h2 : placeOf l n < l.length := by rw [place_cons, if_neg e] at h; simpa using h
      rw [place_cons, if_neg e, List.set_cons_succ, lkR_cons, lkR_cons, lkR_set n bs u m l h2]
      by_cases e2 : m = n
      · rw [if_pos e2, if_pos e2, if_neg (by rw [e2]; exact e)]
      · rw [if_neg e2, if_neg e2]
theorem rm_cons (p : Fl × Value) (l : List (Fl × Value)) (n : ByteArray) : rm (p :: l) n = if p.1.name = n then l else p :: rm l n := by
  unfold rm
  rw [place_cons]
  by_cases e : p.1.name = n
  · rw [if_pos e, if_pos e, if_pos (by simp)]
    rfl
  · rw [if_neg e, if_neg e]
    by_cases h : placeOf l n < l.length
    · rw [if_pos h, if_pos (by simpa using h)]
      rfl
    · rw [if_neg h, if_neg (by simpa using h)]
/-- A file is gone. -/
theorem lkR_rm (n m : ByteArray) : ∀ (l : List (Fl × Value)), SortedN l → lkR (rm l n) m = if m = n then none else lkR l m
  | [], _ => by
    have : rm [] n = [] := by unfold rm; simp
    rw [this, lkR_nil]
    simp
  | p :: l, hs => by
    unfold SortedN at hs
    rw [List.pairwise_cons] at hs
    rw [rm_cons, lkR_cons]
    by_cases e : p.1.name = n
    · rw [if_pos e]
      by_cases e2 : m = n
      · rw [if_pos e2, e2]
        refine lkR_far l (fun q hq e3 => ?_)
        have := hs.1 q hq
        rw [e3, e, ltN_irr] at this
        cases this
      · rw [if_neg e2, if_neg (fun e3 => e2 (by rw [← e3, e]))]
    · rw [if_neg e, lkR_cons, lkR_rm n m l hs.2]
      by_cases e2 : m = n
      · rw [if_pos e2, if_pos e2, if_neg (by rw [e2]; exact e)]
      · rw [if_neg e2, if_neg e2]
theorem ins_cons (p : Fl × Value) (l : List (Fl × Value)) (n : ByteArray) : insL (p :: l) n = if ltN p.1.name n = true then p :: insL l n else (⟨n, []⟩, .slice none 0 0) :: p :: l := by
  unfold insL insAt
  rw [List.takeWhile_cons]
  by_cases e : ltN p.1.name n = true
  · rw [if_pos e, if_pos e]
    rfl
  · rw [if_neg e, if_neg e]
    rfl
/-- A new file. -/
theorem lkR_ins (n m : ByteArray) : ∀ (l : List (Fl × Value)), lkR l n = none → lkR (insL l n) m = if m = n then some [] else lkR l m
  | [], _ => by
    have : insL [] n = [(⟨n, []⟩, .slice none 0 0)] := rfl
    rw [this, lkR_cons, lkR_nil]
    by_cases e : m = n
    · simp [e]
    · rw [if_neg e, if_neg (fun e2 => e e2.symm)]
  | p :: l, h => by
    rw [lkR_cons] at h
    have hpn : ¬ p.1.name = n := fun e => by rw [if_pos e] at h; cases h
    rw [if_neg hpn] at h
    rw [ins_cons]
    by_cases e : ltN p.1.name n = true
    · rw [if_pos e, lkR_cons, lkR_cons, lkR_ins n m l h]
      by_cases e2 : m = n
      · rw [if_pos e2, if_pos e2, if_neg (by rw [e2]; exact hpn)]
      · rw [if_neg e2, if_neg e2]
    · rw [if_neg e, lkR_cons]
      by_cases e2 : m = n
      · simp [e2]
      · rw [if_neg (fun e3 => e2 e3.symm), if_neg e2]
theorem ins_mem {l : List (Fl × Value)} {n : ByteArray} {q : Fl × Value} (h : q ∈ insL l n) : q ∈ l ∨ q.1.name = n := by
  rcases mem_ins h with h | h
  · exact Or.inl h
  · exact Or.inr (by rw [h])
theorem sorted_ins (n : ByteArray) : ∀ (l : List (Fl × Value)), SortedN l → lkR l n = none → SortedN (insL l n)
  | [], _, _ => by
    have : insL [] n = [(⟨n, []⟩, .slice none 0 0)] := rfl
    rw [this]
    exact List.pairwise_singleton _ _
  | p :: l, hs, h => by
    have hs0 := hs
    unfold SortedN at hs
    rw [List.pairwise_cons] at hs
    rw [lkR_cons] at h
    have hpn : ¬ p.1.name = n := fun e => by rw [if_pos e] at h; cases h
    rw [if_neg hpn] at h
    rw [ins_cons]
    by_cases e : ltN p.1.name n = true
    · rw [if_pos e]
      refine List.pairwise_cons.2 ⟨fun q hq => ?_, sorted_ins n l hs.2 h⟩
      rcases ins_mem hq with hq | hq
      · exact hs.1 q hq
      · rw [hq]
        exact e
    · rw [if_neg e]
      have h1 : ltN n p.1.name = true := ltN_tri (by simpa using e) hpn
      refine List.pairwise_cons.2 ⟨fun q hq => ?_, hs0⟩
      rcases List.mem_cons.1 hq with rfl | hq
      · exact h1
      · exact ltN_tr h1 (hs.1 q hq)
theorem sorted_names {l l' : List (Fl × Value)} (h : l'.map (·.1.name) = l.map (·.1.name)) (hs : SortedN l) : SortedN l' := by
  unfold SortedN at *
  have e : ∀ l : List (Fl × Value), l.Pairwise (fun p q => ltN p.1.name q.1.name = true) ↔ (l.map (·.1.name)).Pairwise (fun a b => ltN a b = true) := fun l => by rw [List.pairwise_map]
  rw [e] at hs ⊢
  rw [h]
  exact hs
theorem names_set {l : List (Fl × Value)} {j : Nat} (hj : j < l.length) (bs : List BB) (u : Value) : (l.set j (⟨l[j].1.name, bs⟩, u)).map (·.1.name) = l.map (·.1.name) := by
  rw [List.map_set]
  exact List.ext_getElem (by simp) (fun i h1 h2 => by
    rw [List.getElem_set]
    by_cases e : j = i
    · subst e
      simp
    · simp [e])
theorem lkR_zip {f : List BB → List BB} (n : ByteArray) : ∀ (l l' : List (Fl × Value)), l'.map (·.1.name) = l.map (·.1.name) → bsO l' = (bsO l).map f → lkR l' n = (lkR l n).map f
  | [], [], _, _ => rfl
  | [], q :: l', h, _ => by simp at h
  | p :: l, [], h, _ => by simp at h
  | p :: l, q :: l', h, k => by
    rw [List.map_cons, List.map_cons, List.cons.injEq] at h
    unfold bsO at k
    rw [List.map_cons, List.map_cons, List.map_cons, List.cons.injEq] at k
    rw [lkR_cons, lkR_cons, h.1]
    by_cases e : p.1.name = n
    · rw [if_pos e, if_pos e, k.1]
      rfl
    · rw [if_neg e, if_neg e]
      exact lkR_zip n l l' h.2 k.2
end Go.Proofs.YtkdglkaeglhibaaGreatDoor
