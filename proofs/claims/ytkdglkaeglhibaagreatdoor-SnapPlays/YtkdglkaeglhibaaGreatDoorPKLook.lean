/-
  A disk's files looked up by their names, as plain data: behind an append, a removal, a sync, a renaming. No condition.
-/
import Derived.Test.YtkdglkaeglhibaaGreatDoorPKAbs
namespace Go.Proofs.YtkdglkaeglhibaaGreatDoor
open Go.RowKit

theorem lk_cons (f : CF) (l : List CF) (n : ByteArray) : lk (f :: l) n = if f.name = n then some f else lk l n := by
  unfold lk
  rw [List.find?_cons]
  by_cases h : f.name = n
  · simp [h]
  · simp [h]
theorem lk_map {g : CF → CF} (n : ByteArray) : ∀ (A : List CF), (∀ f ∈ A, (g f).name = f.name) → lk (A.map g) n = (lk A n).map g
  | [], _ => rfl
  | f :: A, h => by
    rw [List.map_cons, lk_cons, lk_cons, h f (by simp), lk_map n A (fun x hx => h x (by simp [hx]))]
    by_cases e : f.name = n
    · rw [if_pos e, if_pos e]
      rfl
    · rw [if_neg e, if_neg e]
theorem lk_snoc (f : CF) (n : ByteArray) : ∀ (A : List CF), lk A f.name = none → lk (A ++ [f]) n = if n = f.name then some f else lk A n
  | [], _ => by
    rw [List.nil_append, lk_cons]
    by_cases e : f.name = n
    · rw [if_pos e, if_pos e.symm]
    · rw [if_neg e, if_neg (fun e2 => e e2.symm)]
  | g :: A, h => by
    rw [lk_cons] at h
    have hg : ¬ g.name = f.name := fun e => by rw [if_pos e] at h; cases h
    rw [if_neg hg] at h
    rw [List.cons_append, lk_cons, lk_cons, lk_snoc f n A h]
    by_cases e : n = f.name
    · rw [if_pos e, if_pos e, if_neg (by rw [e]; exact hg)]
    · rw [if_neg e, if_neg e]
theorem lk_delF (n m : ByteArray) : ∀ (A : List CF), lk (delF A n) m = if m = n then none else lk A m
  | [] => by
    show none = _
    by_cases e : m = n
    · rw [if_pos e]
    · rw [if_neg e]
      rfl
  | f :: A => by
    have ih := lk_delF n m A
    unfold delF at ih ⊢
    rw [List.filter_cons, lk_cons]
    by_cases e : f.name = n
    · rw [if_neg (by simp [e]), ih]
      by_cases e2 : m = n
      · rw [if_pos e2, if_pos e2]
      · rw [if_neg e2, if_neg e2, if_neg (fun e3 => e2 (by rw [← e3, e]))]
    · rw [if_pos (by simp [e]), lk_cons, ih]
      by_cases e2 : m = n
      · rw [if_pos e2, if_pos e2, if_neg (by rw [e2]; exact e)]
      · rw [if_neg e2, if_neg e2]
theorem lk_setF {A : List CF} (hc : (A.map (·.c)).Nodup) {f f' : CF} {n : ByteArray} (hf : lk A n = some f) (h1 : f'.name = f.name) (h2 : f'.c = f.c) (m : ByteArray) : lk (setF A f') m = if m = n then some f' else lk A m := by
  obtain ⟨hm, hn⟩ := lk_mem hf
  unfold setF
  rw [lk_map m A (fun g hg => ?_)]
  · by_cases e : m = n
    · rw [if_pos e, e, hf, Option.map_some, if_pos h2.symm]
    · rw [if_neg e]
      cases hk : lk A m with
      | none => rfl
      | some g =>
        obtain ⟨g1, g2⟩ := lk_mem hk
        rw [Option.map_some, if_neg (fun e2 => e (by rw [← g2, nodup_at hc hm g1 (e2.trans h2), hn]))]
  · by_cases e : g.c = f'.c
    · rw [if_pos e, nodup_at hc hm hg (e.trans h2), h1]
    · rw [if_neg e]
theorem lk_renF (A : List CF) (f : CF) (n m : ByteArray) : lk (renF A f n) m = if m = n then some (nameF f n) else lk A m := by
  unfold renF
  by_cases h : lk A n = none
  · rw [if_pos h, lk_snoc (nameF f n) m A h]
    rfl
  · rw [if_neg h, lk_map m A (fun g _ => by
      by_cases e : g.name = n
      · rw [if_pos e]
        exact e.symm
      · rw [if_neg e])]
    by_cases e : m = n
    · rw [if_pos e, e]
      obtain ⟨g, hg⟩ := Option.ne_none_iff_exists'.1 h
      rw [hg, Option.map_some, if_pos (lk_mem hg).2]
    · rw [if_neg e]
      cases hk : lk A m with
      | none => rfl
      | some g => rw [Option.map_some, if_neg (fun e2 => e (by rw [← (lk_mem hk).2, e2]))]
end Go.Proofs.YtkdglkaeglhibaaGreatDoor
