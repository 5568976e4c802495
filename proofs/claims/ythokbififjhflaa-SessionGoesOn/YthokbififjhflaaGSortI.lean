/-
  A row of numbers of one's own, sorted by the library; how many are left of a map that is gone over: for any program. The condition: fewer than 2^40 numbers.
-/
import Derived.Test.YthokbififjhflaaSI
import Derived.Test.YthokbififjhflaaGInts
import Derived.Test.YthokbififjhflaaGMapR
import Derived.Sort.Grow
namespace Go.Proofs.Ythokbififjhflaa
open Go.RowKit Go.Sort
open Go.MapKept

def leZ (x y : Int) : Bool := decide (x ≤ y)
theorem holds_ints {w : World} {g : Nat} {cur : Array Value} {e : TypeId} {zs : List Int} (hb : w.heap[g]? = some (.cells cur e (0, 0))) (ht : cur.toList.take zs.length = zs.map (Value.int .i64)) : Holds (Value.int .i64) w g 0 zs.toArray := by
  intro j hj
  have hj' : j < zs.length := by simpa using hj
  refine ⟨?_, by simp [World.frozen?, hb]⟩
  have h1 : (cur.toList.take zs.length)[j]? = (zs.map (Value.int .i64))[j]? := by rw [ht]
  rw [List.getElem?_take_of_lt hj'] at h1
  simp only [World.cell?, hb, Nat.zero_add]
  simp only [Option.isSome_none, Bool.false_eq_true, if_false]
  rw [← Array.getElem?_toList, h1]
  simp [hj']
theorem take_putInts (cur : Array Value) (ts : List Int) (h : ts.length ≤ cur.size) : (putCells (Value.int .i64) 0 ts.toArray cur).toList.take ts.length = ts.map (Value.int .i64) := by
  apply List.ext_getElem?
  intro j
  by_cases hj : j < ts.length
  · rw [List.getElem?_take_of_lt hj, Array.getElem?_toList]
    simp [putCells, hj, show j < cur.size by omega]
  · rw [List.getElem?_take_eq_none (by omega), List.getElem?_eq_none (by simp; omega)]
theorem sort_ints (w : World) (base : Nat) (v : Value) (zs : List Int) (hown : w.ownsRow base 3 1 v zs.length (intL zs)) (hl : zs.length ≤ 1000000000000) :
    Calls Try.prog 30 #[v] w fun e w' => e = .returned (.tuple #[]) ∧ w'.ownsRow base 3 1 v zs.length (intL (zs.mergeSort leZ)) ∧ w.grownBy w' v.ownBlock := by
  have e3 : (zs.mergeSort leZ).length = zs.length := by simp
  rcases hown.2 with ⟨rfl, h0⟩ | ⟨g, cap, cur, rfl, hbg, hb, h1, h2, h3, htk⟩
  · have e : zs = [] := List.eq_nil_of_length_eq_zero h0
    subst e
    refine (AnyM.slices_Sort_int_none Try.sortA none 0 w).mono fun e w' ⟨h1, h2⟩ => ⟨h1, ?_, by rw [h2]; exact ⟨rfl, rfl, rfl, Nat.le_refl _, fun _ _ _ => rfl⟩⟩
    rw [h2]
    simpa using hown
  · have hH := holds_ints (zs := zs) hb (by simpa [intL] using htk)
    have hg := lt_of_block hb
    refine Calls.mono (AnyM.slices_Sort_int Try.sortA g 0 cap zs w hH hg (by omega)) ?_
    rintro e w' ⟨h4, n, os, rfl⟩
    have hb' : (grow (putRow (Value.int .i64) (Sort.ahead w n) g 0 (zs.mergeSort leZ).toArray) os).heap[g]? = some (.cells (putCells (Value.int .i64) 0 (zs.mergeSort leZ).toArray cur) 3 (0, 0)) := by
      rw [heap_grow_old _ _ (by simpa using hg)]
      simp [putRow, mapBlock, Sort.ahead, Array.getElem?_modify, hb, onCells]
    refine ⟨h4, ⟨by rw [intL_length, e3]; omega, Or.inr ⟨g, cap, _, rfl, hbg, hb', h1, h2, by simp [putCells, h3], ?_⟩⟩, ⟨rfl, rfl, rfl, by simp, fun k hk hne => ?_⟩⟩
    · have := take_putInts cur (zs.mergeSort leZ) (by rw [e3, h3]; omega)
      rw [Nat.mul_one]
      rw [e3] at this
      exact this
    · rw [heap_grow_old _ _ (by simpa using hk)]
      have : g ≠ k := fun e => hne (by rw [← e]; rfl)
      simp [putRow, mapBlock, Sort.ahead, Array.getElem?_modify, this]
/-- A rising row is the sorting of any of its orders. -/
theorem sorted_rise {l L : List Int} (hp : l.Perm L) (hs : L.Pairwise (· < ·)) : l.mergeSort leZ = L := by
  have hp2 : (l.mergeSort leZ).Perm L := (List.mergeSort_perm l leZ).trans hp
  refine List.Perm.eq_of_pairwise (le := fun a b : Int => a ≤ b) (fun a b _ _ h1 h2 => Int.le_antisymm h1 h2) ?_ (hs.imp fun h => Int.le_of_lt h) hp2
  have := List.pairwise_mergeSort (le := leZ) (fun a b c h1 h2 => by simp only [leZ, decide_eq_true_eq] at *; omega) (fun a b => by simp only [leZ, Bool.or_eq_true, decide_eq_true_eq]; omega) l
  exact this.imp fun h => by simpa [leZ] using h
section
variable {κ α : Type} {m : MapOf κ α} {w : World} {M r : Nat} {l left : List (κ × α)}
/-- How many are still to come. -/
noncomputable def MapOf.leftN (m : MapOf κ α) (M r : Nat) (w : World) : Nat := open Classical in if h : ∃ x : List (κ × α) × List (κ × α), m.Ranging w M r x.1 x.2 then (Classical.choose h).2.length else 0
theorem MapOf.leftN_eq (h : m.Ranging w M r l left) : m.leftN M r w = left.length := by
  have hex : ∃ x : List (κ × α) × List (κ × α), m.Ranging w M r x.1 x.2 := ⟨(l, left), h⟩
  unfold MapOf.leftN
  rw [dif_pos hex]
  obtain ⟨es, clock, since, seen, c0, a1, _, a3, _, _, _, a7⟩ := (Classical.choose_spec hex).ex
  obtain ⟨es', clock', since', seen', c0', b1, _, b3, _, _, _, b7⟩ := h.ex
  rw [a1] at b1
  rw [a3] at b3
  simp only [Option.some.injEq, Obj.map.injEq, Obj.mapIter.injEq] at b1 b3
  obtain ⟨rfl, _⟩ := b1
  obtain ⟨_, _, rfl, _⟩ := b3
  have e1 := congrArg List.length a7
  have e2 := congrArg List.length b7
  rw [List.length_map, List.length_map] at e1 e2
  omega
end
end Go.Proofs.Ythokbififjhflaa
