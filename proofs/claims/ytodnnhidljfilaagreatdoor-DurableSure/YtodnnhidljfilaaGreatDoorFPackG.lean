/-
  Parts of the proof, laid together: DkMem, KMap, DkMake, KMem. The conditions stand at each part.
-/
import Derived.WalkKit
import Derived.WalkSpells
import Derived.Lib.SmallJoins
import Derived.Deep.AppendLies
import Derived.Below
import Derived.Handy
import Derived.Maps.RangeWalk
import Derived.Laws.AppendOwnNone
import Derived.Deep.MidRow
import Derived.Lib.BufferWrite
import Derived.Test.YtodnnhidljfilaaGreatDoorFPackA
/-
  The document's disk (package latchkeyref05) in memory: files, their bytes; where a file stands; which names may be. The condition: there are no more files than a slice may hold.
-/
namespace Go.Proofs.YtodnnhidljfilaaGreatDoor
open Go.RowKit

/-- Which names may be. -/
def nameB (s : ByteArray) : Bool := decide (1 ≤ s.size) && decide (s.size ≤ 64)
end Go.Proofs.YtodnnhidljfilaaGreatDoor
/-
  A map from names to places in memory, entry by entry: looked into, written, struck from, gone over in whatever order. The condition: a name that is looked for has no more bytes than a string may.
-/
namespace Go.Proofs.YtodnnhidljfilaaGreatDoor
open Go.RowKit Go.MapKept
open Go.ChangeMaps (setBlock heap_setBlock_same heap_setBlock_other modify_eq_set)
open Go.Maps (Keyed)

theorem keyK : Keyed Tryz.prog 9 := Maps.string_keyed Tryz.underlying9
theorem keyK_of {n : ByteArray} (h : n.size ≤ maxLen) : keyOf Tryz.prog 9 (.string n) = some (.string n.data.toList) := by
  simp [keyOf, Tryz.underlying9, mapKey, h]
/-- A place in memory; an entry's key and element. -/
def ptr (c : Nat) : Value := .pointer (some ⟨c, 0, none⟩)
def kvL (p : ByteArray × Nat) : Value × Value := (.string p.1, ptr p.2)
def kvE (x : MapEntry) : Value × Value := (x.key, x.val)
theorem kvL_inj {p q : ByteArray × Nat} (h : kvL p = kvL q) : p = q := by
  obtain ⟨a, b⟩ := p
  obtain ⟨c, d⟩ := q
  simp only [kvL, ptr, Prod.mk.injEq, Value.string.injEq, Value.pointer.injEq, Option.some.injEq, Addr.mk.injEq] at h
  obtain ⟨rfl, rfl, _⟩ := h
  rfl

/-- These entries are these names and places. -/
structure MapIs (es : Array MapEntry) (clock : Nat) (l : List (ByteArray × Nat)) : Prop where
  st : Stamped es clock
  kv : es.toList.map kvE = l.map kvL
  sz : ∀ p ∈ l, p.1.size ≤ 64
theorem MapIs.len {es : Array MapEntry} {clock : Nat} {l : List (ByteArray × Nat)} (h : MapIs es clock l) : es.size = l.length := by
  have := congrArg List.length h.kv
  simpa using this
theorem MapIs.names {es : Array MapEntry} {clock : Nat} {l : List (ByteArray × Nat)} (h : MapIs es clock l) : es.toList.map (·.key) = l.map (fun p => Value.string p.1) := by
  have := congrArg (List.map Prod.fst) h.kv
  rw [List.map_map, List.map_map] at this
  exact this
theorem MapIs.nodup {es : Array MapEntry} {clock : Nat} {l : List (ByteArray × Nat)} (h : MapIs es clock l) : (l.map (·.1)).Nodup := by
  have h2 := h.st.2.2
  rw [h.names] at h2
  have e : l.map (fun p => Value.string p.1) = (l.map (·.1)).map Value.string := by rw [List.map_map]; rfl
  rw [e] at h2
  exact List.Pairwise.of_map Value.string (fun a b hab e => hab (by rw [e])) h2
theorem MapIs.keys {es : Array MapEntry} {clock : Nat} {l : List (ByteArray × Nat)} (h : MapIs es clock l) : ∀ x ∈ es.toList, ∃ k, keyOf Tryz.prog 9 x.key = some k := by
  intro x hx
  have hm : x.key ∈ es.toList.map (·.key) := List.mem_map.2 ⟨x, hx, rfl⟩
  rw [h.names] at hm
  obtain ⟨p, hp, e⟩ := List.mem_map.1 hm
  exact ⟨_, by rw [← e]; exact keyK_of (Nat.le_trans (h.sz p hp) (by unfold maxLen; decide))⟩
/-- An entry at its place. -/
theorem MapIs.at {es : Array MapEntry} {clock : Nat} {l : List (ByteArray × Nat)} (h : MapIs es clock l) {j : Nat} {x : MapEntry} (hx : es.toList[j]? = some x) : ∃ p, l[j]? = some p ∧ x.key = .string p.1 ∧ x.val = ptr p.2 := by
  have h1 : (es.toList.map kvE)[j]? = some (kvE x) := by rw [List.getElem?_map, hx]; rfl
  rw [h.kv, List.getElem?_map] at h1
  cases hp : l[j]? with
  | none => rw [hp] at h1; simp at h1
  | some p =>
    rw [hp] at h1
    simp only [Option.map_some, Option.some.injEq] at h1
    have h2 : kvL p = kvE x := h1
    simp only [kvL, kvE, Prod.mk.injEq] at h2
    exact ⟨p, rfl, h2.1.symm, h2.2.symm⟩

/-- What stands at a name. -/
def lookF (l : List (ByteArray × Nat)) (n : ByteArray) : Option Nat := (l.find? fun p => decide (p.1 = n)).map (·.2)
def ptrO : Option Nat → Value
  | none => .pointer none
  | some c => ptr c
theorem lookF_none {l : List (ByteArray × Nat)} {n : ByteArray} (h : ∀ p ∈ l, p.1 ≠ n) : lookF l n = none := by
  unfold lookF
  rw [List.find?_eq_none.2 (fun p hp => by simpa using h p hp)]
  rfl
theorem lookF_some {l : List (ByteArray × Nat)} {n : ByteArray} {c : Nat} (hn : (l.map (·.1)).Nodup) (h : (n, c) ∈ l) : lookF l n = some c := by
  unfold lookF
  induction l with
  | nil => simp at h
  | cons p l ih =>
    rw [List.map_cons, List.nodup_cons] at hn
    rcases List.mem_cons.1 h with rfl | h
    · simp
    · have hne : p.1 ≠ n := fun e => hn.1 (by rw [e]; exact List.mem_map.2 ⟨_, h, rfl⟩)
      rw [List.find?_cons]
      simp only [hne, decide_false]
      exact ih hn.2 h
/-- The map in block M. -/
def MapAt (w : World) (M : Nat) (l : List (ByteArray × Nat)) : Prop := ∃ es clock, w.heap[M]? = some (.map es clock) ∧ MapIs es clock l
theorem MapAt.nodup {w : World} {M : Nat} {l : List (ByteArray × Nat)} (h : MapAt w M l) : (l.map (·.1)).Nodup := by
  obtain ⟨es, clock, _, hm⟩ := h
  exact hm.nodup
theorem MapAt.kept {w w' : World} {M : Nat} {l : List (ByteArray × Nat)} (h : MapAt w M l) (he : w'.heap[M]? = w.heap[M]?) : MapAt w' M l := by
  obtain ⟨es, clock, hb, hm⟩ := h
  exact ⟨es, clock, he.trans hb, hm⟩

theorem zeroP (w : World) : (zeroValue 98).run Tryz.prog w = .ok (.pointer none) w := by kernel_rfl
theorem look_map {w : World} {M : Nat} {l : List (ByteArray × Nat)} (h : MapAt w M l) {n : ByteArray} (hn : n.size ≤ maxLen) :
    (Instr.lookup 78 (.map (some M)) (.string n) false).run Tryz.prog w = .ok (ptrO (lookF l n)) w := by
  obtain ⟨es, clock, hb, hm⟩ := h
  have hkey := keyK_of hn
  rcases keyK.find w hkey es.toList hm.keys with ⟨h1, h2⟩ | ⟨j, e0, h1, h2, h3⟩
  · have e : lookF l n = none := lookF_none (fun p hp e => by
      have hk : (Value.string p.1) ∈ es.toList.map (·.key) := by rw [hm.names]; exact List.mem_map.2 ⟨p, hp, rfl⟩
      obtain ⟨x, hx, ex⟩ := List.mem_map.1 hk
      exact h2 x hx (by rw [ex, e]))
    rw [e]
    simp [Instr.lookup, run_underlying Tryz.underlying78, MapKept.run_getObj_map hb, keyK.check w _ hkey, h1, zeroP w, Result.andThen, ptrO]
  · obtain ⟨p, hp, e1, e2⟩ := hm.at h2
    have e : lookF l n = some p.2 := lookF_some hm.nodup (by
      rw [h3] at e1
      simp only [Value.string.injEq] at e1
      rw [e1]
      exact List.mem_of_getElem? hp)
    rw [e]
    simp [Instr.lookup, run_underlying Tryz.underlying78, MapKept.run_getObj_map hb, keyK.check w _ hkey, h1, Result.andThen, ptrO, e2]
theorem look_nil (w : World) {n : ByteArray} (hn : n.size ≤ maxLen) :
    (Instr.lookup 78 (.map none) (.string n) false).run Tryz.prog w = .ok (.pointer none) w := by
  have hkey := keyK_of hn
  rcases keyK.find w hkey [] (fun x hx => by simp at hx) with ⟨h1, _⟩ | ⟨j, e0, _, h2, _⟩
  · simp [Instr.lookup, run_underlying Tryz.underlying78, keyK.check w _ hkey, h1, zeroP w, Result.andThen]
  · simp at h2

/-- A name is given a place. -/
def putK (l : List (ByteArray × Nat)) (n : ByteArray) (c : Nat) : List (ByteArray × Nat) :=
  if lookF l n = none then l ++ [(n, c)] else l.map fun p => if p.1 = n then (n, c) else p
theorem upd_map {w : World} {M : Nat} {l : List (ByteArray × Nat)} (h : MapAt w M l) {n : ByteArray} (hn : n.size ≤ 64) (c : Nat) :
    ∃ w', (Instr.mapUpdate 78 (.map (some M)) (.string n) (ptr c)).run Tryz.prog w = .ok () w' ∧ MapAt w' M (putK l n c) ∧ w.grownBy w' (some M) ∧ w'.heap.size = w.heap.size := by
  obtain ⟨es, clock, hb, hm⟩ := h
  have hkey := keyK_of (n := n) (Nat.le_trans hn (by unfold maxLen; decide))
  have gr : ∀ o, w.grownBy (setBlock w M o) (some M) := fun o => ⟨rfl, rfl, rfl, by simp [setBlock], fun i _ hi => heap_setBlock_other hb _ (fun e => hi (by rw [e]))⟩
  rcases keyK.find w hkey es.toList hm.keys with ⟨h1, h2⟩ | ⟨j, e0, h1, h2, h3⟩
  · have e : lookF l n = none := lookF_none (fun p hp e => by
      have hk : (Value.string p.1) ∈ es.toList.map (·.key) := by rw [hm.names]; exact List.mem_map.2 ⟨p, hp, rfl⟩
      obtain ⟨x, hx, ex⟩ := List.mem_map.1 hk
      exact h2 x hx (by rw [ex, e]))
    refine ⟨setBlock w M (.map (es.push ⟨.string n, ptr c, clock⟩) (clock + 1)), ?_, ⟨_, _, heap_setBlock_same hb _, stamped_push hm.st h2, ?_, ?_⟩, gr _, by simp [setBlock]⟩
    · simp [Instr.mapUpdate, run_underlying Tryz.underlying78, MapKept.run_getObj_map hb, keyK.check w false hkey, h1, MapKept.run_setObj_map _ hb, Result.andThen, setBlock]
    · unfold putK
      rw [if_pos e, Array.toList_push, List.map_append, List.map_append, hm.kv]
      rfl
    · unfold putK
      rw [if_pos e]
      intro p hp
      rw [List.mem_append, List.mem_singleton] at hp
      rcases hp with hp | rfl
      · exact hm.sz p hp
      · exact hn
  · obtain ⟨p, hp, e1, e2⟩ := hm.at h2
    rw [h3] at e1
    simp only [Value.string.injEq] at e1
    have e : lookF l n = some p.2 := lookF_some hm.nodup (by rw [e1]; exact List.mem_of_getElem? hp)
    have hj : es[j]? = some e0 := by simpa using h2
    have hjl : j < l.length := (List.getElem?_eq_some_iff.1 hp).1
    have hpj : l[j] = p := (List.getElem?_eq_some_iff.1 hp).2
    have hlist : (es.modify j (fun e' => { e' with key := .string n, val := ptr c })).toList = es.toList.set j { e0 with key := .string n, val := ptr c } := by rw [Array.toList_modify, modify_eq_set _ _ _ _ h2]
    refine ⟨setBlock w M (.map (es.modify j (fun e' => { e' with key := .string n, val := ptr c })) clock), ?_, ⟨_, _, heap_setBlock_same hb _, stamped_modify hm.st _ _ (fun _ _ => rfl) (fun e' _ he' => by rw [hj] at he'; cases he'; exact h3.symm), ?_, ?_⟩, gr _, by simp [setBlock]⟩
    · simp [Instr.mapUpdate, run_underlying Tryz.underlying78, MapKept.run_getObj_map hb, keyK.check w false hkey, h1, hj, h3, keyK.stays w hkey, MapKept.run_setObj_map _ hb, Result.andThen, setBlock]
    · unfold putK
      rw [if_neg (by rw [e]; simp), hlist, List.map_set, hm.kv]
      apply List.ext_getElem
      · simp
      · intro i h4 h5
        rw [List.getElem_set]
        simp only [List.getElem_map]
        have hil : i < l.length := by simpa using h5
        by_cases hij : j = i
        · subst hij
          rw [if_pos rfl, if_pos (by rw [hpj]; exact e1.symm)]
          rfl
        · rw [if_neg hij]
          have hne : ¬ l[i].1 = n := fun e' => by
            have hnd := List.pairwise_iff_getElem.1 hm.nodup
            have hab : (l.map (·.1))[j]'(by simpa using hjl) = (l.map (·.1))[i]'(by simpa using hil) := by
              rw [List.getElem_map, List.getElem_map, hpj, ← e1, e']
            rcases Nat.lt_or_gt_of_ne hij with h | h
            · exact hnd j i (by simpa using hjl) (by simpa using hil) h hab
            · exact hnd i j (by simpa using hil) (by simpa using hjl) h hab.symm
          rw [if_neg hne]
    · unfold putK
      rw [if_neg (by rw [e]; simp)]
      intro q hq
      obtain ⟨r, hr, rfl⟩ := List.mem_map.1 hq
      by_cases hrn : r.1 = n
      · rw [if_pos hrn]
        exact hn
      · rw [if_neg hrn]
        exact hm.sz r hr
theorem eraseIdx_filter {n : ByteArray} : ∀ (l : List (ByteArray × Nat)) (j : Nat) (p : ByteArray × Nat), (l.map (·.1)).Nodup → l[j]? = some p → p.1 = n → l.eraseIdx j = l.filter fun p => !decide (p.1 = n)
  | [], _, _, _, h, _ => by simp at h
  | a :: l, 0, p, hn, h, e => by
    simp only [List.getElem?_cons_zero, Option.some.injEq] at h
    subst h
    rw [List.map_cons, List.nodup_cons] at hn
    rw [List.eraseIdx_cons_zero, List.filter_cons, if_neg (by simp [e])]
    refine (List.filter_eq_self.2 fun q hq => ?_).symm
    simp only [Bool.not_eq_true', decide_eq_false_iff_not]
    exact fun e' => hn.1 (by rw [e, ← e']; exact List.mem_map.2 ⟨q, hq, rfl⟩)
  | a :: l, j + 1, p, hn, h, e => by
    rw [List.map_cons, List.nodup_cons] at hn
    rw [List.getElem?_cons_succ] at h
    have ha : ¬ a.1 = n := fun e' => hn.1 (by rw [e', ← e]; exact List.mem_map.2 ⟨p, List.mem_of_getElem? h, rfl⟩)
    rw [List.eraseIdx_cons_succ, List.filter_cons, if_pos (by simp [ha]), eraseIdx_filter l j p hn.2 h e]
theorem del_map {w : World} {M : Nat} {l : List (ByteArray × Nat)} (h : MapAt w M l) {n : ByteArray} (hn : n.size ≤ maxLen) (ty : TypeId) :
    ∃ w', (Builtin.delete_ #[78, 9] ty #[.map (some M), .string n]).run Tryz.prog w = .ok (.tuple #[]) w' ∧ MapAt w' M (l.filter fun p => !decide (p.1 = n)) ∧ w.grownBy w' (some M) ∧ w'.heap.size = w.heap.size := by
  obtain ⟨es, clock, hb, hm⟩ := h
  have hkey := keyK_of hn
  have gr : ∀ o, w.grownBy (setBlock w M o) (some M) := fun o => ⟨rfl, rfl, rfl, by simp [setBlock], fun i _ hi => heap_setBlock_other hb _ (fun e => hi (by rw [e]))⟩
  rcases keyK.find w hkey es.toList hm.keys with ⟨h1, h2⟩ | ⟨j, e0, h1, h2, h3⟩
  · have e : l.filter (fun p => !decide (p.1 = n)) = l := List.filter_eq_self.2 (fun p hp => by
      simp only [Bool.not_eq_true', decide_eq_false_iff_not]
      intro e
      have hk : (Value.string p.1) ∈ es.toList.map (·.key) := by rw [hm.names]; exact List.mem_map.2 ⟨p, hp, rfl⟩
      obtain ⟨x, hx, ex⟩ := List.mem_map.1 hk
      exact h2 x hx (by rw [ex, e]))
    rw [e]
    refine ⟨setBlock w M (.map es clock), ?_, ⟨_, _, heap_setBlock_same hb _, hm⟩, gr _, by simp [setBlock]⟩
    simp [Builtin.delete_, run_underlying Tryz.underlying78, MapKept.run_getObj_map hb, keyK.check w _ hkey, h1, MapKept.run_setObj_map _ hb, Result.andThen, setBlock]
  · obtain ⟨p, hp, e1, e2⟩ := hm.at h2
    rw [h3] at e1
    simp only [Value.string.injEq] at e1
    have hjs : j < es.size := by have := (List.getElem?_eq_some_iff.1 h2).1; simpa using this
    have hsub : (es.eraseIdxIfInBounds j).toList = es.toList.eraseIdx j := by
      unfold Array.eraseIdxIfInBounds
      rw [dif_pos hjs]
      simp
    refine ⟨setBlock w M (.map (es.eraseIdxIfInBounds j) clock), ?_, ⟨_, _, heap_setBlock_same hb _, stamped_erase hm.st j, ?_, fun q hq => hm.sz q (List.mem_filter.1 hq).1⟩, gr _, by simp [setBlock]⟩
    · simp [Builtin.delete_, run_underlying Tryz.underlying78, MapKept.run_getObj_map hb, keyK.check w _ hkey, h1, MapKept.run_setObj_map _ hb, Result.andThen, setBlock]
    · rw [hsub, ← eraseIdx_filter l j p hm.nodup hp e1.symm, ChangeMaps.map_eraseIdx, ChangeMaps.map_eraseIdx, hm.kv]

theorem blk_same {w : World} {r : Nat} (h : r < w.heap.size) (o : Obj) : (setBlock w r o).heap[r]? = some o := by
  simp [setBlock, h]
theorem blk_other {w : World} {r b : Nat} (o : Obj) (h : b ≠ r) : (setBlock w r o).heap[b]? = w.heap[b]? := by
  simp only [setBlock]
  rw [Array.getElem?_setIfInBounds_ne (by omega)]
/-- A map gone over: these are still to come. -/
def Ranging (w : World) (mo : Option Nat) (r : Nat) (l left : List (ByteArray × Nat)) : Prop :=
  match mo with
  | none => left = [] ∧ l = [] ∧ ∃ a s b, w.heap[r]? = some (.mapIter none a s b)
  | some M => ∃ es clock since seen c0, w.heap[M]? = some (.map es clock) ∧ MapIs es clock l ∧ w.heap[r]? = some (.mapIter (some M) since seen c0) ∧ (∀ x ∈ es.toList, x.born < since) ∧ since ≤ c0 ∧ since ≤ clock ∧
      (leftOf es seen).toList.map kvE = left.map kvL
def mapO (w : World) (mo : Option Nat) (l : List (ByteArray × Nat)) : Prop :=
  match mo with
  | none => l = []
  | some M => MapAt w M l
theorem Ranging.kept {w w' : World} {mo : Option Nat} {r : Nat} {l left : List (ByteArray × Nat)} (h : Ranging w mo r l left) (h1 : ∀ M, mo = some M → w'.heap[M]? = w.heap[M]?) (h2 : w'.heap[r]? = w.heap[r]?) : Ranging w' mo r l left := by
  cases mo with
  | none =>
    obtain ⟨e, e0, a, s, b, hr⟩ := h
    exact ⟨e, e0, a, s, b, h2.trans hr⟩
  | some M =>
    obtain ⟨es, clock, since, seen, c0, hb, hm, hr, rest⟩ := h
    exact ⟨es, clock, since, seen, c0, (h1 M rfl).trans hb, hm, h2.trans hr, rest⟩
theorem Ranging.lt {w : World} {mo : Option Nat} {r : Nat} {l left : List (ByteArray × Nat)} (h : Ranging w mo r l left) : r < w.heap.size := by
  cases mo with
  | none =>
    obtain ⟨_, _, a, s, b, hr⟩ := h
    exact lt_of_block hr
  | some M =>
    obtain ⟨es, clock, since, seen, c0, hb, hm, hr, rest⟩ := h
    exact lt_of_block hr
theorem range_map {w : World} {mo : Option Nat} {l : List (ByteArray × Nat)} (h : mapO w mo l) :
    ∃ w', (Instr.range 78 (.map mo)).run Tryz.prog w = .ok (.pointer (some ⟨w.heap.size, 0, none⟩)) w' ∧ Ranging w' mo w.heap.size l l ∧ w.grownBy w' none ∧ w'.heap.size = w.heap.size + 1 := by
  cases mo with
  | none =>
    exact ⟨_, run_range_nilMap w _ _ _ Tryz.underlying78, ⟨h, h, _, _, _, (MapKept.heap_alloc w _).1⟩, World.grownBy_alloc w _ none, by simp⟩
  | some M =>
    obtain ⟨es, clock, hb, hm⟩ := h
    have hlt : M < w.heap.size := lt_of_block hb
    refine ⟨_, run_range_map w _ _ _ M es clock Tryz.underlying78 hb, ⟨es, clock, clock, #[], clock, ((MapKept.heap_alloc w _).2 M hlt).trans hb, hm, (MapKept.heap_alloc w _).1, hm.st.1, Nat.le_refl _, Nat.le_refl _, ?_⟩, World.grownBy_alloc w _ none, by simp⟩
    have e : leftOf es #[] = es := by
      unfold leftOf
      exact Array.filter_eq_self.2 (fun x _ => by simp)
    rw [e, hm.kv]
theorem leftOf_push {es : Array MapEntry} {seen : Array Nat} {x : MapEntry} : (leftOf es (seen.push x.born)).toList = (leftOf es seen).toList.filter fun e => !decide (e.born = x.born) := by
  unfold leftOf
  simp only [Array.toList_filter, List.filter_filter]
  refine List.filter_congr fun e _ => ?_
  by_cases h : e.born = x.born
  · simp [h]
  · simp [h]
theorem filter_split {x : MapEntry} : ∀ (L : List MapEntry), (L.map (·.born)).Nodup → x ∈ L → ∃ A B, L = A ++ x :: B ∧ L.filter (fun e => !decide (e.born = x.born)) = A ++ B
  | a :: L, hn, hx => by
    rw [List.map_cons, List.nodup_cons] at hn
    by_cases hax : a = x
    · subst hax
      refine ⟨[], L, rfl, ?_⟩
      rw [List.filter_cons, if_neg (by simp)]
      refine List.filter_eq_self.2 fun e he => ?_
      simp only [Bool.not_eq_true', decide_eq_false_iff_not]
      exact fun e' => hn.1 (by rw [← e']; exact List.mem_map.2 ⟨e, he, rfl⟩)
    · have hx' : x ∈ L := by
        rcases List.mem_cons.1 hx with e | h
        · exact absurd e.symm hax
        · exact h
      obtain ⟨A, B, e1, e2⟩ := filter_split L hn.2 hx'
      have hb : ¬ a.born = x.born := fun e' => hn.1 (by rw [e']; exact List.mem_map.2 ⟨x, hx', rfl⟩)
      exact ⟨a :: A, B, by rw [e1]; rfl, by rw [List.filter_cons, if_pos (by simp [hb]), e2]; rfl⟩
theorem next_map {w : World} {mo : Option Nat} {r : Nat} {l left : List (ByteArray × Nat)} (h : Ranging w mo r l left) (ty : TypeId) :
    (left = [] ∧ (Instr.next (.pointer (some ⟨r, 0, none⟩)) false ty).run Tryz.prog w = .ok (.tuple #[.bool false]) w) ∨
    ∃ n c A B w', left = A ++ (n, c) :: B ∧ (n, c) ∈ l ∧ (Instr.next (.pointer (some ⟨r, 0, none⟩)) false ty).run Tryz.prog w = .ok (.tuple #[.bool true, .string n, ptr c]) w' ∧ Ranging w' mo r l (A ++ B) ∧ w.grownBy w' (some r) ∧ w'.heap.size = w.heap.size ∧
      (Instr.entry (.pointer (some ⟨r, 0, none⟩))).run Tryz.prog w' = .ok (.tuple #[.string n, ptr c]) w' := by
  cases mo with
  | none =>
    obtain ⟨e, e0, a, s, b, hr⟩ := h
    refine Or.inl ⟨e, ?_⟩
    simp only [Instr.next, getObj, Sem.run_bind, Sem.run, hr, Result.andThen]
    rfl
  | some M =>
    obtain ⟨es, clock, since, seen, c0, hb, hm, hr, hold, hs1, hs2, hl⟩ := h
    rcases run_next_at (P := Tryz.prog) w ty r M since c0 seen es clock hr hb hold hs1 with ⟨h0, hrun⟩ | ⟨x, hx, w1, hal, hrun⟩
    · left
      refine ⟨?_, hrun⟩
      have := congrArg List.length hl
      simp only [List.length_map, Array.length_toList, h0] at this
      exact List.eq_nil_of_length_eq_zero this.symm
    · right
      have hxe : x ∈ es.toList := by
        unfold leftOf at hx
        simp at hx ⊢
        exact hx.1
      have hrM : r ≠ M := fun e => by rw [e, hb] at hr; cases hr
      have hsub : ((leftOf es seen).toList.map (·.born)).Nodup := by
        unfold leftOf
        rw [Array.toList_filter]
        exact List.Nodup.sublist (List.Sublist.map _ List.filter_sublist) hm.st.2.1
      obtain ⟨A, B, e1, e2⟩ := filter_split _ hsub hx
      have hl2 := hl
      rw [e1, List.map_append, List.map_cons] at hl2
      obtain ⟨A', R', eq1, eA, eR⟩ := List.map_eq_append_iff.1 hl2.symm
      obtain ⟨p, B', eq2, ep, eB⟩ := List.map_eq_cons_iff.1 eR
      obtain ⟨n, c⟩ := p
      have ekv : x.key = .string n ∧ x.val = ptr c := by
        have : kvL (n, c) = kvE x := ep
        simp only [kvL, kvE, Prod.mk.injEq] at this
        exact ⟨this.1.symm, this.2.symm⟩
      have hr1 : w1.heap[r]? = some (.mapIter (some M) since seen c0) := by rcases hal with rfl | rfl <;> exact hr
      have hM1 : w1.heap[M]? = some (.map es clock) := by rcases hal with rfl | rfl <;> exact hb
      have k1 : (setBlock w1 r (.mapIter (some M) since (seen.push x.born) clock)).heap[r]? = some (.mapIter (some M) since (seen.push x.born) clock) := blk_same (lt_of_block hr1) _
      have k2 : (setBlock w1 r (.mapIter (some M) since (seen.push x.born) clock)).heap[M]? = some (.map es clock) := (blk_other _ (fun e => hrM e.symm)).trans hM1
      refine ⟨n, c, A', B', setBlock w1 r (.mapIter (some M) since (seen.push x.born) clock), by rw [eq1, eq2], ?_, ?_, ⟨es, clock, since, seen.push x.born, clock, k2, hm, k1, hold, hs2, hs2, ?_⟩, ?_, ?_, ?_⟩
      · have : kvL (n, c) ∈ l.map kvL := by
          rw [← hm.kv, show kvL (n, c) = kvE x from ep]
          exact List.mem_map.2 ⟨x, hxe, rfl⟩
        obtain ⟨q, hq, eq⟩ := List.mem_map.1 this
        rw [← kvL_inj eq]
        exact hq
      · rw [hrun, ekv.1, ekv.2]
      · rw [leftOf_push, e2, List.map_append, List.map_append, eA, eB]
      · rcases hal with rfl | rfl
        · exact ⟨rfl, rfl, rfl, by simp [setBlock], fun i _ hi => blk_other _ (fun e => hi (by rw [e]))⟩
        · exact ⟨rfl, rfl, rfl, by simp [setBlock], fun i _ hi => blk_other (w := w.drew) _ (fun e => hi (by rw [e]))⟩
      · rcases hal with rfl | rfl <;> simp [setBlock]
      · have := run_entry_at (P := Tryz.prog) (setBlock w1 r (.mapIter (some M) since (seen.push x.born) clock)) r M since seen es clock x k1 k2 hxe hm.st.2.1
        rw [this, ekv.1, ekv.2]
end Go.Proofs.YtodnnhidljfilaaGreatDoor
/-
  The program's disk (package disk) in memory: a map from names to files, each with its bytes and its pieces; whose block is whose. No condition.
-/
namespace Go.Proofs.YtodnnhidljfilaaGreatDoor
open Go.RowKit Go.MapKept

/-- A file: its name, its block, the values of its two slices, its bytes, how many are sure, what each append brought (its turn, its size). -/
structure CF where
  name : ByteArray
  c : Nat
  bv : Value
  lv : Value
  bs : List UInt8
  sure : Nat
  ps : List (Nat × Nat)
def pcL (c : Nat) (p : Nat × Nat) : List Value := [.int .i64 (p.1 : Int), .int .i64 (p.2 : Int), .pointer (some ⟨c, 0, none⟩)]
def pcsL (c : Nat) (ps : List (Nat × Nat)) : List Value := ps.flatMap (pcL c)
/-- Together. -/
def tot (ps : List (Nat × Nat)) : Nat := (ps.map (·.2)).sum

/-- A file in memory; 'ro': to whom a block belongs. -/
structure CfAt (w : World) (base : Nat) (ro : Nat → Option Nat) (f : CF) : Prop where
  bl : w.heap[f.c]? = some (.cells #[f.bv, .int .i64 (f.sure : Int), f.lv] 103 (0, 0))
  rb : w.ownsRow base 5 1 f.bv f.bs.length (Lib.byteCells f.bs)
  rl : w.ownsRow base 100 3 f.lv f.ps.length (pcsL f.c f.ps)
  rc : ro f.c = some f.c
  ob : ∀ g, f.bv.ownBlock = some g → ro g = some f.c
  ol : ∀ g, f.lv.ownBlock = some g → ro g = some f.c
  mx : f.bs.length ≤ 4194304
  sm : f.sure + tot f.ps = f.bs.length
  ps0 : ∀ p ∈ f.ps, 0 < p.2
  sz : f.name.size ≤ 64
theorem tot_length : ∀ (ps : List (Nat × Nat)), (∀ p ∈ ps, 0 < p.2) → ps.length ≤ tot ps
  | [], _ => Nat.le_refl _
  | p :: ps, h => by
    have h1 := tot_length ps (fun q hq => h q (by simp [hq]))
    have h2 := h p (by simp)
    unfold tot at h1 ⊢
    rw [List.map_cons, List.sum_cons, List.length_cons]
    omega
theorem CfAt.le {w : World} {base : Nat} {ro : Nat → Option Nat} {f : CF} (h : CfAt w base ro f) : f.sure ≤ f.bs.length := by have := h.sm; omega
theorem CfAt.pl {w : World} {base : Nat} {ro : Nat → Option Nat} {f : CF} (h : CfAt w base ro f) : f.ps.length ≤ 4194304 := by
  have h1 := tot_length f.ps h.ps0
  have h2 := h.sm
  have h3 := h.mx
  omega
theorem CfAt.keep {w w' : World} {base : Nat} {ro ro' : Nat → Option Nat} {f : CF} (h : CfAt w base ro f) (hk : ∀ b, ro b = some f.c → w'.heap[b]? = w.heap[b]?) (ho : ∀ b, ro b = some f.c → ro' b = ro b) : CfAt w' base ro' f :=
  ⟨(hk _ h.rc).trans h.bl, own_keep h.rb (fun g e => hk g (h.ob g e)), own_keep h.rl (fun g e => hk g (h.ol g e)), (ho _ h.rc).trans h.rc, fun g e => (ho g (h.ob g e)).trans (h.ob g e), fun g e => (ho g (h.ol g e)).trans (h.ol g e), h.mx, h.sm, h.ps0, h.sz⟩
theorem CfAt.cell0 {w : World} {base : Nat} {ro : Nat → Option Nat} {f : CF} (h : CfAt w base ro f) : w.cell? ⟨f.c, 0, none⟩ = some f.bv := by simp [World.cell?, h.bl]
theorem CfAt.cell1 {w : World} {base : Nat} {ro : Nat → Option Nat} {f : CF} (h : CfAt w base ro f) : w.cell? ⟨f.c, 1, none⟩ = some (.int .i64 (f.sure : Int)) := by simp [World.cell?, h.bl]
theorem CfAt.cell2 {w : World} {base : Nat} {ro : Nat → Option Nat} {f : CF} (h : CfAt w base ro f) : w.cell? ⟨f.c, 2, none⟩ = some f.lv := by simp [World.cell?, h.bl]

def nmL (l : List CF) : List (ByteArray × Nat) := l.map fun f => (f.name, f.c)
/-- The disk in block D. -/
structure CdAt (w : World) (base D : Nat) (l : List CF) (turns : Nat) (mo : Option Nat) (ro : Nat → Option Nat) : Prop where
  bl : w.heap[D]? = some (.cells #[.map mo, .int .i64 (turns : Int)] 80 (0, 0))
  mp : mapO w mo (nmL l)
  each : ∀ f ∈ l, CfAt w base ro f
  rD : ro D = some D
  rM : ∀ M, mo = some M → ro M = some D
  nd : (l.map (·.c)).Nodup
  bd : ∀ b, ro b ≠ none → base ≤ b ∧ b < w.heap.size
theorem CdAt.cell0 {w : World} {base D : Nat} {l : List CF} {turns : Nat} {mo : Option Nat} {ro : Nat → Option Nat} (h : CdAt w base D l turns mo ro) : w.cell? ⟨D, 0, none⟩ = some (.map mo) := by simp [World.cell?, h.bl]
theorem CdAt.cell1 {w : World} {base D : Nat} {l : List CF} {turns : Nat} {mo : Option Nat} {ro : Nat → Option Nat} (h : CdAt w base D l turns mo ro) : w.cell? ⟨D, 1, none⟩ = some (.int .i64 (turns : Int)) := by simp [World.cell?, h.bl]
theorem CdAt.neD {w : World} {base D : Nat} {l : List CF} {turns : Nat} {mo : Option Nat} {ro : Nat → Option Nat} (h : CdAt w base D l turns mo ro) {f : CF} (hf : f ∈ l) : f.c ≠ D := by
  intro e
  have h1 := (h.each f hf).bl
  rw [e, h.bl] at h1
  simp at h1
theorem CdAt.neM {w : World} {base D : Nat} {l : List CF} {turns : Nat} {mo : Option Nat} {ro : Nat → Option Nat} (h : CdAt w base D l turns mo ro) {M : Nat} (hM : mo = some M) : M ≠ D := by
  intro e
  have h1 := h.mp
  rw [hM] at h1
  obtain ⟨es, clock, hb, _⟩ := h1
  rw [e, h.bl] at hb
  simp at hb
theorem CdAt.names {w : World} {base D : Nat} {l : List CF} {turns : Nat} {mo : Option Nat} {ro : Nat → Option Nat} (h : CdAt w base D l turns mo ro) : (l.map (·.name)).Nodup := by
  have e : l.map (·.name) = (nmL l).map (·.1) := by unfold nmL; rw [List.map_map]; rfl
  rw [e]
  have h1 := h.mp
  cases mo with
  | none =>
    have h2 : nmL l = [] := h1
    rw [h2]
    exact List.nodup_nil
  | some M => exact MapAt.nodup h1

/-- What a call of the disk leaves: what is not the disk's has not turned. -/
structure Ext (w w' : World) (ro ro' : Nat → Option Nat) : Prop where
  os : w'.os = w.os
  tape : w'.tape = w.tape
  output : w'.output = w.output
  size : w.heap.size ≤ w'.heap.size
  old : ∀ b, b < w.heap.size → ro' b = ro b
  kept : ∀ b, b < w.heap.size → ro b = none → w'.heap[b]? = w.heap[b]?
theorem Ext.refl (w : World) (ro : Nat → Option Nat) : Ext w w ro ro := ⟨rfl, rfl, rfl, Nat.le_refl _, fun _ _ => rfl, fun _ _ _ => rfl⟩
theorem Ext.trans {a b c : World} {ra rb rc : Nat → Option Nat} (h : Ext a b ra rb) (k : Ext b c rb rc) : Ext a c ra rc :=
  ⟨k.os.trans h.os, k.tape.trans h.tape, k.output.trans h.output, Nat.le_trans h.size k.size, fun i hi => (k.old i (Nat.lt_of_lt_of_le hi h.size)).trans (h.old i hi),
    fun i hi hr => (k.kept i (Nat.lt_of_lt_of_le hi h.size) (by rw [h.old i hi]; exact hr)).trans (h.kept i hi hr)⟩
theorem Ext.below {w w' : World} {base D : Nat} {l : List CF} {turns : Nat} {mo : Option Nat} {ro ro' : Nat → Option Nat} (h : CdAt w base D l turns mo ro) (k : Ext w w' ro ro') (hb : base ≤ w.heap.size) : Below base w w' :=
  ⟨k.os, k.tape, k.output, k.size, fun i hi => k.kept i (by omega) (by
    cases hr : ro i with
    | none => rfl
    | some x =>
      have := (h.bd i (by rw [hr]; simp)).1
      omega)⟩
/-- The disk where nothing of it has turned. -/
theorem CdAt.keep {w w' : World} {base D : Nat} {l : List CF} {turns : Nat} {mo : Option Nat} {ro : Nat → Option Nat} (h : CdAt w base D l turns mo ro) (hs : w.heap.size ≤ w'.heap.size) (hk : ∀ b, ro b ≠ none → w'.heap[b]? = w.heap[b]?) : CdAt w' base D l turns mo ro := by
  refine ⟨(hk D (by rw [h.rD]; simp)).trans h.bl, ?_, fun f hf => (h.each f hf).keep (fun b hb => hk b (by rw [hb]; simp)) (fun _ _ => rfl), h.rD, h.rM, h.nd, fun b hb => ⟨(h.bd b hb).1, Nat.lt_of_lt_of_le (h.bd b hb).2 hs⟩⟩
  cases hm : mo with
  | none =>
    have := h.mp
    rw [hm] at this
    exact this
  | some M =>
    have := h.mp
    rw [hm] at this
    exact MapAt.kept this (hk M (by rw [h.rM M hm]; simp))
theorem CdAt.drew {w : World} {base D : Nat} {l : List CF} {turns : Nat} {mo : Option Nat} {ro : Nat → Option Nat} (h : CdAt w base D l turns mo ro) : CdAt w.drew base D l turns mo ro := h.keep (Nat.le_refl _) (fun _ _ => rfl)
theorem Ext.drew (w : World) (ro : Nat → Option Nat) : Ext w w.drew ro ro := ⟨rfl, rfl, rfl, Nat.le_refl _, fun _ _ => rfl, fun _ _ _ => rfl⟩

/-- A file by its name; a file put in its own place. -/
def lk (l : List CF) (n : ByteArray) : Option CF := l.find? fun f => decide (f.name = n)
def setF (l : List CF) (f : CF) : List CF := l.map fun g => if g.c = f.c then f else g
theorem lk_mem {l : List CF} {n : ByteArray} {f : CF} (h : lk l n = some f) : f ∈ l ∧ f.name = n := by
  unfold lk at h
  exact ⟨List.mem_of_find?_eq_some h, by simpa using List.find?_some h⟩
theorem lookF_lk (l : List CF) (n : ByteArray) : lookF (nmL l) n = (lk l n).map (·.c) := by
  unfold lookF lk nmL
  rw [List.find?_map, Option.map_map]
  rfl
theorem CdAt.look {w : World} {base D : Nat} {l : List CF} {turns : Nat} {mo : Option Nat} {ro : Nat → Option Nat} (h : CdAt w base D l turns mo ro) {n : ByteArray} (hn : n.size ≤ maxLen) :
    (Instr.lookup 78 (.map mo) (.string n) false).run Tryz.prog w = .ok (ptrO ((lk l n).map (·.c))) w := by
  have h1 := h.mp
  rw [← lookF_lk]
  cases mo with
  | none =>
    have h2 : nmL l = [] := h1
    rw [h2]
    exact look_nil w hn
  | some M => exact look_map h1 hn
theorem nodup_at {l : List CF} (hn : (l.map (·.c)).Nodup) {f g : CF} (hf : f ∈ l) (hg : g ∈ l) (e : g.c = f.c) : g = f := by
  induction l with
  | nil => simp at hf
  | cons a l ih =>
    rw [List.map_cons, List.nodup_cons] at hn
    rcases List.mem_cons.1 hf with e1 | hf2
    · rcases List.mem_cons.1 hg with e2 | hg2
      · rw [e1, e2]
      · exact absurd (by rw [← e1, ← e]; exact List.mem_map.2 ⟨g, hg2, rfl⟩) hn.1
    · rcases List.mem_cons.1 hg with e2 | hg2
      · exact absurd (by rw [← e2, e]; exact List.mem_map.2 ⟨f, hf2, rfl⟩) hn.1
      · exact ih hn.2 hf2 hg2
theorem setF_nm {l : List CF} (hn : (l.map (·.c)).Nodup) {f f' : CF} (hf : f ∈ l) (h1 : f'.name = f.name) (h2 : f'.c = f.c) : nmL (setF l f') = nmL l := by
  unfold nmL setF
  rw [List.map_map]
  refine List.map_congr_left fun g hg => ?_
  simp only [Function.comp]
  by_cases e : g.c = f'.c
  · rw [if_pos e, nodup_at hn hf hg (e.trans h2), h1, h2]
  · rw [if_neg e]
theorem setF_c (l : List CF) (f' : CF) : (setF l f').map (·.c) = l.map (·.c) := by
  unfold setF
  rw [List.map_map]
  refine List.map_congr_left fun g _ => ?_
  simp only [Function.comp]
  by_cases e : g.c = f'.c
  · rw [if_pos e, e]
  · rw [if_neg e]
theorem setF_mem {l : List CF} {f' g : CF} (h : g ∈ setF l f') : g = f' ∨ (g ∈ l ∧ g.c ≠ f'.c) := by
  unfold setF at h
  obtain ⟨x, hx, rfl⟩ := List.mem_map.1 h
  by_cases e : x.c = f'.c
  · rw [if_pos e]
    exact Or.inl rfl
  · rw [if_neg e]
    exact Or.inr ⟨hx, e⟩
/-- One file has turned, and perhaps the count of turns. -/
theorem CdAt.upd {w w' : World} {base D : Nat} {l : List CF} {turns : Nat} {mo : Option Nat} {ro ro' : Nat → Option Nat} (h : CdAt w base D l turns mo ro) {f f' : CF} (hf : f ∈ l) (h1 : f'.name = f.name) (h2 : f'.c = f.c) (hF : CfAt w' base ro' f') {turns' : Nat}
    (hD : w'.heap[D]? = some (.cells #[.map mo, .int .i64 (turns' : Int)] 80 (0, 0))) (hk : ∀ b, b < w.heap.size → b ≠ D → ro b ≠ some f.c → w'.heap[b]? = w.heap[b]?) (ho : ∀ b, b < w.heap.size → ro' b = ro b)
    (hbd : ∀ b, ro' b ≠ none → base ≤ b ∧ b < w'.heap.size) : CdAt w' base D (setF l f') turns' mo ro' := by
  have lt : ∀ b x, ro b = some x → b < w.heap.size := fun b x e => (h.bd b (by rw [e]; simp)).2
  refine ⟨hD, ?_, fun g hg => ?_, (ho D (lt D D h.rD)).trans h.rD, fun M hM => (ho M (lt M D (h.rM M hM))).trans (h.rM M hM), by rw [setF_c]; exact h.nd, hbd⟩
  · rw [setF_nm h.nd hf h1 h2]
    cases hm : mo with
    | none =>
      have := h.mp
      rw [hm] at this
      exact this
    | some M =>
      have := h.mp
      rw [hm] at this
      exact MapAt.kept this (hk M (lt M D (h.rM M hm)) (h.neM hm) (by rw [h.rM M hm]; intro e; exact h.neD hf (Option.some.inj e).symm))
  · rcases setF_mem hg with rfl | ⟨hg, hne⟩
    · exact hF
    · refine (h.each g hg).keep (fun b hb => hk b (lt b _ hb) ?_ ?_) (fun b hb => ho b (lt b _ hb))
      · rintro rfl
        rw [h.rD] at hb
        exact h.neD hg (Option.some.inj hb).symm
      · rw [hb]
        intro e
        exact hne ((Option.some.inj e).trans h2.symm)
end Go.Proofs.YtodnnhidljfilaaGreatDoor
