/-
  A map of any keys to any values: struck from, counted, gone over in whatever order: for any program. The conditions: as in GMap.
-/
import Derived.Test.YtmlgoecdefeapaaAGMap
namespace Go.Proofs.Ytmlgoecdefeapaa
open Go.RowKit Go.MapKept
open Go.ChangeMaps (setBlock heap_setBlock_same heap_setBlock_other modify_eq_set)
open Go.Maps (Keyed)

section
variable {κ α : Type} {m : MapOf κ α} {w w' : World} {M : Nat} {l : List (κ × α)} {es : Array MapEntry} {clock : Nat}
theorem MapOf.len (hm : m.Is) (h : m.At w M l) (ty : TypeId) : (Builtin.len_ #[m.MT] ty #[.map (some M)]).run Try.prog w = .ok (.int .i64 (l.length : Int)) w := by
  obtain ⟨es, clock, hb, he⟩ := h
  simp [Builtin.len_, run_underlying hm.ty, MapKept.run_getObj_map hb, Result.andThen, he.len]
  rfl
variable [DecidableEq κ]
theorem lookM_mem {n : κ} {c : α} (h : lookM l n = some c) : (n, c) ∈ l := by
  unfold lookM at h
  cases hf : l.find? (fun p => decide (p.1 = n)) with
  | none => rw [hf] at h; simp at h
  | some p =>
    rw [hf] at h
    simp only [Option.map_some, Option.some.injEq] at h
    have h1 := List.find?_some hf
    have h2 := List.mem_of_find?_eq_some hf
    simp only [decide_eq_true_eq] at h1
    rw [← h1, ← h]
    exact h2
end
theorem gblk_same {w : World} {r : Nat} (h : r < w.heap.size) (o : Obj) : (setBlock w r o).heap[r]? = some o := by
  simp [setBlock, h]
theorem gblk_other {w : World} {r b : Nat} (o : Obj) (h : b ≠ r) : (setBlock w r o).heap[b]? = w.heap[b]? := by
  simp only [setBlock]
  rw [Array.getElem?_setIfInBounds_ne (by omega)]
theorem gleftOf_push {es : Array MapEntry} {seen : Array Nat} {x : MapEntry} : (leftOf es (seen.push x.born)).toList = (leftOf es seen).toList.filter fun e => !decide (e.born = x.born) := by
  unfold leftOf
  simp only [Array.toList_filter, List.filter_filter]
  refine List.filter_congr fun e _ => ?_
  by_cases h : e.born = x.born
  · simp [h]
  · simp [h]
theorem gfilter_split {x : MapEntry} : ∀ (L : List MapEntry), (L.map (·.born)).Nodup → x ∈ L → ∃ A B, L = A ++ x :: B ∧ L.filter (fun e => !decide (e.born = x.born)) = A ++ B
  | a :: L, hn, hx => by
    rw [List.map_cons, List.nodup_cons] at hn
    by_cases hax : a = x
    · subst hax
      refine ⟨[], L, rfl, ?_⟩
      rw [List.filter_cons, if_neg (by simp)]
      refine List.filter_eq_self.2 fun e he => ?_
      simp only [Bool.not_eq_true', decide_eq_false_iff_not]
      exact fun e' => hn.1 (by rw [← e']; exact List.mem_map.2 ⟨e, he, rfl⟩)
    · have hx' : x ∈ L := by
        rcases List.mem_cons.1 hx with e | h
        · exact absurd e.symm hax
        · exact h
      obtain ⟨A, B, e1, e2⟩ := gfilter_split L hn.2 hx'
      have hb : ¬ a.born = x.born := fun e' => hn.1 (by rw [e']; exact List.mem_map.2 ⟨x, hx', rfl⟩)
      exact ⟨a :: A, B, by rw [e1]; rfl, by rw [List.filter_cons, if_pos (by simp [hb]), e2]; rfl⟩
section
variable {κ α : Type} {m : MapOf κ α} {w w' : World} {M r : Nat} {l left : List (κ × α)} {es : Array MapEntry} {clock : Nat}
/-- A map gone over: these are still to come. -/
structure MapOf.Ranging (m : MapOf κ α) (w : World) (M r : Nat) (l left : List (κ × α)) : Prop where
  ex : ∃ es clock since seen c0, w.heap[M]? = some (.map es clock) ∧ m.Ents es clock l ∧ w.heap[r]? = some (.mapIter (some M) since seen c0) ∧ (∀ x ∈ es.toList, x.born < since) ∧ since ≤ c0 ∧ since ≤ clock ∧
      (leftOf es seen).toList.map (fun x => (x.key, x.val)) = left.map fun p => (m.kv p.1, m.ev p.2)
theorem MapOf.Ranging.keep (h : m.Ranging w M r l left) (h1 : w'.heap[M]? = w.heap[M]?) (h2 : w'.heap[r]? = w.heap[r]?) : m.Ranging w' M r l left := by
  obtain ⟨es, clock, since, seen, c0, hb, hm, hr, rest⟩ := h.ex
  exact ⟨es, clock, since, seen, c0, h1.trans hb, hm, h2.trans hr, rest⟩
theorem MapOf.Ranging.lt (h : m.Ranging w M r l left) : r < w.heap.size := by
  obtain ⟨es, clock, since, seen, c0, hb, hm, hr, rest⟩ := h.ex
  exact lt_of_block hr
theorem MapOf.Ranging.at (h : m.Ranging w M r l left) : m.At w M l := by
  obtain ⟨es, clock, since, seen, c0, hb, hm, hr, rest⟩ := h.ex
  exact ⟨es, clock, hb, hm⟩
theorem MapOf.range (hm : m.Is) (h : m.At w M l) :
    ∃ w', (Instr.range m.MT (.map (some M))).run Try.prog w = .ok (.pointer (some ⟨w.heap.size, 0, none⟩)) w' ∧ m.Ranging w' M w.heap.size l l ∧ w.grownBy w' none ∧ w'.heap.size = w.heap.size + 1 := by
  obtain ⟨es, clock, hb, he⟩ := h
  have hlt : M < w.heap.size := lt_of_block hb
  refine ⟨_, run_range_map w _ _ _ M es clock hm.ty hb, ⟨es, clock, clock, #[], clock, ((MapKept.heap_alloc w _).2 M hlt).trans hb, he, (MapKept.heap_alloc w _).1, he.st.1, Nat.le_refl _, Nat.le_refl _, ?_⟩, World.grownBy_alloc w _ none, by simp⟩
  have e : leftOf es #[] = es := by
    unfold leftOf
    exact Array.filter_eq_self.2 (fun x _ => by simp)
  rw [e, he.kv]
theorem MapOf.next (h : m.Ranging w M r l left) (ty : TypeId) :
    (left = [] ∧ (Instr.next (.pointer (some ⟨r, 0, none⟩)) false ty).run Try.prog w = .ok (.tuple #[.bool false]) w) ∨
    ∃ n c A B w', left = A ++ (n, c) :: B ∧ (Instr.next (.pointer (some ⟨r, 0, none⟩)) false ty).run Try.prog w = .ok (.tuple #[.bool true, m.kv n, m.ev c]) w' ∧ m.Ranging w' M r l (A ++ B) ∧ w.grownBy w' (some r) ∧ w'.heap.size = w.heap.size ∧
      (Instr.entry (.pointer (some ⟨r, 0, none⟩))).run Try.prog w' = .ok (.tuple #[m.kv n, m.ev c]) w' := by
  obtain ⟨es, clock, since, seen, c0, hb, hm, hr, hold, hs1, hs2, hl⟩ := h.ex
  rcases run_next_at (P := Try.prog) w ty r M since c0 seen es clock hr hb hold hs1 with ⟨h0, hrun⟩ | ⟨x, hx, w1, hal, hrun⟩
  · left
    refine ⟨?_, hrun⟩
    have := congrArg List.length hl
    simp only [List.length_map, Array.length_toList, h0] at this
    exact List.eq_nil_of_length_eq_zero this.symm
  · right
    have hxe : x ∈ es.toList := by
      unfold leftOf at hx
      simp at hx ⊢
      exact hx.1
    have hrM : r ≠ M := fun e => by rw [e, hb] at hr; cases hr
    have hsub : ((leftOf es seen).toList.map (·.born)).Nodup := by
      unfold leftOf
      rw [Array.toList_filter]
      exact List.Nodup.sublist (List.Sublist.map _ List.filter_sublist) hm.st.2.1
    obtain ⟨A, B, e1, e2⟩ := gfilter_split _ hsub hx
    have hl2 := hl
    rw [e1, List.map_append, List.map_cons] at hl2
    obtain ⟨A', R', eq1, eA, eR⟩ := List.map_eq_append_iff.1 hl2.symm
    obtain ⟨p, B', eq2, ep, eB⟩ := List.map_eq_cons_iff.1 eR
    obtain ⟨n, c⟩ := p
    have ekv : x.key = m.kv n ∧ x.val = m.ev c := by
      simp only [Prod.mk.injEq] at ep
      exact ⟨ep.1.symm, ep.2.symm⟩
    have hr1 : w1.heap[r]? = some (.mapIter (some M) since seen c0) := by rcases hal with rfl | rfl <;> exact hr
    have hM1 : w1.heap[M]? = some (.map es clock) := by rcases hal with rfl | rfl <;> exact hb
    have k1 : (setBlock w1 r (.mapIter (some M) since (seen.push x.born) clock)).heap[r]? = some (.mapIter (some M) since (seen.push x.born) clock) := gblk_same (lt_of_block hr1) _
    have k2 : (setBlock w1 r (.mapIter (some M) since (seen.push x.born) clock)).heap[M]? = some (.map es clock) := (gblk_other _ (fun e => hrM e.symm)).trans hM1
    refine ⟨n, c, A', B', setBlock w1 r (.mapIter (some M) since (seen.push x.born) clock), by rw [eq1, eq2], ?_, ⟨es, clock, since, seen.push x.born, clock, k2, hm, k1, hold, hs2, hs2, ?_⟩, ?_, ?_, ?_⟩
    · rw [hrun, ekv.1, ekv.2]
    · rw [gleftOf_push, e2, List.map_append, List.map_append, eA, eB]
    · rcases hal with rfl | rfl
      · exact ⟨rfl, rfl, rfl, by simp [setBlock], fun i _ hi => gblk_other _ (fun e => hi (by rw [e]))⟩
      · exact ⟨rfl, rfl, rfl, by simp [setBlock], fun i _ hi => gblk_other (w := w.drew) _ (fun e => hi (by rw [e]))⟩
    · rcases hal with rfl | rfl <;> simp [setBlock]
    · have := run_entry_at (P := Try.prog) (setBlock w1 r (.mapIter (some M) since (seen.push x.born) clock)) r M since seen es clock x k1 k2 hxe hm.st.2.1
      rw [this, ekv.1, ekv.2]
end
end Go.Proofs.Ytmlgoecdefeapaa
