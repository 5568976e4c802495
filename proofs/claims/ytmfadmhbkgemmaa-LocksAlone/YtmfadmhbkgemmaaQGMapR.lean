/-
  A map of any keys to any values: struck from, counted, gone over in whatever order: for any program. The conditions: as in GMap.
-/
import Derived.Test.YtmfadmhbkgemmaaQGMap
namespace Go.Proofs.Ytmfadmhbkgemmaa
open Go.RowKit Go.MapKept
open Go.ChangeMaps (setBlock heap_setBlock_same heap_setBlock_other modify_eq_set)
open Go.Maps (Keyed)

section
variable {κ α : Type} {m : MapOf κ α} {w w' : World} {M : Nat} {l : List (κ × α)} {es : Array MapEntry} {clock : Nat}
theorem MapOf.len (hm : m.Is) (h : m.At w M l) (ty : TypeId) : (Builtin.len_ #[m.MT] ty #[.map (some M)]).run Try.prog w = .ok (.int .i64 (l.length : Int)) w := by
  obtain ⟨es, clock, hb, he⟩ := h
  simp [Builtin.len_, run_underlying hm.ty, MapKept.run_getObj_map hb, Result.andThen, he.len]
  rfl
variable [DecidableEq κ]
/-- What is left where a key is struck. -/
def delM (l : List (κ × α)) (n : κ) : List (κ × α) := l.filter fun p => !decide (p.1 = n)
theorem delM_mem {n : κ} {p : κ × α} : p ∈ delM l n ↔ p ∈ l ∧ p.1 ≠ n := by
  unfold delM
  rw [List.mem_filter]
  simp
theorem lookM_mem {n : κ} {c : α} (h : lookM l n = some c) : (n, c) ∈ l := by
  unfold lookM at h
  cases hf : l.find? (fun p => decide (p.1 = n)) with
  | none => rw [hf] at h; simp at h
  | some p =>
    rw [hf] at h
    simp only [Option.map_some, Option.some.injEq] at h
    have h1 := List.find?_some hf
    have h2 := List.mem_of_find?_eq_some hf
    simp only [decide_eq_true_eq] at h1
    rw [← h1, ← h]
    exact h2
theorem lookM_no {n : κ} (h : lookM l n = none) : ∀ p ∈ l, p.1 ≠ n := by
  intro p hp e
  unfold lookM at h
  rw [Option.map_eq_none_iff, List.find?_eq_none] at h
  simpa [e] using h p hp
theorem lookM_del (l : List (κ × α)) (n x : κ) : lookM (delM l n) x = if x = n then none else lookM l x := by
  by_cases hx : x = n
  · subst hx
    rw [if_pos rfl]
    exact lookM_none fun p hp => (delM_mem.1 hp).2
  · rw [if_neg hx]
    unfold lookM delM
    congr 1
    rw [List.find?_filter]
    congr 1
    funext p
    by_cases hp : p.1 = x
    · simp [hp, hx]
    · simp [hp]
theorem eraseIdx_del {n : κ} : ∀ (l : List (κ × α)) (j : Nat) (p : κ × α), (l.map (·.1)).Nodup → l[j]? = some p → p.1 = n → l.eraseIdx j = delM l n
  | [], _, _, _, h, _ => by simp at h
  | a :: l, 0, p, hn, h, e => by
    simp only [List.getElem?_cons_zero, Option.some.injEq] at h
    subst h
    rw [List.map_cons, List.nodup_cons] at hn
    unfold delM
    rw [List.eraseIdx_cons_zero, List.filter_cons, if_neg (by simp [e])]
    refine (List.filter_eq_self.2 fun q hq => ?_).symm
    simp only [Bool.not_eq_true', decide_eq_false_iff_not]
    exact fun e' => hn.1 (by rw [e, ← e']; exact List.mem_map.2 ⟨q, hq, rfl⟩)
  | a :: l, j + 1, p, hn, h, e => by
    rw [List.map_cons, List.nodup_cons] at hn
    rw [List.getElem?_cons_succ] at h
    have ha : ¬ a.1 = n := fun e' => hn.1 (by rw [e', ← e]; exact List.mem_map.2 ⟨p, List.mem_of_getElem? h, rfl⟩)
    have ih := eraseIdx_del l j p hn.2 h e
    unfold delM at ih ⊢
    rw [List.eraseIdx_cons_succ, List.filter_cons, if_pos (by simp [ha]), ih]
theorem MapOf.del (hm : m.Is) (h : m.At w M l) {n : κ} (hn : m.ok n) (ty : TypeId) :
    ∃ w', (Builtin.delete_ #[m.MT, m.KT] ty #[.map (some M), m.kv n]).run Try.prog w = .ok (.tuple #[]) w' ∧ m.At w' M (delM l n) ∧ w.grownBy w' (some M) ∧ w'.heap.size = w.heap.size := by
  obtain ⟨es, clock, hb, he⟩ := h
  obtain ⟨k, hk⟩ := hm.key n hn
  have gr : ∀ o, w.grownBy (setBlock w M o) (some M) := fun o => ⟨rfl, rfl, rfl, by simp [setBlock], fun i _ hi => heap_setBlock_other hb _ (fun e => hi (by rw [e]))⟩
  rcases MapOf.find hm he hn w with ⟨h1, h2, h3⟩ | ⟨j, e0, p, h1, h2, h3, hp, hpn, h6, h7⟩
  · have e : delM l n = l := List.filter_eq_self.2 (fun p hp => by
      simp only [Bool.not_eq_true', decide_eq_false_iff_not]
      exact lookM_no h3 p hp)
    rw [e]
    refine ⟨setBlock w M (.map es clock), ?_, ⟨_, _, heap_setBlock_same hb _, he⟩, gr _, by simp [setBlock]⟩
    simp [Builtin.delete_, run_underlying hm.ty, MapKept.run_getObj_map hb, hm.K.check w _ hk, h1, MapKept.run_setObj_map _ hb, Result.andThen, setBlock]
  · have hjs : j < es.size := by have := (List.getElem?_eq_some_iff.1 h2).1; simpa using this
    have hsub : (es.eraseIdxIfInBounds j).toList = es.toList.eraseIdx j := by
      unfold Array.eraseIdxIfInBounds
      rw [dif_pos hjs]
      simp
    refine ⟨setBlock w M (.map (es.eraseIdxIfInBounds j) clock), ?_, ⟨_, _, heap_setBlock_same hb _, stamped_erase he.st j, ?_, fun q hq => he.ok q (delM_mem.1 hq).1⟩, gr _, by simp [setBlock]⟩
    · simp [Builtin.delete_, run_underlying hm.ty, MapKept.run_getObj_map hb, hm.K.check w _ hk, h1, MapKept.run_setObj_map _ hb, Result.andThen, setBlock]
    · rw [hsub, ← eraseIdx_del l j p he.nodup hp hpn, ChangeMaps.map_eraseIdx, ChangeMaps.map_eraseIdx, he.kv]
end
theorem gblk_same {w : World} {r : Nat} (h : r < w.heap.size) (o : Obj) : (setBlock w r o).heap[r]? = some o := by
  simp [setBlock, h]
theorem gblk_other {w : World} {r b : Nat} (o : Obj) (h : b ≠ r) : (setBlock w r o).heap[b]? = w.heap[b]? := by
  simp only [setBlock]
  rw [Array.getElem?_setIfInBounds_ne (by omega)]
theorem gleftOf_push {es : Array MapEntry} {seen : Array Nat} {x : MapEntry} : (leftOf es (seen.push x.born)).toList = (leftOf es seen).toList.filter fun e => !decide (e.born = x.born) := by
  unfold leftOf
  simp only [Array.toList_filter, List.filter_filter]
  refine List.filter_congr fun e _ => ?_
  by_cases h : e.born = x.born
  · simp [h]
  · simp [h]
theorem gfilter_split {x : MapEntry} : ∀ (L : List MapEntry), (L.map (·.born)).Nodup → x ∈ L → ∃ A B, L = A ++ x :: B ∧ L.filter (fun e => !decide (e.born = x.born)) = A ++ B
  | a :: L, hn, hx => by
    rw [List.map_cons, List.nodup_cons] at hn
    by_cases hax : a = x
    · subst hax
      refine ⟨[], L, rfl, ?_⟩
      rw [List.filter_cons, if_neg (by simp)]
      refine List.filter_eq_self.2 fun e he => ?_
      simp only [Bool.not_eq_true', decide_eq_false_iff_not]
      exact fun e' => hn.1 (by rw [← e']; exact List.mem_map.2 ⟨e, he, rfl⟩)
    · have hx' : x ∈ L := by
        rcases List.mem_cons.1 hx with e | h
        · exact absurd e.symm hax
        · exact h
      obtain ⟨A, B, e1, e2⟩ := gfilter_split L hn.2 hx'
      have hb : ¬ a.born = x.born := fun e' => hn.1 (by rw [e']; exact List.mem_map.2 ⟨x, hx', rfl⟩)
      exact ⟨a :: A, B, by rw [e1]; rfl, by rw [List.filter_cons, if_pos (by simp [hb]), e2]; rfl⟩
section
variable {κ α : Type} {m : MapOf κ α} {w w' : World} {M r : Nat} {l left : List (κ × α)} {es : Array MapEntry} {clock : Nat}
/-- A map gone over: these are still to come. -/
structure MapOf.Ranging (m : MapOf κ α) (w : World) (M r : Nat) (l left : List (κ × α)) : Prop where
  ex : ∃ es clock since seen c0, w.heap[M]? = some (.map es clock) ∧ m.Ents es clock l ∧ w.heap[r]? = some (.mapIter (some M) since seen c0) ∧ (∀ x ∈ es.toList, x.born < since) ∧ since ≤ c0 ∧ since ≤ clock ∧
      (leftOf es seen).toList.map (fun x => (x.key, x.val)) = left.map fun p => (m.kv p.1, m.ev p.2)
theorem MapOf.Ranging.keep (h : m.Ranging w M r l left) (h1 : w'.heap[M]? = w.heap[M]?) (h2 : w'.heap[r]? = w.heap[r]?) : m.Ranging w' M r l left := by
  obtain ⟨es, clock, since, seen, c0, hb, hm, hr, rest⟩ := h.ex
  exact ⟨es, clock, since, seen, c0, h1.trans hb, hm, h2.trans hr, rest⟩
theorem MapOf.Ranging.lt (h : m.Ranging w M r l left) : r < w.heap.size := by
  obtain ⟨es, clock, since, seen, c0, hb, hm, hr, rest⟩ := h.ex
  exact lt_of_block hr
theorem MapOf.Ranging.at (h : m.Ranging w M r l left) : m.At w M l := by
  obtain ⟨es, clock, since, seen, c0, hb, hm, hr, rest⟩ := h.ex
  exact ⟨es, clock, hb, hm⟩
theorem MapOf.range (hm : m.Is) (h : m.At w M l) :
    ∃ w', (Instr.range m.MT (.map (some M))).run Try.prog w = .ok (.pointer (some ⟨w.heap.size, 0, none⟩)) w' ∧ m.Ranging w' M w.heap.size l l ∧ w.grownBy w' none ∧ w'.heap.size = w.heap.size + 1 := by
  obtain ⟨es, clock, hb, he⟩ := h
  have hlt : M < w.heap.size := lt_of_block hb
  refine ⟨_, run_range_map w _ _ _ M es clock hm.ty hb, ⟨es, clock, clock, #[], clock, ((MapKept.heap_alloc w _).2 M hlt).trans hb, he, (MapKept.heap_alloc w _).1, he.st.1, Nat.le_refl _, Nat.le_refl _, ?_⟩, World.grownBy_alloc w _ none, by simp⟩
  have e : leftOf es #[] = es := by
    unfold leftOf
    exact Array.filter_eq_self.2 (fun x _ => by simp)
  rw [e, he.kv]
theorem MapOf.next (h : m.Ranging w M r l left) (ty : TypeId) :
    (left = [] ∧ (Instr.next (.pointer (some ⟨r, 0, none⟩)) false ty).run Try.prog w = .ok (.tuple #[.bool false]) w) ∨
    ∃ n c A B w', left = A ++ (n, c) :: B ∧ (Instr.next (.pointer (some ⟨r, 0, none⟩)) false ty).run Try.prog w = .ok (.tuple #[.bool true, m.kv n, m.ev c]) w' ∧ m.Ranging w' M r l (A ++ B) ∧ w.grownBy w' (some r) ∧ w'.heap.size = w.heap.size ∧
      (Instr.entry (.pointer (some ⟨r, 0, none⟩))).run Try.prog w' = .ok (.tuple #[m.kv n, m.ev c]) w' := by
  obtain ⟨es, clock, since, seen, c0, hb, hm, hr, hold, hs1, hs2, hl⟩ := h.ex
  rcases run_next_at (P := Try.prog) w ty r M since c0 seen es clock hr hb hold hs1 with ⟨h0, hrun⟩ | ⟨x, hx, w1, hal, hrun⟩
  · left
    refine ⟨?_, hrun⟩
    have := congrArg List.length hl
    simp only [List.length_map, Array.length_toList, h0] at this
    exact List.eq_nil_of_length_eq_zero this.symm
  · right
    have hxe : x ∈ es.toList := by
      unfold leftOf at hx
      simp at hx ⊢
      exact hx.1
    have hrM : r ≠ M := fun e => by rw [e, hb] at hr; cases hr
    have hsub : ((leftOf es seen).toList.map (·.born)).Nodup := by
      unfold leftOf
      rw [Array.toList_filter]
      exact List.Nodup.sublist (List.Sublist.map _ List.filter_sublist) hm.st.2.1
    obtain ⟨A, B, e1, e2⟩ := gfilter_split _ hsub hx
    have hl2 := hl
    rw [e1, List.map_append, List.map_cons] at hl2
    obtain ⟨A', R', eq1, eA, eR⟩ := List.map_eq_append_iff.1 hl2.symm
    obtain ⟨p, B', eq2, ep, eB⟩ := List.map_eq_cons_iff.1 eR
    obtain ⟨n, c⟩ := p
    have ekv : x.key = m.kv n ∧ x.val = m.ev c := by
      simp only [Prod.mk.injEq] at ep
      exact ⟨ep.1.symm, ep.2.symm⟩
    have hr1 : w1.heap[r]? = some (.mapIter (some M) since seen c0) := by rcases hal with rfl | rfl <;> exact hr
    have hM1 : w1.heap[M]? = some (.map es clock) := by rcases hal with rfl | rfl <;> exact hb
    have k1 : (setBlock w1 r (.mapIter (some M) since (seen.push x.born) clock)).heap[r]? = some (.mapIter (some M) since (seen.push x.born) clock) := gblk_same (lt_of_block hr1) _
    have k2 : (setBlock w1 r (.mapIter (some M) since (seen.push x.born) clock)).heap[M]? = some (.map es clock) := (gblk_other _ (fun e => hrM e.symm)).trans hM1
    refine ⟨n, c, A', B', setBlock w1 r (.mapIter (some M) since (seen.push x.born) clock), by rw [eq1, eq2], ?_, ⟨es, clock, since, seen.push x.born, clock, k2, hm, k1, hold, hs2, hs2, ?_⟩, ?_, ?_, ?_⟩
    · rw [hrun, ekv.1, ekv.2]
    · rw [gleftOf_push, e2, List.map_append, List.map_append, eA, eB]
    · rcases hal with rfl | rfl
      · exact ⟨rfl, rfl, rfl, by simp [setBlock], fun i _ hi => gblk_other _ (fun e => hi (by rw [e]))⟩
      · exact ⟨rfl, rfl, rfl, by simp [setBlock], fun i _ hi => gblk_other (w := w.drew) _ (fun e => hi (by rw [e]))⟩
    · rcases hal with rfl | rfl <;> simp [setBlock]
    · have := run_entry_at (P := Try.prog) (setBlock w1 r (.mapIter (some M) since (seen.push x.born) clock)) r M since seen es clock x k1 k2 hxe hm.st.2.1
      rw [this, ekv.1, ekv.2]
end
end Go.Proofs.Ytmfadmhbkgemmaa
