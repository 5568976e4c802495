/-
  A set of numbers in memory (a map whose elements are nothing): looked into, put into, struck from, counted. The conditions: each number is an int's; fewer than a slice may have.
-/
import Derived.Test.YtmfadmhbkgemmaaQPackA
import Derived.Maps.OwnSet
import Derived.Maps.Range
import Derived.Lib.SlKeysI
namespace Go.Proofs.Ytmfadmhbkgemmaa
open Go.RowKit
open Go.Maps (Keyed)

theorem keyI : Keyed Try.prog 3 := Maps.int_keyed Try.underlying3
def inI (n : Int) : Prop := -9223372036854775808 ≤ n ∧ n ≤ 9223372036854775807
theorem keyI_of {n : Int} (h : inI n) : keyOf Try.prog 3 (.int .i64 n) = some (.int .i64 n) := Maps.keyOf_int_mk Try.underlying3 (by
  obtain ⟨h1, h2⟩ := h
  simp [Lit.wf, IntKind.min, IntKind.max, IntKind.signed, IntKind.bits]
  omega)
theorem zeroU (w : World) : (zeroValue 107).run Try.prog w = .ok (.agg #[]) w := by kernel_rfl
theorem litI_ne {x n : Int} (h : x ≠ n) : (Lit.int .i64 x) ≠ (Lit.int .i64 n) := fun e => h (by simpa using e)
/-- The set in block M. -/
def SetAt (w : World) (M : Nat) (ks : List Int) : Prop := ∃ D : DataW Unit, w.ownsMap Try.prog 3 unitElem M ks.length D ∧ ks.Nodup ∧ ∀ x, x ∈ ks ↔ Maps.has D (.int .i64 x) = true
section
variable {w w' : World} {M n : Nat} {ks : List Int} {D : DataW Unit}
theorem own_tight (h : w.ownsMap Try.prog 3 unitElem M n D) : w.ownsMap Try.prog 3 unitElem M (Maps.size D) D := by
  obtain ⟨es, clock, hb, F, hs, rfl⟩ := h
  exact ⟨es, clock, hb, F, by rw [Maps.size_eq, length_read]; exact Nat.le_refl _, rfl⟩
theorem own_perm (h : w.ownsMap Try.prog 3 unitElem M n D) (hn : ks.Nodup) (hm : ∀ x, x ∈ ks ↔ Maps.has D (.int .i64 x) = true) : ks.Perm (intKeys D) := by
  obtain ⟨es, hD, hpw, _⟩ := h.entries keyI
  obtain ⟨es', hD', hko⟩ := h.keysOf
  obtain rfl : es = es' := by rw [hD] at hD'; simpa using hD'
  subst hD
  exact perm_intKeys hpw (fun p hp => by obtain ⟨v, hv⟩ := hko p hp; obtain ⟨x, _, hx, _⟩ := Maps.keyOf_i64 Try.underlying3 hv; exact ⟨x, hx⟩) hn hm
theorem own_size (h : w.ownsMap Try.prog 3 unitElem M n D) (hn : ks.Nodup) (hm : ∀ x, x ∈ ks ↔ Maps.has D (.int .i64 x) = true) : Maps.size D = ks.length := by
  have e := (own_perm h hn hm).length_eq
  obtain ⟨es, rfl⟩ := h.isMap
  rw [e, Maps.size_eq]
  exact (List.length_map _).symm
theorem SetAt.mk' (h : w.ownsMap Try.prog 3 unitElem M n D) (hn : ks.Nodup) (hm : ∀ x, x ∈ ks ↔ Maps.has D (.int .i64 x) = true) : SetAt w M ks :=
  ⟨D, by have := own_tight h; rw [own_size h hn hm] at this; exact this, hn, hm⟩
theorem SetAt.lt (h : SetAt w M ks) : M < w.heap.size := by
  obtain ⟨D, h, _⟩ := h
  exact h.lt
theorem SetAt.keep (h : SetAt w M ks) (hk : w'.heap[M]? = w.heap[M]?) : SetAt w' M ks := by
  obtain ⟨D, ⟨es, clock, hb, h⟩, h2⟩ := h
  exact ⟨D, ⟨es, clock, hk.trans hb, h⟩, h2⟩
theorem SetAt.nodup (h : SetAt w M ks) : ks.Nodup := by
  obtain ⟨D, _, h, _⟩ := h
  exact h
/-- A set's block is no row of cells. -/
theorem SetAt.ne (h : SetAt w M ks) {g : Nat} {cs : Array Value} {t : TypeId} {fr : Nat × Nat} (hg : w.heap[g]? = some (.cells cs t fr)) : M ≠ g := fun e => by
  obtain ⟨D, ⟨es, clock, hb, _⟩, _⟩ := h
  rw [e, hg] at hb
  cases hb
theorem set_new (w : World) : SetAt (w.alloc (.map #[] 0)) w.heap.size [] :=
  ⟨.map [], World.ownsMap_made w _ _ _, List.nodup_nil, fun x => by simp [Maps.has_eq]⟩
theorem set_look (h : SetAt w M ks) {x : Int} (hx : inI x) : (Instr.lookup 83 (.map (some M)) (.int .i64 x) true).run Try.prog w = .ok (.tuple #[.agg #[], .bool (decide (x ∈ ks))]) w := by
  obtain ⟨D, h, _, hm⟩ := h
  obtain ⟨v, ps, hr, hv⟩ := h.look_ok keyI Try.underlying83 (zeroU w) unitElem_mk (keyI_of hx)
  obtain ⟨rfl, _⟩ := unitElem_inv hv
  have e : Maps.has D (.int .i64 x) = decide (x ∈ ks) := by
    rw [Bool.eq_iff_iff, decide_eq_true_eq, ← hm x]
  rw [← e]
  exact hr
theorem turned_size {b : Nat} (h : w.mapTurned w' b) : w'.heap.size = w.heap.size := by
  obtain ⟨es, clock, es', clock', hb, rfl⟩ := h
  simp [Go.ChangeMaps.setBlock]
theorem set_put (h : SetAt w M ks) {x : Int} (hx : inI x) (hl : ks.length < maxLen) (hn : x ∉ ks) :
    ∃ w', (Instr.mapUpdate 83 (.map (some M)) (.int .i64 x) (.agg #[])).run Try.prog w = .ok () w' ∧ SetAt w' M (ks ++ [x]) ∧ w.grownBy w' (some M) ∧ w'.heap.size = w.heap.size := by
  obtain ⟨D, h, hnd, hm⟩ := h
  obtain ⟨w', hr, ho, ht⟩ := h.store keyI Try.underlying83 hl (keyI_of hx) unitElem_mk
  refine ⟨w', hr, SetAt.mk' ho ?_ (fun y => ?_), ht.grown, turned_size ht⟩
  · exact List.nodup_append.2 ⟨hnd, by simp, fun a ha b hb => by simp at hb; subst hb; exact fun e => hn (e ▸ ha)⟩
  · rw [List.mem_append, List.mem_singleton]
    by_cases hy : y = x
    · subst hy
      rw [Maps.has_put_same h.isMap (keyI.key (keyI_of hx))]
      simp
    · rw [Maps.has_put_other (litI_ne hy), ← hm y]
      simp [hy]
theorem set_del (h : SetAt w M ks) {x : Int} (hx : inI x) (ty : TypeId) :
    ∃ w', (Builtin.delete_ #[83, 3] ty #[.map (some M), .int .i64 x]).run Try.prog w = .ok (.tuple #[]) w' ∧ SetAt w' M (ks.filter fun y => !(y == x)) ∧ w.grownBy w' (some M) ∧ w'.heap.size = w.heap.size := by
  obtain ⟨D, h, hnd, hm⟩ := h
  obtain ⟨w', hr, ho, ht⟩ := h.drop keyI Try.underlying83 (keyI_of hx) ty
  refine ⟨w', hr, SetAt.mk' ho (hnd.filter _) (fun y => ?_), ht.grown, turned_size ht⟩
  rw [List.mem_filter]
  by_cases hy : y = x
  · subst hy
    rw [Maps.has_del_same]
    simp
  · rw [Maps.has_del_other (litI_ne hy), ← hm y]
    simp [hy]
theorem set_len (h : SetAt w M ks) (ty : TypeId) : (Builtin.len_ #[83] ty #[.map (some M)]).run Try.prog w = .ok (.int .i64 (ks.length : Int)) w := by
  obtain ⟨D, h, hnd, hm⟩ := h
  rw [← own_size h hnd hm]
  exact h.len Try.underlying83 ty
end
end Go.Proofs.Ytmfadmhbkgemmaa
