/-
  A map of any keys to any values, entry by entry: looked into, written, struck from, counted: for any program. The conditions: the key's type is one that the kit knows ('Keyed'), and each key that is used is well formed.
-/
import Derived.Test.YtmfadmhbkgemmaaQPackA
import Derived.Maps.RangeWalk
namespace Go.Proofs.Ytmfadmhbkgemmaa
open Go.RowKit Go.MapKept
open Go.ChangeMaps (setBlock heap_setBlock_same heap_setBlock_other modify_eq_set)
open Go.Maps (Keyed)

/-- How keys and elements lie in a map of a type. -/
structure MapOf (κ α : Type) where
  MT : TypeId
  KT : TypeId
  ET : TypeId
  kv : κ → Value
  ev : α → Value
  ok : κ → Prop
  z : Value
/-- What is asked of it. -/
structure MapOf.Is {κ α : Type} (m : MapOf κ α) : Prop where
  ty : Try.prog.underlying m.MT = some (.map m.KT m.ET)
  K : Keyed Try.prog m.KT
  key : ∀ a, m.ok a → ∃ l, keyOf Try.prog m.KT (m.kv a) = some l
  inj : ∀ a b, m.kv a = m.kv b → a = b
  zero : ∀ w, (zeroValue m.ET).run Try.prog w = .ok m.z w
section
variable {κ α : Type} {m : MapOf κ α} {w w' : World} {M : Nat} {l : List (κ × α)} {es : Array MapEntry} {clock : Nat}
structure MapOf.Ents (m : MapOf κ α) (es : Array MapEntry) (clock : Nat) (l : List (κ × α)) : Prop where
  st : Stamped es clock
  kv : es.toList.map (fun x => (x.key, x.val)) = l.map fun p => (m.kv p.1, m.ev p.2)
  ok : ∀ p ∈ l, m.ok p.1
theorem MapOf.Ents.names (h : m.Ents es clock l) : es.toList.map (·.key) = l.map (fun p => m.kv p.1) := by
  have := congrArg (List.map Prod.fst) h.kv
  rw [List.map_map, List.map_map] at this
  exact this
theorem MapOf.Ents.len (h : m.Ents es clock l) : es.size = l.length := by
  have := congrArg List.length h.kv
  simpa using this
theorem MapOf.Ents.nodup (h : m.Ents es clock l) : (l.map (·.1)).Nodup := by
  have h2 := h.st.2.2
  rw [h.names] at h2
  have e : l.map (fun p => m.kv p.1) = (l.map (·.1)).map m.kv := by rw [List.map_map]; rfl
  rw [e] at h2
  exact List.Pairwise.of_map m.kv (fun a b hab e => hab (by rw [e])) h2
theorem MapOf.Ents.keys (hm : m.Is) (h : m.Ents es clock l) : ∀ x ∈ es.toList, ∃ k, keyOf Try.prog m.KT x.key = some k := fun x hx => by
  have hx2 : x.key ∈ es.toList.map (·.key) := List.mem_map.2 ⟨x, hx, rfl⟩
  rw [h.names] at hx2
  obtain ⟨p, hp, e⟩ := List.mem_map.1 hx2
  rw [← e]
  exact hm.key p.1 (h.ok p hp)
theorem MapOf.Ents.at (h : m.Ents es clock l) {j : Nat} {x : MapEntry} (hx : es.toList[j]? = some x) : ∃ p, l[j]? = some p ∧ x.key = m.kv p.1 ∧ x.val = m.ev p.2 := by
  have h1 : (es.toList.map (fun x => (x.key, x.val)))[j]? = some (x.key, x.val) := by rw [List.getElem?_map, hx]; rfl
  rw [h.kv, List.getElem?_map] at h1
  cases hp : l[j]? with
  | none => rw [hp] at h1; simp at h1
  | some p =>
    rw [hp] at h1
    simp only [Option.map_some, Option.some.injEq, Prod.mk.injEq] at h1
    exact ⟨p, rfl, h1.1.symm, h1.2.symm⟩
/-- The map in block M. -/
def MapOf.At (m : MapOf κ α) (w : World) (M : Nat) (l : List (κ × α)) : Prop := ∃ es clock, w.heap[M]? = some (.map es clock) ∧ m.Ents es clock l
theorem MapOf.At.nodup (h : m.At w M l) : (l.map (·.1)).Nodup := by
  obtain ⟨es, clock, _, hm⟩ := h
  exact hm.nodup
theorem MapOf.At.keep (h : m.At w M l) (he : w'.heap[M]? = w.heap[M]?) : m.At w' M l := by
  obtain ⟨es, clock, hb, hm⟩ := h
  exact ⟨es, clock, he.trans hb, hm⟩
theorem MapOf.At.lt (h : m.At w M l) : M < w.heap.size := by
  obtain ⟨es, clock, hb, _⟩ := h
  exact (Array.getElem?_eq_some_iff.1 hb).1
/-- A map's block is no row of cells. -/
theorem MapOf.At.ne (h : m.At w M l) {g : Nat} {cs : Array Value} {t : TypeId} {fr : Nat × Nat} (hg : w.heap[g]? = some (.cells cs t fr)) : M ≠ g := fun e => by
  obtain ⟨es, clock, hb, _⟩ := h
  rw [e, hg] at hb
  cases hb
theorem MapOf.new (m : MapOf κ α) (w : World) : m.At (w.alloc (.map #[] 0)) w.heap.size [] :=
  ⟨#[], 0, heap_alloc_new w _, ⟨⟨fun x hx => (by cases hx), List.Pairwise.nil, List.Pairwise.nil⟩, rfl, fun p hp => (by cases hp)⟩⟩
variable [DecidableEq κ]
/-- What stands at a key. -/
def lookM (l : List (κ × α)) (n : κ) : Option α := (l.find? fun p => decide (p.1 = n)).map (·.2)
theorem lookM_none {n : κ} (h : ∀ p ∈ l, p.1 ≠ n) : lookM l n = none := by
  unfold lookM
  rw [List.find?_eq_none.2 (fun p hp => by simpa using h p hp)]
  rfl
theorem lookM_some {n : κ} {c : α} (hn : (l.map (·.1)).Nodup) (h : (n, c) ∈ l) : lookM l n = some c := by
  unfold lookM
  induction l with
  | nil => simp at h
  | cons p l ih =>
    rw [List.map_cons, List.nodup_cons] at hn
    rcases List.mem_cons.1 h with rfl | h
    · simp
    · have hne : p.1 ≠ n := fun e => hn.1 (by rw [e]; exact List.mem_map.2 ⟨_, h, rfl⟩)
      rw [List.find?_cons]
      simp only [hne, decide_false]
      exact ih hn.2 h
theorem MapOf.find (hm : m.Is) (h : m.Ents es clock l) {n : κ} (hn : m.ok n) (w : World) : ((Instr.findKey m.KT (m.kv n) es.toList).run Try.prog w = .ok none w ∧ (∀ e ∈ es.toList, e.key ≠ m.kv n) ∧ lookM l n = none) ∨ ∃ j e p, (Instr.findKey m.KT (m.kv n) es.toList).run Try.prog w = .ok (some (j, e.val)) w ∧ es.toList[j]? = some e ∧ e.key = m.kv n ∧ l[j]? = some p ∧ p.1 = n ∧ e.val = m.ev p.2 ∧ lookM l n = some p.2 := by
  obtain ⟨k, hk⟩ := hm.key n hn
  rcases hm.K.find w hk es.toList (h.keys hm) with ⟨h1, h2⟩ | ⟨j, e0, h1, h2, h3⟩
  · refine Or.inl ⟨h1, h2, lookM_none (fun p hp e => ?_)⟩
    have hk2 : m.kv p.1 ∈ es.toList.map (·.key) := by rw [h.names]; exact List.mem_map.2 ⟨p, hp, rfl⟩
    obtain ⟨x, hx, ex⟩ := List.mem_map.1 hk2
    exact h2 x hx (by rw [ex, e])
  · obtain ⟨p, hp, e1, e2⟩ := h.at h2
    have e3 : p.1 = n := hm.inj _ _ (by rw [← e1]; exact h3)
    exact Or.inr ⟨j, e0, p, h1, h2, h3, hp, e3, e2, lookM_some h.nodup (by rw [← e3]; exact List.mem_of_getElem? hp)⟩
/-- The value that a look-up gives. -/
def MapOf.got (m : MapOf κ α) (l : List (κ × α)) (n : κ) : Value := match lookM l n with | some c => m.ev c | none => m.z
theorem MapOf.look2 (hm : m.Is) (h : m.At w M l) {n : κ} (hn : m.ok n) : (Instr.lookup m.MT (.map (some M)) (m.kv n) true).run Try.prog w = .ok (.tuple #[m.got l n, .bool (lookM l n).isSome]) w := by
  obtain ⟨es, clock, hb, he⟩ := h
  obtain ⟨k, hk⟩ := hm.key n hn
  unfold MapOf.got
  rcases MapOf.find hm he hn w with ⟨h1, _, h3⟩ | ⟨j, e0, p, h1, _, _, _, _, h6, h7⟩
  · rw [h3]
    simp [Instr.lookup, run_underlying hm.ty, MapKept.run_getObj_map hb, hm.K.check w _ hk, h1, hm.zero w, Result.andThen]
  · rw [h7]
    simp [Instr.lookup, run_underlying hm.ty, MapKept.run_getObj_map hb, hm.K.check w _ hk, h1, Result.andThen, h6]
theorem MapOf.look1 (hm : m.Is) (h : m.At w M l) {n : κ} (hn : m.ok n) : (Instr.lookup m.MT (.map (some M)) (m.kv n) false).run Try.prog w = .ok (m.got l n) w := by
  obtain ⟨es, clock, hb, he⟩ := h
  obtain ⟨k, hk⟩ := hm.key n hn
  unfold MapOf.got
  rcases MapOf.find hm he hn w with ⟨h1, _, h3⟩ | ⟨j, e0, p, h1, _, _, _, _, h6, h7⟩
  · rw [h3]
    simp [Instr.lookup, run_underlying hm.ty, MapKept.run_getObj_map hb, hm.K.check w _ hk, h1, hm.zero w, Result.andThen]
  · rw [h7]
    simp [Instr.lookup, run_underlying hm.ty, MapKept.run_getObj_map hb, hm.K.check w _ hk, h1, Result.andThen, h6]
/-- A key is given a value. -/
def putM (l : List (κ × α)) (n : κ) (c : α) : List (κ × α) := if (lookM l n).isNone then l ++ [(n, c)] else l.map fun p => if p.1 = n then (n, c) else p
theorem MapOf.put (hm : m.Is) (h : m.At w M l) {n : κ} (hn : m.ok n) (c : α) : ∃ w', (Instr.mapUpdate m.MT (.map (some M)) (m.kv n) (m.ev c)).run Try.prog w = .ok () w' ∧ m.At w' M (putM l n c) ∧ w.grownBy w' (some M) ∧ w'.heap.size = w.heap.size := by
  obtain ⟨es, clock, hb, he⟩ := h
  obtain ⟨k, hk⟩ := hm.key n hn
  have gr : ∀ o, w.grownBy (setBlock w M o) (some M) := fun o => ⟨rfl, rfl, rfl, by simp [setBlock], fun i _ hi => heap_setBlock_other hb _ (fun e => hi (by rw [e]))⟩
  rcases MapOf.find hm he hn w with ⟨h1, h2, h3⟩ | ⟨j, e0, p, h1, h2, h3, hp, hpn, h6, h7⟩
  · refine ⟨setBlock w M (.map (es.push ⟨m.kv n, m.ev c, clock⟩) (clock + 1)), ?_, ⟨_, _, heap_setBlock_same hb _, stamped_push he.st h2, ?_, ?_⟩, gr _, by simp [setBlock]⟩
    · simp [Instr.mapUpdate, run_underlying hm.ty, MapKept.run_getObj_map hb, hm.K.check w false hk, h1, MapKept.run_setObj_map _ hb, Result.andThen, setBlock]
    · unfold putM
      rw [if_pos (show (lookM l n).isNone = true by rw [h3]; rfl), Array.toList_push, List.map_append, List.map_append, he.kv]
      rfl
    · unfold putM
      rw [if_pos (show (lookM l n).isNone = true by rw [h3]; rfl)]
      intro q hq
      rw [List.mem_append, List.mem_singleton] at hq
      rcases hq with hq | rfl
      · exact he.ok q hq
      · exact hn
  · have hj : es[j]? = some e0 := by simpa using h2
    have hjl : j < l.length := (List.getElem?_eq_some_iff.1 hp).1
    have hpj : l[j] = p := (List.getElem?_eq_some_iff.1 hp).2
    have hlist : (es.modify j (fun e' => { e' with key := m.kv n, val := m.ev c })).toList = es.toList.set j { e0 with key := m.kv n, val := m.ev c } := by rw [Array.toList_modify, modify_eq_set _ _ _ _ h2]
    refine ⟨setBlock w M (.map (es.modify j (fun e' => { e' with key := m.kv n, val := m.ev c })) clock), ?_, ⟨_, _, heap_setBlock_same hb _, stamped_modify he.st _ _ (fun _ _ => rfl) (fun e' _ he' => by rw [hj] at he'; cases he'; exact h3.symm), ?_, ?_⟩, gr _, by simp [setBlock]⟩
    · simp [Instr.mapUpdate, run_underlying hm.ty, MapKept.run_getObj_map hb, hm.K.check w false hk, h1, hj, h3, hm.K.stays w hk, MapKept.run_setObj_map _ hb, Result.andThen, setBlock]
    · unfold putM
      rw [if_neg (show ¬ (lookM l n).isNone = true by rw [h7]; simp), hlist, List.map_set, he.kv]
      apply List.ext_getElem
      · simp
      · intro i h4 h5
        rw [List.getElem_set]
        simp only [List.getElem_map]
        have hil : i < l.length := by simpa using h5
        by_cases hij : j = i
        · subst hij
          rw [if_pos rfl, if_pos (by rw [hpj]; exact hpn)]
        · rw [if_neg hij]
          have hne : ¬ l[i].1 = n := fun e' => by
            have hnd := List.pairwise_iff_getElem.1 he.nodup
            have hab : (l.map (·.1))[j]'(by simpa using hjl) = (l.map (·.1))[i]'(by simpa using hil) := by
              rw [List.getElem_map, List.getElem_map, hpj, hpn, e']
            rcases Nat.lt_or_gt_of_ne hij with h | h
            · exact hnd j i (by simpa using hjl) (by simpa using hil) h hab
            · exact hnd i j (by simpa using hil) (by simpa using hjl) h hab.symm
          rw [if_neg hne]
    · unfold putM
      rw [if_neg (show ¬ (lookM l n).isNone = true by rw [h7]; simp)]
      intro q hq
      obtain ⟨r, hr, rfl⟩ := List.mem_map.1 hq
      by_cases hrn : r.1 = n
      · rw [if_pos hrn]
        exact hn
      · rw [if_neg hrn]
        exact he.ok r hr
/-- What stands at a key behind a writing. -/
theorem lookM_put (l : List (κ × α)) (n : κ) (c : α) (x : κ) : lookM (putM l n c) x = if x = n then some c else lookM l x := by
  unfold putM
  cases h : lookM l n with
  | none =>
    rw [if_pos (show (none : Option α).isNone = true from rfl)]
    unfold lookM
    rw [List.find?_append]
    have hx : ∀ p ∈ l, p.1 ≠ n := fun p hp e => by
      unfold lookM at h
      rw [Option.map_eq_none_iff, List.find?_eq_none] at h
      simpa [e] using h p hp
    by_cases hxn : x = n
    · subst hxn
      rw [List.find?_eq_none.2 (fun p hp => by simpa using hx p hp)]
      simp
    · rw [if_neg hxn]
      cases l.find? (fun p => decide (p.1 = x)) with
      | none => simp [show ¬ n = x from fun e => hxn e.symm]
      | some p => rfl
  | some d =>
    rw [if_neg (by simp)]
    have key : ∀ l : List (κ × α), (∃ p ∈ l, p.1 = n) → lookM (l.map fun p => if p.1 = n then (n, c) else p) x = if x = n then some c else lookM l x := by
      intro l
      induction l with
      | nil => intro ⟨p, hp, _⟩; cases hp
      | cons p l ih =>
        intro hp
        unfold lookM at ih ⊢
        rw [List.map_cons, List.find?_cons, List.find?_cons]
        by_cases hpn : p.1 = n
        · rw [if_pos hpn]
          by_cases hxn : x = n
          · subst hxn
            simp
          · rw [if_neg hxn]
            simp only [show ¬ n = x from fun e => hxn e.symm, show ¬ p.1 = x from fun e => hxn (by rw [← e]; exact hpn), decide_false]
            by_cases hq : ∃ q ∈ l, q.1 = n
            · have := ih hq
              rw [if_neg hxn] at this
              exact this
            · have e : (l.map fun p => if p.1 = n then (n, c) else p) = l := by
                conv => rhs; rw [← List.map_id l]
                exact List.map_congr_left (fun q hq2 => if_neg (fun e => hq ⟨q, hq2, e⟩))
              rw [e]
        · rw [if_neg hpn]
          by_cases hpx : p.1 = x
          · simp only [hpx, decide_true]
            rw [if_neg (fun e => hpn (by rw [hpx]; exact e))]
          · simp only [hpx, decide_false]
            obtain ⟨q, hq, hqn⟩ := hp
            rcases List.mem_cons.1 hq with rfl | hq
            · exact absurd hqn hpn
            · exact ih ⟨q, hq, hqn⟩
    refine key l ?_
    unfold lookM at h
    cases hf : l.find? (fun p => decide (p.1 = n)) with
    | none => rw [hf] at h; cases h
    | some p => exact ⟨p, List.mem_of_find?_eq_some hf, by simpa using List.find?_some hf⟩
end
end Go.Proofs.Ytmfadmhbkgemmaa
