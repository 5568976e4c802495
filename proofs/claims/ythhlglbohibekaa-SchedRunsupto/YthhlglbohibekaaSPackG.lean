/-
  Parts of the proof, laid together: GMap, GIface, CwPlain, CwMem, CwHas, CwAll, CwNew, CwAt. The conditions stand at each part.
-/
import Derived.Maps.RangeWalk
import Derived.DeepKeys4
import Derived.Test.YthhlglbohibekaaSPackA
import Derived.Test.YthhlglbohibekaaSPackB
namespace Go.Proofs.Ythhlglbohibekaa
open Go.RowKit Go.MapKept
open Go.ChangeMaps (setBlock heap_setBlock_same heap_setBlock_other modify_eq_set)
open Go.Maps (Keyed)

structure MapOf (κ α : Type) where
  MT : TypeId
  KT : TypeId
  ET : TypeId
  kv : κ → Value
  ev : α → Value
  ok : κ → Prop
  z : Value
structure MapOf.Is {κ α : Type} (m : MapOf κ α) : Prop where
  ty : Try.prog.underlying m.MT = some (.map m.KT m.ET)
  K : Keyed Try.prog m.KT
  key : ∀ a, m.ok a → ∃ l, keyOf Try.prog m.KT (m.kv a) = some l
  inj : ∀ a b, m.kv a = m.kv b → a = b
  zero : ∀ w, (zeroValue m.ET).run Try.prog w = .ok m.z w
section
variable {κ α : Type} {m : MapOf κ α} {w w' : World} {M : Nat} {l : List (κ × α)} {es : Array MapEntry} {clock : Nat}
structure MapOf.Ents (m : MapOf κ α) (es : Array MapEntry) (clock : Nat) (l : List (κ × α)) : Prop where
  st : Stamped es clock
  kv : es.toList.map (fun x => (x.key, x.val)) = l.map fun p => (m.kv p.1, m.ev p.2)
  ok : ∀ p ∈ l, m.ok p.1
theorem MapOf.Ents.names (h : m.Ents es clock l) : es.toList.map (·.key) = l.map (fun p => m.kv p.1) := by
  have := congrArg (List.map Prod.fst) h.kv
  rw [List.map_map, List.map_map] at this
  exact this
theorem MapOf.Ents.len (h : m.Ents es clock l) : es.size = l.length := by
  have := congrArg List.length h.kv
  simpa using this
theorem MapOf.Ents.nodup (h : m.Ents es clock l) : (l.map (·.1)).Nodup := by
  have h2 := h.st.2.2
  rw [h.names] at h2
  have e : l.map (fun p => m.kv p.1) = (l.map (·.1)).map m.kv := by rw [List.map_map]; rfl
  rw [e] at h2
  exact List.Pairwise.of_map m.kv (fun a b hab e => hab (by rw [e])) h2
theorem MapOf.Ents.keys (hm : m.Is) (h : m.Ents es clock l) : ∀ x ∈ es.toList, ∃ k, keyOf Try.prog m.KT x.key = some k := fun x hx => by
  have hx2 : x.key ∈ es.toList.map (·.key) := List.mem_map.2 ⟨x, hx, rfl⟩
  rw [h.names] at hx2
  obtain ⟨p, hp, e⟩ := List.mem_map.1 hx2
  rw [← e]
  exact hm.key p.1 (h.ok p hp)
theorem MapOf.Ents.at (h : m.Ents es clock l) {j : Nat} {x : MapEntry} (hx : es.toList[j]? = some x) : ∃ p, l[j]? = some p ∧ x.key = m.kv p.1 ∧ x.val = m.ev p.2 := by
  have h1 : (es.toList.map (fun x => (x.key, x.val)))[j]? = some (x.key, x.val) := by rw [List.getElem?_map, hx]; rfl
  rw [h.kv, List.getElem?_map] at h1
  cases hp : l[j]? with
  | none => rw [hp] at h1; simp at h1
  | some p =>
    rw [hp] at h1
    simp only [Option.map_some, Option.some.injEq, Prod.mk.injEq] at h1
    exact ⟨p, rfl, h1.1.symm, h1.2.symm⟩
def MapOf.At (m : MapOf κ α) (w : World) (M : Nat) (l : List (κ × α)) : Prop := ∃ es clock, w.heap[M]? = some (.map es clock) ∧ m.Ents es clock l
theorem MapOf.At.nodup (h : m.At w M l) : (l.map (·.1)).Nodup := by
  obtain ⟨es, clock, _, hm⟩ := h
  exact hm.nodup
theorem MapOf.At.keep (h : m.At w M l) (he : w'.heap[M]? = w.heap[M]?) : m.At w' M l := by
  obtain ⟨es, clock, hb, hm⟩ := h
  exact ⟨es, clock, he.trans hb, hm⟩
theorem MapOf.At.lt (h : m.At w M l) : M < w.heap.size := by
  obtain ⟨es, clock, hb, _⟩ := h
  exact (Array.getElem?_eq_some_iff.1 hb).1
theorem MapOf.At.ne (h : m.At w M l) {g : Nat} {cs : Array Value} {t : TypeId} {fr : Nat × Nat} (hg : w.heap[g]? = some (.cells cs t fr)) : M ≠ g := fun e => by
  obtain ⟨es, clock, hb, _⟩ := h
  rw [e, hg] at hb
  cases hb
theorem MapOf.new (m : MapOf κ α) (w : World) : m.At (w.alloc (.map #[] 0)) w.heap.size [] :=
  ⟨#[], 0, heap_alloc_new w _, ⟨⟨fun x hx => (by cases hx), List.Pairwise.nil, List.Pairwise.nil⟩, rfl, fun p hp => (by cases hp)⟩⟩
variable [DecidableEq κ]
def lookM (l : List (κ × α)) (n : κ) : Option α := (l.find? fun p => decide (p.1 = n)).map (·.2)
theorem lookM_none {n : κ} (h : ∀ p ∈ l, p.1 ≠ n) : lookM l n = none := by
  unfold lookM
  rw [List.find?_eq_none.2 (fun p hp => by simpa using h p hp)]
  rfl
theorem lookM_some {n : κ} {c : α} (hn : (l.map (·.1)).Nodup) (h : (n, c) ∈ l) : lookM l n = some c := by
  unfold lookM
  induction l with
  | nil => simp at h
  | cons p l ih =>
    rw [List.map_cons, List.nodup_cons] at hn
    rcases List.mem_cons.1 h with rfl | h
    · simp
    · have hne : p.1 ≠ n := fun e => hn.1 (by rw [e]; exact List.mem_map.2 ⟨_, h, rfl⟩)
      rw [List.find?_cons]
      simp only [hne, decide_false]
      exact ih hn.2 h
theorem MapOf.find (hm : m.Is) (h : m.Ents es clock l) {n : κ} (hn : m.ok n) (w : World) : ((Instr.findKey m.KT (m.kv n) es.toList).run Try.prog w = .ok none w ∧ (∀ e ∈ es.toList, e.key ≠ m.kv n) ∧ lookM l n = none) ∨ ∃ j e p, (Instr.findKey m.KT (m.kv n) es.toList).run Try.prog w = .ok (some (j, e.val)) w ∧ es.toList[j]? = some e ∧ e.key = m.kv n ∧ l[j]? = some p ∧ p.1 = n ∧ e.val = m.ev p.2 ∧ lookM l n = some p.2 := by
  obtain ⟨k, hk⟩ := hm.key n hn
  rcases hm.K.find w hk es.toList (h.keys hm) with ⟨h1, h2⟩ | ⟨j, e0, h1, h2, h3⟩
  · refine Or.inl ⟨h1, h2, lookM_none (fun p hp e => ?_)⟩
    have hk2 : m.kv p.1 ∈ es.toList.map (·.key) := by rw [h.names]; exact List.mem_map.2 ⟨p, hp, rfl⟩
    obtain ⟨x, hx, ex⟩ := List.mem_map.1 hk2
    exact h2 x hx (by rw [ex, e])
  · obtain ⟨p, hp, e1, e2⟩ := h.at h2
    have e3 : p.1 = n := hm.inj _ _ (by rw [← e1]; exact h3)
    exact Or.inr ⟨j, e0, p, h1, h2, h3, hp, e3, e2, lookM_some h.nodup (by rw [← e3]; exact List.mem_of_getElem? hp)⟩
def MapOf.got (m : MapOf κ α) (l : List (κ × α)) (n : κ) : Value := match lookM l n with | some c => m.ev c | none => m.z
theorem MapOf.look2 (hm : m.Is) (h : m.At w M l) {n : κ} (hn : m.ok n) : (Instr.lookup m.MT (.map (some M)) (m.kv n) true).run Try.prog w = .ok (.tuple #[m.got l n, .bool (lookM l n).isSome]) w := by
  obtain ⟨es, clock, hb, he⟩ := h
  obtain ⟨k, hk⟩ := hm.key n hn
  unfold MapOf.got
  rcases MapOf.find hm he hn w with ⟨h1, _, h3⟩ | ⟨j, e0, p, h1, _, _, _, _, h6, h7⟩
  · rw [h3]
    simp [Instr.lookup, run_underlying hm.ty, MapKept.run_getObj_map hb, hm.K.check w _ hk, h1, hm.zero w, Result.andThen]
  · rw [h7]
    simp [Instr.lookup, run_underlying hm.ty, MapKept.run_getObj_map hb, hm.K.check w _ hk, h1, Result.andThen, h6]
def putM (l : List (κ × α)) (n : κ) (c : α) : List (κ × α) := if (lookM l n).isNone then l ++ [(n, c)] else l.map fun p => if p.1 = n then (n, c) else p
theorem MapOf.put (hm : m.Is) (h : m.At w M l) {n : κ} (hn : m.ok n) (c : α) : ∃ w', (Instr.mapUpdate m.MT (.map (some M)) (m.kv n) (m.ev c)).run Try.prog w = .ok () w' ∧ m.At w' M (putM l n c) ∧ w.grownBy w' (some M) ∧ w'.heap.size = w.heap.size := by
  obtain ⟨es, clock, hb, he⟩ := h
  obtain ⟨k, hk⟩ := hm.key n hn
  have gr : ∀ o, w.grownBy (setBlock w M o) (some M) := fun o => ⟨rfl, rfl, rfl, by simp [setBlock], fun i _ hi => heap_setBlock_other hb _ (fun e => hi (by rw [e]))⟩
  rcases MapOf.find hm he hn w with ⟨h1, h2, h3⟩ | ⟨j, e0, p, h1, h2, h3, hp, hpn, h6, h7⟩
  · refine ⟨setBlock w M (.map (es.push ⟨m.kv n, m.ev c, clock⟩) (clock + 1)), ?_, ⟨_, _, heap_setBlock_same hb _, stamped_push he.st h2, ?_, ?_⟩, gr _, by simp [setBlock]⟩
    · simp [Instr.mapUpdate, run_underlying hm.ty, MapKept.run_getObj_map hb, hm.K.check w false hk, h1, MapKept.run_setObj_map _ hb, Result.andThen, setBlock]
    · unfold putM
      rw [if_pos (show (lookM l n).isNone = true by rw [h3]; rfl), Array.toList_push, List.map_append, List.map_append, he.kv]
      rfl
    · unfold putM
      rw [if_pos (show (lookM l n).isNone = true by rw [h3]; rfl)]
      intro q hq
      rw [List.mem_append, List.mem_singleton] at hq
      rcases hq with hq | rfl
      · exact he.ok q hq
      · exact hn
  · have hj : es[j]? = some e0 := by simpa using h2
    have hjl : j < l.length := (List.getElem?_eq_some_iff.1 hp).1
    have hpj : l[j] = p := (List.getElem?_eq_some_iff.1 hp).2
    have hlist : (es.modify j (fun e' => { e' with key := m.kv n, val := m.ev c })).toList = es.toList.set j { e0 with key := m.kv n, val := m.ev c } := by rw [Array.toList_modify, modify_eq_set _ _ _ _ h2]
    refine ⟨setBlock w M (.map (es.modify j (fun e' => { e' with key := m.kv n, val := m.ev c })) clock), ?_, ⟨_, _, heap_setBlock_same hb _, stamped_modify he.st _ _ (fun _ _ => rfl) (fun e' _ he' => by rw [hj] at he'; cases he'; exact h3.symm), ?_, ?_⟩, gr _, by simp [setBlock]⟩
    · simp [Instr.mapUpdate, run_underlying hm.ty, MapKept.run_getObj_map hb, hm.K.check w false hk, h1, hj, h3, hm.K.stays w hk, MapKept.run_setObj_map _ hb, Result.andThen, setBlock]
    · unfold putM
      rw [if_neg (show ¬ (lookM l n).isNone = true by rw [h7]; simp), hlist, List.map_set, he.kv]
      apply List.ext_getElem
      · simp
      · intro i h4 h5
        rw [List.getElem_set]
        simp only [List.getElem_map]
        have hil : i < l.length := by simpa using h5
        by_cases hij : j = i
        · subst hij
          rw [if_pos rfl, if_pos (by rw [hpj]; exact hpn)]
        · rw [if_neg hij]
          have hne : ¬ l[i].1 = n := fun e' => by
            have hnd := List.pairwise_iff_getElem.1 he.nodup
            have hab : (l.map (·.1))[j]'(by simpa using hjl) = (l.map (·.1))[i]'(by simpa using hil) := by
              rw [List.getElem_map, List.getElem_map, hpj, hpn, e']
            rcases Nat.lt_or_gt_of_ne hij with h | h
            · exact hnd j i (by simpa using hjl) (by simpa using hil) h hab
            · exact hnd i j (by simpa using hil) (by simpa using hjl) h hab.symm
          rw [if_neg hne]
    · unfold putM
      rw [if_neg (show ¬ (lookM l n).isNone = true by rw [h7]; simp)]
      intro q hq
      obtain ⟨r, hr, rfl⟩ := List.mem_map.1 hq
      by_cases hrn : r.1 = n
      · rw [if_pos hrn]
        exact hn
      · rw [if_neg hrn]
        exact he.ok r hr
end
end Go.Proofs.Ythhlglbohibekaa
namespace Go.Proofs.Ythhlglbohibekaa
open Go.RowKit

set_option maxRecDepth 100000 in
theorem wp_invoke {o : Oper} {a : Act} {w : World} {K : Act → World → Prop} {Q : Exit → Act → World → Prop} (r : Operand) (name : String) (args : Array Operand) (ts : Array TypeId) (ho : o.op = .call { callee := .invoke r name, args := args, argTypes := ts }) (T : TypeId) (v v' : Value) (f : FuncId) (hr : a.eval r = .iface T v) (hm : ∀ w, (method (Try.prog.types.size + Made.depth) T v name).run Try.prog w = .ok (f, v') w) (o' : Oper) (ho' : o' = { o with op := .call { callee := .value (.func f), args := #[.const v'] ++ args, argTypes := #[T] ++ ts } }) (h : o'.wp Try.prog a w K Q) : o.wp Try.prog a w K Q := by
  subst ho'
  have e1 : (execOp a.eval o).run Try.prog w = (callFunc f (#[v'] ++ args.map a.eval)).run Try.prog w := by
    unfold execOp
    have h0 : (#[Value.iface T v] ++ Array.map a.eval args)[0]? = some (.iface T v) := by
      rw [Array.getElem?_append_left (by simp)]
      rfl
    have hx : (#[Value.iface T v] ++ Array.map a.eval args).extract 1 (#[Value.iface T v] ++ Array.map a.eval args).size = Array.map a.eval args := by
      rw [Array.extract_append]
      simp
    simp only [ho, resolve, invoke, hr, Sem.run_bind, Sem.run_pure, Result.andThen_ok, h0, hx]
    unfold callMethod
    simp only [Sem.run_bind, run_program, Result.andThen_ok, hm]
  have e2 : (execOp a.eval { o with op := .call { callee := .value (.func f), args := #[.const v'] ++ args, argTypes := #[T] ++ ts } }).run Try.prog w = (callFunc f (#[v'] ++ args.map a.eval)).run Try.prog w := by
    unfold execOp
    simp [resolve, invoke, Deferred.ofValue, Act.eval]
  unfold Oper.wp at h ⊢
  rw [e1]
  rw [e2] at h
  exact h
theorem wf_i64 {a : Int} (h : okI a) : (Lit.int .i64 a).wf = true := by
  obtain ⟨h1, h2⟩ := h
  simp [Lit.wf, IntKind.min, IntKind.max, IntKind.signed, IntKind.bits]
  omega
theorem kl_int {t : TypeId} {n : Int} (d : Nat) (hu : Try.prog.underlying t = some (.int .i64)) (h : okI n) : Try.prog.keyLits (d + 1) t [.int .i64 n] = some [.int .i64 n] := by
  simp [Program.keyLits, hu, wf_i64 h]
end Go.Proofs.Ythhlglbohibekaa
namespace Go.Proofs.Ythhlglbohibekaa
open Go.RowKit

def trN (f : Nat → Bool) : Nat → Nat → Nat
  | 0, j => if f j = true then 1 else 0
  | h + 1, j => trN f h (2 * j) + trN f h (2 * j + 1)
def lvN (f : Nat → Bool) : Nat → Nat → List Nat
  | 0, j => if f j = true then [j] else []
  | h + 1, j => lvN f h (2 * j) ++ lvN f h (2 * j + 1)
def selN (f : Nat → Bool) : Nat → Nat → Nat → Nat
  | 0, j, _ => j
  | h + 1, j, p => if p < trN f h (2 * j) then selN f h (2 * j) p else selN f h (2 * j + 1) (p - trN f h (2 * j))
def setF (f : Nat → Bool) (x : Nat) (b : Bool) : Nat → Bool := fun y => if y = x then b else f y
theorem lvN_len (f : Nat → Bool) : ∀ h j, (lvN f h j).length = trN f h j
  | 0, j => by
    unfold lvN trN
    split
    · rfl
    · rfl
  | h + 1, j => by
    unfold lvN trN
    rw [List.length_append, lvN_len f h, lvN_len f h]
theorem trN_le (f : Nat → Bool) : ∀ h j, trN f h j ≤ 2 ^ h
  | 0, j => by
    unfold trN
    split
    · exact Nat.le_refl _
    · exact Nat.zero_le _
  | h + 1, j => by
    have h1 := trN_le f h (2 * j)
    have h2 := trN_le f h (2 * j + 1)
    unfold trN
    rw [Nat.pow_succ]
    omega
theorem half (x h : Nat) : x / 2 ^ (h + 1) = x / 2 ^ h / 2 := by rw [Nat.pow_succ, Nat.div_div_eq_div_mul]
theorem trN_out (f : Nat → Bool) (x : Nat) (b : Bool) : ∀ h j, x / 2 ^ h ≠ j → trN (setF f x b) h j = trN f h j
  | 0, j, hj => by
    unfold trN setF
    rw [Nat.pow_zero, Nat.div_one] at hj
    rw [if_neg (show ¬ j = x from fun e => hj e.symm)]
  | h + 1, j, hj => by
    rw [half] at hj
    unfold trN
    rw [trN_out f x b h (2 * j) (by omega), trN_out f x b h (2 * j + 1) (by omega)]
theorem trN_in (f : Nat → Bool) (x : Nat) (b : Bool) (z : Int) (hz : (if b = true then (1 : Int) else 0) = (if f x = true then 1 else 0) + z) : ∀ h, (trN (setF f x b) h (x / 2 ^ h) : Int) = trN f h (x / 2 ^ h) + z
  | 0 => by
    rw [Nat.pow_zero, Nat.div_one]
    unfold trN setF
    rw [if_pos rfl]
    generalize f x = g at *
    cases b
    · cases g
      · simpa using hz
      · simpa using hz
    · cases g
      · simpa using hz
      · simpa using hz
  | h + 1 => by
    have ih := trN_in f x b z hz h
    have h1 := trN_out f x b h (x / 2 ^ h + 1) (by omega)
    have h2 := trN_out f x b h (x / 2 ^ h - 1)
    rw [half]
    unfold trN
    by_cases hy : x / 2 ^ h % 2 = 0
    · have e : 2 * (x / 2 ^ h / 2) = x / 2 ^ h := by omega
      rw [e, h1]
      omega
    · have e : 2 * (x / 2 ^ h / 2) + 1 = x / 2 ^ h := by omega
      have e2 : 2 * (x / 2 ^ h / 2) = x / 2 ^ h - 1 := by omega
      rw [e, e2, h2 (by omega)]
      omega
theorem lvN_sel (f : Nat → Bool) : ∀ h j p, p < trN f h j → (lvN f h j)[p]? = some (selN f h j p)
  | 0, j, p, hp => by
    unfold trN at hp
    unfold lvN selN
    split
    · rename_i hf
      rw [if_pos hf] at hp
      have e : p = 0 := by omega
      subst e
      rfl
    · rename_i hf
      rw [if_neg hf] at hp
      omega
  | h + 1, j, p, hp => by
    have h1 := lvN_sel f h (2 * j) p
    have h2 := lvN_sel f h (2 * j + 1) (p - trN f h (2 * j))
    have hl := lvN_len f h (2 * j)
    unfold trN at hp
    unfold lvN selN
    by_cases hq : p < trN f h (2 * j)
    · rw [if_pos hq, List.getElem?_append_left (by omega)]
      exact h1 hq
    · rw [if_neg hq, List.getElem?_append_right (by omega), hl]
      exact h2 (by omega)
theorem lvN_range (f : Nat → Bool) : ∀ h j, lvN f h j = (List.range' (j * 2 ^ h) (2 ^ h)).filter f
  | 0, j => by
    unfold lvN
    rw [Nat.pow_zero, Nat.mul_one]
    show _ = List.filter f [j]
    rw [List.filter_cons, List.filter_nil]
  | h + 1, j => by
    unfold lvN
    rw [lvN_range f h, lvN_range f h, ← List.filter_append]
    have e : 2 * j * 2 ^ h + 2 ^ h = (2 * j + 1) * 2 ^ h := by rw [Nat.add_mul, Nat.one_mul]
    have e2 : j * 2 ^ (h + 1) = 2 * j * 2 ^ h := by rw [Nat.pow_succ, Nat.mul_comm (2 ^ h) 2, ← Nat.mul_assoc, Nat.mul_comm j 2]
    have e3 : 2 ^ (h + 1) = 2 ^ h + 2 ^ h := by rw [Nat.pow_succ]; omega
    have e4 := @List.range'_append_1 (2 * j * 2 ^ h) (2 ^ h) (2 ^ h)
    rw [e] at e4
    rw [e4, e2, e3]
theorem lvN_all (f : Nat → Bool) (d : Nat) : lvN f d 0 = (List.range (2 ^ d)).filter f := by
  rw [lvN_range, Nat.zero_mul, List.range_eq_range']
theorem trN_zero (h j : Nat) : trN (fun _ => false) h j = 0 := by
  induction h generalizing j with
  | zero => rfl
  | succ h ih => unfold trN; rw [ih, ih]
end Go.Proofs.Ythhlglbohibekaa
namespace Go.Proofs.Ythhlglbohibekaa
open Go.RowKit

structure CrAt (w : World) (b d : Nat) (f : Nat → Bool) : Prop where
  ex : ∃ cur, w.heap[b]? = some (.cells cur 3 (0, 0)) ∧ cur.size = 2 * 2 ^ d ∧ ∀ h j, h ≤ d → j < 2 ^ (d - h) → cur[2 ^ (d - h) + j]? = some (.int .i64 (trN f h j : Int))
def crV (b W : Nat) : Value := .agg #[.slice (some ⟨b, 0, none⟩) (2 * W) (2 * W)]
section
variable {w w' : World} {b d : Nat} {f : Nat → Bool}
theorem CrAt.keep (h : CrAt w b d f) (hk : w'.heap[b]? = w.heap[b]?) : CrAt w' b d f := by
  obtain ⟨cur, h1, h2⟩ := h.ex
  exact ⟨cur, hk.trans h1, h2⟩
theorem CrAt.lt (h : CrAt w b d f) : b < w.heap.size := by
  obtain ⟨cur, h1, _⟩ := h.ex
  exact lt_of_block h1
theorem CrAt.fresh (h : CrAt w b d f) (k : Below w.heap.size w w') : CrAt w' b d f := h.keep (k.block b h.lt)
theorem CrAt.cell (h : CrAt w b d f) {k j : Nat} (hk : k ≤ d) (hj : j < 2 ^ (d - k)) : w.cell? ⟨b, 2 ^ (d - k) + j, none⟩ = some (.int .i64 (trN f k j : Int)) := by
  obtain ⟨cur, h1, _, h3⟩ := h.ex
  rw [cell_of_row w b _ cur 3 (0, 0) h1]
  have := h3 k j hk hj
  simpa using this
theorem CrAt.top (h : CrAt w b d f) : w.cell? ⟨b, 1, none⟩ = some (.int .i64 (trN f d 0 : Int)) := by
  have := h.cell (Nat.le_refl d) (j := 0) (by rw [Nat.sub_self]; decide)
  rw [Nat.sub_self] at this
  exact this
set_option maxHeartbeats 3200000 in
set_option maxRecDepth 100000 in
theorem cr_width (b W : Nat) (hW : W ≤ 65536) (w : World) : Calls Try.prog 45 #[crV b W] w fun e w' => e = .returned (.int .i64 (W : Int)) ∧ Below w.heap.size w w' := by
  unfold crV
  go_enter Try.func45, Try.ntmps45
  go_wp2
  go_ret
  exact ⟨rfl, (Below.refl _ _).alloc (Nat.le_refl _) _⟩
set_option maxHeartbeats 3200000 in
set_option maxRecDepth 100000 in
theorem cr_size (h : CrAt w b d f) (hW : 2 ^ d ≤ 65536) : Calls Try.prog 41 #[crV b (2 ^ d)] w fun e w' => e = .returned (.int .i64 (trN f d 0 : Int)) ∧ Below w.heap.size w w' := by
  unfold crV
  have h0 : 0 < 2 ^ d := Nat.pow_pos (by decide)
  have z1 := h.top
  have hb := h.lt
  have HC : Hid _ := h
  clear h
  generalize 2 ^ d = W at *
  have q0 : ((W : Int) == 0) = false := beq_eq_false_iff_ne.2 (by omega)
  generalize trN f d 0 = t at *
  go_enter Try.func41, Try.ntmps41
  go_wp2
  go_ret
  exact ⟨rfl, (Below.refl _ _).alloc (Nat.le_refl _) _⟩
end
def nodeN (d x k : Nat) : Nat := if k ≤ d then 2 ^ (d - k) + x / 2 ^ k else 0
theorem nodeN_half (d x k : Nat) (hk : k ≤ d) (hx : x < 2 ^ d) : nodeN d x k / 2 = nodeN d x (k + 1) := by
  unfold nodeN
  rw [if_pos hk]
  by_cases hd : k = d
  · subst hd
    rw [if_neg (by omega), Nat.sub_self, Nat.div_eq_of_lt hx]
  · rw [if_pos (by omega), half]
    have e : 2 ^ (d - k) = 2 * 2 ^ (d - (k + 1)) := by
      rw [show d - k = (d - (k + 1)) + 1 by omega, Nat.pow_succ, Nat.mul_comm]
    rw [e]
    omega
theorem nodeN_pos (d x k : Nat) (hk : k ≤ d) : 0 < nodeN d x k := by
  unfold nodeN
  rw [if_pos hk]
  exact Nat.lt_of_lt_of_le (Nat.pow_pos (by decide)) (Nat.le_add_right _ _)
theorem part_lt (d x k : Nat) (hk : k ≤ d) (hx : x < 2 ^ d) : x / 2 ^ k < 2 ^ (d - k) := by
  rw [Nat.div_lt_iff_lt_mul (Nat.pow_pos (by decide)), ← Nat.pow_add]
  rw [show d - k + k = d by omega]
  exact hx
theorem nodeN_lt (d x k : Nat) (hk : k ≤ d) (hx : x < 2 ^ d) : nodeN d x k < 2 * 2 ^ d := by
  have h1 := part_lt d x k hk hx
  unfold nodeN
  rw [if_pos hk]
  have h2 : 2 ^ (d - k) ≤ 2 ^ d := Nat.pow_le_pow_right (by decide) (by omega)
  omega
theorem level_ne {d h k i j : Nat} (hh : h ≤ d) (hk : k ≤ d) (hi : i < 2 ^ (d - h)) (hj : j < 2 ^ (d - k)) (e : 2 ^ (d - h) + i = 2 ^ (d - k) + j) : h = k ∧ i = j := by
  rcases Nat.lt_trichotomy h k with hl | hl | hl
  · have h1 : 2 ^ (d - k) * 2 ≤ 2 ^ (d - h) := by
      rw [← Nat.pow_succ]
      exact Nat.pow_le_pow_right (by decide) (by omega)
    omega
  · subst hl
    exact ⟨rfl, by omega⟩
  · have h1 : 2 ^ (d - h) * 2 ≤ 2 ^ (d - k) := by
      rw [← Nat.pow_succ]
      exact Nat.pow_le_pow_right (by decide) (by omega)
    omega
structure CMix (w : World) (b d : Nat) (f g : Nat → Bool) (k : Nat) : Prop where
  ex : ∃ cur, w.heap[b]? = some (.cells cur 3 (0, 0)) ∧ cur.size = 2 * 2 ^ d ∧ ∀ h j, h ≤ d → j < 2 ^ (d - h) → cur[2 ^ (d - h) + j]? = some (.int .i64 (trN (if h < k then g else f) h j : Int))
section
variable {w w' : World} {b d : Nat} {f g : Nat → Bool}
theorem CMix.cell {k : Nat} (h : CMix w b d f g k) (x : Nat) (hk : k ≤ d) (hx : x < 2 ^ d) : w.cell? ⟨b, nodeN d x k, none⟩ = some (.int .i64 (trN f k (x / 2 ^ k) : Int)) ∧ w.frozen? ⟨b, nodeN d x k, none⟩ = false ∧ b < w.heap.size := by
  obtain ⟨cur, h1, _, h3⟩ := h.ex
  have := h3 k _ hk (part_lt d x k hk hx)
  rw [if_neg (Nat.lt_irrefl _)] at this
  unfold nodeN
  rw [if_pos hk]
  refine ⟨?_, by simp [World.frozen?, h1], lt_of_block h1⟩
  rw [cell_of_row w b _ cur 3 (0, 0) h1]
  simpa using this
theorem CMix.set {k x : Nat} {c : Bool} (h : CMix w b d f (setF f x c) k) (hk : k ≤ d) (hx : x < 2 ^ d) (z : Int) (hz : (if c = true then (1 : Int) else 0) = (if f x = true then 1 else 0) + z) : CMix (w.setCell ⟨b, nodeN d x k, none⟩ (.int .i64 ((trN f k (x / 2 ^ k) : Int) + z))) b d f (setF f x c) (k + 1) := by
  obtain ⟨cur, h1, h2, h3⟩ := h.ex
  clear h
  refine ⟨_, heap_setCell_same w b _ cur _ _ h1, by simpa using h2, fun h j hh hj => ?_⟩
  have hlt := nodeN_lt d x k hk hx
  have e0 : nodeN d x k = 2 ^ (d - k) + x / 2 ^ k := by unfold nodeN; rw [if_pos hk]
  by_cases hn : nodeN d x k = 2 ^ (d - h) + j
  · have h4 := level_ne hh hk hj (part_lt d x k hk hx) (by rw [← hn, e0])
    obtain ⟨rfl, rfl⟩ := h4
    rw [← hn, if_pos (Nat.lt_succ_self _), trN_in f x c z hz h]
    simp [hlt, h2]
  · have h5 : (cur.setIfInBounds (nodeN d x k) (Value.int .i64 ((trN f k (x / 2 ^ k) : Int) + z)))[2 ^ (d - h) + j]? = cur[2 ^ (d - h) + j]? := by
      rw [Array.getElem?_setIfInBounds]
      rw [if_neg hn]
    rw [h5, h3 h j hh hj]
    by_cases hhk : h < k
    · rw [if_pos hhk, if_pos (by omega)]
    · rw [if_neg hhk]
      by_cases hhe : h = k
      · subst hhe
        rw [if_pos (Nat.lt_succ_self _), trN_out f x c h j (fun e => hn (by rw [e0, e]))]
      · rw [if_neg (by omega)]
set_option maxHeartbeats 3200000 in
set_option maxRecDepth 100000 in
theorem cr_change (h : CrAt w b d f) (hW : 2 ^ d ≤ 65536) (x : Nat) (hx : x < 2 ^ d) (c : Bool) (z : Int) (hz1 : -1 ≤ z ∧ z ≤ 1) (hz : (if c = true then (1 : Int) else 0) = (if f x = true then 1 else 0) + z) : Calls Try.prog 46 #[crV b (2 ^ d), .int .i64 (x : Int), .int .i64 z] w fun e w' => e = .returned (.tuple #[]) ∧ CrAt w' b d (setF f x c) ∧ Kept w w' (· = b) (· = b) := by
  have HX : Hid (x < 2 ^ d) := hx
  have HZ : Hid _ := hz
  have HD : Hid (2 ^ d ≤ 65536) := hW
  have hM : Hid (CMix w b d f (setF f x c) 0) := ⟨h.ex⟩
  have hb := h.lt
  have hn0 : Hid (nodeN d x 0 = 2 ^ d + x) := by show _ = _; unfold nodeN; rw [if_pos (Nat.zero_le _), Nat.sub_zero, Nat.pow_zero, Nat.div_one]
  clear h hz
  have hcw := cr_width b (2 ^ d) hW
  obtain ⟨W, eW⟩ : ∃ W, W = 2 ^ d := ⟨_, rfl⟩
  rw [← eW] at hcw hW hx ⊢
  have EW : Hid (W = 2 ^ d) := eW
  clear eW
  unfold crV at *
  go_enter Try.func46, Try.ntmps46
  go_wp2_with (go_at_call 45; refine (hcw _).mono ?_; rintro e w1 ⟨rfl, b1⟩)
  have hbx : w1.heap[w.heap.size]? = some (.cells #[.slice (some ⟨b, 0, none⟩) (2 * W) (2 * W)] 52 (0, 0)) := by
    rw [b1.block _ (by simp)]
    exact heap_alloc_new w _
  have hK1 : Kept w w1 (· = b) (· = b) := Kept.of (bel_box b1)
  have hM1 : Hid (CMix w1 b d f (setF f x c) 0) := by
    obtain ⟨cur, h1, h2⟩ := hM.out.ex
    exact ⟨cur, by rw [(bel_box b1).block b hb]; exact h1, h2⟩
  clear hM b1 hcw
  go_loopw [6] (fun i wr => ∃ k : Nat, k ≤ d + 1 ∧ i = .int .i64 (nodeN d x k : Int) ∧ Hid (CMix wr b d f (setF f x c) k) ∧ wr.heap[w.heap.size]? = some (.cells #[.slice (some ⟨b, 0, none⟩) (2 * W) (2 * W)] 52 (0, 0)) ∧ Kept w wr (· = b) (· = b)) (fun i _ => (RowKit.intOf i).toNat)
  case atStart => exact ⟨0, Nat.zero_le _, by rw [hn0.out, ← EW.out]; simp, hM1, hbx, hK1⟩
  case round =>
    obtain ⟨k, hk, rfl, HM, hB, hK⟩ := hrel
    clear hM1 hbx hK1 hn0
    by_cases hkd : k ≤ d
    · have hpos := nodeN_pos d x k hkd
      have hlt := nodeN_lt d x k hkd HX.out
      have hhf := nodeN_half d x k hkd HX.out
      have FIN := HM.out.set hkd HX.out z HZ.out
      have htl := trN_le f k (x / 2 ^ k)
      have hp2 : 2 ^ k ≤ 2 ^ d := Nat.pow_le_pow_right (by decide) hkd
      obtain ⟨zc, zf, hbr⟩ := HM.out.cell x hkd HX.out
      have htl2 : trN f k (x / 2 ^ k) ≤ 65536 := by have := HD.out; omega
      have hB2 : (wr.setCell ⟨b, nodeN d x k, none⟩ (.int .i64 ((trN f k (x / 2 ^ k) : Int) + z))).heap[w.heap.size]? = wr.heap[w.heap.size]? := heap_setCell_other _ _ _ _ (by show w.heap.size ≠ b; omega)
      have hK2 : Hid (Kept w (wr.setCell ⟨b, nodeN d x k, none⟩ (.int .i64 ((trN f k (x / 2 ^ k) : Int) + z))) (· = b) (· = b)) :=
        ⟨hK.os, hK.tape, hK.output, by simpa using hK.size, hK.old, fun y hy hne => by rw [heap_setCell_other _ _ _ _ (by simpa using hne)]; exact hK.kept y hy hne⟩
      rw [← EW.out] at hlt
      have HF : Hid _ := FIN
      have HB2 : Hid _ := hB2
      have HH : Hid _ := hhf
      have hbc : wr.cell? ⟨w.heap.size, 0, none⟩ = some (.slice (some ⟨b, 0, none⟩) (2 * W) (2 * W)) := by simp [World.cell?, hB]
      have hbl : w.heap.size < wr.heap.size := lt_of_block hB
      have HBB : Hid _ := hB
      clear FIN hB2 htl hp2 hhf HM hB
      generalize hn : nodeN d x k = n at *
      generalize trN f k (x / 2 ^ k) = t at *
      have q0 : decide (0 < (n : Int)) = true := decide_eq_true (by omega)
      clear hn
      go_wp2
      go_roundw
      case rel => exact ⟨k + 1, by omega, by rw [← HH.out]; simp, HF, by rw [HB2.out]; exact HBB.out, hK2.out⟩
      case measure => simp [RowKit.intOf]; omega
    · have e0 : nodeN d x k = 0 := by unfold nodeN; rw [if_neg hkd]
      rw [e0]
      go_wp2
      go_returns
      refine ⟨rfl, ?_, hK⟩
      obtain ⟨cur, h1, h2, h3⟩ := HM.out.ex
      exact ⟨cur, h1, h2, fun h j hh hj => by have := h3 h j hh hj; rw [if_pos (by omega)] at this; exact this⟩
theorem setF_same {f : Nat → Bool} {x : Nat} {c : Bool} : setF f x c x = c := by unfold setF; rw [if_pos rfl]
set_option maxHeartbeats 3200000 in
set_option maxRecDepth 100000 in
theorem cr_join (h : CrAt w b d f) (hW : 2 ^ d ≤ 65536) (x : Nat) (hx : x < 2 ^ d) (hf : f x = false) : Calls Try.prog 44 #[crV b (2 ^ d), .int .i64 (x : Int)] w fun e w' => e = .returned (.tuple #[]) ∧ CrAt w' b d (setF f x true) ∧ Kept w w' (· = b) (· = b) := by
  have hc := cr_change (h.fresh ((Below.refl _ w).alloc (Nat.le_refl _) (.cells #[.slice (some ⟨b, 0, none⟩) (2 * 2 ^ d) (2 * 2 ^ d)] 52))) hW x hx true 1 (by decide) (by rw [hf]; rfl)
  clear h
  unfold crV at *
  generalize 2 ^ d = W at *
  go_enter Try.func44, Try.ntmps44
  go_wp2_with (go_at_call 46; refine hc.mono ?_; rintro e w1 ⟨rfl, h1, k1⟩)
  go_returns
  exact ⟨rfl, h1, (Kept.of ((Below.refl _ w).alloc (Nat.le_refl _) _)).trans k1⟩
set_option maxHeartbeats 3200000 in
set_option maxRecDepth 100000 in
theorem cr_leave (h : CrAt w b d f) (hW : 2 ^ d ≤ 65536) (x : Nat) (hx : x < 2 ^ d) (hf : f x = true) : Calls Try.prog 31 #[crV b (2 ^ d), .int .i64 (x : Int)] w fun e w' => e = .returned (.tuple #[]) ∧ CrAt w' b d (setF f x false) ∧ Kept w w' (· = b) (· = b) := by
  have hc := cr_change (h.fresh ((Below.refl _ w).alloc (Nat.le_refl _) (.cells #[.slice (some ⟨b, 0, none⟩) (2 * 2 ^ d) (2 * 2 ^ d)] 52))) hW x hx false (-1) (by decide) (by rw [hf]; rfl)
  clear h
  unfold crV at *
  generalize 2 ^ d = W at *
  go_enter Try.func31, Try.ntmps31
  go_wp2_with (go_at_call 46; refine hc.mono ?_; rintro e w1 ⟨rfl, h1, k1⟩)
  go_returns
  exact ⟨rfl, h1, (Kept.of ((Below.refl _ w).alloc (Nat.le_refl _) _)).trans k1⟩
end
end Go.Proofs.Ythhlglbohibekaa
namespace Go.Proofs.Ythhlglbohibekaa
open Go.RowKit

theorem wrapI (z : Int) (h1 : -9223372036854775808 ≤ z) (h2 : z ≤ 9223372036854775807) : IntKind.i64.wrap z = z := by
  rw [IntKind.wrap_i64]
  omega
def inF (f : Nat → Bool) (z : Int) : Bool := decide (0 ≤ z) && f z.toNat
section
variable {w w' : World} {b d : Nat} {f g : Nat → Bool}
set_option maxHeartbeats 6400000 in
set_option maxRecDepth 100000 in
theorem cr_has (h : CrAt w b d f) (hW : 2 ^ d ≤ 65536) (z : Int) (hf : ∀ x, f x = true → x < 2 ^ d) : Calls Try.prog 30 #[crV b (2 ^ d), .int .i64 z] w fun e w' => e = .returned (.bool (inF f z)) ∧ Below w.heap.size w w' := by
  have hcw := cr_width b (2 ^ d) hW
  have hb := h.lt
  by_cases h1 : z < 0
  · have e1 : inF f z = false := by unfold inF; rw [decide_eq_false (by omega), Bool.false_and]
    rw [e1]
    have q1 : decide (0 ≤ z) = false := decide_eq_false (by omega)
    clear h e1 hcw hf
    generalize 2 ^ d = W at *
    unfold crV at *
    go_enter Try.func30, Try.ntmps30
    go_wp2
    refine wp_region_held_drew (S := (fun w' : World => w'.cell? ⟨w.heap.size, 0, none⟩ = some (.slice (some ⟨b, 0, none⟩) (2 * W) (2 * W)))) (by kernel_rfl) ?_ (fun hHeld0 => ?_)
    · try dsimp only
      go_keep
    refine tk0 (.int .i64 z) ?_
    try simp only [Act.put, pu1, pu2, pu3]
    refine tk1 (.bool false) ?_
    try simp only [Act.put, pu1, pu2, pu3]
    refine tk2 (.bool false) ?_
    try simp only [Act.put, pu1, pu2, pu3]
    refine sk3 ?_
    try simp only [Act.put, pu1, pu2, pu3]
    refine sk4 ?_
    try simp only [Act.put, pu1, pu2, pu3]
    refine sk5 ?_
    try simp only [Act.put, pu1, pu2, pu3]
    refine sk6 ?_
    try simp only [Act.put, pu1, pu2, pu3]
    refine tk7 (.bool false) ?_
    try simp only [Act.put, pu1, pu2, pu3]
    refine tk8 (.bool false) ?_
    try simp only [Act.put, pu1, pu2, pu3]
    refine sk9 ?_
    try simp only [Act.put, pu1, pu2, pu3]
    refine sk10 ?_
    try simp only [Act.put, pu1, pu2, pu3]
    refine sk11 ?_
    try simp only [Act.put, pu1, pu2, pu3]
    refine sk12 ?_
    try simp only [Act.put, pu1, pu2, pu3]
    refine sk13 ?_
    try simp only [Act.put, pu1, pu2, pu3]
    refine sk14 ?_
    try simp only [Act.put, pu1, pu2, pu3]
    refine sk15 ?_
    try simp only [Act.put, pu1, pu2, pu3]
    refine sk16 ?_
    try simp only [Act.put, pu1, pu2, pu3]
    refine sk17 ?_
    try simp only [Act.put, pu1, pu2, pu3]
    refine tk18 (.bool false) ?_
    try simp only [Act.put, pu1, pu2, pu3]
    refine tk19 (.bool false) ?_
    try simp only [Act.put, pu1, pu2, pu3]
    refine wpAnyH_done (by kernel_rfl) ?_ _
    go_wp2
    go_ret
    exact ⟨rfl, ((Below.refl _ w).alloc (Nat.le_refl _) _).drew⟩
  obtain ⟨x, rfl⟩ : ∃ x : Nat, z = (x : Int) := ⟨z.toNat, by omega⟩
  have e1 : inF f (x : Int) = f x := by unfold inF; rw [decide_eq_true (by omega), Bool.true_and, Int.toNat_natCast]
  rw [e1]
  have q1 : decide (0 ≤ (x : Int)) = true := decide_eq_true (by omega)
  by_cases h2 : 2 ^ d ≤ x
  · have e2 : f x = false := by
      cases hx : f x with
      | false => rfl
      | true => have := hf x hx; omega
    rw [e2]
    have hl : ¬ (x : Int) < ((2 ^ d : Nat) : Int) := by omega
    clear h e1 hf e2
    generalize 2 ^ d = W at *
    have q2 : decide ((x : Int) < (W : Int)) = false := decide_eq_false hl
    clear hl
    unfold crV at *
    go_enter Try.func30, Try.ntmps30
    go_wp2
    refine wp_region_held_drew (S := (fun w' : World => w'.cell? ⟨w.heap.size, 0, none⟩ = some (.slice (some ⟨b, 0, none⟩) (2 * W) (2 * W)))) (by kernel_rfl) ?_ (fun hHeld0 => ?_)
    · try dsimp only
      go_keep
    refine tk0 (.int .i64 (x : Int)) ?_
    try simp only [Act.put, pu1, pu2, pu3]
    refine tk1 (.bool true) ?_
    try simp only [Act.put, pu1, pu2, pu3]
    refine tk2 (.bool true) ?_
    try simp only [Act.put, pu1, pu2, pu3]
    refine tk3 (.int .i64 (x : Int)) ?_
    try simp only [Act.put, pu1, pu2, pu3]
    refine tk4 (.agg #[.slice (some ⟨b, 0, none⟩) (2 * W) (2 * W)]) ?_
    try simp only [Act.put, pu1, pu2, pu3]
    refine cl5 (by kernel_rfl) rfl (fun K hK => ?_)
    go_simp
    go_at_call 45
    refine (hcw _).mono ?_
    rintro e w2 ⟨rfl, b2⟩
    refine hK.out _ _ ?_ (fun hHeld => ?_)
    · exact (World.cell?_of_block (b2.block w.heap.size (by first | simp | (have := b2.size; simp at this; omega)))).trans hHeld0
    clear hK K
    refine tk6 (.bool false) ?_
    try simp only [Act.put, pu1, pu2, pu3]
    refine tk7 (.bool false) ?_
    try simp only [Act.put, pu1, pu2, pu3]
    refine tk8 (.bool false) ?_
    try simp only [Act.put, pu1, pu2, pu3]
    refine sk9 ?_
    try simp only [Act.put, pu1, pu2, pu3]
    refine sk10 ?_
    try simp only [Act.put, pu1, pu2, pu3]
    refine sk11 ?_
    try simp only [Act.put, pu1, pu2, pu3]
    refine sk12 ?_
    try simp only [Act.put, pu1, pu2, pu3]
    refine sk13 ?_
    try simp only [Act.put, pu1, pu2, pu3]
    refine sk14 ?_
    try simp only [Act.put, pu1, pu2, pu3]
    refine sk15 ?_
    try simp only [Act.put, pu1, pu2, pu3]
    refine sk16 ?_
    try simp only [Act.put, pu1, pu2, pu3]
    refine sk17 ?_
    try simp only [Act.put, pu1, pu2, pu3]
    refine tk18 (.bool false) ?_
    try simp only [Act.put, pu1, pu2, pu3]
    refine tk19 (.bool false) ?_
    try simp only [Act.put, pu1, pu2, pu3]
    refine wpAnyH_done (by kernel_rfl) ?_ _
    go_wp2
    go_ret
    exact ⟨rfl, bel_box (undrB b2)⟩
  have hx : x < 2 ^ d := by omega
  have zc := h.cell (Nat.zero_le d) (j := x) (by rw [Nat.sub_zero]; exact hx)
  rw [Nat.sub_zero] at zc
  unfold trN at zc
  have hl : (x : Int) < ((2 ^ d : Nat) : Int) := by omega
  clear h e1 hf h2 h1
  generalize 2 ^ d = W at *
  have q2 : decide ((x : Int) < (W : Int)) = true := decide_eq_true hl
  clear hl
  unfold crV at *
  cases hfx : f x with
  | false =>
    rw [hfx, if_neg (by decide)] at zc
    clear hfx
    have zd : w.cell? ⟨b, W + x, none⟩ = some (.int .i64 0) := zc
    clear zc
    go_enter Try.func30, Try.ntmps30
    go_wp2
    refine wp_region_held_drew (S := (fun w' : World => w'.cell? ⟨w.heap.size, 0, none⟩ = some (.slice (some ⟨b, 0, none⟩) (2 * W) (2 * W)) ∧ w'.cell? ⟨b, W + x, none⟩ = some (.int .i64 0))) (by kernel_rfl) ?_ (fun hHeld0 => ?_)
    · try dsimp only
      go_keep
    refine tk0 (.int .i64 (x : Int)) ?_ (fun w hSw => by (try dsimp only at hSw); obtain ⟨q4, q5⟩ := hSw; go_simp)
    try simp only [Act.put, pu1, pu2, pu3]
    refine tk1 (.bool true) ?_ (fun w hSw => by (try dsimp only at hSw); obtain ⟨q4, q5⟩ := hSw; go_simp)
    try simp only [Act.put, pu1, pu2, pu3]
    refine tk2 (.bool true) ?_ (fun w hSw => by (try dsimp only at hSw); obtain ⟨q4, q5⟩ := hSw; go_simp)
    try simp only [Act.put, pu1, pu2, pu3]
    refine tk3 (.int .i64 (x : Int)) ?_ (fun w hSw => by (try dsimp only at hSw); obtain ⟨q4, q5⟩ := hSw; go_simp)
    try simp only [Act.put, pu1, pu2, pu3]
    refine tk4 (.agg #[.slice (some ⟨b, 0, none⟩) (2 * W) (2 * W)]) ?_ (fun w hSw => by (try dsimp only at hSw); obtain ⟨q4, q5⟩ := hSw; go_simp)
    try simp only [Act.put, pu1, pu2, pu3]
    refine cl5 (by kernel_rfl) rfl (fun K hK => ?_)
    go_simp
    go_at_call 45
    refine (hcw _).mono ?_
    rintro e w2 ⟨rfl, b2⟩
    refine hK.out _ _ ?_ (fun hHeld => ?_)
    · exact ⟨(World.cell?_of_block (b2.block w.heap.size (by first | simp | (have := b2.size; simp at this; omega)))).trans hHeld0.1, (World.cell?_of_block (b2.block b (by first | (simp; omega) | (have := b2.size; simp at this; omega)))).trans hHeld0.2⟩
    clear hK K
    refine tk6 (.bool true) ?_ (fun w hSw => by (try dsimp only at hSw); obtain ⟨q4, q5⟩ := hSw; go_simp)
    try simp only [Act.put, pu1, pu2, pu3]
    refine tk7 (.bool true) ?_ (fun w hSw => by (try dsimp only at hSw); obtain ⟨q4, q5⟩ := hSw; go_simp)
    try simp only [Act.put, pu1, pu2, pu3]
    refine tk8 (.bool true) ?_ (fun w hSw => by (try dsimp only at hSw); obtain ⟨q4, q5⟩ := hSw; go_simp)
    try simp only [Act.put, pu1, pu2, pu3]
    refine tk9 (.pointer (some ⟨w.heap.size, 0, none⟩)) ?_ (fun w hSw => by (try dsimp only at hSw); obtain ⟨q4, q5⟩ := hSw; go_simp)
    try simp only [Act.put, pu1, pu2, pu3]
    refine tk10 (.slice (some ⟨b, 0, none⟩) (2 * W) (2 * W)) ?_ (fun w hSw => by (try dsimp only at hSw); obtain ⟨q4, q5⟩ := hSw; go_simp)
    try simp only [Act.put, pu1, pu2, pu3]
    refine tk11 (.agg #[.slice (some ⟨b, 0, none⟩) (2 * W) (2 * W)]) ?_ (fun w hSw => by (try dsimp only at hSw); obtain ⟨q4, q5⟩ := hSw; go_simp)
    try simp only [Act.put, pu1, pu2, pu3]
    refine tk13 (.int .i64 (x : Int)) ?_ (fun w hSw => by (try dsimp only at hSw); obtain ⟨q4, q5⟩ := hSw; go_simp)
    try simp only [Act.put, pu1, pu2, pu3]
    refine cl12 (by kernel_rfl) rfl (fun K hK => ?_)
    go_simp
    go_at_call 45
    refine (hcw _).mono ?_
    rintro e w3 ⟨rfl, b3⟩
    refine hK.out _ _ ?_ (fun hHeld => ?_)
    · exact ⟨(World.cell?_of_block (b3.block w.heap.size (by first | simp | (have := b2.size; simp at this; omega)))).trans hHeld.1, (World.cell?_of_block (b3.block b (by first | (simp; omega) | (have := b2.size; simp at this; omega)))).trans hHeld.2⟩
    clear hK K
    refine tk14 (.int .i64 ((W : Int) + (x : Int))) ?_ (fun w hSw => by (try dsimp only at hSw); obtain ⟨q4, q5⟩ := hSw; go_simp; exact wrapI _ (by omega) (by omega))
    try simp only [Act.put, pu1, pu2, pu3]
    refine tk15 (.pointer (some ⟨b, W + x, none⟩)) ?_ (fun w hSw => by (try dsimp only at hSw); obtain ⟨q4, q5⟩ := hSw; go_simp; rw [if_pos ⟨by omega, by omega⟩]; congr 4)
    try simp only [Act.put, pu1, pu2, pu3]
    refine tk16 (.int .i64 0) ?_ (fun w hSw => by (try dsimp only at hSw); obtain ⟨q4, q5⟩ := hSw; go_simp)
    try simp only [Act.put, pu1, pu2, pu3]
    refine tk17 (.bool false) ?_ (fun w hSw => by (try dsimp only at hSw); obtain ⟨q4, q5⟩ := hSw; go_simp)
    try simp only [Act.put, pu1, pu2, pu3]
    refine tk18 (.bool false) ?_ (fun w hSw => by (try dsimp only at hSw); obtain ⟨q4, q5⟩ := hSw; go_simp)
    try simp only [Act.put, pu1, pu2, pu3]
    refine tk19 (.bool false) ?_ (fun w hSw => by (try dsimp only at hSw); obtain ⟨q4, q5⟩ := hSw; go_simp)
    try simp only [Act.put, pu1, pu2, pu3]
    refine wpAnyH_done (by kernel_rfl) ?_ _
    go_wp2
    go_ret
    exact ⟨rfl, bel_box (undrB (b2.trans (b3.mono b2.size)))⟩
  | true =>
    rw [hfx, if_pos rfl] at zc
    clear hfx
    have zd : w.cell? ⟨b, W + x, none⟩ = some (.int .i64 1) := zc
    clear zc
    go_enter Try.func30, Try.ntmps30
    go_wp2
    refine wp_region_held_drew (S := (fun w' : World => w'.cell? ⟨w.heap.size, 0, none⟩ = some (.slice (some ⟨b, 0, none⟩) (2 * W) (2 * W)) ∧ w'.cell? ⟨b, W + x, none⟩ = some (.int .i64 1))) (by kernel_rfl) ?_ (fun hHeld0 => ?_)
    · try dsimp only
      go_keep
    refine tk0 (.int .i64 (x : Int)) ?_ (fun w hSw => by (try dsimp only at hSw); obtain ⟨q4, q5⟩ := hSw; go_simp)
    try simp only [Act.put, pu1, pu2, pu3]
    refine tk1 (.bool true) ?_ (fun w hSw => by (try dsimp only at hSw); obtain ⟨q4, q5⟩ := hSw; go_simp)
    try simp only [Act.put, pu1, pu2, pu3]
    refine tk2 (.bool true) ?_ (fun w hSw => by (try dsimp only at hSw); obtain ⟨q4, q5⟩ := hSw; go_simp)
    try simp only [Act.put, pu1, pu2, pu3]
    refine tk3 (.int .i64 (x : Int)) ?_ (fun w hSw => by (try dsimp only at hSw); obtain ⟨q4, q5⟩ := hSw; go_simp)
    try simp only [Act.put, pu1, pu2, pu3]
    refine tk4 (.agg #[.slice (some ⟨b, 0, none⟩) (2 * W) (2 * W)]) ?_ (fun w hSw => by (try dsimp only at hSw); obtain ⟨q4, q5⟩ := hSw; go_simp)
    try simp only [Act.put, pu1, pu2, pu3]
    refine cl5 (by kernel_rfl) rfl (fun K hK => ?_)
    go_simp
    go_at_call 45
    refine (hcw _).mono ?_
    rintro e w2 ⟨rfl, b2⟩
    refine hK.out _ _ ?_ (fun hHeld => ?_)
    · exact ⟨(World.cell?_of_block (b2.block w.heap.size (by first | simp | (have := b2.size; simp at this; omega)))).trans hHeld0.1, (World.cell?_of_block (b2.block b (by first | (simp; omega) | (have := b2.size; simp at this; omega)))).trans hHeld0.2⟩
    clear hK K
    refine tk6 (.bool true) ?_ (fun w hSw => by (try dsimp only at hSw); obtain ⟨q4, q5⟩ := hSw; go_simp)
    try simp only [Act.put, pu1, pu2, pu3]
    refine tk7 (.bool true) ?_ (fun w hSw => by (try dsimp only at hSw); obtain ⟨q4, q5⟩ := hSw; go_simp)
    try simp only [Act.put, pu1, pu2, pu3]
    refine tk8 (.bool true) ?_ (fun w hSw => by (try dsimp only at hSw); obtain ⟨q4, q5⟩ := hSw; go_simp)
    try simp only [Act.put, pu1, pu2, pu3]
    refine tk9 (.pointer (some ⟨w.heap.size, 0, none⟩)) ?_ (fun w hSw => by (try dsimp only at hSw); obtain ⟨q4, q5⟩ := hSw; go_simp)
    try simp only [Act.put, pu1, pu2, pu3]
    refine tk10 (.slice (some ⟨b, 0, none⟩) (2 * W) (2 * W)) ?_ (fun w hSw => by (try dsimp only at hSw); obtain ⟨q4, q5⟩ := hSw; go_simp)
    try simp only [Act.put, pu1, pu2, pu3]
    refine tk11 (.agg #[.slice (some ⟨b, 0, none⟩) (2 * W) (2 * W)]) ?_ (fun w hSw => by (try dsimp only at hSw); obtain ⟨q4, q5⟩ := hSw; go_simp)
    try simp only [Act.put, pu1, pu2, pu3]
    refine tk13 (.int .i64 (x : Int)) ?_ (fun w hSw => by (try dsimp only at hSw); obtain ⟨q4, q5⟩ := hSw; go_simp)
    try simp only [Act.put, pu1, pu2, pu3]
    refine cl12 (by kernel_rfl) rfl (fun K hK => ?_)
    go_simp
    go_at_call 45
    refine (hcw _).mono ?_
    rintro e w3 ⟨rfl, b3⟩
    refine hK.out _ _ ?_ (fun hHeld => ?_)
    · exact ⟨(World.cell?_of_block (b3.block w.heap.size (by first | simp | (have := b2.size; simp at this; omega)))).trans hHeld.1, (World.cell?_of_block (b3.block b (by first | (simp; omega) | (have := b2.size; simp at this; omega)))).trans hHeld.2⟩
    clear hK K
    refine tk14 (.int .i64 ((W : Int) + (x : Int))) ?_ (fun w hSw => by (try dsimp only at hSw); obtain ⟨q4, q5⟩ := hSw; go_simp; exact wrapI _ (by omega) (by omega))
    try simp only [Act.put, pu1, pu2, pu3]
    refine tk15 (.pointer (some ⟨b, W + x, none⟩)) ?_ (fun w hSw => by (try dsimp only at hSw); obtain ⟨q4, q5⟩ := hSw; go_simp; rw [if_pos ⟨by omega, by omega⟩]; congr 4)
    try simp only [Act.put, pu1, pu2, pu3]
    refine tk16 (.int .i64 1) ?_ (fun w hSw => by (try dsimp only at hSw); obtain ⟨q4, q5⟩ := hSw; go_simp)
    try simp only [Act.put, pu1, pu2, pu3]
    refine tk17 (.bool true) ?_ (fun w hSw => by (try dsimp only at hSw); obtain ⟨q4, q5⟩ := hSw; go_simp)
    try simp only [Act.put, pu1, pu2, pu3]
    refine tk18 (.bool true) ?_ (fun w hSw => by (try dsimp only at hSw); obtain ⟨q4, q5⟩ := hSw; go_simp)
    try simp only [Act.put, pu1, pu2, pu3]
    refine tk19 (.bool true) ?_ (fun w hSw => by (try dsimp only at hSw); obtain ⟨q4, q5⟩ := hSw; go_simp)
    try simp only [Act.put, pu1, pu2, pu3]
    refine wpAnyH_done (by kernel_rfl) ?_ _
    go_wp2
    go_ret
    exact ⟨rfl, bel_box (undrB (b2.trans (b3.mono b2.size)))⟩
end
end Go.Proofs.Ythhlglbohibekaa
namespace Go.Proofs.Ythhlglbohibekaa
open Go.RowKit

def natL (l : List Nat) : List Int := l.map fun x : Nat => (x : Int)
theorem natL_len (l : List Nat) : (natL l).length = l.length := by unfold natL; rw [List.length_map]
theorem natL_append (l m : List Nat) : natL (l ++ m) = natL l ++ natL m := by unfold natL; rw [List.map_append]
def Its (v : Value) : Nat → Prop := fun b => v.ownBlock = some b
theorem own_kept {w w' : World} {base size n : Nat} {e : TypeId} {v : Value} {xs : List Value} (h : w.ownsRow base e size v n xs) (k : Below w.heap.size w w') : w'.ownsRow base e size v n xs := own_keep h (fun g hg => k.block g (World.ownsRow.lt h g hg).2)
theorem intL_one (l : List Int) (z : Int) : intL (l ++ [z]) = intL l ++ rowL intC [z] := by rw [rowL_int]; unfold intL; simp
theorem appended_kept {base : Nat} {w w' : World} {v u : Value} (k : Appended base w w' v u) : Kept w w' (Its v) (Its u) := by
  refine ⟨k.below.os, k.below.tape, k.below.output, k.below.size, fun x hx => ?_, fun x hx hn => k.rest x hx (fun e => hn e.symm)⟩
  unfold Its at hx
  rcases k.lies with h5 | h5
  · exact Or.inl (by unfold Its; rw [← h5]; exact hx)
  · rw [h5] at hx
    exact Or.inr (Nat.le_of_eq (Option.some.inj hx))
section
variable {w w' : World} {b d : Nat} {f g : Nat → Bool}
def GatherAt (b d : Nat) (f : Nat → Bool) (base h j : Nat) : Prop := ∀ (w : World) (v : Value) (l : List Int), CrAt w b d f → base ≤ w.heap.size → w.ownsRow base 3 1 v l.length (intL l) → l.length + trN f h j ≤ 65536 → Calls Try.prog 59 #[crV b (2 ^ d), v, .int .i64 ((2 ^ (d - h) + j : Nat) : Int)] w fun e w' => ∃ u, e = .returned u ∧ w'.ownsRow base 3 1 u (l ++ natL (lvN f h j)).length (intL (l ++ natL (lvN f h j))) ∧ Kept w w' (Its v) (Its u)
set_option maxHeartbeats 6400000 in
set_option maxRecDepth 100000 in
theorem gather_none (_hW : 2 ^ d ≤ 65536) {base h j : Nat} (hh : h ≤ d) (hj : j < 2 ^ (d - h)) (ht : trN f h j = 0) : GatherAt b d f base h j := by
  intro w v l hC hbs hO hlen
  have zc := hC.cell (k := h) hh hj
  have hb := hC.lt
  obtain ⟨pv, nv, cv, rfl⟩ := own_form hO
  have e1 : lvN f h j = [] := List.eq_nil_of_length_eq_zero (by rw [lvN_len]; exact ht)
  rw [ht] at zc
  rw [e1]
  have zd : w.cell? ⟨b, 2 ^ (d - h) + j, none⟩ = some (.int .i64 0) := zc
  have hlt : 2 ^ (d - h) + j < 2 * 2 ^ d := by
    have : 2 ^ (d - h) ≤ 2 ^ d := Nat.pow_le_pow_right (by decide) (by omega)
    omega
  have HO : Hid _ := hO
  clear zc e1 hlen hC hO
  generalize 2 ^ (d - h) + j = n at *
  unfold crV
  generalize 2 ^ d = W at *
  go_enter Try.func59, Try.ntmps59
  go_wp2
  go_ret
  refine ⟨_, rfl, ?_, Kept.of ((Below.refl _ w).alloc (Nat.le_refl _) _)⟩
  show World.ownsRow _ _ _ _ _ _ _
  rw [show natL [] = [] from rfl, List.append_nil]
  exact own_kept HO.out ((Below.refl _ w).alloc (Nat.le_refl _) _)
set_option maxHeartbeats 6400000 in
set_option maxRecDepth 100000 in
theorem gather_one (hW : 2 ^ d ≤ 65536) {base j : Nat} (hj : j < 2 ^ d) (hf : f j = true) : GatherAt b d f base 0 j := by
  intro w v l hC hbs hO hlen
  have hcw := cr_width b (2 ^ d) hW
  obtain ⟨i0, hi, hz0, hz1, hz2⟩ := info_parts infoI
  have zc := hC.cell (k := 0) (Nat.zero_le _) (j := j) (by rw [Nat.sub_zero]; exact hj)
  have hb := hC.lt
  obtain ⟨pv, nv, cv, rfl⟩ := own_form hO
  have e1 : lvN f 0 j = [j] := by unfold lvN; rw [if_pos hf]
  have e2 : trN f 0 j = 1 := by unfold trN; rw [if_pos hf]
  rw [e2] at zc hlen
  rw [e1, Nat.sub_zero]
  rw [Nat.sub_zero] at zc
  have zd : w.cell? ⟨b, 2 ^ d + j, none⟩ = some (.int .i64 1) := zc
  have HO : Hid _ := hO
  have hbz := hO.lt
  clear zc e1 e2 hC hO hf
  unfold crV at *
  generalize 2 ^ d = W at *
  have hl : ¬ ((W + j : Nat) : Int) < (W : Int) := by omega
  have q1 : decide ((W : Int) ≤ ((W + j : Nat) : Int)) = true := decide_eq_true (by omega)
  have hs : Hid (((W + j : Nat) : Int) - (W : Int) = (j : Int)) := by show _ = _; omega
  have hlt : W + j < 2 * W := by omega
  have hge : W ≤ W + j := by omega
  clear hl
  generalize W + j = n at *
  have B0 : Hid _ := (Below.refl _ w).alloc (Nat.le_refl _) (.cells #[.slice (some ⟨b, 0, none⟩) (2 * W) (2 * W)] 52)
  go_enter Try.func59, Try.ntmps59
  go_wp2_with (first
    | (at_builtin; refine wpList_app_row (k := 1) (enc := intC) (l := [(n : Int) - (W : Int)]) rfl (.tmp 20) (.tmp 25) 23 3 rfl i0 _ 8 Try.underlying23 hi hz0 hz1 hz2 rfl (by decide) intC_len intC_one rfl rfl (HO3.out.alloc _) (RowAt.built (heap_alloc_new w3 _) rfl 1 rfl rfl) (by simp; have := b3.size; have := b2.size; simp at this; omega) (by simp; omega) (by simp; omega) ?_; intro u4 w4 h4 k4; obtain ⟨p4, n4, q4, rfl⟩ := own_form h4)
    | (go_at_call 45; refine (hcw w2).mono ?_; rintro e w3 ⟨rfl, b3⟩; have HO3 : Hid (World.ownsRow w3 base 3 1 (.slice pv nv cv) _ _) := own_kept HO2.out b3)
    | (go_at_call 45; refine (hcw _).mono ?_; rintro e w2 ⟨rfl, b2⟩; have HO2 : Hid (World.ownsRow w2 base 3 1 (.slice pv nv cv) _ _) := own_kept HO.out (bel_box b2); have hbx2 : w2.cell? ⟨w.heap.size, 0, none⟩ = some (.slice (some ⟨b, 0, none⟩) (2 * W) (2 * W)) := (World.cell?_of_block (b2.block w.heap.size (by simp))).trans (by rw [cell_of_row _ _ _ _ _ _ (heap_alloc_new w _)]; rfl)))
  go_ret
  refine ⟨.slice p4 n4 q4, rfl, ?_, ?_⟩
  · show World.ownsRow _ _ _ _ _ _ _
    rw [show natL [j] = [(j : Int)] by simp [natL], ← hs.out, intL_one, List.length_append]
    exact h4
  · have b5 : Below w.heap.size w (w3.alloc (.cells #[.int .i64 ((n : Int) - (W : Int))] 3)) := (bmm (bel_box b2) (bel_box b2).size b3).alloc (bmm (bel_box b2) (bel_box b2).size b3).size _
    exact (Kept.of b5).trans (appended_kept k4)
set_option maxHeartbeats 6400000 in
set_option maxRecDepth 100000 in
theorem gather_two (hW : 2 ^ d ≤ 65536) {base h j : Nat} (hbb : b < base) (hh : h + 1 ≤ d) (hj : j < 2 ^ (d - (h + 1))) (ht : trN f (h + 1) j ≠ 0) (ih1 : GatherAt b d f base h (2 * j)) (ih2 : GatherAt b d f base h (2 * j + 1)) : GatherAt b d f base (h + 1) j := by
  intro w v l hC hbs hO hlen
  have hcw := cr_width b (2 ^ d) hW
  have zc := hC.cell (k := h + 1) hh hj
  have hb := hC.lt
  obtain ⟨pv, nv, cv, rfl⟩ := own_form hO
  have e1 : lvN f (h + 1) j = lvN f h (2 * j) ++ lvN f h (2 * j + 1) := rfl
  have e2 : trN f (h + 1) j = trN f h (2 * j) + trN f h (2 * j + 1) := rfl
  have e3 : 2 ^ (d - h) = 2 * 2 ^ (d - (h + 1)) := by
    rw [show d - h = (d - (h + 1)) + 1 by omega, Nat.pow_succ, Nat.mul_comm]
  have hlt : 2 ^ (d - (h + 1)) + j < 2 ^ d := by
    have h2 : 2 ^ (d - (h + 1)) * 2 ≤ 2 ^ d := by
      rw [← Nat.pow_succ]
      exact Nat.pow_le_pow_right (by decide) (by omega)
    omega
  have hpos : 0 < 2 ^ (d - (h + 1)) + j := Nat.lt_of_lt_of_le (Nat.pow_pos (by decide)) (Nat.le_add_right _ _)
  have B0 : ∀ w2, Below (w.alloc (.cells #[.slice (some ⟨b, 0, none⟩) (2 * 2 ^ d) (2 * 2 ^ d)] 52)).heap.size (w.alloc (.cells #[.slice (some ⟨b, 0, none⟩) (2 * 2 ^ d) (2 * 2 ^ d)] 52)) w2 → Below w.heap.size w w2 ∧ w.heap.size < w2.heap.size ∧ w2.cell? ⟨w.heap.size, 0, none⟩ = some (.slice (some ⟨b, 0, none⟩) (2 * 2 ^ d) (2 * 2 ^ d)) := fun w2 b2 => ⟨bel_box b2, by have := b2.size; simp at this; omega, (World.cell?_of_block (b2.block w.heap.size (by simp))).trans (by rw [cell_of_row _ _ _ _ _ _ (heap_alloc_new w _)]; rfl)⟩
  have hvb : ∀ g, Its (.slice pv nv cv) g → g < w.heap.size ∧ base ≤ g := fun g hg => ⟨(hO.lt g hg).2, (hO.lt g hg).1⟩
  rw [e1]
  rw [e2] at hlen
  have hl1 := lvN_len f h (2 * j)
  have HA : Hid (∀ w2, Below (w.alloc (.cells #[.slice (some ⟨b, 0, none⟩) (2 * 2 ^ d) (2 * 2 ^ d)] 52)).heap.size (w.alloc (.cells #[.slice (some ⟨b, 0, none⟩) (2 * 2 ^ d) (2 * 2 ^ d)] 52)) w2 → Calls Try.prog 59 #[crV b (2 ^ d), .slice pv nv cv, .int .i64 (2 * ((2 ^ (d - (h + 1)) + j : Nat) : Int))] w2 fun e w' => ∃ u, e = .returned u ∧ w'.ownsRow base 3 1 u (l ++ natL (lvN f h (2 * j))).length (intL (l ++ natL (lvN f h (2 * j)))) ∧ Kept w2 w' (Its (.slice pv nv cv)) (Its u)) := fun w2 b2 => by
    have h3 := ih1 w2 _ l (hC.fresh (B0 w2 b2).1) (by have := (B0 w2 b2).2.1; omega) (own_kept hO (B0 w2 b2).1) (by omega)
    rw [show ((2 ^ (d - h) + 2 * j : Nat) : Int) = 2 * ((2 ^ (d - (h + 1)) + j : Nat) : Int) by rw [e3]; omega] at h3
    exact h3
  have HB : Hid (∀ w2 w3, Below (w.alloc (.cells #[.slice (some ⟨b, 0, none⟩) (2 * 2 ^ d) (2 * 2 ^ d)] 52)).heap.size (w.alloc (.cells #[.slice (some ⟨b, 0, none⟩) (2 * 2 ^ d) (2 * 2 ^ d)] 52)) w2 → ∀ p2 n2 c2, w3.ownsRow base 3 1 (.slice p2 n2 c2) (l ++ natL (lvN f h (2 * j))).length (intL (l ++ natL (lvN f h (2 * j)))) → Kept w2 w3 (Its (.slice pv nv cv)) (Its (.slice p2 n2 c2)) → Calls Try.prog 59 #[crV b (2 ^ d), .slice p2 n2 c2, .int .i64 (2 * ((2 ^ (d - (h + 1)) + j : Nat) : Int) + 1)] w3 fun e w' => ∃ u, e = .returned u ∧ w'.ownsRow base 3 1 u (l ++ natL (lvN f h (2 * j)) ++ natL (lvN f h (2 * j + 1))).length (intL (l ++ natL (lvN f h (2 * j)) ++ natL (lvN f h (2 * j + 1)))) ∧ Kept w3 w' (Its (.slice p2 n2 c2)) (Its u)) := fun w2 w3 b2 p2 n2 c2 O3 K3 => by
    have hb2 := B0 w2 b2
    have hC3 : CrAt w3 b d f := (hC.fresh hb2.1).keep (K3.kept b (by omega) (fun hg => by have := hvb b hg; omega))
    have h3 := ih2 w3 _ _ hC3 (by have := K3.size; omega) O3 (by rw [List.length_append, natL_len]; omega)
    rw [show ((2 ^ (d - h) + (2 * j + 1) : Nat) : Int) = 2 * ((2 ^ (d - (h + 1)) + j : Nat) : Int) + 1 by rw [e3]; omega] at h3
    exact h3
  have HBX : Hid (∀ w2 w3, Below (w.alloc (.cells #[.slice (some ⟨b, 0, none⟩) (2 * 2 ^ d) (2 * 2 ^ d)] 52)).heap.size (w.alloc (.cells #[.slice (some ⟨b, 0, none⟩) (2 * 2 ^ d) (2 * 2 ^ d)] 52)) w2 → ∀ S', Kept w2 w3 (Its (.slice pv nv cv)) S' → w3.cell? ⟨w.heap.size, 0, none⟩ = some (.slice (some ⟨b, 0, none⟩) (2 * 2 ^ d) (2 * 2 ^ d))) := fun w2 w3 b2 S' K3 =>
    (World.cell?_of_block (K3.kept w.heap.size (B0 w2 b2).2.1 (fun hg => by have := hvb _ hg; omega))).trans (B0 w2 b2).2.2
  have HBY : Hid (∀ w2 w3 w4, Below (w.alloc (.cells #[.slice (some ⟨b, 0, none⟩) (2 * 2 ^ d) (2 * 2 ^ d)] 52)).heap.size (w.alloc (.cells #[.slice (some ⟨b, 0, none⟩) (2 * 2 ^ d) (2 * 2 ^ d)] 52)) w2 → ∀ p2 n2 c2, w3.ownsRow base 3 1 (.slice p2 n2 c2) (l ++ natL (lvN f h (2 * j))).length (intL (l ++ natL (lvN f h (2 * j)))) → Kept w2 w3 (Its (.slice pv nv cv)) (Its (.slice p2 n2 c2)) → ∀ p3 n3 c3, Kept w3 w4 (Its (.slice p2 n2 c2)) (Its (.slice p3 n3 c3)) → w4.cell? ⟨w.heap.size, 0, none⟩ = some (.slice (some ⟨b, 0, none⟩) (2 * 2 ^ d) (2 * 2 ^ d))) := fun w2 w3 w4 b2 p2 n2 c2 O3 K3 p3 n3 c3 K4 =>
    (World.cell?_of_block ((K3.trans K4).kept w.heap.size (B0 w2 b2).2.1 (fun hg => by have := hvb _ hg; omega))).trans (B0 w2 b2).2.2
  have HFO : Hid (∀ (w4 : World) p3 n3 c3, w4.ownsRow base 3 1 (.slice p3 n3 c3) (l ++ natL (lvN f h (2 * j)) ++ natL (lvN f h (2 * j + 1))).length (intL (l ++ natL (lvN f h (2 * j)) ++ natL (lvN f h (2 * j + 1)))) → w4.ownsRow base 3 1 (.slice p3 n3 c3) (l ++ natL (lvN f h (2 * j) ++ lvN f h (2 * j + 1))).length (intL (l ++ natL (lvN f h (2 * j) ++ lvN f h (2 * j + 1))))) := fun w4 p3 n3 c3 h9 => by
    rw [natL_append, ← List.append_assoc]
    exact h9
  have HFK : Hid (∀ w2 w3 w4, Below (w.alloc (.cells #[.slice (some ⟨b, 0, none⟩) (2 * 2 ^ d) (2 * 2 ^ d)] 52)).heap.size (w.alloc (.cells #[.slice (some ⟨b, 0, none⟩) (2 * 2 ^ d) (2 * 2 ^ d)] 52)) w2 → ∀ p2 n2 c2, Kept w2 w3 (Its (.slice pv nv cv)) (Its (.slice p2 n2 c2)) → ∀ p3 n3 c3, Kept w3 w4 (Its (.slice p2 n2 c2)) (Its (.slice p3 n3 c3)) → Kept w w4 (Its (.slice pv nv cv)) (Its (.slice p3 n3 c3))) := fun w2 w3 w4 b2 p2 n2 c2 K3 p3 n3 c3 K4 => (Kept.of (B0 w2 b2).1).trans (K3.trans K4)
  have HB0 : Hid _ := B0
  clear B0 hvb hl1 e1 e2 e3 hlen hC hO hbs ih1 ih2 hbb hj
  unfold crV at *
  generalize 2 ^ (d - (h + 1)) + j = N at *
  obtain ⟨t, htt⟩ : ∃ t, t = trN f (h + 1) j := ⟨_, rfl⟩
  rw [← htt] at zc ht
  clear htt
  generalize 2 ^ d = W at *
  have q0 : ((t : Int) == 0) = false := beq_eq_false_iff_ne.2 (by omega)
  have q1 : decide ((W : Int) ≤ (N : Int)) = false := decide_eq_false (by omega)
  go_enter Try.func59, Try.ntmps59
  go_wp2_with (go_at_call 45; refine (hcw _).mono ?_; rintro e w2 ⟨rfl, b2⟩; obtain ⟨_, _, hbx2⟩ := HB0.out w2 b2)
  refine wp_region_held_drew (S := (fun w' : World => w'.cell? ⟨w.heap.size, 0, none⟩ = some (.slice (some ⟨b, 0, none⟩) (2 * W) (2 * W)))) (by kernel_rfl) ?_ (fun hHeld0 => ?_)
  · try dsimp only
    go_keep
  refine tk0 (.agg #[.slice (some ⟨b, 0, none⟩) (2 * W) (2 * W)]) ?_
  try simp only [Act.put, pu1, pu2, pu3]
  refine tk1 (.agg #[.slice (some ⟨b, 0, none⟩) (2 * W) (2 * W)]) ?_
  try simp only [Act.put, pu1, pu2, pu3]
  refine tk2 (.slice pv nv cv) ?_
  try simp only [Act.put, pu1, pu2, pu3]
  refine tk3 (.int .i64 (N : Int)) ?_
  try simp only [Act.put, pu1, pu2, pu3]
  refine tk4 (.int .i64 (2 * (N : Int))) ?_ (fun w hSw => by (try dsimp only at hSw); go_simp; exact wrapI _ (by omega) (by omega))
  try simp only [Act.put, pu1, pu2, pu3]
  refine tk6 (.int .i64 (N : Int)) ?_
  try simp only [Act.put, pu1, pu2, pu3]
  refine tk7 (.int .i64 (2 * (N : Int))) ?_ (fun w hSw => by (try dsimp only at hSw); go_simp; exact wrapI _ (by omega) (by omega))
  try simp only [Act.put, pu1, pu2, pu3]
  refine tk8 (.int .i64 (2 * (N : Int) + 1)) ?_ (fun w hSw => by (try dsimp only at hSw); go_simp; exact wrapI _ (by omega) (by omega))
  try simp only [Act.put, pu1, pu2, pu3]
  refine cl5 (by kernel_rfl) rfl (fun K hK => ?_)
  go_simp
  go_at_call 59
  refine (HA.out w2.drew b2.drew).mono ?_
  rintro e w3 ⟨u3, rfl, O3, k3⟩
  obtain ⟨p2, n2, c2, rfl⟩ := own_form O3
  have HO3 : Hid _ := O3
  have HK3 : Hid _ := k3
  have hB3 := HBX.out w2.drew w3 b2.drew _ k3
  clear O3 k3
  refine hK.out _ _ ?_ (fun hHeld => ?_)
  · exact hB3
  clear hK K
  refine cl9 (by kernel_rfl) rfl (fun K hK => ?_)
  go_simp
  go_at_call 59
  refine (HB.out w2.drew w3 b2.drew p2 n2 c2 HO3.out HK3.out).mono ?_
  rintro e w4 ⟨u4, rfl, O4, k4⟩
  obtain ⟨p3, n3, c3, rfl⟩ := own_form O4
  have HO4 : Hid _ := O4
  have HK4 : Hid _ := k4
  have hB4 := HBY.out w2.drew w3 w4 b2.drew p2 n2 c2 HO3.out HK3.out p3 n3 c3 HK4.out
  clear O4 k4
  refine hK.out _ _ ?_ (fun hHeld => ?_)
  · exact hB4
  clear hK K
  refine tk10 (.slice p3 n3 c3) ?_
  try simp only [Act.put, pu1, pu2, pu3]
  refine wpAnyH_done (by kernel_rfl) ?_ _
  go_wp2
  go_ret
  exact ⟨_, rfl, HFO.out _ _ _ _ HO4.out, HFK.out w2.drew w3 w4 b2.drew p2 n2 c2 HK3.out p3 n3 c3 HK4.out⟩
theorem cr_gather (hW : 2 ^ d ≤ 65536) {base : Nat} (hbb : b < base) : ∀ (h j : Nat), h ≤ d → j < 2 ^ (d - h) → GatherAt b d f base h j := by
  intro h
  induction h with
  | zero =>
    intro j hh hj
    cases hf : f j with
    | false => exact gather_none hW hh hj (by unfold trN; rw [hf]; rfl)
    | true => exact gather_one hW (by rw [Nat.sub_zero] at hj; exact hj) hf
  | succ h ih =>
    intro j hh hj
    by_cases ht : trN f (h + 1) j = 0
    · exact gather_none hW hh hj ht
    · have e3 : 2 ^ (d - h) = 2 * 2 ^ (d - (h + 1)) := by
        rw [show d - h = (d - (h + 1)) + 1 by omega, Nat.pow_succ, Nat.mul_comm]
      exact gather_two hW hbb hh hj ht (ih (2 * j) (by omega) (by omega)) (ih (2 * j + 1) (by omega) (by omega))
end
end Go.Proofs.Ythhlglbohibekaa
namespace Go.Proofs.Ythhlglbohibekaa
open Go.RowKit

section
variable {w w' : World} {b d : Nat} {f g : Nat → Bool}
set_option maxHeartbeats 6400000 in
set_option maxRecDepth 100000 in
theorem cr_all (h : CrAt w b d f) (hW : 2 ^ d ≤ 65536) : Calls Try.prog 40 #[crV b (2 ^ d)] w fun e w' => ∃ u, e = .returned u ∧ RowAt intC w' u (natL (lvN f d 0)) ∧ Below w.heap.size w w' := by
  obtain ⟨i0, hi, hz0, hz1, hz2⟩ := info_parts infoI
  have hb := h.lt
  have htl := trN_le f d 0
  have B0 : ∀ w2, Below (w.alloc (.cells #[.slice (some ⟨b, 0, none⟩) (2 * 2 ^ d) (2 * 2 ^ d)] 52)).heap.size (w.alloc (.cells #[.slice (some ⟨b, 0, none⟩) (2 * 2 ^ d) (2 * 2 ^ d)] 52)) w2 → Below w.heap.size w w2 ∧ w.heap.size < w2.heap.size ∧ w2.cell? ⟨w.heap.size, 0, none⟩ = some (.slice (some ⟨b, 0, none⟩) (2 * 2 ^ d) (2 * 2 ^ d)) := fun w2 b2 => ⟨bel_box b2, by have := b2.size; simp at this; omega, (World.cell?_of_block (b2.block w.heap.size (by simp))).trans (by rw [cell_of_row _ _ _ _ _ _ (heap_alloc_new w _)]; rfl)⟩
  have HSZ : Hid (∀ w2, Below (w.alloc (.cells #[.slice (some ⟨b, 0, none⟩) (2 * 2 ^ d) (2 * 2 ^ d)] 52)).heap.size (w.alloc (.cells #[.slice (some ⟨b, 0, none⟩) (2 * 2 ^ d) (2 * 2 ^ d)] 52)) w2 → Calls Try.prog 41 #[crV b (2 ^ d)] w2 fun e w' => e = .returned (.int .i64 (trN f d 0 : Int)) ∧ Below w2.heap.size w2 w') := fun w2 b2 => cr_size (h.fresh (B0 w2 b2).1) hW
  have hsz0 := HSZ.out _ (Below.refl _ _)
  by_cases ht : trN f d 0 = 0
  · have e1 : lvN f d 0 = [] := List.eq_nil_of_length_eq_zero (by rw [lvN_len]; exact ht)
    rw [e1]
    rw [ht] at hsz0
    clear h HSZ B0 e1 ht htl
    unfold crV at *
    generalize 2 ^ d = W at *
    go_enter Try.func40, Try.ntmps40
    go_wp2_with (go_at_call 41; refine hsz0.mono ?_; rintro e w2 ⟨rfl, b2⟩)
    go_ret
    exact ⟨_, rfl, RowAt.nil _, bel_box b2⟩
  have hmk : ∀ w : World, (Instr.makeSlice 23 (.int .i64 0) (.int .i64 (trN f d 0 : Int))).run Try.prog w = .ok (.slice (some ⟨w.heap.size, 0, none⟩) 0 (trN f d 0)) (w.alloc (.cells (madeCells (Value.int .i64 0).cells (trN f d 0 * i0.size)) 3)) := fun w => by
    have := run_make (P := Try.prog) w 23 3 i0 (.int .i64 0) Try.underlying23 hi hz0 .i64 .i64 0 (trN f d 0 : Int) (Int.le_refl _) (by omega) (by rw [hz2]; omega) (by omega)
    rw [Int.toNat_natCast] at this
    exact this
  have hcs : (madeCells (Value.int .i64 0).cells (trN f d 0 * i0.size)).size = trN f d 0 * 1 := by rw [size_madeCells, hz1]
  have hlv := lvN_len f d 0
  have HG : Hid (∀ w2 w3, Below (w.alloc (.cells #[.slice (some ⟨b, 0, none⟩) (2 * 2 ^ d) (2 * 2 ^ d)] 52)).heap.size (w.alloc (.cells #[.slice (some ⟨b, 0, none⟩) (2 * 2 ^ d) (2 * 2 ^ d)] 52)) w2 → Below w2.heap.size w2 w3 → Calls Try.prog 59 #[crV b (2 ^ d), .slice (some ⟨w3.heap.size, 0, none⟩) 0 (trN f d 0), .int .i64 1] (w3.alloc (.cells (madeCells (Value.int .i64 0).cells (trN f d 0 * i0.size)) 3)) fun e w' => ∃ u, e = .returned u ∧ w'.ownsRow w.heap.size 3 1 u (natL (lvN f d 0)).length (intL (natL (lvN f d 0))) ∧ Kept (w3.alloc (.cells (madeCells (Value.int .i64 0).cells (trN f d 0 * i0.size)) 3)) w' (Its (.slice (some ⟨w3.heap.size, 0, none⟩) 0 (trN f d 0))) (Its u)) := fun w2 w3 b2 b3 => by
    have h2 := B0 w2 b2
    have h3 := bmm h2.1 (by omega) b3
    have h4 := cr_gather (b := b) (f := f) hW (base := w.heap.size) hb d 0 (Nat.le_refl _) (by rw [Nat.sub_self]; decide) (w3.alloc (.cells (madeCells (Value.int .i64 0).cells (trN f d 0 * i0.size)) 3)) (.slice (some ⟨w3.heap.size, 0, none⟩) 0 (trN f d 0)) [] (h.fresh (h3.alloc h3.size _)) (by have := h3.size; simp; omega) (World.ownsRow_made w3 _ _ (by exact h3.size) (by unfold maxLen; omega) hcs) (by simp; omega)
    rw [Nat.sub_self] at h4
    exact h4
  have HS3 : Hid (∀ w2 w3, Below (w.alloc (.cells #[.slice (some ⟨b, 0, none⟩) (2 * 2 ^ d) (2 * 2 ^ d)] 52)).heap.size (w.alloc (.cells #[.slice (some ⟨b, 0, none⟩) (2 * 2 ^ d) (2 * 2 ^ d)] 52)) w2 → Below w2.heap.size w2 w3 → w3.cell? ⟨w.heap.size, 0, none⟩ = some (.slice (some ⟨b, 0, none⟩) (2 * 2 ^ d) (2 * 2 ^ d))) := fun w2 w3 b2 b3 => (World.cell?_of_block (b3.block _ (B0 w2 b2).2.1)).trans (B0 w2 b2).2.2
  have HS4 : Hid (∀ w2 w3, Below (w.alloc (.cells #[.slice (some ⟨b, 0, none⟩) (2 * 2 ^ d) (2 * 2 ^ d)] 52)).heap.size (w.alloc (.cells #[.slice (some ⟨b, 0, none⟩) (2 * 2 ^ d) (2 * 2 ^ d)] 52)) w2 → Below w2.heap.size w2 w3 → (w3.alloc (.cells (madeCells (Value.int .i64 0).cells (trN f d 0 * i0.size)) 3)).cell? ⟨w.heap.size, 0, none⟩ = some (.slice (some ⟨b, 0, none⟩) (2 * 2 ^ d) (2 * 2 ^ d))) := fun w2 w3 b2 b3 => (World.cell?_of_block (Below.heap_alloc w3 _ _ (by have := (B0 w2 b2).2.1; have := b3.size; show w.heap.size < _; omega))).trans (HS3.out w2 w3 b2 b3)
  have HS5 : Hid (∀ w2 w3 w4, Below (w.alloc (.cells #[.slice (some ⟨b, 0, none⟩) (2 * 2 ^ d) (2 * 2 ^ d)] 52)).heap.size (w.alloc (.cells #[.slice (some ⟨b, 0, none⟩) (2 * 2 ^ d) (2 * 2 ^ d)] 52)) w2 → Below w2.heap.size w2 w3 → ∀ p4 n4 c4, Kept (w3.alloc (.cells (madeCells (Value.int .i64 0).cells (trN f d 0 * i0.size)) 3)) w4 (Its (.slice (some ⟨w3.heap.size, 0, none⟩) 0 (trN f d 0))) (Its (.slice p4 n4 c4)) → w4.cell? ⟨w.heap.size, 0, none⟩ = some (.slice (some ⟨b, 0, none⟩) (2 * 2 ^ d) (2 * 2 ^ d))) := fun w2 w3 w4 b2 b3 p4 n4 c4 k4 => (World.cell?_of_block (k4.kept _ (by have := (B0 w2 b2).2.1; have := b3.size; simp; omega) (fun e => by
    have e1 : w3.heap.size = w.heap.size := Option.some.inj e
    have := (B0 w2 b2).2.1
    have := b3.size
    omega))).trans (HS4.out w2 w3 b2 b3)
  have HFB : Hid (∀ w2 w3 w4, Below (w.alloc (.cells #[.slice (some ⟨b, 0, none⟩) (2 * 2 ^ d) (2 * 2 ^ d)] 52)).heap.size (w.alloc (.cells #[.slice (some ⟨b, 0, none⟩) (2 * 2 ^ d) (2 * 2 ^ d)] 52)) w2 → Below w2.heap.size w2 w3 → ∀ p4 n4 c4, Kept (w3.alloc (.cells (madeCells (Value.int .i64 0).cells (trN f d 0 * i0.size)) 3)) w4 (Its (.slice (some ⟨w3.heap.size, 0, none⟩) 0 (trN f d 0))) (Its (.slice p4 n4 c4)) → Below w.heap.size w w4) := fun w2 w3 w4 b2 b3 p4 n4 c4 k4 => by
    have h2 := B0 w2 b2
    have h3 := bmm h2.1 (by omega) b3
    have h5 := h3.alloc h3.size (.cells (madeCells (Value.int .i64 0).cells (trN f d 0 * i0.size)) 3)
    exact h5.trans (k4.low h5.size (fun x hx => by
      have e1 : w3.heap.size = x := Option.some.inj hx
      have := h3.size
      omega))
  have HF : Hid (∀ (w4 : World) p4 n4 c4, w4.ownsRow w.heap.size 3 1 (.slice p4 n4 c4) (natL (lvN f d 0)).length (intL (natL (lvN f d 0))) → RowAt intC w4 (.slice p4 n4 c4) (natL (lvN f d 0))) := fun w4 p4 n4 c4 O4 => RowAt.own (k := 1) (T := 3) (base := w.heap.size) intC_len (by rw [rowL_int]; exact O4)
  have HB0 : Hid _ := B0
  clear h B0 hlv hcs
  unfold crV at *
  generalize hT : trN f d 0 = t at *
  clear hT
  generalize madeCells (Value.int .i64 0).cells (t * i0.size) = cs0 at *
  generalize 2 ^ d = W at *
  have q0 : ((t : Int) == 0) = false := beq_eq_false_iff_ne.2 (by omega)
  go_enter Try.func40, Try.ntmps40
  go_wp2_with (go_at_call 41; refine hsz0.mono ?_; rintro e w2 ⟨rfl, b2⟩; obtain ⟨_, _, hbx2⟩ := HB0.out w2 b2)
  refine wp_region_held_drew (S := (fun w' : World => w'.cell? ⟨w.heap.size, 0, none⟩ = some (.slice (some ⟨b, 0, none⟩) (2 * W) (2 * W)))) (by kernel_rfl) ?_ (fun hHeld0 => ?_)
  · try dsimp only
    go_keep
  refine tk0 (.agg #[.slice (some ⟨b, 0, none⟩) (2 * W) (2 * W)]) ?_
  try simp only [Act.put, pu1, pu2, pu3]
  refine tk1 (.agg #[.slice (some ⟨b, 0, none⟩) (2 * W) (2 * W)]) ?_
  try simp only [Act.put, pu1, pu2, pu3]
  refine cl2 (by kernel_rfl) rfl (fun K hK => ?_)
  go_simp
  go_at_call 41
  refine (HSZ.out w2.drew (b2.drew)).mono ?_
  rintro e w3 ⟨rfl, b3⟩
  refine hK.out _ _ ?_ (fun hHeld => ?_)
  · exact HS3.out w2.drew w3 b2.drew b3
  clear hK K
  refine cl3 (by kernel_rfl) rfl (fun K hK => ?_)
  go_simp
  refine hK.out _ _ ?_ (fun hHeld => ?_)
  · exact HS4.out w2.drew w3 b2.drew b3
  clear hK K
  refine cl4 (by kernel_rfl) rfl (fun K hK => ?_)
  go_simp
  go_at_call 59
  refine (HG.out w2.drew w3 b2.drew b3).mono ?_
  rintro e w4 ⟨u4, rfl, O4, k4⟩
  obtain ⟨p4, n4, c4, rfl⟩ := own_form O4
  have HO4 : Hid _ := O4
  have HK4 : Hid _ := k4
  clear O4 k4
  refine hK.out _ _ ?_ (fun hHeld => ?_)
  · exact HS5.out w2.drew w3 w4 b2.drew b3 p4 n4 c4 HK4.out
  clear hK K
  refine tk5 (.slice p4 n4 c4) ?_
  try simp only [Act.put, pu1, pu2, pu3]
  refine wpAnyH_done (by kernel_rfl) ?_ _
  go_wp2
  go_ret
  exact ⟨_, rfl, HF.out _ _ _ _ HO4.out, HFB.out w2.drew w3 w4 b2.drew b3 p4 n4 c4 HK4.out⟩
theorem infoC1 : (Try.prog.info? 52).map (·.size) = some 1 := by kernel_rfl
theorem pow_room (n k : Nat) (hn : n ≤ 65536) (h : k = 0 ∨ 2 ^ (k - 1) < n) : k ≤ 16 := by
  rcases h with h | h
  · omega
  · apply Classical.byContradiction
    intro hk
    have : 2 ^ 16 ≤ 2 ^ (k - 1) := Nat.pow_le_pow_right (by decide) (by omega)
    have e : 2 ^ 16 = 65536 := by decide
    omega
theorem pow_16 (k : Nat) (hk : k ≤ 16) : 2 ^ k ≤ 65536 := by
  have : 2 ^ k ≤ 2 ^ 16 := Nat.pow_le_pow_right (by decide) hk
  have e : 2 ^ 16 = 65536 := by decide
  omega
theorem CrAt.made (w : World) (d : Nat) {cs : Array Value} (hs : cs.size = 2 * 2 ^ d) (hc : ∀ i, i < 2 * 2 ^ d → cs[i]? = some (.int .i64 0)) : CrAt (w.alloc (.cells cs 3)) w.heap.size d (fun _ => false) :=
  ⟨cs, heap_alloc_new w _, hs, fun h j hh hj => by
    have h1 : 2 ^ (d - h) ≤ 2 ^ d := Nat.pow_le_pow_right (by decide) (by omega)
    rw [hc _ (by omega), trN_zero]
    rfl⟩
set_option maxHeartbeats 6400000 in
set_option maxRecDepth 100000 in
theorem cr_new (n : Nat) (hn : n ≤ 65536) (w : World) : Calls Try.prog 27 #[.int .i64 (n : Int)] w fun e w' => ∃ b d, e = .returned (crV b (2 ^ d)) ∧ n ≤ 2 ^ d ∧ 2 ^ d ≤ 65536 ∧ CrAt w' b d (fun _ => false) ∧ w.heap.size ≤ b ∧ Below w.heap.size w w' := by
  obtain ⟨i0, hi, hz0, hz1, hz2⟩ := info_parts infoI
  have HNN : Hid (n ≤ 65536) := hn
  go_enter Try.func27, Try.ntmps27
  go_wp2
  go_loop [3] (fun x => ∃ k : Nat, x = .int .i64 ((2 ^ k : Nat) : Int) ∧ Hid (k = 0 ∨ 2 ^ (k - 1) < n)) (fun x => 2 * n - (RowKit.intOf x).toNat)
  case atStart => exact ⟨0, rfl, Or.inl rfl⟩
  case round =>
    obtain ⟨k, rfl, HK⟩ := hrel
    have hk16 := pow_room n k hn HK.out
    have hp := pow_16 k hk16
    have hpos : 0 < 2 ^ k := Nat.pow_pos (by decide)
    by_cases hlt : 2 ^ k < n
    · have HK2 : Hid ((2 ^ k) * 2 = 2 ^ (k + 1) ∧ (k + 1 = 0 ∨ 2 ^ (k + 1 - 1) < n)) := ⟨(Nat.pow_succ 2 k).symm, Or.inr (by simpa using hlt)⟩
      have q0 : decide (((2 ^ k : Nat) : Int) < (n : Int)) = true := decide_eq_true (by omega)
      clear HK
      generalize 2 ^ k = W at *
      go_wp2
      go_round
      case rel => exact ⟨k + 1, by rw [← HK2.out.1]; simp, HK2.out.2⟩
      case measure => simp [RowKit.intOf]; omega
    · have q0 : decide (((2 ^ k : Nat) : Int) < (n : Int)) = false := decide_eq_false (by omega)
      have HL : Hid (n ≤ 2 ^ k) := by show _ ≤ _; omega
      have hcs : ∀ i, i < 2 * 2 ^ k → (madeCells (Value.int .i64 0).cells (2 * 2 ^ k * i0.size))[i]? = some (.int .i64 0) := fun i hi2 => by
        rw [hz1, Nat.mul_one]
        unfold madeCells
        simp [Value.cells, hi2, Nat.mod_one]
      have HCS : Hid _ := hcs
      have HCZ : Hid ((madeCells (Value.int .i64 0).cells (2 * 2 ^ k * i0.size)).size = 2 * 2 ^ k) := by show _ = _; rw [size_madeCells, hz1, Nat.mul_one]
      have hmk : ∀ w : World, (Instr.makeSlice 23 (.int .i64 (2 * ((2 ^ k : Nat) : Int))) (.int .i64 (2 * ((2 ^ k : Nat) : Int)))).run Try.prog w = .ok (.slice (some ⟨w.heap.size, 0, none⟩) (2 * 2 ^ k) (2 * 2 ^ k)) (w.alloc (.cells (madeCells (Value.int .i64 0).cells (2 * 2 ^ k * i0.size)) 3)) := fun w => by
        have := run_make (P := Try.prog) w 23 3 i0 (.int .i64 0) Try.underlying23 hi hz0 .i64 .i64 (2 * ((2 ^ k : Nat) : Int)) (2 * ((2 ^ k : Nat) : Int)) (by omega) (Int.le_refl _) (by rw [hz2]; omega) (by omega)
        rw [show (2 * ((2 ^ k : Nat) : Int)).toNat = 2 * 2 ^ k by omega] at this
        exact this
      have HFIN : Hid (∀ w : World, CrAt (w.alloc (.cells (madeCells (Value.int .i64 0).cells (2 * 2 ^ k * i0.size)) 3)) w.heap.size k (fun _ => false)) := fun w => CrAt.made w k HCZ.out HCS.out
      clear hcs HCS HK
      generalize madeCells (Value.int .i64 0).cells (2 * 2 ^ k * i0.size) = cs0 at *
      have HP : Hid (∃ d, d = k) := ⟨k, rfl⟩
      have HW : Hid (2 ^ k ≤ 65536) := hp
      obtain ⟨W, eW⟩ : ∃ W, W = 2 ^ k := ⟨_, rfl⟩
      have EW : Hid (W = 2 ^ k) := eW
      rw [← eW] at q0 hmk hp hpos hlt ⊢
      clear eW
      have b1 : Hid (Below w.heap.size w ((w.alloc (.cells #[.slice (some ⟨w.heap.size + 1, 0, none⟩) (2 * W) (2 * W)] 52)).alloc (.cells cs0 3))) := ((Below.refl _ w).alloc (Nat.le_refl _) _).alloc (by simp) _
      have hE : Hid (((w.alloc (.cells #[.slice (some ⟨w.heap.size + 1, 0, none⟩) (2 * W) (2 * W)] 52)).alloc (.cells cs0 3)).heap[w.heap.size]? = some (.cells #[.slice (some ⟨w.heap.size + 1, 0, none⟩) (2 * W) (2 * W)] 52 (0, 0))) := by
        show _ = _
        rw [Below.heap_alloc _ _ _ (by simp)]
        exact heap_alloc_new w _
      have hC : Hid (CrAt ((w.alloc (.cells #[.slice (some ⟨w.heap.size + 1, 0, none⟩) (2 * W) (2 * W)] 52)).alloc (.cells cs0 3)) (w.heap.size + 1) k (fun _ => false)) := by
        have := HFIN.out (w.alloc (.cells #[.slice (some ⟨w.heap.size + 1, 0, none⟩) (2 * W) (2 * W)] 52))
        rw [show (w.alloc (.cells #[.slice (some ⟨w.heap.size + 1, 0, none⟩) (2 * W) (2 * W)] 52)).heap.size = w.heap.size + 1 by simp] at this
        exact this
      clear HFIN
      go_wp2
      refine bodyPost_ret (results_cell_row Try.results27 _ _ w.heap.size 52 _ (0, 0) _ rfl hE.out Try.underlying52 rfl infoC1) rfl ?_
      exact ⟨w.heap.size + 1, k, by rw [← EW.out]; rfl, HL.out, HW.out, hC.out, by omega, b1.out⟩
end
end Go.Proofs.Ythhlglbohibekaa
namespace Go.Proofs.Ythhlglbohibekaa
open Go.RowKit

section
variable {w w' : World} {b d : Nat} {f g : Nat → Bool}
set_option maxHeartbeats 3200000 in
set_option maxRecDepth 100000 in
theorem cr_at (h : CrAt w b d f) (hW : 2 ^ d ≤ 65536) (p : Nat) (hp : p < trN f d 0) : Calls Try.prog 42 #[crV b (2 ^ d), .int .i64 (p : Int)] w fun e w' => e = .returned (.int .i64 (selN f d 0 p : Int)) ∧ Below w.heap.size w w' := by
  have hcw := cr_width b (2 ^ d) hW
  have hsm := trN_le f d 0
  obtain ⟨W, eW⟩ : ∃ W, W = 2 ^ d := ⟨_, rfl⟩
  rw [← eW] at hcw hW ⊢
  have EW : Hid (W = 2 ^ d) := eW
  rw [← eW] at hsm
  have HC : Hid _ := h
  have hb := h.lt
  clear eW h
  unfold crV at *
  have B0 : Hid _ := (Below.refl _ w).alloc (Nat.le_refl _) (.cells #[.slice (some ⟨b, 0, none⟩) (2 * W) (2 * W)] 52)
  go_enter Try.func42, Try.ntmps42
  go_wp2
  go_loopw [1, 5] (fun p' i wr => ∃ h j q : Nat, h ≤ d ∧ Hid (j < 2 ^ (d - h)) ∧ p' = .int .i64 (q : Int) ∧ i = .int .i64 ((2 ^ (d - h) + j : Nat) : Int) ∧ Hid (q < trN f h j) ∧ q ≤ W ∧ Hid (selN f h j q = selN f d 0 p) ∧ Below w.heap.size w wr ∧ wr.heap[w.heap.size]? = some (.cells #[.slice (some ⟨b, 0, none⟩) (2 * W) (2 * W)] 52 (0, 0))) (fun _ i _ => 2 * W - (RowKit.intOf i).toNat)
  case atStart => exact ⟨d, 0, p, Nat.le_refl _, by show 0 < 2 ^ (d - d); rw [Nat.sub_self]; decide, rfl, by rw [Nat.sub_self]; rfl, hp, by omega, by show _ = _; rfl, B0.out, heap_alloc_new w _⟩
  case round =>
    obtain ⟨h, j, q, hh, HJ, rfl, rfl, HQ, hqW, HSE, bel, hB⟩ := hrel
    have hbc : wr.cell? ⟨w.heap.size, 0, none⟩ = some (.slice (some ⟨b, 0, none⟩) (2 * W) (2 * W)) := by simp [World.cell?, hB]
    have hbl : w.heap.size < wr.heap.size := lt_of_block hB
    have HB : Hid _ := hB
    have hbr : b < wr.heap.size := by omega
    clear hB
    cases h with
    | zero =>
      have q0 : decide (((2 ^ (d - 0) + j : Nat) : Int) < (W : Int)) = false := decide_eq_false (by have := EW.out; rw [Nat.sub_zero]; omega)
      have e9 : Hid (((2 ^ (d - 0) + j : Nat) : Int) = (W : Int) + j ∧ selN f d 0 p = j) := ⟨by have := EW.out; rw [Nat.sub_zero]; omega, HSE.out.symm⟩
      have hjW : j < W := by have := HJ.out; rw [Nat.sub_zero, ← EW.out] at this; exact this
      rw [e9.out.1] at q0 ⊢
      clear HSE HJ HQ
      go_wp2_with (first
        | (go_at_call 45; refine (hcw w2).mono ?_; rintro e w3 ⟨rfl, b3⟩)
        | (go_at_call 45; refine (hcw wr).mono ?_; rintro e w2 ⟨rfl, b2⟩; have zb : w2.cell? ⟨w.heap.size, 0, none⟩ = some (.slice (some ⟨b, 0, none⟩) (2 * W) (2 * W)) := (World.cell?_of_block (b2.block _ hbl)).trans hbc))
      go_ret
      refine ⟨?_, ?_⟩
      · show Ending.returned (Value.int .i64 ((W : Int) + j - W)) = _
        rw [e9.out.2, show (W : Int) + j - W = j by omega]
      exact bmm (bmm bel bel.size b2) (bmm bel bel.size b2).size b3
    | succ h =>
      have hlt : 2 ^ (d - (h + 1)) + j < W := by
        have h1 := HJ.out
        have h2 : 2 ^ (d - (h + 1)) * 2 ≤ 2 ^ d := by
          rw [← Nat.pow_succ]
          exact Nat.pow_le_pow_right (by decide) (by omega)
        have := EW.out
        omega
      have q0 : decide (((2 ^ (d - (h + 1)) + j : Nat) : Int) < (W : Int)) = true := decide_eq_true (by omega)
      have e2 : Hid (2 ^ (d - h) = 2 * 2 ^ (d - (h + 1))) := by
        show _ = _
        rw [show d - h = (d - (h + 1)) + 1 by omega, Nat.pow_succ, Nat.mul_comm]
      have hj2 : Hid (2 * j < 2 ^ (d - h) ∧ 2 * j + 1 < 2 ^ (d - h)) := by
        have h1 := HJ.out
        have := e2.out
        exact ⟨by omega, by omega⟩
      have zc' := ((HC.out.keep (w' := wr) (bel.block b hb)).cell (k := h) (j := 2 * j) (by omega) hj2.out.1)
      have e3 : 2 ^ (d - h) + 2 * j = 2 * (2 ^ (d - (h + 1)) + j) := by have := e2.out; omega
      rw [e3, Nat.mul_comm] at zc'
      have HT : Hid (trN f (h + 1) j = trN f h (2 * j) + trN f h (2 * j + 1)) := by show _ = _; rfl
      have HS1 : Hid (q < trN f h (2 * j) → selN f h (2 * j) q = selN f d 0 p) := fun hq => by
        rw [← HSE.out]
        show _ = selN f (h + 1) j q
        rw [selN, if_pos hq]
      have HS2 : Hid (¬ q < trN f h (2 * j) → selN f h (2 * j + 1) (q - trN f h (2 * j)) = selN f d 0 p) := fun hq => by
        rw [← HSE.out]
        show _ = selN f (h + 1) j q
        rw [selN, if_neg hq]
      have htl : trN f h (2 * j) ≤ 65536 := by
        have h1 := trN_le f h (2 * j)
        have h2 : 2 ^ h ≤ 2 ^ d := Nat.pow_le_pow_right (by decide) (by omega)
        have := EW.out
        omega
      have HQ2 : Hid (¬ q < trN f h (2 * j) → q - trN f h (2 * j) < trN f h (2 * j + 1)) := fun hq => by
        have h1 := HQ.out
        rw [HT.out] at h1
        omega
      have E3 : Hid (2 * (2 ^ (d - (h + 1)) + j) = 2 ^ (d - h) + 2 * j) := e3.symm
      have ZC : Hid _ := zc'
      clear HSE e3 HQ HT zc'
      generalize hT : trN f h (2 * j) = t at *
      have HTT : Hid _ := hT
      generalize hN : 2 ^ (d - (h + 1)) + j = N at *
      have hpos : 0 < N := by rw [← hN]; exact Nat.lt_of_lt_of_le (Nat.pow_pos (by decide)) (Nat.le_add_right _ _)
      clear hN e2 HJ hT
      by_cases hq : q < t
      · have q1 : decide ((t : Int) ≤ (q : Int)) = false := decide_eq_false (by omega)
        go_wp2_with (go_at_call 45; refine (hcw wr).mono ?_; rintro e w2 ⟨rfl, b2⟩; have zc : w2.cell? ⟨b, N * 2, none⟩ = some (.int .i64 (t : Int)) := (World.cell?_of_block (b2.block b hbr)).trans ZC.out; have zb : w2.cell? ⟨w.heap.size, 0, none⟩ = some (.slice (some ⟨b, 0, none⟩) (2 * W) (2 * W)) := (World.cell?_of_block (b2.block _ hbl)).trans hbc)
        go_roundw
        case rel => exact ⟨h, 2 * j, q, by omega, hj2.out.1, rfl, by rw [← E3.out]; simp; omega, by show q < trN f h (2 * j); rw [HTT.out]; exact hq, hqW, HS1.out hq, bmm bel bel.size b2, by rw [b2.block _ hbl]; exact HB.out⟩
        case measure => simp [RowKit.intOf]; omega
      · have q1 : decide ((t : Int) ≤ (q : Int)) = true := decide_eq_true (by omega)
        go_wp2_with (go_at_call 45; refine (hcw wr).mono ?_; rintro e w2 ⟨rfl, b2⟩; have zc : w2.cell? ⟨b, N * 2, none⟩ = some (.int .i64 (t : Int)) := (World.cell?_of_block (b2.block b hbr)).trans ZC.out; have zb : w2.cell? ⟨w.heap.size, 0, none⟩ = some (.slice (some ⟨b, 0, none⟩) (2 * W) (2 * W)) := (World.cell?_of_block (b2.block _ hbl)).trans hbc)
        go_roundw
        case rel => exact ⟨h, 2 * j + 1, q - t, by omega, hj2.out.2, by go_num, by rw [← Nat.add_assoc, ← E3.out]; simp; omega, HQ2.out hq, by omega, HS2.out hq, bmm bel bel.size b2, by rw [b2.block _ hbl]; exact HB.out⟩
        case measure => simp [RowKit.intOf]; omega
end
end Go.Proofs.Ythhlglbohibekaa
