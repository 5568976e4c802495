/-
  Parts of the proof, laid together: GIter, GMap, GMapR. The conditions stand at each part.
-/
import Derived.RangeFuncNested
import Derived.RangeFuncBound
import Derived.RangeFuncCalls
import Derived.RangeFuncLeaves
import Derived.Shelf.Abstract
import Derived.Shelf.RegionOpen
import Derived.OwnWalkIn
import Derived.TacticsInMore
import Derived.LoopNIn
import Derived.LoopIn
import Derived.Maps.RangeWalk
import Derived.Test.YtmlgoecdefeapaaPPackA
/-
  A range over a function none of whose rounds stops it: the iterator's own contract over the rounds' own blocks, and the statement: at the wide fence, for any program. No condition.
-/
namespace Go.Proofs.Ytmlgoecdefeapaa
open Go.RowKit Go.Shelf

/-- Blocks that were there and are told by an invariant: it holds wherever they lie as they lay. -/
structure Stays {β : Type} (J : β → World → (Nat → Prop) → Prop) : Prop where
  lt : ∀ p W S, J p W S → ∀ b, S b → b < W.heap.size
  st : ∀ p W W' S, J p W S → W.heap.size ≤ W'.heap.size → (∀ b, S b → W'.heap[b]? = W.heap[b]?) → J p W' S
/-- One call of yield: the round says go on; it turns its own blocks alone. -/
def Turn (P : Program) (l : Nat) (J : List Int → World → (Nat → Prop) → Prop) (pre : List Int) (x : Int) (W : World) (S : Nat → Prop) : Prop :=
  ∀ m, YieldAt Fence.wide m P l #[.int .i64 x] W fun e W' => e = .returned (.bool true) ∧ ∃ S', J (pre ++ [x]) W' S' ∧ Kept W W' S S'
/-- An iterator that hands out xs, one behind the other; T: the blocks that it reads. -/
def Iters (P : Program) (g : Nat) (lb : Array Value) (xs : List Int) (T : Nat → Prop) (w : World) : Prop :=
  ∀ (l : Nat) (J : List Int → World → (Nat → Prop) → Prop) (W : World) (S : Nat → Prop), Stays J → (∀ b, T b → b < W.heap.size ∧ W.heap[b]? = w.heap[b]? ∧ ¬ S b) →
    (∀ pre x suf W1 S1, xs = pre ++ x :: suf → J pre W1 S1 → Turn P l J pre x W1 S1) → J [] W S →
    Calls P g (#[.func (.yield l) #[] #[]] ++ lb) W fun e W' => (∃ v, e = .returned v) ∧ ∃ S', J xs W' S' ∧ Kept W W' S S'

theorem kept_put {w : World} {S : Nat → Prop} {l : Nat} (o : Obj) (hl : S l) : Kept w (w.putObj l o) S S :=
  ⟨rfl, rfl, rfl, by simp, fun _ h => Or.inl h, fun b _ hn => World.putObj_heap_other (fun e => hn (by rw [e]; exact hl))⟩
theorem kept_more {w w' : World} {S S' T T' : Nat → Prop} (k : Kept w w' S S') (h1 : ∀ b, S b → T b) (h2 : ∀ b, T' b → S' b ∨ T b) : Kept w w' T T' :=
  ⟨k.os, k.tape, k.output, k.size, fun b hb => by
    rcases h2 b hb with h | h
    · rcases k.old b h with h | h
      · exact Or.inl (h1 b h)
      · exact Or.inr h
    · exact Or.inl h, fun b hb hn => k.kept b hb (fun hs => hn (h1 b hs))⟩
section
variable {P : Program} {n : Nat}
/-- The statement. -/
theorem wpIn_iter {g : Operand} {ps : Array Tmp} {assign body : Code} {Q : Exit → Act → World → Prop} {a : Act} {w : World}
    {gf : Nat} {lb : Array Value} (hg : a.eval g = .func (.func gf) #[] lb) (eg : ∀ args w, (callFunc gf args).run P w = .ok (.enter gf args) w)
    {xs : List Int} {T : Nat → Prop} (hit : Iters P gf lb xs T w) (hps : ps.size = 1)
    (I : List Int → World → (Nat → Prop) → Prop) (hI : Stays I) {S0 : Nat → Prop} (h0 : I [] w S0) (hT : ∀ b, T b → b < w.heap.size ∧ ¬ S0 b) (a₁ : Int → Act)
    (hassign : ∀ (l m : Nat) (x : Int) (W : World) (K : Act → World → Prop), K (a₁ x) W →
      assign.wpIn (Fence.wide.inRound l) m P (Exit.then K (fun _ _ _ => False)) { tmps := (ps.zip #[Value.int .i64 x]).foldl (fun t (p, v) => t.setIfInBounds p v) a.tmps, defers := [] } W)
    (hbody : ∀ (l m : Nat) (pre : List Int) (x : Int) (suf : List Int) (W : World) (S : Nat → Prop), xs = pre ++ x :: suf → w.heap.size ≤ l → I pre W S → ¬ S l →
      body.wpIn (Fence.wide.inRound l) m P (fun e _ W' => e = .normal ∧ ∃ S', I (pre ++ [x]) W' S' ∧ Kept W W' S S') (a₁ x) W)
    (hdone : ∀ (D : Nat) (W : World) (S : Nat → Prop), w.heap.size ≤ D → ¬ S D → I xs W S → Kept w W S0 S → W.heap[D]? = some (.deferred (some [])) → Q .normal { a with defers := { target := .collected D, args := #[] } :: a.defers } W) :
    (Code.rangeFunc g ps assign body).wpIn Fence.wide n P Q a w := by
  refine wpIn_rangeFunc ?_
  intro fn _
  rw [show Fence.wide.round = none from rfl]
  obtain ⟨rec, hrec⟩ : ∃ rec : LoopState → Loop, rec = fun st => { state := st, pending := none, fn, tmps := a.tmps, params := ps, assign, body, defers := w.heap.size } := ⟨_, rfl⟩
  obtain ⟨D, hD⟩ : ∃ D, D = w.heap.size := ⟨_, rfl⟩
  obtain ⟨W1, hW1⟩ : ∃ W1, W1 = (w.alloc (.deferred (some []))).alloc (.loop (rec .ready)) := ⟨_, rfl⟩
  have b1 : Below w.heap.size w W1 := by rw [hW1]; exact ((Below.refl _ w).alloc (Nat.le_refl _) _).alloc (by simp) _
  have s1 : W1.heap.size = D + 2 := by rw [hW1, hD]; simp
  have hL1 : W1.heap[D + 1]? = some (.loop (rec .ready)) := by
    rw [hW1, hD]
    have := World.alloc_heap_new (w.alloc (.deferred (some []))) (.loop (rec .ready))
    rwa [World.size_alloc] at this
  have hK1 : W1.heap[D]? = some (.deferred (some [])) := by
    rw [hW1, hD]
    exact (Below.heap_alloc _ _ _ (by simp)).trans (World.alloc_heap_new w _)
  have ht0 := hI.lt _ _ _ h0
  refine ⟨w.heap.size + 1, [{ target := .collected w.heap.size, args := #[] }], W1, { target := .fn (.func gf) lb, args := #[.func (.yield (w.heap.size + 1)) #[] #[]] }, W1, gf,
    #[.func (.yield (w.heap.size + 1)) #[] #[]] ++ lb, W1, ?_, ?_, fun _ _ => trivial, ?_, fun h => absurd h (by decide), ?_⟩
  · rw [hW1, hrec]; exact run_enterLoop_outer _ _ _ _ _
  · simp only [resolve, hg]
    simp [go_sem]
  · simp [invoke, go_sem, eg]
  rw [← hD]
  refine (callsIn_wide.2 (hit (D + 1) (fun pre W S => ∃ SI : Nat → Prop, (∀ b, S b ↔ SI b ∨ b = D ∨ b = D + 1) ∧ ¬ SI D ∧ ¬ SI (D + 1) ∧ I pre W SI ∧ W.heap[D + 1]? = some (.loop (rec .ready)) ∧ W.heap[D]? = some (.deferred (some [])))
    W1 (fun b => S0 b ∨ b = D ∨ b = D + 1) ⟨?_, ?_⟩ ?_ ?_ ⟨S0, fun _ => Iff.rfl, fun h => by have := ht0 _ h; omega, fun h => by have := ht0 _ h; omega, ?_, hL1, hK1⟩)).mono ?_
  · rintro p W S ⟨SI, hS, _, _, hi, hl, hk⟩ b hb
    rcases (hS b).1 hb with h | rfl | rfl
    · exact hI.lt _ _ _ hi b h
    · exact lt_of_block hk
    · exact lt_of_block hl
  · rintro p W W' S ⟨SI, hS, hd1, hd2, hi, hl, hk⟩ hz he
    exact ⟨SI, hS, hd1, hd2, hI.st _ _ _ _ hi hz (fun b hb => he b ((hS b).2 (Or.inl hb))), (he _ ((hS _).2 (Or.inr (Or.inr rfl)))).trans hl, (he _ ((hS _).2 (Or.inr (Or.inl rfl)))).trans hk⟩
  · intro b hb
    obtain ⟨h1, h2⟩ := hT b hb
    refine ⟨by have := b1.size; omega, b1.block b h1, fun h => ?_⟩
    rcases h with h | h | h
    · exact h2 h
    · omega
    · omega
  · -- ONE ROUND
    rintro pre x suf W S hx ⟨SI, hS, hd1, hd2, hi, hl, hk⟩ m
    have hlt : D + 1 < W.heap.size := lt_of_block hl
    have hy := run_yield (P := P) (args := #[Value.int .i64 x]) hl (by rw [hrec]; exact hps.symm)
    rw [hrec] at hy
    refine ⟨fn, _, assign, body, hy, roundIn_of_wpIn trivial (hassign _ m x W _ ⟨_, run_beginRound hl (by rw [hrec]), ?_⟩)⟩
    clear hy
    obtain ⟨W2, hW2⟩ : ∃ W2, W2 = W.putObj (D + 1) (.loop { rec .ready with state := .busy }) := ⟨_, rfl⟩
    have hl2 : W2.heap[D + 1]? = some (.loop { rec .ready with state := .busy }) := by rw [hW2]; exact World.putObj_heap_same hlt
    have z2 : W2.heap.size = W.heap.size := by rw [hW2]; simp
    have o2 : ∀ b, b ≠ D + 1 → W2.heap[b]? = W.heap[b]? := fun b hb => by rw [hW2]; exact World.putObj_heap_other hb
    have k2 : Kept W W2 S S := by rw [hW2]; exact kept_put _ ((hS _).2 (Or.inr (Or.inr rfl)))
    rw [← hW2]
    refine wpIn_mono (hbody _ m pre x suf W2 SI hx (by omega) (hI.st _ _ _ _ hi (by omega) (fun b hb => o2 b (fun e => hd2 (by rw [← e]; exact hb)))) hd2) ?_
    rintro e a3 W3 ⟨rfl, SI', hi3, k3⟩
    have hn1 : ¬ SI' D := fun h => by
      rcases k3.old D h with h | h
      · exact hd1 h
      · omega
    have hn2 : ¬ SI' (D + 1) := fun h => by
      rcases k3.old _ h with h | h
      · exact hd2 h
      · omega
    have hl3 := (k3.kept (D + 1) (by omega) hd2).trans hl2
    have hk3 := (k3.kept D (by omega) hd1).trans ((o2 D (by omega)).trans hk)
    have hz3 := k3.size
    have hend := run_endRound (P := P) none hl3
    refine ⟨_, _, hend, rfl, fun b => SI' b ∨ b = D ∨ b = D + 1, ⟨SI', fun _ => Iff.rfl, hn1, hn2, hI.st _ _ _ _ hi3 (by simp) (fun b hb => World.putObj_heap_other (fun e => hn2 (by rw [← e]; exact hb))), ?_, (World.putObj_heap_other (by omega)).trans hk3⟩, ?_⟩
    · rw [World.putObj_heap_same (by omega), hrec]
      rfl
    · refine k2.trans ((kept_more k3 (fun b hb => (hS b).2 (Or.inl hb)) (T' := fun b => SI' b ∨ b = D ∨ b = D + 1) (fun b hb => ?_)).trans (kept_put _ (Or.inr (Or.inr rfl))))
      rcases hb with h | h | h
      · exact Or.inl h
      · exact Or.inr ((hS b).2 (Or.inr (Or.inl h)))
      · exact Or.inr ((hS b).2 (Or.inr (Or.inr h)))
  · exact hI.st _ _ _ _ h0 b1.size (fun b hb => b1.block b (ht0 b hb))
  · -- BEHIND THE ITERATOR
    rintro e W2 ⟨⟨v, rfl⟩, S, ⟨SI, hS, hd1, hd2, hi, hl, hk⟩, k⟩
    refine ⟨none, _, by have := run_endLoop (P := P) hl (by rw [hrec]; simp); rw [hrec] at this; exact this, ?_⟩
    refine hdone D _ SI (by omega) hd1 (hI.st _ _ _ _ hi (by simp) (fun b hb => World.putObj_heap_other (fun e => hd2 (by rw [← e]; exact hb)))) ?_ ((World.putObj_heap_other (by omega)).trans hk)
    refine ⟨k.os.trans b1.os, k.tape.trans b1.tape, k.output.trans b1.output, by have := k.size; have := b1.size; simp; omega, fun b hb => ?_, fun b hb hn => ?_⟩
    · rcases k.old b ((hS b).2 (Or.inl hb)) with (h | h | h) | h
      · exact Or.inl h
      · exact Or.inr (by omega)
      · exact Or.inr (by omega)
      · exact Or.inr (by omega)
    · rw [World.putObj_heap_other (by omega), k.kept b (by omega) (fun h => by
        rcases h with h | h | h
        · exact hn h
        · omega
        · omega), b1.block b hb]
/-- A mark for a loop's deferred calls. -/
abbrev markD (D : Nat) : Deferred := { target := .collected D, args := #[] }
/-- A function leaves with marks: each is come to, none holds a call. -/
theorem leaves_marks {fn : Func} {tmps : Array Value} {R : Ending → World → Prop} : ∀ (Ds : List Nat) (W : World), Ds.Nodup → (∀ D ∈ Ds, W.heap[D]? = some (.deferred (some []))) →
    (∀ W', W'.os = W.os → W'.tape = W.tape → W'.output = W.output → W'.heap.size = W.heap.size → (∀ b, b ∉ Ds → W'.heap[b]? = W.heap[b]?) → LeavesInM Fence.wide n P fn tmps R [] .returning W') → LeavesInM Fence.wide n P fn tmps R (Ds.map markD) .returning W
  | [], W, _, _, h => h W rfl rfl rfl rfl fun _ _ => rfl
  | D :: Ds, W, hn, hD, h => by
    have hn' := List.nodup_cons.1 hn
    refine ⟨by simp, .inl ⟨D, _, rfl, run_takeDeferred (hD D List.mem_cons_self), ?_⟩⟩
    refine leaves_marks Ds _ hn'.2 (fun E hE => (World.putObj_heap_other (fun e => hn'.1 (by rw [← e]; exact hE))).trans (hD E (List.mem_cons_of_mem _ hE))) (fun W' h1 h2 h3 h4 h5 => ?_)
    refine h W' (h1.trans rfl) (h2.trans rfl) (h3.trans rfl) (h4.trans (by simp)) (fun b hb => ?_)
    rw [List.mem_cons, not_or] at hb
    exact (h5 b hb.2).trans (World.putObj_heap_other hb.1)
end
end Go.Proofs.Ytmlgoecdefeapaa
/-
  A map of any keys to any values, entry by entry: looked into, written, struck from, counted: for any program. The conditions: the key's type is one that the kit knows ('Keyed'), and each key that is used is well formed.
-/
namespace Go.Proofs.Ytmlgoecdefeapaa
open Go.RowKit Go.MapKept
open Go.ChangeMaps (setBlock heap_setBlock_same heap_setBlock_other modify_eq_set)
open Go.Maps (Keyed)

/-- How keys and elements lie in a map of a type. -/
structure MapOf (κ α : Type) where
  MT : TypeId
  KT : TypeId
  ET : TypeId
  kv : κ → Value
  ev : α → Value
  ok : κ → Prop
  z : Value
/-- What is asked of it. -/
structure MapOf.Is {κ α : Type} (m : MapOf κ α) : Prop where
  ty : Try.prog.underlying m.MT = some (.map m.KT m.ET)
  K : Keyed Try.prog m.KT
  key : ∀ a, m.ok a → ∃ l, keyOf Try.prog m.KT (m.kv a) = some l
  inj : ∀ a b, m.kv a = m.kv b → a = b
  zero : ∀ w, (zeroValue m.ET).run Try.prog w = .ok m.z w
section
variable {κ α : Type} {m : MapOf κ α} {w w' : World} {M : Nat} {l : List (κ × α)} {es : Array MapEntry} {clock : Nat}
structure MapOf.Ents (m : MapOf κ α) (es : Array MapEntry) (clock : Nat) (l : List (κ × α)) : Prop where
  st : Stamped es clock
  kv : es.toList.map (fun x => (x.key, x.val)) = l.map fun p => (m.kv p.1, m.ev p.2)
  ok : ∀ p ∈ l, m.ok p.1
theorem MapOf.Ents.names (h : m.Ents es clock l) : es.toList.map (·.key) = l.map (fun p => m.kv p.1) := by
  have := congrArg (List.map Prod.fst) h.kv
  rw [List.map_map, List.map_map] at this
  exact this
theorem MapOf.Ents.len (h : m.Ents es clock l) : es.size = l.length := by
  have := congrArg List.length h.kv
  simpa using this
theorem MapOf.Ents.nodup (h : m.Ents es clock l) : (l.map (·.1)).Nodup := by
  have h2 := h.st.2.2
  rw [h.names] at h2
  have e : l.map (fun p => m.kv p.1) = (l.map (·.1)).map m.kv := by rw [List.map_map]; rfl
  rw [e] at h2
  exact List.Pairwise.of_map m.kv (fun a b hab e => hab (by rw [e])) h2
theorem MapOf.Ents.keys (hm : m.Is) (h : m.Ents es clock l) : ∀ x ∈ es.toList, ∃ k, keyOf Try.prog m.KT x.key = some k := fun x hx => by
  have hx2 : x.key ∈ es.toList.map (·.key) := List.mem_map.2 ⟨x, hx, rfl⟩
  rw [h.names] at hx2
  obtain ⟨p, hp, e⟩ := List.mem_map.1 hx2
  rw [← e]
  exact hm.key p.1 (h.ok p hp)
theorem MapOf.Ents.at (h : m.Ents es clock l) {j : Nat} {x : MapEntry} (hx : es.toList[j]? = some x) : ∃ p, l[j]? = some p ∧ x.key = m.kv p.1 ∧ x.val = m.ev p.2 := by
  have h1 : (es.toList.map (fun x => (x.key, x.val)))[j]? = some (x.key, x.val) := by rw [List.getElem?_map, hx]; rfl
  rw [h.kv, List.getElem?_map] at h1
  cases hp : l[j]? with
  | none => rw [hp] at h1; simp at h1
  | some p =>
    rw [hp] at h1
    simp only [Option.map_some, Option.some.injEq, Prod.mk.injEq] at h1
    exact ⟨p, rfl, h1.1.symm, h1.2.symm⟩
/-- The map in block M. -/
def MapOf.At (m : MapOf κ α) (w : World) (M : Nat) (l : List (κ × α)) : Prop := ∃ es clock, w.heap[M]? = some (.map es clock) ∧ m.Ents es clock l
theorem MapOf.At.nodup (h : m.At w M l) : (l.map (·.1)).Nodup := by
  obtain ⟨es, clock, _, hm⟩ := h
  exact hm.nodup
theorem MapOf.At.keep (h : m.At w M l) (he : w'.heap[M]? = w.heap[M]?) : m.At w' M l := by
  obtain ⟨es, clock, hb, hm⟩ := h
  exact ⟨es, clock, he.trans hb, hm⟩
theorem MapOf.At.lt (h : m.At w M l) : M < w.heap.size := by
  obtain ⟨es, clock, hb, _⟩ := h
  exact (Array.getElem?_eq_some_iff.1 hb).1
/-- A map's block is no row of cells. -/
theorem MapOf.At.ne (h : m.At w M l) {g : Nat} {cs : Array Value} {t : TypeId} {fr : Nat × Nat} (hg : w.heap[g]? = some (.cells cs t fr)) : M ≠ g := fun e => by
  obtain ⟨es, clock, hb, _⟩ := h
  rw [e, hg] at hb
  cases hb
theorem MapOf.new (m : MapOf κ α) (w : World) : m.At (w.alloc (.map #[] 0)) w.heap.size [] :=
  ⟨#[], 0, heap_alloc_new w _, ⟨⟨fun x hx => (by cases hx), List.Pairwise.nil, List.Pairwise.nil⟩, rfl, fun p hp => (by cases hp)⟩⟩
variable [DecidableEq κ]
/-- What stands at a key. -/
def lookM (l : List (κ × α)) (n : κ) : Option α := (l.find? fun p => decide (p.1 = n)).map (·.2)
theorem lookM_none {n : κ} (h : ∀ p ∈ l, p.1 ≠ n) : lookM l n = none := by
  unfold lookM
  rw [List.find?_eq_none.2 (fun p hp => by simpa using h p hp)]
  rfl
theorem lookM_some {n : κ} {c : α} (hn : (l.map (·.1)).Nodup) (h : (n, c) ∈ l) : lookM l n = some c := by
  unfold lookM
  induction l with
  | nil => simp at h
  | cons p l ih =>
    rw [List.map_cons, List.nodup_cons] at hn
    rcases List.mem_cons.1 h with rfl | h
    · simp
    · have hne : p.1 ≠ n := fun e => hn.1 (by rw [e]; exact List.mem_map.2 ⟨_, h, rfl⟩)
      rw [List.find?_cons]
      simp only [hne, decide_false]
      exact ih hn.2 h
theorem MapOf.find (hm : m.Is) (h : m.Ents es clock l) {n : κ} (hn : m.ok n) (w : World) : ((Instr.findKey m.KT (m.kv n) es.toList).run Try.prog w = .ok none w ∧ (∀ e ∈ es.toList, e.key ≠ m.kv n) ∧ lookM l n = none) ∨ ∃ j e p, (Instr.findKey m.KT (m.kv n) es.toList).run Try.prog w = .ok (some (j, e.val)) w ∧ es.toList[j]? = some e ∧ e.key = m.kv n ∧ l[j]? = some p ∧ p.1 = n ∧ e.val = m.ev p.2 ∧ lookM l n = some p.2 := by
  obtain ⟨k, hk⟩ := hm.key n hn
  rcases hm.K.find w hk es.toList (h.keys hm) with ⟨h1, h2⟩ | ⟨j, e0, h1, h2, h3⟩
  · refine Or.inl ⟨h1, h2, lookM_none (fun p hp e => ?_)⟩
    have hk2 : m.kv p.1 ∈ es.toList.map (·.key) := by rw [h.names]; exact List.mem_map.2 ⟨p, hp, rfl⟩
    obtain ⟨x, hx, ex⟩ := List.mem_map.1 hk2
    exact h2 x hx (by rw [ex, e])
  · obtain ⟨p, hp, e1, e2⟩ := h.at h2
    have e3 : p.1 = n := hm.inj _ _ (by rw [← e1]; exact h3)
    exact Or.inr ⟨j, e0, p, h1, h2, h3, hp, e3, e2, lookM_some h.nodup (by rw [← e3]; exact List.mem_of_getElem? hp)⟩
/-- The value that a look-up gives. -/
def MapOf.got (m : MapOf κ α) (l : List (κ × α)) (n : κ) : Value := match lookM l n with | some c => m.ev c | none => m.z
theorem MapOf.look2 (hm : m.Is) (h : m.At w M l) {n : κ} (hn : m.ok n) : (Instr.lookup m.MT (.map (some M)) (m.kv n) true).run Try.prog w = .ok (.tuple #[m.got l n, .bool (lookM l n).isSome]) w := by
  obtain ⟨es, clock, hb, he⟩ := h
  obtain ⟨k, hk⟩ := hm.key n hn
  unfold MapOf.got
  rcases MapOf.find hm he hn w with ⟨h1, _, h3⟩ | ⟨j, e0, p, h1, _, _, _, _, h6, h7⟩
  · rw [h3]
    simp [Instr.lookup, run_underlying hm.ty, MapKept.run_getObj_map hb, hm.K.check w _ hk, h1, hm.zero w, Result.andThen]
  · rw [h7]
    simp [Instr.lookup, run_underlying hm.ty, MapKept.run_getObj_map hb, hm.K.check w _ hk, h1, Result.andThen, h6]
theorem MapOf.look1 (hm : m.Is) (h : m.At w M l) {n : κ} (hn : m.ok n) : (Instr.lookup m.MT (.map (some M)) (m.kv n) false).run Try.prog w = .ok (m.got l n) w := by
  obtain ⟨es, clock, hb, he⟩ := h
  obtain ⟨k, hk⟩ := hm.key n hn
  unfold MapOf.got
  rcases MapOf.find hm he hn w with ⟨h1, _, h3⟩ | ⟨j, e0, p, h1, _, _, _, _, h6, h7⟩
  · rw [h3]
    simp [Instr.lookup, run_underlying hm.ty, MapKept.run_getObj_map hb, hm.K.check w _ hk, h1, hm.zero w, Result.andThen]
  · rw [h7]
    simp [Instr.lookup, run_underlying hm.ty, MapKept.run_getObj_map hb, hm.K.check w _ hk, h1, Result.andThen, h6]
/-- A key is given a value. -/
def putM (l : List (κ × α)) (n : κ) (c : α) : List (κ × α) := if (lookM l n).isNone then l ++ [(n, c)] else l.map fun p => if p.1 = n then (n, c) else p
theorem MapOf.put (hm : m.Is) (h : m.At w M l) {n : κ} (hn : m.ok n) (c : α) : ∃ w', (Instr.mapUpdate m.MT (.map (some M)) (m.kv n) (m.ev c)).run Try.prog w = .ok () w' ∧ m.At w' M (putM l n c) ∧ w.grownBy w' (some M) ∧ w'.heap.size = w.heap.size := by
  obtain ⟨es, clock, hb, he⟩ := h
  obtain ⟨k, hk⟩ := hm.key n hn
  have gr : ∀ o, w.grownBy (setBlock w M o) (some M) := fun o => ⟨rfl, rfl, rfl, by simp [setBlock], fun i _ hi => heap_setBlock_other hb _ (fun e => hi (by rw [e]))⟩
  rcases MapOf.find hm he hn w with ⟨h1, h2, h3⟩ | ⟨j, e0, p, h1, h2, h3, hp, hpn, h6, h7⟩
  · refine ⟨setBlock w M (.map (es.push ⟨m.kv n, m.ev c, clock⟩) (clock + 1)), ?_, ⟨_, _, heap_setBlock_same hb _, stamped_push he.st h2, ?_, ?_⟩, gr _, by simp [setBlock]⟩
    · simp [Instr.mapUpdate, run_underlying hm.ty, MapKept.run_getObj_map hb, hm.K.check w false hk, h1, MapKept.run_setObj_map _ hb, Result.andThen, setBlock]
    · unfold putM
      rw [if_pos (show (lookM l n).isNone = true by rw [h3]; rfl), Array.toList_push, List.map_append, List.map_append, he.kv]
      rfl
    · unfold putM
      rw [if_pos (show (lookM l n).isNone = true by rw [h3]; rfl)]
      intro q hq
      rw [List.mem_append, List.mem_singleton] at hq
      rcases hq with hq | rfl
      · exact he.ok q hq
      · exact hn
  · have hj : es[j]? = some e0 := by simpa using h2
    have hjl : j < l.length := (List.getElem?_eq_some_iff.1 hp).1
    have hpj : l[j] = p := (List.getElem?_eq_some_iff.1 hp).2
    have hlist : (es.modify j (fun e' => { e' with key := m.kv n, val := m.ev c })).toList = es.toList.set j { e0 with key := m.kv n, val := m.ev c } := by rw [Array.toList_modify, modify_eq_set _ _ _ _ h2]
    refine ⟨setBlock w M (.map (es.modify j (fun e' => { e' with key := m.kv n, val := m.ev c })) clock), ?_, ⟨_, _, heap_setBlock_same hb _, stamped_modify he.st _ _ (fun _ _ => rfl) (fun e' _ he' => by rw [hj] at he'; cases he'; exact h3.symm), ?_, ?_⟩, gr _, by simp [setBlock]⟩
    · simp [Instr.mapUpdate, run_underlying hm.ty, MapKept.run_getObj_map hb, hm.K.check w false hk, h1, hj, h3, hm.K.stays w hk, MapKept.run_setObj_map _ hb, Result.andThen, setBlock]
    · unfold putM
      rw [if_neg (show ¬ (lookM l n).isNone = true by rw [h7]; simp), hlist, List.map_set, he.kv]
      apply List.ext_getElem
      · simp
      · intro i h4 h5
        rw [List.getElem_set]
        simp only [List.getElem_map]
        have hil : i < l.length := by simpa using h5
        by_cases hij : j = i
        · subst hij
          rw [if_pos rfl, if_pos (by rw [hpj]; exact hpn)]
        · rw [if_neg hij]
          have hne : ¬ l[i].1 = n := fun e' => by
            have hnd := List.pairwise_iff_getElem.1 he.nodup
            have hab : (l.map (·.1))[j]'(by simpa using hjl) = (l.map (·.1))[i]'(by simpa using hil) := by
              rw [List.getElem_map, List.getElem_map, hpj, hpn, e']
            rcases Nat.lt_or_gt_of_ne hij with h | h
            · exact hnd j i (by simpa using hjl) (by simpa using hil) h hab
            · exact hnd i j (by simpa using hil) (by simpa using hjl) h hab.symm
          rw [if_neg hne]
    · unfold putM
      rw [if_neg (show ¬ (lookM l n).isNone = true by rw [h7]; simp)]
      intro q hq
      obtain ⟨r, hr, rfl⟩ := List.mem_map.1 hq
      by_cases hrn : r.1 = n
      · rw [if_pos hrn]
        exact hn
      · rw [if_neg hrn]
        exact he.ok r hr
/-- What stands at a key behind a writing. -/
theorem lookM_put (l : List (κ × α)) (n : κ) (c : α) (x : κ) : lookM (putM l n c) x = if x = n then some c else lookM l x := by
  unfold putM
  cases h : lookM l n with
  | none =>
    rw [if_pos (show (none : Option α).isNone = true from rfl)]
    unfold lookM
    rw [List.find?_append]
    have hx : ∀ p ∈ l, p.1 ≠ n := fun p hp e => by
      unfold lookM at h
      rw [Option.map_eq_none_iff, List.find?_eq_none] at h
      simpa [e] using h p hp
    by_cases hxn : x = n
    · subst hxn
      rw [List.find?_eq_none.2 (fun p hp => by simpa using hx p hp)]
      simp
    · rw [if_neg hxn]
      cases l.find? (fun p => decide (p.1 = x)) with
      | none => simp [show ¬ n = x from fun e => hxn e.symm]
      | some p => rfl
  | some d =>
    rw [if_neg (by simp)]
    have key : ∀ l : List (κ × α), (∃ p ∈ l, p.1 = n) → lookM (l.map fun p => if p.1 = n then (n, c) else p) x = if x = n then some c else lookM l x := by
      intro l
      induction l with
      | nil => intro ⟨p, hp, _⟩; cases hp
      | cons p l ih =>
        intro hp
        unfold lookM at ih ⊢
        rw [List.map_cons, List.find?_cons, List.find?_cons]
        by_cases hpn : p.1 = n
        · rw [if_pos hpn]
          by_cases hxn : x = n
          · subst hxn
            simp
          · rw [if_neg hxn]
            simp only [show ¬ n = x from fun e => hxn e.symm, show ¬ p.1 = x from fun e => hxn (by rw [← e]; exact hpn), decide_false]
            by_cases hq : ∃ q ∈ l, q.1 = n
            · have := ih hq
              rw [if_neg hxn] at this
              exact this
            · have e : (l.map fun p => if p.1 = n then (n, c) else p) = l := by
                conv => rhs; rw [← List.map_id l]
                exact List.map_congr_left (fun q hq2 => if_neg (fun e => hq ⟨q, hq2, e⟩))
              rw [e]
        · rw [if_neg hpn]
          by_cases hpx : p.1 = x
          · simp only [hpx, decide_true]
            rw [if_neg (fun e => hpn (by rw [hpx]; exact e))]
          · simp only [hpx, decide_false]
            obtain ⟨q, hq, hqn⟩ := hp
            rcases List.mem_cons.1 hq with rfl | hq
            · exact absurd hqn hpn
            · exact ih ⟨q, hq, hqn⟩
    refine key l ?_
    unfold lookM at h
    cases hf : l.find? (fun p => decide (p.1 = n)) with
    | none => rw [hf] at h; cases h
    | some p => exact ⟨p, List.mem_of_find?_eq_some hf, by simpa using List.find?_some hf⟩
end
end Go.Proofs.Ytmlgoecdefeapaa
/-
  A map of any keys to any values: struck from, counted, gone over in whatever order: for any program. The conditions: as in GMap.
-/
namespace Go.Proofs.Ytmlgoecdefeapaa
open Go.RowKit Go.MapKept
open Go.ChangeMaps (setBlock heap_setBlock_same heap_setBlock_other modify_eq_set)
open Go.Maps (Keyed)

section
variable {κ α : Type} {m : MapOf κ α} {w w' : World} {M : Nat} {l : List (κ × α)} {es : Array MapEntry} {clock : Nat}
theorem MapOf.len (hm : m.Is) (h : m.At w M l) (ty : TypeId) : (Builtin.len_ #[m.MT] ty #[.map (some M)]).run Try.prog w = .ok (.int .i64 (l.length : Int)) w := by
  obtain ⟨es, clock, hb, he⟩ := h
  simp [Builtin.len_, run_underlying hm.ty, MapKept.run_getObj_map hb, Result.andThen, he.len]
  rfl
variable [DecidableEq κ]
/-- What is left where a key is struck. -/
def delM (l : List (κ × α)) (n : κ) : List (κ × α) := l.filter fun p => !decide (p.1 = n)
theorem delM_mem {n : κ} {p : κ × α} : p ∈ delM l n ↔ p ∈ l ∧ p.1 ≠ n := by
  unfold delM
  rw [List.mem_filter]
  simp
theorem lookM_mem {n : κ} {c : α} (h : lookM l n = some c) : (n, c) ∈ l := by
  unfold lookM at h
  cases hf : l.find? (fun p => decide (p.1 = n)) with
  | none => rw [hf] at h; simp at h
  | some p =>
    rw [hf] at h
    simp only [Option.map_some, Option.some.injEq] at h
    have h1 := List.find?_some hf
    have h2 := List.mem_of_find?_eq_some hf
    simp only [decide_eq_true_eq] at h1
    rw [← h1, ← h]
    exact h2
theorem lookM_no {n : κ} (h : lookM l n = none) : ∀ p ∈ l, p.1 ≠ n := by
  intro p hp e
  unfold lookM at h
  rw [Option.map_eq_none_iff, List.find?_eq_none] at h
  simpa [e] using h p hp
theorem lookM_del (l : List (κ × α)) (n x : κ) : lookM (delM l n) x = if x = n then none else lookM l x := by
  by_cases hx : x = n
  · subst hx
    rw [if_pos rfl]
    exact lookM_none fun p hp => (delM_mem.1 hp).2
  · rw [if_neg hx]
    unfold lookM delM
    congr 1
    rw [List.find?_filter]
    congr 1
    funext p
    by_cases hp : p.1 = x
    · simp [hp, hx]
    · simp [hp]
theorem eraseIdx_del {n : κ} : ∀ (l : List (κ × α)) (j : Nat) (p : κ × α), (l.map (·.1)).Nodup → l[j]? = some p → p.1 = n → l.eraseIdx j = delM l n
  | [], _, _, _, h, _ => by simp at h
  | a :: l, 0, p, hn, h, e => by
    simp only [List.getElem?_cons_zero, Option.some.injEq] at h
    subst h
    rw [List.map_cons, List.nodup_cons] at hn
    unfold delM
    rw [List.eraseIdx_cons_zero, List.filter_cons, if_neg (by simp [e])]
    refine (List.filter_eq_self.2 fun q hq => ?_).symm
    simp only [Bool.not_eq_true', decide_eq_false_iff_not]
    exact fun e' => hn.1 (by rw [e, ← e']; exact List.mem_map.2 ⟨q, hq, rfl⟩)
  | a :: l, j + 1, p, hn, h, e => by
    rw [List.map_cons, List.nodup_cons] at hn
    rw [List.getElem?_cons_succ] at h
    have ha : ¬ a.1 = n := fun e' => hn.1 (by rw [e', ← e]; exact List.mem_map.2 ⟨p, List.mem_of_getElem? h, rfl⟩)
    have ih := eraseIdx_del l j p hn.2 h e
    unfold delM at ih ⊢
    rw [List.eraseIdx_cons_succ, List.filter_cons, if_pos (by simp [ha]), ih]
theorem MapOf.del (hm : m.Is) (h : m.At w M l) {n : κ} (hn : m.ok n) (ty : TypeId) :
    ∃ w', (Builtin.delete_ #[m.MT, m.KT] ty #[.map (some M), m.kv n]).run Try.prog w = .ok (.tuple #[]) w' ∧ m.At w' M (delM l n) ∧ w.grownBy w' (some M) ∧ w'.heap.size = w.heap.size := by
  obtain ⟨es, clock, hb, he⟩ := h
  obtain ⟨k, hk⟩ := hm.key n hn
  have gr : ∀ o, w.grownBy (setBlock w M o) (some M) := fun o => ⟨rfl, rfl, rfl, by simp [setBlock], fun i _ hi => heap_setBlock_other hb _ (fun e => hi (by rw [e]))⟩
  rcases MapOf.find hm he hn w with ⟨h1, h2, h3⟩ | ⟨j, e0, p, h1, h2, h3, hp, hpn, h6, h7⟩
  · have e : delM l n = l := List.filter_eq_self.2 (fun p hp => by
      simp only [Bool.not_eq_true', decide_eq_false_iff_not]
      exact lookM_no h3 p hp)
    rw [e]
    refine ⟨setBlock w M (.map es clock), ?_, ⟨_, _, heap_setBlock_same hb _, he⟩, gr _, by simp [setBlock]⟩
    simp [Builtin.delete_, run_underlying hm.ty, MapKept.run_getObj_map hb, hm.K.check w _ hk, h1, MapKept.run_setObj_map _ hb, Result.andThen, setBlock]
  · have hjs : j < es.size := by have := (List.getElem?_eq_some_iff.1 h2).1; simpa using this
    have hsub : (es.eraseIdxIfInBounds j).toList = es.toList.eraseIdx j := by
      unfold Array.eraseIdxIfInBounds
      rw [dif_pos hjs]
      simp
    refine ⟨setBlock w M (.map (es.eraseIdxIfInBounds j) clock), ?_, ⟨_, _, heap_setBlock_same hb _, stamped_erase he.st j, ?_, fun q hq => he.ok q (delM_mem.1 hq).1⟩, gr _, by simp [setBlock]⟩
    · simp [Builtin.delete_, run_underlying hm.ty, MapKept.run_getObj_map hb, hm.K.check w _ hk, h1, MapKept.run_setObj_map _ hb, Result.andThen, setBlock]
    · rw [hsub, ← eraseIdx_del l j p he.nodup hp hpn, ChangeMaps.map_eraseIdx, ChangeMaps.map_eraseIdx, he.kv]
end
theorem gblk_same {w : World} {r : Nat} (h : r < w.heap.size) (o : Obj) : (setBlock w r o).heap[r]? = some o := by
  simp [setBlock, h]
theorem gblk_other {w : World} {r b : Nat} (o : Obj) (h : b ≠ r) : (setBlock w r o).heap[b]? = w.heap[b]? := by
  simp only [setBlock]
  rw [Array.getElem?_setIfInBounds_ne (by omega)]
theorem gleftOf_push {es : Array MapEntry} {seen : Array Nat} {x : MapEntry} : (leftOf es (seen.push x.born)).toList = (leftOf es seen).toList.filter fun e => !decide (e.born = x.born) := by
  unfold leftOf
  simp only [Array.toList_filter, List.filter_filter]
  refine List.filter_congr fun e _ => ?_
  by_cases h : e.born = x.born
  · simp [h]
  · simp [h]
theorem gfilter_split {x : MapEntry} : ∀ (L : List MapEntry), (L.map (·.born)).Nodup → x ∈ L → ∃ A B, L = A ++ x :: B ∧ L.filter (fun e => !decide (e.born = x.born)) = A ++ B
  | a :: L, hn, hx => by
    rw [List.map_cons, List.nodup_cons] at hn
    by_cases hax : a = x
    · subst hax
      refine ⟨[], L, rfl, ?_⟩
      rw [List.filter_cons, if_neg (by simp)]
      refine List.filter_eq_self.2 fun e he => ?_
      simp only [Bool.not_eq_true', decide_eq_false_iff_not]
      exact fun e' => hn.1 (by rw [← e']; exact List.mem_map.2 ⟨e, he, rfl⟩)
    · have hx' : x ∈ L := by
        rcases List.mem_cons.1 hx with e | h
        · exact absurd e.symm hax
        · exact h
      obtain ⟨A, B, e1, e2⟩ := gfilter_split L hn.2 hx'
      have hb : ¬ a.born = x.born := fun e' => hn.1 (by rw [e']; exact List.mem_map.2 ⟨x, hx', rfl⟩)
      exact ⟨a :: A, B, by rw [e1]; rfl, by rw [List.filter_cons, if_pos (by simp [hb]), e2]; rfl⟩
section
variable {κ α : Type} {m : MapOf κ α} {w w' : World} {M r : Nat} {l left : List (κ × α)} {es : Array MapEntry} {clock : Nat}
/-- A map gone over: these are still to come. -/
structure MapOf.Ranging (m : MapOf κ α) (w : World) (M r : Nat) (l left : List (κ × α)) : Prop where
  ex : ∃ es clock since seen c0, w.heap[M]? = some (.map es clock) ∧ m.Ents es clock l ∧ w.heap[r]? = some (.mapIter (some M) since seen c0) ∧ (∀ x ∈ es.toList, x.born < since) ∧ since ≤ c0 ∧ since ≤ clock ∧
      (leftOf es seen).toList.map (fun x => (x.key, x.val)) = left.map fun p => (m.kv p.1, m.ev p.2)
theorem MapOf.Ranging.keep (h : m.Ranging w M r l left) (h1 : w'.heap[M]? = w.heap[M]?) (h2 : w'.heap[r]? = w.heap[r]?) : m.Ranging w' M r l left := by
  obtain ⟨es, clock, since, seen, c0, hb, hm, hr, rest⟩ := h.ex
  exact ⟨es, clock, since, seen, c0, h1.trans hb, hm, h2.trans hr, rest⟩
theorem MapOf.Ranging.lt (h : m.Ranging w M r l left) : r < w.heap.size := by
  obtain ⟨es, clock, since, seen, c0, hb, hm, hr, rest⟩ := h.ex
  exact lt_of_block hr
theorem MapOf.Ranging.at (h : m.Ranging w M r l left) : m.At w M l := by
  obtain ⟨es, clock, since, seen, c0, hb, hm, hr, rest⟩ := h.ex
  exact ⟨es, clock, hb, hm⟩
theorem MapOf.range (hm : m.Is) (h : m.At w M l) :
    ∃ w', (Instr.range m.MT (.map (some M))).run Try.prog w = .ok (.pointer (some ⟨w.heap.size, 0, none⟩)) w' ∧ m.Ranging w' M w.heap.size l l ∧ w.grownBy w' none ∧ w'.heap.size = w.heap.size + 1 := by
  obtain ⟨es, clock, hb, he⟩ := h
  have hlt : M < w.heap.size := lt_of_block hb
  refine ⟨_, run_range_map w _ _ _ M es clock hm.ty hb, ⟨es, clock, clock, #[], clock, ((MapKept.heap_alloc w _).2 M hlt).trans hb, he, (MapKept.heap_alloc w _).1, he.st.1, Nat.le_refl _, Nat.le_refl _, ?_⟩, World.grownBy_alloc w _ none, by simp⟩
  have e : leftOf es #[] = es := by
    unfold leftOf
    exact Array.filter_eq_self.2 (fun x _ => by simp)
  rw [e, he.kv]
theorem MapOf.next (h : m.Ranging w M r l left) (ty : TypeId) :
    (left = [] ∧ (Instr.next (.pointer (some ⟨r, 0, none⟩)) false ty).run Try.prog w = .ok (.tuple #[.bool false]) w) ∨
    ∃ n c A B w', left = A ++ (n, c) :: B ∧ (Instr.next (.pointer (some ⟨r, 0, none⟩)) false ty).run Try.prog w = .ok (.tuple #[.bool true, m.kv n, m.ev c]) w' ∧ m.Ranging w' M r l (A ++ B) ∧ w.grownBy w' (some r) ∧ w'.heap.size = w.heap.size ∧
      (Instr.entry (.pointer (some ⟨r, 0, none⟩))).run Try.prog w' = .ok (.tuple #[m.kv n, m.ev c]) w' := by
  obtain ⟨es, clock, since, seen, c0, hb, hm, hr, hold, hs1, hs2, hl⟩ := h.ex
  rcases run_next_at (P := Try.prog) w ty r M since c0 seen es clock hr hb hold hs1 with ⟨h0, hrun⟩ | ⟨x, hx, w1, hal, hrun⟩
  · left
    refine ⟨?_, hrun⟩
    have := congrArg List.length hl
    simp only [List.length_map, Array.length_toList, h0] at this
    exact List.eq_nil_of_length_eq_zero this.symm
  · right
    have hxe : x ∈ es.toList := by
      unfold leftOf at hx
      simp at hx ⊢
      exact hx.1
    have hrM : r ≠ M := fun e => by rw [e, hb] at hr; cases hr
    have hsub : ((leftOf es seen).toList.map (·.born)).Nodup := by
      unfold leftOf
      rw [Array.toList_filter]
      exact List.Nodup.sublist (List.Sublist.map _ List.filter_sublist) hm.st.2.1
    obtain ⟨A, B, e1, e2⟩ := gfilter_split _ hsub hx
    have hl2 := hl
    rw [e1, List.map_append, List.map_cons] at hl2
    obtain ⟨A', R', eq1, eA, eR⟩ := List.map_eq_append_iff.1 hl2.symm
    obtain ⟨p, B', eq2, ep, eB⟩ := List.map_eq_cons_iff.1 eR
    obtain ⟨n, c⟩ := p
    have ekv : x.key = m.kv n ∧ x.val = m.ev c := by
      simp only [Prod.mk.injEq] at ep
      exact ⟨ep.1.symm, ep.2.symm⟩
    have hr1 : w1.heap[r]? = some (.mapIter (some M) since seen c0) := by rcases hal with rfl | rfl <;> exact hr
    have hM1 : w1.heap[M]? = some (.map es clock) := by rcases hal with rfl | rfl <;> exact hb
    have k1 : (setBlock w1 r (.mapIter (some M) since (seen.push x.born) clock)).heap[r]? = some (.mapIter (some M) since (seen.push x.born) clock) := gblk_same (lt_of_block hr1) _
    have k2 : (setBlock w1 r (.mapIter (some M) since (seen.push x.born) clock)).heap[M]? = some (.map es clock) := (gblk_other _ (fun e => hrM e.symm)).trans hM1
    refine ⟨n, c, A', B', setBlock w1 r (.mapIter (some M) since (seen.push x.born) clock), by rw [eq1, eq2], ?_, ⟨es, clock, since, seen.push x.born, clock, k2, hm, k1, hold, hs2, hs2, ?_⟩, ?_, ?_, ?_⟩
    · rw [hrun, ekv.1, ekv.2]
    · rw [gleftOf_push, e2, List.map_append, List.map_append, eA, eB]
    · rcases hal with rfl | rfl
      · exact ⟨rfl, rfl, rfl, by simp [setBlock], fun i _ hi => gblk_other _ (fun e => hi (by rw [e]))⟩
      · exact ⟨rfl, rfl, rfl, by simp [setBlock], fun i _ hi => gblk_other (w := w.drew) _ (fun e => hi (by rw [e]))⟩
    · rcases hal with rfl | rfl <;> simp [setBlock]
    · have := run_entry_at (P := Try.prog) (setBlock w1 r (.mapIter (some M) since (seen.push x.born) clock)) r M since seen es clock x k1 k2 hxe hm.st.2.1
      rw [this, ekv.1, ekv.2]
end
end Go.Proofs.Ytmlgoecdefeapaa
