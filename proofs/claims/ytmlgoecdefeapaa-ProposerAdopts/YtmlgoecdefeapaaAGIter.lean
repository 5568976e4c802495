/-
  A range over a function none of whose rounds stops it: the iterator's own contract over the rounds' own blocks, and the statement: at the wide fence, for any program. No condition.
-/
import Derived.Test.YtmlgoecdefeapaaAPackA
import Derived.RangeFuncNested
import Derived.RangeFuncBound
import Derived.RangeFuncCalls
import Derived.RangeFuncLeaves
import Derived.Shelf.Abstract
import Derived.Shelf.RegionOpen
import Derived.OwnWalkIn
import Derived.TacticsInMore
import Derived.LoopNIn
import Derived.LoopIn
namespace Go.Proofs.Ytmlgoecdefeapaa
open Go.RowKit Go.Shelf

/-- Blocks that were there and are told by an invariant: it holds wherever they lie as they lay. -/
structure Stays {β : Type} (J : β → World → (Nat → Prop) → Prop) : Prop where
  lt : ∀ p W S, J p W S → ∀ b, S b → b < W.heap.size
  st : ∀ p W W' S, J p W S → W.heap.size ≤ W'.heap.size → (∀ b, S b → W'.heap[b]? = W.heap[b]?) → J p W' S
/-- One call of yield: the round says go on; it turns its own blocks alone. -/
def Turn (P : Program) (l : Nat) (J : List Int → World → (Nat → Prop) → Prop) (pre : List Int) (x : Int) (W : World) (S : Nat → Prop) : Prop :=
  ∀ m, YieldAt Fence.wide m P l #[.int .i64 x] W fun e W' => e = .returned (.bool true) ∧ ∃ S', J (pre ++ [x]) W' S' ∧ Kept W W' S S'
/-- An iterator that hands out xs, one behind the other; T: the blocks that it reads. -/
def Iters (P : Program) (g : Nat) (lb : Array Value) (xs : List Int) (T : Nat → Prop) (w : World) : Prop :=
  ∀ (l : Nat) (J : List Int → World → (Nat → Prop) → Prop) (W : World) (S : Nat → Prop), Stays J → (∀ b, T b → b < W.heap.size ∧ W.heap[b]? = w.heap[b]? ∧ ¬ S b) →
    (∀ pre x suf W1 S1, xs = pre ++ x :: suf → J pre W1 S1 → Turn P l J pre x W1 S1) → J [] W S →
    Calls P g (#[.func (.yield l) #[] #[]] ++ lb) W fun e W' => (∃ v, e = .returned v) ∧ ∃ S', J xs W' S' ∧ Kept W W' S S'

theorem kept_put {w : World} {S : Nat → Prop} {l : Nat} (o : Obj) (hl : S l) : Kept w (w.putObj l o) S S :=
  ⟨rfl, rfl, rfl, by simp, fun _ h => Or.inl h, fun b _ hn => World.putObj_heap_other (fun e => hn (by rw [e]; exact hl))⟩
theorem kept_more {w w' : World} {S S' T T' : Nat → Prop} (k : Kept w w' S S') (h1 : ∀ b, S b → T b) (h2 : ∀ b, T' b → S' b ∨ T b) : Kept w w' T T' :=
  ⟨k.os, k.tape, k.output, k.size, fun b hb => by
    rcases h2 b hb with h | h
    · rcases k.old b h with h | h
      · exact Or.inl (h1 b h)
      · exact Or.inr h
    · exact Or.inl h, fun b hb hn => k.kept b hb (fun hs => hn (h1 b hs))⟩
section
variable {P : Program} {n : Nat}
/-- The statement. -/
theorem wpIn_iter {g : Operand} {ps : Array Tmp} {assign body : Code} {Q : Exit → Act → World → Prop} {a : Act} {w : World}
    {gf : Nat} {lb : Array Value} (hg : a.eval g = .func (.func gf) #[] lb) (eg : ∀ args w, (callFunc gf args).run P w = .ok (.enter gf args) w)
    {xs : List Int} {T : Nat → Prop} (hit : Iters P gf lb xs T w) (hps : ps.size = 1)
    (I : List Int → World → (Nat → Prop) → Prop) (hI : Stays I) {S0 : Nat → Prop} (h0 : I [] w S0) (hT : ∀ b, T b → b < w.heap.size ∧ ¬ S0 b) (a₁ : Int → Act)
    (hassign : ∀ (l m : Nat) (x : Int) (W : World) (K : Act → World → Prop), K (a₁ x) W →
      assign.wpIn (Fence.wide.inRound l) m P (Exit.then K (fun _ _ _ => False)) { tmps := (ps.zip #[Value.int .i64 x]).foldl (fun t (p, v) => t.setIfInBounds p v) a.tmps, defers := [] } W)
    (hbody : ∀ (l m : Nat) (pre : List Int) (x : Int) (suf : List Int) (W : World) (S : Nat → Prop), xs = pre ++ x :: suf → w.heap.size ≤ l → I pre W S → ¬ S l →
      body.wpIn (Fence.wide.inRound l) m P (fun e _ W' => e = .normal ∧ ∃ S', I (pre ++ [x]) W' S' ∧ Kept W W' S S') (a₁ x) W)
    (hdone : ∀ (D : Nat) (W : World) (S : Nat → Prop), w.heap.size ≤ D → ¬ S D → I xs W S → Kept w W S0 S → W.heap[D]? = some (.deferred (some [])) → Q .normal { a with defers := { target := .collected D, args := #[] } :: a.defers } W) :
    (Code.rangeFunc g ps assign body).wpIn Fence.wide n P Q a w := by
  refine wpIn_rangeFunc ?_
  intro fn _
  rw [show Fence.wide.round = none from rfl]
  obtain ⟨rec, hrec⟩ : ∃ rec : LoopState → Loop, rec = fun st => { state := st, pending := none, fn, tmps := a.tmps, params := ps, assign, body, defers := w.heap.size } := ⟨_, rfl⟩
  obtain ⟨D, hD⟩ : ∃ D, D = w.heap.size := ⟨_, rfl⟩
  obtain ⟨W1, hW1⟩ : ∃ W1, W1 = (w.alloc (.deferred (some []))).alloc (.loop (rec .ready)) := ⟨_, rfl⟩
  have b1 : Below w.heap.size w W1 := by rw [hW1]; exact ((Below.refl _ w).alloc (Nat.le_refl _) _).alloc (by simp) _
  have s1 : W1.heap.size = D + 2 := by rw [hW1, hD]; simp
  have hL1 : W1.heap[D + 1]? = some (.loop (rec .ready)) := by
    rw [hW1, hD]
    have := World.alloc_heap_new (w.alloc (.deferred (some []))) (.loop (rec .ready))
    rwa [World.size_alloc] at this
  have hK1 : W1.heap[D]? = some (.deferred (some [])) := by
    rw [hW1, hD]
    exact (Below.heap_alloc _ _ _ (by simp)).trans (World.alloc_heap_new w _)
  have ht0 := hI.lt _ _ _ h0
  refine ⟨w.heap.size + 1, [{ target := .collected w.heap.size, args := #[] }], W1, { target := .fn (.func gf) lb, args := #[.func (.yield (w.heap.size + 1)) #[] #[]] }, W1, gf,
    #[.func (.yield (w.heap.size + 1)) #[] #[]] ++ lb, W1, ?_, ?_, fun _ _ => trivial, ?_, fun h => absurd h (by decide), ?_⟩
  · rw [hW1, hrec]; exact run_enterLoop_outer _ _ _ _ _
  · simp only [resolve, hg]
    simp [go_sem]
  · simp [invoke, go_sem, eg]
  rw [← hD]
  refine (callsIn_wide.2 (hit (D + 1) (fun pre W S => ∃ SI : Nat → Prop, (∀ b, S b ↔ SI b ∨ b = D ∨ b = D + 1) ∧ ¬ SI D ∧ ¬ SI (D + 1) ∧ I pre W SI ∧ W.heap[D + 1]? = some (.loop (rec .ready)) ∧ W.heap[D]? = some (.deferred (some [])))
    W1 (fun b => S0 b ∨ b = D ∨ b = D + 1) ⟨?_, ?_⟩ ?_ ?_ ⟨S0, fun _ => Iff.rfl, fun h => by have := ht0 _ h; omega, fun h => by have := ht0 _ h; omega, ?_, hL1, hK1⟩)).mono ?_
  · rintro p W S ⟨SI, hS, _, _, hi, hl, hk⟩ b hb
    rcases (hS b).1 hb with h | rfl | rfl
    · exact hI.lt _ _ _ hi b h
    · exact lt_of_block hk
    · exact lt_of_block hl
  · rintro p W W' S ⟨SI, hS, hd1, hd2, hi, hl, hk⟩ hz he
    exact ⟨SI, hS, hd1, hd2, hI.st _ _ _ _ hi hz (fun b hb => he b ((hS b).2 (Or.inl hb))), (he _ ((hS _).2 (Or.inr (Or.inr rfl)))).trans hl, (he _ ((hS _).2 (Or.inr (Or.inl rfl)))).trans hk⟩
  · intro b hb
    obtain ⟨h1, h2⟩ := hT b hb
    refine ⟨by have := b1.size; omega, b1.block b h1, fun h => ?_⟩
    rcases h with h | h | h
    · exact h2 h
    · omega
    · omega
  · -- ONE ROUND
    rintro pre x suf W S hx ⟨SI, hS, hd1, hd2, hi, hl, hk⟩ m
    have hlt : D + 1 < W.heap.size := lt_of_block hl
    have hy := run_yield (P := P) (args := #[Value.int .i64 x]) hl (by rw [hrec]; exact hps.symm)
    rw [hrec] at hy
    refine ⟨fn, _, assign, body, hy, roundIn_of_wpIn trivial (hassign _ m x W _ ⟨_, run_beginRound hl (by rw [hrec]), ?_⟩)⟩
    clear hy
    obtain ⟨W2, hW2⟩ : ∃ W2, W2 = W.putObj (D + 1) (.loop { rec .ready with state := .busy }) := ⟨_, rfl⟩
    have hl2 : W2.heap[D + 1]? = some (.loop { rec .ready with state := .busy }) := by rw [hW2]; exact World.putObj_heap_same hlt
    have z2 : W2.heap.size = W.heap.size := by rw [hW2]; simp
    have o2 : ∀ b, b ≠ D + 1 → W2.heap[b]? = W.heap[b]? := fun b hb => by rw [hW2]; exact World.putObj_heap_other hb
    have k2 : Kept W W2 S S := by rw [hW2]; exact kept_put _ ((hS _).2 (Or.inr (Or.inr rfl)))
    rw [← hW2]
    refine wpIn_mono (hbody _ m pre x suf W2 SI hx (by omega) (hI.st _ _ _ _ hi (by omega) (fun b hb => o2 b (fun e => hd2 (by rw [← e]; exact hb)))) hd2) ?_
    rintro e a3 W3 ⟨rfl, SI', hi3, k3⟩
    have hn1 : ¬ SI' D := fun h => by
      rcases k3.old D h with h | h
      · exact hd1 h
      · omega
    have hn2 : ¬ SI' (D + 1) := fun h => by
      rcases k3.old _ h with h | h
      · exact hd2 h
      · omega
    have hl3 := (k3.kept (D + 1) (by omega) hd2).trans hl2
    have hk3 := (k3.kept D (by omega) hd1).trans ((o2 D (by omega)).trans hk)
    have hz3 := k3.size
    have hend := run_endRound (P := P) none hl3
    refine ⟨_, _, hend, rfl, fun b => SI' b ∨ b = D ∨ b = D + 1, ⟨SI', fun _ => Iff.rfl, hn1, hn2, hI.st _ _ _ _ hi3 (by simp) (fun b hb => World.putObj_heap_other (fun e => hn2 (by rw [← e]; exact hb))), ?_, (World.putObj_heap_other (by omega)).trans hk3⟩, ?_⟩
    · rw [World.putObj_heap_same (by omega), hrec]
      rfl
    · refine k2.trans ((kept_more k3 (fun b hb => (hS b).2 (Or.inl hb)) (T' := fun b => SI' b ∨ b = D ∨ b = D + 1) (fun b hb => ?_)).trans (kept_put _ (Or.inr (Or.inr rfl))))
      rcases hb with h | h | h
      · exact Or.inl h
      · exact Or.inr ((hS b).2 (Or.inr (Or.inl h)))
      · exact Or.inr ((hS b).2 (Or.inr (Or.inr h)))
  · exact hI.st _ _ _ _ h0 b1.size (fun b hb => b1.block b (ht0 b hb))
  · -- BEHIND THE ITERATOR
    rintro e W2 ⟨⟨v, rfl⟩, S, ⟨SI, hS, hd1, hd2, hi, hl, hk⟩, k⟩
    refine ⟨none, _, by have := run_endLoop (P := P) hl (by rw [hrec]; simp); rw [hrec] at this; exact this, ?_⟩
    refine hdone D _ SI (by omega) hd1 (hI.st _ _ _ _ hi (by simp) (fun b hb => World.putObj_heap_other (fun e => hd2 (by rw [← e]; exact hb)))) ?_ ((World.putObj_heap_other (by omega)).trans hk)
    refine ⟨k.os.trans b1.os, k.tape.trans b1.tape, k.output.trans b1.output, by have := k.size; have := b1.size; simp; omega, fun b hb => ?_, fun b hb hn => ?_⟩
    · rcases k.old b ((hS b).2 (Or.inl hb)) with (h | h | h) | h
      · exact Or.inl h
      · exact Or.inr (by omega)
      · exact Or.inr (by omega)
      · exact Or.inr (by omega)
    · rw [World.putObj_heap_other (by omega), k.kept b (by omega) (fun h => by
        rcases h with h | h | h
        · exact hn h
        · omega
        · omega), b1.block b hb]
/-- A mark for a loop's deferred calls. -/
abbrev markD (D : Nat) : Deferred := { target := .collected D, args := #[] }
/-- A function leaves with marks: each is come to, none holds a call. -/
theorem leaves_marks {fn : Func} {tmps : Array Value} {R : Ending → World → Prop} : ∀ (Ds : List Nat) (W : World), Ds.Nodup → (∀ D ∈ Ds, W.heap[D]? = some (.deferred (some []))) →
    (∀ W', W'.os = W.os → W'.tape = W.tape → W'.output = W.output → W'.heap.size = W.heap.size → (∀ b, b ∉ Ds → W'.heap[b]? = W.heap[b]?) → LeavesInM Fence.wide n P fn tmps R [] .returning W') → LeavesInM Fence.wide n P fn tmps R (Ds.map markD) .returning W
  | [], W, _, _, h => h W rfl rfl rfl rfl fun _ _ => rfl
  | D :: Ds, W, hn, hD, h => by
    have hn' := List.nodup_cons.1 hn
    refine ⟨by simp, .inl ⟨D, _, rfl, run_takeDeferred (hD D List.mem_cons_self), ?_⟩⟩
    refine leaves_marks Ds _ hn'.2 (fun E hE => (World.putObj_heap_other (fun e => hn'.1 (by rw [← e]; exact hE))).trans (hD E (List.mem_cons_of_mem _ hE))) (fun W' h1 h2 h3 h4 h5 => ?_)
    refine h W' (h1.trans rfl) (h2.trans rfl) (h3.trans rfl) (h4.trans (by simp)) (fun b hb => ?_)
    rw [List.mem_cons, not_or] at hb
    exact (h5 b hb.2).trans (World.putObj_heap_other hb.1)
end
end Go.Proofs.Ytmlgoecdefeapaa
