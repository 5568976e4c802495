/-
  A range over a function that bears bound arguments, none of whose rounds stops it: the iterator's own contract over the rounds' own blocks, and the statement: at the wide fence, for any program. No condition.
-/
import Derived.Test.YtmfadmhbkgemmaaQGIter
namespace Go.Proofs.Ytmfadmhbkgemmaa
open Go.RowKit Go.Shelf

section
variable {α : Type}
/-- One call of yield: the round says go on; it turns its own blocks alone. -/
def TurnB (P : Program) (l : Nat) (enc : α → Value) (J : List α → World → (Nat → Prop) → Prop) (pre : List α) (x : α) (W : World) (S : Nat → Prop) : Prop :=
  ∀ m, YieldAt Fence.wide m P l #[enc x] W fun e W' => ∃ S', Kept W W' S S' ∧ e = .returned (.bool true) ∧ J (pre ++ [x]) W' S'
/-- An iterator that hands out xs, one behind the other; T: the blocks that it reads. -/
def ItersB (P : Program) (g : Nat) (ba : Array Value) (enc : α → Value) (xs : List α) (T : Nat → Prop) (w : World) : Prop :=
  ∀ (l : Nat) (J : List α → World → (Nat → Prop) → Prop) (W : World) (S : Nat → Prop), Stays J → (∀ b, T b → b < W.heap.size ∧ W.heap[b]? = w.heap[b]? ∧ ¬ S b) →
    (∀ pre x suf W1 S1, xs = pre ++ x :: suf → J pre W1 S1 → (∀ b, T b → W1.heap[b]? = w.heap[b]?) → TurnB P l enc J pre x W1 S1) → J [] W S →
    Calls P g (ba ++ #[.func (.yield l) #[] #[]]) W fun e W' => (∃ v, e = .returned v) ∧ ∃ S', Kept W W' S S' ∧ J xs W' S'
end
section
variable {P : Program} {n : Nat}
/-- The statement. -/
theorem wpIn_iterB {α : Type} {enc : α → Value} {g : Operand} {ps : Array Tmp} {assign body : Code} {Q : Exit → Act → World → Prop} {a : Act} {w : World}
    {gf : Nat} {ba : Array Value} (hg : a.eval g = .func (.func gf) ba #[]) (eg : ∀ args w, (callFunc gf args).run P w = .ok (.enter gf args) w)
    {xs : List α} {T : Nat → Prop} (hit : ItersB P gf ba enc xs T w) (hps : ps.size = 1)
    (I : List α → World → (Nat → Prop) → Prop) (hI : Stays I) {S0 : Nat → Prop} (h0 : I [] w S0) (hT : ∀ b, T b → b < w.heap.size ∧ ¬ S0 b) (bx : α → Obj) (a₁ : α → Nat → Act)
    (hassign : ∀ (l m : Nat) (x : α) (W : World) (K : Act → World → Prop), (∀ W', Below W.heap.size W W' → W'.heap[W.heap.size]? = some (bx x) → K (a₁ x W.heap.size) W') →
      assign.wpIn (Fence.wide.inRound l) m P (Exit.then K (fun _ _ _ => False)) { tmps := (ps.zip #[enc x]).foldl (fun t (p, v) => t.setIfInBounds p v) a.tmps, defers := [] } W)
    (hbody : ∀ (l m B : Nat) (pre : List α) (x : α) (suf : List α) (W : World) (S : Nat → Prop), xs = pre ++ x :: suf → w.heap.size ≤ l → I pre W S → ¬ S l → w.heap.size ≤ B → ¬ S B → W.heap[B]? = some (bx x) → (∀ b, T b → W.heap[b]? = w.heap[b]?) →
      body.wpIn (Fence.wide.inRound l) m P (fun e _ W' => ∃ S', Kept W W' S S' ∧ e = .normal ∧ I (pre ++ [x]) W' S') (a₁ x B) W)
    (hdone : ∀ (D : Nat) (W : World) (S : Nat → Prop), w.heap.size ≤ D → ¬ S D → I xs W S → Kept w W S0 S → W.heap[D]? = some (.deferred (some [])) → Q .normal { a with defers := { target := .collected D, args := #[] } :: a.defers } W) :
    (Code.rangeFunc g ps assign body).wpIn Fence.wide n P Q a w := by
  refine wpIn_rangeFunc ?_
  intro fn _
  rw [show Fence.wide.round = none from rfl]
  obtain ⟨rec, hrec⟩ : ∃ rec : LoopState → Option Code → Loop, rec = fun st pe => { state := st, pending := pe, fn, tmps := a.tmps, params := ps, assign, body, defers := w.heap.size } := ⟨_, rfl⟩
  obtain ⟨D, hD⟩ : ∃ D, D = w.heap.size := ⟨_, rfl⟩
  obtain ⟨W1, hW1⟩ : ∃ W1, W1 = (w.alloc (.deferred (some []))).alloc (.loop (rec .ready none)) := ⟨_, rfl⟩
  have b1 : Below w.heap.size w W1 := by rw [hW1]; exact ((Below.refl _ w).alloc (Nat.le_refl _) _).alloc (by simp) _
  have s1 : W1.heap.size = D + 2 := by rw [hW1, hD]; simp
  have hL1 : W1.heap[D + 1]? = some (.loop (rec .ready none)) := by
    rw [hW1, hD]
    have := World.alloc_heap_new (w.alloc (.deferred (some []))) (.loop (rec .ready none))
    rwa [World.size_alloc] at this
  have hK1 : W1.heap[D]? = some (.deferred (some [])) := by
    rw [hW1, hD]
    exact (Below.heap_alloc _ _ _ (by simp)).trans (World.alloc_heap_new w _)
  have ht0 := hI.lt _ _ _ h0
  refine ⟨w.heap.size + 1, [{ target := .collected w.heap.size, args := #[] }], W1, { target := .fn (.func gf) #[], args := ba ++ #[.func (.yield (w.heap.size + 1)) #[] #[]] }, W1, gf,
    ba ++ #[.func (.yield (w.heap.size + 1)) #[] #[]], W1, ?_, ?_, fun _ _ => trivial, ?_, fun h => absurd h (by decide), ?_⟩
  · rw [hW1, hrec]; exact run_enterLoop_outer _ _ _ _ _
  · simp only [resolve, hg]
    simp [go_sem]
  · simp [invoke, go_sem, eg]
  rw [← hD]
  refine (callsIn_wide.2 (hit (D + 1) (fun pre W S => ∃ SI : Nat → Prop, (∀ b, S b ↔ SI b ∨ b = D ∨ b = D + 1) ∧ ¬ SI D ∧ ¬ SI (D + 1) ∧ I pre W SI ∧ W.heap[D + 1]? = some (.loop (rec .ready none)) ∧ W.heap[D]? = some (.deferred (some [])))
    W1 (fun b => S0 b ∨ b = D ∨ b = D + 1) ⟨?_, ?_⟩ ?_ ?_ ⟨S0, fun _ => Iff.rfl, fun h => by have := ht0 _ h; omega, fun h => by have := ht0 _ h; omega, ?_, hL1, hK1⟩)).mono ?_
  · rintro p W S ⟨SI, hS, _, _, hi, hl, hk⟩ b hb
    rcases (hS b).1 hb with h | rfl | rfl
    · exact hI.lt _ _ _ hi b h
    · exact lt_of_block hk
    · exact lt_of_block hl
  · rintro p W W' S ⟨SI, hS, hd1, hd2, hi, hl, hk⟩ hz he
    exact ⟨SI, hS, hd1, hd2, hI.st _ _ _ _ hi hz (fun b hb => he b ((hS b).2 (Or.inl hb))), (he _ ((hS _).2 (Or.inr (Or.inr rfl)))).trans hl, (he _ ((hS _).2 (Or.inr (Or.inl rfl)))).trans hk⟩
  · intro b hb
    obtain ⟨h1, h2⟩ := hT b hb
    refine ⟨by have := b1.size; omega, b1.block b h1, fun h => ?_⟩
    rcases h with h | h | h
    · exact h2 h
    · omega
    · omega
  · -- ONE ROUND
    rintro pre x suf W S hx ⟨SI, hS, hd1, hd2, hi, hl, hk⟩ hTW m
    have hlt : D + 1 < W.heap.size := lt_of_block hl
    have hil := hI.lt _ _ _ hi
    have hy := run_yield (P := P) (args := #[enc x]) hl (by rw [hrec]; exact hps.symm)
    rw [hrec] at hy
    refine ⟨fn, _, assign, body, hy, roundIn_of_wpIn trivial (hassign _ m x W _ fun Wb bb hbx => ?_)⟩
    have hlb := (bb.block (D + 1) hlt).trans hl
    refine ⟨_, run_beginRound hlb (by rw [hrec]), ?_⟩
    clear hy
    obtain ⟨W2, hW2⟩ : ∃ W2, W2 = Wb.putObj (D + 1) (.loop { rec .ready none with state := .busy }) := ⟨_, rfl⟩
    have hbz := bb.size
    have hl2 : W2.heap[D + 1]? = some (.loop { rec .ready none with state := .busy }) := by rw [hW2]; exact World.putObj_heap_same (by omega)
    have z2 : W2.heap.size = Wb.heap.size := by rw [hW2]; simp
    have o2 : ∀ b, b < W.heap.size → b ≠ D + 1 → W2.heap[b]? = W.heap[b]? := fun b hb hn => by rw [hW2, World.putObj_heap_other hn]; exact bb.block b hb
    have k2 : Kept W W2 S S := by rw [hW2]; exact (Kept.of bb).trans (kept_put _ ((hS _).2 (Or.inr (Or.inr rfl))))
    have x2 : W2.heap[W.heap.size]? = some (bx x) := by rw [hW2, World.putObj_heap_other (by omega)]; exact hbx
    rw [← hW2]
    refine wpIn_mono (hbody _ m W.heap.size pre x suf W2 SI hx (by omega) (hI.st _ _ _ _ hi (by omega) (fun b hb => o2 b (hil b hb) (fun e => hd2 (by rw [← e]; exact hb)))) hd2 (by omega) (fun h => Nat.lt_irrefl _ (hil _ h)) x2 (fun b hb => (o2 b (by have := (hT b hb).1; omega) (by have := (hT b hb).1; omega)).trans (hTW b hb))) ?_
    have fin : ∀ (jump : Option Code) (SI' : Nat → Prop) (W3 : World), (∀ b, SI' b → b < W3.heap.size) → Kept W2 W3 SI SI' →
        ¬ SI' D ∧ ¬ SI' (D + 1) ∧ (Instr.endRound (D + 1) jump).run P W3 = .ok (.bool jump.isNone) (W3.putObj (D + 1) (.loop (rec (if jump.isNone then .ready else .done) jump))) ∧
        (W3.putObj (D + 1) (.loop (rec (if jump.isNone then .ready else .done) jump))).heap[D + 1]? = some (.loop (rec (if jump.isNone then .ready else .done) jump)) ∧
        (W3.putObj (D + 1) (.loop (rec (if jump.isNone then .ready else .done) jump))).heap[D]? = some (.deferred (some [])) ∧
        (∀ b, SI' b → (W3.putObj (D + 1) (.loop (rec (if jump.isNone then .ready else .done) jump))).heap[b]? = W3.heap[b]?) ∧
        Kept W (W3.putObj (D + 1) (.loop (rec (if jump.isNone then .ready else .done) jump))) S (fun b => SI' b ∨ b = D ∨ b = D + 1) := fun jump SI' W3 hlt3 k3 => by
      have hn1 : ¬ SI' D := fun h => by
        rcases k3.old D h with h | h
        · exact hd1 h
        · omega
      have hn2 : ¬ SI' (D + 1) := fun h => by
        rcases k3.old _ h with h | h
        · exact hd2 h
        · omega
      have hl3 := (k3.kept (D + 1) (by omega) hd2).trans hl2
      have hk3 := (k3.kept D (by omega) hd1).trans ((o2 D (by omega) (by omega)).trans hk)
      have hz3 := k3.size
      have hend := run_endRound (P := P) jump hl3
      rw [hrec] at hend ⊢
      refine ⟨hn1, hn2, hend, World.putObj_heap_same (by omega), (World.putObj_heap_other (by omega)).trans hk3, fun b hb => World.putObj_heap_other (fun e => hn2 (by rw [← e]; exact hb)), ?_⟩
      refine k2.trans ((kept_more k3 (fun b hb => (hS b).2 (Or.inl hb)) (T' := fun b => SI' b ∨ b = D ∨ b = D + 1) (fun b hb => ?_)).trans (kept_put _ (Or.inr (Or.inr rfl))))
      rcases hb with h | h | h
      · exact Or.inl h
      · exact Or.inr ((hS b).2 (Or.inr (Or.inl h)))
      · exact Or.inr ((hS b).2 (Or.inr (Or.inr h)))
    rintro e a3 W3 ⟨SI', k3, rfl, hi3⟩
    · obtain ⟨hn1, hn2, hend, hl4, hk4, ho4, k4⟩ := fin none SI' W3 (hI.lt _ _ _ hi3) k3
      exact ⟨_, _, hend, _, k4, rfl, SI', fun _ => Iff.rfl, hn1, hn2, hI.st _ _ _ _ hi3 (by simp) ho4, hl4, hk4⟩
  · exact hI.st _ _ _ _ h0 b1.size (fun b hb => b1.block b (ht0 b hb))
  · -- BEHIND THE ITERATOR
    have fin : ∀ (SI S : Nat → Prop) (rc : Loop) (W2 : World), (∀ b, S b ↔ SI b ∨ b = D ∨ b = D + 1) → Kept W1 W2 (fun b => S0 b ∨ b = D ∨ b = D + 1) S → Kept w (W2.putObj (D + 1) (.loop rc)) S0 SI := fun SI S rc W2 hS k => by
      refine ⟨k.os.trans b1.os, k.tape.trans b1.tape, k.output.trans b1.output, by have := k.size; have := b1.size; simp; omega, fun b hb => ?_, fun b hb hn => ?_⟩
      · rcases k.old b ((hS b).2 (Or.inl hb)) with (h | h | h) | h
        · exact Or.inl h
        · exact Or.inr (by omega)
        · exact Or.inr (by omega)
        · exact Or.inr (by omega)
      · rw [World.putObj_heap_other (by omega), k.kept b (by omega) (fun h => by
          rcases h with h | h | h
          · exact hn h
          · omega
          · omega), b1.block b hb]
    rintro e W2 ⟨⟨v, rfl⟩, S, k, SI, hS, hd1, hd2, hi, hl, hk⟩
    · refine ⟨none, _, by have := run_endLoop (P := P) hl (by rw [hrec]; simp); rw [hrec] at this; exact this, ?_⟩
      exact hdone D _ SI (by omega) hd1 (hI.st _ _ _ _ hi (by simp) (fun b hb => World.putObj_heap_other (fun e => hd2 (by rw [← e]; exact hb)))) (fin SI S _ W2 hS k) ((World.putObj_heap_other (by omega)).trans hk)
end
end Go.Proofs.Ytmfadmhbkgemmaa
