/-
  Parts of the proof, laid together: GOwn, GOpen, GRow, GOpenRow, GInts, GOpenInts. The conditions stand at each part.
-/
import Derived.WalkKit
import Derived.WalkSpells
import Derived.Lib.SmallJoins
import Derived.Deep.AppendLies
import Derived.Deep.RegionHeld3
import Derived.Laws.OwnMore
import Derived.Laws.MakeOwn
import Derived.Below
import Derived.Handy
import Derived.Deep.Slices
import Derived.ProofKit
import Derived.OpenShut
import Derived.ShutString
import Derived.ChangeOld
import Derived.Laws.AppendOwnNone
import Derived.Test.YtmfadmhbkgemmaaRows
/-
  Rows of one's own, rows that came in, and what a call leaves alone: for any program. No condition.
-/
namespace Go.Proofs.Ytmfadmhbkgemmaa
open Go.RowKit

/-- A hypothesis that is no rule. -/
def Hid (p : Prop) : Prop := p
theorem Hid.out {p : Prop} (h : Hid p) : p := h
theorem undrew {w w2 : World} (b : Below w.drew.heap.size w.drew w2) : Below w.heap.size w w2 := ⟨b.os, b.tape, b.output, b.size, b.block⟩
theorem bmm {w w1 w2 : World} {b : Nat} (h : Below b w w1) (hb : b ≤ w1.heap.size) (k : Below w1.heap.size w1 w2) : Below b w w2 := h.trans (k.mono hb)
theorem own_keep {w w' : World} {base size n : Nat} {e : TypeId} {v : Value} {xs : List Value} (h : w.ownsRow base e size v n xs) (hk : ∀ g, v.ownBlock = some g → w'.heap[g]? = w.heap[g]?) : w'.ownsRow base e size v n xs := by
  refine ⟨h.1, ?_⟩
  rcases h.2 with h0 | ⟨g, cap, cur, rfl, h2, h3, h4⟩
  · exact Or.inl h0
  · exact Or.inr ⟨g, cap, cur, rfl, h2, (hk g rfl).trans h3, h4⟩
theorem own_ne {w : World} {base n c size : Nat} {e t : TypeId} {v : Value} {xs : List Value} {cs : Array Value} {fr : Nat × Nat} (h : w.ownsRow base e size v n xs) (hc : w.heap[c]? = some (.cells cs t fr)) (hne : e ≠ t) : v.ownBlock ≠ some c := by
  intro e1
  rcases h.2 with ⟨e, e0⟩ | ⟨g', cap, cur, e, _, hb, _⟩
  · rw [e] at e1; simp [Value.ownBlock] at e1
  · rw [e] at e1
    simp only [Value.ownBlock, Option.some.injEq] at e1
    rw [e1, hc] at hb
    simp only [Option.some.injEq, Obj.cells.injEq] at hb
    exact hne hb.2.1.symm
theorem own_mono {w : World} {base base' size n : Nat} {e : TypeId} {v : Value} {xs : List Value} (h : w.ownsRow base e size v n xs) (hb : base' ≤ base) : w.ownsRow base' e size v n xs := by
  refine ⟨h.1, ?_⟩
  rcases h.2 with h0 | ⟨g, cap, cur, h1, h2, h3⟩
  · exact Or.inl h0
  · exact Or.inr ⟨g, cap, cur, h1, Nat.le_trans hb h2, h3⟩
theorem own_form {w : World} {base size n : Nat} {e : TypeId} {v : Value} {xs : List Value} (h : w.ownsRow base e size v n xs) : ∃ pv nv cv, v = .slice pv nv cv := by
  rcases h.2 with ⟨rfl, _⟩ | ⟨g, c, cur, rfl, _⟩
  · exact ⟨_, _, _, rfl⟩
  · exact ⟨_, _, _, rfl⟩
/-- What a call leaves: what is not the thing's own has not turned. -/
structure Kept (w w' : World) (S S' : Nat → Prop) : Prop where
  os : w'.os = w.os
  tape : w'.tape = w.tape
  output : w'.output = w.output
  size : w.heap.size ≤ w'.heap.size
  old : ∀ b, S' b → S b ∨ w.heap.size ≤ b
  kept : ∀ b, b < w.heap.size → ¬ S b → w'.heap[b]? = w.heap[b]?
theorem Kept.refl (w : World) (S : Nat → Prop) : Kept w w S S := ⟨rfl, rfl, rfl, Nat.le_refl _, fun _ h => Or.inl h, fun _ _ _ => rfl⟩
theorem Kept.of {w w' : World} {S : Nat → Prop} (k : Below w.heap.size w w') : Kept w w' S S := ⟨k.os, k.tape, k.output, k.size, fun _ h => Or.inl h, fun b hb _ => k.block b hb⟩
theorem Kept.trans {a b c : World} {S S1 S2 : Nat → Prop} (h : Kept a b S S1) (k : Kept b c S1 S2) : Kept a c S S2 := by
  refine ⟨k.os.trans h.os, k.tape.trans h.tape, k.output.trans h.output, Nat.le_trans h.size k.size, fun x hx => ?_, fun x hx hn => ?_⟩
  · rcases k.old x hx with h1 | h1
    · exact h.old x h1
    · exact Or.inr (Nat.le_trans h.size h1)
  · have h1 : ¬ S1 x := fun h1 => by
      rcases h.old x h1 with h2 | h2
      · exact hn h2
      · omega
    exact (k.kept x (Nat.lt_of_lt_of_le hx h.size) h1).trans (h.kept x hx hn)
theorem Kept.low {w w' : World} {S S' : Nat → Prop} {base : Nat} (k : Kept w w' S S') (hb : base ≤ w.heap.size) (hS : ∀ b, S b → base ≤ b) : Below base w w' :=
  ⟨k.os, k.tape, k.output, k.size, fun i hi => k.kept i (by omega) (fun hs => by have := hS i hs; omega)⟩
/-- A row of numbers that came in, as a slice. -/
structure IntsAt (w : World) (v : Value) (l : List Int) : Prop where
  ex : ∃ (a : Option Addr) (cap : Nat), v = .slice a l.length cap ∧ l.length ≤ cap ∧ (l.length = 0 ∨ ∃ bk off, a = some ⟨bk, off, none⟩ ∧ bk < w.heap.size ∧ ∀ j (hj : j < l.length), w.cell? ⟨bk, off + j, none⟩ = some (.int .i64 l[j]))
  lo : ∀ x ∈ l, -9223372036854775808 ≤ x ∧ x ≤ 9223372036854775807
  mx : l.length ≤ maxLen
theorem IntsAt.keep {w w' : World} {v : Value} {l : List Int} (h : IntsAt w v l) (hs : w.heap.size ≤ w'.heap.size) (hk : ∀ a bk off n cap, v = .slice a n cap → a = some ⟨bk, off, none⟩ → w'.heap[bk]? = w.heap[bk]?) : IntsAt w' v l := by
  obtain ⟨a, cap, hv, hc, he⟩ := h.ex
  refine ⟨⟨a, cap, hv, hc, ?_⟩, h.lo, h.mx⟩
  rcases he with h0 | ⟨bk, off, ha, hb, hx⟩
  · exact Or.inl h0
  · exact Or.inr ⟨bk, off, ha, Nat.lt_of_lt_of_le hb hs, fun j hj => (World.cell?_of_block (hk a bk off _ cap hv ha)).trans (hx j hj)⟩
theorem IntsAt.below {w w' : World} {v : Value} {l : List Int} {B : Nat} (h : IntsAt w v l) (k : Below B w w') (hB : ∀ a bk off n cap, v = .slice a n cap → a = some ⟨bk, off, none⟩ → bk < B) : IntsAt w' v l :=
  h.keep k.size (fun a bk off n cap e1 e2 => k.block bk (hB a bk off n cap e1 e2))
end Go.Proofs.Ytmfadmhbkgemmaa
/-
  A slice that came in, opened row by row: what every reading of an element says, its cells by number, and its data. No condition. No program.
-/
namespace Go.Proofs.Ytmfadmhbkgemmaa
open Go.ChangeShapes Go.WideShapes Go.ChangeAt Go.RowKit Go.Joins Go.Deep

theorem choose_list {α : Type} {n : Nat} {p : Nat → α → Prop} (h : ∀ j, j < n → ∃ x, p j x) : ∃ l : List α, l.length = n ∧ ∀ j (hj : j < l.length), p j l[j] := by
  induction n with
  | zero => exact ⟨[], rfl, fun j hj => absurd hj (Nat.not_lt_zero _)⟩
  | succ n ih =>
    obtain ⟨l, hl, hp⟩ := ih fun j hj => h j (by omega)
    obtain ⟨x, hx⟩ := h n (Nat.lt_succ_self _)
    refine ⟨l ++ [x], by simp [hl], fun j hj => ?_⟩
    by_cases hjl : j < l.length
    · rw [List.getElem_append_left hjl]
      exact hp j hjl
    · have hjn : j = n := by
        rw [List.length_append] at hj
        simp at hj
        omega
      subst hjn
      rw [List.getElem_append_right (by omega)]
      simpa using hx
section
variable {H : Type} {enc : TypeId × Value → H} {P : Program} {w : World}
/-- What a slice that came in holds. -/
structure RowOf {α : Type} (w : World) (c : Nat) (L : α → List Value → DataW H → Prop) (a : Option Addr) (len cap : Nat) (d : DataW H) (l : List α) : Prop where
  len_eq : l.length = len
  le_cap : len ≤ cap
  le_max : len ≤ maxLen
  ex : (a = none ∧ len = 0 ∧ cap = 0 ∧ d = .nil) ∨ ∃ (x : Addr) (es spare : List (DataW H)), a = some x ∧ d = .slice es spare ∧ es.length = len ∧
    (∀ j (hj : j < l.length) (he : j < es.length), ∃ cs, L l[j] cs es[j] ∧ cs.length = c ∧ ∀ i (hi : i < cs.length), w.cell? (x.add (j * c + i)) = some cs[i]) ∧ (len = 0 ∨ ∃ bk off, x = ⟨bk, off, none⟩ ∧ bk < w.heap.size)
theorem open_row {α : Type} {t e : TypeId} {c : Nat} (ht : P.underlying t = some (.slice e)) (hc : P.cellsOf e = c) (h0 : 0 < c) (L : α → List Value → DataW H → Prop)
    (each : ∀ fuel cs x, DataW.trod enc P w 0 (fun _ => true) true fuel e cs = some x → ∃ q : α, L q cs x.1) {fuel : Nat} {v : Value} {x : DataW H × List MemPlace}
    (h : DataW.trod enc P w 0 (fun _ => true) true fuel t [v] = some x) : ∃ a len cap l, v = .slice a len cap ∧ RowOf w c L a len cap x.1 l := by
  rcases open_slice ht h with ⟨e0, rfl⟩ | ⟨y, len, cap, m, n, D, Pl, hcs, _, hl, hm, hmm, rfl, hel⟩
  · simp at e0
    exact ⟨none, 0, 0, [], e0, rfl, Nat.le_refl _, Nat.zero_le _, Or.inl ⟨rfl, rfl, rfl, rfl⟩⟩
  · simp at hcs
    subst hcs
    rw [hc] at hel
    have hmc : m = cap := by simpa using hmm
    obtain ⟨l, hll, hq⟩ := choose_list (n := len) (p := fun j (q : α) => ∃ cs, L q cs (D j) ∧ cs.length = c ∧ ∀ i (hi : i < cs.length), w.cell? (y.add (j * c + i)) = some cs[i]) fun j hj => by
      obtain ⟨cs', h1, h2⟩ := hel j (by omega)
      obtain ⟨_, hlen, hcell⟩ := World.cells?_some h1
      obtain ⟨q, hL⟩ := each _ _ _ h2
      exact ⟨q, cs', hL, hlen, fun i hi => by
        have g := hcell i (by omega)
        rw [add_add, List.getElem?_eq_getElem hi] at g
        exact g⟩
    refine ⟨some y, len, cap, l, rfl, hll, hl, by omega, Or.inr ⟨y, _, _, rfl, rfl, by simp, fun j hj he => ?_, ?_⟩⟩
    · obtain ⟨cs, h1, h2, h3⟩ := hq j hj
      exact ⟨cs, by simpa using h1, h2, h3⟩
    · by_cases hz : len = 0
      · exact Or.inl hz
      right
      obtain ⟨cs, _, h2, h3⟩ := hq 0 (by omega)
      have c00 := h3 0 (by omega)
      obtain ⟨bk, off, spot⟩ := y
      have hspot : spot = none := by simpa [Addr.add] using World.cell?_spot c00
      subst hspot
      exact ⟨bk, off, rfl, by simpa [Addr.add] using World.block_lt_of_cell? w _ c00⟩
end
/-- A row of numbers that came in. -/
theorem RowOf.ints {H : Type} {w : World} {a : Option Addr} {len cap : Nat} {d : DataW H} {bs : List Int} (h : RowOf w 1 (fun (n : Int) cs (_ : DataW H) => cs = [.int .i64 n] ∧ -9223372036854775808 ≤ n ∧ n ≤ 9223372036854775807) a len cap d bs) : IntsAt w (.slice a len cap) bs := by
  obtain ⟨rfl, h1, h2, h3⟩ := h
  refine ⟨⟨a, cap, rfl, h1, ?_⟩, ?_, h2⟩
  · rcases h3 with ⟨_, h0, _⟩ | ⟨x, es, sp, rfl, _, he, hj, h4⟩
    · exact Or.inl h0
    · rcases h4 with h4 | ⟨bk, off, rfl, hb⟩
      · exact Or.inl h4
      · refine Or.inr ⟨bk, off, rfl, hb, fun j hjl => ?_⟩
        obtain ⟨cs, ⟨rfl, _⟩, _, h6⟩ := hj j hjl (by omega)
        have := h6 0 (by simp)
        simpa [Addr.add_mid] using this
  · intro x hx
    obtain ⟨j, hjl, rfl⟩ := List.mem_iff_getElem.1 hx
    rcases h3 with ⟨_, h0, _⟩ | ⟨x, es, sp, rfl, _, he, hj, h4⟩
    · omega
    · obtain ⟨cs, ⟨_, h5⟩, _⟩ := hj j hjl (by omega)
      exact h5
end Go.Proofs.Ytmfadmhbkgemmaa
/-
  Rows of structs of one size, in memory: as they came in, one's own, from a place on, one behind the other: for any program. No condition.
-/
namespace Go.Proofs.Ytmfadmhbkgemmaa
open Go.RowKit

theorem addr_add_block (x : Addr) (j : Nat) : (x.add j).block = x.block := by
  unfold Addr.add
  split <;> rfl
section
variable {α : Type} {k : Nat} {enc : α → List Value}
/-- The cells of a row. -/
def rowL (enc : α → List Value) (l : List α) : List Value := l.flatMap enc
theorem rowL_length (hk : ∀ x, (enc x).length = k) (l : List α) : (rowL enc l).length = l.length * k := by
  induction l with
  | nil => simp [rowL]
  | cons x l ih =>
    unfold rowL at ih ⊢
    rw [List.flatMap_cons, List.length_append, hk, ih, List.length_cons, Nat.add_mul, Nat.one_mul, Nat.add_comm]
theorem rowL_append (l m : List α) : rowL enc (l ++ m) = rowL enc l ++ rowL enc m := by unfold rowL; rw [List.flatMap_append]
theorem rowL_at (hk : ∀ x, (enc x).length = k) : ∀ (l : List α) (j : Nat) (hj : j < l.length) (c : Nat), c < k → (rowL enc l)[j * k + c]? = (enc l[j])[c]?
  | [], j, hj, _, _ => absurd hj (Nat.not_lt_zero _)
  | x :: l, 0, _, c, hc => by
    unfold rowL
    rw [List.flatMap_cons, Nat.zero_mul, Nat.zero_add, List.getElem?_append_left (by rw [hk]; exact hc)]
    rfl
  | x :: l, j + 1, hj, c, hc => by
    have ih := rowL_at hk l j (by simpa using hj) c hc
    unfold rowL at ih ⊢
    rw [List.flatMap_cons, List.getElem?_append_right (by rw [hk, Nat.add_mul]; omega), hk]
    have e : (j + 1) * k + c - k = j * k + c := by rw [Nat.add_mul]; omega
    rw [e, ih]
    rfl
theorem rowL_drop (hk : ∀ x, (enc x).length = k) : ∀ (l : List α) (n : Nat), rowL enc (l.drop n) = (rowL enc l).drop (n * k)
  | [], n => by simp [rowL]
  | x :: l, 0 => by simp
  | x :: l, n + 1 => by
    have ih := rowL_drop hk l n
    unfold rowL at ih ⊢
    have e : (n + 1) * k = (enc x).length + n * k := by rw [hk, Nat.add_mul]; omega
    rw [List.drop_succ_cons, List.flatMap_cons, ih, e, ← List.drop_drop, List.drop_left]
theorem rowL_one_cell (h1 : ∀ x, ∀ u ∈ enc x, u.oneCell' = true) (l : List α) : ∀ u ∈ rowL enc l, u.oneCell' = true := fun u hu => by
  unfold rowL at hu
  obtain ⟨x, _, hx⟩ := List.mem_flatMap.1 hu
  exact h1 x u hx
/-- A row to be read: nil, or at a place. -/
structure RowAt (enc : α → List Value) (w : World) (v : Value) (l : List α) : Prop where
  ex : ∃ (a : Option Addr) (cap : Nat), v = .slice a l.length cap ∧ l.length ≤ cap ∧ (a = none → l.length = 0 ∧ cap = 0) ∧ (l.length = 0 ∨ ∃ bk off, a = some ⟨bk, off, none⟩ ∧ bk < w.heap.size ∧ ∀ j u, (rowL enc l)[j]? = some u → w.cell? ⟨bk, off + j, none⟩ = some u)
theorem RowAt.keep {w w' : World} {v : Value} {l : List α} (h : RowAt enc w v l) (hs : w.heap.size ≤ w'.heap.size) (hk : ∀ bk off n cap, 0 < n → v = .slice (some ⟨bk, off, none⟩) n cap → w'.heap[bk]? = w.heap[bk]?) : RowAt enc w' v l := by
  obtain ⟨a, cap, e, h1, h2, h3⟩ := h.ex
  refine ⟨a, cap, e, h1, h2, ?_⟩
  by_cases h0 : l.length = 0
  · exact Or.inl h0
  rcases h3 with h3 | ⟨bk, off, ha, hb, hx⟩
  · exact Or.inl h3
  · subst ha
    exact Or.inr ⟨bk, off, rfl, Nat.lt_of_lt_of_le hb hs, fun j u hu => (World.cell?_of_block (hk bk off _ cap (by omega) e)).trans (hx j u hu)⟩
theorem RowAt.fresh {w w' : World} {v : Value} {l : List α} (h : RowAt enc w v l) (k : Below w.heap.size w w') : RowAt enc w' v l := by
  obtain ⟨a, cap, e, h1, h2, h3⟩ := h.ex
  refine ⟨a, cap, e, h1, h2, ?_⟩
  rcases h3 with h3 | ⟨bk, off, ha, hb, hx⟩
  · exact Or.inl h3
  · exact Or.inr ⟨bk, off, ha, Nat.lt_of_lt_of_le hb k.size, fun j u hu => (k.cell (p := ⟨bk, off + j, none⟩) (by exact hb)).trans (hx j u hu)⟩
theorem RowAt.nil (w : World) : RowAt enc w (.slice none 0 0) [] := ⟨none, 0, rfl, Nat.le_refl _, fun _ => ⟨rfl, rfl⟩, Or.inl rfl⟩
theorem RowAt.form {w : World} {v : Value} {l : List α} (h : RowAt enc w v l) : ∃ a cap, v = .slice a l.length cap := by
  obtain ⟨a, cap, e, _⟩ := h.ex
  exact ⟨a, cap, e⟩
/-- What a walk needs of a row that is not empty. -/
theorem RowAt.cells {w : World} {v : Value} {l : List α} (h : RowAt enc w v l) (hk : ∀ x, (enc x).length = k) (h0 : 0 < l.length) : ∃ bk off cap, v = .slice (some ⟨bk, off, none⟩) l.length cap ∧ l.length ≤ cap ∧ bk < w.heap.size ∧ ∀ j (hj : j < l.length) c u, c < k → (enc l[j])[c]? = some u → w.cell? ⟨bk, off + j * k + c, none⟩ = some u := by
  obtain ⟨a, cap, e, h1, h2, h3 | ⟨bk, off, rfl, hb, hx⟩⟩ := h.ex
  · omega
  · refine ⟨bk, off, cap, e, h1, hb, fun j hj c u hc hu => ?_⟩
    have := hx (j * k + c) u (by rw [rowL_at hk l j hj c hc]; exact hu)
    rw [Nat.add_assoc]
    exact this
/-- A row of one's own is a row to be read. -/
theorem RowAt.own {w : World} {base : Nat} {T : TypeId} {v : Value} {l : List α} (hk : ∀ x, (enc x).length = k) (h : w.ownsRow base T k v l.length (rowL enc l)) : RowAt enc w v l := by
  rcases h.2 with ⟨rfl, h0⟩ | ⟨g, cap, cur, rfl, _, hg, hc, _, _, _⟩
  · exact ⟨none, 0, by rw [h0], by omega, fun _ => ⟨h0, rfl⟩, Or.inl h0⟩
  · refine ⟨_, _, rfl, hc, fun e => (by cases e), Or.inr ⟨g, 0, rfl, lt_of_block hg, fun j u hu => ?_⟩⟩
    have hj : j < l.length * k := by
      have := (List.getElem?_eq_some_iff.1 hu).1
      rw [rowL_length hk] at this
      exact this
    rw [Nat.zero_add, World.ownsRow.cellAt h j hj]
    exact hu
/-- A row that was just built. -/
theorem RowAt.built {w : World} {v : Value} {l : List α} {B : Nat} {cs : Array Value} {t : TypeId} {fr : Nat × Nat} (hb : w.heap[B]? = some (.cells cs t fr)) (hc : cs.toList = rowL enc l) (n : Nat) (hn : n = l.length) (hv : v = .slice (some ⟨B, 0, none⟩) n n) : RowAt enc w v l := by
  subst hn
  refine ⟨_, _, hv, Nat.le_refl _, fun e => (by cases e), Or.inr ⟨B, 0, rfl, lt_of_block hb, fun j u hu => ?_⟩⟩
  have := World.news_of_block hb j u (by rw [hc]; exact hu)
  rw [Addr.add_mid] at this
  exact this
/-- A row in the thing's own blocks. -/
structure OwnRow (enc : α → List Value) (w : World) (S : Nat → Prop) (D : Nat) (v : Value) (l : List α) : Prop where
  at' : RowAt enc w v l
  own : ∀ bk off n cap, 0 < n → v = .slice (some ⟨bk, off, none⟩) n cap → S bk ∧ bk ≠ D
theorem OwnRow.keep {w w' : World} {S : Nat → Prop} {D : Nat} {v : Value} {l : List α} (h : OwnRow enc w S D v l) (hs : w.heap.size ≤ w'.heap.size) (hk : ∀ b, S b → b ≠ D → w'.heap[b]? = w.heap[b]?) : OwnRow enc w' S D v l :=
  ⟨h.at'.keep hs (fun bk off n cap h0 e => hk bk (h.own bk off n cap h0 e).1 (h.own bk off n cap h0 e).2), h.own⟩
theorem OwnRow.grow {w : World} {S S' : Nat → Prop} {D : Nat} {v : Value} {l : List α} (h : OwnRow enc w S D v l) (hs : ∀ b, S b → S' b) : OwnRow enc w S' D v l :=
  ⟨h.at', fun bk off n cap h0 e => ⟨hs _ (h.own bk off n cap h0 e).1, (h.own bk off n cap h0 e).2⟩⟩
theorem OwnRow.nil (w : World) (S : Nat → Prop) (D : Nat) : OwnRow enc w S D (.slice none 0 0) [] := ⟨RowAt.nil w, fun _ _ _ _ _ e => (by simp at e)⟩
theorem OwnRow.new {w : World} {base D : Nat} {S : Nat → Prop} {T : TypeId} {v : Value} {l : List α} (hk : ∀ x, (enc x).length = k) (h : w.ownsRow base T k v l.length (rowL enc l)) (hD : D < base) (hS : ∀ b, base ≤ b → b < w.heap.size → S b) : OwnRow enc w S D v l :=
  ⟨RowAt.own hk h, fun bk off n cap _ e => by
    subst e
    have := h.lt bk rfl
    exact ⟨hS bk this.1 this.2, by omega⟩⟩
end
section
variable {α : Type} {k : Nat} {enc : α → List Value} {w : World} {S : Nat → Prop} {D : Nat} {v : Value} {l : List α}
/-- The row from a place on. -/
theorem OwnRow.from (h : OwnRow enc w S D v l) (T E : TypeId) (i0 : TypeInfo) (hu : Try.prog.underlying T = some (.slice E)) (he : Try.prog.elem T = E) (hi : Try.prog.info? E = some i0) (hz1 : i0.size = k) (hk : ∀ x, (enc x).length = k) (n : Nat) (hn : n ≤ l.length) :
    ∃ u, (∀ w', (Instr.sliceAt T v (some (.int .i64 (n : Int))) none none).run Try.prog w' = .ok u w') ∧ OwnRow enc w S D u (l.drop n) := by
  have hu2 : Try.prog.underlying T = some (.slice (Try.prog.elem T)) := by rw [he]; exact hu
  have hsz : ∀ w, (sizeOf E).run Try.prog w = .ok k w := fun w => by simp [sizeOf, typeInfo, hi, hz1]
  obtain ⟨a, c, rfl, hc, h2, h3⟩ := h.at'.ex
  cases a with
  | none =>
    obtain ⟨hl0, rfl⟩ := h2 rfl
    have hl1 : l = [] := List.eq_nil_of_length_eq_zero hl0
    subst hl1
    have hn0 : n = 0 := by simpa using hn
    subst hn0
    refine ⟨.slice none 0 0, fun w' => ?_, OwnRow.nil w S D⟩
    have hz : ([] : List α).length = 0 := rfl
    rw [hz, run_sliceAt_slice _ _ _ _ _ _ hu2, run_slice_l _ _ _ _ _ hu2 _ _ (by omega) (by omega), he, hsz]
    simp [Result.andThen_ok, sliced]
  | some x =>
    refine ⟨.slice (some (if c = n then x else x.add (n * k))) (l.length - n) (c - n), fun w' => ?_, ⟨_, c - n, by rw [List.length_drop], by rw [List.length_drop]; omega, fun e => (by cases e), ?_⟩, fun bk off m cap h0 e => ?_⟩
    · rw [run_sliceAt_slice _ _ _ _ _ _ hu2, run_slice_l _ _ _ _ _ hu2 _ _ (by omega) (by omega), he, hsz]
      simp only [Result.andThen_ok, sliced, Int.toNat_natCast]
      by_cases hck : c = n
      · rw [if_pos hck, if_pos hck]
      · rw [if_neg hck, if_neg hck]
        simp
    · rw [List.length_drop]
      by_cases hz : l.length - n = 0
      · exact Or.inl hz
      rcases h3 with h3 | ⟨bk, off, ha, hb, hx⟩
      · omega
      · cases ha
        refine Or.inr ⟨bk, off + n * k, by rw [if_neg (by omega), Addr.add_mid], hb, fun j u hj => ?_⟩
        rw [rowL_drop hk, List.getElem?_drop] at hj
        rw [Nat.add_assoc]
        exact hx _ u hj
    · simp only [Value.slice.injEq, Option.some.injEq] at e
      obtain ⟨e1, e2, _⟩ := e
      rcases h3 with h3 | ⟨bk', off', ha, hb, hx⟩
      · omega
      · cases ha
        have h4 := h.own bk' off' l.length c (by omega) rfl
        have h5 : bk' = bk := by
          have := congrArg Addr.block e1
          split at this
          · exact this
          · rw [addr_add_block] at this
            exact this
        rw [← h5]
        exact h4
/-- What an append leaves: what is not the row's own block has not turned; the new row lies in the old one's block or in a new one. -/
structure Appended (base : Nat) (w w' : World) (v u : Value) : Prop where
  below : Below base w w'
  rest : ∀ b, b < w.heap.size → some b ≠ v.ownBlock → w'.heap[b]? = w.heap[b]?
  lies : u.ownBlock = v.ownBlock ∨ u.ownBlock = some w.heap.size
/-- A row behind one's own. -/
theorem wp_app_row {o : Oper} {a : Act} {K : Act → World → Prop} {Q : Exit → Act → World → Prop} (s x : Operand) (T E : TypeId) (ho : o.op = .call { callee := .builtin .append, args := #[s, x], argTypes := #[T, T] }) (i0 : TypeInfo) (z : Value) (bytes : Nat) (hu : Try.prog.underlying T = some (.slice E)) (hi : Try.prog.info? E = some i0) (hz0 : i0.zero = some z) (hz1 : i0.size = k) (hz2 : i0.bytes = bytes) (hzs : z.cells.size = k) (h0 : 0 < k)
    (hk : ∀ x, (enc x).length = k) (h1 : ∀ x, ∀ u ∈ enc x, u.oneCell' = true) {base n : Nat} {v u : Value} {xs : List Value} (hs : a.eval s = v) (hx : a.eval x = u) (hown : w.ownsRow base E k v n xs) (hr : RowAt enc w u l) (hb : base ≤ w.heap.size) (hn : (n + l.length) * bytes ≤ 140737488355328) (hn2 : n + l.length ≤ 140737488355328)
    (h : ∀ u' w', w'.ownsRow base E k u' (n + l.length) (xs ++ rowL enc l) → Appended base w w' v u' → K (a.put o.dst u') w') : o.wp Try.prog a w K Q := by
  obtain ⟨ad, cap, rfl, h2, h3, h4⟩ := hr.ex
  cases ad with
  | none =>
    obtain ⟨hl0, rfl⟩ := h3 rfl
    have hl1 : l = [] := List.eq_nil_of_length_eq_zero hl0
    subst hl1
    have hrun := run_append_owned_none (P := Try.prog) (w := w) base T o.type E i0 k hu hi v n xs hown
    have h' := h v w (by simpa [rowL] using hown) ⟨Below.refl _ _, fun _ _ _ => rfl, Or.inl rfl⟩
    have hx' : a.eval x = .slice none 0 0 := hx
    unfold Oper.wp
    simp [execOp, ho, resolve, invoke, builtin, hx', hs, hrun, Result.andThen]
    exact h'
  | some ad =>
    have hnews : ∀ j u, (rowL enc l)[j]? = some u → w.cell? (ad.add j) = some u := fun j u hu => by
      rcases h4 with h4 | ⟨bk, off, e, _, hx4⟩
      · have hl1 : l = [] := List.eq_nil_of_length_eq_zero h4
        subst hl1
        simp [rowL] at hu
      · cases e
        rw [Addr.add_mid]
        exact hx4 j u hu
    obtain ⟨u', w', hr, h5, h6, _, h8⟩ := run_append_own_at (P := Try.prog) w base T o.type E i0 z k bytes hu hi hz0 hz1 hz2 hzs h0 v n xs hown ad l.length cap (rowL enc l) (rowL_length hk l) hnews (rowL_one_cell h1 l) (by unfold maxLen; omega) hn hb
    unfold Oper.wp execOp
    simp only [ho, resolve, invoke, builtin, Sem.run_bind, Sem.run_pure, Result.andThen_ok, List.map_toArray, List.map_cons, List.map_nil, hs, hx, hr]
    exact h u' w' h5 ⟨(Below.refl _ w).grown h6 hb (fun k hk => (hown.lt k hk).1), fun b hb hne => h6.block b hb hne, h8⟩
theorem wpList_app_row {ops : Array Oper} {rest : List Oper} {o : Oper} {a : Act} {Q : Exit → Act → World → Prop} (hgd : o.guard = none) (s x : Operand) (T E : TypeId) (ho : o.op = .call { callee := .builtin .append, args := #[s, x], argTypes := #[T, T] }) (i0 : TypeInfo) (z : Value) (bytes : Nat) (hu : Try.prog.underlying T = some (.slice E)) (hi : Try.prog.info? E = some i0) (hz0 : i0.zero = some z) (hz1 : i0.size = k) (hz2 : i0.bytes = bytes) (hzs : z.cells.size = k) (h0 : 0 < k)
    (hk : ∀ x, (enc x).length = k) (h1 : ∀ x, ∀ u ∈ enc x, u.oneCell' = true) {base n : Nat} {v u : Value} {xs : List Value} (hs : a.eval s = v) (hx : a.eval x = u) (hown : w.ownsRow base E k v n xs) (hr : RowAt enc w u l) (hb : base ≤ w.heap.size) (hn : (n + l.length) * bytes ≤ 140737488355328) (hn2 : n + l.length ≤ 140737488355328)
    (h : ∀ u' w', w'.ownsRow base E k u' (n + l.length) (xs ++ rowL enc l) → Appended base w w' v u' → wpList Try.prog ops Q rest (a.put o.dst u') w') : wpList Try.prog ops Q (o :: rest) a w :=
  wpList_plain hgd fun _ hK => wp_app_row s x T E ho i0 z bytes hu hi hz0 hz1 hz2 hzs h0 hk h1 hs hx hown hr hb hn hn2 fun u' w' h2 h3 => hK _ _ (h u' w' h2 h3)
end
theorem RowAt.none0 {α : Type} {enc : α → List Value} {w : World} {u : Value} (r : RowAt enc w u ([] : List α)) : ∃ a cap, u = .slice a 0 cap := r.form
theorem RowAt.lt {α : Type} {enc : α → List Value} {w : World} {v : Value} {l : List α} (h : RowAt enc w v l) {bk off n cap : Nat} (h0 : 0 < n) (e : v = .slice (some ⟨bk, off, none⟩) n cap) : bk < w.heap.size := by
  obtain ⟨a, c, e1, _, _, h3⟩ := h.ex
  rw [e] at e1
  simp only [Value.slice.injEq] at e1
  obtain ⟨e1, e2, _⟩ := e1
  rcases h3 with h3 | ⟨bk', off', e4, hb, _⟩
  · omega
  · rw [← e1] at e4
    cases e4
    exact hb
end Go.Proofs.Ytmfadmhbkgemmaa
/-
  A slice of structs of one size that came in, as a row to be read: for any program. No condition.
-/
namespace Go.Proofs.Ytmfadmhbkgemmaa
open Go.ChangeShapes Go.WideShapes Go.ChangeAt Go.RowKit Go.Joins Go.Deep

section
variable {α : Type} {k : Nat} {enc : α → List Value} {H : Type} {w : World} {L : α → List Value → DataW H → Prop} {a : Option Addr} {len cap : Nat} {d : DataW H} {l : List α}
theorem RowOf.row (h : RowOf w k L a len cap d l) (h0 : 0 < k) (hk : ∀ x, (enc x).length = k) (hL : ∀ q cs y, L q cs y → cs = enc q) : RowAt enc w (.slice a len cap) l := by
  obtain ⟨rfl, h1, h2, h3⟩ := h
  rcases h3 with ⟨ha, hl0, hc0, _⟩ | ⟨x, es, sp, rfl, _, he, hj, h4⟩
  · exact ⟨a, cap, rfl, h1, fun _ => ⟨hl0, hc0⟩, Or.inl hl0⟩
  · refine ⟨some x, cap, rfl, h1, fun e => (by cases e), ?_⟩
    rcases h4 with h4 | ⟨bk, off, rfl, hb⟩
    · exact Or.inl h4
    · refine Or.inr ⟨bk, off, rfl, hb, fun j u hu => ?_⟩
      have hlt : j < l.length * k := by
        have := (List.getElem?_eq_some_iff.1 hu).1
        rw [rowL_length hk] at this
        exact this
      have hi : j / k < l.length := Nat.div_lt_of_lt_mul (by rw [Nat.mul_comm]; exact hlt)
      have hc : j % k < k := Nat.mod_lt _ h0
      have hjk : j / k * k + j % k = j := by rw [Nat.mul_comm]; exact Nat.div_add_mod j k
      rw [← hjk, rowL_at hk l _ hi _ hc] at hu
      obtain ⟨cs, hcs, _, h6⟩ := hj (j / k) hi (by omega)
      have e := hL _ _ _ hcs
      subst e
      obtain ⟨hcl, e2⟩ := List.getElem?_eq_some_iff.1 hu
      have := h6 (j % k) hcl
      rw [Addr.add_mid, hjk, e2] at this
      exact this
theorem RowOf.all (h : RowOf w k L a len cap d l) (p : α → Prop) (hL : ∀ q cs y, L q cs y → p q) : ∀ x ∈ l, p x := fun x hx => by
  obtain ⟨rfl, h1, h2, h3⟩ := h
  obtain ⟨j, hj, rfl⟩ := List.getElem_of_mem hx
  rcases h3 with ⟨_, hl0, _⟩ | ⟨y, es, sp, rfl, _, he, hjj, _⟩
  · omega
  · obtain ⟨cs, hcs, _⟩ := hjj j hj (by omega)
    exact hL _ _ _ hcs
end
section
variable {H : Type} {enc : TypeId × Value → H} {P : Program} {w : World}
end
end Go.Proofs.Ytmfadmhbkgemmaa
/-
  Rows of numbers as rows of one cell each: for any program. No condition.
-/
namespace Go.Proofs.Ytmfadmhbkgemmaa
open Go.RowKit

def intL (l : List Int) : List Value := l.map (Value.int .i64)
theorem intL_length (l : List Int) : (intL l).length = l.length := by unfold intL; simp
theorem infoI : (Try.prog.info? 3).map (fun i => (i.zero, i.size, i.bytes)) = some (some (.int .i64 0), 1, 8) := by kernel_rfl
theorem one_intL (l : List Int) : ∀ u ∈ intL l, u.oneCell' = true := fun u hu => by
  unfold intL at hu
  obtain ⟨y, _, rfl⟩ := List.mem_map.1 hu
  rfl
def intC (x : Int) : List Value := [.int .i64 x]
theorem intC_len (x : Int) : (intC x).length = 1 := rfl
theorem rowL_int (l : List Int) : rowL intC l = intL l := by
  unfold rowL intL intC
  induction l with
  | nil => rfl
  | cons x l ih => simp only [List.flatMap_cons, List.map_cons, List.singleton_append, ih]
def okI (x : Int) : Prop := -9223372036854775808 ≤ x ∧ x ≤ 9223372036854775807
theorem RowAt.ints {w : World} {v : Value} {l : List Int} (h : RowAt intC w v l) (hlo : ∀ x ∈ l, okI x) (hl : l.length ≤ 65536) : IntsAt w v l := by
  obtain ⟨a, cap, e, h1, h2, h3⟩ := h.ex
  refine ⟨⟨a, cap, e, h1, ?_⟩, hlo, by unfold maxLen; omega⟩
  rcases h3 with h3 | ⟨bk, off, ha, hb, hx⟩
  · exact Or.inl h3
  · refine Or.inr ⟨bk, off, ha, hb, fun j hj => hx j _ ?_⟩
    rw [rowL_int]
    unfold intL
    rw [List.getElem?_map, List.getElem?_eq_getElem hj]
    rfl
end Go.Proofs.Ytmfadmhbkgemmaa
/-
  A row of numbers that a law is handed, opened: for any program. No condition.
-/
namespace Go.Proofs.Ytmfadmhbkgemmaa
open Go.ChangeShapes Go.WideShapes Go.ChangeAt Go.RowKit Go.Joins Go.Deep

theorem kcInt : Try.prog.cellsOf 3 = 1 := by kernel_rfl
section
variable {H : Type} {enc : TypeId × Value → H} {w : World}
end
end Go.Proofs.Ytmfadmhbkgemmaa
