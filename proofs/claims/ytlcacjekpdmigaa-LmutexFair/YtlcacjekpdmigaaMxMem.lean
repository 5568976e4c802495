/-
  The document's mutex in memory (package latchkeyref08): who holds it, who waits; a new one, locked, unlocked. No condition.
-/
import Derived.Test.YtlcacjekpdmigaaMxRef
import Derived.Laws.AppendOwnNone
namespace Go.Proofs.Ytlcacjekpdmigaa
open Go.RowKit

abbrev MT : TypeId := 41
def intL (l : List Int) : List Value := l.map (Value.int .i64)
theorem intL_length (l : List Int) : (intL l).length = l.length := by unfold intL; simp
theorem infoI : (Try.prog.info? 3).map (fun i => (i.zero, i.size, i.bytes)) = some (some (.int .i64 0), 1, 8) := by kernel_rfl
/-- A row of numbers in the thing's own blocks. -/
structure OwnInts (w : World) (S : Nat → Prop) (D : Nat) (v : Value) (l : List Int) : Prop where
  at' : IntsAt w v l
  own : ∀ a bk off n cap, 0 < n → v = .slice a n cap → a = some ⟨bk, off, none⟩ → S bk ∧ bk ≠ D
  mx : l.length ≤ 65536
  nn : ∀ n cap, v = .slice none n cap → n = 0 ∧ cap = 0
theorem OwnInts.keep {w w' : World} {S : Nat → Prop} {D : Nat} {v : Value} {l : List Int} (h : OwnInts w S D v l) (hs : w.heap.size ≤ w'.heap.size) (hk : ∀ b, S b → b ≠ D → w'.heap[b]? = w.heap[b]?) : OwnInts w' S D v l := by
  refine ⟨?_, h.own, h.mx, h.nn⟩
  obtain ⟨a, cap, hv, hc, he⟩ := h.at'.ex
  refine ⟨⟨a, cap, hv, hc, ?_⟩, h.at'.lo, h.at'.mx⟩
  rcases he with h0 | ⟨bk, off, ha, hb, hx⟩
  · exact Or.inl h0
  · by_cases h0 : l.length = 0
    · exact Or.inl h0
    have hS := h.own a bk off _ cap (by omega) hv ha
    exact Or.inr ⟨bk, off, ha, Nat.lt_of_lt_of_le hb hs, fun j hj => (World.cell?_of_block (hk bk hS.1 hS.2)).trans (hx j hj)⟩
theorem OwnInts.grow {w : World} {S S' : Nat → Prop} {D : Nat} {v : Value} {l : List Int} (h : OwnInts w S D v l) (hs : ∀ b, S b → S' b) : OwnInts w S' D v l := ⟨h.at', fun a bk off n cap h0 e1 e2 => ⟨hs _ (h.own a bk off n cap h0 e1 e2).1, (h.own a bk off n cap h0 e1 e2).2⟩, h.mx, h.nn⟩
theorem OwnInts.form {w : World} {S : Nat → Prop} {D : Nat} {v : Value} {l : List Int} (h : OwnInts w S D v l) : ∃ a cap, v = .slice a l.length cap := by
  obtain ⟨a, cap, e, _⟩ := h.at'.ex
  exact ⟨a, cap, e⟩
/-- A row that was made behind a world. -/
theorem OwnInts.new {w' : World} {base D : Nat} {v : Value} {l : List Int} (h : w'.ownsRow base 3 1 v l.length (intL l)) (hD : D < base) (hlo : ∀ x ∈ l, -9223372036854775808 ≤ x ∧ x ≤ 9223372036854775807) (hl : l.length ≤ 65536) : OwnInts w' (fun b => base ≤ b ∧ b < w'.heap.size) D v l := by
  refine ⟨⟨?_, hlo, by unfold maxLen; omega⟩, ?_, hl, ?_⟩
  · rcases h.2 with ⟨rfl, h0⟩ | ⟨g, cap, cur, rfl, _, hg, hc, _, _, _⟩
    · exact ⟨none, 0, by rw [h0], by omega, Or.inl h0⟩
    · refine ⟨_, _, rfl, hc, Or.inr ⟨g, 0, rfl, lt_of_block hg, fun j hj => ?_⟩⟩
      have := World.ownsRow.cellAt h j (by omega)
      rw [Nat.zero_add, this]
      unfold intL
      rw [List.getElem?_map, List.getElem?_eq_getElem hj]
      rfl
  · intro a bk off n cap _ e1 e2
    subst e1 e2
    have := h.lt bk rfl
    exact ⟨this, by omega⟩
  · intro n cap e
    subst e
    rcases h.2 with ⟨e, _⟩ | ⟨g, cap', cur, e, _⟩
    · simp only [Value.slice.injEq] at e
      exact e.2
    · simp only [Value.slice.injEq] at e
      cases e.1
theorem OwnInts.news {w : World} {S : Nat → Prop} {D n cap : Nat} {x : Addr} {l : List Int} (h : OwnInts w S D (.slice (some x) n cap) l) : ∀ j u, (intL l)[j]? = some u → w.cell? (x.add j) = some u := by
  intro j u hu
  unfold intL at hu
  rw [List.getElem?_map] at hu
  obtain ⟨y, hy, rfl⟩ := Option.map_eq_some_iff.1 hu
  obtain ⟨hj, rfl⟩ := List.getElem?_eq_some_iff.1 hy
  obtain ⟨a, c, e, _, h0 | ⟨bk, off, ha, _, hx⟩⟩ := h.at'.ex
  · omega
  · simp only [Value.slice.injEq] at e
    rw [← e.1] at ha
    cases ha
    rw [Addr.add_mid]
    exact hx j hj
theorem one_intL (l : List Int) : ∀ u ∈ intL l, u.oneCell' = true := fun u hu => by
  unfold intL at hu
  obtain ⟨y, _, rfl⟩ := List.mem_map.1 hu
  rfl
/-- A mutex in block D: who holds it, who waits; 'S': the blocks that are its own. -/
structure MxAt (w : World) (base D : Nat) (S : Nat → Prop) (who : Int) (l : List Int) : Prop where
  ex : ∃ v, w.heap[D]? = some (.cells #[.int .i64 who, v] MT (0, 0)) ∧ OwnInts w S D v l
  sD : S D
  bd : ∀ b, S b → base ≤ b ∧ b < w.heap.size
section
variable {w w' : World} {base D : Nat} {S S' : Nat → Prop} {l l' : List Int} {who who' : Int}
theorem MxAt.keep (h : MxAt w base D S who l) (hs : w.heap.size ≤ w'.heap.size) (hk : ∀ b, S b → w'.heap[b]? = w.heap[b]?) : MxAt w' base D S who l := by
  obtain ⟨v, h1, h2⟩ := h.ex
  exact ⟨⟨v, (hk D h.sD).trans h1, h2.keep hs (fun b hb _ => hk b hb)⟩, h.sD, fun b hb => ⟨(h.bd b hb).1, Nat.lt_of_lt_of_le (h.bd b hb).2 hs⟩⟩
theorem MxAt.fresh (h : MxAt w base D S who l) (k : Below w.heap.size w w') : MxAt w' base D S who l := h.keep k.size (fun b hb => k.block b (h.bd b hb).2)
theorem MxAt.drew (h : MxAt w base D S who l) : MxAt w.drew base D S who l := h.keep (Nat.le_refl _) (fun _ _ => rfl)
theorem MxAt.base_le (h : MxAt w base D S who l) : base ≤ w.heap.size := by have := h.bd D h.sD; omega
theorem MxAt.below (h : MxAt w base D S who l) (k : Kept w w' S S') : Below base w w' := k.low h.base_le (fun b hb => (h.bd b hb).1)
/-- The holder is another one. -/
theorem MxAt.setWho (h : MxAt w base D S who l) (x : Int) : MxAt (w.setCell ⟨D, 0, none⟩ (.int .i64 x)) base D S x l ∧ Kept w (w.setCell ⟨D, 0, none⟩ (.int .i64 x)) S S := by
  obtain ⟨v, h1, h2⟩ := h.ex
  have ho : ∀ q, q ≠ D → (w.setCell ⟨D, 0, none⟩ (.int .i64 x)).heap[q]? = w.heap[q]? := fun q hq => heap_setCell_other _ _ _ _ (by simpa using hq)
  have h5 : (w.setCell ⟨D, 0, none⟩ (.int .i64 x)).heap[D]? = some (.cells #[.int .i64 x, v] MT (0, 0)) := by
    rw [heap_setCell_same w D 0 _ _ _ h1]
    rfl
  exact ⟨⟨⟨v, h5, h2.keep (by simp) (fun b _ hb => ho b hb)⟩, h.sD, fun b hb => ⟨(h.bd b hb).1, by simpa using (h.bd b hb).2⟩⟩, ⟨rfl, rfl, rfl, by simp, fun _ hs => Or.inl hs, fun b _ hs => ho b (fun e => hs (by rw [e]; exact h.sD))⟩⟩
/-- Those that wait are others, in a row of their own. -/
theorem MxAt.setL (h : MxAt w base D S who l) (b : Below w.heap.size w w') {v : Value} (hv : OwnInts w' S' D v l') (hS : ∀ b, S' b → (S b ∨ w.heap.size ≤ b) ∧ b < w'.heap.size) :
    MxAt (w'.setCell ⟨D, 1, none⟩ v) base D (fun b => b = D ∨ S' b) who l' ∧ Kept w (w'.setCell ⟨D, 1, none⟩ v) S (fun b => b = D ∨ S' b) := by
  obtain ⟨v0, h1, _⟩ := h.ex
  have hD := h.bd D h.sD
  have hbs := h.base_le
  have h1' := (b.block D hD.2).trans h1
  have ho : ∀ q, q ≠ D → (w'.setCell ⟨D, 1, none⟩ v).heap[q]? = w'.heap[q]? := fun q hq => heap_setCell_other _ _ _ _ (by simpa using hq)
  have h5 : (w'.setCell ⟨D, 1, none⟩ v).heap[D]? = some (.cells #[.int .i64 who, v] MT (0, 0)) := by
    rw [heap_setCell_same w' D 1 _ _ _ h1']
    rfl
  have hsz := b.size
  refine ⟨⟨⟨v, h5, (hv.keep (by simp) (fun b _ hb => ho b hb)).grow (fun b hb => Or.inr hb)⟩, Or.inl rfl, fun q hq => ?_⟩, ⟨b.os, b.tape, b.output, by simp; omega, fun q hq => ?_, fun q hq hn => ?_⟩⟩
  · rcases hq with rfl | hq
    · exact ⟨hD.1, by simp; omega⟩
    · obtain ⟨h6, h7⟩ := hS q hq
      refine ⟨?_, by simpa using h7⟩
      rcases h6 with h6 | h6
      · exact (h.bd q h6).1
      · omega
  · rcases hq with rfl | hq
    · exact Or.inl h.sD
    · exact (hS q hq).1
  · rw [ho q (fun e => hn (by rw [e]; exact h.sD)), b.block q hq]
/-- What a walk needs. -/
theorem MxAt.cells (h : MxAt w base D S who l) : ∃ a cap, w.heap[D]? = some (.cells #[.int .i64 who, .slice a l.length cap] MT (0, 0)) ∧ w.cell? ⟨D, 0, none⟩ = some (.int .i64 who) ∧ w.cell? ⟨D, 1, none⟩ = some (.slice a l.length cap) ∧ w.frozen? ⟨D, 0, none⟩ = false ∧ w.frozen? ⟨D, 1, none⟩ = false ∧ OwnInts w S D (.slice a l.length cap) l := by
  obtain ⟨v, h1, h2⟩ := h.ex
  obtain ⟨a, cap, rfl⟩ := h2.form
  exact ⟨a, cap, h1, by simp [World.cell?, h1], by simp [World.cell?, h1], by simp [World.frozen?, h1], by simp [World.frozen?, h1], h2⟩
end
theorem rmnew (w : World) : Calls Try.prog 9 #[] w fun e w' => e = .returned (.pointer (some ⟨w.heap.size, 0, none⟩)) ∧ MxAt w' w.heap.size w.heap.size (fun b => b = w.heap.size) (-1) [] ∧ Below w.heap.size w w' := by
  have H1 : Hid _ := heap_alloc_new w (.cells #[.int .i64 (-1), .slice none 0 0] MT)
  have B1 : Hid _ := (Below.refl _ w).alloc (Nat.le_refl _) (.cells #[.int .i64 (-1), .slice none 0 0] MT)
  go_enter Try.func9, Try.ntmps9
  go_wp2
  go_ret
  refine ⟨rfl, ⟨⟨_, H1.out, ⟨⟨none, 0, rfl, Nat.le_refl _, Or.inl rfl⟩, fun x hx => (by cases hx), Nat.zero_le _⟩, fun a bk off n cap h0 e1 _ => ?_, Nat.zero_le _, fun n cap e => ?_⟩, rfl, fun b hb => ⟨by omega, by simp; omega⟩⟩, B1.out⟩
  · simp only [Value.slice.injEq] at e1
    omega
  · simp only [Value.slice.injEq] at e
    omega
end Go.Proofs.Ytlcacjekpdmigaa
