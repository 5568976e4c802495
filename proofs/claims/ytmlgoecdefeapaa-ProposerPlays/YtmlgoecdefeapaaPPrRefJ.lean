/-
  The document's proposer in memory: a row appended to, a number written, all else as it was. No condition.
-/
import Derived.Test.YtmlgoecdefeapaaPPrRefI
namespace Go.Proofs.Ytmlgoecdefeapaa
open Go.RowKit

theorem appended_rest {base : Nat} {y W w6 : World} {a u6 : Value} (hW : Below y.heap.size y W) (a6 : Appended base W w6 a u6) : ∀ b, b < y.heap.size → a.ownBlock ≠ some b → w6.heap[b]? = y.heap[b]? := fun b hb hn => (a6.rest b (Nat.lt_of_lt_of_le hb hW.size) (fun e => hn e.symm)).trans (hW.block b hb)
theorem appended_lies {base : Nat} {y W w6 : World} {a u6 : Value} (hW : Below y.heap.size y W) (a6 : Appended base W w6 a u6) : ∀ g, u6.ownBlock = some g → a.ownBlock = some g ∨ y.heap.size ≤ g := fun g e => by
  rcases a6.lies with e2 | e2
  · exact Or.inl (e2.symm.trans e)
  · refine Or.inr ?_
    have e3 : some W.heap.size = some g := e2.symm.trans e
    have := hW.size
    have := Option.some.inj e3
    omega
section
variable {w w' : World} {base X : Nat} {S : Nat → Prop} {p : Pp} {a1 a2 a3 a4 : Value} {l : List Sv}
/-- A number of its own set. -/
theorem PrAt.num {p' : Pp} {i : Nat} {u : Value} (h : PrAt w base S X p a1 a2 a3 a4 l) (hw : p'.who = p.who) (hbe : p'.best = p.best) (hv : p'.vals = p.vals) (hl : p'.l = p.l) (hu : (prA p a1 a2 a3 a4).setIfInBounds i u = prA p' a1 a2 a3 a4) :
    PrAt (w.setCell ⟨X, i, none⟩ u) base S X p' a1 a2 a3 a4 l ∧ Kept w (w.setCell ⟨X, i, none⟩ u) S S := by
  have hs : ∀ g, g ≠ X → (w.setCell ⟨X, i, none⟩ u).heap[g]? = w.heap[g]? := fun g hg => heap_setCell_other _ _ _ _ hg
  refine ⟨⟨by rw [heap_setCell_same w X i _ _ _ h.blk, hu], ?_, ?_, ?_, own_keep h.o4 fun g e => hs g (fun e2 => h.n4 (by rw [e, e2])), h.sl.trans hl.symm, fun x hx => own_keep (h.ow x hx) fun g e => hs g (fun e2 => h.nw x hx (by rw [e, e2])), h.ap, h.a23, h.lo, h.set⟩, ⟨rfl, rfl, rfl, by simp, fun _ hg => Or.inl hg, fun g _ hn => hs g (fun e => hn (by rw [e]; exact (h.set X).2 (Or.inl rfl)))⟩⟩
  · rw [hw]; exact own_keep h.o1 fun g e => hs g (fun e2 => h.n1 (by rw [e, e2]))
  · rw [hbe]; exact own_keep h.o2 fun g e => hs g (fun e2 => h.n2 (by rw [e, e2]))
  · rw [hv]; exact own_keep h.o3 fun g e => hs g (fun e2 => h.n3 (by rw [e, e2]))
/-- The row of who promised turned or laid anew. -/
theorem PrAt.turn1 {p' : Pp} {v' : Value} (h : PrAt w base S X p a1 a2 a3 a4 l) (hbe : p'.best = p.best) (hv : p'.vals = p.vals) (hl : p'.l = p.l)
    (hb : w'.heap[X]? = some (.cells (prA p' v' a2 a3 a4) 44 (0, 0))) (ho : OwnNu w' base v' p'.who) (hf : w'.os = w.os ∧ w'.tape = w.tape ∧ w'.output = w.output ∧ w.heap.size ≤ w'.heap.size)
    (hls : ∀ g, v'.ownBlock = some g → a1.ownBlock = some g ∨ w.heap.size ≤ g) (hr : ∀ b, b < w.heap.size → b ≠ X → a1.ownBlock ≠ some b → w'.heap[b]? = w.heap[b]?) :
    ∃ S', PrAt w' base S' X p' v' a2 a3 a4 l ∧ Kept w w' S S' := by
  have haw := (List.pairwise_cons.1 h.ap).1
  have k2 : ∀ g, a2.ownBlock = some g → w'.heap[g]? = w.heap[g]? := fun g e => hr g (h.o2.lt g e).2 (fun e1 => h.n2 (by rw [e, e1])) (fun e1 => own_apart h.o2 h.o1 (by decide) g e e1)
  have k3 : ∀ g, a3.ownBlock = some g → w'.heap[g]? = w.heap[g]? := fun g e => hr g (h.o3.lt g e).2 (fun e1 => h.n3 (by rw [e, e1])) (fun e1 => own_apart h.o3 h.o1 (by decide) g e e1)
  have k4 : ∀ g, a4.ownBlock = some g → w'.heap[g]? = w.heap[g]? := fun g e => hr g (h.o4.lt g e).2 (fun e1 => h.n4 (by rw [e, e1])) (fun e1 => own_apart h.o4 h.o1 (by decide) g e e1)
  have k5 : ∀ x ∈ l, ∀ g, (svW x).ownBlock = some g → w'.heap[g]? = w.heap[g]? := fun x hx g e => hr g ((h.ow x hx).lt g e).2 (fun e1 => h.nw x hx (by rw [e, e1])) (fun e1 => haw _ (List.mem_map.2 ⟨x, hx, rfl⟩) g e1 e)
  refine ⟨fun b => b = X ∨ v'.ownBlock = some b ∨ a2.ownBlock = some b ∨ a3.ownBlock = some b ∨ a4.ownBlock = some b ∨ ∃ x ∈ l, (svW x).ownBlock = some b, ⟨hb, ho, ?_, ?_, own_keep h.o4 k4, h.sl.trans hl.symm, fun x hx => own_keep (h.ow x hx) (k5 x hx), List.pairwise_cons.2 ⟨fun b hb g e e2 => ?_, (List.pairwise_cons.1 h.ap).2⟩, h.a23, h.lo, fun _ => Iff.rfl⟩, ⟨hf.1, hf.2.1, hf.2.2.1, hf.2.2.2, fun b hb => ?_, fun b hb hn => hr b hb (fun e => hn ((h.set b).2 (Or.inl e))) (fun e => hn ((h.set b).2 (Or.inr (Or.inl e))))⟩⟩
  · rw [hbe]; exact own_keep h.o2 k2
  · rw [hv]; exact own_keep h.o3 k3
  · obtain ⟨x, hx, rfl⟩ := List.mem_map.1 hb
    rcases hls g e with h1 | h1
    · exact haw _ (List.mem_map.2 ⟨x, hx, rfl⟩) g h1 e2
    · have := ((h.ow x hx).lt g e2).2
      omega
  · rcases hb with e | e | e
    · exact Or.inl ((h.set b).2 (Or.inl e))
    · rcases hls b e with h1 | h1
      · exact Or.inl ((h.set b).2 (Or.inr (Or.inl h1)))
      · exact Or.inr h1
    · exact Or.inl ((h.set b).2 (Or.inr (Or.inr e)))
/-- The row of the values turned or laid anew. -/
theorem PrAt.turn3 {p' : Pp} {v' : Value} (h : PrAt w base S X p a1 a2 a3 a4 l) (hw : p'.who = p.who) (hbe : p'.best = p.best) (hl : p'.l = p.l)
    (hb : w'.heap[X]? = some (.cells (prA p' a1 a2 v' a4) 44 (0, 0))) (ho : OwnEn w' base v' p'.vals) (hf : w'.os = w.os ∧ w'.tape = w.tape ∧ w'.output = w.output ∧ w.heap.size ≤ w'.heap.size)
    (hls : ∀ g, v'.ownBlock = some g → a3.ownBlock = some g ∨ w.heap.size ≤ g) (hr : ∀ b, b < w.heap.size → b ≠ X → a3.ownBlock ≠ some b → w'.heap[b]? = w.heap[b]?) :
    ∃ S', PrAt w' base S' X p' a1 a2 v' a4 l ∧ Kept w w' S S' := by
  have k1 : ∀ g, a1.ownBlock = some g → w'.heap[g]? = w.heap[g]? := fun g e => hr g (h.o1.lt g e).2 (fun e1 => h.n1 (by rw [e, e1])) (fun e1 => own_apart h.o1 h.o3 (by decide) g e e1)
  have k2 : ∀ g, a2.ownBlock = some g → w'.heap[g]? = w.heap[g]? := fun g e => hr g (h.o2.lt g e).2 (fun e1 => h.n2 (by rw [e, e1])) (fun e1 => h.a23 g e e1)
  have k4 : ∀ g, a4.ownBlock = some g → w'.heap[g]? = w.heap[g]? := fun g e => hr g (h.o4.lt g e).2 (fun e1 => h.n4 (by rw [e, e1])) (fun e1 => own_apart h.o4 h.o3 (by decide) g e e1)
  have k5 : ∀ x ∈ l, ∀ g, (svW x).ownBlock = some g → w'.heap[g]? = w.heap[g]? := fun x hx g e => hr g ((h.ow x hx).lt g e).2 (fun e1 => h.nw x hx (by rw [e, e1])) (fun e1 => own_apart (h.ow x hx) h.o3 (by decide) g e e1)
  refine ⟨fun b => b = X ∨ a1.ownBlock = some b ∨ a2.ownBlock = some b ∨ v'.ownBlock = some b ∨ a4.ownBlock = some b ∨ ∃ x ∈ l, (svW x).ownBlock = some b, ⟨hb, ?_, ?_, ho, own_keep h.o4 k4, h.sl.trans hl.symm, fun x hx => own_keep (h.ow x hx) (k5 x hx), h.ap, fun g e e3 => ?_, h.lo, fun _ => Iff.rfl⟩, ⟨hf.1, hf.2.1, hf.2.2.1, hf.2.2.2, fun b hb => ?_, fun b hb hn => hr b hb (fun e => hn ((h.set b).2 (Or.inl e))) (fun e => hn ((h.set b).2 (Or.inr (Or.inr (Or.inr (Or.inl e))))))⟩⟩
  · rw [hw]; exact own_keep h.o1 k1
  · rw [hbe]; exact own_keep h.o2 k2
  · rcases hls g e3 with h1 | h1
    · exact h.a23 g e h1
    · have := (h.o2.lt g e).2
      omega
  · rcases hb with e | e | e | e | e
    · exact Or.inl ((h.set b).2 (Or.inl e))
    · exact Or.inl ((h.set b).2 (Or.inr (Or.inl e)))
    · exact Or.inl ((h.set b).2 (Or.inr (Or.inr (Or.inl e))))
    · rcases hls b e with h1 | h1
      · exact Or.inl ((h.set b).2 (Or.inr (Or.inr (Or.inr (Or.inl h1)))))
      · exact Or.inr h1
    · exact Or.inl ((h.set b).2 (Or.inr (Or.inr (Or.inr (Or.inr e)))))
/-- What an append leaves to be stored: the cell as it was, the proposer behind the store. -/
structure StoreTo (w w6 : World) (base X i : Nat) (S : Nat → Prop) (old u : Value) (P : World → (Nat → Prop) → Prop) : Prop where
  ex : w6.cell? ⟨X, i, none⟩ = some old ∧ w6.frozen? ⟨X, i, none⟩ = false ∧ (∀ b, b < w.heap.size → old.ownBlock ≠ some b → w6.heap[b]? = w.heap[b]?) ∧ ∃ W7, w6.setCell ⟨X, i, none⟩ u = W7 ∧ (∀ b, b < w.heap.size → b ≠ X → old.ownBlock ≠ some b → W7.heap[b]? = w.heap[b]?) ∧ ∃ S', Hid (P W7 S') ∧ Hid (Kept w W7 S S')
def whoP (p : Pp) (l : List Int) : Pp := ⟨p.n, p.b, p.f, l, p.best, p.is, p.vals, p.next, p.l⟩
def valsP (p : Pp) (l : List En) : Pp := ⟨p.n, p.b, p.f, p.who, p.best, p.is, l, p.next, p.l⟩
def slP (p : Pp) (l : List Sl) : Pp := ⟨p.n, p.b, p.f, p.who, p.best, p.is, p.vals, p.next, l⟩
def isP (p : Pp) : Pp := ⟨p.n, p.b, p.f, p.who, p.best, true, p.vals, p.next, p.l⟩
def nextP (p : Pp) (n : Int) : Pp := ⟨p.n, p.b, p.f, p.who, p.best, p.is, p.vals, n, p.l⟩
theorem PrAt.cell (h : PrAt w base S X p a1 a2 a3 a4 l) (i : Nat) (u : Value) (hu : (prA p a1 a2 a3 a4)[i]? = some u) : w.cell? ⟨X, i, none⟩ = some u := by
  simp only [World.cell?, h.blk]
  simpa using hu
theorem PrAt.fz (h : PrAt w base S X p a1 a2 a3 a4 l) (i : Nat) : w.frozen? ⟨X, i, none⟩ = false := by simp [World.frozen?, h.blk]
theorem PrAt.drew (h : PrAt w base S X p a1 a2 a3 a4 l) : PrAt w.drew base S X p a1 a2 a3 a4 l := h.keep fun _ _ => rfl
theorem cell_at {y w : World} {b i : Nat} {u : Value} (h : y.heap[b]? = w.heap[b]?) (c : w.cell? ⟨b, i, none⟩ = some u) : y.cell? ⟨b, i, none⟩ = some u := by
  rw [← c]
  unfold World.cell?
  rw [show y.heap[(⟨b, i, none⟩ : Addr).block]? = w.heap[(⟨b, i, none⟩ : Addr).block]? from h]
theorem PrAt.app1 {W w6 : World} {u6 : Value} (h : PrAt w base S X p a1 a2 a3 a4 l) (n : Int) (hW : Below w.heap.size w W) (o6 : w6.ownsRow base 3 1 u6 (p.who.length + [n].length) (rowL nuC p.who ++ rowL nuC [n])) (a6 : Appended base W w6 a1 u6) :
    StoreTo w w6 base X 3 S a1 u6 (fun W7 S' => PrAt W7 base S' X (whoP p (p.who ++ [n])) u6 a2 a3 a4 l) := by
  have fr := appended_rest hW a6
  have bX := (fr X (lt_of_block h.blk) h.n1).trans h.blk
  have o6' : OwnNu w6 base u6 (p.who ++ [n]) := by
    show w6.ownsRow _ _ _ _ (p.who ++ [n]).length (rowL nuC (p.who ++ [n]))
    rw [List.length_append, rowL_append]
    exact o6
  have nX : u6.ownBlock ≠ some X := own_ne o6' bX (by decide)
  have hs : ∀ g, g ≠ X → (w6.setCell ⟨X, 3, none⟩ u6).heap[g]? = w6.heap[g]? := fun g hg => heap_setCell_other _ _ _ _ hg
  obtain ⟨S', q1, q2⟩ := h.turn1 (p' := whoP p (p.who ++ [n])) (v' := u6) (w' := w6.setCell ⟨X, 3, none⟩ u6) rfl rfl rfl (by rw [heap_setCell_same w6 X 3 _ _ _ bX]; rfl) (own_keep o6' fun g e => hs g (fun e2 => nX (by rw [e, e2]))) ⟨a6.below.os.trans hW.os, a6.below.tape.trans hW.tape, a6.below.output.trans hW.output, by simp; exact Nat.le_trans hW.size a6.below.size⟩ (appended_lies hW a6) (fun b hb h1 h2 => (hs b h1).trans (fr b hb h2))
  exact ⟨by simp [World.cell?, bX], by simp [World.frozen?, bX], fr, _, rfl, fun b hb h1 h2 => (hs b h1).trans (fr b hb h2), S', q1, q2⟩
theorem PrAt.app3 {W w6 : World} {u6 : Value} (h : PrAt w base S X p a1 a2 a3 a4 l) (e : En) (hW : Below w.heap.size w W) (o6 : w6.ownsRow base 38 7 u6 (p.vals.length + [e].length) (rowL enC p.vals ++ rowL enC [e])) (a6 : Appended base W w6 a3 u6) :
    StoreTo w w6 base X 6 S a3 u6 (fun W7 S' => PrAt W7 base S' X (valsP p (p.vals ++ [e])) a1 a2 u6 a4 l) := by
  have fr := appended_rest hW a6
  have bX := (fr X (lt_of_block h.blk) h.n3).trans h.blk
  have o6' : OwnEn w6 base u6 (p.vals ++ [e]) := by
    show w6.ownsRow _ _ _ _ (p.vals ++ [e]).length (rowL enC (p.vals ++ [e]))
    rw [List.length_append, rowL_append]
    exact o6
  have nX : u6.ownBlock ≠ some X := own_ne o6' bX (by decide)
  have hs : ∀ g, g ≠ X → (w6.setCell ⟨X, 6, none⟩ u6).heap[g]? = w6.heap[g]? := fun g hg => heap_setCell_other _ _ _ _ hg
  obtain ⟨S', q1, q2⟩ := h.turn3 (p' := valsP p (p.vals ++ [e])) (v' := u6) (w' := w6.setCell ⟨X, 6, none⟩ u6) rfl rfl rfl (by rw [heap_setCell_same w6 X 6 _ _ _ bX]; rfl) (own_keep o6' fun g e => hs g (fun e2 => nX (by rw [e, e2]))) ⟨a6.below.os.trans hW.os, a6.below.tape.trans hW.tape, a6.below.output.trans hW.output, by simp; exact Nat.le_trans hW.size a6.below.size⟩ (appended_lies hW a6) (fun b hb h1 h2 => (hs b h1).trans (fr b hb h2))
  exact ⟨by simp [World.cell?, bX], by simp [World.frozen?, bX], fr, _, rfl, fun b hb h1 h2 => (hs b h1).trans (fr b hb h2), S', q1, q2⟩
theorem PrAt.app4 {W w6 : World} {u6 : Value} (h : PrAt w base S X p a1 a2 a3 a4 l) (e : En) (hW : Below w.heap.size w W) (o6 : w6.ownsRow base 69 9 u6 (l.length + [((slOf e, none, 0, 0) : Sv)].length) (rowL svC l ++ rowL svC [((slOf e, none, 0, 0) : Sv)])) (a6 : Appended base W w6 a4 u6) :
    StoreTo w w6 base X 8 S a4 u6 (fun W7 S' => PrAt W7 base S' X (slP p (p.l ++ [slOf e])) a1 a2 a3 u6 (l ++ [(slOf e, none, 0, 0)])) := by
  have fr := appended_rest hW a6
  have bX := (fr X (lt_of_block h.blk) h.n4).trans h.blk
  have o6' : OwnSv w6 base u6 (l ++ [(slOf e, none, 0, 0)]) := by
    show w6.ownsRow _ _ _ _ (l ++ [((slOf e, none, 0, 0) : Sv)]).length (rowL svC (l ++ [((slOf e, none, 0, 0) : Sv)]))
    rw [List.length_append, rowL_append]
    exact o6
  have nX : u6.ownBlock ≠ some X := own_ne o6' bX (by decide)
  have hs : ∀ g, g ≠ X → (w6.setCell ⟨X, 8, none⟩ u6).heap[g]? = w6.heap[g]? := fun g hg => heap_setCell_other _ _ _ _ hg
  have q := h.turn4 (p' := slP p (p.l ++ [slOf e])) (v' := u6) (w' := w6.setCell ⟨X, 8, none⟩ u6) (l' := l ++ [(slOf e, none, 0, 0)]) rfl rfl rfl (by rw [heap_setCell_same w6 X 8 _ _ _ bX]; rfl) (own_keep o6' fun g e => hs g (fun e2 => nX (by rw [e, e2]))) ⟨a6.below.os.trans hW.os, a6.below.tape.trans hW.tape, a6.below.output.trans hW.output, by simp; exact Nat.le_trans hW.size a6.below.size⟩ (appended_lies hW a6) (fun b hb h1 h2 => (hs b h1).trans (fr b hb h2)) (by
      show _ = p.l ++ [slOf e]
      rw [List.map_append, h.sl]
      rfl) (fun x hx => by
      rcases List.mem_append.1 hx with h1 | h1
      · exact Or.inl h1
      · rw [List.mem_singleton.1 h1]
        exact Or.inr ⟨rfl, rfl⟩) (by
      rw [List.map_append, ← List.cons_append]
      refine List.pairwise_append.2 ⟨h.ap, List.pairwise_singleton _ _, fun a _ b hb g _ => ?_⟩
      rw [List.mem_singleton.1 hb]
      simp [svW, Value.ownBlock])
  exact ⟨by simp [World.cell?, bX], by simp [World.frozen?, bX], fr, _, rfl, fun b hb h1 h2 => (hs b h1).trans (fr b hb h2), _, q.1, q.2⟩
end
/-- Meanwhile: the proposer as it is, wherever its rows lie. -/
structure PrI (w wr : World) (base X : Nat) (S : Nat → Prop) (p : Pp) : Prop where
  ex : ∃ S' a1 a2 a3 a4 l, PrAt wr base S' X p a1 a2 a3 a4 l ∧ Kept w wr S S'
theorem PrI.post {w wr : World} {base X : Nat} {S : Nat → Prop} {p : Pp} {u : Value} (h : PrI w wr base X S p) : PrPost w base S X p u (.returned u) wr := by
  obtain ⟨S', a1, a2, a3, a4, l, h1, h2⟩ := h.ex
  exact ⟨S', rfl, ⟨_, _, _, _, _, h1⟩, h2⟩
theorem Kept.drew {w wr : World} {S S' : Nat → Prop} (k : Kept w wr S S') : Kept w wr.drew S S' := k.trans (Kept.of (undrew (Below.refl _ _)))
end Go.Proofs.Ytmlgoecdefeapaa
