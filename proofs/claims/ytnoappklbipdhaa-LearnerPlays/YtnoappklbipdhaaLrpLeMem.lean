/-
  The program's learner in memory: its block, its map of entries by slots, its row of slots that wait. No condition.
-/
import Derived.Test.YtnoappklbipdhaaLrpGMapR
import Derived.Test.YtnoappklbipdhaaLrpGCopy
import Derived.Test.YtnoappklbipdhaaLrpPackA
import Derived.Test.YtnoappklbipdhaaLrpPackD
import Derived.Test.YtnoappklbipdhaaLrpLeHeap
namespace Go.Proofs.Ytnoappklbipdhaa
open Go.RowKit

def inI (n : Int) : Prop := -9223372036854775808 ≤ n ∧ n ≤ 9223372036854775807
theorem keyIp : Maps.Keyed Try.prog 3 := Maps.int_keyed Try.underlying3
theorem keyIp_of {n : Int} (h : inI n) : keyOf Try.prog 3 (.int .i64 n) = some (.int .i64 n) := Maps.keyOf_int_mk Try.underlying3 (by
  obtain ⟨h1, h2⟩ := h
  simp [Lit.wf, IntKind.min, IntKind.max, IntKind.signed, IntKind.bits]
  omega)
theorem intV_inj : ∀ a b : Int, Value.int .i64 a = Value.int .i64 b → a = b := fun a b h => by injection h
/-- The entries by slots. -/
abbrev mKn : MapOf Int En := ⟨50, 3, 30, fun n => .int .i64 n, fun e => .agg (enA e), inI, .agg (enA En.zero)⟩
theorem mKn_is : mKn.Is := ⟨Try.underlying50, keyIp, fun _ h => ⟨_, keyIp_of h⟩, intV_inj, fun w => by kernel_rfl⟩
/-- The slots that wait. -/
abbrev OwnI (w : World) (base : Nat) (v : Value) (hs : List Int) : Prop := w.ownsRow base 3 1 v hs.length (intL hs)
abbrev lrA (A F : Int) (mb : Nat) (v : Value) : Array Value := #[.int .i64 A, .int .i64 F, .map (some mb), v]
/-- Its row of slots that wait, the map left aside: what package heap turns. -/
structure HpAt (w : World) (base X : Nat) (S : Nat → Prop) (A F : Int) (l : List (Int × En)) (hs : List Int) (mb : Nat) (v : Value) : Prop where
  blk : w.heap[X]? = some (.cells (lrA A F mb v) 53 (0, 0))
  own : OwnI w base v hs
  lo : ∀ g, S g → base ≤ g
  set : ∀ g, S g ↔ g = X ∨ v.ownBlock = some g
section
variable {w w' : World} {base X : Nat} {S : Nat → Prop} {A F : Int} {l : List (Int × En)} {hs : List Int} {mb : Nat} {v : Value}
theorem HpAt.inX (h : HpAt w base X S A F l hs mb v) : S X := (h.set X).2 (Or.inl rfl)
theorem HpAt.inV (h : HpAt w base X S A F l hs mb v) {g : Nat} (e : v.ownBlock = some g) : S g := (h.set g).2 (Or.inr e)
theorem HpAt.bd (h : HpAt w base X S A F l hs mb v) : ∀ g, S g → g < w.heap.size := fun g hg => by
  rcases (h.set g).1 hg with rfl | e
  · exact lt_of_block h.blk
  · exact (h.own.lt g e).2
theorem HpAt.neVX (h : HpAt w base X S A F l hs mb v) : v.ownBlock ≠ some X := own_ne h.own h.blk (by decide)
theorem HpAt.keep (h : HpAt w base X S A F l hs mb v) (hk : ∀ g, S g → w'.heap[g]? = w.heap[g]?) : HpAt w' base X S A F l hs mb v :=
  ⟨(hk X h.inX).trans h.blk, own_keep h.own fun g e => hk g (h.inV e), h.lo, h.set⟩
theorem HpAt.fresh (h : HpAt w base X S A F l hs mb v) (k : Below w.heap.size w w') : HpAt w' base X S A F l hs mb v := h.keep fun g hg => k.block g (h.bd g hg)
theorem HpAt.drew (h : HpAt w base X S A F l hs mb v) : HpAt w.drew base X S A F l hs mb v := h.keep fun _ _ => rfl
theorem HpAt.cell (h : HpAt w base X S A F l hs mb v) (i : Nat) (u : Value) (hu : (lrA A F mb v)[i]? = some u) : w.cell? ⟨X, i, none⟩ = some u := by
  simp only [World.cell?, h.blk]
  simpa using hu
theorem HpAt.fz (h : HpAt w base X S A F l hs mb v) (i : Nat) : w.frozen? ⟨X, i, none⟩ = false := by simp [World.frozen?, h.blk]
theorem HpAt.form (h : HpAt w base X S A F l hs mb v) : ∃ a c, v = .slice a hs.length c := by
  rcases h.own.2 with ⟨rfl, e0⟩ | ⟨g, c, cur, rfl, _⟩
  · exact ⟨_, _, by rw [e0]⟩
  · exact ⟨_, _, rfl⟩
/-- Where it holds some: in a block of its own. -/
theorem HpAt.some_form (h : HpAt w base X S A F l hs mb v) (h0 : 0 < hs.length) : ∃ g c, v = .slice (some ⟨g, 0, none⟩) hs.length c ∧ S g ∧ hs.length ≤ c ∧ (∀ k, k < hs.length → w.cell? ⟨g, k, none⟩ = some (.int .i64 (atI hs k))) ∧ (∀ k, w.frozen? ⟨g, k, none⟩ = false) := by
  rcases h.own.2 with ⟨rfl, e0⟩ | ⟨g, c, cur, rfl, h2, h3, h4, h5, h6, h7⟩
  · omega
  · refine ⟨g, c, rfl, h.inV rfl, h4, fun k hk => ?_, fun k => by simp [World.frozen?, h3]⟩
    have hx := h.own.cells (g := g) rfl k (.int .i64 (atI hs k)) (by
      unfold intL
      rw [List.getElem?_map, List.getElem?_eq_getElem hk, atI_get hk]
      rfl)
    have e : (⟨g, 0, none⟩ : Addr).add k = ⟨g, k, none⟩ := by unfold Addr.add; split <;> simp_all
    rwa [e] at hx
theorem HpAt.keptX (h : HpAt w base X S A F l hs mb v) (i : Nat) (u : Value) : Kept w (w.setCell ⟨X, i, none⟩ u) S S :=
  ⟨rfl, rfl, rfl, by simp, fun _ hg => Or.inl hg, fun g _ hn => heap_setCell_other _ _ _ _ (fun e => hn (by rw [e]; exact h.inX))⟩
theorem HpAt.setA (h : HpAt w base X S A F l hs mb v) (a : Int) : HpAt (w.setCell ⟨X, 0, none⟩ (.int .i64 a)) base X S a F l hs mb v := by
  have hk : ∀ g, g ≠ X → (w.setCell ⟨X, 0, none⟩ (.int .i64 a)).heap[g]? = w.heap[g]? := fun g hg => heap_setCell_other _ _ _ _ hg
  refine ⟨?_, own_keep h.own fun g e => hk g (fun e2 => h.neVX (by rw [e, e2])), h.lo, h.set⟩
  rw [heap_setCell_same w X 0 _ _ _ h.blk]
  rfl
/-- Two of the slots that wait exchanged. -/
theorem HpAt.swap {c g : Nat} (h : HpAt w base X S A F l hs mb (.slice (some ⟨g, 0, none⟩) hs.length c)) (i j : Nat) :
    HpAt ((w.setCell ⟨g, i, none⟩ (.int .i64 (atI hs j))).setCell ⟨g, j, none⟩ (.int .i64 (atI hs i))) base X S A F l (swI hs i j) mb (.slice (some ⟨g, 0, none⟩) hs.length c) ∧
    Kept w ((w.setCell ⟨g, i, none⟩ (.int .i64 (atI hs j))).setCell ⟨g, j, none⟩ (.int .i64 (atI hs i))) S S := by
  have hg := h.inV (g := g) rfl
  have hk : ∀ b, b ≠ g → ((w.setCell ⟨g, i, none⟩ (.int .i64 (atI hs j))).setCell ⟨g, j, none⟩ (.int .i64 (atI hs i))).heap[b]? = w.heap[b]? := fun b hb => (heap_setCell_other _ _ _ _ hb).trans (heap_setCell_other _ _ _ _ hb)
  have o1 := own_cell (own_cell h.own i (.int .i64 (atI hs j))) j (.int .i64 (atI hs i))
  refine ⟨⟨(hk X (fun e => h.neVX (by rw [← e]; rfl))).trans h.blk, ?_, h.lo, h.set⟩, rfl, rfl, rfl, by simp, fun _ hb => Or.inl hb, fun b _ hn => hk b (fun e => hn (by rw [e]; exact hg))⟩
  show World.ownsRow _ _ _ _ _ _ _
  rw [swI_len]
  have e : intL (swI hs i j) = ((intL hs).set i (.int .i64 (atI hs j))).set j (.int .i64 (atI hs i)) := by
    unfold intL swI
    rw [List.map_set, List.map_set]
  rw [e]
  exact o1
/-- The last one cut off. -/
theorem HpAt.cut {c g n : Nat} (h : HpAt w base X S A F l hs mb (.slice (some ⟨g, 0, none⟩) hs.length c)) (hn : n ≤ hs.length) :
    HpAt (w.setCell ⟨X, 3, none⟩ (.slice (some ⟨g, 0, none⟩) n c)) base X S A F l (hs.take n) mb (.slice (some ⟨g, 0, none⟩) n c) := by
  have hk : ∀ b, b ≠ X → (w.setCell ⟨X, 3, none⟩ (.slice (some ⟨g, 0, none⟩) n c)).heap[b]? = w.heap[b]? := fun b hb => heap_setCell_other _ _ _ _ hb
  have o1 := own_front h.own n hn
  have hl : (hs.take n).length = n := by rw [List.length_take]; omega
  refine ⟨?_, ?_, h.lo, h.set⟩
  · rw [heap_setCell_same w X 3 _ _ _ h.blk]
    rfl
  · show World.ownsRow _ _ _ _ _ _ _
    rw [hl]
    refine own_keep (w := w) ?_ fun b e => hk b (fun e2 => h.neVX (by rw [← e2]; exact e))
    have e : intL (hs.take n) = (intL hs).take (n * 1) := by unfold intL; rw [List.map_take, Nat.mul_one]
    rw [e]
    exact o1
/-- The row of those that wait laid anew. -/
theorem HpAt.setV (h : HpAt w base X S A F l hs mb v) {v' : Value} {hs' : List Int} (hX : w'.heap[X]? = some (.cells (lrA A F mb v') 53 (0, 0))) (ho : OwnI w' base v' hs') :
    HpAt w' base X (fun g => g = X ∨ v'.ownBlock = some g) A F l hs' mb v' := by
  refine ⟨hX, ho, fun g hg => ?_, fun _ => Iff.rfl⟩
  rcases hg with rfl | e
  · exact h.lo _ h.inX
  · exact (ho.lt g e).1
end
/-- The learner. -/
structure LrAt (w : World) (base X : Nat) (S : Nat → Prop) (A F : Int) (l : List (Int × En)) (hs : List Int) (mb : Nat) (v : Value) : Prop where
  blk : w.heap[X]? = some (.cells (lrA A F mb v) 53 (0, 0))
  map : mKn.At w mb l
  own : OwnI w base v hs
  lo : ∀ g, S g → base ≤ g
  set : ∀ g, S g ↔ g = X ∨ v.ownBlock = some g ∨ g = mb
section
variable {w w' : World} {base X : Nat} {S : Nat → Prop} {A F : Int} {l : List (Int × En)} {hs : List Int} {mb : Nat} {v : Value}
theorem LrAt.inX (h : LrAt w base X S A F l hs mb v) : S X := (h.set X).2 (Or.inl rfl)
theorem LrAt.inM (h : LrAt w base X S A F l hs mb v) : S mb := (h.set mb).2 (Or.inr (Or.inr rfl))
theorem LrAt.inV (h : LrAt w base X S A F l hs mb v) {g : Nat} (e : v.ownBlock = some g) : S g := (h.set g).2 (Or.inr (Or.inl e))
theorem LrAt.bd (h : LrAt w base X S A F l hs mb v) : ∀ g, S g → g < w.heap.size := fun g hg => by
  rcases (h.set g).1 hg with rfl | e | rfl
  · exact lt_of_block h.blk
  · exact (h.own.lt g e).2
  · exact h.map.lt
theorem LrAt.neX (h : LrAt w base X S A F l hs mb v) : mb ≠ X := h.map.ne h.blk
theorem LrAt.neV (h : LrAt w base X S A F l hs mb v) : v.ownBlock ≠ some mb := fun e => by
  rcases h.own.2 with ⟨e1, _⟩ | ⟨g', cap, cur, e1, _, hb', _⟩
  · rw [e1] at e; simp [Value.ownBlock] at e
  · rw [e1] at e
    simp only [Value.ownBlock, Option.some.injEq] at e
    exact h.map.ne hb' e.symm
theorem LrAt.neVX (h : LrAt w base X S A F l hs mb v) : v.ownBlock ≠ some X := own_ne h.own h.blk (by decide)
theorem LrAt.keep (h : LrAt w base X S A F l hs mb v) (hk : ∀ g, S g → w'.heap[g]? = w.heap[g]?) : LrAt w' base X S A F l hs mb v :=
  ⟨(hk X h.inX).trans h.blk, h.map.keep (hk mb h.inM), own_keep h.own fun g e => hk g (h.inV e), h.lo, h.set⟩
theorem LrAt.fresh (h : LrAt w base X S A F l hs mb v) (k : Below w.heap.size w w') : LrAt w' base X S A F l hs mb v := h.keep fun g hg => k.block g (h.bd g hg)
theorem LrAt.drew (h : LrAt w base X S A F l hs mb v) : LrAt w.drew base X S A F l hs mb v := h.keep fun _ _ => rfl
theorem LrAt.cell (h : LrAt w base X S A F l hs mb v) (i : Nat) (u : Value) (hu : (lrA A F mb v)[i]? = some u) : w.cell? ⟨X, i, none⟩ = some u := by
  simp only [World.cell?, h.blk]
  simpa using hu
theorem LrAt.fz (h : LrAt w base X S A F l hs mb v) (i : Nat) : w.frozen? ⟨X, i, none⟩ = false := by simp [World.frozen?, h.blk]
theorem LrAt.form (h : LrAt w base X S A F l hs mb v) : ∃ a c, v = .slice a hs.length c := by
  rcases h.own.2 with ⟨rfl, e0⟩ | ⟨g, c, cur, rfl, _⟩
  · exact ⟨_, _, by rw [e0]⟩
  · exact ⟨_, _, rfl⟩
theorem LrAt.keptX (h : LrAt w base X S A F l hs mb v) (i : Nat) (u : Value) : Kept w (w.setCell ⟨X, i, none⟩ u) S S :=
  ⟨rfl, rfl, rfl, by simp, fun _ hg => Or.inl hg, fun g _ hn => heap_setCell_other _ _ _ _ (fun e => hn (by rw [e]; exact h.inX))⟩
/-- What is applied, what is forgotten. -/
theorem LrAt.setA (h : LrAt w base X S A F l hs mb v) (a : Int) : LrAt (w.setCell ⟨X, 0, none⟩ (.int .i64 a)) base X S a F l hs mb v := by
  have hk : ∀ g, g ≠ X → (w.setCell ⟨X, 0, none⟩ (.int .i64 a)).heap[g]? = w.heap[g]? := fun g hg => heap_setCell_other _ _ _ _ hg
  refine ⟨?_, h.map.keep (hk mb h.neX), own_keep h.own fun g e => hk g (fun e2 => h.neVX (by rw [e, e2])), h.lo, h.set⟩
  rw [heap_setCell_same w X 0 _ _ _ h.blk]
  rfl
theorem LrAt.setF (h : LrAt w base X S A F l hs mb v) (a : Int) : LrAt (w.setCell ⟨X, 1, none⟩ (.int .i64 a)) base X S A a l hs mb v := by
  have hk : ∀ g, g ≠ X → (w.setCell ⟨X, 1, none⟩ (.int .i64 a)).heap[g]? = w.heap[g]? := fun g hg => heap_setCell_other _ _ _ _ hg
  refine ⟨?_, h.map.keep (hk mb h.neX), own_keep h.own fun g e => hk g (fun e2 => h.neVX (by rw [e, e2])), h.lo, h.set⟩
  rw [heap_setCell_same w X 1 _ _ _ h.blk]
  rfl
/-- The map written. -/
theorem LrAt.setM (h : LrAt w base X S A F l hs mb v) {l' : List (Int × En)} (hb : mKn.At w' mb l') (gr : w.grownBy w' (some mb)) :
    LrAt w' base X S A F l' hs mb v ∧ Kept w w' S S := by
  have hk : ∀ g, S g → g ≠ mb → w'.heap[g]? = w.heap[g]? := fun g hg hn => gr.block g (h.bd g hg) (fun e => hn (Option.some.inj e))
  refine ⟨⟨(hk X h.inX (fun e => h.neX e.symm)).trans h.blk, hb, own_keep h.own fun g e => hk g (h.inV e) (fun e2 => h.neV (by rw [e, e2])), h.lo, h.set⟩, gr.os, gr.tape, gr.output, gr.size, fun _ hg => Or.inl hg, fun g hg hn => gr.block g hg (fun e => hn (by rw [Option.some.inj e]; exact h.inM))⟩
/-- The learner and its row. -/
theorem LrAt.hp (h : LrAt w base X S A F l hs mb v) : HpAt w base X (fun g => S g ∧ g ≠ mb) A F l hs mb v := by
  refine ⟨h.blk, h.own, fun g hg => h.lo g hg.1, fun g => ⟨fun hg => ?_, fun hg => ?_⟩⟩
  · rcases (h.set g).1 hg.1 with e | e | e
    · exact Or.inl e
    · exact Or.inr e
    · exact absurd e hg.2
  · rcases hg with rfl | e
    · exact ⟨h.inX, fun e => h.neX e.symm⟩
    · exact ⟨h.inV e, fun e2 => h.neV (by rw [← e2]; exact e)⟩
theorem HpAt.lr {T : Nat → Prop} (h : HpAt w base X T A F l hs mb v) (hm : mKn.At w mb l) (hb : base ≤ mb) (hS : ∀ g, S g ↔ T g ∨ g = mb) : LrAt w base X S A F l hs mb v := by
  refine ⟨h.blk, hm, h.own, fun g hg => ?_, fun g => ?_⟩
  · rcases (hS g).1 hg with e | rfl
    · exact h.lo g e
    · exact hb
  · rw [hS g, h.set g, or_assoc]
end
end Go.Proofs.Ytnoappklbipdhaa
