/-
  The program's proposer in memory: its block, its maps, its row of rows of slots, whose block is whose. No condition.
-/
import Derived.Test.YtmlgoecdefeapaaPPackI
import Derived.Test.YtmlgoecdefeapaaPPackF
namespace Go.Proofs.Ytmlgoecdefeapaa
open Go.RowKit

def inI (n : Int) : Prop := -9223372036854775808 ≤ n ∧ n ≤ 9223372036854775807
theorem keyIp : Maps.Keyed Try.prog 3 := Maps.int_keyed Try.underlying3
theorem keyIp_of {n : Int} (h : inI n) : keyOf Try.prog 3 (.int .i64 n) = some (.int .i64 n) := Maps.keyOf_int_mk Try.underlying3 (by
  obtain ⟨h1, h2⟩ := h
  simp [Lit.wf, IntKind.min, IntKind.max, IntKind.signed, IntKind.bits]
  omega)
theorem intV_inj : ∀ a b : Int, Value.int .i64 a = Value.int .i64 b → a = b := fun a b h => by injection h
/-- A set of servers; the entries by slots; the sets by slots (each with the block that it lies in). -/
abbrev mSet : MapOf Int Unit := ⟨55, 3, 77, fun n => .int .i64 n, fun _ => .agg #[], inI, .agg #[]⟩
abbrev mBest : MapOf Int En := ⟨56, 3, 38, fun n => .int .i64 n, fun e => .agg (enA e), inI, .agg (enA En.zero)⟩
abbrev mAcc : MapOf Int (Nat × List Int) := ⟨57, 3, 55, fun n => .int .i64 n, fun x => .map (some x.1), inI, .map none⟩
theorem mSet_is : mSet.Is := ⟨Try.underlying55, keyIp, fun _ h => ⟨_, keyIp_of h⟩, intV_inj, fun w => by kernel_rfl⟩
theorem mBest_is : mBest.Is := ⟨Try.underlying56, keyIp, fun _ h => ⟨_, keyIp_of h⟩, intV_inj, fun w => by kernel_rfl⟩
theorem mAcc_is : mAcc.Is := ⟨Try.underlying57, keyIp, fun _ h => ⟨_, keyIp_of h⟩, intV_inj, fun w => by kernel_rfl⟩
def unitL (l : List Int) : List (Int × Unit) := l.map fun i => (i, ())
theorem unitL_look (l : List Int) (i : Int) : (lookM (unitL l) i).isSome = decide (i ∈ l) := by
  induction l with
  | nil => rfl
  | cons x l ih =>
    unfold unitL lookM at ih ⊢
    rw [List.map_cons, List.find?_cons]
    by_cases h : x = i
    · simp [h]
    · have h2 : ¬ i = x := fun e => h e.symm
      simp only [h, decide_false, List.mem_cons, h2, false_or]
      exact ih
theorem unitL_put {l : List Int} {i : Int} (h : i ∉ l) : putM (unitL l) i () = unitL (l ++ [i]) := by
  unfold putM
  have e := unitL_look l i
  rw [decide_eq_false h] at e
  rw [if_pos (by simpa using e)]
  simp [unitL]
theorem unitL_again {l : List Int} {i : Int} (h : i ∈ l) : putM (unitL l) i () = unitL l := by
  unfold putM
  have e := unitL_look l i
  rw [decide_eq_true h] at e
  rw [if_neg (by simp [Option.isSome_iff_ne_none] at e ⊢; exact e)]
  unfold unitL
  rw [List.map_map]
  refine List.map_congr_left fun x _ => ?_
  by_cases hx : x = i
  · simp [hx]
  · simp [hx]
/-- A set in block M. -/
abbrev SetU (w : World) (M : Nat) (l : List Int) : Prop := mSet.At w M (unitL l)
/-- A row of slots: two cells. -/
def roC (r : Int × Int) : List Value := [.int .i64 r.1, .int .i64 r.2]
theorem roC_len (r : Int × Int) : (roC r).length = 2 := rfl
theorem roC_one : ∀ x : Int × Int, ∀ u ∈ roC x, u.oneCell' = true := by
  intro x u hu
  simp only [roC, List.mem_cons, List.not_mem_nil, or_false] at hu
  rcases hu with rfl | rfl <;> rfl
theorem infoRo : (Try.prog.info? 59).map (fun i => (i.zero, i.size, i.bytes)) = some (some (.agg #[.int .i64 0, .int .i64 0]), 2, 16) := by kernel_rfl
/-- The rows of the proposer's own. -/
abbrev OwnRo (w : World) (base : Nat) (v : Value) (l : List (Int × Int)) : Prop := w.ownsRow base 59 2 v l.length (rowL roC l)
theorem OwnRo.row {w : World} {base : Nat} {v : Value} {l : List (Int × Int)} (h : OwnRo w base v l) : RowAt roC w v l := RowAt.own roC_len h
/-- What the program keeps: who promised, the best by slots, the values' first and last slot, the last slot, the rows of open slots, who accepted. -/
structure Px where
  who : List Int
  best : List (Int × En)
  vf : Int
  vl : Int
  last : Int
  rows : List (Int × Int)
  acc : List (Int × (Nat × List Int))
abbrev pxA (n b f : Int) (is : Bool) (p : Px) (mp : Option Nat) (mb ma : Nat) (v : Value) : Array Value := #[.int .i64 n, .int .i64 b, .int .i64 f, .map mp, .map (some mb), .bool is, .int .i64 p.vf, .int .i64 p.vl, .int .i64 p.last, v, .map (some ma)]
/-- The blocks of its maps. -/
def mapsP (p : Px) (mp : Option Nat) (mb ma : Nat) : List Nat := mb :: ma :: (mp.toList ++ p.acc.map (·.2.1))
structure PxAt (w : World) (base X : Nat) (S : Nat → Prop) (n b f : Int) (is : Bool) (p : Px) (mp : Option Nat) (mb ma : Nat) (v : Value) : Prop where
  blk : w.heap[X]? = some (.cells (pxA n b f is p mp mb ma v) 63 (0, 0))
  prom : ∀ M, mp = some M → SetU w M p.who
  best : mBest.At w mb p.best
  acc : mAcc.At w ma p.acc
  sets : ∀ x ∈ p.acc, SetU w x.2.1 x.2.2
  rows : OwnRo w base v p.rows
  nd : (mapsP p mp mb ma).Nodup
  lo : ∀ g, S g → base ≤ g
  set : ∀ g, S g ↔ g = X ∨ v.ownBlock = some g ∨ g ∈ mapsP p mp mb ma
section
variable {w w' : World} {base X : Nat} {S : Nat → Prop} {n b f : Int} {is : Bool} {p : Px} {mp : Option Nat} {mb ma : Nat} {v : Value}
theorem PxAt.inX (h : PxAt w base X S n b f is p mp mb ma v) : S X := (h.set X).2 (Or.inl rfl)
theorem PxAt.inB (h : PxAt w base X S n b f is p mp mb ma v) : S mb := (h.set mb).2 (Or.inr (Or.inr (by simp [mapsP])))
theorem PxAt.inA (h : PxAt w base X S n b f is p mp mb ma v) : S ma := (h.set ma).2 (Or.inr (Or.inr (by simp [mapsP])))
theorem PxAt.inP (h : PxAt w base X S n b f is p mp mb ma v) {M : Nat} (e : mp = some M) : S M := (h.set M).2 (Or.inr (Or.inr (by simp [mapsP, e])))
theorem PxAt.inS (h : PxAt w base X S n b f is p mp mb ma v) {x : Int × (Nat × List Int)} (hx : x ∈ p.acc) : S x.2.1 := (h.set _).2 (Or.inr (Or.inr (by
  simp only [mapsP, List.mem_cons, List.mem_append, List.mem_map]
  exact Or.inr (Or.inr (Or.inr ⟨x, hx, rfl⟩)))))
theorem PxAt.inV (h : PxAt w base X S n b f is p mp mb ma v) {g : Nat} (e : v.ownBlock = some g) : S g := (h.set g).2 (Or.inr (Or.inl e))
theorem PxAt.mapAt (h : PxAt w base X S n b f is p mp mb ma v) {g : Nat} (hg : g ∈ mapsP p mp mb ma) : ∃ es c, w.heap[g]? = some (.map es c) := by
  simp only [mapsP, List.mem_cons, List.mem_append, List.mem_map] at hg
  rcases hg with rfl | rfl | hg | ⟨x, hx, rfl⟩
  · obtain ⟨es, c, hb, _⟩ := h.best
    exact ⟨es, c, hb⟩
  · obtain ⟨es, c, hb, _⟩ := h.acc
    exact ⟨es, c, hb⟩
  · obtain ⟨es, c, hb, _⟩ := h.prom g (by simpa using hg)
    exact ⟨es, c, hb⟩
  · obtain ⟨es, c, hb, _⟩ := h.sets x hx
    exact ⟨es, c, hb⟩
theorem PxAt.bd (h : PxAt w base X S n b f is p mp mb ma v) : ∀ g, S g → g < w.heap.size := fun g hg => by
  rcases (h.set g).1 hg with rfl | e | e
  · exact lt_of_block h.blk
  · exact (h.rows.lt g e).2
  · obtain ⟨es, c, hb⟩ := h.mapAt e
    exact lt_of_block hb
theorem PxAt.neX (h : PxAt w base X S n b f is p mp mb ma v) {g : Nat} (hg : g ∈ mapsP p mp mb ma) : g ≠ X := fun e => by
  obtain ⟨es, c, hb⟩ := h.mapAt hg
  rw [e, h.blk] at hb
  cases hb
theorem PxAt.neV (h : PxAt w base X S n b f is p mp mb ma v) {g : Nat} (hg : g ∈ mapsP p mp mb ma) : v.ownBlock ≠ some g := fun e => by
  obtain ⟨es, c, hb⟩ := h.mapAt hg
  rcases h.rows.2 with ⟨e1, _⟩ | ⟨g', cap, cur, e1, _, hb', _⟩
  · rw [e1] at e; simp [Value.ownBlock] at e
  · rw [e1] at e
    simp only [Value.ownBlock, Option.some.injEq] at e
    rw [e, hb] at hb'
    cases hb'
theorem PxAt.neVX (h : PxAt w base X S n b f is p mp mb ma v) : v.ownBlock ≠ some X := own_ne h.rows h.blk (by decide)
theorem PxAt.keep (h : PxAt w base X S n b f is p mp mb ma v) (hk : ∀ g, S g → w'.heap[g]? = w.heap[g]?) : PxAt w' base X S n b f is p mp mb ma v :=
  ⟨(hk X h.inX).trans h.blk, fun M e => (h.prom M e).keep (hk M (h.inP e)), h.best.keep (hk mb h.inB), h.acc.keep (hk ma h.inA), fun x hx => (h.sets x hx).keep (hk _ (h.inS hx)), own_keep h.rows fun g e => hk g (h.inV e), h.nd, h.lo, h.set⟩
theorem PxAt.fresh (h : PxAt w base X S n b f is p mp mb ma v) (k : Below w.heap.size w w') : PxAt w' base X S n b f is p mp mb ma v := h.keep fun g hg => k.block g (h.bd g hg)
theorem PxAt.drew (h : PxAt w base X S n b f is p mp mb ma v) : PxAt w.drew base X S n b f is p mp mb ma v := h.keep fun _ _ => rfl
theorem PxAt.cell (h : PxAt w base X S n b f is p mp mb ma v) (i : Nat) (u : Value) (hu : (pxA n b f is p mp mb ma v)[i]? = some u) : w.cell? ⟨X, i, none⟩ = some u := by
  simp only [World.cell?, h.blk]
  simpa using hu
theorem PxAt.fz (h : PxAt w base X S n b f is p mp mb ma v) (i : Nat) : w.frozen? ⟨X, i, none⟩ = false := by simp [World.frozen?, h.blk]
theorem PxAt.form (h : PxAt w base X S n b f is p mp mb ma v) : ∃ a c, v = .slice a p.rows.length c := (OwnRo.row h.rows).form
/-- A number of its own set. -/
theorem PxAt.setN (h : PxAt w base X S n b f is p mp mb ma v) (i : Nat) (u : Value) (is' : Bool) (vf' vl' last' : Int) (hu : (pxA n b f is p mp mb ma v).setIfInBounds i u = pxA n b f is' ⟨p.who, p.best, vf', vl', last', p.rows, p.acc⟩ mp mb ma v) :
    PxAt (w.setCell ⟨X, i, none⟩ u) base X S n b f is' ⟨p.who, p.best, vf', vl', last', p.rows, p.acc⟩ mp mb ma v := by
  have hs : ∀ g, g ≠ X → (w.setCell ⟨X, i, none⟩ u).heap[g]? = w.heap[g]? := fun g hg => heap_setCell_other _ _ _ _ hg
  refine ⟨?_, fun M e => (h.prom M e).keep (hs M (h.neX (by simp [mapsP, e]))), h.best.keep (hs mb (h.neX (by simp [mapsP]))), h.acc.keep (hs ma (h.neX (by simp [mapsP]))), fun x hx => (h.sets x hx).keep (hs _ (h.neX (by
    simp only [mapsP, List.mem_cons, List.mem_append, List.mem_map]
    exact Or.inr (Or.inr (Or.inr ⟨x, hx, rfl⟩))))), own_keep h.rows fun g e => hs g (fun e2 => h.neVX (by rw [e, e2])), h.nd, h.lo, h.set⟩
  rw [heap_setCell_same w X i _ _ _ h.blk, hu]
theorem PxAt.keptX (h : PxAt w base X S n b f is p mp mb ma v) (i : Nat) (u : Value) : Kept w (w.setCell ⟨X, i, none⟩ u) S S :=
  ⟨rfl, rfl, rfl, by simp, fun _ hg => Or.inl hg, fun g _ hs => heap_setCell_other _ _ _ _ (fun e => hs (by rw [e]; exact h.inX))⟩
/-- The best written. -/
theorem PxAt.setB (h : PxAt w base X S n b f is p mp mb ma v) {best' : List (Int × En)} (hb : mBest.At w' mb best') (gr : w.grownBy w' (some mb)) :
    PxAt w' base X S n b f is ⟨p.who, best', p.vf, p.vl, p.last, p.rows, p.acc⟩ mp mb ma v ∧ Kept w w' S S := by
  have nd := h.nd
  simp only [mapsP, List.nodup_cons, List.mem_cons, not_or] at nd
  have hs : ∀ g, S g → g ≠ mb → w'.heap[g]? = w.heap[g]? := fun g hg hn => gr.block g (h.bd g hg) (fun e => hn (Option.some.inj e))
  refine ⟨⟨(hs X h.inX (fun e => h.neX (g := mb) (by simp [mapsP]) e.symm)).trans h.blk, fun M e => (h.prom M e).keep (hs M (h.inP e) (fun e2 => nd.1.2 (by rw [← e2]; simp [e]))), hb, h.acc.keep (hs ma h.inA (fun e => nd.1.1 e.symm)), fun x hx => (h.sets x hx).keep (hs _ (h.inS hx) (fun e2 => nd.1.2 (by
    rw [← e2]
    simp only [List.mem_append, List.mem_map]
    exact Or.inr ⟨x, hx, rfl⟩))), own_keep h.rows fun g e => hs g (h.inV e) (fun e2 => h.neV (g := mb) (by simp [mapsP]) (by rw [e, e2])), h.nd, h.lo, h.set⟩, gr.os, gr.tape, gr.output, gr.size, fun _ hg => Or.inl hg, fun g hg hn => gr.block g hg (fun e => hn (by rw [Option.some.inj e]; exact h.inB))⟩
/-- Who promised written. -/
theorem PxAt.setP (h : PxAt w base X S n b f is p mp mb ma v) {M : Nat} (e : mp = some M) {who' : List Int} (hb : SetU w' M who') (gr : w.grownBy w' (some M)) :
    PxAt w' base X S n b f is ⟨who', p.best, p.vf, p.vl, p.last, p.rows, p.acc⟩ mp mb ma v ∧ Kept w w' S S := by
  have nd := h.nd
  simp only [mapsP, e, Option.toList_some, List.singleton_append, List.nodup_cons, List.mem_cons, not_or] at nd
  have hM : M ∈ mapsP p mp mb ma := by simp [mapsP, e]
  have hs : ∀ g, S g → g ≠ M → w'.heap[g]? = w.heap[g]? := fun g hg hn => gr.block g (h.bd g hg) (fun e => hn (Option.some.inj e))
  refine ⟨⟨(hs X h.inX (fun e2 => h.neX hM e2.symm)).trans h.blk, fun M' e' => ?_, h.best.keep (hs mb h.inB nd.1.2.1), h.acc.keep (hs ma h.inA nd.2.1.1), fun x hx => (h.sets x hx).keep (hs _ (h.inS hx) (fun e2 => nd.2.2.1 (by
    rw [← e2]
    simp only [List.mem_map]
    exact ⟨x, hx, rfl⟩))), own_keep h.rows fun g e => hs g (h.inV e) (fun e2 => h.neV hM (by rw [e, e2])), h.nd, h.lo, h.set⟩, gr.os, gr.tape, gr.output, gr.size, fun _ hg => Or.inl hg, fun g hg hn => gr.block g hg (fun e2 => hn (by rw [Option.some.inj e2]; exact h.inP e))⟩
  rw [e] at e'
  cases e'
  exact hb
/-- The row of rows laid anew. -/
theorem PxAt.setV (h : PxAt w base X S n b f is p mp mb ma v) {v' : Value} {rows' : List (Int × Int)} (hX : w'.heap[X]? = some (.cells (pxA n b f is ⟨p.who, p.best, p.vf, p.vl, p.last, rows', p.acc⟩ mp mb ma v') 63 (0, 0))) (ho : OwnRo w' base v' rows') (hm : ∀ g, g ∈ mapsP p mp mb ma → w'.heap[g]? = w.heap[g]?) :
    PxAt w' base X (fun g => g = X ∨ v'.ownBlock = some g ∨ g ∈ mapsP p mp mb ma) n b f is ⟨p.who, p.best, p.vf, p.vl, p.last, rows', p.acc⟩ mp mb ma v' := by
  refine ⟨hX, fun M e => (h.prom M e).keep (hm M (by simp [mapsP, e])), h.best.keep (hm mb (by simp [mapsP])), h.acc.keep (hm ma (by simp [mapsP])), fun x hx => (h.sets x hx).keep (hm _ (by
    simp only [mapsP, List.mem_cons, List.mem_append, List.mem_map]
    exact Or.inr (Or.inr (Or.inr ⟨x, hx, rfl⟩)))), ho, h.nd, fun g hg => ?_, fun _ => Iff.rfl⟩
  rcases hg with rfl | e | e
  · exact h.lo _ h.inX
  · exact (ho.lt g e).1
  · exact h.lo g ((h.set g).2 (Or.inr (Or.inr e)))
end
end Go.Proofs.Ytmlgoecdefeapaa
