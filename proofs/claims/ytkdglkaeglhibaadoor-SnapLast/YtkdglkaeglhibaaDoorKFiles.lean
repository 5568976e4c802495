/-
  The program's disk: the names of all files. The condition: at most 100000 files.
-/
import Derived.Test.YtkdglkaeglhibaaDoorKPieces
import Derived.Test.YtkdglkaeglhibaaDoorSC
import Derived.Sort.OwnSorted
namespace Go.Proofs.YtkdglkaeglhibaaDoor
open Go.RowKit Go.Sort

def nmB (f : CF) : List UInt8 := f.name.data.toList
/-- While the names are gathered. -/
structure FInv (w wr : World) (mo : Option Nat) (l : List CF) (v : Value) (acc : List (List UInt8)) (leftF : List CF) : Prop where
  rg : Ranging wr mo w.heap.size (nmL l) (nmL leftF)
  mem : ∀ f ∈ leftF, f ∈ l
  row : wr.ownsRow w.heap.size 9 1 v acc.length (acc.map encStr)
  pm : (acc ++ leftF.map nmB).Perm (l.map nmB)
  bel : Below w.heap.size w wr
theorem FInv.ne {w wr : World} {mo : Option Nat} {l : List CF} {v : Value} {acc : List (List UInt8)} {leftF : List CF} (I : FInv w wr mo l v acc leftF) : v.ownBlock ≠ some w.heap.size := by
  intro e
  have hr := I.rg
  rcases I.row.2 with ⟨e1, _⟩ | ⟨g, cap, cur, e1, _, hb, _⟩
  · rw [e1] at e
    simp [Value.ownBlock] at e
  · rw [e1] at e
    simp only [Value.ownBlock, Option.some.injEq] at e
    subst e
    cases mo with
    | none =>
      obtain ⟨_, _, a, s, b, hr⟩ := hr
      rw [hb] at hr
      simp at hr
    | some M =>
      obtain ⟨es, clock, since, seen, c0, _, _, hr, _⟩ := hr
      rw [hb] at hr
      simp at hr
theorem perm_midF (acc : List (List UInt8)) (A : List CF) (f : CF) (B : List CF) : (acc ++ (A ++ f :: B).map nmB).Perm ((acc ++ [nmB f]) ++ (A ++ B).map nmB) := by
  rw [List.map_append, List.map_cons, List.map_append, List.append_assoc]
  refine List.Perm.append_left acc ?_
  exact List.perm_middle
/-- From a world behind the step (w2) through others of which only new blocks and the row turn. -/
theorem FInv.step {w wr w2 w3 : World} {mo : Option Nat} {l : List CF} {v v3 : Value} {acc : List (List UInt8)} {LA LB : List CF} {f : CF} (I : FInv w wr mo l v acc (LA ++ f :: LB)) (hM : ∀ M, mo = some M → M < w.heap.size) (hrg : Ranging w2 mo w.heap.size (nmL l) (nmL (LA ++ LB))) (hg2 : wr.grownBy w2 (some w.heap.size))
    (hg3 : w2.grownBy w3 v.ownBlock) (hrow : w3.ownsRow w.heap.size 9 1 v3 (acc.length + 1) (acc.map encStr ++ [.string f.name])) : FInv w w3 mo l v3 (acc ++ [nmB f]) (LA ++ LB) := by
  have hlt := hrg.lt
  have hvr := I.ne
  have e1 : encStr (nmB f) = .string f.name := by unfold encStr nmB; rw [Lib.mk_data]
  refine ⟨hrg.kept (fun M e => hg3.block M (Nat.lt_of_lt_of_le (hM M e) (Nat.le_trans I.bel.size hg2.size)) (fun e2 => ?_)) (hg3.block _ hlt (fun e => hvr e.symm)), fun g hg => I.mem g ?_, ?_, (perm_midF acc LA f LB).symm.trans I.pm, ?_⟩
  · have := (I.row.lt M e2.symm).1
    have := hM M e
    omega
  · rcases List.mem_append.1 hg with h | h
    · exact List.mem_append_left _ h
    · exact List.mem_append_right _ (List.mem_cons_of_mem _ h)
  · rw [List.length_append, List.map_append, List.map_singleton, e1]
    exact hrow
  · have b2 : Below w.heap.size w w2 := I.bel.grown hg2 I.bel.size (fun k hk => by cases hk; exact Nat.le_refl _)
    exact b2.grown hg3 b2.size (fun k hk => (I.row.lt k hk).1)
/-- What the names come back as. -/
def FlPost (w w' : World) (l : List CF) (v : Value) : Prop :=
  ∃ (acc ss : List (List UInt8)) (p : Option Addr) (cap : Nat), v = .slice p ss.length cap ∧ acc.Perm (l.map nmB) ∧ ss = acc.mergeSort (fun x y => decide (x ≤ y)) ∧ Below w.heap.size w w' ∧ (ss = [] ∨ ∃ g, p = some ⟨g, 0, none⟩ ∧ w.heap.size ≤ g ∧ Holds encStr w' g 0 ss.toArray)
theorem infoSK : (Tryd.prog.info? 9).map (fun i => (i.zero, i.size, i.bytes)) = some (some (.string ⟨#[]⟩), 1, 16) := by kernel_rfl
end Go.Proofs.YtkdglkaeglhibaaDoor
