/-
  Parts of the proof, laid together: MxRef, GBox, MxMem, MxDrop, MxPut, MxLock, MxUnlock, RwMem, RwLock, RwUnlock, LgRef, LgOnce. The conditions stand at each part.
-/
import Derived.Laws.AppendOwnNone
import Derived.Test.YthhlglbohibekaaWPackA
import Derived.Test.YthhlglbohibekaaWPackB
/-
  Rows of numbers read: is a number among some, are two rows one (package latchkeyref08). The condition: the rows lie in memory as their reading says.
-/
namespace Go.Proofs.Ythhlglbohibekaa
open Go.RowKit

theorem undrB2 {w w' : World} {B : Nat} (k : Below B w w') : Below B w w'.drew := ⟨k.os, k.tape, k.output, k.size, k.block⟩
def hasB (l : List Int) (n : Int) : Bool := decide (n ∈ l)
end Go.Proofs.Ythhlglbohibekaa
/-
  The document's mutex in memory (package latchkeyref08): who holds it, who waits; a new one, locked, unlocked. No condition.
-/
namespace Go.Proofs.Ythhlglbohibekaa
open Go.RowKit

abbrev MT : TypeId := 112
section
variable {w w' : World} {base D : Nat} {S S' : Nat → Prop} {l l' : List Int} {who who' : Int}
end
end Go.Proofs.Ythhlglbohibekaa
/-
  A number out of some (package latchkeyref08): the others, in a row of their own. The conditions: the row lies in memory as its reading says, and is no longer than 65536.
-/
namespace Go.Proofs.Ythhlglbohibekaa
open Go.RowKit

def dropL (l : List Int) (n : Int) : List Int := l.filter fun x => !(x == n)
end Go.Proofs.Ythhlglbohibekaa
/-
  A number where it belongs (package latchkeyref08): the row with it, in a row of its own. The conditions: the row lies in memory as its reading says, and is shorter than 65536.
-/
namespace Go.Proofs.Ythhlglbohibekaa
open Go.RowKit

def putL (l : List Int) (n : Int) : List Int := l.takeWhile (fun x => decide (x < n)) ++ n :: l.dropWhile (fun x => decide (x < n))
theorem add_block (x : Addr) (j : Nat) : (x.add j).block = x.block := by
  unfold Addr.add
  split <;> rfl
/-- A row of numbers to be read from some place on: nil, or at an address. -/
def IntsIn (w : World) (v : Value) (l : List Int) : Prop := (v = .slice none 0 0 ∧ l = []) ∨ ∃ (x : Addr) (cap : Nat), v = .slice (some x) l.length cap ∧ l.length ≤ cap ∧ (l.length = 0 ∨ x.block < w.heap.size) ∧ ∀ j u, (intL l)[j]? = some u → w.cell? (x.add j) = some u
theorem IntsIn.fresh {w w' : World} {v : Value} {l : List Int} {B : Nat} (h : IntsIn w v l) (k : Below B w w') (hB : w.heap.size ≤ B) : IntsIn w' v l := by
  rcases h with h | ⟨x, cap, e, h1, h2, h3⟩
  · exact Or.inl h
  · refine Or.inr ⟨x, cap, e, h1, h2.imp id (fun h => Nat.lt_of_lt_of_le h k.size), fun j u hu => ?_⟩
    have hj : j < l.length := by
      have := (List.getElem?_eq_some_iff.1 hu).1
      rw [intL_length] at this
      exact this
    refine (k.cell (p := x.add j) ?_).trans (h3 j u hu)
    rw [add_block]
    omega
end Go.Proofs.Ythhlglbohibekaa
/-
  The document's mutex (package latchkeyref08), locked: what is answered, who holds it, who waits behind it. The condition: at most 65535 wait.
-/
namespace Go.Proofs.Ythhlglbohibekaa
open Go.RowKit

def lockB (who : Int) (l : List Int) (t : Int) : Bool := decide (0 ≤ t ∧ ¬ who = t ∧ t ∉ l ∧ who < 0)
def lockZ (who : Int) (l : List Int) (t : Int) : Int := if t < 0 then 1 else if who = t ∨ t ∈ l then 12 else 0
def lockW (who : Int) (l : List Int) (t : Int) : Int := if lockB who l t then t else who
def lockL (who : Int) (l : List Int) (t : Int) : List Int := if lockZ who l t = 0 ∧ ¬ who < 0 then l ++ [t] else l
section
variable {w : World} {base D : Nat} {S : Nat → Prop} {l : List Int} {who : Int}
end
end Go.Proofs.Ythhlglbohibekaa
/-
  The document's mutex (package latchkeyref08), unlocked, and both calls whole: what is answered, who holds it, who waits behind them. The condition: at most 65535 wait.
-/
namespace Go.Proofs.Ythhlglbohibekaa
open Go.RowKit

section
variable {w : World} {base D : Nat} {S : Nat → Prop} {l : List Int} {who : Int}
def unZ (who t : Int) : Int := if t < 0 ∨ ¬ who = t then 13 else 0
def unN (who : Int) (l : List Int) (t : Int) : Int := if t < 0 ∨ ¬ who = t then 0 else l.headD (-1)
def unW (who : Int) (l : List Int) (t : Int) : Int := if t < 0 ∨ ¬ who = t then who else l.headD (-1)
def unL (who : Int) (l : List Int) (t : Int) : List Int := if t < 0 ∨ ¬ who = t then l else l.tail
end
end Go.Proofs.Ythhlglbohibekaa
/-
  The document's rwlock in memory (package latchkeyref08): who holds it, whether for writing, who waits; whether one may have it; given to one. The condition: fewer than 65536 hold it.
-/
namespace Go.Proofs.Ythhlglbohibekaa
open Go.RowKit

/-- A task that waits: who, for reading, blocked. -/
abbrev Wt : Type := Int × Bool × Bool
def waitC (x : Wt) : List Value := [.int .i64 x.1, .bool x.2.1, .bool x.2.2]
theorem waitC_len (x : Wt) : (waitC x).length = 3 := rfl
theorem waitC_one (x : Wt) : ∀ u ∈ waitC x, u.oneCell' = true := fun u hu => by
  simp only [waitC, List.mem_cons, List.not_mem_nil, or_false] at hu
  rcases hu with rfl | rfl | rfl <;> rfl
theorem putL_mem {l : List Int} {n x : Int} (h : x ∈ putL l n) : x = n ∨ x ∈ l := by
  unfold putL at h
  rw [List.mem_append, List.mem_cons] at h
  rcases h with h | h | h
  · exact Or.inr ((List.takeWhile_sublist _).subset h)
  · exact Or.inl h
  · exact Or.inr ((List.dropWhile_sublist _).subset h)
theorem putL_length (l : List Int) (n : Int) : (putL l n).length = l.length + 1 := by
  unfold putL
  have := congrArg List.length (List.takeWhile_append_dropWhile (p := fun x => decide (x < n)) (l := l))
  rw [List.length_append] at this
  rw [List.length_append, List.length_cons]
  omega
section
variable {w w' : World} {base D : Nat} {S S' : Nat → Prop} {L L' : List Int} {wt wt' : Bool} {q q' : List Wt}
/-- May one have it now? -/
def fitsB (L : List Int) (wt : Bool) (rd : Bool) : Bool := decide (L.length = 0) || (rd && !wt)
end
end Go.Proofs.Ythhlglbohibekaa
/-
  The document's rwlock (package latchkeyref08), locked: what is answered, who holds it, who waits behind it. The condition: fewer than 65536 hold it or wait.
-/
namespace Go.Proofs.Ythhlglbohibekaa
open Go.RowKit

theorem infoW : (Try.prog.info? 116).map (fun i => (i.zero, i.size, i.bytes)) = some (some (.agg #[.int .i64 0, .bool false, .bool false]), 3, 16) := by kernel_rfl
/-- Does one hold it or wait? -/
def heldB (L : List Int) (q : List Wt) (t : Int) : Bool := hasB L t || q.any fun x => x.1 == t
def rwZ (L : List Int) (q : List Wt) (t : Int) : Int := if t < 0 then 1 else if heldB L q t = true then 12 else 0
def rwB (L : List Int) (wt : Bool) (q : List Wt) (t : Int) (rd : Bool) : Bool := decide (rwZ L q t = 0) && decide (q.length = 0) && fitsB L wt rd
/-- The state behind it. -/
def rwSt (L : List Int) (wt : Bool) (q : List Wt) (t : Int) (rd : Bool) : List Int × Bool × List Wt := if rwZ L q t = 0 then (if rwB L wt q t rd = true then (putL L t, !rd, q) else (L, wt, q ++ [(t, rd, true)])) else (L, wt, q)
section
variable {w : World} {base D : Nat} {S : Nat → Prop} {L : List Int} {wt : Bool} {q : List Wt}
end
end Go.Proofs.Ythhlglbohibekaa
/-
  The document's rwlock (package latchkeyref08), unlocked: those that have it then, who holds it, who waits. The condition: fewer than 65536 hold it or wait.
-/
namespace Go.Proofs.Ythhlglbohibekaa
open Go.RowKit

/-- Those at the front that may have it get it: who got it, and the state. -/
def rwGo : List Int → Bool → List Wt → List Int × List Int × Bool × List Wt
  | L, wt, [] => ([], L, wt, [])
  | L, wt, x :: q => if fitsB L wt x.2.1 = true then (x.1 :: (rwGo (putL L x.1) (!x.2.1) q).1, (rwGo (putL L x.1) (!x.2.1) q).2) else ([], L, wt, x :: q)
theorem rwGo_stop (L : List Int) (wt : Bool) (q : List Wt) (h : ∀ x q', q = x :: q' → fitsB L wt x.2.1 = false) : rwGo L wt q = ([], L, wt, q) := by
  cases q with
  | nil => rfl
  | cons x q =>
    unfold rwGo
    rw [h x q rfl]
    rfl
theorem rwGo_step (L : List Int) (wt : Bool) (x : Wt) (q : List Wt) (h : fitsB L wt x.2.1 = true) : rwGo L wt (x :: q) = (x.1 :: (rwGo (putL L x.1) (!x.2.1) q).1, (rwGo (putL L x.1) (!x.2.1) q).2) := by
  rw [rwGo, if_pos h]
def rwUE (L : List Int) (wt : Bool) (t : Int) (rd : Bool) : Bool := !hasB L t || (wt == rd)
def rwUZ (L : List Int) (wt : Bool) (t : Int) (rd : Bool) : Int := if rwUE L wt t rd = true then 13 else 0
/-- Who got it, and the state behind it. -/
def rwU (L : List Int) (wt : Bool) (q : List Wt) (t : Int) (rd : Bool) : List Int × List Int × Bool × List Wt := if rwUE L wt t rd = true then ([], L, wt, q) else rwGo (dropL L t) wt q
theorem dropL_mem {l : List Int} {n x : Int} (h : x ∈ dropL l n) : x ∈ l := (List.mem_filter.1 h).1
section
variable {w : World} {base D : Nat} {S : Nat → Prop} {L : List Int} {wt : Bool} {q : List Wt}
end
end Go.Proofs.Ythhlglbohibekaa
/-
  The document's waitgroup (package latchkeyref09): waited for, added to. The conditions: the numbers are ints'; fewer than 65536 wait; the count is 0 to 2^30.
-/
namespace Go.Proofs.Ythhlglbohibekaa
open Go.RowKit

def gWZ (l : List Int) (t : Int) : Int := if t < 0 then 1 else if t ∈ l then 12 else 0
def gWB (n : Int) (l : List Int) (t : Int) : Bool := decide (gWZ l t = 0 ∧ n = 0)
def gWL (n : Int) (l : List Int) (t : Int) : List Int := if gWZ l t = 0 ∧ ¬ n = 0 then l ++ [t] else l
def gAZ (n k : Int) : Int := if 1073741824 < k ∨ k < -1073741824 ∨ 1073741824 < n + k then 15 else if n + k < 0 then 14 else 0
def gAN (n k : Int) : Int := if gAZ n k = 0 then n + k else n
def gAO (n : Int) (l : List Int) (k : Int) : List Int := if gAZ n k = 0 ∧ n + k = 0 then l else []
def gAL (n : Int) (l : List Int) (k : Int) : List Int := if gAZ n k = 0 ∧ n + k = 0 then [] else l
section
variable {w w' : World} {base D : Nat} {S S' : Nat → Prop} {n : Int} {l : List Int}
end
end Go.Proofs.Ythhlglbohibekaa
/-
  The document's once (package latchkeyref09): new, come to, done. The conditions: the numbers are ints'; fewer than 65536 wait.
-/
namespace Go.Proofs.Ythhlglbohibekaa
open Go.RowKit

def oDZ (who : Int) (l : List Int) (t : Int) : Int := if t < 0 then 1 else if who = t ∨ t ∈ l then 12 else 0
/-- Does it run it; does it wait? -/
def oDR (who : Int) (ov : Bool) (l : List Int) (t : Int) : Bool := decide (oDZ who l t = 0 ∧ ov = false ∧ who < 0)
def oDW (who : Int) (ov : Bool) (l : List Int) (t : Int) : Bool := decide (oDZ who l t = 0 ∧ ov = false ∧ ¬ who < 0)
def oDH (who : Int) (ov : Bool) (l : List Int) (t : Int) : Int := if oDR who ov l t = true then t else who
def oDL (who : Int) (ov : Bool) (l : List Int) (t : Int) : List Int := if oDW who ov l t = true then l ++ [t] else l
def oEZ (who t : Int) : Int := if t < 0 ∨ ¬ who = t then 13 else 0
def oEO (who : Int) (l : List Int) (t : Int) : List Int := if t < 0 ∨ ¬ who = t then [] else l
def oEH (who t : Int) : Int := if t < 0 ∨ ¬ who = t then who else -1
def oEV (who : Int) (ov : Bool) (t : Int) : Bool := if t < 0 ∨ ¬ who = t then ov else true
def oEL (who : Int) (l : List Int) (t : Int) : List Int := if t < 0 ∨ ¬ who = t then l else []
section
variable {w w' : World} {base D : Nat} {S S' : Nat → Prop} {who : Int} {ov : Bool} {l : List Int}
end
end Go.Proofs.Ythhlglbohibekaa
