/-
  Locks (layer 19) as plain data: who holds each, who waits; a lock given, a queue served, asked for, let go of, a session gone. No condition.
-/
import Derived.Test.YtmfadmhbkgemmaaQPackD
import Derived.Test.YtmfadmhbkgemmaaQSePlain
namespace Go.Proofs.Ytmfadmhbkgemmaa
open Go.RowKit

/-- Who waits; a lock. -/
structure Wq where
  s : Int
  n : Int
  rd : Bool
structure Lk where
  name : ByteArray
  h : List Int
  wr : Bool
  q : List Wq
/-- A lock is had, if the counter lets it: the counter, the holders, for writing, the reply. -/
def giveH (c : Int) (h : List Int) (wr : Bool) (x : Wq) : Int × List Int × Bool × SeR :=
  if x.rd = true then (c, putL h x.s, false, ⟨x.s, x.n, 0, c, 0⟩)
  else if c = 18446744073709551615 then (c, h, wr, ⟨x.s, x.n, 16, 0, 0⟩)
  else (c + 1, putL h x.s, true, ⟨x.s, x.n, 0, c + 1, 0⟩)
/-- May the first that waits have it? -/
def fitH (h : List Int) (wr rd : Bool) : Bool := decide (h.length = 0) || (rd && !wr)
/-- From the queue's front on. -/
def srvH : List Wq → Int → List Int → Bool → Int × List Int × Bool × List Wq × List SeR
  | [], c, h, wr => (c, h, wr, [], [])
  | x :: q, c, h, wr => if fitH h wr x.rd = true then ((srvH q (giveH c h wr x).1 (giveH c h wr x).2.1 (giveH c h wr x).2.2.1).1, (srvH q (giveH c h wr x).1 (giveH c h wr x).2.1 (giveH c h wr x).2.2.1).2.1, (srvH q (giveH c h wr x).1 (giveH c h wr x).2.1 (giveH c h wr x).2.2.1).2.2.1, (srvH q (giveH c h wr x).1 (giveH c h wr x).2.1 (giveH c h wr x).2.2.1).2.2.2.1, (giveH c h wr x).2.2.2 :: (srvH q (giveH c h wr x).1 (giveH c h wr x).2.1 (giveH c h wr x).2.2.1).2.2.2.2) else (c, h, wr, x :: q, [])
def waitB (q : List Wq) (s : Int) : Bool := q.any fun y => y.s == s
def inK (x : Lk) (s : Int) : Bool := hasB x.h s || waitB x.q s
def liveK (x : Lk) : Bool := decide (0 < x.h.length) || decide (0 < x.q.length)
def tidyL (l : List Lk) : List Lk := l.filter liveK
def lkIx (l : List Lk) (n : ByteArray) : Option Nat := l.findIdx? fun x => decide (x.name = n)
def ixI : Option Nat → Int
  | some i => (i : Int)
  | none => -1
def befK (x y : ByteArray) : Bool := Go.Op.bytesLess x.toList y.toList
def addL (l : List Lk) (x : Lk) : List Lk := l.takeWhile (fun y => befK y.name x.name) ++ x :: l.dropWhile (fun y => befK y.name x.name)
/-- Asked for: the counter, the locks, the replies, whether it waits. -/
def askN (c : Int) (l : List Lk) (x : Wq) (nm : ByteArray) : Int × List Lk × List SeR × Bool :=
  if 256 ≤ l.length then (c, l, [⟨x.s, x.n, 17, 0, 0⟩], false)
  else ((giveH c [] false x).1, if (giveH c [] false x).2.2.2.err = 0 then addL l ⟨nm, (giveH c [] false x).2.1, (giveH c [] false x).2.2.1, []⟩ else l, [(giveH c [] false x).2.2.2], false)
def askS (c : Int) (l : List Lk) (i : Nat) (y : Lk) (x : Wq) : Int × List Lk × List SeR × Bool :=
  if inK y x.s = true then (c, l, [⟨x.s, x.n, 12, 0, 0⟩], false)
  else if y.q.length = 0 ∧ x.rd = true ∧ y.wr = false then ((giveH c y.h y.wr x).1, l.set i { y with h := (giveH c y.h y.wr x).2.1, wr := (giveH c y.h y.wr x).2.2.1 }, [(giveH c y.h y.wr x).2.2.2], false)
  else (c, l.set i { y with q := y.q ++ [x] }, [], true)
def askL (c : Int) (l : List Lk) (k s n : Int) (nm : ByteArray) : Int × List Lk × List SeR × Bool :=
  if k ≠ 5 ∧ k ≠ 7 then (c, l, [], false)
  else match lkIx l nm with
    | none => askN c l ⟨s, n, k == 7⟩ nm
    | some i => match l[i]? with
      | none => (c, l, [], false)
      | some y => askS c l i y ⟨s, n, k == 7⟩
/-- Let go of. -/
def relS (c : Int) (l : List Lk) (i : Nat) (y : Lk) (s n : Int) : Int × List Lk × List SeR :=
  ((srvH y.q c (dropL y.h s) y.wr).1, tidyL (l.set i { y with h := (srvH y.q c (dropL y.h s) y.wr).2.1, wr := (srvH y.q c (dropL y.h s) y.wr).2.2.1, q := (srvH y.q c (dropL y.h s) y.wr).2.2.2.1 }), ⟨s, n, 0, 0, 0⟩ :: (srvH y.q c (dropL y.h s) y.wr).2.2.2.2)
def relL (c : Int) (l : List Lk) (k s n : Int) (nm : ByteArray) : Int × List Lk × List SeR :=
  if k ≠ 6 ∧ k ≠ 8 then (c, l, [])
  else match lkIx l nm with
    | none => (c, l, [⟨s, n, 13, 0, 0⟩])
    | some i => match l[i]? with
      | none => (c, l, [⟨s, n, 13, 0, 0⟩])
      | some y => if hasB y.h s = false ∨ y.wr ≠ (k == 6) then (c, l, [⟨s, n, 13, 0, 0⟩]) else relS c l i y s n
/-- A session gone: of one lock, of all. -/
def lessQ (q : List Wq) (s : Int) : List Wq := q.filter fun y => !(y.s == s)
def outK (x : Lk) (c s : Int) : Int × Lk × List SeR :=
  if inK x s = true then ((srvH (lessQ x.q s) c (dropL x.h s) x.wr).1, { x with h := (srvH (lessQ x.q s) c (dropL x.h s) x.wr).2.1, wr := (srvH (lessQ x.q s) c (dropL x.h s) x.wr).2.2.1, q := (srvH (lessQ x.q s) c (dropL x.h s) x.wr).2.2.2.1 }, (srvH (lessQ x.q s) c (dropL x.h s) x.wr).2.2.2.2)
  else (c, x, [])
def outL : List Lk → Int → Int → Int × List Lk × List SeR
  | [], c, _ => (c, [], [])
  | x :: l, c, s => ((outL l (outK x c s).1 s).1, (outK x c s).2.1 :: (outL l (outK x c s).1 s).2.1, (outK x c s).2.2 ++ (outL l (outK x c s).1 s).2.2)
def gonL (c : Int) (l : List Lk) (s : Int) : Int × List Lk × List SeR := ((outL l c s).1, tidyL (outL l c s).2.1, (outL l c s).2.2)
theorem outL_app (a : List Lk) (x : Lk) : ∀ c s, outL (a ++ [x]) c s = ((outK x (outL a c s).1 s).1, (outL a c s).2.1 ++ [(outK x (outL a c s).1 s).2.1], (outL a c s).2.2 ++ (outK x (outL a c s).1 s).2.2) := by
  induction a with
  | nil => intro c s; simp [outL]
  | cons y a ih => intro c s; simp only [List.cons_append, outL, ih, List.append_assoc]
theorem outL_len (s : Int) : ∀ (a : List Lk) (c : Int), (outL a c s).2.1.length = a.length
  | [], _ => rfl
  | x :: a, c => by simp only [outL, List.length_cons, outL_len s a]
/-- What the two ask of a lock: its lists are short, its numbers ints. -/
structure LkOk (n : Nat) (x : Lk) : Prop where
  hl : x.h.length ≤ n
  ql : x.q.length ≤ n
  hi : ∀ a ∈ x.h, okI a
  qi : ∀ a ∈ x.q, okI a.s ∧ okI a.n
theorem lkIx_some {l : List Lk} {n : ByteArray} {k : Nat} (hk : k < l.length) (h : l[k].name = n) (hn : ∀ j (_ : j < k) (hj : j < l.length), ¬ l[j].name = n) : lkIx l n = some k := by
  unfold lkIx
  rw [List.findIdx?_eq_some_iff_getElem]
  exact ⟨hk, by simpa using h, fun j hj => by simpa using hn j hj (by omega)⟩
theorem lkIx_none {l : List Lk} {n : ByteArray} (hn : ∀ j (hj : j < l.length), ¬ l[j].name = n) : lkIx l n = none := by
  unfold lkIx
  rw [List.findIdx?_eq_none_iff]
  intro x hx
  obtain ⟨j, hj, rfl⟩ := List.getElem_of_mem hx
  simpa using hn j hj
theorem lkIx_at {l : List Lk} {n : ByteArray} {k : Nat} (h : lkIx l n = some k) : ∃ hk : k < l.length, l[k].name = n := by
  unfold lkIx at h
  rw [List.findIdx?_eq_some_iff_getElem] at h
  obtain ⟨hk, h1, _⟩ := h
  exact ⟨hk, by simpa using h1⟩
theorem nameK_inj {x y : ByteArray} (h : x.toList = y.toList) : x = y := by
  rw [Lib.toList_data, Lib.toList_data] at h
  rw [← Lib.mk_data x, ← Lib.mk_data y, h]
end Go.Proofs.Ytmfadmhbkgemmaa
