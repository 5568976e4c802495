/-
  Parts of the proof, laid together: GSlidM, ScMem, ScReady, ScLists, ScTask, ScObj, ScFind, ScNew, ScTurn, ScDid, ScLock, ScRuns, ScOnce, ScDo, ScRun, ScJoin, ScStep, ScYield, ScCall, ScCallO, ScWait, ScAdd, ScPlain, ScKeep, ScTasks, ScWhole, ScRunAll. The conditions stand at each part.
-/
import Derived.Deep.RegionHeld3
import Derived.Test.YthhlglbohibekaaWPackA
import Derived.Test.YthhlglbohibekaaWPackB
import Derived.Test.YthhlglbohibekaaWPackC
/-
  The document's scheduler in memory (package latchkeyref10): its tasks, its objects. No condition.
-/
namespace Go.Proofs.Ythhlglbohibekaa
open Go.RowKit

/-- An operation: kind, object, number. -/
abbrev Opx : Type := Int × Int × Int
def opC (x : Opx) : List Value := [.int .i64 x.1, .int .i64 x.2.1, .int .i64 x.2.2]
theorem opC_len (x : Opx) : (opC x).length = 3 := rfl
/-- A task: its operations, where it is, whether it is blocked, the onces that it runs. -/
structure Tk where
  ops : List Opx
  pos : Nat
  bl : Bool
  runs : List Int
/-- An object: its kind; who holds it, its count or who runs it; whether for writing, or done; who waits or holds it; an rwlock's queue. -/
structure Ob where
  k : Int
  h : Int
  b : Bool
  l : List Int
  q : List Wt
def obNew (k : Int) : Ob := ⟨k, if k = 0 then -1 else if k = 3 then -1 else 0, false, [], []⟩
/-- Where a task's two rows lie. -/
abbrev Tv : Type := Value × Value
section
variable {w w' : World} {base D : Nat} {ro : Nat → Option Nat} {vT vL : Value} {tv : List Tv} {od : List Nat} {T : List Tk} {L : List (Int × Ob)}
end
end Go.Proofs.Ythhlglbohibekaa
/-
  The document's scheduler (package latchkeyref10): which task may go on; all that may, all that wait, whether all are at their end. No condition.
-/
namespace Go.Proofs.Ythhlglbohibekaa
open Go.RowKit

/-- May a task go on? -/
def tkR (t : Tk) : Bool := !t.bl && decide (t.pos < t.ops.length)
def rdB (T : List Tk) (z : Int) : Bool := decide (0 ≤ z) && (match T[z.toNat]? with | some t => tkR t | none => false)
section
variable {w w' : World} {base D : Nat} {ro : Nat → Option Nat} {vT vL : Value} {tv : List Tv} {od : List Nat} {T : List Tk} {L : List (Int × Ob)}
/-- The places of those that ..., from k on. -/
def upto (p : Tk → Bool) : Nat → List Tk → List Int
  | _, [] => []
  | k, t :: l => if p t = true then (k : Int) :: upto p (k + 1) l else upto p (k + 1) l
theorem upto_le (p : Tk → Bool) : ∀ (l : List Tk) (k : Nat), (upto p k l).length ≤ l.length
  | [], k => by simp [upto]
  | t :: l, k => by
    have := upto_le p l (k + 1)
    rw [upto]
    split
    · simp; omega
    · simp; omega
/-- All that may go on. -/
def readyL (T : List Tk) : List Int := upto tkR 0 T
def blockedL (T : List Tk) : List Int := upto (fun t => t.bl) 0 T
def endedB (T : List Tk) : Bool := T.all fun t => !t.bl && !decide (t.pos < t.ops.length)
end
end Go.Proofs.Ythhlglbohibekaa
/-
  The document's scheduler (package latchkeyref10): all that may go on, all that wait, whether all are at their end; the place behind an OpEnd. The condition: at most 65536 tasks.
-/
namespace Go.Proofs.Ythhlglbohibekaa
open Go.RowKit

theorem own_below9 {w w' : World} {base size n : Nat} {e : TypeId} {v : Value} {xs : List Value} (h : w.ownsRow base e size v n xs) (k : Below w.heap.size w w') : w'.ownsRow base e size v n xs := own_keep h (fun g hg => k.block g (World.ownsRow.lt h g hg).2)
section
variable {w w' : World} {base D : Nat} {ro : Nat → Option Nat} {vT vL : Value} {tv : List Tv} {od : List Nat} {T : List Tk} {L : List (Int × Ob)}
end
end Go.Proofs.Ythhlglbohibekaa
/-
  The document's scheduler (package latchkeyref10): a task's cells turned; the place behind an OpEnd; tasks woken. The conditions: fewer than 65536 operations; who is woken is a task.
-/
namespace Go.Proofs.Ythhlglbohibekaa
open Go.RowKit

theorem zip_set_right {α β : Type} : ∀ (a : List α) (b : List β) (i : Nat) (x : β) (hi : i < a.length), a.zip (b.set i x) = (a.zip b).set i (a[i], x)
  | [], _, _, _, hi => absurd hi (Nat.not_lt_zero _)
  | _ :: _, [], _, _, _ => by simp
  | y :: a, z :: b, 0, x, _ => by simp
  | y :: a, z :: b, i + 1, x, hi => by
    have ih := zip_set_right a b i x (by simpa using hi)
    rw [List.set_cons_succ, List.zip_cons_cons, List.zip_cons_cons, List.set_cons_succ, ih]
    rfl
theorem rowL_set {α : Type} {k : Nat} {enc : α → List Value} (hk : ∀ x, (enc x).length = k) : ∀ (l : List α) (i : Nat) (hi : i < l.length) (c : Nat) (x : α) (u : Value), c < k → enc x = (enc l[i]).set c u → rowL enc (l.set i x) = (rowL enc l).set (i * k + c) u
  | [], i, hi, _, _, _, _, _ => absurd hi (Nat.not_lt_zero _)
  | y :: l, 0, _, c, x, u, hc, e => by
    unfold rowL
    rw [List.set_cons_zero, List.flatMap_cons, List.flatMap_cons, e, Nat.zero_mul, Nat.zero_add, List.set_append_left _ _ (by rw [hk]; exact hc)]
    rfl
  | y :: l, i + 1, hi, c, x, u, hc, e => by
    have ih := rowL_set hk l i (by simpa using hi) c x u hc e
    unfold rowL at ih ⊢
    rw [List.set_cons_succ, List.flatMap_cons, List.flatMap_cons, ih, List.set_append_right _ _ (by rw [hk, Nat.add_mul]; omega), hk]
    have e2 : (i + 1) * k + c - k = i * k + c := by rw [Nat.add_mul]; omega
    rw [e2]
theorem Slid.set {α : Type} {k : Nat} {enc : α → List Value} {E : TypeId} {w : World} {l : List α} {g off n cap : Nat} (hk : ∀ x, (enc x).length = k) (h : Slid enc k E w (.slice (some ⟨g, off, none⟩) n cap) l) (i : Nat) (hi : i < l.length) (c : Nat) (hc : c < k) (x : α) (u : Value) (e : enc x = (enc l[i]).set c u) : Slid enc k E (w.setCell ⟨g, off + i * k + c, none⟩ u) (.slice (some ⟨g, off, none⟩) n cap) (l.set i x) := by
  rcases h.ex with ⟨h1, _⟩ | ⟨g', off', cap', cur, h1, h2, h3, h4, h5, h6⟩
  · cases h1
  · simp only [Value.slice.injEq, Option.some.injEq, Addr.mk.injEq] at h1
    obtain ⟨⟨rfl, rfl, _⟩, rfl, rfl⟩ := h1
    refine ⟨Or.inr ⟨g, off, cap, cur.setIfInBounds (off + i * k + c) u, by rw [List.length_set], heap_setCell_same w g (off + i * k + c) _ _ _ h2, by rw [List.length_set]; exact h3, h4, by simpa using h5, ?_⟩⟩
    rw [List.length_set, rowL_set hk l i hi c x u hc e, Array.toList_setIfInBounds, List.drop_set, if_neg (by omega), List.take_set, h6]
    have e2 : off + i * k + c - off = i * k + c := by omega
    rw [e2]
/-- A cell of a row of one's own may be written. -/
theorem Slid.free {α : Type} {k : Nat} {enc : α → List Value} {E : TypeId} {w : World} {l : List α} {g off n cap : Nat} (h : Slid enc k E w (.slice (some ⟨g, off, none⟩) n cap) l) (j : Nat) : w.frozen? ⟨g, j, none⟩ = false := by
  rcases h.ex with ⟨h1, _⟩ | ⟨g', off', cap', cur, h1, h2, h3, h4, h5, h6⟩
  · cases h1
  · simp only [Value.slice.injEq, Option.some.injEq, Addr.mk.injEq] at h1
    obtain ⟨⟨rfl, rfl, _⟩, rfl, rfl⟩ := h1
    simp [World.frozen?, h2]
section
variable {w w' : World} {base D : Nat} {ro : Nat → Option Nat} {vT vL : Value} {tv : List Tv} {od : List Nat} {T : List Tk} {L : List (Int × Ob)}
end
/-- The place behind the OpEnd, with so many open. -/
def pastL : List Opx → Nat → Int → Nat
  | [], a, _ => a
  | o :: r, a, d => if (if o.1 = 7 then d + 1 else if o.1 = 8 then d - 1 else d) = 0 then a + 1 else pastL r (a + 1) (if o.1 = 7 then d + 1 else if o.1 = 8 then d - 1 else d)
/-- Tasks go on. -/
def wake1 (T : List Tk) (x : Nat) : List Tk := match T[x]? with | some t => T.set x { t with bl := false } | none => T
def wakeT : List Tk → List Int → List Tk
  | T, [] => T
  | T, x :: l => wakeT (wake1 T x.toNat) l
theorem wake1_length (T : List Tk) (x : Nat) : (wake1 T x).length = T.length := by
  unfold wake1
  split
  · rw [List.length_set]
  · rfl
theorem wakeT_length : ∀ (l : List Int) (T : List Tk), (wakeT T l).length = T.length
  | [], T => rfl
  | x :: l, T => by rw [wakeT, wakeT_length l, wake1_length]
section
variable {w w' : World} {base D : Nat} {ro : Nat → Option Nat} {vT vL : Value} {tv : List Tv} {od : List Nat} {T : List Tk} {L : List (Int × Ob)}
end
end Go.Proofs.Ythhlglbohibekaa
/-
  The document's scheduler (package latchkeyref10): an object found or made. The condition: fewer than 65536 objects.
-/
namespace Go.Proofs.Ythhlglbohibekaa
open Go.RowKit

def obFind (L : List (Int × Ob)) (k num : Int) : Nat := L.findIdx fun p => p.2.k == k && p.1 == num
def obAdd (L : List (Int × Ob)) (k num : Int) : List (Int × Ob) := if obFind L k num < L.length then L else L ++ [(num, obNew k)]
section
variable {w w1 w3 : World} {base D Dn : Nat} {ro : Nat → Option Nat} {vT vL u : Value} {tv : List Tv} {od : List Nat} {T : List Tk} {L : List (Int × Ob)} {num : Int} {o : Ob}
end
end Go.Proofs.Ythhlglbohibekaa
/-
  The document's scheduler (package latchkeyref10): an object that is there, found. The condition: at most 65536 objects.
-/
namespace Go.Proofs.Ythhlglbohibekaa
open Go.RowKit

theorem obFind_is {L : List (Int × Ob)} {k num : Int} {f : Nat} (hf : obFind L k num = f) (hL : f < L.length) : L[f].2.k = k ∧ L[f].1 = num := by
  subst hf
  have := List.findIdx_getElem (p := fun p : Int × Ob => p.2.k == k && p.1 == num) (xs := L) (w := hL)
  simp only [Bool.and_eq_true, beq_iff_eq] at this
  exact this
section
variable {w w' : World} {base D : Nat} {ro : Nat → Option Nat} {vT vL : Value} {tv : List Tv} {od : List Nat} {T : List Tk} {L : List (Int × Ob)}
end
end Go.Proofs.Ythhlglbohibekaa
/-
  The document's scheduler (package latchkeyref10): an object that is not there, made. The condition: fewer than 65536 objects.
-/
namespace Go.Proofs.Ythhlglbohibekaa
open Go.RowKit

section
variable {w w1 w3 wE : World} {base D Dn R : Nat} {ro : Nat → Option Nat} {vT vL u : Value} {tv : List Tv} {od : List Nat} {T : List Tk} {L : List (Int × Ob)} {num : Int} {o : Ob}
end
section
variable {P : Program} {md : Region.Mode} {Q : Exit → Act → World → Prop} {S : World → Prop} {fuel : Nat} {listed : Array Bool} {a : Act} {w : World} {l : List Oper}
end
section
variable {w : World} {base D : Nat} {ro : Nat → Option Nat} {vT vL : Value} {tv : List Tv} {od : List Nat} {T : List Tk} {L : List (Int × Ob)}
end
section
variable {w : World} {base D : Nat} {ro : Nat → Option Nat} {vT vL : Value} {tv : List Tv} {od : List Nat} {T : List Tk} {L : List (Int × Ob)}
end
section
variable {w : World} {base D : Nat} {ro : Nat → Option Nat} {vT vL : Value} {tv : List Tv} {od : List Nat} {T : List Tk} {L : List (Int × Ob)}
end
section
variable {w : World} {base D : Nat} {ro : Nat → Option Nat} {vT vL : Value} {tv : List Tv} {od : List Nat} {T : List Tk} {L : List (Int × Ob)}
end
section
variable {w : World} {base D : Nat} {ro : Nat → Option Nat} {vT vL : Value} {tv : List Tv} {od : List Nat} {T : List Tk} {L : List (Int × Ob)}
theorem obAdd_at (L : List (Int × Ob)) (k num : Int) : ∃ o, (obAdd L k num)[obFind L k num]? = some (num, o) ∧ o.k = k := by
  unfold obAdd
  split
  · rename_i hf
    obtain ⟨h1, h2⟩ := obFind_is (L := L) (k := k) (num := num) rfl hf
    exact ⟨L[obFind L k num].2, by rw [List.getElem?_eq_getElem hf]; exact congrArg some (Prod.ext h2 rfl), h1⟩
  · rename_i hf
    have e : obFind L k num = L.length := Nat.le_antisymm List.findIdx_le_length (by omega)
    exact ⟨obNew k, by rw [e]; simp, rfl⟩
end
end Go.Proofs.Ythhlglbohibekaa
/-
  The document's scheduler (package latchkeyref10): an object by kind and number, and what became of it. The condition: fewer than 65536 objects.
-/
namespace Go.Proofs.Ythhlglbohibekaa
open Go.RowKit

/-- The object of a kind and a number: it, or a new one. -/
def obG (L : List (Int × Ob)) (k num : Int) : Ob := ((obAdd L k num)[obFind L k num]?.map (·.2)).getD (obNew k)
def obPut (L : List (Int × Ob)) (k num : Int) (o : Ob) : List (Int × Ob) := (obAdd L k num).set (obFind L k num) (num, o)
theorem obG_at (L : List (Int × Ob)) (k num : Int) : (obAdd L k num)[obFind L k num]? = some (num, obG L k num) ∧ (obG L k num).k = k := by
  obtain ⟨o, h1, h2⟩ := obAdd_at L k num
  have e : obG L k num = o := by
    unfold obG
    rw [h1]
    rfl
  rw [e]
  exact ⟨h1, h2⟩
section
variable {w w' : World} {base D : Nat} {ro : Nat → Option Nat} {vT vL : Value} {tv : List Tv} {od : List Nat} {T : List Tk} {L : List (Int × Ob)} {k num : Int} {d : Nat}
end
end Go.Proofs.Ythhlglbohibekaa
/-
  The document's scheduler (package latchkeyref10): locks and unlocks. The conditions: fewer than 65536 objects, and as many in a row; who is woken is a task.
-/
namespace Go.Proofs.Ythhlglbohibekaa
open Go.RowKit

def mxLk (o : Ob) (t : Int) : Ob := { o with h := lockW o.h o.l t, l := lockL o.h o.l t }
def mxUn (o : Ob) (t : Int) : Ob := { o with h := unW o.h o.l t, l := unL o.h o.l t }
def rwLk (o : Ob) (t : Int) (rd : Bool) : Ob := { o with l := (rwSt o.l o.b o.q t rd).1, b := (rwSt o.l o.b o.q t rd).2.1, q := (rwSt o.l o.b o.q t rd).2.2 }
def rwUn (o : Ob) (t : Int) (rd : Bool) : Ob := { o with l := (rwU o.l o.b o.q t rd).2.1, b := (rwU o.l o.b o.q t rd).2.2.1, q := (rwU o.l o.b o.q t rd).2.2.2 }
section
variable {w w' : World} {base D : Nat} {ro : Nat → Option Nat} {vT vL : Value} {tv : List Tv} {od : List Nat} {T : List Tk} {L : List (Int × Ob)}
end
end Go.Proofs.Ythhlglbohibekaa
/-
  The document's scheduler (package latchkeyref10): the onces that a task runs, turned. No condition.
-/
namespace Go.Proofs.Ythhlglbohibekaa
open Go.RowKit

theorem zip_set_left {α β : Type} : ∀ (a : List α) (b : List β) (i : Nat) (x : α) (y : β), (a.set i x).zip (b.set i y) = (a.zip b).set i (x, y)
  | [], b, i, _, _ => by simp
  | _ :: _, [], i, _, _ => by simp
  | _ :: a, _ :: b, 0, _, _ => by simp
  | z :: a, v :: b, i + 1, x, y => by
    have ih := zip_set_left a b i x y
    rw [List.set_cons_succ, List.set_cons_succ, List.zip_cons_cons, List.zip_cons_cons, List.set_cons_succ, ih]
section
variable {w w1 : World} {base D : Nat} {ro : Nat → Option Nat} {vT vL : Value} {tv : List Tv} {od : List Nat} {T : List Tk} {L : List (Int × Ob)}
/-- A row's front. -/
theorem Slid.front {α : Type} {k : Nat} {enc : α → List Value} {E : TypeId} {a : Option Addr} {l : List α} {n cap : Nat} (hk : ∀ x, (enc x).length = k) (h : Slid enc k E w (.slice a n cap) l) (m : Nat) (hm : m ≤ l.length) (hl : 0 < l.length) : Slid enc k E w (.slice a m cap) (l.take m) := by
  rcases h.ex with ⟨_, h2⟩ | ⟨g, off, cap', cur, h1, h2, h3, h4, h5, h6⟩
  · rw [h2] at hl
    exact absurd hl (Nat.lt_irrefl _)
  · simp only [Value.slice.injEq] at h1
    obtain ⟨rfl, _, rfl⟩ := h1
    have e1 : (l.take m).length = m := by rw [List.length_take]; omega
    refine ⟨Or.inr ⟨g, off, cap, cur, by rw [e1], h2, by omega, h4, h5, ?_⟩⟩
    rw [e1]
    have e2 : (cur.toList.drop off).take (m * k) = ((cur.toList.drop off).take (l.length * k)).take (m * k) := by
      rw [List.take_take, Nat.min_eq_left (Nat.mul_le_mul_right k hm)]
    rw [e2, h6]
    have e3 : rowL enc l = rowL enc (l.take m) ++ rowL enc (l.drop m) := by
      rw [← rowL_append, List.take_append_drop]
    rw [e3, ← e1, ← rowL_length hk (l.take m)]
    rw [List.length_take, Nat.min_eq_left hm]
    exact List.take_left
end
end Go.Proofs.Ythhlglbohibekaa
/-
  The document's scheduler (package latchkeyref10): the end of a once's running. The conditions: fewer than 65536 objects, and as many in a row; who is woken is a task.
-/
namespace Go.Proofs.Ythhlglbohibekaa
open Go.RowKit

def onDo (o : Ob) (t : Int) : Ob := { o with h := oDH o.h o.b o.l t, l := oDL o.h o.b o.l t }
def onEnd (o : Ob) (t : Int) : Ob := { o with h := oEH o.h t, b := oEV o.h o.b t, l := oEL o.h o.l t }
section
variable {w w1 : World} {base D : Nat} {ro : Nat → Option Nat} {vT vL : Value} {tv : List Tv} {od : List Nat} {T : List Tk} {L : List (Int × Ob)}
end
end Go.Proofs.Ythhlglbohibekaa
/-
  The document's scheduler (package latchkeyref10): a once is to run, and this task runs it. The conditions: fewer than 65536 objects, and as many in a row.
-/
namespace Go.Proofs.Ythhlglbohibekaa
open Go.RowKit

theorem RowAt.inn {w : World} {v : Value} {l : List Int} (h : RowAt intC w v l) : IntsIn w v l := by
  obtain ⟨a, cap, e, h1, h2, h3⟩ := h.ex
  cases a with
  | none =>
    have h4 := h2 rfl
    exact Or.inl ⟨by rw [e, h4.1, h4.2], List.length_eq_zero_iff.1 h4.1⟩
  | some x =>
    refine Or.inr ⟨x, cap, e, h1, ?_, fun j u hu => ?_⟩
    · rcases h3 with h3 | ⟨bk, off, e2, h4, _⟩
      · exact Or.inl h3
      · rw [Option.some.inj e2]
        exact Or.inr h4
    · rcases h3 with h3 | ⟨bk, off, e2, _, h5⟩
      · have : l = [] := List.length_eq_zero_iff.1 h3
        subst this
        simp [intL] at hu
      · rw [Option.some.inj e2, Addr.add_mid]
        exact h5 j u (by rw [rowL_int]; exact hu)
theorem Slid.own {α : Type} {k : Nat} {enc : α → List Value} {E : TypeId} {w : World} {v : Value} {l : List α} {base : Nat} (h : w.ownsRow base E k v l.length (rowL enc l)) : Slid enc k E w v l := by
  rcases h.2 with ⟨h1, h2⟩ | ⟨g, cap, cur, h1, h2, h3, h4, h5, h6, h7⟩
  · exact ⟨Or.inl ⟨h1, List.length_eq_zero_iff.1 h2⟩⟩
  · exact ⟨Or.inr ⟨g, 0, cap, cur, h1, h3, h4, h5, by omega, by rw [List.drop_zero]; exact h7⟩⟩
section
variable {w w1 : World} {base D : Nat} {ro : Nat → Option Nat} {vT vL : Value} {tv : List Tv} {od : List Nat} {T : List Tk} {L : List (Int × Ob)}
section
variable {P : Program} {md : Region.Mode} {Q : Exit → Act → World → Prop} {S : World → Prop} {fuel : Nat} {listed : Array Bool} {a : Act} {w : World} {l : List Oper}
theorem rd4_8 {o0 o1 o2 o3 o4 o5 o6 o7 o8 : Oper} (hr : Region.ready md (o0 :: o1 :: o2 :: o3 :: o4 :: o5 :: o6 :: o7 :: o8 :: l).toArray listed = [4, 8]) (hw0 : Region.wanted o4 (yielded (o0 :: o1 :: o2 :: o3 :: o4 :: o5 :: o6 :: o7 :: o8 :: l).toArray a.tmps) = true) (hw1 : Region.wanted o8 (yielded (o0 :: o1 :: o2 :: o3 :: o4 :: o5 :: o6 :: o7 :: o8 :: l).toArray a.tmps) = true)
    (h0 : ∀ K' : Act → World → Prop, Shut (∀ a w, S w → (S w → wpAnyH P md (o0 :: o1 :: o2 :: o3 :: o4 :: o5 :: o6 :: o7 :: o8 :: l).toArray Q S fuel (listed.setIfInBounds 4 true) a w) → K' a w) → Oper.wp P o4 a w K' Q)
    (h1 : ∀ K' : Act → World → Prop, Shut (∀ a w, S w → (S w → wpAnyH P md (o0 :: o1 :: o2 :: o3 :: o4 :: o5 :: o6 :: o7 :: o8 :: l).toArray Q S fuel (listed.setIfInBounds 8 true) a w) → K' a w) → Oper.wp P o8 a w K' Q) : wpAnyH P md (o0 :: o1 :: o2 :: o3 :: o4 :: o5 :: o6 :: o7 :: o8 :: l).toArray Q S (fuel + 1) listed a w :=
  wpAnyH_ready hr (by simp) (AllReadyH.cons (o := o4) rfl (fun K hK => by rw [if_pos hw0]; exact h0 K hK) (AllReadyH.cons (o := o8) rfl (fun K hK => by rw [if_pos hw1]; exact h1 K hK) AllReadyH.nil))
end
end
end Go.Proofs.Ythhlglbohibekaa
/-
  The document's scheduler (package latchkeyref10): lock and once, each whole, as plain functions of tasks and objects. The conditions: at most 65536 tasks, and operations of each; fewer than 65536 objects, and as many in a row; who waits is a task.
-/
namespace Go.Proofs.Ythhlglbohibekaa
open Go.RowKit

/-- An object among n tasks, after k steps. -/
structure ObOk (n k : Nat) (o : Ob) : Prop where
  ln : o.l.length + o.q.length ≤ k
  li : ∀ x ∈ o.l, 0 ≤ x ∧ x < (n : Int)
  qi : ∀ y ∈ o.q, 0 ≤ y.1 ∧ y.1 < (n : Int)
  gh : o.k = 2 → 0 ≤ o.h ∧ o.h ≤ 1073741824
theorem ObOk.new (n k : Nat) (j : Int) : ObOk n k (obNew j) := ⟨Nat.zero_le _, fun _ h => (by cases h), fun _ h => (by cases h), fun e => by
  have e1 : j = 2 := e
  subst e1
  decide⟩
theorem ObOk.get {n k : Nat} {L : List (Int × Ob)} (h : ∀ p ∈ L, ObOk n k p.2) (j num : Int) : ObOk n k (obG L j num) := by
  have h1 := (obG_at L j num).1
  unfold obAdd at h1
  split at h1
  · exact h _ (List.mem_of_getElem? h1)
  · have h2 := List.mem_of_getElem? h1
    rw [List.mem_append] at h2
    rcases h2 with h2 | h2
    · exact h _ h2
    · have h3 := List.mem_singleton.1 h2
      have h4 : obG L j num = obNew j := congrArg Prod.snd h3
      rw [h4]
      exact ObOk.new n k j
/-- lock: whether it waits, the error, the tasks, the objects. -/
def lkR (T : List Tk) (L : List (Int × Ob)) (t : Int) (o : Opx) : Bool × Int × List Tk × List (Int × Ob) :=
  if o.1 = 1 ∧ o.2.2 = 0 then (!lockB (obG L 0 o.2.1).h (obG L 0 o.2.1).l t, lockZ (obG L 0 o.2.1).h (obG L 0 o.2.1).l t, T, obPut L 0 o.2.1 (mxLk (obG L 0 o.2.1) t))
  else if o.1 = 1 ∧ o.2.2 = 1 ∨ o.1 = 3 then (!rwB (obG L 1 o.2.1).l (obG L 1 o.2.1).b (obG L 1 o.2.1).q t (decide (o.1 = 3)), rwZ (obG L 1 o.2.1).l (obG L 1 o.2.1).q t, T, obPut L 1 o.2.1 (rwLk (obG L 1 o.2.1) t (decide (o.1 = 3))))
  else if o.1 = 2 ∧ o.2.2 = 0 then (false, unZ (obG L 0 o.2.1).h t, (if unZ (obG L 0 o.2.1).h t = 0 ∧ 0 ≤ unN (obG L 0 o.2.1).h (obG L 0 o.2.1).l t then wakeT T [unN (obG L 0 o.2.1).h (obG L 0 o.2.1).l t] else T), obPut L 0 o.2.1 (mxUn (obG L 0 o.2.1) t))
  else if o.1 = 2 ∧ o.2.2 = 1 ∨ o.1 = 4 then (false, rwUZ (obG L 1 o.2.1).l (obG L 1 o.2.1).b t (decide (o.1 = 4)), wakeT T (rwU (obG L 1 o.2.1).l (obG L 1 o.2.1).b (obG L 1 o.2.1).q t (decide (o.1 = 4))).1, obPut L 1 o.2.1 (rwUn (obG L 1 o.2.1) t (decide (o.1 = 4))))
  else (false, 1, T, L)
/-- once: as lock. -/
def ocR (T : List Tk) (L : List (Int × Ob)) (i : Nat) (o : Opx) : Bool × Int × List Tk × List (Int × Ob) :=
  match T[i]? with
  | none => (false, 1, T, L)
  | some t =>
    if o.1 = 8 then (if t.runs.getLast? = some o.2.1 then (false, oEZ (obG L 3 o.2.1).h (i : Int), wakeT (T.set i { t with runs := t.runs.dropLast }) (oEO (obG L 3 o.2.1).h (obG L 3 o.2.1).l (i : Int)), obPut L 3 o.2.1 (onEnd (obG L 3 o.2.1) (i : Int))) else (false, 1, T, L))
    else if oDZ (obG L 3 o.2.1).h (obG L 3 o.2.1).l (i : Int) ≠ 0 then (false, oDZ (obG L 3 o.2.1).h (obG L 3 o.2.1).l (i : Int), T, obPut L 3 o.2.1 (onDo (obG L 3 o.2.1) (i : Int)))
    else (oDW (obG L 3 o.2.1).h (obG L 3 o.2.1).b (obG L 3 o.2.1).l (i : Int), 0, (if oDR (obG L 3 o.2.1).h (obG L 3 o.2.1).b (obG L 3 o.2.1).l (i : Int) = true then T.set i { t with runs := t.runs ++ [o.2.1] } else T.set i { t with pos := pastL (t.ops.drop t.pos) t.pos 1 }), obPut L 3 o.2.1 (onDo (obG L 3 o.2.1) (i : Int)))
section
variable {w : World} {base D : Nat} {ro : Nat → Option Nat} {vT vL : Value} {tv : List Tv} {od : List Nat} {T : List Tk} {L : List (Int × Ob)}
end
end Go.Proofs.Ythhlglbohibekaa
/-
  The document's scheduler (package latchkeyref10): a task's next operation: what all kinds share; a task that is not ready, a yield. The condition: at most 65536 operations.
-/
namespace Go.Proofs.Ythhlglbohibekaa
open Go.RowKit

theorem infoE : (Try.prog.info? 32).map (·.size) = some 3 := by kernel_rfl
theorem results_ev {fn : Func} {p u : Tmp} (h : fn.results = #[.cell p 32, .tmp u]) (tmps : Array Value) (w : World) (g : Nat) (cs : Array Value) (hp : tmps.getD p undef = .pointer (some ⟨g, 0, none⟩)) (hg : w.heap[g]? = some (.cells cs 32 (0, 0))) (hc : cs.size = 3) :
    (results fn tmps).run Try.prog w = .ok (.tuple #[.agg cs, tmps.getD u undef]) w := by
  have hp' : tmps[p]?.getD undef = .pointer (some ⟨g, 0, none⟩) := by simpa using hp
  simp [results, h, hp', asAddr, run_loadVar_row w g 32 32 cs (0, 0) _ hg Try.underlying32 rfl (by rw [hc]; exact infoE)]
section
variable {w w1 wE : World} {base D : Nat} {ro : Nat → Option Nat} {vT vL : Value} {tv : List Tv} {od : List Nat} {T : List Tk} {L : List (Int × Ob)}
end
end Go.Proofs.Ythhlglbohibekaa
/-
  The document's scheduler (package latchkeyref10): a task's next operation: what all kinds share; waits for a group. The condition: at most 65536 operations.
-/
namespace Go.Proofs.Ythhlglbohibekaa
open Go.RowKit

def grWt (o : Ob) (t : Int) : Ob := { o with l := gWL o.h o.l t }
section
variable {w w1 wE : World} {base D : Nat} {ro : Nat → Option Nat} {vT vL : Value} {tv : List Tv} {od : List Nat} {T : List Tk} {L : List (Int × Ob)}
end
end Go.Proofs.Ythhlglbohibekaa
/-
  The document's scheduler (package latchkeyref10): a task's next operation: what all kinds share; a group turns. The condition: at most 65536 operations.
-/
namespace Go.Proofs.Ythhlglbohibekaa
open Go.RowKit

def grAd (o : Ob) (k : Int) : Ob := { o with h := gAN o.h k, l := gAL o.h o.l k }
section
variable {w w1 wE : World} {base D : Nat} {ro : Nat → Option Nat} {vT vL : Value} {tv : List Tv} {od : List Nat} {T : List Tk} {L : List (Int × Ob)}
end
end Go.Proofs.Ythhlglbohibekaa
/-
  The document's scheduler (package latchkeyref10): a step, whole, as a plain function of tasks and objects. The conditions: at most 65536 tasks, and operations of each; fewer than 65536 objects, and as many in a row; who waits is a task.
-/
namespace Go.Proofs.Ythhlglbohibekaa
open Go.RowKit

def setBl (T : List Tk) (i : Nat) (b : Bool) : List Tk := match T[i]? with | some t => T.set i { t with bl := b } | none => T
/-- What an operation does: whether it waits, its error, the tasks, the objects. -/
def acR (T : List Tk) (L : List (Int × Ob)) (i : Nat) (o : Opx) : Bool × Int × List Tk × List (Int × Ob) :=
  if o.1 = 9 then (false, 0, T, L)
  else if o.1 = 5 then (false, gAZ (obG L 2 o.2.1).h o.2.2, wakeT T (gAO (obG L 2 o.2.1).h (obG L 2 o.2.1).l o.2.2), obPut L 2 o.2.1 (grAd (obG L 2 o.2.1) o.2.2))
  else if o.1 = 6 then (!gWB (obG L 2 o.2.1).h (obG L 2 o.2.1).l (i : Int), gWZ (obG L 2 o.2.1).l (i : Int), T, obPut L 2 o.2.1 (grWt (obG L 2 o.2.1) (i : Int)))
  else if o.1 = 7 ∨ o.1 = 8 then ocR T L i o
  else lkR T L (i : Int) o
/-- A step of a task that is ready: the event, the tasks, the objects. -/
def stR (T : List Tk) (L : List (Int × Ob)) (i : Nat) : Opx × List Tk × List (Int × Ob) :=
  match T[i]? with
  | none => ((0, 0, 0), T, L)
  | some t => match t.ops[t.pos]? with
    | none => ((0, 0, 0), T, L)
    | some o => (((i : Int), (t.pos : Int), (acR (T.set i { t with pos := t.pos + 1 }) L i o).2.1), setBl (acR (T.set i { t with pos := t.pos + 1 }) L i o).2.2.1 i ((acR (T.set i { t with pos := t.pos + 1 }) L i o).1 && ((acR (T.set i { t with pos := t.pos + 1 }) L i o).2.1 == 0)), (acR (T.set i { t with pos := t.pos + 1 }) L i o).2.2.2)
theorem setBl_at (T : List Tk) (i : Nat) (hi : i < T.length) (b : Bool) : setBl T i b = T.set i { T[i] with bl := b } := by
  unfold setBl
  rw [List.getElem?_eq_getElem hi]
section
variable {w : World} {base D : Nat} {ro : Nat → Option Nat} {vT vL : Value} {tv : List Tv} {od : List Nat} {T : List Tk} {L : List (Int × Ob)}
end
end Go.Proofs.Ythhlglbohibekaa
/-
  The document's scheduler as a plain function: what a step keeps: the tasks' operations, places within them, who waits is a task, how much may lie in a row. No condition.
-/
namespace Go.Proofs.Ythhlglbohibekaa
open Go.RowKit

theorem ObOk.mono {n k k' : Nat} {o : Ob} (h : ObOk n k o) (hk : k ≤ k') : ObOk n k' o := ⟨Nat.le_trans h.ln hk, h.li, h.qi, h.gh⟩
theorem obAdd_len (L : List (Int × Ob)) (k num : Int) : (obAdd L k num).length ≤ L.length + 1 := by
  unfold obAdd
  split
  · omega
  · simp
theorem obPut_len (L : List (Int × Ob)) (k num : Int) (o : Ob) : (obPut L k num o).length ≤ L.length + 1 := by
  unfold obPut
  rw [List.length_set]
  exact obAdd_len L k num
theorem obPut_mem {L : List (Int × Ob)} {k num : Int} {o : Ob} {p : Int × Ob} (h : p ∈ obPut L k num o) : p.2 = o ∨ p ∈ L ∨ p.2 = obNew k := by
  unfold obPut at h
  rcases List.mem_or_eq_of_mem_set h with h | h
  · unfold obAdd at h
    split at h
    · exact Or.inr (Or.inl h)
    · rcases List.mem_append.1 h with h | h
      · exact Or.inr (Or.inl h)
      · rw [List.mem_singleton] at h
        exact Or.inr (Or.inr (by rw [h]))
  · exact Or.inl (by rw [h])
theorem ObOk.put {n k : Nat} {L : List (Int × Ob)} (h : ∀ p ∈ L, ObOk n k p.2) (j num : Int) {o : Ob} (ho : ObOk n (k + 1) o) : ∀ p ∈ obPut L j num o, ObOk n (k + 1) p.2 := fun p hp => by
  rcases obPut_mem hp with h1 | h1 | h1
  · rw [h1]
    exact ho
  · exact (h p h1).mono (Nat.le_succ _)
  · rw [h1]
    exact ObOk.new n (k + 1) j
section
variable {n k : Nat} {o : Ob} {t : Int}
theorem mem_tail_of {l : List Int} {x : Int} (h : x ∈ l.tail) : x ∈ l := List.mem_of_mem_tail h
theorem ObOk.mxLk (h : ObOk n k o) (hk : o.k = 0) (ht : 0 ≤ t ∧ t < (n : Int)) : ObOk n (k + 1) (mxLk o t) := by
  have h1 := h.ln
  refine ⟨?_, fun x hx => ?_, h.qi, fun e => ?_⟩
  · show (lockL o.h o.l t).length + o.q.length ≤ k + 1
    unfold lockL
    split
    · simp
      omega
    · omega
  · have hx : x ∈ lockL o.h o.l t := hx
    unfold lockL at hx
    split at hx
    · rcases List.mem_append.1 hx with hx | hx
      · exact h.li x hx
      · rw [List.mem_singleton] at hx
        rw [hx]
        exact ht
    · exact h.li x hx
  · have e1 : o.k = 2 := e
    rw [hk] at e1
    cases e1
theorem ObOk.mxUn (h : ObOk n k o) (hk : o.k = 0) : ObOk n (k + 1) (mxUn o t) := by
  have h1 := h.ln
  refine ⟨?_, fun x hx => ?_, h.qi, fun e => ?_⟩
  · show (unL o.h o.l t).length + o.q.length ≤ k + 1
    unfold unL
    split
    · omega
    · rw [List.length_tail]
      omega
  · have hx : x ∈ unL o.h o.l t := hx
    unfold unL at hx
    split at hx
    · exact h.li x hx
    · exact h.li x (mem_tail_of hx)
  · have e1 : o.k = 2 := e
    rw [hk] at e1
    cases e1
theorem ObOk.rwLk (h : ObOk n k o) (hk : o.k = 1) (ht : 0 ≤ t ∧ t < (n : Int)) (rd : Bool) : ObOk n (k + 1) (rwLk o t rd) := by
  have h1 := h.ln
  refine ⟨?_, fun x hx => ?_, fun y hy => ?_, fun e => ?_⟩
  · show (rwSt o.l o.b o.q t rd).1.length + (rwSt o.l o.b o.q t rd).2.2.length ≤ k + 1
    unfold rwSt
    split
    · split
      · show (putL o.l t).length + o.q.length ≤ k + 1
        rw [putL_length]
        omega
      · show o.l.length + (o.q ++ [(t, rd, true)]).length ≤ k + 1
        simp
        omega
    · show o.l.length + o.q.length ≤ k + 1
      omega
  · have hx : x ∈ (rwSt o.l o.b o.q t rd).1 := hx
    unfold rwSt at hx
    split at hx
    · split at hx
      · rcases putL_mem hx with e | hx
        · rw [e]
          exact ht
        · exact h.li x hx
      · exact h.li x hx
    · exact h.li x hx
  · have hy : y ∈ (rwSt o.l o.b o.q t rd).2.2 := hy
    unfold rwSt at hy
    split at hy
    · split at hy
      · exact h.qi y hy
      · rcases List.mem_append.1 hy with hy | hy
        · exact h.qi y hy
        · rw [List.mem_singleton] at hy
          rw [hy]
          exact ht
    · exact h.qi y hy
  · have e1 : o.k = 2 := e
    rw [hk] at e1
    cases e1
theorem rwGo_keeps : ∀ (q : List Wt) (L : List Int) (wt : Bool), (rwGo L wt q).2.1.length + (rwGo L wt q).2.2.2.length ≤ L.length + q.length ∧ (∀ x ∈ (rwGo L wt q).2.1, x ∈ L ∨ ∃ y ∈ q, y.1 = x) ∧ ∀ y ∈ (rwGo L wt q).2.2.2, y ∈ q
  | [], L, wt => by simp [rwGo]
  | y :: q, L, wt => by
    rw [rwGo]
    split
    · obtain ⟨h1, h2, h3⟩ := rwGo_keeps q (putL L y.1) (!y.2.1)
      refine ⟨?_, fun x hx => ?_, fun z hz => List.mem_cons_of_mem _ (h3 z hz)⟩
      · rw [putL_length] at h1
        simp only [List.length_cons]
        omega
      · rcases h2 x hx with h | ⟨z, hz, e⟩
        · rcases putL_mem h with e | h
          · exact Or.inr ⟨y, List.mem_cons_self, e.symm⟩
          · exact Or.inl h
        · exact Or.inr ⟨z, List.mem_cons_of_mem _ hz, e⟩
    · exact ⟨Nat.le_refl _, fun x hx => Or.inl hx, fun z hz => hz⟩
theorem ObOk.rwUn (h : ObOk n k o) (hk : o.k = 1) (rd : Bool) : ObOk n (k + 1) (rwUn o t rd) := by
  have h1 := h.ln
  have hd : (dropL o.l t).length ≤ o.l.length := by
    unfold dropL
    exact List.length_filter_le _ _
  have hm : ∀ x ∈ dropL o.l t, x ∈ o.l := fun x hx => by
    unfold dropL at hx
    exact (List.mem_filter.1 hx).1
  obtain ⟨g1, g2, g3⟩ := rwGo_keeps o.q (dropL o.l t) o.b
  refine ⟨?_, fun x hx => ?_, fun y hy => ?_, fun e => ?_⟩
  · show (rwU o.l o.b o.q t rd).2.1.length + (rwU o.l o.b o.q t rd).2.2.2.length ≤ k + 1
    unfold rwU
    split
    · show o.l.length + o.q.length ≤ k + 1
      omega
    · omega
  · have hx : x ∈ (rwU o.l o.b o.q t rd).2.1 := hx
    unfold rwU at hx
    split at hx
    · exact h.li x hx
    · rcases g2 x hx with e | ⟨y, hy, e⟩
      · exact h.li x (hm x e)
      · rw [← e]
        exact h.qi y hy
  · have hy : y ∈ (rwU o.l o.b o.q t rd).2.2.2 := hy
    unfold rwU at hy
    split at hy
    · exact h.qi y hy
    · exact h.qi y (g3 y hy)
  · have e1 : o.k = 2 := e
    rw [hk] at e1
    cases e1
theorem ObOk.grAd (h : ObOk n k o) (hk : o.k = 2) (z : Int) : ObOk n (k + 1) (grAd o z) := by
  have h1 := h.ln
  have h2 := h.gh hk
  refine ⟨?_, fun x hx => ?_, h.qi, fun _ => ?_⟩
  · show (gAL o.h o.l z).length + o.q.length ≤ k + 1
    unfold gAL
    split
    · simp
      omega
    · omega
  · have hx : x ∈ gAL o.h o.l z := hx
    unfold gAL at hx
    split at hx
    · cases hx
    · exact h.li x hx
  · show 0 ≤ gAN o.h z ∧ gAN o.h z ≤ 1073741824
    by_cases h3 : gAZ o.h z = 0
    · have e : gAN o.h z = o.h + z := by unfold gAN; rw [if_pos h3]
      rw [e]
      unfold gAZ at h3
      split at h3
      · exact absurd h3 (by decide)
      · split at h3
        · exact absurd h3 (by decide)
        · omega
    · have e : gAN o.h z = o.h := by unfold gAN; rw [if_neg h3]
      rw [e]
      exact h2
theorem ObOk.grWt (h : ObOk n k o) (hk : o.k = 2) (ht : 0 ≤ t ∧ t < (n : Int)) : ObOk n (k + 1) (grWt o t) := by
  have h1 := h.ln
  refine ⟨?_, fun x hx => ?_, h.qi, fun _ => h.gh hk⟩
  · show (gWL o.h o.l t).length + o.q.length ≤ k + 1
    unfold gWL
    split
    · simp
      omega
    · omega
  · have hx : x ∈ gWL o.h o.l t := hx
    unfold gWL at hx
    split at hx
    · rcases List.mem_append.1 hx with hx | hx
      · exact h.li x hx
      · rw [List.mem_singleton] at hx
        rw [hx]
        exact ht
    · exact h.li x hx
theorem ObOk.onDo (h : ObOk n k o) (hk : o.k = 3) (ht : 0 ≤ t ∧ t < (n : Int)) : ObOk n (k + 1) (onDo o t) := by
  have h1 := h.ln
  refine ⟨?_, fun x hx => ?_, h.qi, fun e => ?_⟩
  · show (oDL o.h o.b o.l t).length + o.q.length ≤ k + 1
    unfold oDL
    split
    · simp
      omega
    · omega
  · have hx : x ∈ oDL o.h o.b o.l t := hx
    unfold oDL at hx
    split at hx
    · rcases List.mem_append.1 hx with hx | hx
      · exact h.li x hx
      · rw [List.mem_singleton] at hx
        rw [hx]
        exact ht
    · exact h.li x hx
  · have e1 : o.k = 2 := e
    rw [hk] at e1
    cases e1
theorem ObOk.onEnd (h : ObOk n k o) (hk : o.k = 3) : ObOk n (k + 1) (onEnd o t) := by
  have h1 := h.ln
  refine ⟨?_, fun x hx => ?_, h.qi, fun e => ?_⟩
  · show (oEL o.h o.l t).length + o.q.length ≤ k + 1
    unfold oEL
    split
    · omega
    · simp
      omega
  · have hx : x ∈ oEL o.h o.l t := hx
    unfold oEL at hx
    split at hx
    · exact h.li x hx
    · cases hx
  · have e1 : o.k = 2 := e
    rw [hk] at e1
    cases e1
end
/-- The tasks' places and rows. -/
def TOk (k : Nat) (T : List Tk) : Prop := ∀ t ∈ T, t.ops.length ≤ 65536 ∧ t.pos ≤ t.ops.length ∧ t.runs.length ≤ k
section
variable {k : Nat} {T : List Tk} {L : List (Int × Ob)}
theorem TOk.mono {k' : Nat} (h : TOk k T) (hk : k ≤ k') : TOk k' T := fun t ht => ⟨(h t ht).1, (h t ht).2.1, Nat.le_trans (h t ht).2.2 hk⟩
theorem TOk.at {i : Nat} (h : TOk k T) (hi : i < T.length) : T[i].ops.length ≤ 65536 ∧ T[i].pos ≤ T[i].ops.length ∧ T[i].runs.length ≤ k := h _ (List.getElem_mem hi)
theorem TOk.set {i : Nat} {t : Tk} (h : TOk k T) (ht : t.ops.length ≤ 65536 ∧ t.pos ≤ t.ops.length ∧ t.runs.length ≤ k) : TOk k (T.set i t) := fun x hx => by
  rcases List.mem_or_eq_of_mem_set hx with hx | hx
  · exact h x hx
  · rw [hx]
    exact ht
theorem TOk.wake1 (h : TOk k T) (x : Nat) : TOk k (wake1 T x) := by
  unfold Go.Proofs.Ythhlglbohibekaa.wake1
  split
  · rename_i t ht
    exact h.set (by have := h t (List.mem_of_getElem? ht); exact this)
  · exact h
theorem TOk.wake : ∀ (l : List Int) {T : List Tk}, TOk k T → TOk k (wakeT T l)
  | [], _, h => h
  | x :: l, _, h => TOk.wake l (h.wake1 x.toNat)
theorem TOk.setBl (h : TOk k T) (i : Nat) (b : Bool) : TOk k (setBl T i b) := by
  unfold Go.Proofs.Ythhlglbohibekaa.setBl
  split
  · rename_i t ht
    exact h.set (by have := h t (List.mem_of_getElem? ht); exact this)
  · exact h
/-- The tasks' operations. -/
def opsL (T : List Tk) : List (List Opx) := T.map (·.ops)
theorem opsL_set {i : Nat} {t : Tk} (hi : i < T.length) (ht : t.ops = T[i].ops) : opsL (T.set i t) = opsL T := by
  unfold opsL
  rw [List.map_set, ht]
  apply List.ext_getElem
  · simp
  · intro j h1 h2
    rw [List.getElem_set]
    split
    · rename_i e
      subst e
      simp
    · rfl
theorem opsL_set? {i : Nat} {t t' : Tk} (h : T[i]? = some t') (ht : t.ops = t'.ops) : opsL (T.set i t) = opsL T := by
  obtain ⟨hi, e⟩ := List.getElem?_eq_some_iff.1 h
  exact opsL_set hi (by rw [ht, e])
theorem opsL_wake1 (T : List Tk) (x : Nat) : opsL (wake1 T x) = opsL T := by
  unfold wake1
  split
  · rename_i t ht
    exact opsL_set? ht rfl
  · rfl
theorem opsL_wake : ∀ (l : List Int) (T : List Tk), opsL (wakeT T l) = opsL T
  | [], _ => rfl
  | x :: l, T => by rw [wakeT, opsL_wake l, opsL_wake1]
theorem opsL_setBl (T : List Tk) (i : Nat) (b : Bool) : opsL (setBl T i b) = opsL T := by
  unfold setBl
  split
  · rename_i t ht
    exact opsL_set? ht rfl
  · rfl
theorem setBl_length (T : List Tk) (i : Nat) (b : Bool) : (setBl T i b).length = T.length := by
  have := congrArg List.length (opsL_setBl T i b)
  unfold opsL at this
  simpa using this
theorem pastL_bounds : ∀ (l : List Opx) (a : Nat) (d : Int), a ≤ pastL l a d ∧ pastL l a d ≤ a + l.length
  | [], a, d => ⟨Nat.le_refl _, by simp [pastL]⟩
  | o :: r, a, d => by
    have := pastL_bounds r (a + 1) (if o.1 = 7 then d + 1 else if o.1 = 8 then d - 1 else d)
    rw [pastL]
    generalize (if o.1 = 7 then d + 1 else if o.1 = 8 then d - 1 else d) = e at *
    split
    · simp
    · simp only [List.length_cons]
      omega
end
/-- All that holds behind k steps. -/
structure StOk (k : Nat) (T : List Tk) (L : List (Int × Ob)) : Prop where
  nt : T.length ≤ 65536
  tk : TOk k T
  nl : L.length ≤ k
  ob : ∀ p ∈ L, ObOk T.length k p.2
section
variable {k : Nat} {T : List Tk} {L : List (Int × Ob)}
theorem lkR_ok (h : StOk k T L) (t : Int) (ht : 0 ≤ t ∧ t < (T.length : Int)) (o : Opx) : StOk (k + 1) (lkR T L t o).2.2.1 (lkR T L t o).2.2.2 ∧ opsL (lkR T L t o).2.2.1 = opsL T := by
  have g0 := ObOk.get h.ob 0 o.2.1
  have g1 := ObOk.get h.ob 1 o.2.1
  have k0 := (obG_at L 0 o.2.1).2
  have k1 := (obG_at L 1 o.2.1).2
  have nl : ∀ j x, (obPut L j o.2.1 x).length ≤ k + 1 := fun j x => by have := obPut_len L j o.2.1 x; have := h.nl; omega
  unfold lkR
  split
  · exact ⟨⟨h.nt, h.tk.mono (Nat.le_succ _), nl _ _, ObOk.put h.ob 0 _ (g0.mxLk k0 ht)⟩, rfl⟩
  split
  · exact ⟨⟨h.nt, h.tk.mono (Nat.le_succ _), nl _ _, ObOk.put h.ob 1 _ (g1.rwLk k1 ht _)⟩, rfl⟩
  split
  · have hb := ObOk.put (j := 0) (num := o.2.1) h.ob (o := mxUn (obG L 0 o.2.1) t) (g0.mxUn k0)
    by_cases hc : unZ (obG L 0 o.2.1).h t = 0 ∧ 0 ≤ unN (obG L 0 o.2.1).h (obG L 0 o.2.1).l t
    · simp only [if_pos hc]
      exact ⟨⟨by rw [wakeT_length]; exact h.nt, TOk.wake _ (h.tk.mono (Nat.le_succ _)), nl _ _, by rw [wakeT_length]; exact hb⟩, opsL_wake _ _⟩
    · rw [if_neg hc]
      exact ⟨⟨h.nt, h.tk.mono (Nat.le_succ _), nl _ _, hb⟩, rfl⟩
  split
  · have hb := ObOk.put (j := 1) (num := o.2.1) h.ob (o := rwUn (obG L 1 o.2.1) t (decide (o.1 = 4))) (g1.rwUn k1 _)
    exact ⟨⟨by rw [wakeT_length]; exact h.nt, TOk.wake _ (h.tk.mono (Nat.le_succ _)), nl _ _, by rw [wakeT_length]; exact hb⟩, opsL_wake _ _⟩
  · exact ⟨⟨h.nt, h.tk.mono (Nat.le_succ _), Nat.le_succ_of_le h.nl, fun p hp => (h.ob p hp).mono (Nat.le_succ _)⟩, rfl⟩
theorem ocR_ok (h : StOk k T L) (i : Nat) (hi : i < T.length) (o : Opx) : StOk (k + 1) (ocR T L i o).2.2.1 (ocR T L i o).2.2.2 ∧ opsL (ocR T L i o).2.2.1 = opsL T := by
  have g3 := ObOk.get h.ob 3 o.2.1
  have k3 := (obG_at L 3 o.2.1).2
  have nl : ∀ j x, (obPut L j o.2.1 x).length ≤ k + 1 := fun j x => by have := obPut_len L j o.2.1 x; have := h.nl; omega
  have ht : 0 ≤ (i : Int) ∧ (i : Int) < (T.length : Int) := by omega
  obtain ⟨q1, q2, q3⟩ := h.tk.at hi
  have hsk : StOk (k + 1) T L := ⟨h.nt, h.tk.mono (Nat.le_succ _), Nat.le_succ_of_le h.nl, fun p hp => (h.ob p hp).mono (Nat.le_succ _)⟩
  have hdo := ObOk.put (j := 3) (num := o.2.1) h.ob (o := onDo (obG L 3 o.2.1) (i : Int)) (g3.onDo k3 ht)
  unfold ocR
  rw [List.getElem?_eq_getElem hi]
  simp only
  split
  · split
    · have hb := ObOk.put (j := 3) (num := o.2.1) h.ob (o := onEnd (obG L 3 o.2.1) (i : Int)) (g3.onEnd k3)
      refine ⟨⟨by rw [wakeT_length, List.length_set]; exact h.nt, TOk.wake _ ((h.tk.mono (Nat.le_succ _)).set ⟨q1, q2, ?_⟩), nl _ _, by rw [wakeT_length, List.length_set]; exact hb⟩, ?_⟩
      · show (T[i].runs.dropLast).length ≤ k + 1
        rw [List.length_dropLast]
        omega
      · rw [opsL_wake]
        exact opsL_set hi rfl
    · exact ⟨hsk, rfl⟩
  split
  · exact ⟨⟨h.nt, h.tk.mono (Nat.le_succ _), nl _ _, hdo⟩, rfl⟩
  · by_cases hr : oDR (obG L 3 o.2.1).h (obG L 3 o.2.1).b (obG L 3 o.2.1).l (i : Int) = true
    · simp only [if_pos hr]
      refine ⟨⟨by rw [List.length_set]; exact h.nt, (h.tk.mono (Nat.le_succ _)).set ⟨q1, q2, ?_⟩, nl _ _, by rw [List.length_set]; exact hdo⟩, opsL_set hi rfl⟩
      show (T[i].runs ++ [o.2.1]).length ≤ k + 1
      simp
      omega
    · simp only [if_neg hr]
      refine ⟨⟨by rw [List.length_set]; exact h.nt, (h.tk.mono (Nat.le_succ _)).set ⟨q1, ?_, Nat.le_succ_of_le q3⟩, nl _ _, by rw [List.length_set]; exact hdo⟩, opsL_set hi rfl⟩
      show pastL (T[i].ops.drop T[i].pos) T[i].pos 1 ≤ T[i].ops.length
      have := (pastL_bounds (T[i].ops.drop T[i].pos) T[i].pos 1).2
      rw [List.length_drop] at this
      omega
theorem acR_ok (h : StOk k T L) (i : Nat) (hi : i < T.length) (o : Opx) : StOk (k + 1) (acR T L i o).2.2.1 (acR T L i o).2.2.2 ∧ opsL (acR T L i o).2.2.1 = opsL T := by
  have g2 := ObOk.get h.ob 2 o.2.1
  have k2 := (obG_at L 2 o.2.1).2
  have nl : ∀ j x, (obPut L j o.2.1 x).length ≤ k + 1 := fun j x => by have := obPut_len L j o.2.1 x; have := h.nl; omega
  have ht : 0 ≤ (i : Int) ∧ (i : Int) < (T.length : Int) := by omega
  unfold acR
  split
  · exact ⟨⟨h.nt, h.tk.mono (Nat.le_succ _), Nat.le_succ_of_le h.nl, fun p hp => (h.ob p hp).mono (Nat.le_succ _)⟩, rfl⟩
  split
  · have hb := ObOk.put (j := 2) (num := o.2.1) h.ob (o := grAd (obG L 2 o.2.1) o.2.2) (g2.grAd k2 _)
    exact ⟨⟨by rw [wakeT_length]; exact h.nt, TOk.wake _ (h.tk.mono (Nat.le_succ _)), nl _ _, by rw [wakeT_length]; exact hb⟩, opsL_wake _ _⟩
  split
  · exact ⟨⟨h.nt, h.tk.mono (Nat.le_succ _), nl _ _, ObOk.put h.ob 2 _ (g2.grWt k2 ht)⟩, rfl⟩
  split
  · exact ocR_ok h i hi o
  · exact lkR_ok h _ ht o
/-- A step keeps all. -/
theorem stR_ok (h : StOk k T L) (i : Nat) : StOk (k + 1) (stR T L i).2.1 (stR T L i).2.2 ∧ opsL (stR T L i).2.1 = opsL T := by
  have hsk : StOk (k + 1) T L := ⟨h.nt, h.tk.mono (Nat.le_succ _), Nat.le_succ_of_le h.nl, fun p hp => (h.ob p hp).mono (Nat.le_succ _)⟩
  unfold stR
  split
  · exact ⟨hsk, rfl⟩
  · rename_i t ht
    obtain ⟨hi, rfl⟩ := List.getElem?_eq_some_iff.1 ht
    split
    · exact ⟨hsk, rfl⟩
    · rename_i o ho
      have hp := (List.getElem?_eq_some_iff.1 ho).1
      obtain ⟨q1, q2, q3⟩ := h.tk.at hi
      have h1 : StOk k (T.set i { T[i] with pos := T[i].pos + 1 }) L := ⟨by rw [List.length_set]; exact h.nt, h.tk.set ⟨q1, hp, q3⟩, h.nl, by rw [List.length_set]; exact h.ob⟩
      obtain ⟨a1, a2⟩ := acR_ok h1 i (by rw [List.length_set]; exact hi) o
      refine ⟨⟨by rw [setBl_length]; exact a1.nt, a1.tk.setBl _ _, a1.nl, by rw [setBl_length]; exact a1.ob⟩, ?_⟩
      rw [opsL_setBl, a2]
      exact opsL_set hi rfl
end
end Go.Proofs.Ythhlglbohibekaa
/-
  The document's scheduler (package latchkeyref10): a new one, of any tasks. The conditions: at most 65536 tasks, and operations of each.
-/
namespace Go.Proofs.Ythhlglbohibekaa
open Go.RowKit

/-- A task at its beginning. -/
def tkNew (o : List Opx) : Tk := ⟨o, 0, false, []⟩
def oneC (x : Value) : List Value := [x]
theorem oneC_len (x : Value) : (oneC x).length = 1 := rfl
/-- Tasks that came in: a row of rows. -/
structure TasksAt (w : World) (v : Value) (ts : List (List Opx)) : Prop where
  ex : ∃ vs : List Value, vs.length = ts.length ∧ RowAt oneC w v vs ∧ ∀ i (_ : i < vs.length) (_ : i < ts.length), RowAt opC w vs[i] ts[i]
theorem TasksAt.fresh {w w' : World} {v : Value} {ts : List (List Opx)} (h : TasksAt w v ts) (k : Below w.heap.size w w') : TasksAt w' v ts := by
  obtain ⟨vs, h1, h2, h3⟩ := h.ex
  exact ⟨vs, h1, h2.fresh k, fun i a b => (h3 i a b).fresh k⟩
theorem TasksAt.form {w : World} {v : Value} {ts : List (List Opx)} (h : TasksAt w v ts) : ∃ a cap, v = .slice a ts.length cap := by
  obtain ⟨vs, h1, h2, _⟩ := h.ex
  obtain ⟨a, cap, e⟩ := h2.form
  exact ⟨a, cap, by rw [e, h1]⟩
/-- What a walk needs of a task that came in. -/
theorem TasksAt.cells {w : World} {v : Value} {ts : List (List Opx)} (h : TasksAt w v ts) (h0 : 0 < ts.length) : ∃ bk off cap, v = .slice (some ⟨bk, off, none⟩) ts.length cap ∧ bk < w.heap.size ∧ ∀ i (hi : i < ts.length), ∃ a c, w.cell? ⟨bk, off + i, none⟩ = some (.slice a ts[i].length c) ∧ RowAt opC w (.slice a ts[i].length c) ts[i] := by
  obtain ⟨vs, h1, h2, h3⟩ := h.ex
  obtain ⟨bk, off, cap, e, _, hb, hx⟩ := h2.cells oneC_len (by omega)
  refine ⟨bk, off, cap, by rw [e, h1], hb, fun i hi => ?_⟩
  have h4 := h3 i (by omega) hi
  obtain ⟨a, c, e4⟩ := h4.form
  refine ⟨a, c, ?_, by rw [← e4]; exact h4⟩
  have h5 := hx i (by omega) 0 vs[i] (by decide) rfl
  rw [e4] at h5
  simpa using h5
theorem opC_one (x : Opx) : ∀ u ∈ opC x, u.oneCell' = true := fun u hu => by
  simp only [opC, List.mem_cons, List.not_mem_nil, or_false] at hu
  rcases hu with rfl | rfl | rfl <;> rfl
theorem infoP3 : (Try.prog.info? 45).map (fun i => (i.zero, i.size, i.bytes)) = some (some (.agg #[.int .i64 0, .int .i64 0, .int .i64 0]), 3, 24) := by kernel_rfl
section
variable {w w1 w3 : World} {base D : Nat} {ro : Nat → Option Nat} {vT vL u uo : Value} {tv : List Tv} {T : List Tk} {ops : List Opx}
end
section
variable {P : Program} {md : Region.Mode} {Q : Exit → Act → World → Prop} {S : World → Prop} {fuel : Nat} {listed : Array Bool} {a : Act} {w : World} {l : List Oper}
end
section
variable {w : World} {v : Value} {ts : List (List Opx)}
end
end Go.Proofs.Ythhlglbohibekaa
/-
  The document's scheduler (package latchkeyref10): each call, of any task, as plain data. The conditions: at most 65536 tasks, and operations of each; fewer than 65535 steps.
-/
namespace Go.Proofs.Ythhlglbohibekaa
open Go.RowKit

/-- A step of any task: the event, the error, the tasks, the objects. -/
def spR (T : List Tk) (L : List (Int × Ob)) (z : Int) : Opx × Int × List Tk × List (Int × Ob) := if rdB T z = true then ((stR T L z.toNat).1, 0, (stR T L z.toNat).2.1, (stR T L z.toNat).2.2) else ((0, 0, 0), 1, T, L)
theorem StOk.new {ts : List (List Opx)} (hn : ts.length ≤ 65536) (hl : ∀ o ∈ ts, o.length ≤ 65536) : StOk 0 (ts.map tkNew) [] :=
  ⟨by simpa using hn, fun t ht => by
    obtain ⟨o, ho, rfl⟩ := List.mem_map.1 ht
    exact ⟨hl o ho, Nat.zero_le _, Nat.le_refl _⟩, Nat.le_refl _, fun p hp => by cases hp⟩
theorem StOk.mono {k k' : Nat} {T : List Tk} {L : List (Int × Ob)} (h : StOk k T L) (hk : k ≤ k') : StOk k' T L := ⟨h.nt, h.tk.mono hk, Nat.le_trans h.nl hk, fun p hp => (h.ob p hp).mono hk⟩
theorem rdB_at {T : List Tk} {z : Int} (h : rdB T z = true) : ∃ i : Nat, z = (i : Int) ∧ ∃ hi : i < T.length, T[i].bl = false ∧ T[i].pos < T[i].ops.length := by
  unfold rdB at h
  rw [Bool.and_eq_true, decide_eq_true_eq] at h
  obtain ⟨h0, h1⟩ := h
  refine ⟨z.toNat, by omega, ?_⟩
  cases hg : T[z.toNat]? with
  | none => rw [hg] at h1; cases h1
  | some t =>
    rw [hg] at h1
    obtain ⟨hi, rfl⟩ := List.getElem?_eq_some_iff.1 hg
    refine ⟨hi, ?_⟩
    have h2 : tkR T[z.toNat] = true := h1
    unfold tkR at h2
    rw [Bool.and_eq_true, decide_eq_true_eq] at h2
    exact ⟨by simpa using h2.1, h2.2⟩
section
variable {w w' : World} {base D : Nat} {S S' : Nat → Prop} {k : Nat} {T : List Tk} {L : List (Int × Ob)}
end
end Go.Proofs.Ythhlglbohibekaa
/-
  The document's scheduler (package latchkeyref10): a whole run, by any picks, as a plain function. The conditions: at most 65536 tasks, and operations of each; each pick is an int's.
-/
namespace Go.Proofs.Ythhlglbohibekaa
open Go.RowKit

/-- The place among those that are ready. -/
def placeR (n : Nat) (picks : List Int) (i : Nat) : Nat := match picks[i]? with | some p => (p % (n : Int)).toNat | none => 0
/-- A run: the events, the tasks, the objects. -/
def runR (picks : List Int) : Nat → Nat → List Tk → List (Int × Ob) → List Opx × List Tk × List (Int × Ob)
  | 0, _, T, L => ([], T, L)
  | f + 1, i, T, L => match (readyL T)[placeR (readyL T).length picks i]? with
    | none => ([], T, L)
    | some z => ((spR T L z).1 :: (runR picks f (i + 1) (spR T L z).2.2.1 (spR T L z).2.2.2).1, (runR picks f (i + 1) (spR T L z).2.2.1 (spR T L z).2.2.2).2)
theorem placeR_lt (n : Nat) (picks : List Int) (i : Nat) (hn : 0 < n) : placeR n picks i < n := by
  unfold placeR
  split
  · rename_i p _
    have h1 := Int.emod_nonneg p (show (n : Int) ≠ 0 by omega)
    have h2 := Int.emod_lt_of_pos p (show (0 : Int) < (n : Int) by omega)
    omega
  · exact hn
/-- The remainder, below 0 set right. -/
theorem tmod_at (p : Int) (n : Nat) (hn : 0 < n) : (if p.tmod (n : Int) < 0 then p.tmod (n : Int) + (n : Int) else p.tmod (n : Int)) = p % (n : Int) := by
  have h1 := Int.emod_nonneg p (show (n : Int) ≠ 0 by omega)
  have h2 := Int.emod_lt_of_pos p (show (0 : Int) < (n : Int) by omega)
  rw [Int.tmod_eq_emod]
  by_cases h3 : 0 ≤ p ∨ (n : Int) ∣ p
  · rw [if_pos h3]
    split
    · omega
    · omega
  · rw [if_neg h3]
    have h4 : ((n : Int).natAbs : Int) = (n : Int) := by simp
    rw [h4]
    split
    · omega
    · omega
theorem tmod_lo (p : Int) (n : Nat) (hn : 0 < n) : -(n : Int) < p.tmod (n : Int) ∧ p.tmod (n : Int) < (n : Int) := by
  have h1 := Int.emod_nonneg p (show (n : Int) ≠ 0 by omega)
  have h2 := Int.emod_lt_of_pos p (show (0 : Int) < (n : Int) by omega)
  rw [Int.tmod_eq_emod]
  by_cases h3 : 0 ≤ p ∨ (n : Int) ∣ p
  · rw [if_pos h3]
    omega
  · rw [if_neg h3]
    have h4 : ((n : Int).natAbs : Int) = (n : Int) := by simp
    rw [h4]
    have h5 : p % (n : Int) ≠ 0 := fun e => h3 (Or.inr (Int.dvd_of_emod_eq_zero e))
    omega
theorem own_formN {w : World} {base size n : Nat} {e : TypeId} {v : Value} {xs : List Value} (h : w.ownsRow base e size v n xs) : ∃ p c, v = .slice p n c := by
  rcases h.2 with ⟨rfl, rfl⟩ | ⟨g, c, cur, rfl, _⟩
  · exact ⟨_, _, rfl⟩
  · exact ⟨_, _, rfl⟩
theorem infoE3 : (Try.prog.info? 32).map (fun i => (i.zero, i.size, i.bytes)) = some (some (.agg #[.int .i64 0, .int .i64 0, .int .i64 0]), 3, 24) := by kernel_rfl
theorem upto_range (p : Tk → Bool) : ∀ (l : List Tk) (k : Nat), ∀ x ∈ upto p k l, (k : Int) ≤ x ∧ x < ((k + l.length : Nat) : Int)
  | [], k, x, hx => by cases hx
  | t :: l, k, x, hx => by
    unfold upto at hx
    have h2 := fun hx => upto_range p l (k + 1) x hx
    simp only [List.length_cons]
    split at hx
    · rcases List.mem_cons.1 hx with hx | hx
      · omega
      · have := h2 hx
        omega
    · have := h2 hx
      omega
theorem alloc2_new (w : World) (o : Obj) (cs : Array Value) (t : TypeId) : ((w.alloc o).alloc (.cells cs t)).heap[w.heap.size + 1]? = some (.cells cs t (0, 0)) := by
  have := heap_alloc_new (w.alloc o) (.cells cs t)
  simpa using this
section
variable {w : World} {v vp : Value} {ts : List (List Opx)} {picks : List Int}
end
end Go.Proofs.Ythhlglbohibekaa
