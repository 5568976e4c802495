/-
  The document's disk (package latchkeyref05) in memory: files, their bytes; where a file stands; which names may be. The condition: there are no more files than a slice may hold.
-/
import Derived.Test.YtkdglkaeglhibaaDoorGOwn
import Derived.WalkKit
import Derived.WalkSpells
import Derived.Lib.SmallJoins
import Derived.Deep.AppendLies
import Derived.Below
import Derived.Handy
namespace Go.Proofs.YtkdglkaeglhibaaDoor
open Go.RowKit

/-- A file: its name, its bytes, each with when it was appended (0: it is sure). -/
structure Fl where
  name : ByteArray
  bs : List (UInt8 × Nat)
/-- A byte's two cells, a file's two cells. -/
def bL (b : UInt8 × Nat) : List Value := [.int .u8 (b.1.toNat : Int), .int .i64 (b.2 : Int)]
def bsL (l : List (UInt8 × Nat)) : List Value := l.flatMap bL
def fL (p : Fl × Value) : List Value := [.string p.1.name, p.2]
def fsL (l : List (Fl × Value)) : List Value := l.flatMap fL
theorem pairs_length {α : Type} (f : α → List Value) (hf : ∀ a, (f a).length = 2) (l : List α) : (l.flatMap f).length = l.length * 2 := by
  induction l with
  | nil => rfl
  | cons a l ih =>
    rw [List.flatMap_cons, List.length_append, ih, hf, List.length_cons]
    omega
theorem pairs_at {α : Type} (f : α → List Value) (hf : ∀ a, (f a).length = 2) (l : List α) : ∀ (j i : Nat) (hj : j < l.length), i < 2 → (l.flatMap f)[j * 2 + i]? = (f l[j])[i]? := by
  induction l with
  | nil => intro j i hj; simp at hj
  | cons a l ih =>
    intro j i hj hi
    rw [List.flatMap_cons]
    cases j with
    | zero =>
      rw [List.getElem?_append_left (by rw [hf]; omega)]
      simp
    | succ j =>
      rw [List.getElem?_append_right (by rw [hf]; omega), hf, show (j + 1) * 2 + i - 2 = j * 2 + i by omega]
      exact ih j i (by simpa using hj) hi

/-- Where a file stands; -1: it is not there. -/
def placeOf (l : List (Fl × Value)) (n : ByteArray) : Nat := l.findIdx fun p => decide (p.1.name = n)
def findI (l : List (Fl × Value)) (n : ByteArray) : Int := if placeOf l n < l.length then (placeOf l n : Int) else -1
theorem findI_at {l : List (Fl × Value)} {n : ByteArray} {k : Nat} (hk : k < l.length) (h : l[k].1.name = n) (hn : ∀ j (hj : j < k), ¬ l[j].1.name = n) : findI l n = k := by
  have e : placeOf l n = k := by
    unfold placeOf
    rw [List.findIdx_eq hk]
    exact ⟨by simpa using h, fun j hj => by simpa using hn j hj⟩
  unfold findI
  rw [e, if_pos hk]
theorem findI_none {l : List (Fl × Value)} {n : ByteArray} (hn : ∀ j (hj : j < l.length), ¬ l[j].1.name = n) : findI l n = -1 := by
  have e : placeOf l n = l.length := by
    unfold placeOf
    rw [List.findIdx_eq_length]
    intro x hx
    obtain ⟨j, hj, rfl⟩ := List.getElem_of_mem hx
    simpa using hn j hj
  unfold findI
  rw [if_neg (by rw [e]; omega)]
theorem texts_inj {x y : ByteArray} (h : x.toList = y.toList) : x = y := by
  rw [Lib.toList_data, Lib.toList_data] at h
  rw [← Lib.mk_data x, ← Lib.mk_data y, h]

/-- Which names may be. -/
def nameB (s : ByteArray) : Bool := decide (1 ≤ s.size) && decide (s.size ≤ 64)
end Go.Proofs.YtkdglkaeglhibaaDoor
