/-
  The document's disk (package latchkeyref05) in memory: files, their bytes; where a file stands; which names may be. The condition: there are no more files than a slice may hold.
-/
import Derived.Test.YtkdglkaeglhibaaGreatDoorPGOwn
import Derived.WalkKit
import Derived.WalkSpells
import Derived.Lib.SmallJoins
import Derived.Deep.AppendLies
import Derived.Below
import Derived.Handy
namespace Go.Proofs.YtkdglkaeglhibaaGreatDoor
open Go.RowKit

/-- A file: its name, its bytes, each with when it was appended (0: it is sure). -/
structure Fl where
  name : ByteArray
  bs : List (UInt8 × Nat)
/-- A byte's two cells, a file's two cells. -/
def bL (b : UInt8 × Nat) : List Value := [.int .u8 (b.1.toNat : Int), .int .i64 (b.2 : Int)]
def bsL (l : List (UInt8 × Nat)) : List Value := l.flatMap bL
def fL (p : Fl × Value) : List Value := [.string p.1.name, p.2]
def fsL (l : List (Fl × Value)) : List Value := l.flatMap fL
theorem pairs_length {α : Type} (f : α → List Value) (hf : ∀ a, (f a).length = 2) (l : List α) : (l.flatMap f).length = l.length * 2 := by
  induction l with
  | nil => rfl
  | cons a l ih =>
    rw [List.flatMap_cons, List.length_append, ih, hf, List.length_cons]
    omega
theorem pairs_at {α : Type} (f : α → List Value) (hf : ∀ a, (f a).length = 2) (l : List α) : ∀ (j i : Nat) (hj : j < l.length), i < 2 → (l.flatMap f)[j * 2 + i]? = (f l[j])[i]? := by
  induction l with
  | nil => intro j i hj; simp at hj
  | cons a l ih =>
    intro j i hj hi
    rw [List.flatMap_cons]
    cases j with
    | zero =>
      rw [List.getElem?_append_left (by rw [hf]; omega)]
      simp
    | succ j =>
      rw [List.getElem?_append_right (by rw [hf]; omega), hf, show (j + 1) * 2 + i - 2 = j * 2 + i by omega]
      exact ih j i (by simpa using hj) hi

/-- The document's disk in block D: a row of files, each with a row of bytes of its own; all of it at base or behind; no two rows share a block. -/
structure DkAt (w : World) (base D : Nat) (l : List (Fl × Value)) (clock : Nat) (v : Value) : Prop where
  bl : w.heap[D]? = some (.cells #[v, .int .i64 (clock : Int)] 28 (0, 0))
  row : w.ownsRow base 68 2 v l.length (fsL l)
  each : ∀ p ∈ l, w.ownsRow base 70 2 p.2 p.1.bs.length (bsL p.1.bs)
  lo : base ≤ D
  nD : v.ownBlock ≠ some D
  eD : ∀ p ∈ l, p.2.ownBlock ≠ some D ∧ ∀ g, p.2.ownBlock = some g → v.ownBlock ≠ some g
  sep : l.Pairwise (fun p q => ∀ g, p.2.ownBlock = some g → q.2.ownBlock ≠ some g)
theorem DkAt.cell0 {w : World} {base D : Nat} {l : List (Fl × Value)} {clock : Nat} {v : Value} (h : DkAt w base D l clock v) : w.cell? ⟨D, 0, none⟩ = some v := by
  simp [World.cell?, h.bl]
theorem DkAt.cell1 {w : World} {base D : Nat} {l : List (Fl × Value)} {clock : Nat} {v : Value} (h : DkAt w base D l clock v) : w.cell? ⟨D, 1, none⟩ = some (.int .i64 (clock : Int)) := by
  simp [World.cell?, h.bl]
/-- The row of files, opened. -/
theorem DkAt.files {w : World} {base D : Nat} {l : List (Fl × Value)} {clock : Nat} {v : Value} (h : DkAt w base D l clock v) :
    ∃ (a : Option Addr) (cap : Nat), v = .slice a l.length cap ∧ (l.length = 0 ∨ ∃ g, a = some ⟨g, 0, none⟩ ∧ g < w.heap.size ∧ ∀ j (hj : j < l.length), w.cell? ⟨g, j * 2, none⟩ = some (.string l[j].1.name) ∧ w.cell? ⟨g, j * 2 + 1, none⟩ = some l[j].2) := by
  rcases h.row.2 with ⟨rfl, h0⟩ | ⟨g, cap, cur, rfl, _, hg, _, _, _, _⟩
  · exact ⟨none, 0, by rw [h0], Or.inl h0⟩
  · refine ⟨_, _, rfl, Or.inr ⟨g, rfl, lt_of_block hg, fun j hj => ?_⟩⟩
    have a0 := World.ownsRow.cellAt h.row (j * 2) (by omega)
    have a1 := World.ownsRow.cellAt h.row (j * 2 + 1) (by omega)
    unfold fsL at a0 a1
    have e0 := pairs_at fL (fun _ => rfl) l j 0 hj (by omega)
    rw [Nat.add_zero] at e0
    rw [e0] at a0
    rw [pairs_at fL (fun _ => rfl) l j 1 hj (by omega)] at a1
    exact ⟨a0, a1⟩

/-- Where a file stands; -1: it is not there. -/
def placeOf (l : List (Fl × Value)) (n : ByteArray) : Nat := l.findIdx fun p => decide (p.1.name = n)
def findI (l : List (Fl × Value)) (n : ByteArray) : Int := if placeOf l n < l.length then (placeOf l n : Int) else -1
theorem findI_at {l : List (Fl × Value)} {n : ByteArray} {k : Nat} (hk : k < l.length) (h : l[k].1.name = n) (hn : ∀ j (hj : j < k), ¬ l[j].1.name = n) : findI l n = k := by
  have e : placeOf l n = k := by
    unfold placeOf
    rw [List.findIdx_eq hk]
    exact ⟨by simpa using h, fun j hj => by simpa using hn j hj⟩
  unfold findI
  rw [e, if_pos hk]
theorem findI_none {l : List (Fl × Value)} {n : ByteArray} (hn : ∀ j (hj : j < l.length), ¬ l[j].1.name = n) : findI l n = -1 := by
  have e : placeOf l n = l.length := by
    unfold placeOf
    rw [List.findIdx_eq_length]
    intro x hx
    obtain ⟨j, hj, rfl⟩ := List.getElem_of_mem hx
    simpa using hn j hj
  unfold findI
  rw [if_neg (by rw [e]; omega)]
theorem texts_inj {x y : ByteArray} (h : x.toList = y.toList) : x = y := by
  rw [Lib.toList_data, Lib.toList_data] at h
  rw [← Lib.mk_data x, ← Lib.mk_data y, h]

/-- Which names may be. -/
def nameB (s : ByteArray) : Bool := decide (1 ≤ s.size) && decide (s.size ≤ 64)
set_option maxRecDepth 100000 in
theorem name_any (s : ByteArray) (w : World) :
    Calls Tryz.prog 30 #[.string s] w fun e w' => e = .returned (.bool (nameB s)) ∧ w = w' := by
  unfold nameB
  by_cases h : 1 ≤ s.size
  · have h1 : decide ((1 : Int) ≤ (s.size : Int)) = true := by simp; omega
    have e : decide (1 ≤ s.size) = true := by simpa using h
    rw [e, Bool.true_and]
    clear h e
    go_enter Tryz.func30, Tryz.ntmps30
    go_wp2
    go_ret
    exact ⟨congrArg (fun b => Ending.returned (.bool b)) (decide_eq_decide.2 (by omega)), rfl⟩
  · have h1 : decide ((1 : Int) ≤ (s.size : Int)) = false := by simp; omega
    have e : decide (1 ≤ s.size) = false := by simpa using h
    rw [e, Bool.false_and]
    clear h e
    go_enter Tryz.func30, Tryz.ntmps30
    go_wp2
    go_ret
    exact ⟨rfl, rfl⟩

set_option maxHeartbeats 1600000 in
set_option maxRecDepth 100000 in
/-- find. -/
theorem find_any (w : World) (base D : Nat) (l : List (Fl × Value)) (clock : Nat) (v : Value) (n : ByteArray) (hl : l.length ≤ 9223372036854775807) (h : DkAt w base D l clock v) :
    Calls Tryz.prog 31 #[.pointer (some ⟨D, 0, none⟩), .string n] w fun e w' => e = .returned (.int .i64 (findI l n)) ∧ w = w' := by
  have c0 := h.cell0
  obtain ⟨a, cap, rfl, hf⟩ := h.files
  have GF : Hid _ := hf
  clear hf h
  go_enter Tryz.func31, Tryz.ntmps31
  go_wp2
  go_loop [4, 5] (fun _ i => ∃ k : Nat, k ≤ l.length ∧ i = .int .i64 k ∧ Hid (∀ j (hj : j < k) (hjl : j < l.length), ¬ l[j].1.name = n)) (fun _ i => l.length - (intOf i).toNat)
  case atStart => exact ⟨0, Nat.zero_le _, rfl, fun j hj => by omega⟩
  case round =>
    obtain ⟨k, hk, rfl, HN⟩ := hrel
    by_cases hkl : k < l.length
    · rcases GF.out with h0 | ⟨g, rfl, hg, hc⟩
      · omega
      obtain ⟨z0, _⟩ := hc k hkl
      obtain ⟨m, hm⟩ : ∃ m, m = l[k].1.name := ⟨_, rfl⟩
      rw [← hm] at z0
      have HM : Hid (m = l[k].1.name) := hm
      clear hm hc
      by_cases hx : m = n
      · have HF : Hid (findI l n = k) := findI_at hkl (by rw [← HM.out]; exact hx) (fun j hj => HN.out j hj (by omega))
        subst hx
        go_wp2
        go_ret
        exact ⟨by rw [HF.out]; rfl, rfl⟩
      · have n1 : (m.toList == n.toList) = false := by
          rw [beq_eq_false_iff_ne]
          exact fun e => hx (texts_inj e)
        have HN2 : Hid (∀ j (hj : j < k + 1) (hjl : j < l.length), ¬ l[j].1.name = n) := fun j hj hjl e => by
          by_cases hjk : j < k
          · exact HN.out j hjk hjl e
          · have : j = k := by omega
            subst this
            exact hx (by rw [HM.out]; exact e)
        clear hx HN
        go_wp2
        go_round
        case rel => exact ⟨k + 1, hkl, by go_num, HN2⟩
        case measure => simp [intOf]; omega
    · have hke : k = l.length := by omega
      subst hke
      have HF : Hid (findI l n = -1) := findI_none (fun j hj => HN.out j hj hj)
      clear HN
      go_wp2
      go_ret
      exact ⟨by rw [HF.out]; rfl, rfl⟩
end Go.Proofs.YtkdglkaeglhibaaGreatDoor
