/-
  A new file where its name belongs, by the document's own disk (package latchkeyref05). The condition: there are at most 100000 files.
-/
import Derived.Test.YtkdglkaeglhibaaDoorDkMem
import Derived.Laws.AppendOwnNone
import Derived.Deep.MidRow
namespace Go.Proofs.YtkdglkaeglhibaaDoor
open Go.RowKit

/-- Which of two names is the lesser. -/
def ltN (a b : ByteArray) : Bool := Op.bytesLess a.toList b.toList
/-- Where a name belongs. -/
def insAt (l : List (Fl × Value)) (n : ByteArray) : Nat := (l.takeWhile fun p => ltN p.1.name n).length
def insL (l : List (Fl × Value)) (n : ByteArray) : List (Fl × Value) := l.take (insAt l n) ++ ((⟨n, []⟩, .slice none 0 0) :: l.drop (insAt l n))
theorem insAt_eq {n : ByteArray} : ∀ (l : List (Fl × Value)) (k : Nat), k ≤ l.length → (∀ j (_ : j < k) (hjl : j < l.length), ltN l[j].1.name n = true) → (∀ (hk : k < l.length), ltN l[k].1.name n = false) → insAt l n = k := by
  intro l
  induction l with
  | nil => intro k hk _ _; simp at hk; subst hk; rfl
  | cons p l ih =>
    intro k hk h1 h2
    unfold insAt
    cases k with
    | zero =>
      have := h2 (by simp)
      simp at this
      rw [List.takeWhile_cons, if_neg (by rw [this]; simp)]
      rfl
    | succ k =>
      have h0 := h1 0 (by omega) (by simp)
      simp at h0
      rw [List.takeWhile_cons, if_pos h0, List.length_cons]
      have := ih k (by simpa using hk) (fun j hj hjl => by have := h1 (j + 1) (by omega) (by simpa using hjl); simpa using this) (fun hk' => by have := h2 (by simpa using hk'); simpa using this)
      unfold insAt at this
      rw [this]
theorem fsL_snoc (l : List (Fl × Value)) (p : Fl × Value) : fsL (l ++ [p]) = fsL l ++ fL p := by
  unfold fsL
  rw [List.flatMap_append]
  simp
theorem fsL_append (l m : List (Fl × Value)) : fsL (l ++ m) = fsL l ++ fsL m := by
  unfold fsL
  rw [List.flatMap_append]
theorem slice_one {w : World} {base size n : Nat} {e : TypeId} {v : Value} {xs : List Value} (h : w.ownsRow base e size v n xs) : v.oneCell' = true := by
  rcases h.2 with ⟨rfl, _⟩ | ⟨g, cap, cur, rfl, _⟩ <;> rfl
theorem pairwise_in {l : List (Fl × Value)} (h : l.Pairwise (fun p q => ∀ g, p.2.ownBlock = some g → q.2.ownBlock ≠ some g)) (k : Nat) (x : Fl × Value) (hx : x.2.ownBlock = none) :
    (l.take k ++ (x :: l.drop k)).Pairwise (fun p q => ∀ g, p.2.ownBlock = some g → q.2.ownBlock ≠ some g) := by
  have h' := h
  rw [← List.take_append_drop k l, List.pairwise_append] at h'
  obtain ⟨h1, h2, h3⟩ := h'
  rw [List.pairwise_append]
  refine ⟨h1, List.pairwise_cons.2 ⟨fun q _ g e => (by rw [hx] at e; cases e), h2⟩, fun p hp q hq g e => ?_⟩
  rcases List.mem_cons.1 hq with rfl | hq
  · rw [hx]
    simp
  · exact h3 p hp q hq g e
theorem own_cap {w : World} {base size n n' cap : Nat} {e : TypeId} {a : Option Addr} {xs : List Value} (h : w.ownsRow base e size (.slice a n' cap) n xs) : n ≤ cap := by
  rcases h.2 with ⟨h1, h0⟩ | ⟨g, c, cur, h1, _, _, h2, _⟩
  · omega
  · simp only [Value.slice.injEq] at h1
    omega
theorem mem_ins {l : List (Fl × Value)} {n : ByteArray} {p : Fl × Value} (h : p ∈ insL l n) : p ∈ l ∨ p = (⟨n, []⟩, .slice none 0 0) := by
  unfold insL at h
  rw [List.mem_append, List.mem_cons] at h
  rcases h with h | rfl | h
  · exact Or.inl (List.mem_of_mem_take h)
  · exact Or.inr rfl
  · exact Or.inl (List.mem_of_mem_drop h)
theorem fsL_drop (l : List (Fl × Value)) (k : Nat) (hk : k ≤ l.length) (j : Nat) : (fsL (l.drop k))[j]? = (fsL l)[k * 2 + j]? := by
  have e : fsL l = fsL (l.take k) ++ fsL (l.drop k) := by rw [← fsL_append, List.take_append_drop]
  have hl : (fsL (l.take k)).length = k * 2 := by
    have := pairs_length fL (fun _ => rfl) (l.take k)
    unfold fsL
    rw [this, List.length_take]
    congr 1
    omega
  rw [e, List.getElem?_append_right (by omega), hl]
  congr 1
  omega
end Go.Proofs.YtkdglkaeglhibaaDoor
