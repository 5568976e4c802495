/-
  A slice that came in, opened row by row: what every reading of an element says, its cells by number, and its data. No condition. No program.
-/
import Derived.Test.YthokbififjhflaaGOwn
import Derived.Test.YthokbififjhflaaRows
import Derived.Deep.Slices
import Derived.Lib.SmallJoins
import Derived.ProofKit
import Derived.OpenShut
import Derived.ShutString
import Derived.ChangeOld
import Derived.Below
namespace Go.Proofs.Ythokbififjhflaa
open Go.ChangeShapes Go.WideShapes Go.ChangeAt Go.RowKit Go.Joins Go.Deep

theorem choose_list {α : Type} {n : Nat} {p : Nat → α → Prop} (h : ∀ j, j < n → ∃ x, p j x) : ∃ l : List α, l.length = n ∧ ∀ j (hj : j < l.length), p j l[j] := by
  induction n with
  | zero => exact ⟨[], rfl, fun j hj => absurd hj (Nat.not_lt_zero _)⟩
  | succ n ih =>
    obtain ⟨l, hl, hp⟩ := ih fun j hj => h j (by omega)
    obtain ⟨x, hx⟩ := h n (Nat.lt_succ_self _)
    refine ⟨l ++ [x], by simp [hl], fun j hj => ?_⟩
    by_cases hjl : j < l.length
    · rw [List.getElem_append_left hjl]
      exact hp j hjl
    · have hjn : j = n := by
        rw [List.length_append] at hj
        simp at hj
        omega
      subst hjn
      rw [List.getElem_append_right (by omega)]
      simpa using hx
section
variable {H : Type} {enc : TypeId × Value → H} {P : Program} {w : World}
/-- What a slice that came in holds. -/
structure RowOf {α : Type} (w : World) (c : Nat) (L : α → List Value → DataW H → Prop) (a : Option Addr) (len cap : Nat) (d : DataW H) (l : List α) : Prop where
  len_eq : l.length = len
  le_cap : len ≤ cap
  le_max : len ≤ maxLen
  ex : (a = none ∧ len = 0 ∧ cap = 0 ∧ d = .nil) ∨ ∃ (x : Addr) (es spare : List (DataW H)), a = some x ∧ d = .slice es spare ∧ es.length = len ∧
    (∀ j (hj : j < l.length) (he : j < es.length), ∃ cs, L l[j] cs es[j] ∧ cs.length = c ∧ ∀ i (hi : i < cs.length), w.cell? (x.add (j * c + i)) = some cs[i]) ∧ (len = 0 ∨ ∃ bk off, x = ⟨bk, off, none⟩ ∧ bk < w.heap.size)
theorem open_row {α : Type} {t e : TypeId} {c : Nat} (ht : P.underlying t = some (.slice e)) (hc : P.cellsOf e = c) (h0 : 0 < c) (L : α → List Value → DataW H → Prop)
    (each : ∀ fuel cs x, DataW.trod enc P w 0 (fun _ => true) true fuel e cs = some x → ∃ q : α, L q cs x.1) {fuel : Nat} {v : Value} {x : DataW H × List MemPlace}
    (h : DataW.trod enc P w 0 (fun _ => true) true fuel t [v] = some x) : ∃ a len cap l, v = .slice a len cap ∧ RowOf w c L a len cap x.1 l := by
  rcases open_slice ht h with ⟨e0, rfl⟩ | ⟨y, len, cap, m, n, D, Pl, hcs, _, hl, hm, hmm, rfl, hel⟩
  · simp at e0
    exact ⟨none, 0, 0, [], e0, rfl, Nat.le_refl _, Nat.zero_le _, Or.inl ⟨rfl, rfl, rfl, rfl⟩⟩
  · simp at hcs
    subst hcs
    rw [hc] at hel
    have hmc : m = cap := by simpa using hmm
    obtain ⟨l, hll, hq⟩ := choose_list (n := len) (p := fun j (q : α) => ∃ cs, L q cs (D j) ∧ cs.length = c ∧ ∀ i (hi : i < cs.length), w.cell? (y.add (j * c + i)) = some cs[i]) fun j hj => by
      obtain ⟨cs', h1, h2⟩ := hel j (by omega)
      obtain ⟨_, hlen, hcell⟩ := World.cells?_some h1
      obtain ⟨q, hL⟩ := each _ _ _ h2
      exact ⟨q, cs', hL, hlen, fun i hi => by
        have g := hcell i (by omega)
        rw [add_add, List.getElem?_eq_getElem hi] at g
        exact g⟩
    refine ⟨some y, len, cap, l, rfl, hll, hl, by omega, Or.inr ⟨y, _, _, rfl, rfl, by simp, fun j hj he => ?_, ?_⟩⟩
    · obtain ⟨cs, h1, h2, h3⟩ := hq j hj
      exact ⟨cs, by simpa using h1, h2, h3⟩
    · by_cases hz : len = 0
      · exact Or.inl hz
      right
      obtain ⟨cs, _, h2, h3⟩ := hq 0 (by omega)
      have c00 := h3 0 (by omega)
      obtain ⟨bk, off, spot⟩ := y
      have hspot : spot = none := by simpa [Addr.add] using World.cell?_spot c00
      subst hspot
      exact ⟨bk, off, rfl, by simpa [Addr.add] using World.block_lt_of_cell? w _ c00⟩
theorem trod_five {t : TypeId} {f0 f1 f2 f3 f4 : Field} {fuel : Nat} {cs : List Value} {base : Nat} {spare : Nat → Bool} {held : Bool} {x : DataW H × List MemPlace} (ht : P.underlying t = some (.struct #[f0, f1, f2, f3, f4])) (h : DataW.trod enc P w base spare held fuel t cs = some x) :
    ∃ y0 y1 y2 y3 y4 n, x.1 = .agg [y0.1, y1.1, y2.1, y3.1, y4.1] ∧ cs.length = P.cellsOf t ∧ DataW.trod enc P w base spare held n f0.type ((cs.drop f0.offset).take (P.cellsOf f0.type)) = some y0 ∧ DataW.trod enc P w base spare held n f1.type ((cs.drop f1.offset).take (P.cellsOf f1.type)) = some y1 ∧
      DataW.trod enc P w base spare held n f2.type ((cs.drop f2.offset).take (P.cellsOf f2.type)) = some y2 ∧ DataW.trod enc P w base spare held n f3.type ((cs.drop f3.offset).take (P.cellsOf f3.type)) = some y3 ∧ DataW.trod enc P w base spare held n f4.type ((cs.drop f4.offset).take (P.cellsOf f4.type)) = some y4 := by
  obtain ⟨xs, n, _, rfl, hl, hlen, hf⟩ := DataW.trod_struct ht h
  match xs, hlen with
  | [y0, y1, y2, y3, y4], _ => exact ⟨y0, y1, y2, y3, y4, n, by simp, hl, by simpa using hf 0 f0 rfl, by simpa using hf 1 f1 rfl, by simpa using hf 2 f2 rfl, by simpa using hf 3 f3 rfl, by simpa using hf 4 f4 rfl⟩
theorem trod_two_of {t e : TypeId} {fuel : Nat} {cs : List Value} {base : Nat} {spare : Nat → Bool} {held : Bool} {x : DataW H × List MemPlace} (ht : P.underlying t = some (.array 2 e)) (hc : P.cellsOf e = 1) (hC : P.cellsOf t = 2) (h : DataW.trod enc P w base spare held fuel t cs = some x) :
    ∃ c0 c1 y0 y1 n, cs = [c0, c1] ∧ x = (.agg [y0.1, y1.1], y0.2 ++ y1.2) ∧ DataW.trod enc P w base spare held n e [c0] = some y0 ∧ DataW.trod enc P w base spare held n e [c1] = some y1 := by
  obtain ⟨xs, n, _, rfl, hl, hlen, hf⟩ := DataW.trod_array ht h
  rw [hC] at hl
  rw [hc] at hf
  match xs, hlen, cs, hl with
  | [y0, y1], _, [c0, c1], _ => exact ⟨c0, c1, y0, y1, n, rfl, by simp, by simpa using hf 0 (by omega), by simpa using hf 1 (by omega)⟩
end
/-- A row of numbers that came in. -/
theorem RowOf.ints {H : Type} {w : World} {a : Option Addr} {len cap : Nat} {d : DataW H} {bs : List Int} (h : RowOf w 1 (fun (n : Int) cs (_ : DataW H) => cs = [.int .i64 n] ∧ -9223372036854775808 ≤ n ∧ n ≤ 9223372036854775807) a len cap d bs) : IntsAt w (.slice a len cap) bs := by
  obtain ⟨rfl, h1, h2, h3⟩ := h
  refine ⟨⟨a, cap, rfl, h1, ?_⟩, ?_, h2⟩
  · rcases h3 with ⟨_, h0, _⟩ | ⟨x, es, sp, rfl, _, he, hj, h4⟩
    · exact Or.inl h0
    · rcases h4 with h4 | ⟨bk, off, rfl, hb⟩
      · exact Or.inl h4
      · refine Or.inr ⟨bk, off, rfl, hb, fun j hjl => ?_⟩
        obtain ⟨cs, ⟨rfl, _⟩, _, h6⟩ := hj j hjl (by omega)
        have := h6 0 (by simp)
        simpa [Addr.add_mid] using this
  · intro x hx
    obtain ⟨j, hjl, rfl⟩ := List.mem_iff_getElem.1 hx
    rcases h3 with ⟨_, h0, _⟩ | ⟨x, es, sp, rfl, _, he, hj, h4⟩
    · omega
    · obtain ⟨cs, ⟨_, h5⟩, _⟩ := hj j hjl (by omega)
      exact h5
end Go.Proofs.Ythokbififjhflaa
