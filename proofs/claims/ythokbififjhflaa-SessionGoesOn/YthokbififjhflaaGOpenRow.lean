/-
  A slice of structs of one size that came in, as a row to be read: for any program. No condition.
-/
import Derived.Test.YthokbififjhflaaGOpen
import Derived.Test.YthokbififjhflaaGRow
namespace Go.Proofs.Ythokbififjhflaa
open Go.ChangeShapes Go.WideShapes Go.ChangeAt Go.RowKit Go.Joins Go.Deep

section
variable {α : Type} {k : Nat} {enc : α → List Value} {H : Type} {w : World} {L : α → List Value → DataW H → Prop} {a : Option Addr} {len cap : Nat} {d : DataW H} {l : List α}
theorem RowOf.row (h : RowOf w k L a len cap d l) (h0 : 0 < k) (hk : ∀ x, (enc x).length = k) (hL : ∀ q cs y, L q cs y → cs = enc q) : RowAt enc w (.slice a len cap) l := by
  obtain ⟨rfl, h1, h2, h3⟩ := h
  rcases h3 with ⟨ha, hl0, hc0, _⟩ | ⟨x, es, sp, rfl, _, he, hj, h4⟩
  · exact ⟨a, cap, rfl, h1, fun _ => ⟨hl0, hc0⟩, Or.inl hl0⟩
  · refine ⟨some x, cap, rfl, h1, fun e => (by cases e), ?_⟩
    rcases h4 with h4 | ⟨bk, off, rfl, hb⟩
    · exact Or.inl h4
    · refine Or.inr ⟨bk, off, rfl, hb, fun j u hu => ?_⟩
      have hlt : j < l.length * k := by
        have := (List.getElem?_eq_some_iff.1 hu).1
        rw [rowL_length hk] at this
        exact this
      have hi : j / k < l.length := Nat.div_lt_of_lt_mul (by rw [Nat.mul_comm]; exact hlt)
      have hc : j % k < k := Nat.mod_lt _ h0
      have hjk : j / k * k + j % k = j := by rw [Nat.mul_comm]; exact Nat.div_add_mod j k
      rw [← hjk, rowL_at hk l _ hi _ hc] at hu
      obtain ⟨cs, hcs, _, h6⟩ := hj (j / k) hi (by omega)
      have e := hL _ _ _ hcs
      subst e
      obtain ⟨hcl, e2⟩ := List.getElem?_eq_some_iff.1 hu
      have := h6 (j % k) hcl
      rw [Addr.add_mid, hjk, e2] at this
      exact this
theorem RowOf.all (h : RowOf w k L a len cap d l) (p : α → Prop) (hL : ∀ q cs y, L q cs y → p q) : ∀ x ∈ l, p x := fun x hx => by
  obtain ⟨rfl, h1, h2, h3⟩ := h
  obtain ⟨j, hj, rfl⟩ := List.getElem_of_mem hx
  rcases h3 with ⟨_, hl0, _⟩ | ⟨y, es, sp, rfl, _, he, hjj, _⟩
  · omega
  · obtain ⟨cs, hcs, _⟩ := hjj j hj (by omega)
    exact hL _ _ _ hcs
end
section
variable {H : Type} {enc : TypeId × Value → H} {P : Program} {w : World}
theorem trod_three_of {t : TypeId} {f0 f1 f2 : Field} {fuel : Nat} {cs : List Value} {base : Nat} {spare : Nat → Bool} {held : Bool} {x : DataW H × List MemPlace} (ht : P.underlying t = some (.struct #[f0, f1, f2])) (h : DataW.trod enc P w base spare held fuel t cs = some x) :
    ∃ y0 y1 y2 n, x.1 = .agg [y0.1, y1.1, y2.1] ∧ cs.length = P.cellsOf t ∧ DataW.trod enc P w base spare held n f0.type ((cs.drop f0.offset).take (P.cellsOf f0.type)) = some y0 ∧ DataW.trod enc P w base spare held n f1.type ((cs.drop f1.offset).take (P.cellsOf f1.type)) = some y1 ∧
      DataW.trod enc P w base spare held n f2.type ((cs.drop f2.offset).take (P.cellsOf f2.type)) = some y2 := by
  obtain ⟨xs, n, _, rfl, hl, hlen, hf⟩ := DataW.trod_struct ht h
  match xs, hlen with
  | [y0, y1, y2], _ => exact ⟨y0, y1, y2, n, by simp, hl, by simpa using hf 0 f0 rfl, by simpa using hf 1 f1 rfl, by simpa using hf 2 f2 rfl⟩
end
end Go.Proofs.Ythokbififjhflaa
