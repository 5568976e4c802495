/-
  Rows of numbers as rows of one cell each: for any program. No condition.
-/
import Derived.Test.YthokbififjhflaaGRow
namespace Go.Proofs.Ythokbififjhflaa
open Go.RowKit

def intL (l : List Int) : List Value := l.map (Value.int .i64)
theorem intL_length (l : List Int) : (intL l).length = l.length := by unfold intL; simp
theorem infoI : (Try.prog.info? 3).map (fun i => (i.zero, i.size, i.bytes)) = some (some (.int .i64 0), 1, 8) := by kernel_rfl
theorem one_intL (l : List Int) : ∀ u ∈ intL l, u.oneCell' = true := fun u hu => by
  unfold intL at hu
  obtain ⟨y, _, rfl⟩ := List.mem_map.1 hu
  rfl
def intC (x : Int) : List Value := [.int .i64 x]
theorem intC_len (x : Int) : (intC x).length = 1 := rfl
theorem intC_one (x : Int) : ∀ u ∈ intC x, u.oneCell' = true := fun u hu => by
  simp only [intC, List.mem_cons, List.not_mem_nil, or_false] at hu
  subst hu
  rfl
theorem rowL_int (l : List Int) : rowL intC l = intL l := by
  unfold rowL intL intC
  induction l with
  | nil => rfl
  | cons x l ih => simp only [List.flatMap_cons, List.map_cons, List.singleton_append, ih]
def okI (x : Int) : Prop := -9223372036854775808 ≤ x ∧ x ≤ 9223372036854775807
theorem RowAt.ints {w : World} {v : Value} {l : List Int} (h : RowAt intC w v l) (hlo : ∀ x ∈ l, okI x) (hl : l.length ≤ 65536) : IntsAt w v l := by
  obtain ⟨a, cap, e, h1, h2, h3⟩ := h.ex
  refine ⟨⟨a, cap, e, h1, ?_⟩, hlo, by unfold maxLen; omega⟩
  rcases h3 with h3 | ⟨bk, off, ha, hb, hx⟩
  · exact Or.inl h3
  · refine Or.inr ⟨bk, off, ha, hb, fun j hj => hx j _ ?_⟩
    rw [rowL_int]
    unfold intL
    rw [List.getElem?_map, List.getElem?_eq_getElem hj]
    rfl
end Go.Proofs.Ythokbififjhflaa
