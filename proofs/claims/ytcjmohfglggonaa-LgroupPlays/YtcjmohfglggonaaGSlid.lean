/-
  Rows of one's own that lie in the midst of a block: read, their first taken away, more laid behind them: for any program. No condition.
-/
import Derived.Test.YtcjmohfglggonaaGRow
namespace Go.Proofs.Ytcjmohfglggonaa
open Go.RowKit

/-- A row in a block of its own, from some place on. -/
structure Slid {α : Type} (enc : α → List Value) (k : Nat) (E : TypeId) (w : World) (v : Value) (l : List α) : Prop where
  ex : (v = .slice none 0 0 ∧ l = []) ∨ ∃ g off cap cur, v = .slice (some ⟨g, off, none⟩) l.length cap ∧ w.heap[g]? = some (.cells cur E (0, 0)) ∧ l.length ≤ cap ∧ cap ≤ maxLen ∧ off + cap * k ≤ cur.size ∧ (cur.toList.drop off).take (l.length * k) = rowL enc l
section
variable {α : Type} {k : Nat} {enc : α → List Value} {E : TypeId} {w w' : World} {v : Value} {l m : List α}
theorem Slid.nil (w : World) : Slid enc k E w (.slice none 0 0) [] := ⟨Or.inl ⟨rfl, rfl⟩⟩
theorem Slid.keep (h : Slid enc k E w v l) (hk : ∀ g, v.ownBlock = some g → w'.heap[g]? = w.heap[g]?) : Slid enc k E w' v l := by
  rcases h.ex with h | ⟨g, off, cap, cur, rfl, h2, h3⟩
  · exact ⟨Or.inl h⟩
  · exact ⟨Or.inr ⟨g, off, cap, cur, rfl, (hk g rfl).trans h2, h3⟩⟩
theorem Slid.lt (h : Slid enc k E w v l) {g : Nat} (hg : v.ownBlock = some g) : g < w.heap.size := by
  rcases h.ex with ⟨rfl, _⟩ | ⟨g', off, cap, cur, rfl, h2, h3⟩
  · simp [Value.ownBlock] at hg
  · simp only [Value.ownBlock, Option.some.injEq] at hg
    subst hg
    exact lt_of_block h2
theorem Slid.block (h : Slid enc k E w v l) {g : Nat} (hg : v.ownBlock = some g) : ∃ cur, w.heap[g]? = some (.cells cur E (0, 0)) := by
  rcases h.ex with ⟨rfl, _⟩ | ⟨g', off, cap, cur, rfl, h2, h3⟩
  · simp [Value.ownBlock] at hg
  · simp only [Value.ownBlock, Option.some.injEq] at hg
    subst hg
    exact ⟨cur, h2⟩
theorem Slid.ne (h : Slid enc k E w v l) {c : Nat} {cs : Array Value} {t : TypeId} {fr : Nat × Nat} (hc : w.heap[c]? = some (.cells cs t fr)) (hne : E ≠ t) : v.ownBlock ≠ some c := fun e => by
  obtain ⟨cur, hb⟩ := h.block e
  rw [hc] at hb
  simp only [Option.some.injEq, Obj.cells.injEq] at hb
  exact hne hb.2.1.symm
theorem Slid.form (h : Slid enc k E w v l) : ∃ a cap, v = .slice a l.length cap := by
  rcases h.ex with ⟨rfl, rfl⟩ | ⟨g, off, cap, cur, rfl, _⟩
  · exact ⟨_, _, rfl⟩
  · exact ⟨_, _, rfl⟩
theorem Slid.row (hk : ∀ x, (enc x).length = k) (h : Slid enc k E w v l) : RowAt enc w v l := by
  rcases h.ex with ⟨rfl, rfl⟩ | ⟨g, off, cap, cur, rfl, h2, h3, h4, h5, h6⟩
  · exact RowAt.nil w
  · refine ⟨_, cap, rfl, h3, fun e => (by cases e), Or.inr ⟨g, off, rfl, lt_of_block h2, fun j u hu => ?_⟩⟩
    have hj : j < l.length * k := by
      have := (List.getElem?_eq_some_iff.1 hu).1
      rw [rowL_length hk] at this
      exact this
    rw [cell_of_row w g _ cur E (0, 0) h2]
    rw [← h6, List.getElem?_take_of_lt hj, List.getElem?_drop] at hu
    simpa using hu
/-- The row without its first. -/
theorem Slid.tail (T : TypeId) (i0 : TypeInfo) (hu : Try.prog.underlying T = some (.slice E)) (he : Try.prog.elem T = E) (hi : Try.prog.info? E = some i0) (hz1 : i0.size = k) (hk : ∀ x, (enc x).length = k) {x : α} (h : Slid enc k E w v (x :: l)) :
    ∃ u, (∀ w', (Instr.sliceAt T v (some (.int .i64 1)) none none).run Try.prog w' = .ok u w') ∧ Slid enc k E w u l ∧ u.ownBlock = v.ownBlock := by
  have hu2 : Try.prog.underlying T = some (.slice (Try.prog.elem T)) := by rw [he]; exact hu
  have hsz : ∀ w, (sizeOf E).run Try.prog w = .ok k w := fun w => by simp [sizeOf, typeInfo, hi, hz1]
  rcases h.ex with ⟨_, h⟩ | ⟨g, off, cap, cur, rfl, h2, h3, h4, h5, h6⟩
  · cases h
  · rw [List.length_cons] at h3
    have hrun : ∀ w', (Instr.sliceAt T (.slice (some ⟨g, off, none⟩) (x :: l).length cap) (some (.int .i64 1)) none none).run Try.prog w' = .ok (.slice (some (if cap = 1 then ⟨g, off, none⟩ else ⟨g, off + k, none⟩)) l.length (cap - 1)) w' := fun w' => by
      rw [run_sliceAt_slice _ _ _ _ _ _ hu2, run_slice_l _ _ _ _ _ hu2 _ _ (by omega) (by rw [List.length_cons]; omega), he, hsz]
      simp only [Result.andThen_ok, sliced]
      by_cases hck : cap = 1
      · subst hck
        simp
      · rw [if_neg hck]
        simp [Addr.add_mid, hck]
    refine ⟨_, hrun, ?_, ?_⟩
    · by_cases hck : cap = 1
      · rw [if_pos hck]
        have hl : l = [] := List.eq_nil_of_length_eq_zero (by omega)
        subst hl hck
        refine ⟨Or.inr ⟨g, off, 0, cur, rfl, h2, Nat.le_refl _, Nat.zero_le _, by omega, ?_⟩⟩
        simp [rowL]
      · rw [if_neg hck]
        have e2 : cap * k = k + (cap - 1) * k := by
          obtain ⟨c, rfl⟩ : ∃ c, cap = c + 1 := ⟨cap - 1, by omega⟩
          rw [Nat.add_mul, Nat.one_mul, Nat.add_sub_cancel, Nat.add_comm]
        refine ⟨Or.inr ⟨g, off + k, cap - 1, cur, rfl, h2, by omega, by omega, by omega, ?_⟩⟩
        have e3 := congrArg (List.drop k) h6
        rw [List.drop_take, List.drop_drop, List.length_cons, Nat.add_mul, Nat.one_mul, Nat.add_sub_cancel] at e3
        rw [e3]
        unfold rowL
        rw [List.flatMap_cons, List.drop_append, hk, Nat.sub_self, List.drop_zero, List.drop_of_length_le (by rw [hk]; exact Nat.le_refl _), List.nil_append]
    · by_cases hck : cap = 1
      · rw [if_pos hck]
        rfl
      · rw [if_neg hck]
        rfl
/-- More behind it. -/
theorem Slid.append (T ty : TypeId) (i0 : TypeInfo) (z : Value) (bytes : Nat) (hu : Try.prog.underlying T = some (.slice E)) (hi : Try.prog.info? E = some i0) (hz0 : i0.zero = some z) (hz1 : i0.size = k) (hz2 : i0.bytes = bytes) (hzs : z.cells.size = k)
    (hk : ∀ x, (enc x).length = k) (h1 : ∀ x, ∀ u ∈ enc x, u.oneCell' = true) (h : Slid enc k E w v l) (ad : Addr) (c : Nat) (hnews : ∀ j u, (rowL enc m)[j]? = some u → w.cell? (ad.add j) = some u) (hm : 0 < m.length) (h63 : l.length + m.length ≤ maxLen) (hb : (l.length + m.length) * bytes ≤ 140737488355328) :
    ∃ u w', (Builtin.append_ #[T, T] ty #[v, .slice (some ad) m.length c]).run Try.prog w = .ok u w' ∧ Slid enc k E w' u (l ++ m) ∧ w.grownBy w' v.ownBlock ∧ (u.ownBlock = v.ownBlock ∨ u.ownBlock = some w.heap.size) := by
  subst hz1
  subst hz2
  have hsmall : l.length + m.length ≤ 9223372036854775807 := by simp only [maxLen] at h63; omega
  have hl := rowL_length hk m
  rcases h.ex with ⟨rfl, rfl⟩ | ⟨g, off, cap, cur, rfl, h2, h3, h4, h5, h6⟩
  · have hr := run_append_nil (P := Try.prog) w T ty E i0 z hu hi hz0 ad m.length c (rowL enc m) hl hnews hm (by simp at hsmall; omega) (by simp at hb; omega)
    have hge := grownCap_ge w m.length 0 E
    have hcm : grownCap w m.length 0 E ≤ maxLen := grownCap_le_maxLen w m.length 0 E (by simpa using h63)
    refine ⟨_, _, hr, ⟨Or.inr ⟨_, 0, _, _, by simp, heap_alloc_new w.drew _, by simpa using hge, hcm, ?_, ?_⟩⟩, ⟨rfl, rfl, rfl, by simp, fun b hb _ => Below.heap_alloc w.drew _ b hb⟩, Or.inr rfl⟩
    · simp only [Array.size_append, List.size_toArray, size_zeroCells, hzs, hl, ← Nat.add_mul, Nat.zero_add]
      exact Nat.mul_le_mul_right _ (by omega)
    · simp only [Array.toList_append, List.drop_zero, List.nil_append]
      rw [← hl]
      exact List.take_left
  · have hlo := rowL_length hk l
    by_cases hroom : l.length + m.length ≤ cap
    · have hfit : off + l.length * i0.size + (rowL enc m).length ≤ cur.size := by
        have h7 := Nat.mul_le_mul_right i0.size hroom
        rw [Nat.add_mul] at h7
        omega
      have hf := run_firstCells_some (P := Try.prog) w i0.size m.length ad m.length c (rowL enc m) hl hnews
      have hst := run_storeCells_at Try.prog g (off + l.length * i0.size) E (rowL enc m) 0 cur w h2 (by simpa using hfit) (rowL_one_cell h1 m)
      simp only [Nat.add_zero] at hst
      have hr : (Builtin.append_ #[T, T] ty #[.slice (some ⟨g, off, none⟩) l.length cap, .slice (some ad) m.length c]).run Try.prog w = .ok (.slice (some ⟨g, off, none⟩) (l.length + m.length) cap) (w.setRow g (cur.toList.take (off + l.length * i0.size) ++ rowL enc m ++ cur.toList.drop (off + l.length * i0.size + (rowL enc m).length)).toArray) := by
        simp [Builtin.append_, run_underlying hu, sizeOf, typeInfo, hi, Builtin.lenOf, hroom, hf, Addr.add_lit, hst]
      refine ⟨_, _, hr, ⟨Or.inr ⟨g, off, cap, _, by rw [List.length_append], setRow_heap w g cur _ E _ h2, by rw [List.length_append]; exact hroom, h4, ?_, ?_⟩⟩, ⟨rfl, rfl, rfl, by simp, fun b _ hb => setRow_other w g b _ (fun e => hb (by simp [Value.ownBlock, e]))⟩, Or.inl rfl⟩
      · simp only [List.size_toArray, List.length_append, List.length_take, List.length_drop, Array.length_toList]
        omega
      · have hC : off + l.length * i0.size ≤ cur.toList.length := by
          have e0 : cur.toList.length = cur.size := rfl
          omega
        have e1 : (cur.toList.take (off + l.length * i0.size)).drop off = rowL enc l := by
          rw [List.drop_take, Nat.add_sub_cancel_left, h6]
        have e2 : (cur.toList.take (off + l.length * i0.size)).length = off + l.length * i0.size := by rw [List.length_take]; omega
        rw [List.append_assoc, List.drop_append, e1, e2, show off - (off + l.length * i0.size) = 0 from by omega, List.drop_zero, ← List.append_assoc, ← rowL_append, ← rowL_length hk (l ++ m)]
        exact List.take_left
    · have holds : ∀ j u, (rowL enc l)[j]? = some u → w.cell? ((⟨g, off, none⟩ : Addr).add j) = some u := fun j u hu => by
        have hj : j < l.length * i0.size := by
          have := (List.getElem?_eq_some_iff.1 hu).1
          rw [rowL_length hk] at this
          exact this
        rw [Addr.add_mid, cell_of_row w g _ cur E (0, 0) h2]
        rw [← h6, List.getElem?_take_of_lt hj, List.getElem?_drop] at hu
        simpa using hu
      have hr := run_append_grow (P := Try.prog) w T ty E i0 z hu hi hz0 ⟨g, off, none⟩ l.length cap (rowL enc l) hlo holds ad m.length c (rowL enc m) hl hnews (by omega) (by omega) (growslice_fits (by omega) hb)
      have hge := grownCap_ge w (l.length + m.length) cap E
      have hcm : grownCap w (l.length + m.length) cap E ≤ maxLen := grownCap_le_maxLen w (l.length + m.length) cap E h63
      refine ⟨_, _, hr, ⟨Or.inr ⟨_, 0, _, _, by rw [List.length_append]; rfl, heap_alloc_new w.drew _, by rw [List.length_append]; exact hge, hcm, ?_, ?_⟩⟩, ⟨rfl, rfl, rfl, by simp, fun b hb _ => Below.heap_alloc w.drew _ b hb⟩, Or.inr rfl⟩
      · simp only [Array.size_append, List.size_toArray, size_zeroCells, hzs, hl, hlo, ← Nat.add_mul, Nat.zero_add]
        exact Nat.mul_le_mul_right _ (by omega)
      · simp only [Array.toList_append, List.drop_zero]
        rw [← rowL_append, ← rowL_length hk (l ++ m)]
        exact List.take_left
theorem wp_app_slid {o : Oper} {a : Act} {K : Act → World → Prop} {Q : Exit → Act → World → Prop} (s x : Operand) (T : TypeId) (ho : o.op = .call { callee := .builtin .append, args := #[s, x], argTypes := #[T, T] }) (i0 : TypeInfo) (z : Value) (bytes : Nat) (hu : Try.prog.underlying T = some (.slice E)) (hi : Try.prog.info? E = some i0) (hz0 : i0.zero = some z) (hz1 : i0.size = k) (hz2 : i0.bytes = bytes) (hzs : z.cells.size = k)
    (hk : ∀ x, (enc x).length = k) (h1 : ∀ x, ∀ u ∈ enc x, u.oneCell' = true) (hs : a.eval s = v) (h : Slid enc k E w v l) (ad : Addr) (n c : Nat) (hx : a.eval x = .slice (some ad) n c) (hn : n = m.length) (hnews : ∀ j u, (rowL enc m)[j]? = some u → w.cell? (ad.add j) = some u) (hm : 0 < m.length) (h63 : l.length + m.length ≤ maxLen) (hb : (l.length + m.length) * bytes ≤ 140737488355328)
    (hK : ∀ u w', Slid enc k E w' u (l ++ m) → w.grownBy w' v.ownBlock → (u.ownBlock = v.ownBlock ∨ u.ownBlock = some w.heap.size) → K (a.put o.dst u) w') : o.wp Try.prog a w K Q := by
  subst hn
  obtain ⟨u, w', hr, h2, h3, h4⟩ := h.append T o.type i0 z bytes hu hi hz0 hz1 hz2 hzs hk h1 ad c hnews hm h63 hb
  unfold Oper.wp execOp
  simp only [ho, resolve, invoke, builtin, Sem.run_bind, Sem.run_pure, Result.andThen_ok, List.map_toArray, List.map_cons, List.map_nil, hs, hx, hr]
  exact hK u w' h2 h3 h4
theorem wpList_app_slid {ops : Array Oper} {rest : List Oper} {o : Oper} {a : Act} {Q : Exit → Act → World → Prop} (hgd : o.guard = none) (s x : Operand) (T : TypeId) (ho : o.op = .call { callee := .builtin .append, args := #[s, x], argTypes := #[T, T] }) (i0 : TypeInfo) (z : Value) (bytes : Nat) (hu : Try.prog.underlying T = some (.slice E)) (hi : Try.prog.info? E = some i0) (hz0 : i0.zero = some z) (hz1 : i0.size = k) (hz2 : i0.bytes = bytes) (hzs : z.cells.size = k)
    (hk : ∀ x, (enc x).length = k) (h1 : ∀ x, ∀ u ∈ enc x, u.oneCell' = true) (hs : a.eval s = v) (h : Slid enc k E w v l) (ad : Addr) (n c : Nat) (hx : a.eval x = .slice (some ad) n c) (hn : n = m.length) (hnews : ∀ j u, (rowL enc m)[j]? = some u → w.cell? (ad.add j) = some u) (hm : 0 < m.length) (h63 : l.length + m.length ≤ maxLen) (hb : (l.length + m.length) * bytes ≤ 140737488355328)
    (hK : ∀ u w', Slid enc k E w' u (l ++ m) → w.grownBy w' v.ownBlock → (u.ownBlock = v.ownBlock ∨ u.ownBlock = some w.heap.size) → wpList Try.prog ops Q rest (a.put o.dst u) w') : wpList Try.prog ops Q (o :: rest) a w :=
  wpList_plain hgd fun _ hKK => wp_app_slid s x T ho i0 z bytes hu hi hz0 hz1 hz2 hzs hk h1 hs h ad n c hx hn hnews hm h63 hb fun u w' h2 h3 h4 => hKK _ _ (hK u w' h2 h3 h4)
end
end Go.Proofs.Ytcjmohfglggonaa
