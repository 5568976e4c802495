/-
  Rows of structs of one size, in memory: as they came in, one's own, from a place on, one behind the other: for any program. No condition.
-/
import Derived.Test.YthokbififjhflaaGOwn
import Derived.Laws.AppendOwnNone
namespace Go.Proofs.Ythokbififjhflaa
open Go.RowKit

theorem addr_add_block (x : Addr) (j : Nat) : (x.add j).block = x.block := by
  unfold Addr.add
  split <;> rfl
section
variable {α : Type} {k : Nat} {enc : α → List Value}
/-- The cells of a row. -/
def rowL (enc : α → List Value) (l : List α) : List Value := l.flatMap enc
theorem rowL_length (hk : ∀ x, (enc x).length = k) (l : List α) : (rowL enc l).length = l.length * k := by
  induction l with
  | nil => simp [rowL]
  | cons x l ih =>
    unfold rowL at ih ⊢
    rw [List.flatMap_cons, List.length_append, hk, ih, List.length_cons, Nat.add_mul, Nat.one_mul, Nat.add_comm]
theorem rowL_append (l m : List α) : rowL enc (l ++ m) = rowL enc l ++ rowL enc m := by unfold rowL; rw [List.flatMap_append]
theorem rowL_one (x : α) : rowL enc [x] = enc x := by unfold rowL; simp
theorem rowL_at (hk : ∀ x, (enc x).length = k) : ∀ (l : List α) (j : Nat) (hj : j < l.length) (c : Nat), c < k → (rowL enc l)[j * k + c]? = (enc l[j])[c]?
  | [], j, hj, _, _ => absurd hj (Nat.not_lt_zero _)
  | x :: l, 0, _, c, hc => by
    unfold rowL
    rw [List.flatMap_cons, Nat.zero_mul, Nat.zero_add, List.getElem?_append_left (by rw [hk]; exact hc)]
    rfl
  | x :: l, j + 1, hj, c, hc => by
    have ih := rowL_at hk l j (by simpa using hj) c hc
    unfold rowL at ih ⊢
    rw [List.flatMap_cons, List.getElem?_append_right (by rw [hk, Nat.add_mul]; omega), hk]
    have e : (j + 1) * k + c - k = j * k + c := by rw [Nat.add_mul]; omega
    rw [e, ih]
    rfl
theorem rowL_drop (hk : ∀ x, (enc x).length = k) : ∀ (l : List α) (n : Nat), rowL enc (l.drop n) = (rowL enc l).drop (n * k)
  | [], n => by simp [rowL]
  | x :: l, 0 => by simp
  | x :: l, n + 1 => by
    have ih := rowL_drop hk l n
    unfold rowL at ih ⊢
    have e : (n + 1) * k = (enc x).length + n * k := by rw [hk, Nat.add_mul]; omega
    rw [List.drop_succ_cons, List.flatMap_cons, ih, e, ← List.drop_drop, List.drop_left]
theorem rowL_one_cell (h1 : ∀ x, ∀ u ∈ enc x, u.oneCell' = true) (l : List α) : ∀ u ∈ rowL enc l, u.oneCell' = true := fun u hu => by
  unfold rowL at hu
  obtain ⟨x, _, hx⟩ := List.mem_flatMap.1 hu
  exact h1 x u hx
/-- A row to be read: nil, or at a place. -/
structure RowAt (enc : α → List Value) (w : World) (v : Value) (l : List α) : Prop where
  ex : ∃ (a : Option Addr) (cap : Nat), v = .slice a l.length cap ∧ l.length ≤ cap ∧ (a = none → l.length = 0 ∧ cap = 0) ∧ (l.length = 0 ∨ ∃ bk off, a = some ⟨bk, off, none⟩ ∧ bk < w.heap.size ∧ ∀ j u, (rowL enc l)[j]? = some u → w.cell? ⟨bk, off + j, none⟩ = some u)
theorem RowAt.keep {w w' : World} {v : Value} {l : List α} (h : RowAt enc w v l) (hs : w.heap.size ≤ w'.heap.size) (hk : ∀ bk off n cap, 0 < n → v = .slice (some ⟨bk, off, none⟩) n cap → w'.heap[bk]? = w.heap[bk]?) : RowAt enc w' v l := by
  obtain ⟨a, cap, e, h1, h2, h3⟩ := h.ex
  refine ⟨a, cap, e, h1, h2, ?_⟩
  by_cases h0 : l.length = 0
  · exact Or.inl h0
  rcases h3 with h3 | ⟨bk, off, ha, hb, hx⟩
  · exact Or.inl h3
  · subst ha
    exact Or.inr ⟨bk, off, rfl, Nat.lt_of_lt_of_le hb hs, fun j u hu => (World.cell?_of_block (hk bk off _ cap (by omega) e)).trans (hx j u hu)⟩
theorem RowAt.fresh {w w' : World} {v : Value} {l : List α} (h : RowAt enc w v l) (k : Below w.heap.size w w') : RowAt enc w' v l := by
  obtain ⟨a, cap, e, h1, h2, h3⟩ := h.ex
  refine ⟨a, cap, e, h1, h2, ?_⟩
  rcases h3 with h3 | ⟨bk, off, ha, hb, hx⟩
  · exact Or.inl h3
  · exact Or.inr ⟨bk, off, ha, Nat.lt_of_lt_of_le hb k.size, fun j u hu => (k.cell (p := ⟨bk, off + j, none⟩) (by exact hb)).trans (hx j u hu)⟩
theorem RowAt.nil (w : World) : RowAt enc w (.slice none 0 0) [] := ⟨none, 0, rfl, Nat.le_refl _, fun _ => ⟨rfl, rfl⟩, Or.inl rfl⟩
theorem RowAt.form {w : World} {v : Value} {l : List α} (h : RowAt enc w v l) : ∃ a cap, v = .slice a l.length cap := by
  obtain ⟨a, cap, e, _⟩ := h.ex
  exact ⟨a, cap, e⟩
/-- What a walk needs of a row that is not empty. -/
theorem RowAt.cells {w : World} {v : Value} {l : List α} (h : RowAt enc w v l) (hk : ∀ x, (enc x).length = k) (h0 : 0 < l.length) : ∃ bk off cap, v = .slice (some ⟨bk, off, none⟩) l.length cap ∧ l.length ≤ cap ∧ bk < w.heap.size ∧ ∀ j (hj : j < l.length) c u, c < k → (enc l[j])[c]? = some u → w.cell? ⟨bk, off + j * k + c, none⟩ = some u := by
  obtain ⟨a, cap, e, h1, h2, h3 | ⟨bk, off, rfl, hb, hx⟩⟩ := h.ex
  · omega
  · refine ⟨bk, off, cap, e, h1, hb, fun j hj c u hc hu => ?_⟩
    have := hx (j * k + c) u (by rw [rowL_at hk l j hj c hc]; exact hu)
    rw [Nat.add_assoc]
    exact this
/-- A row of one's own is a row to be read. -/
theorem RowAt.own {w : World} {base : Nat} {T : TypeId} {v : Value} {l : List α} (hk : ∀ x, (enc x).length = k) (h : w.ownsRow base T k v l.length (rowL enc l)) : RowAt enc w v l := by
  rcases h.2 with ⟨rfl, h0⟩ | ⟨g, cap, cur, rfl, _, hg, hc, _, _, _⟩
  · exact ⟨none, 0, by rw [h0], by omega, fun _ => ⟨h0, rfl⟩, Or.inl h0⟩
  · refine ⟨_, _, rfl, hc, fun e => (by cases e), Or.inr ⟨g, 0, rfl, lt_of_block hg, fun j u hu => ?_⟩⟩
    have hj : j < l.length * k := by
      have := (List.getElem?_eq_some_iff.1 hu).1
      rw [rowL_length hk] at this
      exact this
    rw [Nat.zero_add, World.ownsRow.cellAt h j hj]
    exact hu
/-- A row that was just built. -/
theorem RowAt.built {w : World} {v : Value} {l : List α} {B : Nat} {cs : Array Value} {t : TypeId} {fr : Nat × Nat} (hb : w.heap[B]? = some (.cells cs t fr)) (hc : cs.toList = rowL enc l) (n : Nat) (hn : n = l.length) (hv : v = .slice (some ⟨B, 0, none⟩) n n) : RowAt enc w v l := by
  subst hn
  refine ⟨_, _, hv, Nat.le_refl _, fun e => (by cases e), Or.inr ⟨B, 0, rfl, lt_of_block hb, fun j u hu => ?_⟩⟩
  have := World.news_of_block hb j u (by rw [hc]; exact hu)
  rw [Addr.add_mid] at this
  exact this
/-- A row in the thing's own blocks. -/
structure OwnRow (enc : α → List Value) (w : World) (S : Nat → Prop) (D : Nat) (v : Value) (l : List α) : Prop where
  at' : RowAt enc w v l
  own : ∀ bk off n cap, 0 < n → v = .slice (some ⟨bk, off, none⟩) n cap → S bk ∧ bk ≠ D
theorem OwnRow.keep {w w' : World} {S : Nat → Prop} {D : Nat} {v : Value} {l : List α} (h : OwnRow enc w S D v l) (hs : w.heap.size ≤ w'.heap.size) (hk : ∀ b, S b → b ≠ D → w'.heap[b]? = w.heap[b]?) : OwnRow enc w' S D v l :=
  ⟨h.at'.keep hs (fun bk off n cap h0 e => hk bk (h.own bk off n cap h0 e).1 (h.own bk off n cap h0 e).2), h.own⟩
theorem OwnRow.grow {w : World} {S S' : Nat → Prop} {D : Nat} {v : Value} {l : List α} (h : OwnRow enc w S D v l) (hs : ∀ b, S b → S' b) : OwnRow enc w S' D v l :=
  ⟨h.at', fun bk off n cap h0 e => ⟨hs _ (h.own bk off n cap h0 e).1, (h.own bk off n cap h0 e).2⟩⟩
theorem OwnRow.nil (w : World) (S : Nat → Prop) (D : Nat) : OwnRow enc w S D (.slice none 0 0) [] := ⟨RowAt.nil w, fun _ _ _ _ _ e => (by simp at e)⟩
theorem OwnRow.new {w : World} {base D : Nat} {S : Nat → Prop} {T : TypeId} {v : Value} {l : List α} (hk : ∀ x, (enc x).length = k) (h : w.ownsRow base T k v l.length (rowL enc l)) (hD : D < base) (hS : ∀ b, base ≤ b → b < w.heap.size → S b) : OwnRow enc w S D v l :=
  ⟨RowAt.own hk h, fun bk off n cap _ e => by
    subst e
    have := h.lt bk rfl
    exact ⟨hS bk this.1 this.2, by omega⟩⟩
end
section
variable {α : Type} {k : Nat} {enc : α → List Value} {w : World} {S : Nat → Prop} {D : Nat} {v : Value} {l : List α}
/-- The row from a place on. -/
theorem OwnRow.from (h : OwnRow enc w S D v l) (T E : TypeId) (i0 : TypeInfo) (hu : Try.prog.underlying T = some (.slice E)) (he : Try.prog.elem T = E) (hi : Try.prog.info? E = some i0) (hz1 : i0.size = k) (hk : ∀ x, (enc x).length = k) (n : Nat) (hn : n ≤ l.length) :
    ∃ u, (∀ w', (Instr.sliceAt T v (some (.int .i64 (n : Int))) none none).run Try.prog w' = .ok u w') ∧ OwnRow enc w S D u (l.drop n) := by
  have hu2 : Try.prog.underlying T = some (.slice (Try.prog.elem T)) := by rw [he]; exact hu
  have hsz : ∀ w, (sizeOf E).run Try.prog w = .ok k w := fun w => by simp [sizeOf, typeInfo, hi, hz1]
  obtain ⟨a, c, rfl, hc, h2, h3⟩ := h.at'.ex
  cases a with
  | none =>
    obtain ⟨hl0, rfl⟩ := h2 rfl
    have hl1 : l = [] := List.eq_nil_of_length_eq_zero hl0
    subst hl1
    have hn0 : n = 0 := by simpa using hn
    subst hn0
    refine ⟨.slice none 0 0, fun w' => ?_, OwnRow.nil w S D⟩
    have hz : ([] : List α).length = 0 := rfl
    rw [hz, run_sliceAt_slice _ _ _ _ _ _ hu2, run_slice_l _ _ _ _ _ hu2 _ _ (by omega) (by omega), he, hsz]
    simp [Result.andThen_ok, sliced]
  | some x =>
    refine ⟨.slice (some (if c = n then x else x.add (n * k))) (l.length - n) (c - n), fun w' => ?_, ⟨_, c - n, by rw [List.length_drop], by rw [List.length_drop]; omega, fun e => (by cases e), ?_⟩, fun bk off m cap h0 e => ?_⟩
    · rw [run_sliceAt_slice _ _ _ _ _ _ hu2, run_slice_l _ _ _ _ _ hu2 _ _ (by omega) (by omega), he, hsz]
      simp only [Result.andThen_ok, sliced, Int.toNat_natCast]
      by_cases hck : c = n
      · rw [if_pos hck, if_pos hck]
      · rw [if_neg hck, if_neg hck]
        simp
    · rw [List.length_drop]
      by_cases hz : l.length - n = 0
      · exact Or.inl hz
      rcases h3 with h3 | ⟨bk, off, ha, hb, hx⟩
      · omega
      · cases ha
        refine Or.inr ⟨bk, off + n * k, by rw [if_neg (by omega), Addr.add_mid], hb, fun j u hj => ?_⟩
        rw [rowL_drop hk, List.getElem?_drop] at hj
        rw [Nat.add_assoc]
        exact hx _ u hj
    · simp only [Value.slice.injEq, Option.some.injEq] at e
      obtain ⟨e1, e2, _⟩ := e
      rcases h3 with h3 | ⟨bk', off', ha, hb, hx⟩
      · omega
      · cases ha
        have h4 := h.own bk' off' l.length c (by omega) rfl
        have h5 : bk' = bk := by
          have := congrArg Addr.block e1
          split at this
          · exact this
          · rw [addr_add_block] at this
            exact this
        rw [← h5]
        exact h4
/-- What an append leaves: what is not the row's own block has not turned; the new row lies in the old one's block or in a new one. -/
structure Appended (base : Nat) (w w' : World) (v u : Value) : Prop where
  below : Below base w w'
  rest : ∀ b, b < w.heap.size → some b ≠ v.ownBlock → w'.heap[b]? = w.heap[b]?
  lies : u.ownBlock = v.ownBlock ∨ u.ownBlock = some w.heap.size
/-- A row behind one's own. -/
theorem wp_app_row {o : Oper} {a : Act} {K : Act → World → Prop} {Q : Exit → Act → World → Prop} (s x : Operand) (T E : TypeId) (ho : o.op = .call { callee := .builtin .append, args := #[s, x], argTypes := #[T, T] }) (i0 : TypeInfo) (z : Value) (bytes : Nat) (hu : Try.prog.underlying T = some (.slice E)) (hi : Try.prog.info? E = some i0) (hz0 : i0.zero = some z) (hz1 : i0.size = k) (hz2 : i0.bytes = bytes) (hzs : z.cells.size = k) (h0 : 0 < k)
    (hk : ∀ x, (enc x).length = k) (h1 : ∀ x, ∀ u ∈ enc x, u.oneCell' = true) {base n : Nat} {v u : Value} {xs : List Value} (hs : a.eval s = v) (hx : a.eval x = u) (hown : w.ownsRow base E k v n xs) (hr : RowAt enc w u l) (hb : base ≤ w.heap.size) (hn : (n + l.length) * bytes ≤ 140737488355328) (hn2 : n + l.length ≤ 140737488355328)
    (h : ∀ u' w', w'.ownsRow base E k u' (n + l.length) (xs ++ rowL enc l) → Appended base w w' v u' → K (a.put o.dst u') w') : o.wp Try.prog a w K Q := by
  obtain ⟨ad, cap, rfl, h2, h3, h4⟩ := hr.ex
  cases ad with
  | none =>
    obtain ⟨hl0, rfl⟩ := h3 rfl
    have hl1 : l = [] := List.eq_nil_of_length_eq_zero hl0
    subst hl1
    have hrun := run_append_owned_none (P := Try.prog) (w := w) base T o.type E i0 k hu hi v n xs hown
    have h' := h v w (by simpa [rowL] using hown) ⟨Below.refl _ _, fun _ _ _ => rfl, Or.inl rfl⟩
    have hx' : a.eval x = .slice none 0 0 := hx
    unfold Oper.wp
    simp [execOp, ho, resolve, invoke, builtin, hx', hs, hrun, Result.andThen]
    exact h'
  | some ad =>
    have hnews : ∀ j u, (rowL enc l)[j]? = some u → w.cell? (ad.add j) = some u := fun j u hu => by
      rcases h4 with h4 | ⟨bk, off, e, _, hx4⟩
      · have hl1 : l = [] := List.eq_nil_of_length_eq_zero h4
        subst hl1
        simp [rowL] at hu
      · cases e
        rw [Addr.add_mid]
        exact hx4 j u hu
    obtain ⟨u', w', hr, h5, h6, _, h8⟩ := run_append_own_at (P := Try.prog) w base T o.type E i0 z k bytes hu hi hz0 hz1 hz2 hzs h0 v n xs hown ad l.length cap (rowL enc l) (rowL_length hk l) hnews (rowL_one_cell h1 l) (by unfold maxLen; omega) hn hb
    unfold Oper.wp execOp
    simp only [ho, resolve, invoke, builtin, Sem.run_bind, Sem.run_pure, Result.andThen_ok, List.map_toArray, List.map_cons, List.map_nil, hs, hx, hr]
    exact h u' w' h5 ⟨(Below.refl _ w).grown h6 hb (fun k hk => (hown.lt k hk).1), fun b hb hne => h6.block b hb hne, h8⟩
theorem wpList_app_row {ops : Array Oper} {rest : List Oper} {o : Oper} {a : Act} {Q : Exit → Act → World → Prop} (hgd : o.guard = none) (s x : Operand) (T E : TypeId) (ho : o.op = .call { callee := .builtin .append, args := #[s, x], argTypes := #[T, T] }) (i0 : TypeInfo) (z : Value) (bytes : Nat) (hu : Try.prog.underlying T = some (.slice E)) (hi : Try.prog.info? E = some i0) (hz0 : i0.zero = some z) (hz1 : i0.size = k) (hz2 : i0.bytes = bytes) (hzs : z.cells.size = k) (h0 : 0 < k)
    (hk : ∀ x, (enc x).length = k) (h1 : ∀ x, ∀ u ∈ enc x, u.oneCell' = true) {base n : Nat} {v u : Value} {xs : List Value} (hs : a.eval s = v) (hx : a.eval x = u) (hown : w.ownsRow base E k v n xs) (hr : RowAt enc w u l) (hb : base ≤ w.heap.size) (hn : (n + l.length) * bytes ≤ 140737488355328) (hn2 : n + l.length ≤ 140737488355328)
    (h : ∀ u' w', w'.ownsRow base E k u' (n + l.length) (xs ++ rowL enc l) → Appended base w w' v u' → wpList Try.prog ops Q rest (a.put o.dst u') w') : wpList Try.prog ops Q (o :: rest) a w :=
  wpList_plain hgd fun _ hK => wp_app_row s x T E ho i0 z bytes hu hi hz0 hz1 hz2 hzs h0 hk h1 hs hx hown hr hb hn hn2 fun u' w' h2 h3 => hK _ _ (h u' w' h2 h3)
end
theorem RowAt.none0 {α : Type} {enc : α → List Value} {w : World} {u : Value} (r : RowAt enc w u ([] : List α)) : ∃ a cap, u = .slice a 0 cap := r.form
theorem RowAt.lt {α : Type} {enc : α → List Value} {w : World} {v : Value} {l : List α} (h : RowAt enc w v l) {bk off n cap : Nat} (h0 : 0 < n) (e : v = .slice (some ⟨bk, off, none⟩) n cap) : bk < w.heap.size := by
  obtain ⟨a, c, e1, _, _, h3⟩ := h.ex
  rw [e] at e1
  simp only [Value.slice.injEq] at e1
  obtain ⟨e1, e2, _⟩ := e1
  rcases h3 with h3 | ⟨bk', off', e4, hb, _⟩
  · omega
  · rw [← e1] at e4
    cases e4
    exact hb
/-- A row that was handed out lies in a thing's own blocks, or in new ones. -/
def OutOf (S : Nat → Prop) (n : Nat) (u : Value) : Prop := ∀ bk off m cap, 0 < m → u = .slice (some ⟨bk, off, none⟩) m cap → S bk ∨ n ≤ bk
theorem OutOf.nil (S : Nat → Prop) (n : Nat) : OutOf S n (.slice none 0 0) := fun _ _ _ _ _ e => (by simp at e)
theorem OutOf.own {S : Nat → Prop} {w : World} {n m k : Nat} {u : Value} {T : TypeId} {xs : List Value} (h : w.ownsRow n T k u m xs) : OutOf S n u := fun bk off m cap _ e => by
  subst e
  exact Or.inr (h.lt bk rfl).1
end Go.Proofs.Ythokbififjhflaa
