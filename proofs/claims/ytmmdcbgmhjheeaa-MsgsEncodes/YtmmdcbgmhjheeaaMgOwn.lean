/-
  A row of entries that a call owns: one more is appended; it is a row of entries to be read. No condition but that there are not many.
-/
import Derived.Test.YtmmdcbgmhjheeaaMgRow
import Derived.Deep.AppendLies
import Derived.Below
namespace Go.Proofs.Ytmmdcbgmhjheeaa
open Go.RowKit


/-- An entry's seven cells. -/
def entL (e : En) : List Value := [.int .i64 e.slot, .int .i64 e.ballot, .int .i64 e.cmd.kind, .int .i64 e.cmd.session, .int .i64 e.cmd.seq, .string e.cmd.name, .int .i64 e.cmd.n]
theorem entL_length (e : En) : (entL e).length = 7 := rfl
def entsL (es : List En) : List Value := es.flatMap entL
theorem entsL_length (es : List En) : (entsL es).length = es.length * 7 := by
  induction es with
  | nil => rfl
  | cons e es ih =>
    unfold entsL at ih ⊢
    rw [List.flatMap_cons, List.length_append, ih, entL_length, List.length_cons]
    omega
theorem entsL_snoc (es : List En) (e : En) : entsL (es ++ [e]) = entsL es ++ entL e := by
  unfold entsL
  rw [List.flatMap_append]
  simp
theorem entsL_at (es : List En) : ∀ (j i : Nat) (hj : j < es.length), i < 7 → (entsL es)[j * 7 + i]? = (entL es[j])[i]? := by
  induction es with
  | nil => intro j i hj; simp at hj
  | cons e es ih =>
    intro j i hj hi
    have ec : entsL (e :: es) = entL e ++ entsL es := by unfold entsL; rw [List.flatMap_cons]
    rw [ec]
    cases j with
    | zero =>
      rw [List.getElem?_append_left (by rw [entL_length]; omega)]
      simp
    | succ j =>
      rw [List.getElem?_append_right (by rw [entL_length]; omega), entL_length, show (j + 1) * 7 + i - 7 = j * 7 + i by omega]
      exact ih j i (by simpa using hj) hi

/-- A row of entries of the call's own. -/
def OwnEs (w : World) (base : Nat) (v : Value) (es : List En) : Prop := w.ownsRow base 57 7 v es.length (entsL es)
theorem OwnEs.nil (w : World) (base : Nat) : OwnEs w base (.slice none 0 0) [] := World.ownsRow_nil _ _ _ _
theorem OwnEs.keep {w w' : World} {base : Nat} {v : Value} {es : List En} (h : OwnEs w base v es) {row : Option Nat} (hg : w.grownBy w' row) (hne : ∀ k, row = some k → k < base) : OwnEs w' base v es := by
  refine World.ownsRow.kept h hg ?_
  cases hv : v.ownBlock with
  | none => exact Or.inl rfl
  | some g =>
    refine Or.inr fun e => ?_
    have h1 := hne g e.symm
    have h2 := (World.ownsRow.lt h g hv).1
    omega
theorem OwnEs.below {w w' : World} {base : Nat} {v : Value} {es : List En} (h : OwnEs w base v es) (hb : Below w.heap.size w w') : OwnEs w' base v es := h.keep (grown_below hb none) (fun _ e => by cases e)
theorem OwnEs.setCell {w : World} {base : Nat} {v : Value} {es : List En} (h : OwnEs w base v es) {p : Addr} (hp : p.block < base) (u : Value) : OwnEs (w.setCell p u) base v es := ownsRow_setCell_below h hp u
/-- It is a row of entries to be read. -/
theorem OwnEs.at {w : World} {base : Nat} {v : Value} {es : List En} (h : OwnEs w base v es) : EntAt w v es := by
  rcases h.2 with ⟨rfl, h0⟩ | ⟨g, cap, cur, rfl, _, hg, hn, _, hs, ht⟩
  · exact ⟨⟨none, 0, by rw [h0], Or.inl h0⟩⟩
  · refine ⟨⟨_, _, rfl, ?_⟩⟩
    by_cases h0 : es.length = 0
    · exact Or.inl h0
    · refine Or.inr ⟨g, 0, rfl, lt_of_block hg, fun j hj => ?_⟩
      have hc : ∀ i, i < 7 → w.cell? ⟨g, 0 + j * 7 + i, none⟩ = (entL es[j])[i]? := fun i hi => by
        rw [← entsL_at es j i hj hi, ← ht, Nat.zero_add, List.getElem?_take_of_lt (by omega)]
        simp [World.cell?, hg]
      exact ⟨hc 0 (by omega), hc 1 (by omega), hc 2 (by omega), hc 3 (by omega), hc 4 (by omega), hc 5 (by omega), hc 6 (by omega)⟩

theorem infoE : (Try.prog.info? 57).map (fun i => (i.zero, i.size, i.bytes)) = some (some (.agg #[.int .i64 0, .int .i64 0, .int .i64 0, .int .i64 0, .int .i64 0, .string ⟨#[]⟩, .int .i64 0]), 7, 64) := by kernel_rfl
theorem IsEn.news {w : World} {B : Nat} {e : En} (h : IsEn w B 0 e) : ∀ j u, (entL e)[j]? = some u → w.cell? ((⟨B, 0, none⟩ : Addr).add j) = some u := fun j u hu => by
  have e0 := h.c0
  have e1 := h.c1
  have e2 := h.c2
  have e3 := h.c3
  have e4 := h.c4
  have e5 := h.c5
  have e6 := h.c6
  simp only [Nat.zero_add] at e1 e2 e3 e4 e5 e6
  rw [Addr.add_mid, Nat.zero_add, ← hu]
  match j with
  | 0 => exact e0
  | 1 => exact e1
  | 2 => exact e2
  | 3 => exact e3
  | 4 => exact e4
  | 5 => exact e5
  | 6 => exact e6
  | j + 7 => rw [List.getElem?_eq_none (by rw [entL_length]; omega)] at hu; cases hu
/-- One entry more. -/
theorem append_ent {ops : Array Oper} {rest : List Oper} {o : Oper} {a : Act} {w : World} {Q : Exit → Act → World → Prop} (hgd : o.guard = none) (s x : Operand)
    (ho : o.op = .call { callee := .builtin .append, args := #[s, x], argTypes := #[23, 23] }) {base B : Nat} {v : Value} {es : List En} {e : En}
    (hs : a.eval s = v) (hx : a.eval x = .slice (some ⟨B, 0, none⟩) 1 1) (hown : OwnEs w base v es) (hB : IsEn w B 0 e) (hl : es.length ≤ 5000) (hbase : base ≤ w.heap.size)
    (h : ∀ g cap w', OwnEs w' base (.slice (some ⟨g, 0, none⟩) (es ++ [e]).length cap) (es ++ [e]) → w.grownBy w' v.ownBlock → wpList Try.prog ops Q rest (a.put o.dst (.slice (some ⟨g, 0, none⟩) (es ++ [e]).length cap)) w') :
    wpList Try.prog ops Q (o :: rest) a w := by
  obtain ⟨i0, hi, hz0, hz1, hz2⟩ := info_parts infoE
  have hlen : (es ++ [e]).length = es.length + 1 := by simp
  refine wpList_append_lies w hgd s x 23 ho base 57 i0 _ 7 64 Try.underlying23 hi hz0 hz1 hz2 rfl (by decide) v es.length (entsL es) hs hown ⟨B, 0, none⟩ 1 1 (entL e) hx rfl hB.news ?_ (by decide) (by unfold maxLen; omega) (by omega) hbase _ rfl ?_
  · intro u hu
    unfold entL at hu
    simp only [List.mem_cons, List.not_mem_nil, or_false] at hu
    rcases hu with rfl | rfl | rfl | rfl | rfl | rfl | rfl <;> rfl
  · intro g cap w' ho' hg _ _
    rw [← entsL_snoc] at ho'
    have := h g cap w' (by unfold OwnEs; rw [hlen]; exact ho') hg
    rw [hlen] at this
    exact this

/-! ### A message's block, cell by cell -/
theorem MLies.set0 {w : World} {B : Nat} {m : Ms} {v : Value} (h : MLies w B m v) (n : Int) : MLies (w.setCell ⟨B, 0, none⟩ (.int .i64 n)) B { m with k := n } v := Lib.heap_setCell_same (i := 0) h _
theorem MLies.set1 {w : World} {B : Nat} {m : Ms} {v : Value} (h : MLies w B m v) (n : Int) : MLies (w.setCell ⟨B, 1, none⟩ (.int .i64 n)) B { m with f := n } v := Lib.heap_setCell_same (i := 1) h _
theorem MLies.set2 {w : World} {B : Nat} {m : Ms} {v : Value} (h : MLies w B m v) (n : Int) : MLies (w.setCell ⟨B, 2, none⟩ (.int .i64 n)) B { m with t := n } v := Lib.heap_setCell_same (i := 2) h _
theorem MLies.set3 {w : World} {B : Nat} {m : Ms} {v : Value} (h : MLies w B m v) (n : Int) : MLies (w.setCell ⟨B, 3, none⟩ (.int .i64 n)) B { m with b := n } v := Lib.heap_setCell_same (i := 3) h _
theorem MLies.set4 {w : World} {B : Nat} {m : Ms} {v : Value} (h : MLies w B m v) (n : Int) : MLies (w.setCell ⟨B, 4, none⟩ (.int .i64 n)) B { m with sl := n } v := Lib.heap_setCell_same (i := 4) h _
theorem MLies.set5 {w : World} {B : Nat} {m : Ms} {v : Value} (h : MLies w B m v) (n : Int) : MLies (w.setCell ⟨B, 5, none⟩ (.int .i64 n)) B { m with ro := n } v := Lib.heap_setCell_same (i := 5) h _
theorem MLies.set6 {w : World} {B : Nat} {m : Ms} {v : Value} (h : MLies w B m v) (n : Int) : MLies (w.setCell ⟨B, 6, none⟩ (.int .i64 n)) B { m with se := n } v := Lib.heap_setCell_same (i := 6) h _
theorem MLies.set7 {w : World} {B : Nat} {m : Ms} {v : Value} (h : MLies w B m v) (n : Int) : MLies (w.setCell ⟨B, 7, none⟩ (.int .i64 n)) B { m with er := n } v := Lib.heap_setCell_same (i := 7) h _
theorem MLies.set8 {w : World} {B : Nat} {m : Ms} {v : Value} (h : MLies w B m v) (u : Value) : MLies (w.setCell ⟨B, 8, none⟩ u) B m u := Lib.heap_setCell_same (i := 8) h _
theorem MLies.set9 {w : World} {B : Nat} {m : Ms} {v : Value} (h : MLies w B m v) (n : Int) : MLies (w.setCell ⟨B, 9, none⟩ (.int .i64 n)) B { m with c := { m.c with kind := n } } v := Lib.heap_setCell_same (i := 9) h _
theorem MLies.set10 {w : World} {B : Nat} {m : Ms} {v : Value} (h : MLies w B m v) (n : Int) : MLies (w.setCell ⟨B, 10, none⟩ (.int .i64 n)) B { m with c := { m.c with session := n } } v := Lib.heap_setCell_same (i := 10) h _
theorem MLies.set11 {w : World} {B : Nat} {m : Ms} {v : Value} (h : MLies w B m v) (n : Int) : MLies (w.setCell ⟨B, 11, none⟩ (.int .i64 n)) B { m with c := { m.c with seq := n } } v := Lib.heap_setCell_same (i := 11) h _
theorem MLies.set12 {w : World} {B : Nat} {m : Ms} {v : Value} (h : MLies w B m v) (n : ByteArray) : MLies (w.setCell ⟨B, 12, none⟩ (.string n)) B { m with c := { m.c with name := n } } v := Lib.heap_setCell_same (i := 12) h _
theorem MLies.set13 {w : World} {B : Nat} {m : Ms} {v : Value} (h : MLies w B m v) (n : Int) : MLies (w.setCell ⟨B, 13, none⟩ (.int .i64 n)) B { m with c := { m.c with n := n } } v := Lib.heap_setCell_same (i := 13) h _
theorem MLies.set14 {w : World} {B : Nat} {m : Ms} {v : Value} (h : MLies w B m v) (n : Int) : MLies (w.setCell ⟨B, 14, none⟩ (.int .i64 n)) B { m with rs := n } v := Lib.heap_setCell_same (i := 14) h _
theorem MLies.set15 {w : World} {B : Nat} {m : Ms} {v : Value} (h : MLies w B m v) (n : Int) : MLies (w.setCell ⟨B, 15, none⟩ (.int .i64 n)) B { m with rq := n } v := Lib.heap_setCell_same (i := 15) h _
theorem MLies.set16 {w : World} {B : Nat} {m : Ms} {v : Value} (h : MLies w B m v) (n : Int) : MLies (w.setCell ⟨B, 16, none⟩ (.int .i64 n)) B { m with re := n } v := Lib.heap_setCell_same (i := 16) h _
theorem MLies.set17 {w : World} {B : Nat} {m : Ms} {v : Value} (h : MLies w B m v) (n : Nat) : MLies (w.setCell ⟨B, 17, none⟩ (.int .u64 n)) B { m with tk := n } v := Lib.heap_setCell_same (i := 17) h _
theorem MLies.set18 {w : World} {B : Nat} {m : Ms} {v : Value} (h : MLies w B m v) (n : Int) : MLies (w.setCell ⟨B, 18, none⟩ (.int .i64 n)) B { m with rn := n } v := Lib.heap_setCell_same (i := 18) h _
theorem MLies.set19 {w : World} {B : Nat} {m : Ms} {v : Value} (h : MLies w B m v) (n : ByteArray) : MLies (w.setCell ⟨B, 19, none⟩ (.string n)) B { m with x := n } v := Lib.heap_setCell_same (i := 19) h _
end Go.Proofs.Ytmmdcbgmhjheeaa
