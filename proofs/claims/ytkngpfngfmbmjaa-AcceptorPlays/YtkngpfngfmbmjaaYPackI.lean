/-
  Parts of the proof, laid together: DuPlain, GStore, DuMem. The conditions stand at each part.
-/
import Derived.Laws.Tables
import Derived.BigFrame
import Derived.Test.YtkngpfngfmbmjaaYPackA
import Derived.Test.YtkngpfngfmbmjaaYPackD
/-
  What must not be forgotten, as plain data: records put to a state, a state's records, and that both go together. No condition but what each part says.
-/
namespace Go.Proofs.Ytkngpfngfmbmjaa

/-- A state: what is promised, the snapshot's slot and text, the entries. -/
structure Du where
  p : Int
  b : Int
  s : ByteArray
  es : List En
/-- An entry among some that rise. -/
def putE : List En → En → List En
  | [], e => [e]
  | x :: l, e => if x.slot < e.slot then x :: putE l e else if x.slot = e.slot then e :: l else e :: x :: l
def stepD (d : Du) (r : Rc) : Du :=
  if r.kind = 1 then { d with p := max d.p r.n }
  else if r.kind = 2 then { d with p := max d.p r.en.ballot, es := if d.b < r.en.slot then putE d.es r.en else d.es }
  else d
def foldD (d : Du) (l : List Rc) : Du := l.foldl stepD d
def recsD (d : Du) : List Rc := (if 0 < d.p then [⟨1, d.p, En.zero⟩] else []) ++ d.es.map fun e => ⟨2, 0, e⟩
def Rises (b : Int) (es : List En) : Prop := (∀ e ∈ es, b < e.slot) ∧ es.Pairwise (fun x y => x.slot < y.slot)
theorem foldD_snoc (d : Du) (l : List Rc) (r : Rc) : foldD d (l ++ [r]) = stepD (foldD d l) r := by
  unfold foldD
  rw [List.foldl_append]
  rfl
theorem foldD_append (d : Du) (l m : List Rc) : foldD d (l ++ m) = foldD (foldD d l) m := by
  unfold foldD
  rw [List.foldl_append]
theorem putE_length : ∀ (l : List En) (e : En), (putE l e).length ≤ l.length + 1
  | [], _ => Nat.le_refl _
  | x :: l, e => by
    have ih := putE_length l e
    unfold putE
    split
    · simp only [List.length_cons]
      omega
    · split
      · simp only [List.length_cons]
        omega
      · simp only [List.length_cons]
        omega
theorem stepD_length (d : Du) (r : Rc) : (stepD d r).es.length ≤ d.es.length + 1 := by
  unfold stepD
  split
  · exact Nat.le_succ _
  · split
    · show (if d.b < r.en.slot then putE d.es r.en else d.es).length ≤ _
      split
      · exact putE_length _ _
      · exact Nat.le_succ _
    · exact Nat.le_succ _
theorem foldD_length : ∀ (l : List Rc) (d : Du), (foldD d l).es.length ≤ d.es.length + l.length
  | [], _ => Nat.le_refl _
  | r :: l, d => by
    have h1 := foldD_length l (stepD d r)
    have h2 := stepD_length d r
    show (foldD (stepD d r) l).es.length ≤ d.es.length + (l.length + 1)
    omega
theorem stepD_base (d : Du) (r : Rc) : (stepD d r).b = d.b ∧ (stepD d r).s = d.s := by
  unfold stepD
  split
  · exact ⟨rfl, rfl⟩
  · split <;> exact ⟨rfl, rfl⟩
theorem foldD_base : ∀ (l : List Rc) (d : Du), (foldD d l).b = d.b ∧ (foldD d l).s = d.s
  | [], _ => ⟨rfl, rfl⟩
  | r :: l, d => by
    have h1 := foldD_base l (stepD d r)
    have h2 := stepD_base d r
    exact ⟨h1.1.trans h2.1, h1.2.trans h2.2⟩
/-- Behind all others. -/
theorem putE_last : ∀ (l : List En) (e : En), (∀ x ∈ l, x.slot < e.slot) → putE l e = l ++ [e]
  | [], _, _ => rfl
  | x :: l, e, h => by
    unfold putE
    rw [if_pos (h x (by simp)), putE_last l e (fun y hy => h y (by simp [hy]))]
    rfl
def topB (p : Int) (es : List En) : Int := es.foldl (fun q e => max q e.ballot) p
theorem fold_entries (b : Int) (s : ByteArray) : ∀ (es acc : List En) (p : Int), Rises b (acc ++ es) → foldD ⟨p, b, s, acc⟩ (es.map fun e => ⟨2, 0, e⟩) = ⟨topB p es, b, s, acc ++ es⟩
  | [], acc, p, _ => by
    rw [List.append_nil]
    rfl
  | e :: es, acc, p, h => by
    have h1 : b < e.slot := h.1 e (by simp)
    have h2 : ∀ x ∈ acc, x.slot < e.slot := fun x hx => (List.pairwise_append.1 h.2).2.2 x hx e (by simp)
    have h3 : acc ++ e :: es = (acc ++ [e]) ++ es := by simp
    rw [h3] at h ⊢
    have ih := fold_entries b s es (acc ++ [e]) (max p e.ballot) h
    rw [List.map_cons]
    show foldD (stepD ⟨p, b, s, acc⟩ ⟨2, 0, e⟩) _ = ⟨topB (max p e.ballot) es, b, s, acc ++ [e] ++ es⟩
    rw [← ih]
    unfold stepD
    rw [if_neg (show ¬ (2 : Int) = 1 by decide), if_pos rfl]
    show foldD ⟨max p e.ballot, b, s, if b < e.slot then putE acc e else acc⟩ _ = _
    rw [if_pos h1, putE_last acc e h2]
/-- The records of a state, put to nothing but its snapshot. -/
theorem fold_again (d : Du) (hp : 0 ≤ d.p) (hr : Rises d.b d.es) : foldD ⟨0, d.b, d.s, []⟩ (recsD d) = ⟨topB d.p d.es, d.b, d.s, d.es⟩ := by
  unfold recsD
  rw [foldD_append]
  have e : foldD ⟨0, d.b, d.s, []⟩ (if 0 < d.p then [⟨1, d.p, En.zero⟩] else []) = ⟨d.p, d.b, d.s, []⟩ := by
    by_cases h : 0 < d.p
    · rw [if_pos h]
      show stepD ⟨0, d.b, d.s, []⟩ ⟨1, d.p, En.zero⟩ = _
      unfold stepD
      rw [if_pos rfl]
      show (⟨max 0 d.p, d.b, d.s, []⟩ : Du) = _
      rw [Int.max_eq_right (by omega)]
    · rw [if_neg h]
      have : d.p = 0 := by omega
      rw [this]
      rfl
  rw [e]
  have := fold_entries d.b d.s d.es [] d.p hr
  rw [List.nil_append] at this
  exact this
/-- Where an entry comes among those that rise: k are below it. -/
theorem putE_at : ∀ (es : List En) (e : En) (k : Nat), k ≤ es.length → (∀ x ∈ es.take k, x.slot < e.slot) → (∀ x, es[k]? = some x → ¬ x.slot < e.slot) → ∀ m, (m = k ∧ ∀ x, es[k]? = some x → ¬ x.slot = e.slot) ∨ (m = k + 1 ∧ ∃ x, es[k]? = some x ∧ x.slot = e.slot) → putE es e = es.take k ++ [e] ++ es.drop m
  | [], e, k, hk, _, _, m, hm => by
    have h0 : k = 0 := by simpa using hk
    subst h0
    rcases hm with ⟨rfl, _⟩ | ⟨_, x, hx, _⟩
    · rfl
    · simp at hx
  | y :: es, e, 0, _, _, hn, m, hm => by
    have h1 := hn y rfl
    unfold putE
    rw [if_neg h1]
    rcases hm with ⟨rfl, h2⟩ | ⟨rfl, x, hx, h2⟩
    · rw [if_neg (h2 y rfl)]
      rfl
    · have e1 : y = x := Option.some.inj hx
      rw [if_pos (by rw [e1]; exact h2)]
      rfl
  | y :: es, e, k + 1, hk, hl, hn, m, hm => by
    have h1 : y.slot < e.slot := hl y (by simp)
    unfold putE
    rw [if_pos h1]
    obtain ⟨m', rfl⟩ : ∃ m', m = m' + 1 := ⟨m - 1, by omega⟩
    rw [putE_at es e k (by simpa using hk) (fun x hx => hl x (by rw [List.take_succ_cons]; exact List.mem_cons_of_mem _ hx)) (fun x hx => hn x (by simpa using hx)) m' (by
      rcases hm with ⟨h2, h3⟩ | ⟨h2, x, hx, h3⟩
      · exact Or.inl ⟨by omega, fun x hx => h3 x (by simpa using hx)⟩
      · exact Or.inr ⟨by omega, x, by simpa using hx, h3⟩)]
    rfl
theorem putE_mem : ∀ (l : List En) (e x : En), x ∈ putE l e → x = e ∨ x ∈ l
  | [], e, x, h => by
    unfold putE at h
    exact Or.inl (List.mem_singleton.1 h)
  | y :: l, e, x, h => by
    unfold putE at h
    split at h
    · rcases List.mem_cons.1 h with h | h
      · exact Or.inr (by simp [h])
      · rcases putE_mem l e x h with h | h
        · exact Or.inl h
        · exact Or.inr (by simp [h])
    · split at h
      · rcases List.mem_cons.1 h with h | h
        · exact Or.inl h
        · exact Or.inr (by simp [h])
      · rcases List.mem_cons.1 h with h | h
        · exact Or.inl h
        · exact Or.inr h
theorem putE_pair : ∀ (l : List En) (e : En), l.Pairwise (fun x y => x.slot < y.slot) → (putE l e).Pairwise (fun x y => x.slot < y.slot)
  | [], e, _ => List.pairwise_singleton _ _
  | y :: l, e, h => by
    rw [List.pairwise_cons] at h
    unfold putE
    split
    · rename_i h1
      rw [List.pairwise_cons]
      refine ⟨fun x hx => ?_, putE_pair l e h.2⟩
      rcases putE_mem l e x hx with rfl | hx
      · exact h1
      · exact h.1 x hx
    · rename_i h1
      split
      · rename_i h2
        rw [List.pairwise_cons]
        exact ⟨fun x hx => by have := h.1 x hx; omega, h.2⟩
      · rename_i h2
        rw [List.pairwise_cons, List.pairwise_cons]
        refine ⟨fun x hx => ?_, h.1, h.2⟩
        rcases List.mem_cons.1 hx with rfl | hx
        · omega
        · have := h.1 x hx
          omega
theorem stepD_rises {d : Du} (r : Rc) (h : Rises d.b d.es) : Rises (stepD d r).b (stepD d r).es := by
  unfold stepD
  split
  · exact h
  · split
    · show Rises d.b (if d.b < r.en.slot then putE d.es r.en else d.es)
      split
      · rename_i hs
        refine ⟨fun x hx => ?_, putE_pair _ _ h.2⟩
        rcases putE_mem _ _ _ hx with rfl | hx
        · exact hs
        · exact h.1 x hx
      · exact h
    · exact h
theorem foldD_rises : ∀ (l : List Rc) {d : Du}, Rises d.b d.es → Rises (foldD d l).b (foldD d l).es
  | [], _, h => h
  | r :: l, _, h => foldD_rises l (stepD_rises r h)
end Go.Proofs.Ytkngpfngfmbmjaa
/-
  A struct's block, read and written whole: for any program. No condition.
-/
namespace Go.Proofs.Ytkngpfngfmbmjaa
open Go.RowKit

section
variable {P : Program} {ops : Array Oper} {rest : List Oper} {o : Oper} {a : Act} {w : World} {Q : Exit → Act → World → Prop}
/-- A load of a whole block, guarded or not. -/
theorem load_row_g (hw : Region.wanted o (yielded ops a.tmps) = true) (ty : TypeId) (x : Operand) (ho : o.op = .load ty x)
    (g : Nat) (hx : a.eval x = .pointer (some ⟨g, 0, none⟩)) (t : TypeId) (cs : Array Value) (fr : Nat × Nat) (d : TypeDesc) (hg : w.heap[g]? = some (.cells cs t fr))
    (hu : P.underlying ty = some d) (hd : (match d with | .struct _ | .array _ _ => true | _ => false) = true) (hi : (P.info? ty).map (·.size) = some cs.size)
    (h : wpList P ops Q rest (a.put o.dst (.agg cs)) w) : wpList P ops Q (o :: rest) a w :=
  BigFrame.wpList_want hw fun _ hK => wp_load_row ty x ho g hx t cs fr d hg hu hd hi (hK _ _ h)
theorem grown_setRow_g (w : World) (g : Nat) (cs : Array Value) : w.grownBy (w.setRow g cs) (some g) :=
  ⟨rfl, rfl, rfl, by simp, fun k _ hk => by
    have : ¬ g = k := fun e => hk (by rw [e])
    simp [World.setRow, Array.getElem?_modify, this]⟩
/-- A store of a whole block: the world behind it is told by what it holds. -/
theorem store_row_g (hw : Region.wanted o (yielded ops a.tmps) = true) (ty : TypeId) (x y : Operand) (ho : o.op = .store ty x y)
    (g : Nat) (cells : Array Value) (hx : a.eval x = .pointer (some ⟨g, 0, none⟩)) (hy : a.eval y = .agg cells)
    (t : TypeId) (old : Array Value) (hg : w.heap[g]? = some (.cells old t (0, 0))) (hi : (P.info? ty).map (·.size) = some cells.size)
    (hold : old.size = cells.size) (h1 : cells.all (·.oneCell') = true)
    (h : ∀ w', w'.heap[g]? = some (.cells cells t (0, 0)) → w.grownBy w' (some g) → wpList P ops Q rest (a.put o.dst undef) w') : wpList P ops Q (o :: rest) a w :=
  BigFrame.wpList_want hw fun _ hK => wp_store_row ty x y ho g cells hx hy t old hg hi hold h1 (hK _ _ (h _ (setRow_heap w g old cells t _ hg) (grown_setRow_g w g cells)))
end
end Go.Proofs.Ytkngpfngfmbmjaa
/-
  A state in memory: a struct of four cells, the last of them a row of entries. No condition.
-/
namespace Go.Proofs.Ytkngpfngfmbmjaa
open Go.RowKit

theorem two_blocks (w : World) (o1 o2 : Obj) : ((w.alloc o1).alloc o2).heap[w.heap.size]? = (w.alloc o1).heap[w.heap.size]? ∧ ((w.alloc o1).alloc o2).heap[w.heap.size + 1]? = ((w.alloc o1).alloc o2).heap[(w.alloc o1).heap.size]? :=
  ⟨Below.heap_alloc _ _ w.heap.size (by simp), by simp⟩
/-- An entry's seven cells. -/
def enC (e : En) : List Value := [.int .i64 e.slot, .int .i64 e.ballot, .int .i64 e.cmd.kind, .int .i64 e.cmd.session, .int .i64 e.cmd.seq, .string e.cmd.name, .int .i64 e.cmd.n]
theorem enC_len (e : En) : (enC e).length = 7 := rfl
theorem enC_one : ∀ x : En, ∀ u ∈ enC x, u.oneCell' = true := by
  intro x u hu
  simp only [enC, List.mem_cons, List.not_mem_nil, or_false] at hu
  rcases hu with rfl | rfl | rfl | rfl | rfl | rfl | rfl <;> rfl
abbrev enA (e : En) : Array Value := #[.int .i64 e.slot, .int .i64 e.ballot, .int .i64 e.cmd.kind, .int .i64 e.cmd.session, .int .i64 e.cmd.seq, .string e.cmd.name, .int .i64 e.cmd.n]
theorem infoEn : (Try.prog.info? 36).map (fun i => (i.zero, i.size, i.bytes)) = some (some (.agg #[.int .i64 0, .int .i64 0, .int .i64 0, .int .i64 0, .int .i64 0, .string ⟨#[]⟩, .int .i64 0]), 7, 64) := by kernel_rfl
theorem sizeDu : (Try.prog.info? 24).map (·.size) = some 4 := by kernel_rfl
/-- A row of entries of the call's own. -/
abbrev OwnEn (w : World) (base : Nat) (v : Value) (es : List En) : Prop := w.ownsRow base 36 7 v es.length (rowL enC es)
theorem OwnEn.row {w : World} {base : Nat} {v : Value} {es : List En} (h : OwnEn w base v es) : RowAt enC w v es := RowAt.own enC_len h
/-- A state's cells. -/
abbrev duA (d : Du) (v : Value) : Array Value := #[.int .i64 d.p, .int .i64 d.b, .string d.s, v]
/-- A state in a block. -/
abbrev DuAt (w : World) (B : Nat) (d : Du) (v : Value) : Prop := w.heap[B]? = some (.cells (duA d v) 24 (0, 0))
section
variable {w : World} {B : Nat} {d : Du} {v : Value}
theorem DuAt.c0 (h : DuAt w B d v) : w.cell? ⟨B, 0, none⟩ = some (.int .i64 d.p) := by simp [World.cell?, h]
theorem DuAt.c1 (h : DuAt w B d v) : w.cell? ⟨B, 1, none⟩ = some (.int .i64 d.b) := by simp [World.cell?, h]
theorem DuAt.c2 (h : DuAt w B d v) : w.cell? ⟨B, 2, none⟩ = some (.string d.s) := by simp [World.cell?, h]
theorem DuAt.c3 (h : DuAt w B d v) : w.cell? ⟨B, 3, none⟩ = some v := by simp [World.cell?, h]
theorem DuAt.f0 (h : DuAt w B d v) : w.frozen? ⟨B, 0, none⟩ = false := by simp [World.frozen?, h]
theorem DuAt.f3 (h : DuAt w B d v) : w.frozen? ⟨B, 3, none⟩ = false := by simp [World.frozen?, h]
theorem DuAt.set0 (h : DuAt w B d v) (p : Int) : DuAt (w.setCell ⟨B, 0, none⟩ (.int .i64 p)) B { d with p := p } v := by
  show (w.setCell ⟨B, 0, none⟩ (.int .i64 p)).heap[B]? = _
  rw [heap_setCell_same w B 0 _ _ _ h]
  rfl
theorem DuAt.set3 (h : DuAt w B d v) (es : List En) (u : Value) : DuAt (w.setCell ⟨B, 3, none⟩ u) B { d with es := es } u := by
  show (w.setCell ⟨B, 3, none⟩ u).heap[B]? = _
  rw [heap_setCell_same w B 3 _ _ _ h]
  rfl
end
end Go.Proofs.Ytkngpfngfmbmjaa
