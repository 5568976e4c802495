/-
  The document's rwlock in memory (package latchkeyref08): who holds it, whether for writing, who waits; whether one may have it; given to one. The condition: fewer than 65536 hold it.
-/
import Derived.Test.YtlcacjekpdmigaaGRow
import Derived.Test.YtlcacjekpdmigaaMxPut
namespace Go.Proofs.Ytlcacjekpdmigaa
open Go.RowKit

/-- A task that waits: who, for reading, blocked. -/
abbrev Wt : Type := Int × Bool × Bool
def waitC (x : Wt) : List Value := [.int .i64 x.1, .bool x.2.1, .bool x.2.2]
def intC (x : Int) : List Value := [.int .i64 x]
theorem waitC_len (x : Wt) : (waitC x).length = 3 := rfl
theorem intC_len (x : Int) : (intC x).length = 1 := rfl
theorem waitC_one (x : Wt) : ∀ u ∈ waitC x, u.oneCell' = true := fun u hu => by
  simp only [waitC, List.mem_cons, List.not_mem_nil, or_false] at hu
  rcases hu with rfl | rfl | rfl <;> rfl
theorem intC_one (x : Int) : ∀ u ∈ intC x, u.oneCell' = true := fun u hu => by
  simp only [intC, List.mem_cons, List.not_mem_nil, or_false] at hu
  subst hu
  rfl
theorem rowL_int (l : List Int) : rowL intC l = intL l := by
  unfold rowL intL intC
  induction l with
  | nil => rfl
  | cons x l ih => simp only [List.flatMap_cons, List.map_cons, List.singleton_append, ih]
def okI (x : Int) : Prop := -9223372036854775808 ≤ x ∧ x ≤ 9223372036854775807
theorem RowAt.ints {w : World} {v : Value} {l : List Int} (h : RowAt intC w v l) (hlo : ∀ x ∈ l, okI x) (hl : l.length ≤ 65536) : IntsAt w v l := by
  obtain ⟨a, cap, e, h1, h2, h3⟩ := h.ex
  refine ⟨⟨a, cap, e, h1, ?_⟩, hlo, by unfold maxLen; omega⟩
  rcases h3 with h3 | ⟨bk, off, ha, hb, hx⟩
  · exact Or.inl h3
  · refine Or.inr ⟨bk, off, ha, hb, fun j hj => hx j _ ?_⟩
    rw [rowL_int]
    unfold intL
    rw [List.getElem?_map, List.getElem?_eq_getElem hj]
    rfl
theorem OwnRow.ints {w : World} {S : Nat → Prop} {D : Nat} {v : Value} {l : List Int} (h : OwnRow intC w S D v l) (hlo : ∀ x ∈ l, okI x) (hl : l.length ≤ 65536) : OwnInts w S D v l := by
  refine ⟨h.at'.ints hlo hl, fun a bk off n cap h0 e1 e2 => h.own bk off n cap h0 (by rw [e1, e2]), hl, fun n cap e => ?_⟩
  obtain ⟨a, cap', e', _, h2, _⟩ := h.at'.ex
  rw [e] at e'
  simp only [Value.slice.injEq] at e'
  obtain ⟨e1, e2, e3⟩ := e'
  have := h2 e1.symm
  omega
theorem putL_mem {l : List Int} {n x : Int} (h : x ∈ putL l n) : x = n ∨ x ∈ l := by
  unfold putL at h
  rw [List.mem_append, List.mem_cons] at h
  rcases h with h | h | h
  · exact Or.inr ((List.takeWhile_sublist _).subset h)
  · exact Or.inl h
  · exact Or.inr ((List.dropWhile_sublist _).subset h)
theorem putL_length (l : List Int) (n : Int) : (putL l n).length = l.length + 1 := by
  unfold putL
  have := congrArg List.length (List.takeWhile_append_dropWhile (p := fun x => decide (x < n)) (l := l))
  rw [List.length_append] at this
  rw [List.length_append, List.length_cons]
  omega
abbrev RWT : TypeId := 51
/-- An rwlock in block D; 'S': the blocks that are its own. -/
structure RwAt (w : World) (base D : Nat) (S : Nat → Prop) (L : List Int) (wt : Bool) (q : List Wt) : Prop where
  ex : ∃ vl vq, w.heap[D]? = some (.cells #[vl, .bool wt, vq] RWT (0, 0)) ∧ OwnRow intC w S D vl L ∧ OwnRow waitC w S D vq q
  sD : S D
  bd : ∀ b, S b → base ≤ b ∧ b < w.heap.size
  lo : ∀ x ∈ L, okI x
  qlo : ∀ x ∈ q, okI x.1
section
variable {w w' : World} {base D : Nat} {S S' : Nat → Prop} {L L' : List Int} {wt wt' : Bool} {q q' : List Wt}
theorem RwAt.keep (h : RwAt w base D S L wt q) (hs : w.heap.size ≤ w'.heap.size) (hk : ∀ b, S b → w'.heap[b]? = w.heap[b]?) : RwAt w' base D S L wt q := by
  obtain ⟨vl, vq, h1, h2, h3⟩ := h.ex
  exact ⟨⟨vl, vq, (hk D h.sD).trans h1, h2.keep hs (fun b hb _ => hk b hb), h3.keep hs (fun b hb _ => hk b hb)⟩, h.sD, fun b hb => ⟨(h.bd b hb).1, Nat.lt_of_lt_of_le (h.bd b hb).2 hs⟩, h.lo, h.qlo⟩
theorem RwAt.fresh (h : RwAt w base D S L wt q) (k : Below w.heap.size w w') : RwAt w' base D S L wt q := h.keep k.size (fun b hb => k.block b (h.bd b hb).2)
theorem RwAt.drew (h : RwAt w base D S L wt q) : RwAt w.drew base D S L wt q := h.keep (Nat.le_refl _) (fun _ _ => rfl)
theorem RwAt.base_le (h : RwAt w base D S L wt q) : base ≤ w.heap.size := by have := h.bd D h.sD; omega
theorem RwAt.below (h : RwAt w base D S L wt q) (k : Kept w w' S S') : Below base w w' := k.low h.base_le (fun b hb => (h.bd b hb).1)
/-- What a walk needs. -/
theorem RwAt.cells (h : RwAt w base D S L wt q) : ∃ a cap b cap2, w.heap[D]? = some (.cells #[.slice a L.length cap, .bool wt, .slice b q.length cap2] RWT (0, 0)) ∧ w.cell? ⟨D, 0, none⟩ = some (.slice a L.length cap) ∧ w.cell? ⟨D, 1, none⟩ = some (.bool wt) ∧ w.cell? ⟨D, 2, none⟩ = some (.slice b q.length cap2) ∧ w.frozen? ⟨D, 0, none⟩ = false ∧ w.frozen? ⟨D, 1, none⟩ = false ∧ w.frozen? ⟨D, 2, none⟩ = false ∧ OwnRow intC w S D (.slice a L.length cap) L ∧ OwnRow waitC w S D (.slice b q.length cap2) q ∧ D < w.heap.size := by
  obtain ⟨vl, vq, h1, h2, h3⟩ := h.ex
  obtain ⟨a, cap, rfl⟩ := h2.at'.form
  obtain ⟨b, cap2, rfl⟩ := h3.at'.form
  exact ⟨a, cap, b, cap2, h1, by simp [World.cell?, h1], by simp [World.cell?, h1], by simp [World.cell?, h1], by simp [World.frozen?, h1], by simp [World.frozen?, h1], by simp [World.frozen?, h1], h2, h3, lt_of_block h1⟩
/-- One cell is another one. -/
theorem RwAt.kept1 (h : RwAt w base D S L wt q) (b : Below w.heap.size w w') (c : Nat) (v : Value) : Kept w (w'.setCell ⟨D, c, none⟩ v) S (fun x => S x ∨ w.heap.size ≤ x ∧ x < w'.heap.size) :=
  ⟨b.os, b.tape, b.output, by simpa using b.size, fun x hx => hx.imp id (fun h => h.1), fun x hx hn => by
    rw [heap_setCell_other _ _ _ _ (by
      show x ≠ D
      exact fun e => hn (by rw [e]; exact h.sD)), b.block x hx]⟩
theorem RwAt.setL (h : RwAt w base D S L wt q) (b : Below w.heap.size w w') {v : Value} (hv : OwnRow intC w' (fun x => S x ∨ w.heap.size ≤ x ∧ x < w'.heap.size) D v L') (hlo : ∀ x ∈ L', okI x) :
    RwAt (w'.setCell ⟨D, 0, none⟩ v) base D (fun x => S x ∨ w.heap.size ≤ x ∧ x < w'.heap.size) L' wt q := by
  obtain ⟨vl, vq, h1, h2, h3⟩ := (h.fresh b).ex
  have ho : ∀ x, x ≠ D → (w'.setCell ⟨D, 0, none⟩ v).heap[x]? = w'.heap[x]? := fun x hx => heap_setCell_other _ _ _ _ (by simpa using hx)
  have h5 : (w'.setCell ⟨D, 0, none⟩ v).heap[D]? = some (.cells #[v, .bool wt, vq] RWT (0, 0)) := by
    rw [heap_setCell_same w' D 0 _ _ _ h1]
    rfl
  have hbs := h.base_le
  exact ⟨⟨v, vq, h5, hv.keep (by simp) (fun x _ hx => ho x hx), (h3.keep (by simp) (fun x _ hx => ho x hx)).grow (fun x hx => Or.inl hx)⟩, Or.inl h.sD, fun x hx => ⟨hx.elim (fun hx => (h.bd x hx).1) (fun hx => by omega), by simpa using hx.elim (fun hx => Nat.lt_of_lt_of_le (h.bd x hx).2 b.size) (fun hx => hx.2)⟩, hlo, h.qlo⟩
theorem RwAt.setQ (h : RwAt w base D S L wt q) (b : Below w.heap.size w w') {v : Value} (hv : OwnRow waitC w' (fun x => S x ∨ w.heap.size ≤ x ∧ x < w'.heap.size) D v q') (hlo : ∀ x ∈ q', okI x.1) :
    RwAt (w'.setCell ⟨D, 2, none⟩ v) base D (fun x => S x ∨ w.heap.size ≤ x ∧ x < w'.heap.size) L wt q' := by
  obtain ⟨vl, vq, h1, h2, h3⟩ := (h.fresh b).ex
  have ho : ∀ x, x ≠ D → (w'.setCell ⟨D, 2, none⟩ v).heap[x]? = w'.heap[x]? := fun x hx => heap_setCell_other _ _ _ _ (by simpa using hx)
  have h5 : (w'.setCell ⟨D, 2, none⟩ v).heap[D]? = some (.cells #[vl, .bool wt, v] RWT (0, 0)) := by
    rw [heap_setCell_same w' D 2 _ _ _ h1]
    rfl
  have hbs := h.base_le
  exact ⟨⟨vl, v, h5, (h2.keep (by simp) (fun x _ hx => ho x hx)).grow (fun x hx => Or.inl hx), hv.keep (by simp) (fun x _ hx => ho x hx)⟩, Or.inl h.sD, fun x hx => ⟨hx.elim (fun hx => (h.bd x hx).1) (fun hx => by omega), by simpa using hx.elim (fun hx => Nat.lt_of_lt_of_le (h.bd x hx).2 b.size) (fun hx => hx.2)⟩, h.lo, hlo⟩
theorem RwAt.setW (h : RwAt w base D S L wt q) (x : Bool) : RwAt (w.setCell ⟨D, 1, none⟩ (.bool x)) base D S L x q ∧ Kept w (w.setCell ⟨D, 1, none⟩ (.bool x)) S S := by
  obtain ⟨vl, vq, h1, h2, h3⟩ := h.ex
  have ho : ∀ y, y ≠ D → (w.setCell ⟨D, 1, none⟩ (.bool x)).heap[y]? = w.heap[y]? := fun y hy => heap_setCell_other _ _ _ _ (by simpa using hy)
  have h5 : (w.setCell ⟨D, 1, none⟩ (.bool x)).heap[D]? = some (.cells #[vl, .bool x, vq] RWT (0, 0)) := by
    rw [heap_setCell_same w D 1 _ _ _ h1]
    rfl
  exact ⟨⟨⟨vl, vq, h5, h2.keep (by simp) (fun b _ hb => ho b hb), h3.keep (by simp) (fun b _ hb => ho b hb)⟩, h.sD, fun b hb => ⟨(h.bd b hb).1, by simpa using (h.bd b hb).2⟩, h.lo, h.qlo⟩, ⟨rfl, rfl, rfl, by simp, fun _ hs => Or.inl hs, fun b _ hs => ho b (fun e => hs (by rw [e]; exact h.sD))⟩⟩
/-- May one have it now? -/
def fitsB (L : List Int) (wt : Bool) (rd : Bool) : Bool := decide (L.length = 0) || (rd && !wt)
theorem rfits_any (h : RwAt w base D S L wt q) (rd : Bool) : Calls Try.prog 37 #[.pointer (some ⟨D, 0, none⟩), .bool rd] w fun e w' => e = .returned (.bool (fitsB L wt rd)) ∧ w = w' := by
  obtain ⟨a, cap, b, cap2, _, c0, c1, c2, _⟩ := h.cells
  clear h
  unfold fitsB
  by_cases h0 : L.length = 0
  · rw [decide_eq_true h0, Bool.true_or]
    have q0 : ((L.length : Int) == 0) = true := by rw [beq_iff_eq]; omega
    have H0 : Hid _ := h0
    clear h0
    go_enter Try.func37, Try.ntmps37
    go_wp2
    go_ret
    exact ⟨rfl, rfl⟩
  · rw [decide_eq_false h0, Bool.false_or]
    have q0 : ((L.length : Int) == 0) = false := by rw [beq_eq_false_iff_ne]; omega
    clear h0
    cases rd with
    | false =>
      go_enter Try.func37, Try.ntmps37
      go_wp2
      go_ret
      exact ⟨rfl, rfl⟩
    | true =>
      go_enter Try.func37, Try.ntmps37
      go_wp2
      go_ret
      exact ⟨rfl, rfl⟩
/-- One has it. -/
theorem rgive_any (h : RwAt w base D S L wt q) (t : Int) (ht : okI t) (rd : Bool) (hL : L.length < 65536) : Calls Try.prog 38 #[.pointer (some ⟨D, 0, none⟩), .int .i64 t, .bool rd] w fun e w' => e = .returned (.tuple #[]) ∧ ∃ S', RwAt w' base D S' (putL L t) (!rd) q ∧ Kept w w' S S' ∧ (∀ b, S b → S' b) ∧ (∀ b, b < w.heap.size → b ≠ D → w'.heap[b]? = w.heap[b]?) ∧ w'.cell? ⟨D, 2, none⟩ = w.cell? ⟨D, 2, none⟩ := by
  obtain ⟨a, cap, b, cap2, hb, c0, c1, c2, f0, f1, f2, hl, hq, hD⟩ := h.cells
  have hp := put_any w S D _ L t (hl.ints h.lo (by omega)) hL
  have fin : ∀ (w1 : World) (u : Value), w1.ownsRow w.heap.size 3 1 u (putL L t).length (intL (putL L t)) → Below w.heap.size w w1 → ∃ S', RwAt ((w1.setCell ⟨D, 0, none⟩ u).setCell ⟨D, 1, none⟩ (.bool (!rd))) base D S' (putL L t) (!rd) q ∧ Kept w ((w1.setCell ⟨D, 0, none⟩ u).setCell ⟨D, 1, none⟩ (.bool (!rd))) S S' ∧ (∀ b, S b → S' b) ∧ (∀ b, b < w.heap.size → b ≠ D → ((w1.setCell ⟨D, 0, none⟩ u).setCell ⟨D, 1, none⟩ (.bool (!rd))).heap[b]? = w.heap[b]?) ∧ ((w1.setCell ⟨D, 0, none⟩ u).setCell ⟨D, 1, none⟩ (.bool (!rd))).cell? ⟨D, 2, none⟩ = w.cell? ⟨D, 2, none⟩ := fun w1 u ho b1 => by
    have h1 := h.setL b1 (OwnRow.new (k := 1) (T := 3) intC_len (by rw [rowL_int]; exact ho) hD (fun x h1 h2 => Or.inr ⟨h1, h2⟩)) (fun x hx => by
      rcases putL_mem hx with e | hx
      · rw [e]; exact ht
      · exact h.lo x hx)
    have h2 := h1.setW (!rd)
    refine ⟨_, h2.1, (h.kept1 b1 0 u).trans h2.2, fun b hb => Or.inl hb, fun x hx hne => ?_, ?_⟩
    · rw [heap_setCell_other _ _ _ _ (by simpa using hne), heap_setCell_other _ _ _ _ (by simpa using hne), b1.block x hx]
    · have g1 := (b1.block D hD).trans hb
      have g2 : (w1.setCell ⟨D, 0, none⟩ u).heap[D]? = some (.cells #[u, .bool wt, .slice b q.length cap2] RWT (0, 0)) := by
        rw [heap_setCell_same w1 D 0 _ _ _ g1]
        rfl
      have g3 : ((w1.setCell ⟨D, 0, none⟩ u).setCell ⟨D, 1, none⟩ (.bool (!rd))).heap[D]? = some (.cells #[u, .bool (!rd), .slice b q.length cap2] RWT (0, 0)) := by
        rw [heap_setCell_same _ D 1 _ _ _ g2]
        rfl
      rw [c2]
      simp [World.cell?, g3]
  have FIN : Hid _ := fin
  clear fin hb hl hq h
  go_enter Try.func38, Try.ntmps38
  go_wp2_with (go_at_call 42; refine hp.mono ?_; rintro e w1 ⟨u, rfl, ho, b1⟩; obtain ⟨p1, n1, q1, rfl⟩ := own_form ho; have z0 := (b1.cell (p := ⟨D, 0, none⟩) (by exact hD)).trans c0; have y0 := (b1.frozen (p := ⟨D, 0, none⟩) (by exact hD)).trans f0; have z1 := (b1.cell (p := ⟨D, 1, none⟩) (by exact hD)).trans c1; have y1 := (b1.frozen (p := ⟨D, 1, none⟩) (by exact hD)).trans f1)
  go_returns
  exact ⟨rfl, FIN.out _ _ ho b1⟩
end
end Go.Proofs.Ytlcacjekpdmigaa
