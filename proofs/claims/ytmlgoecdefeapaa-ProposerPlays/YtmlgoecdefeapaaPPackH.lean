/-
  Parts of the proof, laid together: PrRefF, PrRefG, PrRefH. The conditions stand at each part.
-/
import Derived.Laws.OwnMore
import Derived.Test.YtmlgoecdefeapaaPPackF
/-
  The document's proposer, whole: what is open, a slot that is open no more, a command proposed. The conditions: at most 2^29 open slots; the next slot lies below 2^62.
-/
namespace Go.Proofs.Ytmlgoecdefeapaa
open Go.RowKit

/-- A proposer behind a call, wherever its rows lie. -/
def PrHas (w : World) (base : Nat) (S : Nat → Prop) (X : Nat) (p : Pp) : Prop := ∃ a1 a2 a3 a4 l, PrAt w base S X p a1 a2 a3 a4 l
/-- What a call leaves. -/
structure PrPost (w : World) (base : Nat) (S : Nat → Prop) (X : Nat) (p : Pp) (x : Value) (r : Ending) (w' : World) : Prop where
  ex : ∃ S', r = .returned x ∧ PrHas w' base S' X p ∧ Kept w w' S S'
section
variable {w w' : World} {base X : Nat} {S : Nat → Prop} {p : Pp} {a1 a2 a3 a4 : Value} {l : List Sv}
theorem PrAt.n1 (h : PrAt w base S X p a1 a2 a3 a4 l) : a1.ownBlock ≠ some X := own_ne h.o1 h.blk (by decide)
theorem PrAt.n2 (h : PrAt w base S X p a1 a2 a3 a4 l) : a2.ownBlock ≠ some X := own_ne h.o2 h.blk (by decide)
theorem PrAt.n3 (h : PrAt w base S X p a1 a2 a3 a4 l) : a3.ownBlock ≠ some X := own_ne h.o3 h.blk (by decide)
theorem PrAt.n4 (h : PrAt w base S X p a1 a2 a3 a4 l) : a4.ownBlock ≠ some X := own_ne h.o4 h.blk (by decide)
theorem PrAt.nw (h : PrAt w base S X p a1 a2 a3 a4 l) : ∀ x ∈ l, (svW x).ownBlock ≠ some X := fun x hx => own_ne (h.ow x hx) h.blk (by decide)
/-- Two rows of different types lie apart. -/
theorem own_apart {T1 T2 : TypeId} {k1 k2 n1 n2 : Nat} {u v : Value} {xs ys : List Value} {b1 b2 : Nat} (h : w.ownsRow b1 T1 k1 u n1 xs) (k : w.ownsRow b2 T2 k2 v n2 ys) (hT : T1 ≠ T2) : Apart u v := fun g e => by
  rcases h.2 with ⟨e1, _⟩ | ⟨g', cap, cur, e1, _, hc, _⟩
  · rw [e1] at e
    simp [Value.ownBlock] at e
  · rw [e1] at e
    simp only [Value.ownBlock, Option.some.injEq] at e
    rw [e] at hc
    exact own_ne k hc (fun e2 => hT e2.symm)
/-- The row of the open slots laid anew, the numbers perhaps turned, all else as it was. -/
theorem PrAt.turn4 {p' : Pp} {v' : Value} {l' : List Sv} (h : PrAt w base S X p a1 a2 a3 a4 l) (hw : p'.who = p.who) (hbe : p'.best = p.best) (hv : p'.vals = p.vals)
    (hb : w'.heap[X]? = some (.cells (prA p' a1 a2 a3 v') 44 (0, 0))) (ho : OwnSv w' base v' l') (hf : w'.os = w.os ∧ w'.tape = w.tape ∧ w'.output = w.output ∧ w.heap.size ≤ w'.heap.size)
    (hl : ∀ g, v'.ownBlock = some g → a4.ownBlock = some g ∨ w.heap.size ≤ g) (hr : ∀ b, b < w.heap.size → b ≠ X → a4.ownBlock ≠ some b → w'.heap[b]? = w.heap[b]?)
    (hs : l'.map (·.1) = p'.l) (hm : ∀ x ∈ l', x ∈ l ∨ (svW x = .slice none 0 0 ∧ x.1.who = [])) (ha : (a1 :: l'.map svW).Pairwise Apart) :
    PrAt w' base (fun b => b = X ∨ a1.ownBlock = some b ∨ a2.ownBlock = some b ∨ a3.ownBlock = some b ∨ v'.ownBlock = some b ∨ ∃ x ∈ l', (svW x).ownBlock = some b) X p' a1 a2 a3 v' l' ∧
    Kept w w' S (fun b => b = X ∨ a1.ownBlock = some b ∨ a2.ownBlock = some b ∨ a3.ownBlock = some b ∨ v'.ownBlock = some b ∨ ∃ x ∈ l', (svW x).ownBlock = some b) := by
  have k1 : ∀ g, a1.ownBlock = some g → w'.heap[g]? = w.heap[g]? := fun g e => hr g (h.o1.lt g e).2 (fun e1 => h.n1 (by rw [e, e1])) (fun e1 => own_apart h.o1 h.o4 (by decide) g e e1)
  have k2 : ∀ g, a2.ownBlock = some g → w'.heap[g]? = w.heap[g]? := fun g e => hr g (h.o2.lt g e).2 (fun e1 => h.n2 (by rw [e, e1])) (fun e1 => own_apart h.o2 h.o4 (by decide) g e e1)
  have k3 : ∀ g, a3.ownBlock = some g → w'.heap[g]? = w.heap[g]? := fun g e => hr g (h.o3.lt g e).2 (fun e1 => h.n3 (by rw [e, e1])) (fun e1 => own_apart h.o3 h.o4 (by decide) g e e1)
  have k5 : ∀ x ∈ l, ∀ g, (svW x).ownBlock = some g → w'.heap[g]? = w.heap[g]? := fun x hx g e => hr g ((h.ow x hx).lt g e).2 (fun e1 => h.nw x hx (by rw [e, e1])) (fun e1 => own_apart (h.ow x hx) h.o4 (by decide) g e e1)
  refine ⟨⟨hb, ?_, ?_, ?_, ho, hs, fun x hx => ?_, ha, h.a23, h.lo, fun _ => Iff.rfl⟩, ⟨hf.1, hf.2.1, hf.2.2.1, hf.2.2.2, fun b hb => ?_, fun b hb hn => hr b hb (fun e => hn ((h.set b).2 (Or.inl e))) (fun e => hn ((h.set b).2 (Or.inr (Or.inr (Or.inr (Or.inr (Or.inl e)))))))⟩⟩
  · rw [hw]
    exact own_keep h.o1 k1
  · rw [hbe]
    exact own_keep h.o2 k2
  · rw [hv]
    exact own_keep h.o3 k3
  · rcases hm x hx with h1 | ⟨h1, h2⟩
    · exact own_keep (h.ow x h1) (k5 x h1)
    · rw [h1, h2]
      exact World.ownsRow_nil _ _ _ _
  · rcases hb with e | e | e | e | e | ⟨x, hx, e⟩
    · exact Or.inl ((h.set b).2 (Or.inl e))
    · exact Or.inl ((h.set b).2 (Or.inr (Or.inl e)))
    · exact Or.inl ((h.set b).2 (Or.inr (Or.inr (Or.inl e))))
    · exact Or.inl ((h.set b).2 (Or.inr (Or.inr (Or.inr (Or.inl e)))))
    · rcases hl b e with h1 | h1
      · exact Or.inl ((h.set b).2 (Or.inr (Or.inr (Or.inr (Or.inr (Or.inl h1))))))
      · exact Or.inr h1
    · rcases hm x hx with h1 | ⟨h1, _⟩
      · exact Or.inl ((h.set b).2 (Or.inr (Or.inr (Or.inr (Or.inr (Or.inr ⟨x, h1, e⟩))))))
      · rw [h1] at e
        simp [Value.ownBlock] at e
theorem PrAt.ropen (h : PrAt w base S X p a1 a2 a3 a4 l) (hl : p.l.length ≤ 536870912) : Calls Try.prog 23 #[.pointer (some ⟨X, 0, none⟩)] w fun e w' => ∃ u, e = .returned u ∧ OwnEn w' w.heap.size u (openP p) ∧ Below w.heap.size w w' := by
  rw [← h.openE]
  exact ropen_any (by simp [World.cell?, h.blk]) (lt_of_block h.blk) h.o4.row (by rw [← h.sl, List.length_map] at hl; exact hl)
theorem PrAt.rchosen (h : PrAt w base S X p a1 a2 a3 a4 l) (hl : p.l.length ≤ 536870912) (s : Int) : Calls Try.prog 18 #[.pointer (some ⟨X, 0, none⟩), .int .i64 s] w (PrPost w base S X (choP p s) (.tuple #[])) := by
  refine (rchosen_any h.blk h.o4.row (by rw [← h.sl, List.length_map] at hl; exact hl) s).mono ?_
  rintro e w' ⟨u, y, rfl, ho, b, rfl⟩
  have hy := h.fresh b
  have nu : u.ownBlock ≠ some X := own_ne ho hy.blk (by decide)
  have hb : base ≤ w.heap.size := Nat.le_trans h.lo (Nat.le_of_lt (lt_of_block h.blk))
  have hs : ∀ b, b ≠ X → (y.setCell ⟨X, 8, none⟩ u).heap[b]? = y.heap[b]? := fun b hb => heap_setCell_other _ _ _ _ hb
  have q := h.turn4 (p' := choP p s) (v' := u) (w' := y.setCell ⟨X, 8, none⟩ u) (l' := l.filter fun x => decide (x.1.e.slot ≠ s)) rfl rfl rfl (by rw [heap_setCell_same y X 8 _ _ _ hy.blk]; rfl) (own_mono (own_keep ho fun g e => hs g (fun e1 => nu (by rw [e, e1]))) hb) ⟨b.os, b.tape, b.output, by simp; exact b.size⟩ (fun g e => Or.inr (ho.lt g e).1) (fun k hk h1 _ => (hs k h1).trans (b.block k hk)) (by
      show _ = p.l.filter _
      rw [← h.sl, List.filter_map]
      rfl) (fun x hx => Or.inl (List.mem_filter.1 hx).1) (h.ap.sublist (List.Sublist.cons_cons _ (List.filter_sublist.map _)))
  exact ⟨_, rfl, ⟨_, _, _, _, _, q.1⟩, q.2⟩
theorem PrAt.rpropose (h : PrAt w base S X p a1 a2 a3 a4 l) (hl : p.l.length ≤ 536870912) (hn : -4611686018427387904 ≤ p.next ∧ p.next ≤ 4611686018427387904) (c : Cm) : Calls Try.prog 16 #[.pointer (some ⟨X, 0, none⟩), .agg (cmA c)] w (PrPost w base S X (propP p c).1 (.agg (enA (propP p c).2))) := by
  refine (rpropose_any h.blk h.o4 (Nat.le_trans h.lo (Nat.le_of_lt (lt_of_block h.blk))) (by rw [← h.sl, List.length_map] at hl; exact hl) hn c).mono ?_
  rintro e w' ⟨v', rfl, hb, ho, hf, hv, hr⟩
  have hw : (propP p c).1.who = p.who ∧ (propP p c).1.best = p.best ∧ (propP p c).1.vals = p.vals := by
    unfold propP
    split <;> exact ⟨rfl, rfl, rfl⟩
  have q := h.turn4 (p' := (propP p c).1) (v' := v') (w' := w') (l' := propL p c l) hw.1 hw.2.1 hw.2.2 hb ho hf hv hr (by
      unfold propL propP
      split
      · rw [List.map_append, h.sl]
        rfl
      · exact h.sl) (fun x hx => by
      unfold propL at hx
      split at hx
      · rcases List.mem_append.1 hx with h1 | h1
        · exact Or.inl h1
        · rw [List.mem_singleton.1 h1]
          exact Or.inr ⟨rfl, rfl⟩
      · exact Or.inl hx) (by
      unfold propL
      split
      · rw [List.map_append, ← List.cons_append]
        refine List.pairwise_append.2 ⟨h.ap, List.pairwise_singleton _ _, fun a _ b hb g _ => ?_⟩
        rw [List.mem_singleton.1 hb]
        simp [svW, Value.ownBlock]
      · exact h.ap)
  exact ⟨_, rfl, ⟨_, _, _, _, _, q.1⟩, q.2⟩
end
end Go.Proofs.Ytmlgoecdefeapaa
/-
  The document's proposer, whole: an entry kept. The condition: at most 2^29 slots.
-/
namespace Go.Proofs.Ytmlgoecdefeapaa
open Go.RowKit

def bestP (p : Pp) (es : List En) : Pp := ⟨p.n, p.b, p.f, p.who, es, p.is, p.vals, p.next, p.l⟩
section
variable {w w' : World} {base X : Nat} {S : Nat → Prop} {p : Pp} {a1 a2 a3 a4 : Value} {l : List Sv}
/-- The row of the best turned or laid anew, all else as it was. -/
theorem PrAt.turn2 {v' : Value} {es : List En} (h : PrAt w base S X p a1 a2 a3 a4 l)
    (hb : w'.heap[X]? = some (.cells (prA p a1 v' a3 a4) 44 (0, 0))) (ho : OwnEn w' base v' es) (hf : w'.os = w.os ∧ w'.tape = w.tape ∧ w'.output = w.output ∧ w.heap.size ≤ w'.heap.size)
    (hl : ∀ g, v'.ownBlock = some g → a2.ownBlock = some g ∨ w.heap.size ≤ g) (hr : ∀ b, b < w.heap.size → b ≠ X → a2.ownBlock ≠ some b → w'.heap[b]? = w.heap[b]?) :
    PrAt w' base (fun b => b = X ∨ a1.ownBlock = some b ∨ v'.ownBlock = some b ∨ a3.ownBlock = some b ∨ a4.ownBlock = some b ∨ ∃ x ∈ l, (svW x).ownBlock = some b) X (bestP p es) a1 v' a3 a4 l ∧
    Kept w w' S (fun b => b = X ∨ a1.ownBlock = some b ∨ v'.ownBlock = some b ∨ a3.ownBlock = some b ∨ a4.ownBlock = some b ∨ ∃ x ∈ l, (svW x).ownBlock = some b) := by
  have k1 : ∀ g, a1.ownBlock = some g → w'.heap[g]? = w.heap[g]? := fun g e => hr g (h.o1.lt g e).2 (fun e1 => h.n1 (by rw [e, e1])) (fun e1 => own_apart h.o1 h.o2 (by decide) g e e1)
  have k3 : ∀ g, a3.ownBlock = some g → w'.heap[g]? = w.heap[g]? := fun g e => hr g (h.o3.lt g e).2 (fun e1 => h.n3 (by rw [e, e1])) (fun e1 => h.a23 g e1 e)
  have k4 : ∀ g, a4.ownBlock = some g → w'.heap[g]? = w.heap[g]? := fun g e => hr g (h.o4.lt g e).2 (fun e1 => h.n4 (by rw [e, e1])) (fun e1 => own_apart h.o4 h.o2 (by decide) g e e1)
  have k5 : ∀ x ∈ l, ∀ g, (svW x).ownBlock = some g → w'.heap[g]? = w.heap[g]? := fun x hx g e => hr g ((h.ow x hx).lt g e).2 (fun e1 => h.nw x hx (by rw [e, e1])) (fun e1 => own_apart (h.ow x hx) h.o2 (by decide) g e e1)
  refine ⟨⟨hb, own_keep h.o1 k1, ho, own_keep h.o3 k3, own_keep h.o4 k4, h.sl, fun x hx => own_keep (h.ow x hx) (k5 x hx), h.ap, fun g e e3 => ?_, h.lo, fun _ => Iff.rfl⟩, ⟨hf.1, hf.2.1, hf.2.2.1, hf.2.2.2, fun b hb => ?_, fun b hb hn => hr b hb (fun e => hn ((h.set b).2 (Or.inl e))) (fun e => hn ((h.set b).2 (Or.inr (Or.inr (Or.inl e)))))⟩⟩
  · rcases hl g e with h1 | h1
    · exact h.a23 g h1 e3
    · have := (h.o3.lt g e3).2
      omega
  · rcases hb with e | e | e | e | e | e
    · exact Or.inl ((h.set b).2 (Or.inl e))
    · exact Or.inl ((h.set b).2 (Or.inr (Or.inl e)))
    · rcases hl b e with h1 | h1
      · exact Or.inl ((h.set b).2 (Or.inr (Or.inr (Or.inl h1))))
      · exact Or.inr h1
    · exact Or.inl ((h.set b).2 (Or.inr (Or.inr (Or.inr (Or.inl e)))))
    · exact Or.inl ((h.set b).2 (Or.inr (Or.inr (Or.inr (Or.inr (Or.inl e))))))
    · exact Or.inl ((h.set b).2 (Or.inr (Or.inr (Or.inr (Or.inr (Or.inr e))))))
/-- What keeping leaves of the whole: only the best has turned. -/
structure KeptPost (w : World) (base : Nat) (S : Nat → Prop) (X : Nat) (p : Pp) (a1 a3 a4 : Value) (l : List Sv) (r : Ending) (w' : World) : Prop where
  ex : ∃ S' v', r = .returned (.tuple #[]) ∧ PrAt w' base S' X p a1 v' a3 a4 l ∧ Kept w w' S S'
theorem PrAt.rkeep (h : PrAt w base S X p a1 a2 a3 a4 l) (hl : p.best.length ≤ 536870912) (e : En) : Calls Try.prog 31 #[.pointer (some ⟨X, 0, none⟩), .agg (enA e)] w (KeptPost w base S X (bestP p (insP p.f p.best e)) a1 a3 a4 l) := by
  refine (rkeep_any h.blk h.o2 (Nat.le_trans h.lo (Nat.le_of_lt (lt_of_block h.blk))) hl e).mono ?_
  rintro r w' ⟨v', rfl, hb, ho, hf, hv, hr⟩
  have q := h.turn2 hb ho hf hv hr
  exact ⟨_, v', rfl, q.1, q.2⟩
theorem PrAt.rbest (h : PrAt w base S X p a1 a2 a3 a4 l) (hl : p.best.length ≤ 536870912) (s : Int) : Calls Try.prog 32 #[.pointer (some ⟨X, 0, none⟩), .int .i64 s] w fun e w' => e = .returned (.agg (cmA (bestC p.best s))) ∧ Below w.heap.size w w' :=
  rbest_any (by simp [World.cell?, h.blk]) (lt_of_block h.blk) h.o2.row hl s
end
end Go.Proofs.Ytmlgoecdefeapaa
/-
  The document's proposer in memory: one open slot turned, its row of those that accepted it laid anew; what Accepted scans, as plain data. No condition.
-/
namespace Go.Proofs.Ytmlgoecdefeapaa
open Go.RowKit

/-- A slot that the scan goes past. -/
def skipA (s who : Int) (x : Sl) : Prop := x.e.slot ≠ s ∨ x.most = true ∨ who ∈ x.who
theorem accL_skip {m s who : Int} : ∀ {l : List Sl}, (∀ x ∈ l, skipA s who x) → accL m s who l = (l, false)
  | [], _ => rfl
  | x :: t, h => by
    have h0 : x.e.slot ≠ s ∨ x.most = true ∨ who ∈ x.who := h x List.mem_cons_self
    unfold accL
    rw [if_pos h0, accL_skip (fun y hy => h y (List.mem_cons_of_mem _ hy))]
theorem accL_hit {m s who : Int} : ∀ {l : List Sl} {k : Nat} (hk : k < l.length), (∀ x ∈ l.take k, skipA s who x) → ¬ skipA s who l[k] → accL m s who l = (l.set k ⟨l[k].e, l[k].who ++ [who], decide (m ≤ (l[k].who.length : Int) + 1)⟩, decide (m ≤ (l[k].who.length : Int) + 1))
  | x :: t, 0, _, _, h => by
    have h0 : ¬ (x.e.slot ≠ s ∨ x.most = true ∨ who ∈ x.who) := h
    unfold accL
    rw [if_neg h0]
    rfl
  | x :: t, k + 1, hk, h, h2 => by
    have hk' : k < t.length := by simpa using hk
    have h0 : x.e.slot ≠ s ∨ x.most = true ∨ who ∈ x.who := h x (by simp)
    unfold accL
    rw [if_pos h0, accL_hit hk' (fun y hy => h y (by rw [List.take_succ_cons]; exact List.mem_cons_of_mem _ hy)) h2]
    rfl
theorem rowL_setSv (l : List Sv) : ∀ (k : Nat) (hk : k < l.length) (u : Option Addr × Nat × Nat) (ws : List Int) (b : Bool), ((rowL svC l).set (k * 9 + 7) (.slice u.1 u.2.1 u.2.2)).set (k * 9 + 8) (.bool b) = rowL svC (l.set k (⟨l[k].1.e, ws, b⟩, u)) := by
  induction l with
  | nil => intro k hk; exact absurd hk (Nat.not_lt_zero _)
  | cons r l ih =>
    intro k hk u ws b
    cases k with
    | zero => rfl
    | succ k =>
      have h := ih k (by simpa using hk) u ws b
      have e1 : rowL svC (r :: l) = .int .i64 r.1.e.slot :: .int .i64 r.1.e.ballot :: .int .i64 r.1.e.cmd.kind :: .int .i64 r.1.e.cmd.session :: .int .i64 r.1.e.cmd.seq :: .string r.1.e.cmd.name :: .int .i64 r.1.e.cmd.n :: .slice r.2.1 r.2.2.1 r.2.2.2 :: .bool r.1.most :: rowL svC l := rfl
      have e2 : rowL svC ((r :: l).set (k + 1) (⟨(r :: l)[k + 1].1.e, ws, b⟩, u)) = .int .i64 r.1.e.slot :: .int .i64 r.1.e.ballot :: .int .i64 r.1.e.cmd.kind :: .int .i64 r.1.e.cmd.session :: .int .i64 r.1.e.cmd.seq :: .string r.1.e.cmd.name :: .int .i64 r.1.e.cmd.n :: .slice r.2.1 r.2.2.1 r.2.2.2 :: .bool r.1.most :: rowL svC (l.set k (⟨(l[k]'(by simpa using hk)).1.e, ws, b⟩, u)) := rfl
      rw [e1, e2, ← h, show (k + 1) * 9 + 7 = (k * 9 + 7) + 1 + 1 + 1 + 1 + 1 + 1 + 1 + 1 + 1 by omega, show (k + 1) * 9 + 8 = (k * 9 + 8) + 1 + 1 + 1 + 1 + 1 + 1 + 1 + 1 + 1 by omega]
      simp only [List.set_cons_succ]
/-- The last two cells of a slot written. -/
theorem own_setSv {w w2 : World} {base g n cap : Nat} {l : List Sv} (ho : OwnSv w base (.slice (some ⟨g, 0, none⟩) n cap) l) (k : Nat) (hk : k < l.length) (u : Option Addr × Nat × Nat) (ws : List Int) (b : Bool) (h2 : w2.heap[g]? = (w.setCell ⟨g, k * 9 + 7, none⟩ (.slice u.1 u.2.1 u.2.2)).heap[g]?) :
    OwnSv (w2.setCell ⟨g, k * 9 + 8, none⟩ (.bool b)) base (.slice (some ⟨g, 0, none⟩) n cap) (l.set k (⟨l[k].1.e, ws, b⟩, u)) := by
  have hn : n = l.length := by
    obtain ⟨a, c, e⟩ := (OwnSv.row ho).form
    simp only [Value.slice.injEq] at e
    exact e.2.1
  subst hn
  have hl : (rowL svC l).length = l.length * 9 := rowL_length svC_len l
  have h1 := (World.ownsRow.stored ho (k * 9 + 7) (.slice u.1 u.2.1 u.2.2)).1
  have h1' : w2.ownsRow base 69 9 (.slice (some ⟨g, 0, none⟩) l.length cap) l.length ((rowL svC l).set (k * 9 + 7) (.slice u.1 u.2.1 u.2.2)) := own_keep h1 fun g' e => by
    have : g = g' := by simpa [Value.ownBlock] using e
    rw [← this]
    exact h2
  have h3 := (World.ownsRow.stored h1' (k * 9 + 8) (.bool b)).1
  rw [rowL_setSv l k hk u ws b] at h3
  show World.ownsRow _ _ _ _ _ _ _
  rw [List.length_set]
  exact h3
section
variable {w w' : World} {base X : Nat} {S : Nat → Prop} {p : Pp} {a1 a2 a3 a4 : Value} {l : List Sv}
theorem Apart.symm {a b : Value} (h : Apart a b) : Apart b a := fun g e e2 => h g e2 e
/-- One slot turned. -/
theorem PrAt.turn5 {k : Nat} {y : Sv} (h : PrAt w base S X p a1 a2 a3 a4 l) (hk : k < l.length) (ho : OwnNu w' base (svW y) y.1.who) (h4 : OwnSv w' base a4 (l.set k y)) (hf : w'.os = w.os ∧ w'.tape = w.tape ∧ w'.output = w.output ∧ w.heap.size ≤ w'.heap.size)
    (hu : ∀ g, (svW y).ownBlock = some g → (svW l[k]).ownBlock = some g ∨ w.heap.size ≤ g) (hr : ∀ b, b < w.heap.size → a4.ownBlock ≠ some b → (svW l[k]).ownBlock ≠ some b → w'.heap[b]? = w.heap[b]?) :
    ∃ S', PrAt w' base S' X ⟨p.n, p.b, p.f, p.who, p.best, p.is, p.vals, p.next, p.l.set k y.1⟩ a1 a2 a3 a4 (l.set k y) ∧ Kept w w' S S' := by
  have hin : l[k] ∈ l := List.getElem_mem hk
  have hap := List.pairwise_iff_getElem.1 h.ap
  have haw := (List.pairwise_cons.1 h.ap).1
  have hww := List.pairwise_iff_getElem.1 (List.pairwise_map.1 (List.pairwise_cons.1 h.ap).2)
  have kX : w'.heap[X]? = w.heap[X]? := hr X (lt_of_block h.blk) h.n4 (h.nw _ hin)
  have k1 : ∀ g, a1.ownBlock = some g → w'.heap[g]? = w.heap[g]? := fun g e => hr g (h.o1.lt g e).2 (fun e1 => own_apart h.o1 h.o4 (by decide) g e e1) (fun e1 => haw _ (List.mem_map.2 ⟨_, hin, rfl⟩) g e e1)
  have k2 : ∀ g, a2.ownBlock = some g → w'.heap[g]? = w.heap[g]? := fun g e => hr g (h.o2.lt g e).2 (fun e1 => own_apart h.o2 h.o4 (by decide) g e e1) (fun e1 => own_apart h.o2 (h.ow _ hin) (by decide) g e e1)
  have k3 : ∀ g, a3.ownBlock = some g → w'.heap[g]? = w.heap[g]? := fun g e => hr g (h.o3.lt g e).2 (fun e1 => own_apart h.o3 h.o4 (by decide) g e e1) (fun e1 => own_apart h.o3 (h.ow _ hin) (by decide) g e e1)
  have hjk : ∀ j (hj : j < l.length), j ≠ k → Apart (svW l[j]) (svW l[k]) := fun j hj hn => by
    rcases Nat.lt_or_gt_of_ne hn with h1 | h1
    · exact hww j k hj hk h1
    · exact (hww k j hk hj h1).symm
  have k5 : ∀ j (hj : j < l.length), j ≠ k → ∀ g, (svW l[j]).ownBlock = some g → w'.heap[g]? = w.heap[g]? := fun j hj hn g e => hr g ((h.ow _ (List.getElem_mem hj)).lt g e).2 (fun e1 => own_apart (h.ow _ (List.getElem_mem hj)) h.o4 (by decide) g e e1) (fun e1 => hjk j hj hn g e e1)
  have hmem : ∀ x ∈ l.set k y, x = y ∨ ∃ j, ∃ hj : j < l.length, j ≠ k ∧ x = l[j] := fun x hx => by
    obtain ⟨j, hj, e⟩ := List.mem_iff_getElem.1 hx
    rw [List.getElem_set] at e
    have hj' : j < l.length := by simpa using hj
    split at e
    · exact Or.inl e.symm
    · rename_i hne
      exact Or.inr ⟨j, hj', fun e2 => hne e2.symm, e.symm⟩
  -- a row of others against the new one
  have hnew : ∀ a : Value, (∀ g, a.ownBlock = some g → g < w.heap.size) → Apart a (svW l[k]) → Apart a (svW y) := fun a ha hd g e e2 => by
    rcases hu g e2 with h1 | h1
    · exact hd g e h1
    · have := ha g e
      omega
  refine ⟨fun b => b = X ∨ a1.ownBlock = some b ∨ a2.ownBlock = some b ∨ a3.ownBlock = some b ∨ a4.ownBlock = some b ∨ ∃ x ∈ l.set k y, (svW x).ownBlock = some b, ⟨kX.trans h.blk, own_keep h.o1 k1, own_keep h.o2 k2, own_keep h.o3 k3, h4, ?_, fun x hx => ?_, ?_, h.a23, h.lo, fun _ => Iff.rfl⟩, ⟨hf.1, hf.2.1, hf.2.2.1, hf.2.2.2, fun b hb => ?_, fun b hb hn => hr b hb (fun e => hn ((h.set b).2 (Or.inr (Or.inr (Or.inr (Or.inr (Or.inl e))))))) (fun e => hn ((h.set b).2 (Or.inr (Or.inr (Or.inr (Or.inr (Or.inr ⟨_, hin, e⟩)))))))⟩⟩
  · show (l.set k y).map (·.1) = p.l.set k y.1
    rw [← h.sl, List.map_set]
  · rcases hmem x hx with e | ⟨j, hj, hn, e⟩
    · rw [e]; exact ho
    · rw [e]; exact own_keep (h.ow _ (List.getElem_mem hj)) (k5 j hj hn)
  · refine List.pairwise_cons.2 ⟨fun b hb => ?_, ?_⟩
    · obtain ⟨x, hx, rfl⟩ := List.mem_map.1 hb
      rcases hmem x hx with e | ⟨j, hj, hn, e⟩
      · rw [e]
        exact hnew a1 (fun g e => (h.o1.lt g e).2) (haw _ (List.mem_map.2 ⟨_, hin, rfl⟩))
      · rw [e]
        exact haw _ (List.mem_map.2 ⟨_, List.getElem_mem hj, rfl⟩)
    · rw [List.pairwise_map, List.pairwise_iff_getElem]
      intro i j hi hj hij
      have hi' : i < l.length := by simpa using hi
      have hj' : j < l.length := by simpa using hj
      rw [List.getElem_set, List.getElem_set]
      by_cases c1 : k = i
      · rw [if_pos c1, if_neg (by omega)]
        exact (hnew _ (fun g e => ((h.ow _ (List.getElem_mem hj')).lt g e).2) (hjk j hj' (by omega))).symm
      · rw [if_neg c1]
        by_cases c2 : k = j
        · rw [if_pos c2]
          exact hnew _ (fun g e => ((h.ow _ (List.getElem_mem hi')).lt g e).2) (hjk i hi' (by omega))
        · rw [if_neg c2]
          exact hww i j hi' hj' hij
  · rcases hb with e | e | e | e | e | ⟨x, hx, e⟩
    · exact Or.inl ((h.set b).2 (Or.inl e))
    · exact Or.inl ((h.set b).2 (Or.inr (Or.inl e)))
    · exact Or.inl ((h.set b).2 (Or.inr (Or.inr (Or.inl e))))
    · exact Or.inl ((h.set b).2 (Or.inr (Or.inr (Or.inr (Or.inl e)))))
    · exact Or.inl ((h.set b).2 (Or.inr (Or.inr (Or.inr (Or.inr (Or.inl e))))))
    · rcases hmem x hx with e2 | ⟨j, hj, hn, e2⟩
      · rw [e2] at e
        rcases hu b e with h1 | h1
        · exact Or.inl ((h.set b).2 (Or.inr (Or.inr (Or.inr (Or.inr (Or.inr ⟨_, hin, h1⟩))))))
        · exact Or.inr h1
      · rw [e2] at e
        exact Or.inl ((h.set b).2 (Or.inr (Or.inr (Or.inr (Or.inr (Or.inr ⟨_, List.getElem_mem hj, e⟩))))))
end
end Go.Proofs.Ytmlgoecdefeapaa
