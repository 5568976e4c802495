/-
  Parts of the proof, laid together: PrPlain, PrRefA, EnSet, PrRefB, PrRefC, PrRefD, PrRefE. The conditions stand at each part.
-/
import Derived.Deep.Cut
import Derived.Laws.CopyRow
import Derived.Deep.QuietTactic
import Derived.BigQuiet
import Derived.Test.YtmlgoecdefeapaaAPackD
import Derived.Test.YtmlgoecdefeapaaAPack5
/-
  A proposer as plain data: who promised, the best entries, what it proposes, what is open, who accepted. A majority is a number m here. No condition.
-/
namespace Go.Proofs.Ytmlgoecdefeapaa
open Go.RowKit

/-- An open entry, who accepted it, whether a majority did. -/
structure Sl where
  e : En
  who : List Int
  most : Bool
structure Pp where
  n : Int
  b : Int
  f : Int
  who : List Int
  best : List En
  is : Bool
  vals : List En
  next : Int
  l : List Sl
def Pp.new (n b f : Int) : Pp := ⟨n, b, f, [], [], false, [], 0, []⟩

/-- An entry among the best of each slot. -/
def insB : List En → En → List En
  | [], e => [e]
  | x :: t, e => if x.slot = e.slot then (if x.ballot < e.ballot then e else x) :: t else x :: insB t e
def insP (f : Int) (l : List En) (e : En) : List En := if e.slot < f then l else insB l e
def insA (f : Int) (l es : List En) : List En := es.foldl (insP f) l
def bestE (l : List En) (s : Int) : Option En := l.find? fun e => e.slot == s
def cmdOf : Option En → Cm
  | some e => e.cmd
  | none => Cm.zero
def bestC (l : List En) (s : Int) : Cm := cmdOf (bestE l s)
def lastS (z : Int) (l : List En) : Int := l.foldl (fun m e => max m e.slot) z
def termE (b s : Int) : En := ⟨s, b, ⟨1, 0, 0, ⟨#[]⟩, b⟩⟩
/-- k slots from s on. -/
def spanE (b : Int) (l : List En) : Nat → Int → List En
  | 0, _ => []
  | k + 1, s => ⟨s, b, bestC l s⟩ :: spanE b l k (s + 1)
def valsR (b f : Int) (l : List En) : List En := spanE b l (lastS (f - 1) l - (f - 1)).toNat f ++ [termE b (lastS (f - 1) l + 1)]
def slOf (e : En) : Sl := ⟨e, [], false⟩
def readyP (p : Pp) : Pp := ⟨p.n, p.b, p.f, p.who, p.best, true, p.vals ++ valsR p.b p.f p.best, lastS (p.f - 1) p.best + 2, p.l ++ (p.vals ++ valsR p.b p.f p.best).map slOf⟩
def countP (p : Pp) (who : Int) (es : List En) : Pp := ⟨p.n, p.b, p.f, p.who ++ [who], insA p.f p.best es, p.is, p.vals, p.next, p.l⟩
def promP (m : Int) (p : Pp) (who : Int) (es : List En) : Pp × Bool :=
  if p.is = true ∨ who < 0 ∨ p.n ≤ who ∨ who ∈ p.who then (p, false)
  else if ((p.who.length : Int) + 1) < m then (countP p who es, false)
  else (readyP (countP p who es), true)
/-- A server accepts a slot. -/
def accL (m s who : Int) : List Sl → List Sl × Bool
  | [] => ([], false)
  | x :: t => if x.e.slot ≠ s ∨ x.most = true ∨ who ∈ x.who then (x :: (accL m s who t).1, (accL m s who t).2)
    else (⟨x.e, x.who ++ [who], decide (m ≤ (x.who.length : Int) + 1)⟩ :: t, decide (m ≤ (x.who.length : Int) + 1))
def accP (m : Int) (p : Pp) (who s : Int) : Pp × Bool :=
  if who < 0 ∨ p.n ≤ who then (p, false) else (⟨p.n, p.b, p.f, p.who, p.best, p.is, p.vals, p.next, (accL m s who p.l).1⟩, (accL m s who p.l).2)
def nextE (p : Pp) (c : Cm) : En := ⟨p.next, p.b, c⟩
def propP (p : Pp) (c : Cm) : Pp × En :=
  if p.is = true then (⟨p.n, p.b, p.f, p.who, p.best, p.is, p.vals, p.next + 1, p.l ++ [slOf (nextE p c)]⟩, nextE p c) else (p, En.zero)
def openP (p : Pp) : List En := p.l.map (·.e)
/-! ## The best of a slot -/
/-- One more entry: the first with the greatest ballot of a slot so far. -/
def moreE (s : Int) (o : Option En) (e : En) : Option En :=
  if e.slot = s then (match o with
    | none => some e
    | some x => if x.ballot < e.ballot then some e else some x) else o
theorem bestE_insB (e : En) (s : Int) : ∀ l, bestE (insB l e) s = moreE s (bestE l s) e
  | [] => by
    unfold insB bestE moreE
    by_cases h : e.slot = s
    · rw [List.find?_cons_of_pos (by simpa using h), if_pos h]; rfl
    · rw [List.find?_cons_of_neg (by simpa using h), if_neg h]
  | x :: t => by
    have ih := bestE_insB e s t
    unfold insB
    by_cases hx : x.slot = e.slot
    · rw [if_pos hx]
      unfold bestE moreE
      by_cases h : e.slot = s
      · rw [if_pos h, List.find?_cons_of_pos (p := fun e => e.slot == s) (a := x) (by simpa using hx.trans h)]
        by_cases hb : x.ballot < e.ballot
        · rw [if_pos hb, List.find?_cons_of_pos (by simpa using h)]
          show some e = if x.ballot < e.ballot then some e else some x
          rw [if_pos hb]
        · rw [if_neg hb, List.find?_cons_of_pos (by simpa using hx.trans h)]
          show some x = if x.ballot < e.ballot then some e else some x
          rw [if_neg hb]
      · rw [if_neg h, List.find?_cons_of_neg (p := fun e => e.slot == s) (a := x) (by simpa [hx] using h)]
        rw [List.find?_cons_of_neg (by split <;> simpa [hx] using h)]
    · rw [if_neg hx]
      unfold bestE at ih ⊢
      by_cases h : x.slot = s
      · rw [List.find?_cons_of_pos (by simpa using h), List.find?_cons_of_pos (by simpa using h)]
        unfold moreE
        rw [if_neg (fun h2 => hx (h.trans h2.symm))]
      · rw [List.find?_cons_of_neg (by simpa using h), List.find?_cons_of_neg (by simpa using h)]
        exact ih
theorem bestE_insP {f s : Int} (hs : f ≤ s) (l : List En) (e : En) : bestE (insP f l e) s = moreE s (bestE l s) e := by
  unfold insP
  split
  · rename_i h
    unfold moreE
    rw [if_neg (by omega)]
  · exact bestE_insB e s l
theorem bestE_insA {f s : Int} (hs : f ≤ s) : ∀ (es l : List En), bestE (insA f l es) s = es.foldl (moreE s) (bestE l s)
  | [], _ => rfl
  | e :: es, l => by
    show bestE (insA f (insP f l e) es) s = es.foldl (moreE s) (moreE s (bestE l s) e)
    rw [bestE_insA hs es, bestE_insP hs]
theorem insA_append (f : Int) (l a b : List En) : insA f l (a ++ b) = insA f (insA f l a) b := List.foldl_append
theorem insB_mem {e x : En} : ∀ {l : List En}, x ∈ insB l e → x = e ∨ x ∈ l
  | [], h => by
    unfold insB at h
    exact Or.inl (List.mem_singleton.1 h)
  | y :: t, h => by
    unfold insB at h
    split at h
    · rcases List.mem_cons.1 h with h | h
      · split at h
        · exact Or.inl h
        · exact Or.inr (h ▸ List.mem_cons_self)
      · exact Or.inr (List.mem_cons_of_mem _ h)
    · rcases List.mem_cons.1 h with h | h
      · exact Or.inr (h ▸ List.mem_cons_self)
      · exact (insB_mem h).imp_right (List.mem_cons_of_mem _)
theorem insP_mem {f : Int} {e x : En} {l : List En} (h : x ∈ insP f l e) : (x = e ∧ f ≤ e.slot) ∨ x ∈ l := by
  unfold insP at h
  split at h
  · exact Or.inr h
  · rcases insB_mem h with h2 | h2
    · exact Or.inl ⟨h2, by omega⟩
    · exact Or.inr h2
theorem insA_mem {f : Int} {x : En} : ∀ {es l : List En}, x ∈ insA f l es → (x ∈ es ∧ f ≤ x.slot) ∨ x ∈ l
  | [], _, h => Or.inr h
  | e :: es, l, h => by
    rcases insA_mem (es := es) (l := insP f l e) h with h2 | h2
    · exact Or.inl ⟨List.mem_cons_of_mem _ h2.1, h2.2⟩
    · rcases insP_mem h2 with h3 | h3
      · exact Or.inl ⟨h3.1 ▸ List.mem_cons_self, h3.1 ▸ h3.2⟩
      · exact Or.inr h3
/-! ## The last slot -/
theorem lastS_ge : ∀ (l : List En) (z : Int), z ≤ lastS z l
  | [], _ => Int.le_refl _
  | e :: l, z => by
    have := lastS_ge l (max z e.slot)
    show z ≤ lastS (max z e.slot) l
    omega
theorem lastS_mem {x : En} : ∀ {l : List En} (z : Int), x ∈ l → x.slot ≤ lastS z l
  | e :: l, z, h => by
    show x.slot ≤ lastS (max z e.slot) l
    rcases List.mem_cons.1 h with h | h
    · have := lastS_ge l (max z e.slot)
      rw [h]
      omega
    · exact lastS_mem _ h
theorem lastS_le {k : Int} : ∀ {l : List En} {z : Int}, z ≤ k → (∀ x ∈ l, x.slot ≤ k) → lastS z l ≤ k
  | [], _, h, _ => h
  | e :: l, z, h, hl => lastS_le (l := l) (z := max z e.slot) (by have := hl e List.mem_cons_self; omega) (fun x hx => hl x (List.mem_cons_of_mem _ hx))
/-- No entry stands at a slot behind the last. -/
theorem bestE_past {z s : Int} {l : List En} (h : lastS z l < s) : bestE l s = none := by
  unfold bestE
  rw [List.find?_eq_none]
  intro x hx
  have := lastS_mem z hx
  simp only [beq_iff_eq]
  omega
/-! ## What is proposed -/
theorem spanE_length (b : Int) (l : List En) : ∀ k s, (spanE b l k s).length = k
  | 0, _ => rfl
  | k + 1, s => by
    show (spanE b l k (s + 1)).length + 1 = k + 1
    rw [spanE_length b l k]
theorem spanE_get (b : Int) (l : List En) : ∀ (k : Nat) (s : Int) (i : Nat), i < k → (spanE b l k s)[i]? = some ⟨s + i, b, bestC l (s + i)⟩
  | 0, _, _, h => absurd h (Nat.not_lt_zero _)
  | k + 1, s, 0, _ => by
    show some _ = _
    rw [show s + ((0 : Nat) : Int) = s by omega]
  | k + 1, s, i + 1, h => by
    show (spanE b l k (s + 1))[i]? = _
    rw [spanE_get b l k (s + 1) i (by omega), show s + 1 + (i : Int) = s + ((i + 1 : Nat) : Int) by omega]
/-! ## What is open -/
/-- A slot that is not open: nothing changes. -/
theorem accL_none {m s who : Int} : ∀ {l : List Sl}, (∀ x ∈ l, x.e.slot ≠ s) → accL m s who l = (l, false)
  | [], _ => rfl
  | x :: t, h => by
    unfold accL
    rw [if_pos (Or.inl (h x List.mem_cons_self)), accL_none (fun y hy => h y (List.mem_cons_of_mem _ hy))]
/-- The slots rise: the first of the slot decides alone. -/
def accOne (m who : Int) (x : Sl) : Sl × Bool :=
  if x.most = true ∨ who ∈ x.who then (x, false) else (⟨x.e, x.who ++ [who], decide (m ≤ (x.who.length : Int) + 1)⟩, decide (m ≤ (x.who.length : Int) + 1))
theorem accL_split {m s who : Int} {x : Sl} : ∀ {a b : List Sl}, (a ++ x :: b).Pairwise (fun a c => a.e.slot < c.e.slot) → x.e.slot = s → accL m s who (a ++ x :: b) = (a ++ (accOne m who x).1 :: b, (accOne m who x).2)
  | [], b, h, hx => by
    have hb := (List.pairwise_cons.1 h).1
    show accL m s who (x :: b) = ((accOne m who x).1 :: b, (accOne m who x).2)
    unfold accL accOne
    by_cases h2 : x.most = true ∨ who ∈ x.who
    · rw [if_pos (Or.inr h2), if_pos h2, accL_none (fun y hy => by have := hb y hy; omega)]
    · rw [if_neg (fun h3 => h3.elim (fun h4 => h4 hx) h2), if_neg h2]
  | y :: a, b, h, hx => by
    have h' := List.pairwise_cons.1 h
    have hy := h'.1 x (List.mem_append.2 (Or.inr List.mem_cons_self))
    show accL m s who (y :: (a ++ x :: b)) = (y :: (a ++ (accOne m who x).1 :: b), (accOne m who x).2)
    unfold accL
    rw [if_pos (Or.inl (by omega)), accL_split h'.2 hx]
end Go.Proofs.Ytmlgoecdefeapaa
/-
  The document's proposer: a slot's best command; an entry kept, if it is the best of its slot. No condition.
-/
namespace Go.Proofs.Ytmlgoecdefeapaa
open Go.RowKit

/-- A command's five cells. -/
abbrev cmA (c : Cm) : Array Value := #[.int .i64 c.kind, .int .i64 c.session, .int .i64 c.seq, .string c.name, .int .i64 c.n]
end Go.Proofs.Ytmlgoecdefeapaa
/-
  The document's proposer: an entry kept, if it is the best of its slot. The condition: at most 2^29 slots.
-/
namespace Go.Proofs.Ytmlgoecdefeapaa
open Go.RowKit

section
variable {P : Program} {md : Region.Mode} {Q : Exit → Act → World → Prop} {S : World → Prop} {fuel : Nat} {listed : Array Bool} {a : Act} {w : World} {l : List Oper}
end

theorem boxE {w : World} {B : Nat} {e : En} (h : w.heap[B]? = some (.cells (enA e) 38 (0, 0))) (j : Nat) (u : Value) (hu : (enA e)[j]? = some u) : w.cell? ⟨B, j, none⟩ = some u := by
  simp only [World.cell?, h]
  simpa using hu
section
variable {w wr w' : World} {base X : Nat} {p : Pp} {a1 a2 a3 a4 v' : Value} {e : En} {l : List En}
end
end Go.Proofs.Ytmlgoecdefeapaa
/-
  The document's proposer: what is open, a slot that is open no more. The condition: at most 2^29 open slots.
-/
namespace Go.Proofs.Ytmlgoecdefeapaa
open Go.RowKit

/-- An open slot's nine cells; the row of those that accepted it lies where the second part says. -/
abbrev Sv : Type := Sl × (Option Addr × Nat × Nat)
section
variable {w : World} {X : Nat} {v : Value} {l : List Sv}
end
end Go.Proofs.Ytmlgoecdefeapaa
/-
  The document's proposer: a new one, a command's entry. The conditions: at most 2^29 open slots; the next slot lies below 2^62.
-/
namespace Go.Proofs.Ytmlgoecdefeapaa
open Go.RowKit

section
variable {P : Program} {md : Region.Mode} {Q : Exit → Act → World → Prop} {S : World → Prop} {fuel : Nat} {listed : Array Bool} {a : Act} {w : World} {l : List Oper}
end

theorem boxC {w : World} {B : Nat} {c : Cm} (h : w.heap[B]? = some (.cells (cmA c) 32 (0, 0))) (j : Nat) (u : Value) (hu : (cmA c)[j]? = some u) : w.cell? ⟨B, j, none⟩ = some u := by
  simp only [World.cell?, h]
  simpa using hu
section
variable {w wr w' : World} {base X : Nat} {p : Pp} {a1 a2 a3 a4 v' : Value} {l : List Sv} {x : En} {c : Cm}
end
end Go.Proofs.Ytmlgoecdefeapaa
