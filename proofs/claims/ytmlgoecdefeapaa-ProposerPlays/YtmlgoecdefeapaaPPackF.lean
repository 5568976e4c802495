/-
  Parts of the proof, laid together: PrPlain, PrRefA, EnSet, PrRefB, PrRefC, PrRefD, PrRefE. The conditions stand at each part.
-/
import Derived.Deep.Cut
import Derived.Laws.CopyRow
import Derived.Deep.QuietTactic
import Derived.BigQuiet
import Derived.Test.YtmlgoecdefeapaaPPackD
import Derived.Test.YtmlgoecdefeapaaPPack5
/-
  A proposer as plain data: who promised, the best entries, what it proposes, what is open, who accepted. A majority is a number m here. No condition.
-/
namespace Go.Proofs.Ytmlgoecdefeapaa
open Go.RowKit

/-- An open entry, who accepted it, whether a majority did. -/
structure Sl where
  e : En
  who : List Int
  most : Bool
structure Pp where
  n : Int
  b : Int
  f : Int
  who : List Int
  best : List En
  is : Bool
  vals : List En
  next : Int
  l : List Sl
def Pp.new (n b f : Int) : Pp := ⟨n, b, f, [], [], false, [], 0, []⟩

/-- An entry among the best of each slot. -/
def insB : List En → En → List En
  | [], e => [e]
  | x :: t, e => if x.slot = e.slot then (if x.ballot < e.ballot then e else x) :: t else x :: insB t e
def insP (f : Int) (l : List En) (e : En) : List En := if e.slot < f then l else insB l e
def insA (f : Int) (l es : List En) : List En := es.foldl (insP f) l
def bestE (l : List En) (s : Int) : Option En := l.find? fun e => e.slot == s
def cmdOf : Option En → Cm
  | some e => e.cmd
  | none => Cm.zero
def bestC (l : List En) (s : Int) : Cm := cmdOf (bestE l s)
def lastS (z : Int) (l : List En) : Int := l.foldl (fun m e => max m e.slot) z
def termE (b s : Int) : En := ⟨s, b, ⟨1, 0, 0, ⟨#[]⟩, b⟩⟩
/-- k slots from s on. -/
def spanE (b : Int) (l : List En) : Nat → Int → List En
  | 0, _ => []
  | k + 1, s => ⟨s, b, bestC l s⟩ :: spanE b l k (s + 1)
def valsR (b f : Int) (l : List En) : List En := spanE b l (lastS (f - 1) l - (f - 1)).toNat f ++ [termE b (lastS (f - 1) l + 1)]
def slOf (e : En) : Sl := ⟨e, [], false⟩
def readyP (p : Pp) : Pp := ⟨p.n, p.b, p.f, p.who, p.best, true, p.vals ++ valsR p.b p.f p.best, lastS (p.f - 1) p.best + 2, p.l ++ (p.vals ++ valsR p.b p.f p.best).map slOf⟩
def countP (p : Pp) (who : Int) (es : List En) : Pp := ⟨p.n, p.b, p.f, p.who ++ [who], insA p.f p.best es, p.is, p.vals, p.next, p.l⟩
def promP (m : Int) (p : Pp) (who : Int) (es : List En) : Pp × Bool :=
  if p.is = true ∨ who < 0 ∨ p.n ≤ who ∨ who ∈ p.who then (p, false)
  else if ((p.who.length : Int) + 1) < m then (countP p who es, false)
  else (readyP (countP p who es), true)
/-- A server accepts a slot. -/
def accL (m s who : Int) : List Sl → List Sl × Bool
  | [] => ([], false)
  | x :: t => if x.e.slot ≠ s ∨ x.most = true ∨ who ∈ x.who then (x :: (accL m s who t).1, (accL m s who t).2)
    else (⟨x.e, x.who ++ [who], decide (m ≤ (x.who.length : Int) + 1)⟩ :: t, decide (m ≤ (x.who.length : Int) + 1))
def accP (m : Int) (p : Pp) (who s : Int) : Pp × Bool :=
  if who < 0 ∨ p.n ≤ who then (p, false) else (⟨p.n, p.b, p.f, p.who, p.best, p.is, p.vals, p.next, (accL m s who p.l).1⟩, (accL m s who p.l).2)
def nextE (p : Pp) (c : Cm) : En := ⟨p.next, p.b, c⟩
def propP (p : Pp) (c : Cm) : Pp × En :=
  if p.is = true then (⟨p.n, p.b, p.f, p.who, p.best, p.is, p.vals, p.next + 1, p.l ++ [slOf (nextE p c)]⟩, nextE p c) else (p, En.zero)
def openP (p : Pp) : List En := p.l.map (·.e)
def choP (p : Pp) (s : Int) : Pp := ⟨p.n, p.b, p.f, p.who, p.best, p.is, p.vals, p.next, p.l.filter fun x => decide (x.e.slot ≠ s)⟩

/-! ## The best of a slot -/
/-- One more entry: the first with the greatest ballot of a slot so far. -/
def moreE (s : Int) (o : Option En) (e : En) : Option En :=
  if e.slot = s then (match o with
    | none => some e
    | some x => if x.ballot < e.ballot then some e else some x) else o
theorem bestE_insB (e : En) (s : Int) : ∀ l, bestE (insB l e) s = moreE s (bestE l s) e
  | [] => by
    unfold insB bestE moreE
    by_cases h : e.slot = s
    · rw [List.find?_cons_of_pos (by simpa using h), if_pos h]; rfl
    · rw [List.find?_cons_of_neg (by simpa using h), if_neg h]
  | x :: t => by
    have ih := bestE_insB e s t
    unfold insB
    by_cases hx : x.slot = e.slot
    · rw [if_pos hx]
      unfold bestE moreE
      by_cases h : e.slot = s
      · rw [if_pos h, List.find?_cons_of_pos (p := fun e => e.slot == s) (a := x) (by simpa using hx.trans h)]
        by_cases hb : x.ballot < e.ballot
        · rw [if_pos hb, List.find?_cons_of_pos (by simpa using h)]
          show some e = if x.ballot < e.ballot then some e else some x
          rw [if_pos hb]
        · rw [if_neg hb, List.find?_cons_of_pos (by simpa using hx.trans h)]
          show some x = if x.ballot < e.ballot then some e else some x
          rw [if_neg hb]
      · rw [if_neg h, List.find?_cons_of_neg (p := fun e => e.slot == s) (a := x) (by simpa [hx] using h)]
        rw [List.find?_cons_of_neg (by split <;> simpa [hx] using h)]
    · rw [if_neg hx]
      unfold bestE at ih ⊢
      by_cases h : x.slot = s
      · rw [List.find?_cons_of_pos (by simpa using h), List.find?_cons_of_pos (by simpa using h)]
        unfold moreE
        rw [if_neg (fun h2 => hx (h.trans h2.symm))]
      · rw [List.find?_cons_of_neg (by simpa using h), List.find?_cons_of_neg (by simpa using h)]
        exact ih
theorem insA_append (f : Int) (l a b : List En) : insA f l (a ++ b) = insA f (insA f l a) b := List.foldl_append
theorem insB_length (e : En) : ∀ l, (insB l e).length ≤ l.length + 1
  | [] => Nat.le_refl _
  | x :: t => by
    unfold insB
    split
    · simp
    · have := insB_length e t
      simp only [List.length_cons]
      omega
theorem insP_length (f : Int) (l : List En) (e : En) : (insP f l e).length ≤ l.length + 1 := by
  unfold insP
  split
  · omega
  · exact insB_length e l
theorem insA_length (f : Int) : ∀ (es l : List En), (insA f l es).length ≤ l.length + es.length
  | [], _ => Nat.le_refl _
  | e :: es, l => by
    have h1 := insA_length f es (insP f l e)
    have h2 := insP_length f l e
    show (insA f (insP f l e) es).length ≤ _
    simp only [List.length_cons]
    omega
theorem insB_mem {e x : En} : ∀ {l : List En}, x ∈ insB l e → x = e ∨ x ∈ l
  | [], h => by
    unfold insB at h
    exact Or.inl (List.mem_singleton.1 h)
  | y :: t, h => by
    unfold insB at h
    split at h
    · rcases List.mem_cons.1 h with h | h
      · split at h
        · exact Or.inl h
        · exact Or.inr (h ▸ List.mem_cons_self)
      · exact Or.inr (List.mem_cons_of_mem _ h)
    · rcases List.mem_cons.1 h with h | h
      · exact Or.inr (h ▸ List.mem_cons_self)
      · exact (insB_mem h).imp_right (List.mem_cons_of_mem _)
theorem insP_mem {f : Int} {e x : En} {l : List En} (h : x ∈ insP f l e) : (x = e ∧ f ≤ e.slot) ∨ x ∈ l := by
  unfold insP at h
  split at h
  · exact Or.inr h
  · rcases insB_mem h with h2 | h2
    · exact Or.inl ⟨h2, by omega⟩
    · exact Or.inr h2
theorem insA_mem {f : Int} {x : En} : ∀ {es l : List En}, x ∈ insA f l es → (x ∈ es ∧ f ≤ x.slot) ∨ x ∈ l
  | [], _, h => Or.inr h
  | e :: es, l, h => by
    rcases insA_mem (es := es) (l := insP f l e) h with h2 | h2
    · exact Or.inl ⟨List.mem_cons_of_mem _ h2.1, h2.2⟩
    · rcases insP_mem h2 with h3 | h3
      · exact Or.inl ⟨h3.1 ▸ List.mem_cons_self, h3.1 ▸ h3.2⟩
      · exact Or.inr h3
/-! ## The last slot -/
theorem lastS_ge : ∀ (l : List En) (z : Int), z ≤ lastS z l
  | [], _ => Int.le_refl _
  | e :: l, z => by
    have := lastS_ge l (max z e.slot)
    show z ≤ lastS (max z e.slot) l
    omega
theorem lastS_mem {x : En} : ∀ {l : List En} (z : Int), x ∈ l → x.slot ≤ lastS z l
  | e :: l, z, h => by
    show x.slot ≤ lastS (max z e.slot) l
    rcases List.mem_cons.1 h with h | h
    · have := lastS_ge l (max z e.slot)
      rw [h]
      omega
    · exact lastS_mem _ h
theorem lastS_le {k : Int} : ∀ {l : List En} {z : Int}, z ≤ k → (∀ x ∈ l, x.slot ≤ k) → lastS z l ≤ k
  | [], _, h, _ => h
  | e :: l, z, h, hl => lastS_le (l := l) (z := max z e.slot) (by have := hl e List.mem_cons_self; omega) (fun x hx => hl x (List.mem_cons_of_mem _ hx))
/-! ## What is proposed -/
theorem spanE_length (b : Int) (l : List En) : ∀ k s, (spanE b l k s).length = k
  | 0, _ => rfl
  | k + 1, s => by
    show (spanE b l k (s + 1)).length + 1 = k + 1
    rw [spanE_length b l k]
theorem spanE_snoc (b : Int) (l : List En) : ∀ (k : Nat) (s : Int), spanE b l (k + 1) s = spanE b l k s ++ [⟨s + k, b, bestC l (s + k)⟩]
  | 0, s => by
    show [_] = [_]
    rw [show s + ((0 : Nat) : Int) = s by omega]
  | k + 1, s => by
    show _ :: spanE b l (k + 1) (s + 1) = _ :: (spanE b l k (s + 1) ++ [_])
    rw [spanE_snoc b l k (s + 1), show s + 1 + (k : Int) = s + ((k + 1 : Nat) : Int) by omega]
theorem spanE_slots (b : Int) (l : List En) : ∀ (k : Nat) (s : Int), ∀ x ∈ spanE b l k s, s ≤ x.slot ∧ x.slot < s + k ∧ x.ballot = b
  | 0, _, x, h => by simp [spanE] at h
  | k + 1, s, x, h => by
    rcases List.mem_cons.1 (show x ∈ _ :: spanE b l k (s + 1) from h) with h | h
    · rw [h]
      refine ⟨Int.le_refl _, ?_, rfl⟩
      show s < _
      omega
    · have := spanE_slots b l k (s + 1) x h
      exact ⟨by omega, by omega, this.2.2⟩
theorem spanE_rising (b : Int) (l : List En) : ∀ (k : Nat) (s : Int), (spanE b l k s).Pairwise fun a c => a.slot < c.slot
  | 0, _ => List.Pairwise.nil
  | k + 1, s => List.pairwise_cons.2 ⟨fun x hx => by have := spanE_slots b l k (s + 1) x hx; show s < x.slot; omega, spanE_rising b l k (s + 1)⟩
theorem valsR_length (b f : Int) (l : List En) : ((valsR b f l).length : Int) = lastS (f - 1) l - f + 2 := by
  have := lastS_ge l (f - 1)
  unfold valsR
  rw [List.length_append, spanE_length]
  show (((lastS (f - 1) l - (f - 1)).toNat + 1 : Nat) : Int) = _
  omega
theorem valsR_slots (b f : Int) (l : List En) : ∀ x ∈ valsR b f l, f ≤ x.slot ∧ x.slot < lastS (f - 1) l + 2 ∧ x.ballot = b := by
  have h0 := lastS_ge l (f - 1)
  intro x hx
  rcases List.mem_append.1 hx with h | h
  · have := spanE_slots b l _ f x h
    exact ⟨this.1, by omega, this.2.2⟩
  · rw [List.mem_singleton.1 h]
    refine ⟨?_, ?_, rfl⟩
    · show f ≤ lastS (f - 1) l + 1
      omega
    · show lastS (f - 1) l + 1 < _
      omega
theorem valsR_rising (b f : Int) (l : List En) : (valsR b f l).Pairwise fun a c => a.slot < c.slot := by
  have h0 := lastS_ge l (f - 1)
  refine List.pairwise_append.2 ⟨spanE_rising b l _ f, List.pairwise_singleton _ _, fun x hx y hy => ?_⟩
  rw [List.mem_singleton.1 hy]
  have := spanE_slots b l _ f x hx
  show x.slot < lastS (f - 1) l + 1
  omega

/-! ## What is open -/
/-- The open slots rise, and lie below the next. -/
structure Fit (p : Pp) : Prop where
  rises : p.l.Pairwise fun a c => a.e.slot < c.e.slot
  below : ∀ x ∈ p.l, x.e.slot < p.next
  early : p.is = false → p.vals = [] ∧ p.l = []
theorem fit_new (n b f : Int) : Fit (Pp.new n b f) := ⟨List.Pairwise.nil, fun _ h => absurd h List.not_mem_nil, fun _ => ⟨rfl, rfl⟩⟩
theorem fit_count {p : Pp} (h : Fit p) (who : Int) (es : List En) : Fit (countP p who es) := ⟨h.rises, h.below, h.early⟩
theorem fit_ready {p : Pp} (h : Fit p) (hi : p.is = false) : Fit (readyP p) := by
  obtain ⟨hv, hl⟩ := h.early hi
  have e : (readyP p).l = (valsR p.b p.f p.best).map slOf := by
    show p.l ++ (p.vals ++ valsR p.b p.f p.best).map slOf = _
    rw [hv, hl]
    rfl
  refine ⟨?_, ?_, fun h => by cases h⟩
  · rw [e, List.pairwise_map]
    exact valsR_rising _ _ _
  · rw [e]
    intro x hx
    obtain ⟨y, hy, rfl⟩ := List.mem_map.1 hx
    exact (valsR_slots _ _ _ y hy).2.1
theorem fit_prom {p : Pp} (h : Fit p) (m who : Int) (es : List En) : Fit (promP m p who es).1 := by
  unfold promP
  split
  · exact h
  · rename_i hn
    split
    · exact fit_count h who es
    · refine fit_ready (fit_count h who es) ?_
      show p.is = false
      cases hp : p.is
      · rfl
      · exact absurd (Or.inl hp) hn
theorem accL_slots (m s who : Int) : ∀ l, (accL m s who l).1.map (·.e) = l.map (·.e)
  | [] => rfl
  | x :: t => by
    unfold accL
    split
    · show x.e :: (accL m s who t).1.map (·.e) = _
      rw [accL_slots m s who t]
      rfl
    · rfl
theorem fit_acc {p : Pp} (h : Fit p) (m who s : Int) : Fit (accP m p who s).1 := by
  unfold accP
  split
  · exact h
  · have e := accL_slots m s who p.l
    have hr : (p.l.map (·.e)).Pairwise fun a c => a.slot < c.slot := List.pairwise_map.2 h.rises
    refine ⟨?_, ?_, fun hi => ?_⟩
    · rw [← e] at hr
      exact (List.pairwise_map (R := fun a c : En => a.slot < c.slot) (f := fun x : Sl => x.e)).1 hr
    · intro x hx
      have : x.e ∈ p.l.map (·.e) := by
        rw [← e]
        exact List.mem_map_of_mem hx
      obtain ⟨y, hy, hyx⟩ := List.mem_map.1 this
      rw [← hyx]
      exact h.below y hy
    · obtain ⟨hv, hl⟩ := h.early hi
      refine ⟨hv, ?_⟩
      show (accL m s who p.l).1 = []
      rw [hl]
      rfl
theorem fit_prop {p : Pp} (h : Fit p) (c : Cm) : Fit (propP p c).1 := by
  unfold propP
  split
  · rename_i hi
    refine ⟨List.pairwise_append.2 ⟨h.rises, List.pairwise_singleton _ _, fun x hx y hy => ?_⟩, fun x hx => ?_, fun hi2 => ?_⟩
    · rw [List.mem_singleton.1 hy]
      exact h.below x hx
    · rcases List.mem_append.1 hx with hx | hx
      · have := h.below x hx
        show x.e.slot < p.next + 1
        omega
      · rw [List.mem_singleton.1 hx]
        show p.next < p.next + 1
        omega
    · rw [show p.is = false from hi2] at hi
      cases hi
  · exact h
theorem fit_cho {p : Pp} (h : Fit p) (s : Int) : Fit (choP p s) := by
  refine ⟨h.rises.filter _, fun x hx => h.below x (List.mem_filter.1 hx).1, fun hi => ?_⟩
  obtain ⟨hv, hl⟩ := h.early hi
  refine ⟨hv, ?_⟩
  show p.l.filter _ = []
  rw [hl]
  rfl
/-- A slot that is not open: nothing changes. -/
theorem accL_none {m s who : Int} : ∀ {l : List Sl}, (∀ x ∈ l, x.e.slot ≠ s) → accL m s who l = (l, false)
  | [], _ => rfl
  | x :: t, h => by
    unfold accL
    rw [if_pos (Or.inl (h x List.mem_cons_self)), accL_none (fun y hy => h y (List.mem_cons_of_mem _ hy))]
/-- The slots rise: the first of the slot decides alone. -/
def accOne (m who : Int) (x : Sl) : Sl × Bool :=
  if x.most = true ∨ who ∈ x.who then (x, false) else (⟨x.e, x.who ++ [who], decide (m ≤ (x.who.length : Int) + 1)⟩, decide (m ≤ (x.who.length : Int) + 1))
theorem accL_split {m s who : Int} {x : Sl} : ∀ {a b : List Sl}, (a ++ x :: b).Pairwise (fun a c => a.e.slot < c.e.slot) → x.e.slot = s → accL m s who (a ++ x :: b) = (a ++ (accOne m who x).1 :: b, (accOne m who x).2)
  | [], b, h, hx => by
    have hb := (List.pairwise_cons.1 h).1
    show accL m s who (x :: b) = ((accOne m who x).1 :: b, (accOne m who x).2)
    unfold accL accOne
    by_cases h2 : x.most = true ∨ who ∈ x.who
    · rw [if_pos (Or.inr h2), if_pos h2, accL_none (fun y hy => by have := hb y hy; omega)]
    · rw [if_neg (fun h3 => h3.elim (fun h4 => h4 hx) h2), if_neg h2]
  | y :: a, b, h, hx => by
    have h' := List.pairwise_cons.1 h
    have hy := h'.1 x (List.mem_append.2 (Or.inr List.mem_cons_self))
    show accL m s who (y :: (a ++ x :: b)) = (y :: (a ++ (accOne m who x).1 :: b), (accOne m who x).2)
    unfold accL
    rw [if_pos (Or.inl (by omega)), accL_split h'.2 hx]
end Go.Proofs.Ytmlgoecdefeapaa
/-
  The document's proposer: a slot's best command; an entry kept, if it is the best of its slot. No condition.
-/
namespace Go.Proofs.Ytmlgoecdefeapaa
open Go.RowKit

/-- A command's five cells. -/
abbrev cmA (c : Cm) : Array Value := #[.int .i64 c.kind, .int .i64 c.session, .int .i64 c.seq, .string c.name, .int .i64 c.n]
theorem sizeCmd : (Try.prog.info? 32).map (·.size) = some 5 := by kernel_rfl
theorem sizeEntP : (Try.prog.info? 38).map (·.size) = some 7 := by kernel_rfl
theorem bestE_take {l : List En} {s : Int} {k : Nat} (hk : k < l.length) (h : bestE (l.take k) s = none) : bestE (l.take (k + 1)) s = if l[k].slot = s then some l[k] else none := by
  unfold bestE at h ⊢
  rw [List.take_add_one, List.getElem?_eq_getElem hk, List.find?_append, h]
  by_cases he : l[k].slot = s
  · rw [if_pos he]
    simp [he]
  · rw [if_neg he]
    simp [he]
theorem bestE_front {l : List En} {s : Int} {k : Nat} {x : En} (h : bestE (l.take k) s = some x) : bestE l s = some x := by
  unfold bestE at h ⊢
  have : l = l.take k ++ l.drop k := (List.take_append_drop k l).symm
  rw [this, List.find?_append, h]
  rfl
set_option maxHeartbeats 3200000 in
set_option maxRecDepth 100000 in
theorem rbest_any {w : World} {X : Nat} {v : Value} {l : List En} (hc : w.cell? ⟨X, 4, none⟩ = some v) (hX : X < w.heap.size) (hr : RowAt enC w v l) (hl : l.length ≤ 536870912) (s : Int) : Calls Try.prog 32 #[.pointer (some ⟨X, 0, none⟩), .int .i64 s] w fun e w' => e = .returned (.agg (cmA (bestC l s))) ∧ Below w.heap.size w w' := by
  obtain ⟨W, hW⟩ : ∃ W, W = w.alloc (.cells (cmA Cm.zero) 32) := ⟨_, rfl⟩
  have bW : Below w.heap.size w W := by rw [hW]; exact (Below.refl _ w).alloc (Nat.le_refl _) _
  have hB : W.heap[w.heap.size]? = some (.cells (cmA Cm.zero) 32 (0, 0)) := by rw [hW]; exact heap_alloc_new w _
  have c4 : W.cell? ⟨X, 4, none⟩ = some v := by
    rw [← hc]
    unfold World.cell?
    rw [show W.heap[(⟨X, 4, none⟩ : Addr).block]? = w.heap[(⟨X, 4, none⟩ : Addr).block]? from bW.block X hX]
  have hr' := hr.fresh bW
  obtain ⟨va, vc, rfl⟩ := hr'.form
  have HR : Hid _ := hr'
  have HB : Hid _ := hB
  have BW : Hid _ := bW
  have HW : Hid (w.alloc (.cells #[.int .i64 0, .int .i64 0, .int .i64 0, .string ⟨#[]⟩, .int .i64 0] 32) = W) := hW.symm
  clear hW bW hB hr hr' hc
  go_enter Try.func32, Try.ntmps32
  go_upto_region 1 with fail
  rw [HW.out]
  go_wp2
  go_loopw [5] (fun i wr => ∃ k : Nat, k ≤ l.length ∧ i = .int .i64 (k : Int) ∧ bestE (l.take k) s = none ∧ wr = W) (fun i _ => l.length - (intOf i).toNat)
  case atStart => exact ⟨0, Nat.zero_le _, rfl, rfl, rfl⟩
  case round =>
    obtain ⟨k, hk, rfl, hn, rfl⟩ := hrel
    by_cases hkl : k < l.length
    · have q0 : decide ((k : Int) < (l.length : Int)) = true := decide_eq_true (by omega)
      obtain ⟨bk, off, cap', hvv, hcap, hbk, hc⟩ := HR.out.cells enC_len (by omega)
      injection hvv with e1 e2 e3
      subst e1 e3
      have hf := bestE_take hkl hn
      obtain ⟨x, hx⟩ : ∃ x, x = l[k] := ⟨_, rfl⟩
      have z0 := hc k hkl 0 (.int .i64 x.slot) (by decide) (by rw [hx]; rfl)
      have z2 := hc k hkl 2 (.int .i64 x.cmd.kind) (by decide) (by rw [hx]; rfl)
      have z3 := hc k hkl 3 (.int .i64 x.cmd.session) (by decide) (by rw [hx]; rfl)
      have z4 := hc k hkl 4 (.int .i64 x.cmd.seq) (by decide) (by rw [hx]; rfl)
      have z5 := hc k hkl 5 (.string x.cmd.name) (by decide) (by rw [hx]; rfl)
      have z6 := hc k hkl 6 (.int .i64 x.cmd.n) (by decide) (by rw [hx]; rfl)
      rw [Nat.add_zero] at z0
      rw [← hx] at hf
      clear hc hx hn
      by_cases hs : x.slot = s
      · rw [if_pos hs] at hf
        have HF : Hid (bestE l s = some x) := bestE_front hf
        have t1 : (x.slot == s) = true := by simpa using hs
        clear hf hs
        go_wp2_with (show wpList _ _ _ (⟨_, Op.store 32 _ _, _, _, _, _⟩ :: _) _ _; refine store_row_g rfl 32 _ _ rfl w.heap.size (cmA x.cmd) rfl rfl 32 _ HB.out sizeCmd rfl (by simp [Value.oneCell']) ?_; intro w6 h6 g6)
        refine bodyPost_ret (results_cell_row Try.results32 _ _ w.heap.size 32 _ (0, 0) _ rfl h6 Try.underlying32 rfl sizeCmd) rfl ?_
        refine ⟨?_, BW.out.grown g6 BW.out.size (fun k hk => by have := Option.some.inj hk; omega)⟩
        unfold bestC
        rw [HF.out]
        rfl
      · rw [if_neg hs] at hf
        have t1 : (x.slot == s) = false := by simpa using hs
        have HF : Hid _ := hf
        clear hf hs
        go_wp2
        go_roundw
        case rel => exact ⟨k + 1, hkl, by go_num, HF.out, trivial⟩
        case measure => simp [intOf]; omega
    · have q0 : decide ((k : Int) < (l.length : Int)) = false := decide_eq_false (by omega)
      have ht : l.take k = l := List.take_of_length_le (by omega)
      rw [ht] at hn
      have HF : Hid _ := hn
      clear ht hn
      go_wp2_with (show wpList _ _ _ (⟨_, Op.store 32 _ _, _, _, _, _⟩ :: _) _ _; refine store_row_g rfl 32 _ _ rfl w.heap.size (cmA Cm.zero) rfl rfl 32 _ HB.out sizeCmd rfl (by simp [Value.oneCell']) ?_; intro w6 h6 g6)
      refine bodyPost_ret (results_cell_row Try.results32 _ _ w.heap.size 32 _ (0, 0) _ rfl h6 Try.underlying32 rfl sizeCmd) rfl ?_
      refine ⟨?_, BW.out.grown g6 BW.out.size (fun k hk => by have := Option.some.inj hk; omega)⟩
      unfold bestC
      rw [HF.out]
      rfl
end Go.Proofs.Ytmlgoecdefeapaa
/-
  An entry stored into a row of one's own. No condition.
-/
namespace Go.Proofs.Ytmlgoecdefeapaa
open Go.RowKit

/-- A store of a struct in the midst of a block. -/
theorem wp_store_mid {P : Program} {o : Oper} {a : Act} {w : World} {K : Act → World → Prop} {Q : Exit → Act → World → Prop} (ty : TypeId) (x y : Operand) (ho : o.op = .store ty x y)
    (g s : Nat) (cells : Array Value) (hx : a.eval x = .pointer (some ⟨g, s, none⟩)) (hy : a.eval y = .agg cells)
    (t : TypeId) (old : Array Value) (hg : w.heap[g]? = some (.cells old t (0, 0))) (hi : (P.info? ty).map (·.size) = some cells.size)
    (hold : s + cells.size ≤ old.size) (h1 : cells.all (·.oneCell') = true)
    (h : K (a.put o.dst undef) (w.setRow g (old.toList.take s ++ cells.toList ++ old.toList.drop (s + cells.size)).toArray)) : o.wp P a w K Q := by
  have hr := run_storeCells_at P g s t cells.toList 0 old w hg (by simpa using hold) (fun v hv => (Array.all_eq_true_iff_forall_mem.1 h1) v (by simpa using hv))
  simp only [Nat.add_zero, Array.length_toList] at hr
  have hs : (storeVar ty ⟨g, s, none⟩ (.agg cells)).run P w = .ok () (w.setRow g (old.toList.take s ++ cells.toList ++ old.toList.drop (s + cells.size)).toArray) := by
    cases hq : P.info? ty with
    | none => simp [hq] at hi
    | some i =>
      have hz : cells.size = i.size := by simp [hq] at hi; omega
      have e0 : (storeVar ty ⟨g, s, none⟩ (.agg cells)).run P w = (storeCells ⟨g, s, none⟩ cells.toList 0).run P w := by simp [storeVar, sizeOf, typeInfo, hq, Value.cells, hz]
      rw [e0]
      exact hr
  unfold Oper.wp execOp
  simp only [ho, hx, hy, Instr.storeAt, Instr.sureAddr, Sem.run_bind, Sem.run_pure, Result.andThen_ok, hs]
  exact h
theorem rowL_set (es : List En) (e : En) (k : Nat) (hk : k < es.length) : rowL enC (es.set k e) = (rowL enC es).take (k * 7) ++ enC e ++ (rowL enC es).drop (k * 7 + 7) := by
  rw [List.set_eq_take_append_cons_drop, if_pos hk, rowL_append]
  have h1 : rowL enC (es.take k) = (rowL enC es).take (k * 7) := by
    have h2 : rowL enC es = rowL enC (es.take k) ++ rowL enC (es.drop k) := by rw [← rowL_append, List.take_append_drop]
    have h3 : (rowL enC (es.take k)).length = k * 7 := by rw [rowL_length enC_len, List.length_take]; omega
    rw [h2, ← h3, List.take_left]
  have h4 : rowL enC (es.drop (k + 1)) = (rowL enC es).drop (k * 7 + 7) := by
    rw [rowL_drop enC_len]
    congr 1
    omega
  have h5 : rowL enC (e :: es.drop (k + 1)) = enC e ++ rowL enC (es.drop (k + 1)) := by
    show List.flatMap _ _ = _
    rw [List.flatMap_cons]
    rfl
  rw [h1, h5, h4, List.append_assoc]
/-- An entry stored into a row of one's own. -/
theorem own_set {w : World} {base g n cap : Nat} {es : List En} (ho : OwnEn w base (.slice (some ⟨g, 0, none⟩) n cap) es) (k : Nat) (hk : k < es.length) (e : En) :
    ∃ cur, w.heap[g]? = some (.cells cur 38 (0, 0)) ∧ k * 7 + 7 ≤ cur.size ∧ OwnEn (w.setRow g (cur.toList.take (k * 7) ++ (enA e).toList ++ cur.toList.drop (k * 7 + (enA e).size)).toArray) base (.slice (some ⟨g, 0, none⟩) n cap) (es.set k e) := by
  rcases ho.2 with ⟨e1, _⟩ | ⟨g', cap', cur, e1, hbg, hb, hc, hm, hs, htk⟩
  · cases e1
  · injection e1 with e2 e3 e4
    injection e2 with e2
    injection e2 with e2
    subst e2 e4
    have h7 : k * 7 + 7 ≤ es.length * 7 := by omega
    have h8 : es.length * 7 ≤ cur.size := by rw [hs]; exact Nat.mul_le_mul_right _ hc
    refine ⟨cur, hb, by omega, ?_⟩
    refine ⟨rowL_length enC_len _, Or.inr ⟨g, cap, _, by rw [e3, List.length_set], hbg, setRow_heap w g cur _ _ _ hb, by rw [List.length_set]; exact hc, hm, ?_, ?_⟩⟩
    · simp only [List.size_toArray, List.length_append, List.length_take, List.length_drop, Array.length_toList, List.length_cons, List.length_nil]
      rw [← hs]
      omega
    · rw [List.length_set, rowL_set es e k hk, ← htk]
      show List.take (es.length * 7) (cur.toList.take (k * 7) ++ enC e ++ cur.toList.drop (k * 7 + 7)) = _
      have hlc : cur.toList.length = cur.size := rfl
      apply List.ext_getElem?
      intro j
      rw [List.getElem?_take]
      by_cases c1 : j < k * 7
      · rw [if_pos (by omega), List.append_assoc, List.getElem?_append_left (by rw [List.length_take]; omega), List.append_assoc, List.getElem?_append_left (by rw [List.length_take, List.length_take]; omega), List.take_take, List.getElem?_take, List.getElem?_take, if_pos c1, if_pos (by omega)]
      · by_cases c2 : j < k * 7 + 7
        · have e7 : (enC e).length = 7 := rfl
          rw [if_pos (by omega), List.append_assoc, List.getElem?_append_right (by rw [List.length_take]; omega), List.getElem?_append_left (by rw [List.length_take, e7]; omega), List.append_assoc, List.getElem?_append_right (by rw [List.length_take, List.length_take]; omega), List.getElem?_append_left (by rw [List.length_take, List.length_take, e7]; omega), List.length_take, List.length_take, List.length_take]
          congr 1
          omega
        · have e7 : (enC e).length = 7 := rfl
          have l1 : (cur.toList.take (k * 7) ++ enC e).length = k * 7 + 7 := by rw [List.length_append, List.length_take, e7]; omega
          have l2 : ((cur.toList.take (es.length * 7)).take (k * 7) ++ enC e).length = k * 7 + 7 := by rw [List.length_append, List.length_take, List.length_take, e7]; omega
          rw [List.getElem?_append_right (by omega), List.getElem?_append_right (by omega), l1, l2, List.getElem?_drop, List.getElem?_drop, List.getElem?_take]
          have : k * 7 + 7 + (j - (k * 7 + 7)) = j := by omega
          rw [this]
end Go.Proofs.Ytmlgoecdefeapaa
/-
  The document's proposer: an entry kept, if it is the best of its slot. The condition: at most 2^29 slots.
-/
namespace Go.Proofs.Ytmlgoecdefeapaa
open Go.RowKit

section
variable {P : Program} {md : Region.Mode} {Q : Exit → Act → World → Prop} {S : World → Prop} {fuel : Nat} {listed : Array Bool} {a : Act} {w : World} {l : List Oper}
theorem rd4_6 {o0 o1 o2 o3 o4 o5 o6 : Oper} (hr : Region.ready md (o0 :: o1 :: o2 :: o3 :: o4 :: o5 :: o6 :: l).toArray listed = [4, 6]) (hw0 : Region.wanted o4 (yielded (o0 :: o1 :: o2 :: o3 :: o4 :: o5 :: o6 :: l).toArray a.tmps) = true) (hw1 : Region.wanted o6 (yielded (o0 :: o1 :: o2 :: o3 :: o4 :: o5 :: o6 :: l).toArray a.tmps) = true)
    (h0 : ∀ K' : Act → World → Prop, Shut (∀ a w, S w → (S w → wpAnyH P md (o0 :: o1 :: o2 :: o3 :: o4 :: o5 :: o6 :: l).toArray Q S fuel (listed.setIfInBounds 4 true) a w) → K' a w) → Oper.wp P o4 a w K' Q)
    (h1 : ∀ K' : Act → World → Prop, Shut (∀ a w, S w → (S w → wpAnyH P md (o0 :: o1 :: o2 :: o3 :: o4 :: o5 :: o6 :: l).toArray Q S fuel (listed.setIfInBounds 6 true) a w) → K' a w) → Oper.wp P o6 a w K' Q) : wpAnyH P md (o0 :: o1 :: o2 :: o3 :: o4 :: o5 :: o6 :: l).toArray Q S (fuel + 1) listed a w :=
  wpAnyH_ready hr (by simp) (AllReadyH.cons (o := o4) rfl (fun K hK => by rw [if_pos hw0]; exact h0 K hK) (AllReadyH.cons (o := o6) rfl (fun K hK => by rw [if_pos hw1]; exact h1 K hK) AllReadyH.nil))
end

theorem insB_at (e : En) : ∀ (l : List En) (k : Nat) (hk : k < l.length), (∀ x ∈ l.take k, x.slot ≠ e.slot) → l[k].slot = e.slot → insB l e = if l[k].ballot < e.ballot then l.set k e else l
  | y :: t, 0, _, _, h => by
    unfold insB
    rw [if_pos (show y.slot = e.slot from h)]
    show _ = if y.ballot < e.ballot then e :: t else y :: t
    split <;> rfl
  | y :: t, k + 1, hk, hn, h => by
    have ih := insB_at e t k (by simpa using hk) (fun x hx => hn x (List.mem_cons_of_mem _ hx)) h
    unfold insB
    rw [if_neg (hn y List.mem_cons_self), ih]
    show _ = if (t[k]'(by simpa using hk)).ballot < e.ballot then y :: t.set k e else y :: t
    split <;> rfl
theorem insB_end (e : En) : ∀ l : List En, (∀ x ∈ l, x.slot ≠ e.slot) → insB l e = l ++ [e]
  | [], _ => rfl
  | y :: t, h => by
    unfold insB
    rw [if_neg (h y List.mem_cons_self), insB_end e t (fun x hx => h x (List.mem_cons_of_mem _ hx))]
    rfl
theorem boxE {w : World} {B : Nat} {e : En} (h : w.heap[B]? = some (.cells (enA e) 38 (0, 0))) (j : Nat) (u : Value) (hu : (enA e)[j]? = some u) : w.cell? ⟨B, j, none⟩ = some u := by
  simp only [World.cell?, h]
  simpa using hu
/-- A proposer's nine cells: its four rows a1 (who promised), a2 (the best), a3 (the values), a4 (what is open). -/
abbrev prA (p : Pp) (a1 a2 a3 a4 : Value) : Array Value := #[.int .i64 p.n, .int .i64 p.b, .int .i64 p.f, a1, a2, .bool p.is, a3, .int .i64 p.next, a4]
/-- What keeping one entry leaves: the row of the best in its block or in a new one; nothing else has turned. -/
structure KeepPost (w : World) (base X : Nat) (p : Pp) (a1 a2 a3 a4 : Value) (l : List En) (r : Ending) (w' : World) : Prop where
  ex : ∃ v', r = .returned (.tuple #[]) ∧ w'.heap[X]? = some (.cells (prA p a1 v' a3 a4) 44 (0, 0)) ∧ OwnEn w' base v' l ∧ (w'.os = w.os ∧ w'.tape = w.tape ∧ w'.output = w.output ∧ w.heap.size ≤ w'.heap.size) ∧ (∀ g, v'.ownBlock = some g → a2.ownBlock = some g ∨ w.heap.size ≤ g) ∧ ∀ b, b < w.heap.size → b ≠ X → a2.ownBlock ≠ some b → w'.heap[b]? = w.heap[b]?
/-- While an entry is kept: nothing that was there has turned as yet. -/
structure KpI (w wr : World) (base X : Nat) (p : Pp) (a1 a2 a3 a4 : Value) (e : En) : Prop where
  blk : wr.heap[X]? = some (.cells (prA p a1 a2 a3 a4) 44 (0, 0))
  own : OwnEn wr base a2 p.best
  box : wr.heap[w.heap.size]? = some (.cells (enA e) 38 (0, 0))
  bel : Below w.heap.size w wr
  xw : X < w.heap.size
  bw : base ≤ w.heap.size
  vw : ∀ g, a2.ownBlock = some g → g < w.heap.size
/-- The same, behind the turn. -/
structure KpD (w w' : World) (base X : Nat) (p : Pp) (a1 a2 a3 a4 : Value) (v' : Value) (l : List En) : Prop where
  blk : w'.heap[X]? = some (.cells (prA p a1 v' a3 a4) 44 (0, 0))
  own : OwnEn w' base v' l
  fr : w'.os = w.os ∧ w'.tape = w.tape ∧ w'.output = w.output ∧ w.heap.size ≤ w'.heap.size
  lies : ∀ g, v'.ownBlock = some g → a2.ownBlock = some g ∨ w.heap.size ≤ g
  rest : ∀ b, b < w.heap.size → b ≠ X → a2.ownBlock ≠ some b → w'.heap[b]? = w.heap[b]?
section
variable {w wr w' : World} {base X : Nat} {p : Pp} {a1 a2 a3 a4 v' : Value} {e : En} {l : List En}
theorem KpD.post (h : KpD w w' base X p a1 a2 a3 a4 v' l) : KeepPost w base X p a1 a2 a3 a4 l (.returned (.tuple #[])) w' := ⟨v', rfl, h.blk, h.own, h.fr, h.lies, h.rest⟩
theorem KpD.blk4 (h : KpD w w' base X p a1 a2 a3 a4 v' l) : w'.cell? ⟨X, 4, none⟩ = some v' := by simp [World.cell?, h.blk]
theorem KpI.fresh (h : KpI w wr base X p a1 a2 a3 a4 e) (b : Below wr.heap.size wr w') : KpI w w' base X p a1 a2 a3 a4 e :=
  ⟨(b.block _ (lt_of_block h.blk)).trans h.blk, own_keep h.own fun g hg => b.block g (h.own.lt g hg).2, (b.block _ (lt_of_block h.box)).trans h.box, bmm h.bel h.bel.size b, h.xw, h.bw, h.vw⟩
theorem KpI.drew (h : KpI w wr base X p a1 a2 a3 a4 e) : KpI w wr.drew base X p a1 a2 a3 a4 e := h.fresh ⟨rfl, rfl, rfl, Nat.le_refl _, fun _ _ => rfl⟩
theorem KpI.drewN (h : KpI w wr base X p a1 a2 a3 a4 e) (n : Nat) : KpI w (wr.drewN n) base X p a1 a2 a3 a4 e := h.fresh (below_drewN (Below.refl _ _) n)
theorem KpI.c2 (h : KpI w wr base X p a1 a2 a3 a4 e) : wr.cell? ⟨X, 2, none⟩ = some (.int .i64 p.f) := by simp [World.cell?, h.blk]
theorem KpI.c4 (h : KpI w wr base X p a1 a2 a3 a4 e) : wr.cell? ⟨X, 4, none⟩ = some a2 := by simp [World.cell?, h.blk]
theorem KpI.bs (h : KpI w wr base X p a1 a2 a3 a4 e) : base ≤ wr.heap.size := Nat.le_trans h.bw h.bel.size
theorem KpI.ne (h : KpI w wr base X p a1 a2 a3 a4 e) : a2.ownBlock ≠ some X := own_ne h.own h.blk (by decide)
/-- Nothing turned. -/
theorem KpI.same (h : KpI w wr base X p a1 a2 a3 a4 e) : KpD w wr base X p a1 a2 a3 a4 a2 p.best :=
  ⟨h.blk, h.own, ⟨h.bel.os, h.bel.tape, h.bel.output, h.bel.size⟩, fun _ hg => Or.inl hg, fun b hb _ _ => h.bel.block b hb⟩
/-- The entry was laid over another one. -/
theorem KpI.seted {g n c : Nat} (h : KpI w wr base X p a1 (.slice (some ⟨g, 0, none⟩) n c) a3 a4 e) (o : OwnEn w' base (.slice (some ⟨g, 0, none⟩) n c) l) (gr : wr.grownBy w' (some g)) :
    w'.heap[w.heap.size]? = some (.cells (enA e) 38 (0, 0)) ∧ KpD w w' base X p a1 (.slice (some ⟨g, 0, none⟩) n c) a3 a4 (.slice (some ⟨g, 0, none⟩) n c) l := by
  have gw := h.vw g rfl
  refine ⟨(gr.block _ (lt_of_block h.box) (fun e1 => by have := Option.some.inj e1; omega)).trans h.box, (gr.block X (lt_of_block h.blk) (fun e1 => h.ne e1.symm)).trans h.blk, o, ⟨gr.os.trans h.bel.os, gr.tape.trans h.bel.tape, gr.output.trans h.bel.output, Nat.le_trans h.bel.size gr.size⟩, fun _ hg => Or.inl hg, fun b hb _ h2 => ?_⟩
  rw [gr.block b (Nat.lt_of_lt_of_le hb h.bel.size) (fun e1 => h2 e1.symm), h.bel.block b hb]
/-- The row grew by the entry. -/
theorem KpI.grow (h : KpI w wr base X p a1 a2 a3 a4 e) {u6 : Value} (o6 : w'.ownsRow base 38 7 u6 (p.best.length + 1) (rowL enC p.best ++ rowL enC [e])) (a : Appended base wr w' a2 u6) :
    w'.cell? ⟨X, 4, none⟩ = some a2 ∧ w'.frozen? ⟨X, 4, none⟩ = false ∧ w'.heap[w.heap.size]? = some (.cells (enA e) 38 (0, 0)) ∧ (w'.setCell ⟨X, 4, none⟩ u6).heap[w.heap.size]? = some (.cells (enA e) 38 (0, 0)) ∧ KpD w (w'.setCell ⟨X, 4, none⟩ u6) base X p a1 a2 a3 a4 u6 (p.best ++ [e]) := by
  have xw := h.xw
  have k1 := (a.rest X (lt_of_block h.blk) (fun e1 => h.ne e1.symm)).trans h.blk
  have k2 := (a.rest w.heap.size (lt_of_block h.box) (fun e1 => by have := h.vw _ e1.symm; omega)).trans h.box
  have o7 : OwnEn w' base u6 (p.best ++ [e]) := by
    show w'.ownsRow _ _ _ _ _ _
    rw [rowL_append, List.length_append]
    exact o6
  have n1 : u6.ownBlock ≠ some X := own_ne o7 k1 (by decide)
  have hs : ∀ b, b ≠ X → (w'.setCell ⟨X, 4, none⟩ u6).heap[b]? = w'.heap[b]? := fun b hb => heap_setCell_other _ _ _ _ hb
  refine ⟨by simp [World.cell?, k1], by simp [World.frozen?, k1], k2, (hs _ (by omega)).trans k2, ?_, own_keep o7 fun g hg => hs g (fun e1 => n1 (by rw [hg, e1])), ⟨a.below.os.trans h.bel.os, a.below.tape.trans h.bel.tape, a.below.output.trans h.bel.output, ?_⟩, fun g hg => ?_, fun b hb h1 h2 => ?_⟩
  · rw [heap_setCell_same w' X 4 _ _ _ k1]
    rfl
  · have := a.below.size
    have := h.bel.size
    simp
    omega
  · rcases a.lies with h1 | h1
    · exact Or.inl (by rw [← h1]; exact hg)
    · rw [h1] at hg
      have := Option.some.inj hg
      exact Or.inr (by rw [← this]; exact h.bel.size)
  · rw [hs b h1, a.rest b (Nat.lt_of_lt_of_le hb h.bel.size) (fun e1 => h2 e1.symm), h.bel.block b hb]
set_option maxHeartbeats 6400000 in
set_option maxRecDepth 100000 in
theorem rkeep_any (hX : w.heap[X]? = some (.cells (prA p a1 a2 a3 a4) 44 (0, 0))) (ho : OwnEn w base a2 p.best) (hb : base ≤ w.heap.size) (hl : p.best.length ≤ 536870912) (e : En) : Calls Try.prog 31 #[.pointer (some ⟨X, 0, none⟩), .agg (enA e)] w (KeepPost w base X p a1 a2 a3 a4 (insP p.f p.best e)) := by
  obtain ⟨i0, hi, hz0, hz1, hz2⟩ := info_parts infoEn
  obtain ⟨W, hW⟩ : ∃ W, W = w.alloc (.cells (enA e) 38) := ⟨_, rfl⟩
  have iW : KpI w W base X p a1 a2 a3 a4 e := by
    have bW : Below w.heap.size w W := by rw [hW]; exact (Below.refl _ w).alloc (Nat.le_refl _) _
    exact ⟨(bW.block _ (lt_of_block hX)).trans hX, own_keep ho fun g hg => bW.block g (ho.lt g hg).2, by rw [hW]; exact heap_alloc_new w _, bW, lt_of_block hX, hb, fun g hg => (ho.lt g hg).2⟩
  obtain ⟨pv, qv, rfl⟩ := (OwnEn.row ho).form
  have IW : Hid _ := iW
  have HW : Hid (w.alloc (.cells (enA e) 38) = W) := hW.symm
  have c2 := iW.c2
  have ce0 := boxE iW.box 0 _ rfl
  clear hW iW hX ho
  by_cases hf : e.slot < p.f
  · have t1 : decide (e.slot < p.f) = true := decide_eq_true hf
    have HE : Hid (insP p.f p.best e = p.best) := by
      show (if _ then _ else _) = _
      rw [if_pos hf]
    clear hf
    go_enter Try.func31, Try.ntmps31
    go_upto_region 1 with fail
    rw [HW.out]
    go_quiet (fail)
    go_wp2
    go_returns
    rw [HE.out]
    exact (IW.out.drewN _).same.post
  · have t1 : decide (e.slot < p.f) = false := decide_eq_false hf
    have HI : Hid (insP p.f p.best e = insB p.best e) := by
      show (if _ then _ else _) = _
      rw [if_neg hf]
    clear hf
    go_enter Try.func31, Try.ntmps31
    go_upto_region 1 with fail
    rw [HW.out]
    go_quiet (fail)
    go_wp2
    go_loopw [4] (fun i wr => ∃ k : Nat, k ≤ p.best.length ∧ i = .int .i64 (k : Int) ∧ (∀ x ∈ p.best.take k, x.slot ≠ e.slot) ∧ KpI w wr base X p a1 (.slice pv p.best.length qv) a3 a4 e) (fun i _ => p.best.length - (intOf i).toNat)
    case atStart => exact ⟨0, Nat.zero_le _, rfl, fun x hx => by simp at hx, IW.out.drewN _⟩
    case round =>
      obtain ⟨k, hk, rfl, hn, hI⟩ := hrel
      have c4 := hI.c4
      by_cases hkl : k < p.best.length
      · have q0 : decide ((k : Int) < (p.best.length : Int)) = true := decide_eq_true (by omega)
        obtain ⟨g, off, cap', hvv, hcap, hbk, hc⟩ := (OwnEn.row hI.own).cells enC_len (by omega)
        have hoff : off = 0 := by
          rcases hI.own.2 with ⟨e1, _⟩ | ⟨g', cap, cur, e1, _⟩
          · rw [hvv] at e1
            simp at e1
          · rw [hvv] at e1
            injection e1 with e2 _ _
            injection e2 with e2
            injection e2 with _ e2 _
        subst hoff
        injection hvv with e1 e2 e3
        subst e1 e3
        clear e2
        obtain ⟨x, hx⟩ : ∃ x, x = p.best[k] := ⟨_, rfl⟩
        have z0 := hc k hkl 0 (.int .i64 x.slot) (by decide) (by rw [hx]; rfl)
        have z1 := hc k hkl 1 (.int .i64 x.ballot) (by decide) (by rw [hx]; rfl)
        rw [Nat.add_zero] at z0
        rw [Nat.zero_add] at z0 z1
        have ye0 := boxE hI.box 0 _ rfl
        have ye1 := boxE hI.box 1 _ rfl
        have I1 : Hid _ := hI
        clear hc hI
        by_cases hs : x.slot = e.slot
        · have t2 : (x.slot == e.slot) = true := by simpa using hs
          have hat := insB_at e p.best k hkl hn (by rw [← hx]; exact hs)
          rw [← hx] at hat
          by_cases hb2 : x.ballot < e.ballot
          · have t3 : decide (x.ballot < e.ballot) = true := decide_eq_true hb2
            rw [if_pos hb2] at hat
            have HE : Hid (insP p.f p.best e = p.best.set k e) := HI.out.trans hat
            clear hat hs hb2 hn hx
            go_wp2
            go_quiet (fail)
            obtain ⟨n1, hn1⟩ : ∃ n, n = nq := ⟨_, rfl⟩
            rw [← hn1]
            clear hn1
            go_wp2
            go_quiet (fail)
            obtain ⟨wr1, hwr1⟩ : ∃ y, y = (wr.drewN n1).drewN nq := ⟨_, rfl⟩
            have i2 : KpI w wr1 base X p a1 (.slice (some ⟨g, 0, none⟩) p.best.length qv) a3 a4 e := by rw [hwr1]; exact (I1.out.drewN _).drewN _
            rw [← hwr1]
            clear hwr1 c4 z0 z1 ye0 ye1 c2 ce0
            have d4 := i2.c4
            have de0 := boxE i2.box 0 _ rfl
            have de1 := boxE i2.box 1 _ rfl
            have de2 := boxE i2.box 2 _ rfl
            have de3 := boxE i2.box 3 _ rfl
            have de4 := boxE i2.box 4 _ rfl
            have de5 := boxE i2.box 5 _ rfl
            have de6 := boxE i2.box 6 _ rfl
            have I2 : Hid _ := i2
            clear i2
            go_wp2
            refine wp_region_held_drew (S := (fun y : World => y.cell? ⟨w.heap.size, 0, none⟩ = some (.int .i64 e.slot) ∧ y.cell? ⟨w.heap.size, 1, none⟩ = some (.int .i64 e.ballot) ∧ y.cell? ⟨w.heap.size, 2, none⟩ = some (.int .i64 e.cmd.kind) ∧ y.cell? ⟨w.heap.size, 3, none⟩ = some (.int .i64 e.cmd.session) ∧ y.cell? ⟨w.heap.size, 4, none⟩ = some (.int .i64 e.cmd.seq) ∧ y.cell? ⟨w.heap.size, 5, none⟩ = some (.string e.cmd.name) ∧ y.cell? ⟨w.heap.size, 6, none⟩ = some (.int .i64 e.cmd.n) ∧ y.cell? ⟨X, 4, none⟩ = some (.slice (some ⟨g, 0, none⟩) p.best.length qv))) (by kernel_rfl) ?_ (fun hHeld0 => ?_)
            · try dsimp only
              go_keep
            refine tk0 (.pointer (some ⟨X, 0, none⟩)) (by kernel_rfl) (by kernel_rfl) (by kernel_rfl) (fun _ _ _ h => h) rfl (fun w hSw => by (try dsimp only at hSw); obtain ⟨q0, q1, q2, q3, q4, q5, q6, s4⟩ := hSw; go_simp) (by assumption) ?_
            try simp only [Act.put, List.setIfInBounds_toArray, List.set_cons_zero, List.set_cons_succ]
            refine tk1 (.pointer (some ⟨X, 0, none⟩)) (by kernel_rfl) (by kernel_rfl) (by kernel_rfl) (fun _ _ _ h => h) rfl (fun w hSw => by (try dsimp only at hSw); obtain ⟨q0, q1, q2, q3, q4, q5, q6, s4⟩ := hSw; go_simp) (by assumption) ?_
            try simp only [Act.put, List.setIfInBounds_toArray, List.set_cons_zero, List.set_cons_succ]
            refine tk2 (.pointer (some ⟨X, 4, none⟩)) (by kernel_rfl) (by kernel_rfl) (by kernel_rfl) (fun _ _ _ h => h) rfl (fun w hSw => by (try dsimp only at hSw); obtain ⟨q0, q1, q2, q3, q4, q5, q6, s4⟩ := hSw; go_simp) (by assumption) ?_
            try simp only [Act.put, List.setIfInBounds_toArray, List.set_cons_zero, List.set_cons_succ]
            refine tk3 (.slice (some ⟨g, 0, none⟩) p.best.length qv) (by kernel_rfl) (by kernel_rfl) (by kernel_rfl) (fun _ _ _ h => h) rfl (fun w hSw => by (try dsimp only at hSw); obtain ⟨q0, q1, q2, q3, q4, q5, q6, s4⟩ := hSw; go_simp) (by assumption) ?_
            try simp only [Act.put, List.setIfInBounds_toArray, List.set_cons_zero, List.set_cons_succ]
            refine tk4 (.int .i64 (k : Int)) (by kernel_rfl) (by kernel_rfl) (by kernel_rfl) (fun _ _ _ h => h) rfl (fun w hSw => by (try dsimp only at hSw); obtain ⟨q0, q1, q2, q3, q4, q5, q6, s4⟩ := hSw; go_simp) (by assumption) ?_
            try simp only [Act.put, List.setIfInBounds_toArray, List.set_cons_zero, List.set_cons_succ]
            refine tk5 (.agg (enA e)) (by kernel_rfl) (by kernel_rfl) (by kernel_rfl) (fun _ _ _ h => h) rfl (fun w hSw => by (try dsimp only at hSw); obtain ⟨q0, q1, q2, q3, q4, q5, q6, s4⟩ := hSw; go_simp) (by assumption) ?_
            try simp only [Act.put, List.setIfInBounds_toArray, List.set_cons_zero, List.set_cons_succ]
            refine tk6 (.pointer (some ⟨g, k * 7, none⟩)) (by kernel_rfl) (by kernel_rfl) (by kernel_rfl) (fun _ _ _ h => h) rfl (fun w hSw => by (try dsimp only at hSw); obtain ⟨q0, q1, q2, q3, q4, q5, q6, s4⟩ := hSw; go_simp) (by assumption) ?_
            try simp only [Act.put, List.setIfInBounds_toArray, List.set_cons_zero, List.set_cons_succ]
            refine cl7 (by kernel_rfl) rfl (fun K hK => ?_)
            obtain ⟨cur, hcb, hcf, hco⟩ := own_set I2.out.drew.own k hkl e
            refine wp_store_mid 38 _ _ rfl g (k * 7) (enA e) rfl rfl 38 cur hcb sizeEntP hcf (by simp [Value.oneCell']) ?_
            have q6 := I2.out.drew.seted hco (grown_setRow_g _ g _)
            obtain ⟨w6, hw6⟩ : ∃ w6, w6 = wr1.drew.setRow g (cur.toList.take (k * 7) ++ (enA e).toList ++ cur.toList.drop (k * 7 + (enA e).size)).toArray := ⟨_, rfl⟩
            rw [← hw6] at q6
            rw [← hw6]
            obtain ⟨x6, p6⟩ := q6
            have P6 : Hid _ := p6
            have v4 := p6.blk4
            have ve0 := boxE x6 0 _ rfl
            have ve1 := boxE x6 1 _ rfl
            have ve2 := boxE x6 2 _ rfl
            have ve3 := boxE x6 3 _ rfl
            have ve4 := boxE x6 4 _ rfl
            have ve5 := boxE x6 5 _ rfl
            have ve6 := boxE x6 6 _ rfl
            clear x6 p6 hw6 hcb hcf hco
            refine hK.out _ _ ?_ (fun hHeld => ?_)
            · try dsimp only
              go_keep
            clear hK K
            refine wpAnyH_done (by kernel_rfl) ?_ _
            go_wp2
            go_returns
            rw [HE.out]
            exact P6.out.post
          · have t3 : decide (x.ballot < e.ballot) = false := decide_eq_false hb2
            rw [if_neg hb2] at hat
            have HE : Hid (insP p.f p.best e = p.best) := HI.out.trans hat
            clear hat hs hb2 hn hx
            go_wp2
            go_quiet (fail)
            go_wp2
            go_quiet (fail)
            go_wp2
            go_returns
            rw [HE.out]
            exact ((I1.out.drewN _).drewN _).same.post
        · have t2 : (x.slot == e.slot) = false := by simpa using hs
          have HN : Hid (∀ y ∈ p.best.take (k + 1), y.slot ≠ e.slot) := fun y hy => by
            rw [List.take_add_one, List.getElem?_eq_getElem hkl, ← hx] at hy
            rcases List.mem_append.1 hy with hy | hy
            · exact hn y hy
            · have hy2 : y = x := by simpa using hy
              rw [hy2]
              exact hs
          clear hs hn hx
          go_wp2
          go_quiet (fail)
          go_wp2
          go_roundw
          case rel => exact ⟨k + 1, hkl, by go_num, HN.out, I1.out.drewN _⟩
          case measure => simp [intOf]; omega
      · have q0 : decide ((k : Int) < (p.best.length : Int)) = false := decide_eq_false (by omega)
        rw [List.take_of_length_le (by omega)] at hn
        have HE : Hid (insP p.f p.best e = p.best ++ [e]) := HI.out.trans (insB_end e p.best hn)
        have I1 : Hid _ := hI
        have ye0 := boxE hI.box 0 _ rfl
        have ye1 := boxE hI.box 1 _ rfl
        have ye2 := boxE hI.box 2 _ rfl
        have ye3 := boxE hI.box 3 _ rfl
        have ye4 := boxE hI.box 4 _ rfl
        have ye5 := boxE hI.box 5 _ rfl
        have ye6 := boxE hI.box 6 _ rfl
        clear hn hI
        go_wp2
        refine wp_region_held_drew (S := (fun y : World => y.cell? ⟨w.heap.size, 0, none⟩ = some (.int .i64 e.slot) ∧ y.cell? ⟨w.heap.size, 1, none⟩ = some (.int .i64 e.ballot) ∧ y.cell? ⟨w.heap.size, 2, none⟩ = some (.int .i64 e.cmd.kind) ∧ y.cell? ⟨w.heap.size, 3, none⟩ = some (.int .i64 e.cmd.session) ∧ y.cell? ⟨w.heap.size, 4, none⟩ = some (.int .i64 e.cmd.seq) ∧ y.cell? ⟨w.heap.size, 5, none⟩ = some (.string e.cmd.name) ∧ y.cell? ⟨w.heap.size, 6, none⟩ = some (.int .i64 e.cmd.n))) (by kernel_rfl) ?_ (fun hHeld0 => ?_)
        · try dsimp only
          go_keep
        refine tk0 (.pointer (some ⟨X, 0, none⟩)) (by kernel_rfl) (by kernel_rfl) (by kernel_rfl) (fun _ _ _ h => h) rfl (fun w hSw => by (try dsimp only at hSw); obtain ⟨q0, q1, q2, q3, q4, q5, q6⟩ := hSw; go_simp) (by assumption) ?_
        try simp only [Act.put, List.setIfInBounds_toArray, List.set_cons_zero, List.set_cons_succ]
        refine tk1 (.pointer (some ⟨X, 0, none⟩)) (by kernel_rfl) (by kernel_rfl) (by kernel_rfl) (fun _ _ _ h => h) rfl (fun w hSw => by (try dsimp only at hSw); obtain ⟨q0, q1, q2, q3, q4, q5, q6⟩ := hSw; go_simp) (by assumption) ?_
        try simp only [Act.put, List.setIfInBounds_toArray, List.set_cons_zero, List.set_cons_succ]
        refine tk2 (.pointer (some ⟨X, 0, none⟩)) (by kernel_rfl) (by kernel_rfl) (by kernel_rfl) (fun _ _ _ h => h) rfl (fun w hSw => by (try dsimp only at hSw); obtain ⟨q0, q1, q2, q3, q4, q5, q6⟩ := hSw; go_simp) (by assumption) ?_
        try simp only [Act.put, List.setIfInBounds_toArray, List.set_cons_zero, List.set_cons_succ]
        refine tk3 (.pointer (some ⟨X, 4, none⟩)) (by kernel_rfl) (by kernel_rfl) (by kernel_rfl) (fun _ _ _ h => h) rfl (fun w hSw => by (try dsimp only at hSw); obtain ⟨q0, q1, q2, q3, q4, q5, q6⟩ := hSw; go_simp) (by assumption) ?_
        try simp only [Act.put, List.setIfInBounds_toArray, List.set_cons_zero, List.set_cons_succ]
        refine tk5 (.agg (enA e)) (by kernel_rfl) (by kernel_rfl) (by kernel_rfl) (fun _ _ _ h => h) rfl (fun w hSw => by (try dsimp only at hSw); obtain ⟨q0, q1, q2, q3, q4, q5, q6⟩ := hSw; go_simp) (by assumption) ?_
        try simp only [Act.put, List.setIfInBounds_toArray, List.set_cons_zero, List.set_cons_succ]
        refine rd4_6 (by kernel_rfl) rfl rfl (fun K hK => ?_) (fun K hK => ?_)
        · go_simp
          refine hK.out _ _ ?_ (fun hHeld => ?_)
          · try dsimp only
            go_keep
          clear hK K
          try simp only [Act.put, List.setIfInBounds_toArray, List.set_cons_zero, List.set_cons_succ]
          refine cl6 (by kernel_rfl) rfl (fun K hK => ?_)
          go_simp
          obtain ⟨y3, hy3⟩ : ∃ y, y = wr.drew.alloc (.cells (enA e) 38) := ⟨_, rfl⟩
          have i3 : KpI w y3 base X p a1 (.slice pv p.best.length qv) a3 a4 e := by rw [hy3]; exact I1.out.drew.fresh ((Below.refl _ _).alloc (Nat.le_refl _) _)
          have r3 : RowAt enC y3 (.slice (some ⟨wr.heap.size, 0, none⟩) 1 1) [e] := by rw [hy3]; exact RowAt.built (heap_alloc_new wr.drew _) rfl 1 rfl rfl
          rw [show (wr.alloc (.cells #[.int .i64 e.slot, .int .i64 e.ballot, .int .i64 e.cmd.kind, .int .i64 e.cmd.session, .int .i64 e.cmd.seq, .string e.cmd.name, .int .i64 e.cmd.n] 38)).drew = y3 from hy3.symm]
          have I3 : Hid _ := i3
          have R3 : Hid _ := r3
          have z4 := i3.c4
          have ze0 := boxE i3.box 0 _ rfl
          have ze1 := boxE i3.box 1 _ rfl
          have ze2 := boxE i3.box 2 _ rfl
          have ze3 := boxE i3.box 3 _ rfl
          have ze4 := boxE i3.box 4 _ rfl
          have ze5 := boxE i3.box 5 _ rfl
          have ze6 := boxE i3.box 6 _ rfl
          clear i3 r3 hy3
          refine hK.out _ _ ?_ (fun hHeld => ?_)
          · try dsimp only
            go_keep
          clear hK K
          try simp only [Act.put, List.setIfInBounds_toArray, List.set_cons_zero, List.set_cons_succ]
          refine cl7 (by kernel_rfl) rfl (fun K hK => ?_)
          refine wp_app_row (k := 7) (enc := enC) (l := [e]) (.tmp 54) (.tmp 56) 30 38 rfl i0 _ 64 Try.underlying30 hi hz0 hz1 hz2 rfl (by decide) enC_len enC_one (base := base) rfl rfl I3.out.own R3.out I3.out.bs (by simp; omega) (by simp; omega) ?_
          intro u6 w6 o6 a6
          obtain ⟨p6, n6, q6, rfl⟩ := own_form o6
          have j6 := I3.out.grow o6 a6
          have z6 := j6.1
          have f6 := j6.2.1
          have J6 : Hid _ := j6.2.2.2
          have ye0 := boxE j6.2.2.1 0 _ rfl
          have ye1 := boxE j6.2.2.1 1 _ rfl
          have ye2 := boxE j6.2.2.1 2 _ rfl
          have ye3 := boxE j6.2.2.1 3 _ rfl
          have ye4 := boxE j6.2.2.1 4 _ rfl
          have ye5 := boxE j6.2.2.1 5 _ rfl
          have ye6 := boxE j6.2.2.1 6 _ rfl
          clear o6 a6 j6
          refine hK.out _ _ ?_ (fun hHeld => ?_)
          · try dsimp only
            go_keep
          clear hK K
          try simp only [Act.put, List.setIfInBounds_toArray, List.set_cons_zero, List.set_cons_succ]
          refine tk8 (.pointer (some ⟨X, 0, none⟩)) (by kernel_rfl) (by kernel_rfl) (by kernel_rfl) (fun _ _ _ h => h) rfl (fun w hSw => by (try dsimp only at hSw); obtain ⟨q0, q1, q2, q3, q4, q5, q6⟩ := hSw; go_simp) (by assumption) ?_
          try simp only [Act.put, List.setIfInBounds_toArray, List.set_cons_zero, List.set_cons_succ]
          refine tk9 (.pointer (some ⟨X, 4, none⟩)) (by kernel_rfl) (by kernel_rfl) (by kernel_rfl) (fun _ _ _ h => h) rfl (fun w hSw => by (try dsimp only at hSw); obtain ⟨q0, q1, q2, q3, q4, q5, q6⟩ := hSw; go_simp) (by assumption) ?_
          try simp only [Act.put, List.setIfInBounds_toArray, List.set_cons_zero, List.set_cons_succ]
          refine cl10 (by kernel_rfl) rfl (fun K hK => ?_)
          go_simp
          obtain ⟨x7, p7⟩ := J6.out
          obtain ⟨w7, hw7⟩ : ∃ w7, w7 = w6.setCell ⟨X, 4, none⟩ (.slice p6 n6 q6) := ⟨_, rfl⟩
          rw [← hw7] at x7 p7
          rw [← hw7]
          have P7 : Hid _ := p7
          have xe0 := boxE x7 0 _ rfl
          have xe1 := boxE x7 1 _ rfl
          have xe2 := boxE x7 2 _ rfl
          have xe3 := boxE x7 3 _ rfl
          have xe4 := boxE x7 4 _ rfl
          have xe5 := boxE x7 5 _ rfl
          have xe6 := boxE x7 6 _ rfl
          clear x7 p7 hw7
          refine hK.out _ _ ?_ (fun hHeld => ?_)
          · try dsimp only
            go_keep
          clear hK K
          try simp only [Act.put, List.setIfInBounds_toArray, List.set_cons_zero, List.set_cons_succ]
          refine wpAnyH_done (by kernel_rfl) ?_ _
          go_wp2
          go_returns
          rw [HE.out]
          exact P7.out.post
        · go_simp
          obtain ⟨y3, hy3⟩ : ∃ y, y = wr.drew.alloc (.cells (enA e) 38) := ⟨_, rfl⟩
          have i3 : KpI w y3 base X p a1 (.slice pv p.best.length qv) a3 a4 e := by rw [hy3]; exact I1.out.drew.fresh ((Below.refl _ _).alloc (Nat.le_refl _) _)
          have r3 : RowAt enC y3 (.slice (some ⟨wr.heap.size, 0, none⟩) 1 1) [e] := by rw [hy3]; exact RowAt.built (heap_alloc_new wr.drew _) rfl 1 rfl rfl
          rw [show (wr.alloc (.cells #[.int .i64 e.slot, .int .i64 e.ballot, .int .i64 e.cmd.kind, .int .i64 e.cmd.session, .int .i64 e.cmd.seq, .string e.cmd.name, .int .i64 e.cmd.n] 38)).drew = y3 from hy3.symm]
          have I3 : Hid _ := i3
          have R3 : Hid _ := r3
          have z4 := i3.c4
          have ze0 := boxE i3.box 0 _ rfl
          have ze1 := boxE i3.box 1 _ rfl
          have ze2 := boxE i3.box 2 _ rfl
          have ze3 := boxE i3.box 3 _ rfl
          have ze4 := boxE i3.box 4 _ rfl
          have ze5 := boxE i3.box 5 _ rfl
          have ze6 := boxE i3.box 6 _ rfl
          clear i3 r3 hy3
          refine hK.out _ _ ?_ (fun hHeld => ?_)
          · try dsimp only
            go_keep
          clear hK K
          try simp only [Act.put, List.setIfInBounds_toArray, List.set_cons_zero, List.set_cons_succ]
          refine cl4 (by kernel_rfl) rfl (fun K hK => ?_)
          go_simp
          refine hK.out _ _ ?_ (fun hHeld => ?_)
          · try dsimp only
            go_keep
          clear hK K
          try simp only [Act.put, List.setIfInBounds_toArray, List.set_cons_zero, List.set_cons_succ]
          refine cl7 (by kernel_rfl) rfl (fun K hK => ?_)
          refine wp_app_row (k := 7) (enc := enC) (l := [e]) (.tmp 54) (.tmp 56) 30 38 rfl i0 _ 64 Try.underlying30 hi hz0 hz1 hz2 rfl (by decide) enC_len enC_one (base := base) rfl rfl I3.out.own R3.out I3.out.bs (by simp; omega) (by simp; omega) ?_
          intro u6 w6 o6 a6
          obtain ⟨p6, n6, q6, rfl⟩ := own_form o6
          have j6 := I3.out.grow o6 a6
          have z6 := j6.1
          have f6 := j6.2.1
          have J6 : Hid _ := j6.2.2.2
          have ye0 := boxE j6.2.2.1 0 _ rfl
          have ye1 := boxE j6.2.2.1 1 _ rfl
          have ye2 := boxE j6.2.2.1 2 _ rfl
          have ye3 := boxE j6.2.2.1 3 _ rfl
          have ye4 := boxE j6.2.2.1 4 _ rfl
          have ye5 := boxE j6.2.2.1 5 _ rfl
          have ye6 := boxE j6.2.2.1 6 _ rfl
          clear o6 a6 j6
          refine hK.out _ _ ?_ (fun hHeld => ?_)
          · try dsimp only
            go_keep
          clear hK K
          try simp only [Act.put, List.setIfInBounds_toArray, List.set_cons_zero, List.set_cons_succ]
          refine tk8 (.pointer (some ⟨X, 0, none⟩)) (by kernel_rfl) (by kernel_rfl) (by kernel_rfl) (fun _ _ _ h => h) rfl (fun w hSw => by (try dsimp only at hSw); obtain ⟨q0, q1, q2, q3, q4, q5, q6⟩ := hSw; go_simp) (by assumption) ?_
          try simp only [Act.put, List.setIfInBounds_toArray, List.set_cons_zero, List.set_cons_succ]
          refine tk9 (.pointer (some ⟨X, 4, none⟩)) (by kernel_rfl) (by kernel_rfl) (by kernel_rfl) (fun _ _ _ h => h) rfl (fun w hSw => by (try dsimp only at hSw); obtain ⟨q0, q1, q2, q3, q4, q5, q6⟩ := hSw; go_simp) (by assumption) ?_
          try simp only [Act.put, List.setIfInBounds_toArray, List.set_cons_zero, List.set_cons_succ]
          refine cl10 (by kernel_rfl) rfl (fun K hK => ?_)
          go_simp
          obtain ⟨x7, p7⟩ := J6.out
          obtain ⟨w7, hw7⟩ : ∃ w7, w7 = w6.setCell ⟨X, 4, none⟩ (.slice p6 n6 q6) := ⟨_, rfl⟩
          rw [← hw7] at x7 p7
          rw [← hw7]
          have P7 : Hid _ := p7
          have xe0 := boxE x7 0 _ rfl
          have xe1 := boxE x7 1 _ rfl
          have xe2 := boxE x7 2 _ rfl
          have xe3 := boxE x7 3 _ rfl
          have xe4 := boxE x7 4 _ rfl
          have xe5 := boxE x7 5 _ rfl
          have xe6 := boxE x7 6 _ rfl
          clear x7 p7 hw7
          refine hK.out _ _ ?_ (fun hHeld => ?_)
          · try dsimp only
            go_keep
          clear hK K
          try simp only [Act.put, List.setIfInBounds_toArray, List.set_cons_zero, List.set_cons_succ]
          refine wpAnyH_done (by kernel_rfl) ?_ _
          go_wp2
          go_returns
          rw [HE.out]
          exact P7.out.post
end
end Go.Proofs.Ytmlgoecdefeapaa
/-
  The document's proposer: what is open, a slot that is open no more. The condition: at most 2^29 open slots.
-/
namespace Go.Proofs.Ytmlgoecdefeapaa
open Go.RowKit

/-- An open slot's nine cells; the row of those that accepted it lies where the second part says. -/
abbrev Sv : Type := Sl × (Option Addr × Nat × Nat)
def svW (x : Sv) : Value := .slice x.2.1 x.2.2.1 x.2.2.2
def svC (x : Sv) : List Value := [.int .i64 x.1.e.slot, .int .i64 x.1.e.ballot, .int .i64 x.1.e.cmd.kind, .int .i64 x.1.e.cmd.session, .int .i64 x.1.e.cmd.seq, .string x.1.e.cmd.name, .int .i64 x.1.e.cmd.n, .slice x.2.1 x.2.2.1 x.2.2.2, .bool x.1.most]
theorem svC_len (x : Sv) : (svC x).length = 9 := rfl
theorem svC_one : ∀ x : Sv, ∀ u ∈ svC x, u.oneCell' = true := by
  intro x u hu
  simp only [svC, List.mem_cons, List.not_mem_nil, or_false] at hu
  rcases hu with rfl | rfl | rfl | rfl | rfl | rfl | rfl | rfl | rfl <;> rfl
theorem infoSv : (Try.prog.info? 69).map (fun i => (i.zero, i.size, i.bytes)) = some (some (.agg #[.int .i64 0, .int .i64 0, .int .i64 0, .int .i64 0, .int .i64 0, .string ⟨#[]⟩, .int .i64 0, .slice none 0 0, .bool false]), 9, 96) := by kernel_rfl
/-- A row of open slots of the call's own. -/
abbrev OwnSv (w : World) (base : Nat) (v : Value) (l : List Sv) : Prop := w.ownsRow base 69 9 v l.length (rowL svC l)
theorem OwnSv.row {w : World} {base : Nat} {v : Value} {l : List Sv} (h : OwnSv w base v l) : RowAt svC w v l := RowAt.own svC_len h
theorem cell_below {w y : World} (b : Below w.heap.size w y) {X i : Nat} (hX : X < w.heap.size) {v : Value} (hc : w.cell? ⟨X, i, none⟩ = some v) : y.cell? ⟨X, i, none⟩ = some v := by
  rw [← hc]
  unfold World.cell?
  rw [show y.heap[(⟨X, i, none⟩ : Addr).block]? = w.heap[(⟨X, i, none⟩ : Addr).block]? from b.block X hX]
section
variable {w : World} {X : Nat} {v : Value} {l : List Sv}
set_option maxHeartbeats 6400000 in
set_option maxRecDepth 100000 in
theorem ropen_any (hc : w.cell? ⟨X, 8, none⟩ = some v) (hX : X < w.heap.size) (hr : RowAt svC w v l) (hl : l.length ≤ 536870912) : Calls Try.prog 23 #[.pointer (some ⟨X, 0, none⟩)] w fun e w' => ∃ u, e = .returned u ∧ OwnEn w' w.heap.size u (l.map fun x => x.1.e) ∧ Below w.heap.size w w' := by
  obtain ⟨i0, hi, hz0, hz1, hz2⟩ := info_parts infoEn
  obtain ⟨va, vc, rfl⟩ := hr.form
  have HR : Hid (∀ y, Below w.heap.size w y → RowAt svC y (.slice va l.length vc) l) := fun y b => hr.fresh b
  have HC : Hid (∀ y, Below w.heap.size w y → y.cell? ⟨X, 8, none⟩ = some (.slice va l.length vc)) := fun y b => cell_below b hX hc
  clear hc hr
  go_enter Try.func23, Try.ntmps23
  go_wp2
  go_loopw [3, 4] (fun u i wr => ∃ k : Nat, k ≤ l.length ∧ i = .int .i64 (k : Int) ∧ OwnEn wr w.heap.size u ((l.take k).map fun x => x.1.e) ∧ Below w.heap.size w wr) (fun _ i _ => l.length - (intOf i).toNat)
  case atStart => exact ⟨0, Nat.zero_le _, rfl, World.ownsRow_nil _ _ _ _, Below.refl _ _⟩
  case round =>
    obtain ⟨k, hk, rfl, ho, br⟩ := hrel
    obtain ⟨p5, n5, q5, rfl⟩ := own_form ho
    have c8 := HC.out wr br
    by_cases hkl : k < l.length
    · have q0 : decide ((k : Int) < (l.length : Int)) = true := decide_eq_true (by omega)
      obtain ⟨bk, off, cap', hvv, hcap, hbk, hc⟩ := (HR.out wr br).cells svC_len (by omega)
      injection hvv with e1 e2 e3
      subst e1 e3
      obtain ⟨x, hx⟩ : ∃ x, x = l[k] := ⟨_, rfl⟩
      have hf : (l.take (k + 1)).map (fun x => x.1.e) = (l.take k).map (fun x => x.1.e) ++ [x.1.e] := by
        rw [List.take_add_one, List.getElem?_eq_getElem hkl, ← hx, List.map_append]
        rfl
      have z0 := hc k hkl 0 (.int .i64 x.1.e.slot) (by decide) (by rw [hx]; rfl)
      have z1 := hc k hkl 1 (.int .i64 x.1.e.ballot) (by decide) (by rw [hx]; rfl)
      have z2 := hc k hkl 2 (.int .i64 x.1.e.cmd.kind) (by decide) (by rw [hx]; rfl)
      have z3 := hc k hkl 3 (.int .i64 x.1.e.cmd.session) (by decide) (by rw [hx]; rfl)
      have z4 := hc k hkl 4 (.int .i64 x.1.e.cmd.seq) (by decide) (by rw [hx]; rfl)
      have z5 := hc k hkl 5 (.string x.1.e.cmd.name) (by decide) (by rw [hx]; rfl)
      have z6 := hc k hkl 6 (.int .i64 x.1.e.cmd.n) (by decide) (by rw [hx]; rfl)
      rw [Nat.add_zero] at z0
      have HF : Hid _ := hf
      have HO : Hid _ := ho
      have BR : Hid _ := br
      have sz := br.size
      have ln : ((l.take k).map fun x => x.1.e).length ≤ 536870912 := by rw [List.length_map, List.length_take]; omega
      clear hc hx ho br hf
      go_wp2_with (at_builtin; refine wpList_app_row (k := 7) (enc := enC) (l := [x.1.e]) rfl (.tmp 14) (.tmp 23) 30 38 rfl i0 _ 64 Try.underlying30 hi hz0 hz1 hz2 rfl (by decide) enC_len enC_one (base := w.heap.size) rfl rfl (World.ownsRow.alloc HO.out _) (RowAt.built (heap_alloc_new _ _) rfl 1 rfl rfl) (by simp; omega) (by simp only [List.length_singleton]; omega) (by simp only [List.length_singleton]; omega) ?_; intro u6 w6 o6 a6; obtain ⟨p6, n6, q6, rfl⟩ := own_form o6; have O6 : Hid _ := o6; have B6 : Hid (Below w.heap.size w w6) := (BR.out.alloc BR.out.size _).trans (a6.below); clear o6 a6)
      go_roundw
      case rel =>
        refine ⟨k + 1, hkl, by go_num, ?_, B6.out⟩
        rw [HF.out]
        show World.ownsRow _ _ _ _ _ _ _
        rw [rowL_append, List.length_append]
        exact O6.out
      case measure => simp [intOf]; omega
    · have q0 : decide ((k : Int) < (l.length : Int)) = false := decide_eq_false (by omega)
      rw [List.take_of_length_le (by omega)] at ho
      have HO : Hid _ := ho
      have BR : Hid _ := br
      clear ho br
      go_wp2
      go_ret
      exact ⟨_, rfl, HO.out, BR.out⟩
theorem filter_take (s : Int) (k : Nat) (hk : k < l.length) : (l.take (k + 1)).filter (fun x => decide (x.1.e.slot ≠ s)) = (l.take k).filter (fun x => decide (x.1.e.slot ≠ s)) ++ if l[k].1.e.slot = s then [] else [l[k]] := by
  rw [List.take_add_one, List.getElem?_eq_getElem hk, List.filter_append]
  congr 1
  by_cases h : l[k].1.e.slot = s
  · rw [if_pos h]
    simp [h]
  · rw [if_neg h]
    simp [h]
set_option maxHeartbeats 6400000 in
set_option maxRecDepth 100000 in
theorem rchosen_any {T : TypeId} {p : Pp} {a1 a2 a3 : Value} (hb : w.heap[X]? = some (.cells (prA p a1 a2 a3 v) T (0, 0))) (hr : RowAt svC w v l) (hl : l.length ≤ 536870912) (s : Int) : Calls Try.prog 18 #[.pointer (some ⟨X, 0, none⟩), .int .i64 s] w fun e w' => ∃ u y, e = .returned (.tuple #[]) ∧ OwnSv y w.heap.size u (l.filter fun x => decide (x.1.e.slot ≠ s)) ∧ Below w.heap.size w y ∧ w' = y.setCell ⟨X, 8, none⟩ u := by
  obtain ⟨i0, hi, hz0, hz1, hz2⟩ := info_parts infoSv
  obtain ⟨va, vc, rfl⟩ := hr.form
  have hX := lt_of_block hb
  have HR : Hid (∀ y, Below w.heap.size w y → RowAt svC y (.slice va l.length vc) l) := fun y b => hr.fresh b
  have HC : Hid (∀ y, Below w.heap.size w y → y.cell? ⟨X, 8, none⟩ = some (.slice va l.length vc) ∧ y.frozen? ⟨X, 8, none⟩ = false) := fun y b => by
    have h := (b.block X hX).trans hb
    exact ⟨by simp [World.cell?, h], by simp [World.frozen?, h]⟩
  clear hb hr
  go_enter Try.func18, Try.ntmps18
  go_wp2
  go_loopw [4, 5] (fun u i wr => ∃ k : Nat, k ≤ l.length ∧ i = .int .i64 (k : Int) ∧ OwnSv wr w.heap.size u ((l.take k).filter fun x => decide (x.1.e.slot ≠ s)) ∧ Below w.heap.size w wr) (fun _ i _ => l.length - (intOf i).toNat)
  case atStart => exact ⟨0, Nat.zero_le _, rfl, World.ownsRow_nil _ _ _ _, Below.refl _ _⟩
  case round =>
    obtain ⟨k, hk, rfl, ho, br⟩ := hrel
    obtain ⟨p5, n5, q5, rfl⟩ := own_form ho
    obtain ⟨c8, f8⟩ := HC.out wr br
    by_cases hkl : k < l.length
    · have q0 : decide ((k : Int) < (l.length : Int)) = true := decide_eq_true (by omega)
      obtain ⟨bk, off, cap', hvv, hcap, hbk, hc⟩ := (HR.out wr br).cells svC_len (by omega)
      injection hvv with e1 e2 e3
      subst e1 e3
      have hf := filter_take s k hkl
      obtain ⟨x, hx⟩ : ∃ x, x = l[k] := ⟨_, rfl⟩
      rw [← hx] at hf
      have z0 := hc k hkl 0 (.int .i64 x.1.e.slot) (by decide) (by rw [hx]; rfl)
      have z1 := hc k hkl 1 (.int .i64 x.1.e.ballot) (by decide) (by rw [hx]; rfl)
      have z2 := hc k hkl 2 (.int .i64 x.1.e.cmd.kind) (by decide) (by rw [hx]; rfl)
      have z3 := hc k hkl 3 (.int .i64 x.1.e.cmd.session) (by decide) (by rw [hx]; rfl)
      have z4 := hc k hkl 4 (.int .i64 x.1.e.cmd.seq) (by decide) (by rw [hx]; rfl)
      have z5 := hc k hkl 5 (.string x.1.e.cmd.name) (by decide) (by rw [hx]; rfl)
      have z6 := hc k hkl 6 (.int .i64 x.1.e.cmd.n) (by decide) (by rw [hx]; rfl)
      have z7 := hc k hkl 7 (.slice x.2.1 x.2.2.1 x.2.2.2) (by decide) (by rw [hx]; rfl)
      have z8 := hc k hkl 8 (.bool x.1.most) (by decide) (by rw [hx]; rfl)
      rw [Nat.add_zero] at z0
      have HO : Hid _ := ho
      have BR : Hid _ := br
      have sz := br.size
      have ln : ((l.take k).filter fun x => decide (x.1.e.slot ≠ s)).length ≤ 536870912 := by
        have := List.length_filter_le (fun x : Sv => decide (x.1.e.slot ≠ s)) (l.take k)
        rw [List.length_take] at this
        omega
      clear hc hx ho br
      by_cases hs : x.1.e.slot = s
      · rw [if_pos hs, List.append_nil] at hf
        have t1 : (x.1.e.slot != s) = false := by simpa using hs
        have HF : Hid _ := hf
        clear hf hs
        go_wp2
        go_roundw
        case rel => exact ⟨k + 1, hkl, by go_num, by rw [HF.out]; exact HO.out, BR.out⟩
        case measure => simp [intOf]; omega
      · rw [if_neg hs] at hf
        have t1 : (x.1.e.slot != s) = true := by simpa using hs
        have HF : Hid _ := hf
        clear hf hs
        go_wp2_with (at_builtin; refine wpList_app_row (k := 9) (enc := svC) (l := [x]) rfl (.tmp 26) (.tmp 34) 42 69 rfl i0 _ 96 Try.underlying42 hi hz0 hz1 hz2 rfl (by decide) svC_len svC_one (base := w.heap.size) rfl rfl (World.ownsRow.alloc HO.out _) (RowAt.built (heap_alloc_new _ _) rfl 1 rfl rfl) (by simp; omega) (by simp only [List.length_singleton]; omega) (by simp only [List.length_singleton]; omega) ?_; intro u6 w6 o6 a6; obtain ⟨p6, n6, q6, rfl⟩ := own_form o6; have O6 : Hid _ := o6; have B6 : Hid (Below w.heap.size w w6) := (BR.out.alloc BR.out.size _).trans (a6.below); clear o6 a6)
        go_roundw
        case rel =>
          refine ⟨k + 1, hkl, by go_num, ?_, B6.out⟩
          rw [HF.out]
          show World.ownsRow _ _ _ _ _ _ _
          rw [rowL_append, List.length_append]
          exact O6.out
        case measure => simp [intOf]; omega
    · have q0 : decide ((k : Int) < (l.length : Int)) = false := decide_eq_false (by omega)
      rw [List.take_of_length_le (by omega)] at ho
      have HO : Hid _ := ho
      have BR : Hid _ := br
      clear ho br
      go_wp2
      go_returns
      exact ⟨_, _, rfl, HO.out, BR.out, rfl⟩
end
end Go.Proofs.Ytmlgoecdefeapaa
/-
  The document's proposer: a new one, a command's entry. The conditions: at most 2^29 open slots; the next slot lies below 2^62.
-/
namespace Go.Proofs.Ytmlgoecdefeapaa
open Go.RowKit

section
variable {P : Program} {md : Region.Mode} {Q : Exit → Act → World → Prop} {S : World → Prop} {fuel : Nat} {listed : Array Bool} {a : Act} {w : World} {l : List Oper}
theorem rd4_7 {o0 o1 o2 o3 o4 o5 o6 o7 : Oper} (hr : Region.ready md (o0 :: o1 :: o2 :: o3 :: o4 :: o5 :: o6 :: o7 :: l).toArray listed = [4, 7]) (hw0 : Region.wanted o4 (yielded (o0 :: o1 :: o2 :: o3 :: o4 :: o5 :: o6 :: o7 :: l).toArray a.tmps) = true) (hw1 : Region.wanted o7 (yielded (o0 :: o1 :: o2 :: o3 :: o4 :: o5 :: o6 :: o7 :: l).toArray a.tmps) = true)
    (h0 : ∀ K' : Act → World → Prop, Shut (∀ a w, S w → (S w → wpAnyH P md (o0 :: o1 :: o2 :: o3 :: o4 :: o5 :: o6 :: o7 :: l).toArray Q S fuel (listed.setIfInBounds 4 true) a w) → K' a w) → Oper.wp P o4 a w K' Q)
    (h1 : ∀ K' : Act → World → Prop, Shut (∀ a w, S w → (S w → wpAnyH P md (o0 :: o1 :: o2 :: o3 :: o4 :: o5 :: o6 :: o7 :: l).toArray Q S fuel (listed.setIfInBounds 7 true) a w) → K' a w) → Oper.wp P o7 a w K' Q) : wpAnyH P md (o0 :: o1 :: o2 :: o3 :: o4 :: o5 :: o6 :: o7 :: l).toArray Q S (fuel + 1) listed a w :=
  wpAnyH_ready hr (by simp) (AllReadyH.cons (o := o4) rfl (fun K hK => by rw [if_pos hw0]; exact h0 K hK) (AllReadyH.cons (o := o7) rfl (fun K hK => by rw [if_pos hw1]; exact h1 K hK) AllReadyH.nil))
end

theorem boxC {w : World} {B : Nat} {c : Cm} (h : w.heap[B]? = some (.cells (cmA c) 32 (0, 0))) (j : Nat) (u : Value) (hu : (cmA c)[j]? = some u) : w.cell? ⟨B, j, none⟩ = some u := by
  simp only [World.cell?, h]
  simpa using hu
def upP (p : Pp) : Pp := ⟨p.n, p.b, p.f, p.who, p.best, p.is, p.vals, p.next + 1, p.l⟩
/-- The open slots with their rows behind a command. -/
def propL (p : Pp) (c : Cm) (l : List Sv) : List Sv := if p.is = true then l ++ [(slOf (nextE p c), (none, 0, 0))] else l
structure PropPost (w : World) (base X : Nat) (p : Pp) (a1 a2 a3 a4 : Value) (l : List Sv) (x : En) (r : Ending) (w' : World) : Prop where
  ex : ∃ v', r = .returned (.agg (enA x)) ∧ w'.heap[X]? = some (.cells (prA p a1 a2 a3 v') 44 (0, 0)) ∧ OwnSv w' base v' l ∧ (w'.os = w.os ∧ w'.tape = w.tape ∧ w'.output = w.output ∧ w.heap.size ≤ w'.heap.size) ∧ (∀ g, v'.ownBlock = some g → a4.ownBlock = some g ∨ w.heap.size ≤ g) ∧ ∀ b, b < w.heap.size → b ≠ X → a4.ownBlock ≠ some b → w'.heap[b]? = w.heap[b]?
/-- Meanwhile: only the block itself has turned, and what is new. -/
structure PoI (w wr : World) (base X : Nat) (p : Pp) (a1 a2 a3 a4 : Value) (l : List Sv) : Prop where
  blk : wr.heap[X]? = some (.cells (prA p a1 a2 a3 a4) 44 (0, 0))
  own : OwnSv wr base a4 l
  res : wr.heap[w.heap.size + 1]? = some (.cells (enA En.zero) 38 (0, 0))
  fr : wr.os = w.os ∧ wr.tape = w.tape ∧ wr.output = w.output ∧ w.heap.size ≤ wr.heap.size
  rest : ∀ b, b < w.heap.size → b ≠ X → wr.heap[b]? = w.heap[b]?
  xw : X < w.heap.size
  bw : base ≤ w.heap.size
  vw : ∀ g, a4.ownBlock = some g → g < w.heap.size
structure PoD (w w' : World) (base X : Nat) (p : Pp) (a1 a2 a3 a4 v' : Value) (l : List Sv) : Prop where
  blk : w'.heap[X]? = some (.cells (prA p a1 a2 a3 v') 44 (0, 0))
  own : OwnSv w' base v' l
  res : w'.heap[w.heap.size + 1]? = some (.cells (enA En.zero) 38 (0, 0))
  fr : (w'.os = w.os ∧ w'.tape = w.tape ∧ w'.output = w.output ∧ w.heap.size ≤ w'.heap.size)
  lies : ∀ g, v'.ownBlock = some g → a4.ownBlock = some g ∨ w.heap.size ≤ g
  rest : ∀ b, b < w.heap.size → b ≠ X → a4.ownBlock ≠ some b → w'.heap[b]? = w.heap[b]?
  xw : X < w.heap.size
section
variable {w wr w' : World} {base X : Nat} {p : Pp} {a1 a2 a3 a4 v' : Value} {l : List Sv} {x : En} {c : Cm}
theorem PropPost.same {q : Pp} {r : Ending} (h : PropPost w base X p a1 a2 a3 a4 l x r w') (hq : ∀ a1 a2 a3 a4, prA p a1 a2 a3 a4 = prA q a1 a2 a3 a4) : PropPost w base X q a1 a2 a3 a4 l x r w' := by
  obtain ⟨v', h1, h2, h3⟩ := h.ex
  rw [hq] at h2
  exact ⟨v', h1, h2, h3⟩
theorem PoI.fresh (h : PoI w wr base X p a1 a2 a3 a4 l) (b : Below wr.heap.size wr w') : PoI w w' base X p a1 a2 a3 a4 l :=
  ⟨(b.block _ (lt_of_block h.blk)).trans h.blk, own_keep h.own fun g hg => b.block g (h.own.lt g hg).2, (b.block _ (lt_of_block h.res)).trans h.res, ⟨b.os.trans h.fr.1, b.tape.trans h.fr.2.1, b.output.trans h.fr.2.2.1, Nat.le_trans h.fr.2.2.2 b.size⟩, fun k hk hn => (b.block k (Nat.lt_of_lt_of_le hk h.fr.2.2.2)).trans (h.rest k hk hn), h.xw, h.bw, h.vw⟩
theorem PoI.drew (h : PoI w wr base X p a1 a2 a3 a4 l) : PoI w wr.drew base X p a1 a2 a3 a4 l := h.fresh ⟨rfl, rfl, rfl, Nat.le_refl _, fun _ _ => rfl⟩
theorem PoI.c1 (h : PoI w wr base X p a1 a2 a3 a4 l) : wr.cell? ⟨X, 1, none⟩ = some (.int .i64 p.b) := by simp [World.cell?, h.blk]
theorem PoI.c5 (h : PoI w wr base X p a1 a2 a3 a4 l) : wr.cell? ⟨X, 5, none⟩ = some (.bool p.is) := by simp [World.cell?, h.blk]
theorem PoI.c7 (h : PoI w wr base X p a1 a2 a3 a4 l) : wr.cell? ⟨X, 7, none⟩ = some (.int .i64 p.next) := by simp [World.cell?, h.blk]
theorem PoI.c8 (h : PoI w wr base X p a1 a2 a3 a4 l) : wr.cell? ⟨X, 8, none⟩ = some a4 := by simp [World.cell?, h.blk]
theorem PoI.f7 (h : PoI w wr base X p a1 a2 a3 a4 l) : wr.frozen? ⟨X, 7, none⟩ = false := by simp [World.frozen?, h.blk]
theorem PoI.bs (h : PoI w wr base X p a1 a2 a3 a4 l) : base ≤ wr.heap.size := Nat.le_trans h.bw h.fr.2.2.2
theorem PoI.ne (h : PoI w wr base X p a1 a2 a3 a4 l) : a4.ownBlock ≠ some X := own_ne h.own h.blk (by decide)
/-- A block of the call's own turned. -/
theorem PoI.grown {g : Nat} (h : PoI w wr base X p a1 a2 a3 a4 l) (gr : wr.grownBy w' (some g)) (hg : w.heap.size + 2 ≤ g) : PoI w w' base X p a1 a2 a3 a4 l := by
  have xw := h.xw
  exact ⟨(gr.block X (lt_of_block h.blk) (fun e1 => by have := Option.some.inj e1; omega)).trans h.blk, own_keep h.own fun k hk => gr.block k (h.own.lt k hk).2 (fun e1 => by have := Option.some.inj e1; have := h.vw k hk; omega), (gr.block _ (lt_of_block h.res) (fun e1 => by have := Option.some.inj e1; omega)).trans h.res, ⟨gr.os.trans h.fr.1, gr.tape.trans h.fr.2.1, gr.output.trans h.fr.2.2.1, Nat.le_trans h.fr.2.2.2 gr.size⟩, fun k hk hn => (gr.block k (Nat.lt_of_lt_of_le hk h.fr.2.2.2) (fun e1 => by have := Option.some.inj e1; omega)).trans (h.rest k hk hn), h.xw, h.bw, h.vw⟩
/-- The next slot's number turned. -/
theorem PoI.up (h : PoI w wr base X p a1 a2 a3 a4 l) : PoI w (wr.setCell ⟨X, 7, none⟩ (.int .i64 (p.next + 1))) base X (upP p) a1 a2 a3 a4 l := by
  have xw := h.xw
  have hs : ∀ b, b ≠ X → (wr.setCell ⟨X, 7, none⟩ (.int .i64 (p.next + 1))).heap[b]? = wr.heap[b]? := fun b hb => heap_setCell_other _ _ _ _ hb
  refine ⟨?_, own_keep h.own fun k hk => hs k (fun e1 => h.ne (by rw [hk, e1])), (hs _ (by omega)).trans h.res, ⟨h.fr.1, h.fr.2.1, h.fr.2.2.1, by simp; exact h.fr.2.2.2⟩, fun k hk hn => (hs k hn).trans (h.rest k hk hn), h.xw, h.bw, h.vw⟩
  rw [heap_setCell_same wr X 7 _ _ _ h.blk]
  rfl
/-- The row grew by a slot. -/
theorem PoI.grow (h : PoI w wr base X p a1 a2 a3 a4 l) {u6 : Value} {s : Sv} (o6 : w'.ownsRow base 69 9 u6 (l.length + 1) (rowL svC l ++ rowL svC [s])) (a : Appended base wr w' a4 u6) :
    w'.cell? ⟨X, 8, none⟩ = some a4 ∧ w'.frozen? ⟨X, 8, none⟩ = false ∧ PoD w (w'.setCell ⟨X, 8, none⟩ u6) base X p a1 a2 a3 a4 u6 (l ++ [s]) := by
  have xw := h.xw
  have k1 := (a.rest X (lt_of_block h.blk) (fun e1 => h.ne e1.symm)).trans h.blk
  have k2 := (a.rest _ (lt_of_block h.res) (fun e1 => by have := h.vw _ e1.symm; omega)).trans h.res
  have o7 : OwnSv w' base u6 (l ++ [s]) := by
    show w'.ownsRow _ _ _ _ _ _
    rw [rowL_append, List.length_append]
    exact o6
  have n1 : u6.ownBlock ≠ some X := own_ne o7 k1 (by decide)
  have hs : ∀ b, b ≠ X → (w'.setCell ⟨X, 8, none⟩ u6).heap[b]? = w'.heap[b]? := fun b hb => heap_setCell_other _ _ _ _ hb
  refine ⟨by simp [World.cell?, k1], by simp [World.frozen?, k1], ?_, own_keep o7 fun g hg => hs g (fun e1 => n1 (by rw [hg, e1])), (hs _ (by omega)).trans k2, ⟨a.below.os.trans h.fr.1, a.below.tape.trans h.fr.2.1, a.below.output.trans h.fr.2.2.1, ?_⟩, fun g hg => ?_, fun b hb h1 h2 => ?_, h.xw⟩
  · rw [heap_setCell_same w' X 8 _ _ _ k1]
    rfl
  · have h1 := a.below.size
    have h2 := h.fr.2.2.2
    simp
    omega
  · rcases a.lies with h1 | h1
    · exact Or.inl (by rw [← h1]; exact hg)
    · rw [h1] at hg
      have := Option.some.inj hg
      exact Or.inr (by rw [← this]; exact h.fr.2.2.2)
  · rw [hs b h1, a.rest b (Nat.lt_of_lt_of_le hb h.fr.2.2.2) (fun e1 => h2 e1.symm), h.rest b hb h1]
/-- The answer's own cell turned. -/
theorem PoD.done (h : PoD w wr base X p a1 a2 a3 a4 v' l) (g8 : wr.grownBy w' (some (w.heap.size + 1))) : PropPost w base X p a1 a2 a3 a4 l x (.returned (.agg (enA x))) w' := by
  have xw := h.xw
  have hv : v'.ownBlock ≠ some (w.heap.size + 1) := own_ne h.own h.res (by decide)
  exact ⟨v', rfl, (g8.block X (lt_of_block h.blk) (fun e1 => by have := Option.some.inj e1; omega)).trans h.blk, own_keep h.own fun k hk => g8.block k (h.own.lt k hk).2 (fun e1 => hv (by rw [hk, e1])), ⟨g8.os.trans h.fr.1, g8.tape.trans h.fr.2.1, g8.output.trans h.fr.2.2.1, Nat.le_trans h.fr.2.2.2 g8.size⟩, h.lies, fun b hb h1 h2 => (g8.block b (Nat.lt_of_lt_of_le hb h.fr.2.2.2) (fun e1 => by have := Option.some.inj e1; omega)).trans (h.rest b hb h1 h2)⟩
theorem PoI.done (h : PoI w wr base X p a1 a2 a3 a4 l) (g8 : wr.grownBy w' (some (w.heap.size + 1))) : PropPost w base X p a1 a2 a3 a4 l x (.returned (.agg (enA x))) w' := by
  have xw := h.xw
  exact ⟨a4, rfl, (g8.block X (lt_of_block h.blk) (fun e1 => by have := Option.some.inj e1; omega)).trans h.blk, own_keep h.own fun k hk => g8.block k (h.own.lt k hk).2 (fun e1 => by have := Option.some.inj e1; have := h.vw k hk; omega), ⟨g8.os.trans h.fr.1, g8.tape.trans h.fr.2.1, g8.output.trans h.fr.2.2.1, Nat.le_trans h.fr.2.2.2 g8.size⟩, fun _ hg => Or.inl hg, fun b hb h1 _ => (g8.block b (Nat.lt_of_lt_of_le hb h.fr.2.2.2) (fun e1 => by have := Option.some.inj e1; omega)).trans (h.rest b hb h1)⟩
set_option maxHeartbeats 6400000 in
set_option maxRecDepth 100000 in
theorem rpropose_any (hX : w.heap[X]? = some (.cells (prA p a1 a2 a3 a4) 44 (0, 0))) (ho : OwnSv w base a4 l) (hb : base ≤ w.heap.size) (hl : l.length ≤ 536870912) (hn : -4611686018427387904 ≤ p.next ∧ p.next ≤ 4611686018427387904) (c : Cm) : Calls Try.prog 16 #[.pointer (some ⟨X, 0, none⟩), .agg (cmA c)] w (PropPost w base X (propP p c).1 a1 a2 a3 a4 (propL p c l) (propP p c).2) := by
  obtain ⟨i0, hi, hz0, hz1, hz2⟩ := info_parts infoSv
  obtain ⟨W, hW⟩ : ∃ W, W = (w.alloc (.cells (cmA c) 32)).alloc (.cells (enA En.zero) 38) := ⟨_, rfl⟩
  have h2 := two_blocks w (.cells (cmA c) 32) (.cells (enA En.zero) 38)
  have xW : W.heap[w.heap.size]? = some (.cells (cmA c) 32 (0, 0)) := by rw [hW]; exact h2.1.trans (heap_alloc_new w _)
  have sW : W.heap.size = w.heap.size + 2 := by rw [hW]; simp
  have iW : PoI w W base X p a1 a2 a3 a4 l := by
    have bW : Below w.heap.size w W := by rw [hW]; exact ((Below.refl _ w).alloc (Nat.le_refl _) _).alloc (by simp) _
    exact ⟨(bW.block _ (lt_of_block hX)).trans hX, own_keep ho fun g hg => bW.block g (ho.lt g hg).2, by rw [hW]; exact h2.2.trans (heap_alloc_new _ _), ⟨bW.os, bW.tape, bW.output, bW.size⟩, fun k hk _ => bW.block k hk, lt_of_block hX, hb, fun g hg => (ho.lt g hg).2⟩
  obtain ⟨pv, nv, qv, rfl⟩ := own_form ho
  have XW : Hid _ := xW
  have SW : Hid _ := sW
  have IW : Hid _ := iW
  have HW : Hid ((w.alloc (.cells (cmA c) 32)).alloc (.cells #[.int .i64 0, .int .i64 0, .int .i64 0, .int .i64 0, .int .i64 0, .string ⟨#[]⟩, .int .i64 0] 38) = W) := hW.symm
  have c1 := iW.c1
  have c5 := iW.c5
  have c7 := iW.c7
  have ce0 := boxC xW 0 _ rfl
  have ce1 := boxC xW 1 _ rfl
  have ce2 := boxC xW 2 _ rfl
  have ce3 := boxC xW 3 _ rfl
  have ce4 := boxC xW 4 _ rfl
  clear hW iW hX ho xW sW h2
  by_cases hs : p.is = true
  · have HE : Hid (propP p c = (⟨p.n, p.b, p.f, p.who, p.best, p.is, p.vals, p.next + 1, p.l ++ [slOf (nextE p c)]⟩, nextE p c) ∧ propL p c l = l ++ [(slOf (nextE p c), (none, 0, 0))]) := by
      unfold propP propL
      exact ⟨if_pos hs, if_pos hs⟩
    have rb : IntKind.i64.wrap (p.next + 1) = p.next + 1 := by rw [IntKind.wrap_i64]; omega
    rw [hs] at c5
    clear hs
    go_enter Try.func16, Try.ntmps16
    go_upto_region 1 with fail
    rw [HW.out]
    go_upto_region 3 with fail
    refine wp_region_held_drew (S := (fun y : World => y.cell? ⟨X, 7, none⟩ = some (.int .i64 p.next) ∧ y.cell? ⟨X, 1, none⟩ = some (.int .i64 p.b) ∧ y.cell? ⟨w.heap.size, 0, none⟩ = some (.int .i64 c.kind) ∧ y.cell? ⟨w.heap.size, 1, none⟩ = some (.int .i64 c.session) ∧ y.cell? ⟨w.heap.size, 2, none⟩ = some (.int .i64 c.seq) ∧ y.cell? ⟨w.heap.size, 3, none⟩ = some (.string c.name) ∧ y.cell? ⟨w.heap.size, 4, none⟩ = some (.int .i64 c.n))) (by kernel_rfl) ?_ (fun hHeld0 => ?_)
    · try dsimp only
      go_keep
    refine tk0 (.pointer (some ⟨X, 0, none⟩)) (by kernel_rfl) (by kernel_rfl) (by kernel_rfl) (fun _ _ _ h => h) rfl (fun w hSw => by (try dsimp only at hSw); obtain ⟨s7, s1, q0, q1, q2, q3, q4⟩ := hSw; go_simp) (by assumption) ?_
    try simp only [Act.put, List.setIfInBounds_toArray, List.set_cons_zero, List.set_cons_succ]
    refine tk1 (.pointer (some ⟨X, 0, none⟩)) (by kernel_rfl) (by kernel_rfl) (by kernel_rfl) (fun _ _ _ h => h) rfl (fun w hSw => by (try dsimp only at hSw); obtain ⟨s7, s1, q0, q1, q2, q3, q4⟩ := hSw; go_simp) (by assumption) ?_
    try simp only [Act.put, List.setIfInBounds_toArray, List.set_cons_zero, List.set_cons_succ]
    refine tk2 (.pointer (some ⟨X, 7, none⟩)) (by kernel_rfl) (by kernel_rfl) (by kernel_rfl) (fun _ _ _ h => h) rfl (fun w hSw => by (try dsimp only at hSw); obtain ⟨s7, s1, q0, q1, q2, q3, q4⟩ := hSw; go_simp) (by assumption) ?_
    try simp only [Act.put, List.setIfInBounds_toArray, List.set_cons_zero, List.set_cons_succ]
    refine tk3 (.int .i64 p.next) (by kernel_rfl) (by kernel_rfl) (by kernel_rfl) (fun _ _ _ h => h) rfl (fun w hSw => by (try dsimp only at hSw); obtain ⟨s7, s1, q0, q1, q2, q3, q4⟩ := hSw; go_simp) (by assumption) ?_
    try simp only [Act.put, List.setIfInBounds_toArray, List.set_cons_zero, List.set_cons_succ]
    refine tk4 (.pointer (some ⟨X, 0, none⟩)) (by kernel_rfl) (by kernel_rfl) (by kernel_rfl) (fun _ _ _ h => h) rfl (fun w hSw => by (try dsimp only at hSw); obtain ⟨s7, s1, q0, q1, q2, q3, q4⟩ := hSw; go_simp) (by assumption) ?_
    try simp only [Act.put, List.setIfInBounds_toArray, List.set_cons_zero, List.set_cons_succ]
    refine tk5 (.pointer (some ⟨X, 0, none⟩)) (by kernel_rfl) (by kernel_rfl) (by kernel_rfl) (fun _ _ _ h => h) rfl (fun w hSw => by (try dsimp only at hSw); obtain ⟨s7, s1, q0, q1, q2, q3, q4⟩ := hSw; go_simp) (by assumption) ?_
    try simp only [Act.put, List.setIfInBounds_toArray, List.set_cons_zero, List.set_cons_succ]
    refine tk6 (.pointer (some ⟨X, 1, none⟩)) (by kernel_rfl) (by kernel_rfl) (by kernel_rfl) (fun _ _ _ h => h) rfl (fun w hSw => by (try dsimp only at hSw); obtain ⟨s7, s1, q0, q1, q2, q3, q4⟩ := hSw; go_simp) (by assumption) ?_
    try simp only [Act.put, List.setIfInBounds_toArray, List.set_cons_zero, List.set_cons_succ]
    refine tk7 (.int .i64 p.b) (by kernel_rfl) (by kernel_rfl) (by kernel_rfl) (fun _ _ _ h => h) rfl (fun w hSw => by (try dsimp only at hSw); obtain ⟨s7, s1, q0, q1, q2, q3, q4⟩ := hSw; go_simp) (by assumption) ?_
    try simp only [Act.put, List.setIfInBounds_toArray, List.set_cons_zero, List.set_cons_succ]
    refine tk8 (.agg (cmA c)) (by kernel_rfl) (by kernel_rfl) (by kernel_rfl) (fun _ _ _ h => h) rfl (fun w hSw => by (try dsimp only at hSw); obtain ⟨s7, s1, q0, q1, q2, q3, q4⟩ := hSw; go_simp) (by assumption) ?_
    try simp only [Act.put, List.setIfInBounds_toArray, List.set_cons_zero, List.set_cons_succ]
    refine tk9 (.agg #[.int .i64 p.next, .int .i64 p.b, .int .i64 c.kind, .int .i64 c.session, .int .i64 c.seq, .string c.name, .int .i64 c.n]) (by kernel_rfl) (by kernel_rfl) (by kernel_rfl) (fun _ _ _ h => h) rfl (fun w hSw => by (try dsimp only at hSw); obtain ⟨s7, s1, q0, q1, q2, q3, q4⟩ := hSw; go_simp) (by assumption) ?_
    try simp only [Act.put, List.setIfInBounds_toArray, List.set_cons_zero, List.set_cons_succ]
    refine cl10 (by kernel_rfl) rfl (fun K hK => ?_)
    go_simp
    obtain ⟨y1, hy1⟩ : ∃ y, y = W.drew.alloc (.cells (enA En.zero) 38) := ⟨_, rfl⟩
    have i1 : PoI w y1 base X p a1 a2 a3 (.slice pv nv qv) l := by rw [hy1]; exact (IW.out.drew).fresh ((Below.refl _ _).alloc (Nat.le_refl _) _)
    have b1 : y1.heap[W.heap.size]? = some (.cells (enA En.zero) 38 (0, 0)) := by rw [hy1]; exact heap_alloc_new W.drew _
    have x1 : y1.heap[w.heap.size]? = some (.cells (cmA c) 32 (0, 0)) := by rw [hy1]; exact (Below.heap_alloc W.drew _ _ (lt_of_block XW.out)).trans XW.out
    rw [show (W.alloc (.cells #[.int .i64 0, .int .i64 0, .int .i64 0, .int .i64 0, .int .i64 0, .string ⟨#[]⟩, .int .i64 0] 38)).drew = y1 from hy1.symm]
    have I1 : Hid _ := i1
    have B1 : Hid _ := b1
    have X1 : Hid _ := x1
    have z7 := i1.c7
    have z1 := i1.c1
    have zc0 := boxC x1 0 _ rfl
    have zc1 := boxC x1 1 _ rfl
    have zc2 := boxC x1 2 _ rfl
    have zc3 := boxC x1 3 _ rfl
    have zc4 := boxC x1 4 _ rfl
    clear i1 b1 x1 hy1
    refine hK.out _ _ ?_ (fun hHeld => ?_)
    · try dsimp only
      go_keep
    clear hK K
    try simp only [Act.put, List.setIfInBounds_toArray, List.set_cons_zero, List.set_cons_succ]
    refine cl11 (by kernel_rfl) rfl (fun K hK => ?_)
    refine wp_store_row 38 _ _ rfl W.heap.size (enA (nextE p c)) rfl rfl 38 _ B1.out sizeEntP rfl (by simp [Value.oneCell']) ?_
    obtain ⟨y2, hy2⟩ : ∃ y, y = y1.setRow W.heap.size (enA (nextE p c)) := ⟨_, rfl⟩
    have g2 : y1.grownBy y2 (some W.heap.size) := by rw [hy2]; exact grown_setRow_g _ _ _
    have b2 : y2.heap[W.heap.size]? = some (.cells (enA (nextE p c)) 38 (0, 0)) := by rw [hy2]; exact setRow_heap y1 W.heap.size _ _ _ _ B1.out
    have i2 := I1.out.grown g2 (by have := SW.out; omega)
    have x2 : y2.heap[w.heap.size]? = some (.cells (cmA c) 32 (0, 0)) := (g2.block _ (lt_of_block X1.out) (fun e1 => by have := SW.out; have := Option.some.inj e1; omega)).trans X1.out
    rw [← hy2]
    have I2 : Hid _ := i2
    have B2 : Hid _ := b2
    have u7 := i2.c7
    have u1 := i2.c1
    have f7 := i2.f7
    have uc0 := boxC x2 0 _ rfl
    have uc1 := boxC x2 1 _ rfl
    have uc2 := boxC x2 2 _ rfl
    have uc3 := boxC x2 3 _ rfl
    have uc4 := boxC x2 4 _ rfl
    clear i2 b2 x2 g2 hy2
    refine hK.out _ _ ?_ (fun hHeld => ?_)
    · try dsimp only
      go_keep
    clear hK K
    refine wpAnyH_done (by kernel_rfl) ?_ _
    clear c1 c5 c7 ce0 ce1 ce2 ce3 ce4
    obtain ⟨y4, hy4⟩ : ∃ y, y = y2.setCell ⟨X, 7, none⟩ (.int .i64 (p.next + 1)) := ⟨_, rfl⟩
    have i4 : PoI w y4 base X (upP p) a1 a2 a3 (.slice pv nv qv) l := by rw [hy4]; exact I2.out.up
    obtain ⟨x, hx⟩ : ∃ x, x = nextE p c := ⟨_, rfl⟩
    obtain ⟨EB, hEB⟩ : ∃ EB, EB = W.heap.size := ⟨_, rfl⟩
    have b4 : y4.heap[EB]? = some (.cells (enA x) 38 (0, 0)) := by rw [hy4, hx, hEB]; exact (heap_setCell_other _ _ _ _ (fun e1 : W.heap.size = X => by have h1 := I2.out.xw; have h2 := SW.out; omega)).trans B2.out
    have HY4 : Hid (y2.setCell ⟨X, 7, none⟩ (.int .i64 (p.next + 1)) = y4) := hy4.symm
    have I4 : Hid _ := i4
    have B4 : Hid _ := b4
    have HEB : Hid (w.heap.size + 2 ≤ EB) := by show _ ≤ _; have := SW.out; omega
    have HEB2 : Hid (W.heap.size = EB) := hEB.symm
    have HX : Hid (x = nextE p c) := hx
    have k8 := i4.c8
    have ke0 := boxE b4 0 _ rfl
    have ke1 := boxE b4 1 _ rfl
    have ke2 := boxE b4 2 _ rfl
    have ke3 := boxE b4 3 _ rfl
    have ke4 := boxE b4 4 _ rfl
    have ke5 := boxE b4 5 _ rfl
    have ke6 := boxE b4 6 _ rfl
    clear i4 b4 hy4 hEB hx
    go_upto_region 5 with fail
    rw [HY4.out, HEB2.out]
    refine wp_region_held_drew (S := (fun y : World => y.cell? ⟨EB, 0, none⟩ = some (.int .i64 x.slot) ∧ y.cell? ⟨EB, 1, none⟩ = some (.int .i64 x.ballot) ∧ y.cell? ⟨EB, 2, none⟩ = some (.int .i64 x.cmd.kind) ∧ y.cell? ⟨EB, 3, none⟩ = some (.int .i64 x.cmd.session) ∧ y.cell? ⟨EB, 4, none⟩ = some (.int .i64 x.cmd.seq) ∧ y.cell? ⟨EB, 5, none⟩ = some (.string x.cmd.name) ∧ y.cell? ⟨EB, 6, none⟩ = some (.int .i64 x.cmd.n))) (by kernel_rfl) ?_ (fun hHeld0 => ?_)
    · try dsimp only
      go_keep
    refine tk0 (.pointer (some ⟨X, 0, none⟩)) (by kernel_rfl) (by kernel_rfl) (by kernel_rfl) (fun _ _ _ h => h) rfl (fun w hSw => by (try dsimp only at hSw); obtain ⟨q0, q1, q2, q3, q4, q5, q6⟩ := hSw; go_simp) (by assumption) ?_
    try simp only [Act.put, List.setIfInBounds_toArray, List.set_cons_zero, List.set_cons_succ]
    refine tk1 (.pointer (some ⟨X, 0, none⟩)) (by kernel_rfl) (by kernel_rfl) (by kernel_rfl) (fun _ _ _ h => h) rfl (fun w hSw => by (try dsimp only at hSw); obtain ⟨q0, q1, q2, q3, q4, q5, q6⟩ := hSw; go_simp) (by assumption) ?_
    try simp only [Act.put, List.setIfInBounds_toArray, List.set_cons_zero, List.set_cons_succ]
    refine tk2 (.pointer (some ⟨X, 0, none⟩)) (by kernel_rfl) (by kernel_rfl) (by kernel_rfl) (fun _ _ _ h => h) rfl (fun w hSw => by (try dsimp only at hSw); obtain ⟨q0, q1, q2, q3, q4, q5, q6⟩ := hSw; go_simp) (by assumption) ?_
    try simp only [Act.put, List.setIfInBounds_toArray, List.set_cons_zero, List.set_cons_succ]
    refine tk3 (.pointer (some ⟨X, 8, none⟩)) (by kernel_rfl) (by kernel_rfl) (by kernel_rfl) (fun _ _ _ h => h) rfl (fun w hSw => by (try dsimp only at hSw); obtain ⟨q0, q1, q2, q3, q4, q5, q6⟩ := hSw; go_simp) (by assumption) ?_
    try simp only [Act.put, List.setIfInBounds_toArray, List.set_cons_zero, List.set_cons_succ]
    refine tk5 (.agg (enA x)) (by kernel_rfl) (by kernel_rfl) (by kernel_rfl) (fun _ _ _ h => h) rfl (fun w hSw => by (try dsimp only at hSw); obtain ⟨q0, q1, q2, q3, q4, q5, q6⟩ := hSw; go_simp) (by assumption) ?_
    try simp only [Act.put, List.setIfInBounds_toArray, List.set_cons_zero, List.set_cons_succ]
    refine tk6 (.agg #[.int .i64 x.slot, .int .i64 x.ballot, .int .i64 x.cmd.kind, .int .i64 x.cmd.session, .int .i64 x.cmd.seq, .string x.cmd.name, .int .i64 x.cmd.n, .slice none 0 0, .bool false]) (by kernel_rfl) (by kernel_rfl) (by kernel_rfl) (fun _ _ _ h => h) rfl (fun w hSw => by (try dsimp only at hSw); obtain ⟨q0, q1, q2, q3, q4, q5, q6⟩ := hSw; go_simp) (by assumption) ?_
    try simp only [Act.put, List.setIfInBounds_toArray, List.set_cons_zero, List.set_cons_succ]
    refine rd4_7 (by kernel_rfl) rfl rfl (fun K hK => ?_) (fun K hK => ?_)
    · go_simp
      refine hK.out _ _ ?_ (fun hHeld => ?_)
      · try dsimp only
        go_keep
      clear hK K
      try simp only [Act.put, List.setIfInBounds_toArray, List.set_cons_zero, List.set_cons_succ]
      refine cl7 (by kernel_rfl) rfl (fun K hK => ?_)
      go_simp
      obtain ⟨y5, hy5⟩ : ∃ y, y = y4.drew.alloc (.cells #[.int .i64 x.slot, .int .i64 x.ballot, .int .i64 x.cmd.kind, .int .i64 x.cmd.session, .int .i64 x.cmd.seq, .string x.cmd.name, .int .i64 x.cmd.n, .slice none 0 0, .bool false] 69) := ⟨_, rfl⟩
      have i5 : PoI w y5 base X (upP p) a1 a2 a3 (.slice pv nv qv) l := by rw [hy5]; exact (I4.out.drew).fresh ((Below.refl _ _).alloc (Nat.le_refl _) _)
      have r5 : RowAt svC y5 (.slice (some ⟨y4.heap.size, 0, none⟩) 1 1) [(slOf x, (none, 0, 0))] := by rw [hy5]; exact RowAt.built (heap_alloc_new y4.drew _) rfl 1 rfl rfl
      have b5 : y5.heap[EB]? = some (.cells (enA x) 38 (0, 0)) := by rw [hy5]; exact (Below.heap_alloc y4.drew _ _ (lt_of_block B4.out)).trans B4.out
      rw [show (y4.alloc (.cells #[.int .i64 x.slot, .int .i64 x.ballot, .int .i64 x.cmd.kind, .int .i64 x.cmd.session, .int .i64 x.cmd.seq, .string x.cmd.name, .int .i64 x.cmd.n, .slice none 0 0, .bool false] 69)).drew = y5 from hy5.symm]
      have I5 : Hid _ := i5
      have R5 : Hid _ := r5
      have B5 : Hid _ := b5
      have z8 := i5.c8
      have ze0 := boxE b5 0 _ rfl
      have ze1 := boxE b5 1 _ rfl
      have ze2 := boxE b5 2 _ rfl
      have ze3 := boxE b5 3 _ rfl
      have ze4 := boxE b5 4 _ rfl
      have ze5 := boxE b5 5 _ rfl
      have ze6 := boxE b5 6 _ rfl
      clear i5 r5 b5 hy5
      refine hK.out _ _ ?_ (fun hHeld => ?_)
      · try dsimp only
        go_keep
      clear hK K
      try simp only [Act.put, List.setIfInBounds_toArray, List.set_cons_zero, List.set_cons_succ]
      refine cl8 (by kernel_rfl) rfl (fun K hK => ?_)
      refine wp_app_row (k := 9) (enc := svC) (l := [(slOf x, (none, 0, 0))]) (.tmp 33) (.tmp 36) 42 69 rfl i0 _ 96 Try.underlying42 hi hz0 hz1 hz2 rfl (by decide) svC_len svC_one (base := base) rfl rfl I5.out.own R5.out I5.out.bs (by simp only [List.length_singleton]; omega) (by simp only [List.length_singleton]; omega) ?_
      intro u6 w6 o6 a6
      obtain ⟨p6, n6, q6, rfl⟩ := own_form o6
      have j6 := I5.out.grow o6 a6
      have z6 := j6.1
      have f6 := j6.2.1
      have J6 : Hid _ := j6.2.2
      have b6 : w6.heap[EB]? = some (.cells (enA x) 38 (0, 0)) := (a6.rest EB (lt_of_block B5.out) (fun e1 => by have := I5.out.vw _ e1.symm; have := HEB.out; omega)).trans B5.out
      have B6 : Hid _ := b6
      have ye0 := boxE b6 0 _ rfl
      have ye1 := boxE b6 1 _ rfl
      have ye2 := boxE b6 2 _ rfl
      have ye3 := boxE b6 3 _ rfl
      have ye4 := boxE b6 4 _ rfl
      have ye5 := boxE b6 5 _ rfl
      have ye6 := boxE b6 6 _ rfl
      clear o6 a6 j6 b6
      refine hK.out _ _ ?_ (fun hHeld => ?_)
      · try dsimp only
        go_keep
      clear hK K
      try simp only [Act.put, List.setIfInBounds_toArray, List.set_cons_zero, List.set_cons_succ]
      refine tk9 (.pointer (some ⟨X, 0, none⟩)) (by kernel_rfl) (by kernel_rfl) (by kernel_rfl) (fun _ _ _ h => h) rfl (fun w hSw => by (try dsimp only at hSw); obtain ⟨q0, q1, q2, q3, q4, q5, q6⟩ := hSw; go_simp) (by assumption) ?_
      try simp only [Act.put, List.setIfInBounds_toArray, List.set_cons_zero, List.set_cons_succ]
      refine tk10 (.pointer (some ⟨X, 8, none⟩)) (by kernel_rfl) (by kernel_rfl) (by kernel_rfl) (fun _ _ _ h => h) rfl (fun w hSw => by (try dsimp only at hSw); obtain ⟨q0, q1, q2, q3, q4, q5, q6⟩ := hSw; go_simp) (by assumption) ?_
      try simp only [Act.put, List.setIfInBounds_toArray, List.set_cons_zero, List.set_cons_succ]
      refine cl11 (by kernel_rfl) rfl (fun K hK => ?_)
      go_simp
      have p7 := J6.out
      obtain ⟨w7, hw7⟩ : ∃ w7, w7 = w6.setCell ⟨X, 8, none⟩ (.slice p6 n6 q6) := ⟨_, rfl⟩
      have b7 : w7.heap[EB]? = some (.cells (enA x) 38 (0, 0)) := by rw [hw7]; exact (heap_setCell_other _ _ _ _ (fun e1 : EB = X => by have h1 := I5.out.xw; have h2 := HEB.out; omega)).trans B6.out
      rw [← hw7] at p7
      rw [← hw7]
      have P7 : Hid _ := p7
      have xe0 := boxE b7 0 _ rfl
      have xe1 := boxE b7 1 _ rfl
      have xe2 := boxE b7 2 _ rfl
      have xe3 := boxE b7 3 _ rfl
      have xe4 := boxE b7 4 _ rfl
      have xe5 := boxE b7 5 _ rfl
      have xe6 := boxE b7 6 _ rfl
      clear p7 hw7 b7
      refine hK.out _ _ ?_ (fun hHeld => ?_)
      · try dsimp only
        go_keep
      clear hK K
      try simp only [Act.put, List.setIfInBounds_toArray, List.set_cons_zero, List.set_cons_succ]
      refine wpAnyH_done (by kernel_rfl) ?_ _
      go_wp2_with (show wpList _ _ _ (⟨_, Op.store 38 _ _, _, _, _, _⟩ :: _) _ _; refine store_row_g rfl 38 _ _ rfl (w.heap.size + 1) (enA x) rfl rfl 38 _ P7.out.res sizeEntP rfl (by simp [Value.oneCell']) ?_; intro w8 h8 g8)
      refine bodyPost_ret (results_cell_row Try.results16 _ _ (w.heap.size + 1) 38 _ (0, 0) _ rfl h8 Try.underlying38 rfl sizeEntP) rfl ?_
      rw [HE.out.1, HE.out.2, ← HX.out]
      exact (P7.out.done g8).same (fun _ _ _ _ => rfl)
    · go_simp
      obtain ⟨y5, hy5⟩ : ∃ y, y = y4.drew.alloc (.cells #[.int .i64 x.slot, .int .i64 x.ballot, .int .i64 x.cmd.kind, .int .i64 x.cmd.session, .int .i64 x.cmd.seq, .string x.cmd.name, .int .i64 x.cmd.n, .slice none 0 0, .bool false] 69) := ⟨_, rfl⟩
      have i5 : PoI w y5 base X (upP p) a1 a2 a3 (.slice pv nv qv) l := by rw [hy5]; exact (I4.out.drew).fresh ((Below.refl _ _).alloc (Nat.le_refl _) _)
      have r5 : RowAt svC y5 (.slice (some ⟨y4.heap.size, 0, none⟩) 1 1) [(slOf x, (none, 0, 0))] := by rw [hy5]; exact RowAt.built (heap_alloc_new y4.drew _) rfl 1 rfl rfl
      have b5 : y5.heap[EB]? = some (.cells (enA x) 38 (0, 0)) := by rw [hy5]; exact (Below.heap_alloc y4.drew _ _ (lt_of_block B4.out)).trans B4.out
      rw [show (y4.alloc (.cells #[.int .i64 x.slot, .int .i64 x.ballot, .int .i64 x.cmd.kind, .int .i64 x.cmd.session, .int .i64 x.cmd.seq, .string x.cmd.name, .int .i64 x.cmd.n, .slice none 0 0, .bool false] 69)).drew = y5 from hy5.symm]
      have I5 : Hid _ := i5
      have R5 : Hid _ := r5
      have B5 : Hid _ := b5
      have z8 := i5.c8
      have ze0 := boxE b5 0 _ rfl
      have ze1 := boxE b5 1 _ rfl
      have ze2 := boxE b5 2 _ rfl
      have ze3 := boxE b5 3 _ rfl
      have ze4 := boxE b5 4 _ rfl
      have ze5 := boxE b5 5 _ rfl
      have ze6 := boxE b5 6 _ rfl
      clear i5 r5 b5 hy5
      refine hK.out _ _ ?_ (fun hHeld => ?_)
      · try dsimp only
        go_keep
      clear hK K
      try simp only [Act.put, List.setIfInBounds_toArray, List.set_cons_zero, List.set_cons_succ]
      refine cl4 (by kernel_rfl) rfl (fun K hK => ?_)
      go_simp
      refine hK.out _ _ ?_ (fun hHeld => ?_)
      · try dsimp only
        go_keep
      clear hK K
      try simp only [Act.put, List.setIfInBounds_toArray, List.set_cons_zero, List.set_cons_succ]
      refine cl8 (by kernel_rfl) rfl (fun K hK => ?_)
      refine wp_app_row (k := 9) (enc := svC) (l := [(slOf x, (none, 0, 0))]) (.tmp 33) (.tmp 36) 42 69 rfl i0 _ 96 Try.underlying42 hi hz0 hz1 hz2 rfl (by decide) svC_len svC_one (base := base) rfl rfl I5.out.own R5.out I5.out.bs (by simp only [List.length_singleton]; omega) (by simp only [List.length_singleton]; omega) ?_
      intro u6 w6 o6 a6
      obtain ⟨p6, n6, q6, rfl⟩ := own_form o6
      have j6 := I5.out.grow o6 a6
      have z6 := j6.1
      have f6 := j6.2.1
      have J6 : Hid _ := j6.2.2
      have b6 : w6.heap[EB]? = some (.cells (enA x) 38 (0, 0)) := (a6.rest EB (lt_of_block B5.out) (fun e1 => by have := I5.out.vw _ e1.symm; have := HEB.out; omega)).trans B5.out
      have B6 : Hid _ := b6
      have ye0 := boxE b6 0 _ rfl
      have ye1 := boxE b6 1 _ rfl
      have ye2 := boxE b6 2 _ rfl
      have ye3 := boxE b6 3 _ rfl
      have ye4 := boxE b6 4 _ rfl
      have ye5 := boxE b6 5 _ rfl
      have ye6 := boxE b6 6 _ rfl
      clear o6 a6 j6 b6
      refine hK.out _ _ ?_ (fun hHeld => ?_)
      · try dsimp only
        go_keep
      clear hK K
      try simp only [Act.put, List.setIfInBounds_toArray, List.set_cons_zero, List.set_cons_succ]
      refine tk9 (.pointer (some ⟨X, 0, none⟩)) (by kernel_rfl) (by kernel_rfl) (by kernel_rfl) (fun _ _ _ h => h) rfl (fun w hSw => by (try dsimp only at hSw); obtain ⟨q0, q1, q2, q3, q4, q5, q6⟩ := hSw; go_simp) (by assumption) ?_
      try simp only [Act.put, List.setIfInBounds_toArray, List.set_cons_zero, List.set_cons_succ]
      refine tk10 (.pointer (some ⟨X, 8, none⟩)) (by kernel_rfl) (by kernel_rfl) (by kernel_rfl) (fun _ _ _ h => h) rfl (fun w hSw => by (try dsimp only at hSw); obtain ⟨q0, q1, q2, q3, q4, q5, q6⟩ := hSw; go_simp) (by assumption) ?_
      try simp only [Act.put, List.setIfInBounds_toArray, List.set_cons_zero, List.set_cons_succ]
      refine cl11 (by kernel_rfl) rfl (fun K hK => ?_)
      go_simp
      have p7 := J6.out
      obtain ⟨w7, hw7⟩ : ∃ w7, w7 = w6.setCell ⟨X, 8, none⟩ (.slice p6 n6 q6) := ⟨_, rfl⟩
      have b7 : w7.heap[EB]? = some (.cells (enA x) 38 (0, 0)) := by rw [hw7]; exact (heap_setCell_other _ _ _ _ (fun e1 : EB = X => by have h1 := I5.out.xw; have h2 := HEB.out; omega)).trans B6.out
      rw [← hw7] at p7
      rw [← hw7]
      have P7 : Hid _ := p7
      have xe0 := boxE b7 0 _ rfl
      have xe1 := boxE b7 1 _ rfl
      have xe2 := boxE b7 2 _ rfl
      have xe3 := boxE b7 3 _ rfl
      have xe4 := boxE b7 4 _ rfl
      have xe5 := boxE b7 5 _ rfl
      have xe6 := boxE b7 6 _ rfl
      clear p7 hw7 b7
      refine hK.out _ _ ?_ (fun hHeld => ?_)
      · try dsimp only
        go_keep
      clear hK K
      try simp only [Act.put, List.setIfInBounds_toArray, List.set_cons_zero, List.set_cons_succ]
      refine wpAnyH_done (by kernel_rfl) ?_ _
      go_wp2_with (show wpList _ _ _ (⟨_, Op.store 38 _ _, _, _, _, _⟩ :: _) _ _; refine store_row_g rfl 38 _ _ rfl (w.heap.size + 1) (enA x) rfl rfl 38 _ P7.out.res sizeEntP rfl (by simp [Value.oneCell']) ?_; intro w8 h8 g8)
      refine bodyPost_ret (results_cell_row Try.results16 _ _ (w.heap.size + 1) 38 _ (0, 0) _ rfl h8 Try.underlying38 rfl sizeEntP) rfl ?_
      rw [HE.out.1, HE.out.2, ← HX.out]
      exact (P7.out.done g8).same (fun _ _ _ _ => rfl)
  · have hs' : p.is = false := by simpa using hs
    have HE : Hid (propP p c = (p, En.zero) ∧ propL p c l = l) := by
      unfold propP propL
      exact ⟨if_neg hs, if_neg hs⟩
    rw [hs'] at c5
    clear hs hs'
    go_enter Try.func16, Try.ntmps16
    go_upto_region 1 with fail
    rw [HW.out]
    go_wp2_with (show wpList _ _ _ (⟨_, Op.store 38 _ _, _, _, _, _⟩ :: _) _ _; refine store_row_g rfl 38 _ _ rfl (w.heap.size + 1) (enA En.zero) rfl rfl 38 _ IW.out.res sizeEntP rfl (by simp [Value.oneCell']) ?_; intro w8 h8 g8)
    refine bodyPost_ret (results_cell_row Try.results16 _ _ (w.heap.size + 1) 38 _ (0, 0) _ rfl h8 Try.underlying38 rfl sizeEntP) rfl ?_
    rw [HE.out.1, HE.out.2]
    exact IW.out.done g8
end
end Go.Proofs.Ytmlgoecdefeapaa
/-
  The document's proposer in memory, whole: its block, its rows, whose block is whose; a new one. No condition.
-/
namespace Go.Proofs.Ytmlgoecdefeapaa
open Go.RowKit

/-- Two rows lie in blocks of their own. -/
def Apart (a b : Value) : Prop := ∀ g, a.ownBlock = some g → b.ownBlock ≠ some g
def nuC (n : Int) : List Value := [.int .i64 n]
theorem nuC_len (n : Int) : (nuC n).length = 1 := rfl
theorem nuC_one : ∀ n : Int, ∀ u ∈ nuC n, u.oneCell' = true := by
  intro n u hu
  simp only [nuC, List.mem_cons, List.not_mem_nil, or_false] at hu
  rw [hu]
  rfl
/-- A row of numbers of one's own. -/
abbrev OwnNu (w : World) (base : Nat) (v : Value) (l : List Int) : Prop := w.ownsRow base 3 1 v l.length (rowL nuC l)
/-- A proposer in memory: a1 who promised, a2 the best, a3 the values, a4 what is open; l: the open slots, each with the row of those that accepted it. -/
structure PrAt (w : World) (base : Nat) (S : Nat → Prop) (X : Nat) (p : Pp) (a1 a2 a3 a4 : Value) (l : List Sv) : Prop where
  blk : w.heap[X]? = some (.cells (prA p a1 a2 a3 a4) 44 (0, 0))
  o1 : OwnNu w base a1 p.who
  o2 : OwnEn w base a2 p.best
  o3 : OwnEn w base a3 p.vals
  o4 : OwnSv w base a4 l
  sl : l.map (·.1) = p.l
  ow : ∀ x ∈ l, OwnNu w base (svW x) x.1.who
  ap : (a1 :: l.map svW).Pairwise Apart
  a23 : Apart a2 a3
  lo : base ≤ X
  set : ∀ b, S b ↔ b = X ∨ a1.ownBlock = some b ∨ a2.ownBlock = some b ∨ a3.ownBlock = some b ∨ a4.ownBlock = some b ∨ ∃ x ∈ l, (svW x).ownBlock = some b
section
variable {w w' : World} {base X : Nat} {S : Nat → Prop} {p : Pp} {a1 a2 a3 a4 : Value} {l : List Sv}
theorem PrAt.bd (h : PrAt w base S X p a1 a2 a3 a4 l) : ∀ b, S b → base ≤ b ∧ b < w.heap.size := fun b hb => by
  rcases (h.set b).1 hb with rfl | e | e | e | e | ⟨x, hx, e⟩
  · exact ⟨h.lo, lt_of_block h.blk⟩
  · exact h.o1.lt b e
  · exact h.o2.lt b e
  · exact h.o3.lt b e
  · exact h.o4.lt b e
  · exact (h.ow x hx).lt b e
theorem PrAt.keep (h : PrAt w base S X p a1 a2 a3 a4 l) (hk : ∀ b, S b → w'.heap[b]? = w.heap[b]?) : PrAt w' base S X p a1 a2 a3 a4 l :=
  ⟨(hk X ((h.set X).2 (Or.inl rfl))).trans h.blk, own_keep h.o1 fun g e => hk g ((h.set g).2 (Or.inr (Or.inl e))), own_keep h.o2 fun g e => hk g ((h.set g).2 (Or.inr (Or.inr (Or.inl e)))), own_keep h.o3 fun g e => hk g ((h.set g).2 (Or.inr (Or.inr (Or.inr (Or.inl e))))), own_keep h.o4 fun g e => hk g ((h.set g).2 (Or.inr (Or.inr (Or.inr (Or.inr (Or.inl e)))))), h.sl, fun x hx => own_keep (h.ow x hx) fun g e => hk g ((h.set g).2 (Or.inr (Or.inr (Or.inr (Or.inr (Or.inr ⟨x, hx, e⟩)))))), h.ap, h.a23, h.lo, h.set⟩
theorem PrAt.fresh (h : PrAt w base S X p a1 a2 a3 a4 l) (b : Below w.heap.size w w') : PrAt w' base S X p a1 a2 a3 a4 l := h.keep fun g hg => b.block g (h.bd g hg).2
set_option maxHeartbeats 3200000 in
set_option maxRecDepth 100000 in
theorem rnewP_any (w : World) (n b f : Int) : Calls Try.prog 10 #[.int .i64 n, .int .i64 b, .int .i64 f] w fun e w' => e = .returned (.pointer (some ⟨w.heap.size, 0, none⟩)) ∧ PrAt w' w.heap.size (fun g => g = w.heap.size) w.heap.size (Pp.new n b f) (.slice none 0 0) (.slice none 0 0) (.slice none 0 0) (.slice none 0 0) [] ∧ Below w.heap.size w w' := by
  go_enter Try.func10, Try.ntmps10
  go_wp2
  go_ret
  refine ⟨rfl, ⟨heap_alloc_new w _, World.ownsRow_nil _ _ _ _, World.ownsRow_nil _ _ _ _, World.ownsRow_nil _ _ _ _, World.ownsRow_nil _ _ _ _, rfl, fun x hx => absurd hx List.not_mem_nil, List.pairwise_singleton _ _, fun g e => by simp [Value.ownBlock] at e, Nat.le_refl _, fun g => ?_⟩, (Below.refl _ w).alloc (Nat.le_refl _) _⟩
  simp [Value.ownBlock]
/-- What is open, read from the whole. -/
theorem PrAt.openE (h : PrAt w base S X p a1 a2 a3 a4 l) : (l.map fun x => x.1.e) = openP p := by
  unfold openP
  rw [← h.sl, List.map_map]
  rfl
end
end Go.Proofs.Ytmlgoecdefeapaa
