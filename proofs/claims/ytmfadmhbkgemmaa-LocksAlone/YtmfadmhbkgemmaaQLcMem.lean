/-
  The program's lock in memory: its ring, the set of its holders, the map of the places by sessions; a lock made, held, waited for. No condition.
-/
import Derived.Test.YtmfadmhbkgemmaaQLcRing
import Derived.Test.YtmfadmhbkgemmaaQGSet
import Derived.Test.YtmfadmhbkgemmaaQGMapR
namespace Go.Proofs.Ytmfadmhbkgemmaa
open Go.RowKit

abbrev lcWT : TypeId := 70
abbrev lcWA (x : Wq) : Array Value := #[.int .i64 x.s, .int .i64 x.n, .bool x.rd]
abbrev bPtr (b : Nat) : Value := .pointer (some ⟨b, 0, none⟩)
/-- Places by sessions. -/
abbrev mPl : MapOf Int Nat := ⟨84, 3, 85, fun n => .int .i64 n, bPtr, inI, .pointer none⟩
theorem mPl_is : mPl.Is := ⟨Try.underlying84, keyI, fun _ h => ⟨_, keyI_of h⟩, fun a b h => by injection h, fun w => by kernel_rfl⟩
def ptV : Option Nat → Value
  | some b => bPtr b
  | none => .pointer none
theorem mPl_got (l : List (Int × Nat)) (n : Int) : mPl.got l n = ptV (lookM l n) := by
  unfold MapOf.got
  cases lookM l n <;> rfl
/-- The keys of a map whose look-ups are told. -/
theorem keysM_perm {κ : Type} [DecidableEq κ] {α : Type} {l : List (κ × α)} {ks : List κ} (hn : (l.map (·.1)).Nodup) (hk : ks.Nodup) (h : ∀ a, (lookM l a).isSome = true ↔ a ∈ ks) : (l.map (·.1)).Perm ks := by
  refine (List.perm_ext_iff_of_nodup hn hk).2 fun a => ?_
  rw [← h a]
  constructor
  · intro ha
    obtain ⟨p, hp, rfl⟩ := List.mem_map.1 ha
    rw [lookM_some hn (c := p.2) hp]
    rfl
  · intro ha
    obtain ⟨c, hc⟩ := Option.isSome_iff_exists.1 ha
    exact List.mem_map.2 ⟨_, lookM_mem hc, rfl⟩
/-- The place of a session. -/
def atS (L : List (Nat × Wq)) (s : Int) : Option Nat := (L.find? fun p => p.2.s == s).map (·.1)
theorem atS_some (L : List (Nat × Wq)) (s : Int) : (atS L s).isSome = waitB (L.map (·.2)) s := by
  unfold atS waitB
  rw [Option.isSome_map]
  induction L with
  | nil => rfl
  | cons p L ih =>
    rw [List.find?_cons, List.map_cons, List.any_cons]
    cases p.2.s == s
    · simpa using ih
    · rfl
theorem atS_mem (L : List (Nat × Wq)) (s : Int) : (atS L s).isSome = true ↔ s ∈ L.map (·.2.s) := by
  rw [atS_some]
  unfold waitB
  rw [List.any_eq_true]
  constructor
  · rintro ⟨y, hy, e⟩
    obtain ⟨p, hp, rfl⟩ := List.mem_map.1 hy
    exact List.mem_map.2 ⟨p, hp, by simpa using e⟩
  · intro h
    obtain ⟨p, hp, e⟩ := List.mem_map.1 h
    exact ⟨p.2, List.mem_map.2 ⟨p, hp, rfl⟩, by simpa using e⟩
/-- At a session that waits. -/
theorem atS_split {L : List (Nat × Wq)} (hn : (L.map (·.2.s)).Nodup) {s : Int} (h : waitB (L.map (·.2)) s = true) : ∃ A p B, L = A ++ p :: B ∧ p.2.s = s ∧ atS L s = some p.1 := by
  unfold waitB at h
  rw [List.any_eq_true] at h
  obtain ⟨y, hy, e⟩ := h
  obtain ⟨p, hp, rfl⟩ := List.mem_map.1 hy
  obtain ⟨A, B, rfl⟩ := List.append_of_mem hp
  refine ⟨A, p, B, rfl, by simpa using e, ?_⟩
  have hA : ∀ q ∈ A, (q.2.s == s) = false := fun q hq => by
    rw [List.map_append, List.nodup_append] at hn
    have := hn.2.2 q.2.s (List.mem_map.2 ⟨q, hq, rfl⟩) p.2.s (List.mem_map.2 ⟨p, List.mem_cons_self, rfl⟩)
    have e2 : p.2.s = s := by simpa using e
    rw [e2] at this
    simpa using this
  unfold atS
  rw [List.find?_append, List.find?_eq_none.2 (fun q hq => by rw [hA q hq]; decide), List.find?_cons, e]
  rfl
theorem lessQ_split {A B : List (Nat × Wq)} {p : Nat × Wq} (hn : ((A ++ p :: B).map (·.2.s)).Nodup) {s : Int} (e : p.2.s = s) : lessQ ((A ++ p :: B).map (·.2)) s = (A ++ B).map (·.2) := by
  rw [List.map_append, List.map_cons, List.nodup_append] at hn
  obtain ⟨_, h2, h3⟩ := hn
  rw [List.nodup_cons] at h2
  have hA : ∀ q ∈ A.map (·.2), (!(q.s == s)) = true := fun q hq => by
    obtain ⟨x, hx, rfl⟩ := List.mem_map.1 hq
    have := h3 x.2.s (List.mem_map.2 ⟨x, hx, rfl⟩) p.2.s List.mem_cons_self
    rw [e] at this
    simpa using this
  have hB : ∀ q ∈ B.map (·.2), (!(q.s == s)) = true := fun q hq => by
    obtain ⟨x, hx, rfl⟩ := List.mem_map.1 hq
    have : x.2.s ≠ s := fun e2 => h2.1 (by rw [e, ← e2]; exact List.mem_map.2 ⟨x, hx, rfl⟩)
    simpa using this
  unfold lessQ
  rw [List.map_append, List.map_append, List.map_cons, List.filter_append, List.filter_eq_self.2 hA, List.filter_cons, if_neg (by simp [e]), List.filter_eq_self.2 hB]
theorem lessQ_none {q : List Wq} {s : Int} (h : waitB q s = false) : lessQ q s = q := by
  unfold lessQ
  refine List.filter_eq_self.2 fun y hy => ?_
  unfold waitB at h
  rw [List.any_eq_false] at h
  simpa using h y hy
structure LcM (w : World) (X : Nat) (S : Nat → Prop) (h : List Int) (wr : Bool) (q : List Wq) (H P : Nat) (L : List (Nat × Wq)) (hs : List Int) (ps : List (Int × Nat)) : Prop where
  ring : LcC w X H wr P L
  ql : L.map (·.2) = q
  hold : SetAt w H hs
  hp : hs.Perm h
  plc : mPl.At w P ps
  lk : ∀ s, lookM ps s = atS L s
  qd : (q.map (·.s)).Nodup
  qi : ∀ y ∈ q, inI y.s
  ne : H ≠ P
  set : ∀ g, S g ↔ g = X ∨ g = H ∨ g = P ∨ g ∈ L.map (·.1)
section
variable {w w' : World} {X H P : Nat} {S : Nat → Prop} {h hs : List Int} {wr : Bool} {q : List Wq} {L : List (Nat × Wq)} {ps : List (Int × Nat)}
theorem LcM.nodeAt (I : LcM w X S h wr q H P L hs ps) {g : Nat} (hg : g ∈ L.map (·.1)) : ∃ cs t, w.heap[g]? = some (.cells cs t (0, 0)) := by
  obtain ⟨p, hp, rfl⟩ := List.mem_map.1 hg
  obtain ⟨i, hi, rfl⟩ := List.getElem_of_mem hp
  exact ⟨_, _, I.ring.nod i _ (List.getElem?_eq_getElem hi)⟩
theorem LcM.neH (I : LcM w X S h wr q H P L hs ps) : H ≠ X := I.hold.ne I.ring.blk
theorem LcM.neP (I : LcM w X S h wr q H P L hs ps) : P ≠ X := I.plc.ne I.ring.blk
theorem LcM.neHL (I : LcM w X S h wr q H P L hs ps) {g : Nat} (hg : g ∈ L.map (·.1)) : H ≠ g := by
  obtain ⟨cs, t, hb⟩ := I.nodeAt hg
  exact I.hold.ne hb
theorem LcM.nePL (I : LcM w X S h wr q H P L hs ps) {g : Nat} (hg : g ∈ L.map (·.1)) : P ≠ g := by
  obtain ⟨cs, t, hb⟩ := I.nodeAt hg
  exact I.plc.ne hb
theorem LcM.inX (I : LcM w X S h wr q H P L hs ps) : S X := (I.set X).2 (Or.inl rfl)
theorem LcM.inH (I : LcM w X S h wr q H P L hs ps) : S H := (I.set H).2 (Or.inr (Or.inl rfl))
theorem LcM.inP (I : LcM w X S h wr q H P L hs ps) : S P := (I.set P).2 (Or.inr (Or.inr (Or.inl rfl)))
theorem LcM.inL (I : LcM w X S h wr q H P L hs ps) {g : Nat} (hg : g ∈ L.map (·.1)) : S g := (I.set g).2 (Or.inr (Or.inr (Or.inr hg)))
theorem LcM.bd (I : LcM w X S h wr q H P L hs ps) : ∀ g, S g → g < w.heap.size := fun g hg => by
  rcases (I.set g).1 hg with rfl | rfl | rfl | e
  · exact lt_of_block I.ring.blk
  · exact I.hold.lt
  · exact I.plc.lt
  · obtain ⟨cs, t, hb⟩ := I.nodeAt e
    exact lt_of_block hb
theorem LcM.keep (I : LcM w X S h wr q H P L hs ps) (hk : ∀ g, S g → w'.heap[g]? = w.heap[g]?) : LcM w' X S h wr q H P L hs ps :=
  ⟨I.ring.keep fun g hg => hk g (by
    rcases hg with e | hg
    · rw [e]; exact I.inX
    · exact I.inL hg), I.ql, I.hold.keep (hk H I.inH), I.hp, I.plc.keep (hk P I.inP), I.lk, I.qd, I.qi, I.ne, I.set⟩
theorem LcM.fresh (I : LcM w X S h wr q H P L hs ps) (k : Below w.heap.size w w') : LcM w' X S h wr q H P L hs ps := I.keep fun g hg => k.block g (I.bd g hg)
theorem LcM.cell (I : LcM w X S h wr q H P L hs ps) (i : Nat) (u : Value) (hu : (lcXA H wr P (paC X L 0) (pbC X L 0))[i]? = some u) : w.cell? ⟨X, i, none⟩ = some u := by
  simp only [World.cell?, I.ring.blk]
  simpa using hu
theorem LcM.fz (I : LcM w X S h wr q H P L hs ps) (i : Nat) : w.frozen? ⟨X, i, none⟩ = false := by simp [World.frozen?, I.ring.blk]
theorem LcM.len (I : LcM w X S h wr q H P L hs ps) : L.length = q.length := by rw [← I.ql, List.length_map]
theorem LcM.hlen (I : LcM w X S h wr q H P L hs ps) : hs.length = h.length := I.hp.length_eq
theorem LcM.sd (I : LcM w X S h wr q H P L hs ps) : (L.map (·.2.s)).Nodup := by
  have := I.qd
  rw [← I.ql, List.map_map] at this
  exact this
theorem LcM.plen (I : LcM w X S h wr q H P L hs ps) : ps.length = q.length := by
  have hp := keysM_perm (ks := L.map (·.2.s)) I.plc.nodup I.sd fun a => by rw [I.lk]; exact atS_mem L a
  have := hp.length_eq
  simp only [List.length_map] at this
  rw [this, I.len]
theorem LcM.mem (I : LcM w X S h wr q H P L hs ps) (s : Int) : decide (s ∈ hs) = hasB h s := by
  unfold hasB
  rw [Bool.eq_iff_iff, decide_eq_true_eq, decide_eq_true_eq]
  exact I.hp.mem_iff
end
/-- The program's lock as plain data. -/
structure LcAt (w : World) (X : Nat) (S : Nat → Prop) (h : List Int) (wr : Bool) (q : List Wq) : Prop where
  ex : ∃ H P L hs ps, LcM w X S h wr q H P L hs ps
section
variable {w w' : World} {X : Nat} {S : Nat → Prop} {h : List Int} {wr : Bool} {q : List Wq}
theorem LcAt.bd (I : LcAt w X S h wr q) : ∀ g, S g → g < w.heap.size := by
  obtain ⟨H, P, L, hs, ps, M⟩ := I.ex
  exact M.bd
theorem LcAt.inX (I : LcAt w X S h wr q) : S X := by
  obtain ⟨H, P, L, hs, ps, M⟩ := I.ex
  exact M.inX
theorem LcAt.keep (I : LcAt w X S h wr q) (hk : ∀ g, S g → w'.heap[g]? = w.heap[g]?) : LcAt w' X S h wr q := by
  obtain ⟨H, P, L, hs, ps, M⟩ := I.ex
  exact ⟨H, P, L, hs, ps, M.keep hk⟩
theorem LcAt.fresh (I : LcAt w X S h wr q) (k : Below w.heap.size w w') : LcAt w' X S h wr q := I.keep fun g hg => k.block g (I.bd g hg)
theorem LcAt.lt (I : LcAt w X S h wr q) : X < w.heap.size := I.bd X I.inX
end
end Go.Proofs.Ytmfadmhbkgemmaa
