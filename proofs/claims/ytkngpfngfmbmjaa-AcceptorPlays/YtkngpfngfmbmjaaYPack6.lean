/-
  Parts of the proof, laid together: AcPlain, AcMem. The conditions stand at each part.
-/
import Derived.Deep.Cut
import Derived.Test.YtkngpfngfmbmjaaYPackI
import Derived.Test.YtkngpfngfmbmjaaYPackO
import Derived.Test.YtkngpfngfmbmjaaYPackR
/-
  Promises and acceptances as plain data: what an acceptor answers, which records it gives, what it knows then. No condition.
-/
namespace Go.Proofs.Ytkngpfngfmbmjaa
open Go.RowKit

def promR (b : Int) : Rc := ⟨1, b, En.zero⟩
def accR (e : En) : Rc := ⟨2, 0, e⟩
def findE (l : List En) (s : Int) : Option En := l.find? fun e => e.slot == s
def fromE (l : List En) (s : Int) : List En := l.filter fun e => decide (s ≤ e.slot)
def isE : Option En → En → Bool
  | some o, x => eqE o x
  | none, _ => false
/-- What it knows behind a call, the records, the answer. -/
structure Ans where
  st : Du
  recs : List Rc
  ok : Bool
def promD (d : Du) (b : Int) : Ans := ⟨⟨b, d.b, d.s, d.es⟩, if b = d.p then [] else [promR b], true⟩
def prepD (d : Du) (b : Int) : Ans := if b < 1 ∨ b < d.p then ⟨d, [], false⟩ else promD d b
def accE (b : Int) (e : En) : En := ⟨e.slot, b, e.cmd⟩
def accD (d : Du) (b : Int) (e : En) : Ans :=
  if b < 1 ∨ b < d.p ∨ e.slot < 1 then ⟨d, [], false⟩
  else if d.b < e.slot ∧ isE (findE d.es e.slot) (accE b e) = false then ⟨⟨b, d.b, d.s, putE d.es (accE b e)⟩, (promD d b).recs ++ [accR (accE b e)], true⟩
  else promD d b
def cutD (d : Du) (base : Int) (snap : ByteArray) : Du := if d.b < base then ⟨d.p, base, snap, d.es.filter fun e => decide (base < e.slot)⟩ else d

theorem promD_fold (d : Du) (b : Int) (h : d.p ≤ b) : foldD d (promD d b).recs = (promD d b).st := by
  unfold promD
  show foldD d (if b = d.p then [] else [promR b]) = ⟨b, d.b, d.s, d.es⟩
  split
  · rename_i e
    rw [e]
    rfl
  · show stepD d (promR b) = _
    unfold stepD promR
    rw [if_pos rfl]
    show (⟨max d.p b, d.b, d.s, d.es⟩ : Du) = _
    rw [Int.max_eq_right h]
theorem prepD_fold (d : Du) (b : Int) : foldD d (prepD d b).recs = (prepD d b).st := by
  unfold prepD
  split
  · rfl
  · rename_i h
    exact promD_fold d b (by omega)
theorem accD_fold (d : Du) (b : Int) (e : En) : foldD d (accD d b e).recs = (accD d b e).st := by
  unfold accD
  split
  · rfl
  · rename_i h
    have hp : d.p ≤ b := by omega
    split
    · rename_i h2
      show foldD d ((promD d b).recs ++ [accR (accE b e)]) = _
      rw [foldD_append, promD_fold d b hp]
      show stepD ⟨b, d.b, d.s, d.es⟩ (accR (accE b e)) = _
      unfold stepD accR
      rw [if_neg (show ¬ (2 : Int) = 1 by decide), if_pos rfl]
      show (⟨max b b, d.b, d.s, if d.b < e.slot then putE d.es (accE b e) else d.es⟩ : Du) = _
      rw [if_pos h2.1, Int.max_self]
    · exact promD_fold d b hp
theorem prepD_rises {d : Du} (b : Int) (h : Rises d.b d.es) : Rises (prepD d b).st.b (prepD d b).st.es := by rw [← prepD_fold]; exact foldD_rises _ h
theorem accD_rises {d : Du} (b : Int) (e : En) (h : Rises d.b d.es) : Rises (accD d b e).st.b (accD d b e).st.es := by rw [← accD_fold]; exact foldD_rises _ h
theorem cutD_rises {d : Du} (base : Int) (snap : ByteArray) (h : Rises d.b d.es) : Rises (cutD d base snap).b (cutD d base snap).es := by
  unfold cutD
  split
  · refine ⟨fun e he => ?_, h.2.filter _⟩
    have := (List.mem_filter.1 he).2
    exact of_decide_eq_true this
  · exact h
theorem prepD_len (d : Du) (b : Int) : (prepD d b).st.es.length ≤ d.es.length + 1 ∧ (prepD d b).recs.length ≤ 2 := by
  unfold prepD
  split
  · exact ⟨Nat.le_succ _, Nat.zero_le _⟩
  · refine ⟨Nat.le_succ _, ?_⟩
    show (if b = d.p then [] else [promR b]).length ≤ 2
    split <;> simp
theorem accD_len (d : Du) (b : Int) (e : En) : (accD d b e).st.es.length ≤ d.es.length + 1 ∧ (accD d b e).recs.length ≤ 2 := by
  have h0 : (promD d b).recs.length ≤ 1 := by
    show (if b = d.p then [] else [promR b]).length ≤ 1
    split <;> simp
  unfold accD
  split
  · exact ⟨Nat.le_succ _, Nat.zero_le _⟩
  · split
    · refine ⟨putE_length _ _, ?_⟩
      show ((promD d b).recs ++ [accR (accE b e)]).length ≤ 2
      rw [List.length_append]
      simp
      omega
    · exact ⟨Nat.le_succ _, by omega⟩
theorem cutD_len (d : Du) (base : Int) (snap : ByteArray) : (cutD d base snap).es.length ≤ d.es.length := by
  unfold cutD
  split
  · exact List.length_filter_le _ _
  · exact Nat.le_refl _
/-- The entry of a slot. -/
theorem findE_mem {l : List En} {e : En} (h : l.Pairwise fun x y => x.slot < y.slot) (he : e ∈ l) : findE l e.slot = some e := by
  induction l with
  | nil => cases he
  | cons y l ih =>
    rw [List.pairwise_cons] at h
    unfold findE
    rw [List.find?_cons]
    by_cases hy : y.slot = e.slot
    · rw [show (y.slot == e.slot) = true by simpa using hy]
      rcases List.mem_cons.1 he with rfl | h2
      · rfl
      · have := h.1 e h2
        omega
    · rw [show (y.slot == e.slot) = false by simpa using hy]
      rcases List.mem_cons.1 he with rfl | h2
      · exact absurd rfl hy
      · exact ih h.2 h2
/-- What layers make: entries that rise above a base, ballots up to what is promised. -/
def TopE (d : Du) : Prop := ∀ e ∈ d.es, e.ballot ≤ d.p
/-- A state whose entries rise, made anew. -/
theorem new_same (d : Du) (h : Rises d.b d.es) : (foldD ⟨d.p, d.b, d.s, []⟩ (d.es.map accR)).es = d.es := by
  have := fold_entries d.b d.s d.es [] d.p (by rw [List.nil_append]; exact h)
  show (foldD ⟨d.p, d.b, d.s, []⟩ (d.es.map fun e => ⟨2, 0, e⟩)).es = _
  rw [this]
  rfl
end Go.Proofs.Ytkngpfngfmbmjaa
/-
  The document's acceptor in memory: its block, its entries' row, whose block is whose. No condition.
-/
namespace Go.Proofs.Ytkngpfngfmbmjaa
open Go.RowKit

theorem sizeEnt : (Try.prog.info? 36).map (·.size) = some 7 := by kernel_rfl
theorem sizeOut : (Try.prog.info? 42).map (·.size) = some 4 := by kernel_rfl
/-- A struct that lies in a cell, and one answer more. -/
theorem results_two {fn : Func} {p q : Tmp} {ty : TypeId} (h : fn.results = #[.cell p ty, .tmp q]) (tmps : Array Value) (w : World) (g : Nat) (cs : Array Value)
    (hp : tmps.getD p undef = .pointer (some ⟨g, 0, none⟩)) (hl : (loadVar ty ⟨g, 0, none⟩).run Try.prog w = .ok (.agg cs) w) :
    (results fn tmps).run Try.prog w = .ok (.tuple #[.agg cs, tmps.getD q undef]) w := by
  have hp' : tmps[p]?.getD undef = .pointer (some ⟨g, 0, none⟩) := by simpa using hp
  simp [results, h, hp', asAddr, hl]
theorem load_ent {w : World} {g : Nat} {e : En} (hg : w.heap[g]? = some (.cells (enA e) 36 (0, 0))) : (loadVar 36 ⟨g, 0, none⟩).run Try.prog w = .ok (.agg (enA e)) w :=
  run_loadVar_row w g 36 36 _ (0, 0) _ hg Try.underlying36 rfl sizeEnt
/-- An answer's cells: its records; no messages, nothing to apply. -/
abbrev outA (u : Value) : Array Value := #[u, .bool false, .slice none 0 0, .slice none 0 0]
theorem load_out {w : World} {g : Nat} {u : Value} (hg : w.heap[g]? = some (.cells (outA u) 42 (0, 0))) : (loadVar 42 ⟨g, 0, none⟩).run Try.prog w = .ok (.agg (outA u)) w :=
  run_loadVar_row w g 42 42 _ (0, 0) _ hg Try.underlying42 rfl sizeOut
/-- An acceptor in memory, whosever: its block, its entries' row; 'S': its own blocks. -/
structure AcAt (T : TypeId) (w : World) (base : Nat) (S : Nat → Prop) (X : Nat) (d : Du) (v : Value) : Prop where
  blk : w.heap[X]? = some (.cells (duA d v) T (0, 0))
  own : OwnEn w base v d.es
  lo : base ≤ X
  ne : v.ownBlock ≠ some X
  set : ∀ b, S b ↔ b = X ∨ v.ownBlock = some b
/-- The document's, the program's. -/
abbrev RA := AcAt 63
abbrev PA := AcAt 61
section
variable {T : TypeId} {w w' : World} {base X : Nat} {S : Nat → Prop} {d : Du} {v : Value}
theorem AcAt.lt (h : AcAt T w base S X d v) : X < w.heap.size := lt_of_block h.blk
theorem AcAt.bd (h : AcAt T w base S X d v) : ∀ b, S b → base ≤ b ∧ b < w.heap.size := fun b hb => by
  rcases (h.set b).1 hb with rfl | e
  · exact ⟨h.lo, h.lt⟩
  · exact h.own.lt b e
theorem AcAt.keep (h : AcAt T w base S X d v) (hk : ∀ b, S b → w'.heap[b]? = w.heap[b]?) : AcAt T w' base S X d v :=
  ⟨(hk X ((h.set X).2 (Or.inl rfl))).trans h.blk, own_keep h.own fun g e => hk g ((h.set g).2 (Or.inr e)), h.lo, h.ne, h.set⟩
theorem AcAt.fresh (h : AcAt T w base S X d v) (b : Below w.heap.size w w') : AcAt T w' base S X d v := h.keep fun g hg => b.block g (h.bd g hg).2
theorem AcAt.c0 (h : AcAt T w base S X d v) : w.cell? ⟨X, 0, none⟩ = some (.int .i64 d.p) := by simp [World.cell?, h.blk]
theorem AcAt.c1 (h : AcAt T w base S X d v) : w.cell? ⟨X, 1, none⟩ = some (.int .i64 d.b) := by simp [World.cell?, h.blk]
theorem AcAt.c2 (h : AcAt T w base S X d v) : w.cell? ⟨X, 2, none⟩ = some (.string d.s) := by simp [World.cell?, h.blk]
theorem AcAt.c3 (h : AcAt T w base S X d v) : w.cell? ⟨X, 3, none⟩ = some v := by simp [World.cell?, h.blk]
theorem AcAt.fz (h : AcAt T w base S X d v) (i : Nat) : w.frozen? ⟨X, i, none⟩ = false := by simp [World.frozen?, h.blk]
theorem AcAt.form (h : AcAt T w base S X d v) : ∃ a c, v = .slice a d.es.length c := (OwnEn.row h.own).form
/-- The block turned, the row's block perhaps, or a new one. -/
theorem AcAt.next (h : AcAt T w base S X d v) {d' : Du} {v' : Value} (hb : w'.heap[X]? = some (.cells (duA d' v') T (0, 0))) (ho : OwnEn w' base v' d'.es) (hT : 36 ≠ T) : AcAt T w' base (fun b => b = X ∨ v'.ownBlock = some b) X d' v' :=
  ⟨hb, ho, h.lo, own_ne ho hb hT, fun _ => Iff.rfl⟩
theorem AcAt.kept (h : AcAt T w base S X d v) {v' : Value} (os : w'.os = w.os) (tape : w'.tape = w.tape) (output : w'.output = w.output) (size : w.heap.size ≤ w'.heap.size) (hl : ∀ g, v'.ownBlock = some g → v.ownBlock = some g ∨ w.heap.size ≤ g) (hk : ∀ b, b < w.heap.size → b ≠ X → v.ownBlock ≠ some b → w'.heap[b]? = w.heap[b]?) : Kept w w' S (fun b => b = X ∨ v'.ownBlock = some b) := by
  refine ⟨os, tape, output, size, fun b hb => ?_, fun b hb hs => hk b hb (fun e => hs ((h.set b).2 (Or.inl e))) (fun e => hs ((h.set b).2 (Or.inr e)))⟩
  rcases hb with hb | hb
  · exact Or.inl ((h.set b).2 (Or.inl hb))
  · rcases hl b hb with h1 | h1
    · exact Or.inl ((h.set b).2 (Or.inr h1))
    · exact Or.inr h1
/-- A number of its own set. -/
theorem AcAt.set0 (h : AcAt T w base S X d v) (p : Int) : AcAt T (w.setCell ⟨X, 0, none⟩ (.int .i64 p)) base S X ⟨p, d.b, d.s, d.es⟩ v := by
  refine ⟨?_, own_keep h.own fun g e => heap_setCell_other _ _ _ _ (fun e2 => h.ne (by rw [e, e2])), h.lo, h.ne, h.set⟩
  rw [heap_setCell_same w X 0 _ _ _ h.blk]
  rfl
theorem AcAt.kept0 (h : AcAt T w base S X d v) (i : Nat) (x : Value) : Kept w (w.setCell ⟨X, i, none⟩ x) S S :=
  ⟨rfl, rfl, rfl, by simp, fun b hb => Or.inl hb, fun b _ hs => heap_setCell_other _ _ _ _ (fun e => hs ((h.set b).2 (Or.inl e)))⟩
end
end Go.Proofs.Ytkngpfngfmbmjaa
