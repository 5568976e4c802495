/-
  Both sides beside each other; a deed on both, as plain data. The conditions: numbers are ints; an answer's numbers are those that commands have.
-/
import Derived.Test.YthokbififjhflaaSeNone
import Derived.Test.YthokbififjhflaaSxBegin
import Derived.Test.YthokbififjhflaaSxEnd
import Derived.Test.YthokbififjhflaaSxOpen
import Derived.Test.YthokbififjhflaaSeAdd
import Derived.Test.YthokbififjhflaaSeFin
namespace Go.Proofs.Ythokbififjhflaa
open Go.RowKit

/-- The program's sessions and the document's. -/
structure SeTw (w : World) (base X Y : Nat) (S T : Nat → Prop) (l m : List SeX) : Prop where
  a : SeAt w base X S l
  b : SxAt w base Y T m
  ap : ∀ g, S g → ¬ T g
abbrev seU (S T : Nat → Prop) : Nat → Prop := fun g => S g ∨ T g
section
variable {w w' : World} {base X Y : Nat} {S T : Nat → Prop} {l m : List SeX}
theorem SeTw.stepA (h : SeTw w base X Y S T l m) {S' : Nat → Prop} {l' : List SeX} (h' : SeAt w' base X S' l') (k : Kept w w' S S') : SeTw w' base X Y S' T l' m ∧ Kept w w' (seU S T) (seU S' T) := by
  refine ⟨⟨h', h.b.keep fun g hg => k.kept g (h.b.bd g hg).2 (fun hs => h.ap g hs hg), fun g hg hT => ?_⟩, ⟨k.os, k.tape, k.output, k.size, fun g hg => ?_, fun g hlt hn => k.kept g hlt (fun hs => hn (Or.inl hs))⟩⟩
  · rcases k.old g hg with h1 | h1
    · exact h.ap g h1 hT
    · have := (h.b.bd g hT).2
      omega
  · rcases hg with h1 | h1
    · rcases k.old g h1 with h2 | h2
      · exact Or.inl (Or.inl h2)
      · exact Or.inr h2
    · exact Or.inl (Or.inr h1)
theorem SeTw.stepB (h : SeTw w base X Y S T l m) {T' : Nat → Prop} {m' : List SeX} (h' : SxAt w' base Y T' m') (k : Kept w w' T T') : SeTw w' base X Y S T' l m' ∧ Kept w w' (seU S T) (seU S T') := by
  refine ⟨⟨h.a.keep fun g hg => k.kept g (h.a.bd g hg).2 (fun hs => h.ap g hg hs), h', fun g hS hg => ?_⟩, ⟨k.os, k.tape, k.output, k.size, fun g hg => ?_, fun g hlt hn => k.kept g hlt (fun hs => hn (Or.inr hs))⟩⟩
  · rcases k.old g hg with h1 | h1
    · exact h.ap g hS h1
    · have := (h.a.bd g hS).2
      omega
  · rcases hg with h1 | h1
    · exact Or.inl (Or.inl h1)
    · rcases k.old g h1 with h2 | h2
      · exact Or.inl (Or.inr h2)
      · exact Or.inr h2
theorem SeTw.fresh (h : SeTw w base X Y S T l m) (b : Below w.heap.size w w') : SeTw w' base X Y S T l m := ⟨h.a.fresh b, h.b.fresh b, h.ap⟩
theorem SeTw.bd (h : SeTw w base X Y S T l m) : ∀ g, seU S T g → base ≤ g ∧ g < w.heap.size := fun g hg => by
  rcases hg with h1 | h1
  · exact h.a.bd g h1
  · exact h.b.bd g h1
end
/-- What a deed leaves. -/
def doL (l : List SeX) (v : Sd) : List SeX := if v.kind = 0 then (seOpn l v.n v.seq).1 else if v.kind = 1 then (seClo l v.n).1 else if v.kind = 2 then (seBeg l v.n v.seq).1 else if v.kind = 3 then (seEnd l v.r).1 else l
/-- Within a deed: both, and the deed's own block. -/
structure DoI (w wr : World) (base X Y : Nat) (S T : Nat → Prop) (l m : List SeX) (v : Sd) : Prop where
  ex : ∃ S' T', SeTw wr base X Y S' T' l m ∧ Kept w wr (seU S T) (seU S' T') ∧ ¬ S' w.heap.size ∧ ¬ T' w.heap.size
  d : SdAt wr w.heap.size v
/-- Behind it. -/
structure DoP (w : World) (base X Y : Nat) (S T : Nat → Prop) (l m : List SeX) (v : Sd) (e : Ending) (w' : World) : Prop where
  ex : ∃ S' T' b, e = .returned (.bool b) ∧ (l = m → b = true) ∧ SeTw w' base X Y S' T' (doL l v) (doL m v) ∧ Kept w w' (seU S T) (seU S' T')
section
variable {w wr w' : World} {base X Y : Nat} {S T : Nat → Prop} {l m l' m' : List SeX} {v : Sd}
theorem DoI.fin (I : DoI w wr base X Y S T l' m' v) {b : Bool} {q : Ending} (hq : q = .returned (.bool b)) (hb : l = m → b = true) (hl : doL l v = l') (hm : doL m v = m') : DoP w base X Y S T l m v q wr := by
  obtain ⟨S', T', h1, h2, _⟩ := I.ex
  exact ⟨S', T', b, hq, hb, by rw [hl, hm]; exact h1, h2⟩
theorem DoI.below (I : DoI w wr base X Y S T l m v) (b : Below wr.heap.size wr w') : DoI w w' base X Y S T l m v := by
  obtain ⟨S', T', h1, h2, h3, h4⟩ := I.ex
  exact ⟨⟨S', T', h1.fresh b, h2.trans (Kept.of b), h3, h4⟩, (b.block _ (lt_of_block I.d)).trans I.d⟩
theorem DoI.stepA (I : DoI w wr base X Y S T l m v) {Q : Ending → World → Prop} {f : FuncId} {vs : Array Value} (hc : ∀ S', SeAt wr base X S' l → Calls Try.prog f vs wr fun e w' => Q e w' ∧ ∃ S2, SeAt w' base X S2 l' ∧ Kept wr w' S' S2) : Calls Try.prog f vs wr fun e w' => Q e w' ∧ DoI w w' base X Y S T l' m v := by
  obtain ⟨S', T', h1, h2, h3, h4⟩ := I.ex
  refine (hc S' h1.a).mono ?_
  rintro e w' ⟨hq, S2, hA, hk⟩
  have hD := lt_of_block I.d
  obtain ⟨s1, s2⟩ := h1.stepA hA hk
  refine ⟨hq, ⟨S2, T', s1, h2.trans s2, fun hs => ?_, h4⟩, (hk.kept _ hD h3).trans I.d⟩
  rcases hk.old _ hs with h5 | h5
  · exact h3 h5
  · omega
theorem DoI.stepB (I : DoI w wr base X Y S T l m v) {Q : Ending → World → Prop} {f : FuncId} {vs : Array Value} (hc : ∀ T', SxAt wr base Y T' m → Calls Try.prog f vs wr fun e w' => Q e w' ∧ ∃ T2, SxAt w' base Y T2 m' ∧ Kept wr w' T' T2) : Calls Try.prog f vs wr fun e w' => Q e w' ∧ DoI w w' base X Y S T l m' v := by
  obtain ⟨S', T', h1, h2, h3, h4⟩ := I.ex
  refine (hc T' h1.b).mono ?_
  rintro e w' ⟨hq, S2, hA, hk⟩
  have hD := lt_of_block I.d
  obtain ⟨s1, s2⟩ := h1.stepB hA hk
  refine ⟨hq, ⟨S', S2, s1, h2.trans s2, h3, fun hs => ?_⟩, (hk.kept _ hD h4).trans I.d⟩
  rcases hk.old _ hs with h5 | h5
  · exact h4 h5
  · omega
theorem DoI.opnA (I : DoI w wr base X Y S T l m v) (hl : l.length < 1000000) (c f : Int) : Calls Try.prog 22 #[.pointer (some ⟨X, 0, none⟩), .int .i64 c, .int .i64 f] wr fun e w' => e = .returned (.tuple #[.int .i64 (seOpn l c f).2.1, .bool (seOpn l c f).2.2.1, .int .i64 (seOpn l c f).2.2.2]) ∧ DoI w w' base X Y S T (seOpn l c f).1 m v :=
  I.stepA fun _ h => (sopen_any h hl).mono fun _ _ ⟨S2, h1, h2, h3⟩ => ⟨h1, S2, h2, h3⟩
theorem DoI.opnB (I : DoI w wr base X Y S T l m v) (hl : m.length < 1000000) (c f : Int) : Calls Try.prog 26 #[.pointer (some ⟨Y, 0, none⟩), .int .i64 c, .int .i64 f] wr fun e w' => e = .returned (.tuple #[.int .i64 (seOpn m c f).2.1, .bool (seOpn m c f).2.2.1, .int .i64 (seOpn m c f).2.2.2]) ∧ DoI w w' base X Y S T l (seOpn m c f).1 v :=
  I.stepB fun _ h => (xopen_any h hl).mono fun _ _ ⟨S2, h1, h2, h3⟩ => ⟨h1, S2, h2, h3⟩
theorem DoI.cloA (I : DoI w wr base X Y S T l m v) {c : Int} (hc : okI c) : Calls Try.prog 25 #[.pointer (some ⟨X, 0, none⟩), .int .i64 c] wr fun e w' => e = .returned (.bool (seClo l c).2) ∧ DoI w w' base X Y S T (seClo l c).1 m v :=
  I.stepA fun S' h => (close_any h hc).mono fun _ _ ⟨h1, h2, h3⟩ => ⟨h1, S', h2, h3⟩
theorem DoI.cloB (I : DoI w wr base X Y S T l m v) {c : Int} (hc : okI c) : Calls Try.prog 27 #[.pointer (some ⟨Y, 0, none⟩), .int .i64 c] wr fun e w' => e = .returned (.bool (seClo m c).2) ∧ DoI w w' base X Y S T l (seClo m c).1 v :=
  I.stepB fun S' h => (xclose_any h hc).mono fun _ _ ⟨h1, h2, h3⟩ => ⟨h1, S', h2, h3⟩
theorem DoI.begA (I : DoI w wr base X Y S T l m v) {c q : Int} (hc : okI c) (hq : okI q) : Calls Try.prog 23 #[.pointer (some ⟨X, 0, none⟩), .int .i64 c, .int .i64 q] wr fun e w' => e = .returned (.tuple #[.agg (seRA (seBeg l c q).2.1), .int .i64 (seBeg l c q).2.2]) ∧ DoI w w' base X Y S T (seBeg l c q).1 m v :=
  I.stepA fun S' h => (sbegin_any h hc hq).mono fun _ _ ⟨h1, h2, h3⟩ => ⟨h1, S', h2, h3⟩
theorem DoI.begB (I : DoI w wr base X Y S T l m v) {c q : Int} (hc : okI c) (hq : okI q) : Calls Try.prog 28 #[.pointer (some ⟨Y, 0, none⟩), .int .i64 c, .int .i64 q] wr fun e w' => e = .returned (.tuple #[.agg (seRA (seBeg m c q).2.1), .int .i64 (seBeg m c q).2.2]) ∧ DoI w w' base X Y S T l (seBeg m c q).1 v :=
  I.stepB fun S' h => (xbegin_any h hc hq).mono fun _ _ ⟨h1, h2, h3⟩ => ⟨h1, S', h2, h3⟩
theorem DoI.finA (I : DoI w wr base X Y S T l m v) {r : SeR} (hc : okI r.session) (hr : r.Ok) : Calls Try.prog 24 #[.pointer (some ⟨X, 0, none⟩), .agg (seRA r)] wr fun e w' => e = .returned (.bool (seEnd l r).2) ∧ DoI w w' base X Y S T (seEnd l r).1 m v :=
  I.stepA fun S' h => (send_any h hc hr).mono fun _ _ ⟨h1, h2, h3⟩ => ⟨h1, S', h2, h3⟩
theorem DoI.finB (I : DoI w wr base X Y S T l m v) {r : SeR} (hc : okI r.session) (hr : r.Ok) : Calls Try.prog 29 #[.pointer (some ⟨Y, 0, none⟩), .agg (seRA r)] wr fun e w' => e = .returned (.bool (seEnd m r).2) ∧ DoI w w' base X Y S T l (seEnd m r).1 v :=
  I.stepB fun S' h => (xend_any h hc hr).mono fun _ _ ⟨h1, h2, h3⟩ => ⟨h1, S', h2, h3⟩
theorem DoI.begC (I : DoI w wr base X Y S T l m v) {y : World} (b : Below wr.heap.size wr y) {c q : Int} (hc : okI c) (hq : okI q) {B : Nat} {o : Obj} (hB : wr.heap.size ≤ B) (hO : y.heap[B]? = some o) : Calls Try.prog 28 #[.pointer (some ⟨Y, 0, none⟩), .int .i64 c, .int .i64 q] y fun e w' => (e = .returned (.tuple #[.agg (seRA (seBeg m c q).2.1), .int .i64 (seBeg m c q).2.2]) ∧ DoI w w' base X Y S T l (seBeg m c q).1 v) ∧ w'.heap[B]? = some o := by
  obtain ⟨S', T', h1, h2, h3, h4⟩ := I.ex
  have hD : w.heap.size < y.heap.size := lt_of_block ((b.block _ (lt_of_block I.d)).trans I.d)
  have hd := (b.block _ (lt_of_block I.d)).trans I.d
  have g1 := h1.fresh b
  refine (xbegin_any g1.b hc hq).mono ?_
  rintro e w' ⟨hqq, hA, hk⟩
  obtain ⟨s1, s2⟩ := g1.stepB hA hk
  have hnB : ¬ T' B := fun hT => by
    have := (h1.b.bd B hT).2
    omega
  exact ⟨⟨hqq, ⟨S', T', s1, (h2.trans (Kept.of b)).trans s2, h3, h4⟩, (hk.kept _ hD h4).trans hd⟩, (hk.kept B (lt_of_block hO) hnB).trans hO⟩
end
/-- Has a deed numbers that commands have? -/
def sdP (v : Sd) : Bool := (!(v.kind == 2) && !(v.kind == 3)) || (decide (1 ≤ v.seq) && decide (v.seq ≤ 1073741824) && decide (0 ≤ v.r.err) && decide (v.r.err ≤ 255) && decide (0 ≤ v.r.n) && decide (v.r.n ≤ 1073741824))
/-- Two answers compared. -/
def seRB (a b : SeR) : Bool := a.session == b.session && (a.seq == b.seq && (a.err == b.err && (a.token == b.token && a.n == b.n)))
theorem seRB_self (a : SeR) : seRB a a = true := by simp [seRB]
set_option maxRecDepth 100000 in
theorem se_eql (a b : SeR) (w : World) : (binOp .eql 36 (.agg #[.int .i64 a.session, .int .i64 a.seq, .int .i64 a.err, .int .u64 a.token, .int .i64 a.n]) (.agg #[.int .i64 b.session, .int .i64 b.seq, .int .i64 b.err, .int .u64 b.token, .int .i64 b.n])).run Try.prog w = .ok (.bool (seRB a b)) w := by
  unfold seRB
  cases h0 : (a.session == b.session) with
  | false => simp [go_sem, h0]
  | true =>
    cases h1 : (a.seq == b.seq) with
    | false => simp [go_sem, h0, h1]
    | true =>
      cases h2 : (a.err == b.err) with
      | false => simp [go_sem, h0, h1, h2]
      | true =>
        cases h3 : (a.token == b.token) with
        | false => simp [go_sem, h0, h1, h2, h3]
        | true =>
          cases h4 : (a.n == b.n) with
          | false => simp [go_sem, h0, h1, h2, h3, h4]
          | true =>
            simp [go_sem, h0, h1, h2, h3, h4]
end Go.Proofs.Ythokbififjhflaa
