/-
  A deed on the program's sessions with a document beside it that is new; two programs' sessions one behind the other. The conditions: numbers are ints; an answer's numbers are those that commands have.
-/
import Derived.Test.YthokbififjhflaaSdDo
import Derived.Test.YthokbififjhflaaSeAwake
namespace Go.Proofs.Ythokbififjhflaa
open Go.RowKit

theorem doL_len (l : List SeX) (v : Sd) : (doL l v).length ≤ l.length + 1 := by
  unfold doL
  split
  · unfold seOpn
    repeat' split
    all_goals first | exact Nat.le_succ _ | (simp only [List.length_append, List.length_singleton]; exact Nat.le_refl _)
  · split
    · unfold seClo
      repeat' split
      all_goals first | exact Nat.le_succ _ | (rw [List.length_set]; exact Nat.le_succ _)
    · split
      · unfold seBeg
        repeat' split
        all_goals first | exact Nat.le_succ _ | (rw [List.length_set]; exact Nat.le_succ _)
      · split
        · unfold seEnd
          repeat' split
          all_goals first | exact Nat.le_succ _ | (rw [List.length_set]; exact Nat.le_succ _)
        · exact Nat.le_succ _
/-- A document's sessions, new: nothing. -/
abbrev sx0 : Array Value := #[.slice none 0 0, .int .i64 0, .int .i64 0, .int .i64 0, .int .i64 0, .int .i64 0, .int .i64 0, .int .i64 0, .int .i64 0, .int .i64 0, .int .i64 0, .int .i64 0, .int .i64 0, .int .i64 0, .int .i64 0, .int .i64 0, .int .i64 0]
theorem sx_new (w : World) {base : Nat} (hb : base ≤ w.heap.size) : SxAt (w.alloc (.cells sx0 31)) base w.heap.size (fun g => g = w.heap.size) [] :=
  ⟨⟨[], .slice none 0 0, fun _ => 0, fun _ => 0, ⟨heap_alloc_new w _, World.ownsRow_nil _ _ _ _, fun c _ => (seLif_nil c).symm, fun c _ => by rw [seLat_nil]; rfl, hb, fun g => ⟨Or.inl, fun h => by
    rcases h with h | h
    · exact h
    · cases h⟩⟩, rfl⟩, SeOk.nil, by decide⟩
theorem SeAt.low {w : World} {base base' X : Nat} {S : Nat → Prop} {l : List SeX} (h : SeAt w base X S l) (hb : base' ≤ base) : SeAt w base' X S l := by
  obtain ⟨ma, mo, la, lo, ps, L, hM⟩ := h.ex
  exact ⟨⟨ma, mo, la, lo, ps, L, { hM with lo := fun g hg => Nat.le_trans hb (hM.lo g hg) }⟩, h.ok, h.len⟩
structure GoP (w : World) (base X : Nat) (S : Nat → Prop) (l : List SeX) (v : Sd) (e : Ending) (w' : World) : Prop where
  ex : ∃ S' b, e = .returned (.bool b) ∧ SeAt w' base X S' (doL l v) ∧ Kept w w' S S'
theorem go_do {w : World} {base X : Nat} {S : Nat → Prop} {l : List SeX} (h : SeAt w base X S l) (hb : base ≤ w.heap.size) (v : Sd) (ok : SdOk v) (hp : sdP v = true) (hl : l.length < 1000000) :
    Calls Try.prog 11 #[.pointer (some ⟨X, 0, none⟩), .pointer (some ⟨w.heap.size, 0, none⟩), .agg (sdA v)] (w.alloc (.cells sx0 31)) (GoP w base X S l v) := by
  have b0 : Below w.heap.size w (w.alloc (.cells sx0 31)) := (Below.refl _ w).alloc (Nat.le_refl _) _
  have tw : SeTw (w.alloc (.cells sx0 31)) base X w.heap.size S (fun g => g = w.heap.size) l [] := ⟨h.fresh b0, sx_new w hb, fun g hg e => by have := (h.bd g hg).2; omega⟩
  refine (do_any tw v ok hp hl (by decide)).mono ?_
  rintro e w' ⟨⟨S', T', b, he, _, tw', k⟩⟩
  refine ⟨S', b, he, tw'.a, ⟨k.os.trans b0.os, k.tape.trans b0.tape, k.output.trans b0.output, Nat.le_trans b0.size k.size, fun g hg => ?_, fun g hg hn => ?_⟩⟩
  · rcases k.old g (Or.inl hg) with (h1 | h1) | h1
    · exact Or.inl h1
    · exact Or.inr (Nat.le_of_eq h1.symm)
    · exact Or.inr (Nat.le_trans b0.size h1)
  · refine (k.kept g (Nat.lt_of_lt_of_le hg b0.size) ?_).trans (b0.block g hg)
    rintro (h1 | h1)
    · exact hn h1
    · have h2 : g = w.heap.size := h1
      omega
/-- The first alone. -/
structure GoS (w wr : World) (X : Nat) (l : List SeX) : Prop where
  ex : ∃ S, SeAt wr w.heap.size X S l
  bel : Below w.heap.size w wr
theorem GoS.fresh {w wr wr' : World} {X : Nat} {l : List SeX} (I : GoS w wr X l) (b : Below wr.heap.size wr wr') : GoS w wr' X l := by
  obtain ⟨S, h⟩ := I.ex
  exact ⟨⟨S, h.fresh b⟩, bmm I.bel I.bel.size b⟩
structure GoQ (I : World → Prop) (e : Ending) (w' : World) : Prop where
  ex : ∃ b, e = .returned (.bool b) ∧ I w'
theorem GoS.step {w wr : World} {X : Nat} {l : List SeX} (I : GoS w wr X l) (v : Sd) (ok : SdOk v) (hp : sdP v = true) (hl : l.length < 1000000) : Calls Try.prog 11 #[.pointer (some ⟨X, 0, none⟩), .pointer (some ⟨wr.heap.size, 0, none⟩), .agg (sdA v)] (wr.alloc (.cells sx0 31)) (GoQ fun w' => GoS w w' X (doL l v)) := by
  obtain ⟨S, h⟩ := I.ex
  refine (go_do h I.bel.size v ok hp hl).mono ?_
  rintro e w' ⟨⟨S', b, he, h', k⟩⟩
  exact ⟨b, he, ⟨S', h'⟩, h.lowk k I.bel (Nat.le_refl _)⟩
/-- Both, apart. -/
structure GoH (w wr : World) (X Y : Nat) (l m : List SeX) : Prop where
  ex : ∃ S T, SeAt wr w.heap.size X S l ∧ SeAt wr w.heap.size Y T m ∧ (∀ g, S g → ¬ T g)
  bel : Below w.heap.size w wr
theorem GoH.fresh {w wr wr' : World} {X Y : Nat} {l m : List SeX} (I : GoH w wr X Y l m) (b : Below wr.heap.size wr wr') : GoH w wr' X Y l m := by
  obtain ⟨S, T, h1, h2, h3⟩ := I.ex
  exact ⟨⟨S, T, h1.fresh b, h2.fresh b, h3⟩, bmm I.bel I.bel.size b⟩
theorem GoH.stepX {w wr : World} {X Y : Nat} {l m : List SeX} (I : GoH w wr X Y l m) (v : Sd) (ok : SdOk v) (hp : sdP v = true) (hl : l.length < 1000000) : Calls Try.prog 11 #[.pointer (some ⟨X, 0, none⟩), .pointer (some ⟨wr.heap.size, 0, none⟩), .agg (sdA v)] (wr.alloc (.cells sx0 31)) (GoQ fun w' => GoH w w' X Y (doL l v) m) := by
  obtain ⟨S, T, h1, h2, h3⟩ := I.ex
  refine (go_do h1 I.bel.size v ok hp hl).mono ?_
  rintro e w' ⟨⟨S', b, he, h', k⟩⟩
  refine ⟨b, he, ⟨S', T, h', h2.keep fun g hg => k.kept g (h2.bd g hg).2 fun hs => h3 g hs hg, fun g hg hT => ?_⟩, h1.lowk k I.bel (Nat.le_refl _)⟩
  rcases k.old g hg with h4 | h4
  · exact h3 g h4 hT
  · have := (h2.bd g hT).2
    omega
theorem GoH.stepY {w wr : World} {X Y : Nat} {l m : List SeX} (I : GoH w wr X Y l m) (v : Sd) (ok : SdOk v) (hp : sdP v = true) (hl : m.length < 1000000) : Calls Try.prog 11 #[.pointer (some ⟨Y, 0, none⟩), .pointer (some ⟨wr.heap.size, 0, none⟩), .agg (sdA v)] (wr.alloc (.cells sx0 31)) (GoQ fun w' => GoH w w' X Y l (doL m v)) := by
  obtain ⟨S, T, h1, h2, h3⟩ := I.ex
  refine (go_do h2 I.bel.size v ok hp hl).mono ?_
  rintro e w' ⟨⟨T', b, he, h', k⟩⟩
  refine ⟨b, he, ⟨S, T', h1.keep fun g hg => k.kept g (h1.bd g hg).2 fun hs => h3 g hg hs, h', fun g hS hg => ?_⟩, h2.lowk k I.bel (Nat.le_refl _)⟩
  rcases k.old g hg with h4 | h4
  · exact h3 g hS h4
  · have := (h1.bd g hS).2
    omega
theorem GoH.encX {w wr : World} {X Y : Nat} {l m : List SeX} (I : GoH w wr X Y l m) (hl : l.length ≤ 100000) : Calls Try.prog 15 #[.pointer (some ⟨X, 0, none⟩)] wr fun e w' => e = .returned (.string ⟨(seEnc l).toArray⟩) ∧ GoH w w' X Y l m := by
  obtain ⟨S, T, h1, h2, h3⟩ := I.ex
  exact (sencode_any h1 hl).mono fun e w' ⟨he, b⟩ => ⟨he, I.fresh b⟩
theorem GoH.encY {w wr : World} {X Y : Nat} {l m : List SeX} (I : GoH w wr X Y l m) (hl : m.length ≤ 100000) : Calls Try.prog 15 #[.pointer (some ⟨Y, 0, none⟩)] wr fun e w' => e = .returned (.string ⟨(seEnc m).toArray⟩) ∧ GoH w w' X Y l m := by
  obtain ⟨S, T, h1, h2, h3⟩ := I.ex
  exact (sencode_any h2 hl).mono fun e w' ⟨he, b⟩ => ⟨he, I.fresh b⟩
theorem GoS.enc {w wr : World} {X : Nat} {l : List SeX} (I : GoS w wr X l) (hl : l.length ≤ 100000) : Calls Try.prog 15 #[.pointer (some ⟨X, 0, none⟩)] wr fun e w' => e = .returned (.string ⟨(seEnc l).toArray⟩) ∧ GoS w w' X l := by
  obtain ⟨S, h⟩ := I.ex
  exact (sencode_any h hl).mono fun e w' ⟨he, b⟩ => ⟨he, I.fresh b⟩
structure GoD (w : World) (X : Nat) (l : List SeX) (e : Ending) (w' : World) : Prop where
  ex : ∃ Y, e = .returned (.tuple #[.pointer (some ⟨Y, 0, none⟩), .int .i64 0]) ∧ GoH w w' X Y l l
theorem GoS.dec {w wr : World} {X : Nat} {l : List SeX} (I : GoS w wr X l) (hl : l.length ≤ 100000) : Calls Try.prog 20 #[.string ⟨(seEnc l).toArray⟩] wr (GoD w X l) := by
  obtain ⟨S, h⟩ := I.ex
  refine (sdecode_any h.ok hl wr).mono ?_
  rintro e w' ⟨⟨Y, T, he, h', b⟩⟩
  exact ⟨Y, he, ⟨S, T, h.fresh b, h'.low I.bel.size, fun g hg hT => by have := (h.bd g hg).2; have := (h'.bd g hT).1; omega⟩, bmm I.bel I.bel.size b⟩
end Go.Proofs.Ythokbififjhflaa
