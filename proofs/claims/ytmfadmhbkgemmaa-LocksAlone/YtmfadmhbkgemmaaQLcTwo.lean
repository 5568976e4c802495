/-
  The program's locks and the document's, side by side; a deed boxed beside them. The conditions: numbers are ints, names at most 1000 bytes; fewer than 32767 deeds.
-/
import Derived.Test.YtmfadmhbkgemmaaQLcNone
import Derived.Test.YtmfadmhbkgemmaaQLcHolders
import Derived.Test.YtmfadmhbkgemmaaQPackC
namespace Go.Proofs.Ytmfadmhbkgemmaa
open Go.RowKit

structure AloB (w wr : World) (X Y B : Nat) (x : Ld) (N : Nat) (c : Int) (l : List Lk) (M : Nat) (d : Int) (m : List Lk) : Prop where
  ex : ∃ S T, LcW wr w.heap.size X S N c l ∧ LoW wr w.heap.size Y T M d m ∧ (∀ g, S g → ¬ T g) ∧ ¬ S B ∧ ¬ T B
  bel : Below w.heap.size w wr
  box : LdAt wr B x
structure AloW (w wr : World) (X Y : Nat) (N : Nat) (c : Int) (l : List Lk) : Prop where
  ex : ∃ S T, LcW wr w.heap.size X S N c l ∧ LoW wr w.heap.size Y T N c l ∧ (∀ g, S g → ¬ T g)
  bel : Below w.heap.size w wr
section
variable {w wr w' : World} {X Y B N M : Nat} {x : Ld} {c d : Int} {l m : List Lk}
theorem AloW.fresh (h : AloW w wr X Y N c l) (b : Below wr.heap.size wr w') : AloW w w' X Y N c l := by
  obtain ⟨S, T, h1, h2, h3⟩ := h.ex
  exact ⟨⟨S, T, h1.fresh b, h2.fresh b, h3⟩, bmm h.bel h.bel.size b⟩
theorem AloW.up (h : AloW w wr X Y N c l) (hn : N ≤ M) : AloW w wr X Y M c l := by
  obtain ⟨S, T, h1, h2, h3⟩ := h.ex
  exact ⟨⟨S, T, h1.up hn, h2.up hn, h3⟩, h.bel⟩
theorem AloW.boxed (h : AloW w wr X Y N c l) (b : Below wr.heap.size wr w') (hd : LdAt w' B x) (hB : wr.heap.size ≤ B) : AloB w w' X Y B x N c l N c l := by
  obtain ⟨S, T, h1, h2, h3⟩ := h.ex
  exact ⟨⟨S, T, h1.fresh b, h2.fresh b, h3, fun e => by have := (h1.bd B e).2; omega, fun e => by have := (h2.bd B e).2; omega⟩, bmm h.bel h.bel.size b, hd⟩
theorem AloB.fresh (h : AloB w wr X Y B x N c l M d m) (b : Below wr.heap.size wr w') : AloB w w' X Y B x N c l M d m := by
  obtain ⟨S, T, h1, h2, h3⟩ := h.ex
  exact ⟨⟨S, T, h1.fresh b, h2.fresh b, h3⟩, bmm h.bel h.bel.size b, (b.block _ (lt_of_block h.box)).trans h.box⟩
theorem AloB.back (h : AloB w wr X Y B x N c l N c l) : AloW w wr X Y N c l := by
  obtain ⟨S, T, h1, h2, h3, _⟩ := h.ex
  exact ⟨⟨S, T, h1, h2, h3⟩, h.bel⟩
theorem AloB.up (h : AloB w wr X Y B x N c l M d m) {N' M' : Nat} (hn : N ≤ N') (hm : M ≤ M') : AloB w wr X Y B x N' c l M' d m := by
  obtain ⟨S, T, h1, h2, h3⟩ := h.ex
  exact ⟨⟨S, T, h1.up hn, h2.up hm, h3⟩, h.bel, h.box⟩
theorem lo_low {w0 : World} {D : Nat} {S S' : Nat → Prop} (h : LoW wr w0.heap.size D S N c l) (k : Kept wr w' S S') (b : Below w0.heap.size w0 wr) : Below w0.heap.size w0 w' :=
  b.trans (k.low (Nat.le_trans (Nat.le_refl _) b.size) (fun g hg => (h.bd g hg).1))
theorem AloB.sideA {S T S' : Nat → Prop} {N' : Nat} {c' : Int} {l' : List Lk} (h : AloB w wr X Y B x N c l M d m) (hA : LcW wr w.heap.size X S N c l) (hB : LoW wr w.heap.size Y T M d m) (hd : ∀ g, S g → ¬ T g) (b1 : ¬ S B) (b2 : ¬ T B)
    (h2 : LcW w' w.heap.size X S' N' c' l') (k : Kept wr w' S S') : AloB w w' X Y B x N' c' l' M d m := by
  have hlt := lt_of_block h.box
  refine ⟨⟨S', T, h2, hB.keep k.size fun g hg => k.kept g (hB.bd g hg).2 (fun e => hd g e hg), fun g e hg => ?_, fun e => ?_, b2⟩, hA.lowk k h.bel (Nat.le_refl _), (k.kept B hlt b1).trans h.box⟩
  · rcases k.old g e with e1 | e1
    · exact hd g e1 hg
    · have := (hB.bd g hg).2
      omega
  · rcases k.old B e with e1 | e1
    · exact b1 e1
    · omega
theorem AloB.sideB {S T T' : Nat → Prop} {M' : Nat} {d' : Int} {m' : List Lk} (h : AloB w wr X Y B x N c l M d m) (hA : LcW wr w.heap.size X S N c l) (hB : LoW wr w.heap.size Y T M d m) (hd : ∀ g, S g → ¬ T g) (b1 : ¬ S B) (b2 : ¬ T B)
    (h2 : LoW w' w.heap.size Y T' M' d' m') (k : Kept wr w' T T') : AloB w w' X Y B x N c l M' d' m' := by
  have hlt := lt_of_block h.box
  refine ⟨⟨S, T', hA.keep fun g hg => k.kept g (hA.bd g hg).2 (fun e => hd g hg e), h2, fun g hg e => ?_, b1, fun e => ?_⟩, lo_low hB k h.bel, (k.kept B hlt b2).trans h.box⟩
  · rcases k.old g e with e1 | e1
    · exact hd g hg e1
    · have := (hA.bd g hg).2
      omega
  · rcases k.old B e with e1 | e1
    · exact b2 e1
    · omega
theorem AloB.askA (h : AloB w wr X Y B x N c l M d m) (hN : N < 32767) (k s n : Int) (nm : ByteArray) (z : Int) (hs : okI s) (hn : okI n) (hm : nm.size ≤ 1000) :
    Calls Try.prog 10 #[.pointer (some ⟨X, 0, none⟩), .agg (cmA k s n nm z)] wr fun e w' => (∃ v, e = .returned v) ∧ AloB w w' X Y B x (N + 1) (askL c l k s n nm).1 (askL c l k s n nm).2.1 M d m := by
  obtain ⟨S, T, hA, hB, hd, b1, b2⟩ := h.ex
  refine (hA.ask hN k s n nm z hs hn hm).mono ?_
  rintro e w' ⟨u, S2, rfl, _, h2, k2, _⟩
  exact ⟨⟨_, rfl⟩, h.sideA hA hB hd b1 b2 h2 k2⟩
theorem AloB.askB (h : AloB w wr X Y B x N c l M d m) (hM : M < 32767) (k s n : Int) (nm : ByteArray) (z : Int) (hs : okI s) (hn : okI n) (hm : nm.size ≤ 1000) :
    Calls Try.prog 11 #[.pointer (some ⟨Y, 0, none⟩), .agg (cmA k s n nm z)] wr fun e w' => (∃ v, e = .returned v) ∧ AloB w w' X Y B x N c l (M + 1) (askL d m k s n nm).1 (askL d m k s n nm).2.1 := by
  obtain ⟨S, T, hA, hB, hd, b1, b2⟩ := h.ex
  refine (hB.ask hM k s n nm z hs hn hm).mono ?_
  rintro e w' ⟨u, S2, rfl, _, h2, k2⟩
  exact ⟨⟨_, rfl⟩, h.sideB hA hB hd b1 b2 h2 k2⟩
theorem AloB.relA (h : AloB w wr X Y B x N c l M d m) (hN : N < 32767) (k s n : Int) (nm : ByteArray) (z : Int) (hs : okI s) (hm : nm.size ≤ 1000) :
    Calls Try.prog 12 #[.pointer (some ⟨X, 0, none⟩), .agg (cmA k s n nm z)] wr fun e w' => (∃ v, e = .returned v) ∧ AloB w w' X Y B x N (relL c l k s n nm).1 (relL c l k s n nm).2.1 M d m := by
  obtain ⟨S, T, hA, hB, hd, b1, b2⟩ := h.ex
  refine (hA.rel hN k s n nm z hs hm).mono ?_
  rintro e w' ⟨u, S2, rfl, _, h2, k2, _⟩
  exact ⟨⟨_, rfl⟩, h.sideA hA hB hd b1 b2 h2 k2⟩
theorem AloB.relB (h : AloB w wr X Y B x N c l M d m) (hM : M < 32767) (k s n : Int) (nm : ByteArray) (z : Int) (hs : okI s)  :
    Calls Try.prog 13 #[.pointer (some ⟨Y, 0, none⟩), .agg (cmA k s n nm z)] wr fun e w' => (∃ v, e = .returned v) ∧ AloB w w' X Y B x N c l M (relL d m k s n nm).1 (relL d m k s n nm).2.1 := by
  obtain ⟨S, T, hA, hB, hd, b1, b2⟩ := h.ex
  refine (hB.rel hM k s n nm z hs).mono ?_
  rintro e w' ⟨u, S2, rfl, _, h2, k2⟩
  exact ⟨⟨_, rfl⟩, h.sideB hA hB hd b1 b2 h2 k2⟩
theorem AloB.goneA (h : AloB w wr X Y B x N c l M d m) (hN : N < 32767) {s : Int} (hs : okI s) :
    Calls Try.prog 14 #[.pointer (some ⟨X, 0, none⟩), .int .i64 s] wr fun e w' => (∃ v, e = .returned v) ∧ AloB w w' X Y B x N (gonL c l s).1 (gonL c l s).2.1 M d m := by
  obtain ⟨S, T, hA, hB, hd, b1, b2⟩ := h.ex
  refine (hA.gone hN hs).mono ?_
  rintro e w' ⟨u, S2, rfl, _, h2, k2, _⟩
  exact ⟨⟨_, rfl⟩, h.sideA hA hB hd b1 b2 h2 k2⟩
theorem AloB.goneB (h : AloB w wr X Y B x N c l M d m) (hM : M < 32767) (s : Int) :
    Calls Try.prog 15 #[.pointer (some ⟨Y, 0, none⟩), .int .i64 s] wr fun e w' => (∃ v, e = .returned v) ∧ AloB w w' X Y B x N c l M (gonL d m s).1 (gonL d m s).2.1 := by
  obtain ⟨S, T, hA, hB, hd, b1, b2⟩ := h.ex
  refine (hB.gone hM s).mono ?_
  rintro e w' ⟨u, S2, rfl, _, h2, k2⟩
  exact ⟨⟨_, rfl⟩, h.sideB hA hB hd b1 b2 h2 k2⟩
theorem AloB.waits (h : AloB w wr X Y B x N c l M d m) (hM : M < 32767) (s : Int) : Calls Try.prog 9 #[.pointer (some ⟨Y, 0, none⟩), .int .i64 s] wr fun e w' => e = .returned (.bool (waitsL m s)) ∧ w' = wr := by
  obtain ⟨S, T, hA, hB, hd, b1, b2⟩ := h.ex
  exact hB.waits hM s
theorem AloB.hold (h : AloB w wr X Y B x N c l M d m) (hN : N < 32767) {nm : ByteArray} (hm : nm.size ≤ 1000) : Calls Try.prog 16 #[.pointer (some ⟨X, 0, none⟩), .string nm] wr (HolP wr (holL l nm)) := by
  obtain ⟨S, T, hA, hB, hd, b1, b2⟩ := h.ex
  exact hA.hold hN hm
theorem AloB.ok (h : AloB w wr X Y B x N c l M d m) : LcOk l := by
  obtain ⟨S, T, hA, _⟩ := h.ex
  exact hA.ok
end
end Go.Proofs.Ytmfadmhbkgemmaa
