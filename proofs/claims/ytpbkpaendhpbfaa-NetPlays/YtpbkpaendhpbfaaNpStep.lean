/-
  Two nets side by side, the program's and the document's: each call on either as plain data; they answer the same. No condition.
-/
import Derived.Test.YtpbkpaendhpbfaaNtAwake
import Derived.Test.YtpbkpaendhpbfaaNrTake
namespace Go.Proofs.Ytpbkpaendhpbfaa
open Go.RowKit

abbrev DT : TypeId := 43
def sendZ (L : List ByteArray) (s : ByteArray) : Int := if 4096 ≤ L.length then 17 else if 524288 < s.size then 15 else 0
def sendL (L : List ByteArray) (s : ByteArray) : List ByteArray := if 4096 ≤ L.length then L else if 524288 < s.size then L else L ++ [s]
def takeV (L : List ByteArray) (n : Int) : ByteArray := if inR n L.length = true then L.getD n.toNat ⟨#[]⟩ else ⟨#[]⟩
def takeZ (L : List ByteArray) (n : Int) : Int := if inR n L.length = true then 0 else 1
def takeL (L : List ByteArray) (n : Int) : List ByteArray := if inR n L.length = true then L.eraseIdx n.toNat else L
def dblZ (L : List ByteArray) (n : Int) : Int := if inR n L.length = true then (if 4096 ≤ L.length then 17 else 0) else 1
def dblL (L : List ByteArray) (n : Int) : List ByteArray := if inR n L.length = true then (if 4096 ≤ L.length then L else L ++ [L.getD n.toNat ⟨#[]⟩]) else L
theorem getD_in {L : List ByteArray} {n : Nat} (h : n < L.length) : L.getD ((n : Int)).toNat ⟨#[]⟩ = L[n] := by simp [List.getD, h]
section
variable {w : World} {base D : Nat} {S : Nat → Prop} {L : List ByteArray}
theorem psend_any (h : NtAt PT w base D S L) (s : ByteArray) : Calls Try.prog 13 #[.pointer (some ⟨D, 0, none⟩), .string s] w fun e w' => e = .returned (.int .i64 (sendZ L s)) ∧ ∃ S', NtAt PT w' base D S' (sendL L s) ∧ Kept w w' S S' := by
  unfold sendZ sendL
  by_cases h1 : 4096 ≤ L.length
  · rw [if_pos h1, if_pos h1]
    exact (psend_full s h h1).mono fun _ _ ⟨a, b⟩ => ⟨a, S, by rw [← b]; exact h, by rw [← b]; exact Kept.refl _ _⟩
  · rw [if_neg h1, if_neg h1]
    by_cases h2 : 524288 < s.size
    · rw [if_pos h2, if_pos h2]
      exact (psend_long s h (by omega) h2).mono fun _ _ ⟨a, b⟩ => ⟨a, S, by rw [← b]; exact h, by rw [← b]; exact Kept.refl _ _⟩
    · rw [if_neg h2, if_neg h2]
      exact psend_yes s h (by omega) (by omega)
theorem rsend_any (h : NtAt RT w base D S L) (s : ByteArray) : Calls Try.prog 14 #[.pointer (some ⟨D, 0, none⟩), .string s] w fun e w' => e = .returned (.int .i64 (sendZ L s)) ∧ ∃ S', NtAt RT w' base D S' (sendL L s) ∧ Kept w w' S S' := by
  unfold sendZ sendL
  by_cases h1 : 4096 ≤ L.length
  · rw [if_pos h1, if_pos h1]
    exact (rsend_full s h h1).mono fun _ _ ⟨a, b⟩ => ⟨a, S, by rw [← b]; exact h, by rw [← b]; exact Kept.refl _ _⟩
  · rw [if_neg h1, if_neg h1]
    by_cases h2 : 524288 < s.size
    · rw [if_pos h2, if_pos h2]
      exact (rsend_long s h (by omega) h2).mono fun _ _ ⟨a, b⟩ => ⟨a, S, by rw [← b]; exact h, by rw [← b]; exact Kept.refl _ _⟩
    · rw [if_neg h2, if_neg h2]
      exact rsend_yes s h (by omega) (by omega)
theorem ptake_any (h : NtAt PT w base D S L) (n : Int) : Calls Try.prog 15 #[.pointer (some ⟨D, 0, none⟩), .int .i64 n] w fun e w' => e = .returned (.tuple #[.string (takeV L n), .int .i64 (takeZ L n)]) ∧ ∃ S', NtAt PT w' base D S' (takeL L n) ∧ Kept w w' S S' := by
  unfold takeV takeZ takeL
  by_cases h1 : inR n L.length = true
  · obtain ⟨m, rfl, hm⟩ := inR_nat h1
    rw [if_pos h1, if_pos h1, if_pos h1, getD_in hm]
    exact ptake_yes m h hm
  · rw [if_neg h1, if_neg h1, if_neg h1]
    exact (ptake_no n h (by simpa using h1)).mono fun _ _ ⟨a, b⟩ => ⟨a, S, by rw [← b]; exact h, by rw [← b]; exact Kept.refl _ _⟩
theorem rtake_any (h : NtAt RT w base D S L) (n : Int) : Calls Try.prog 16 #[.pointer (some ⟨D, 0, none⟩), .int .i64 n] w fun e w' => e = .returned (.tuple #[.string (takeV L n), .int .i64 (takeZ L n)]) ∧ ∃ S', NtAt RT w' base D S' (takeL L n) ∧ Kept w w' S S' := by
  unfold takeV takeZ takeL
  by_cases h1 : inR n L.length = true
  · obtain ⟨m, rfl, hm⟩ := inR_nat h1
    rw [if_pos h1, if_pos h1, if_pos h1, getD_in hm]
    exact rtake_yes m h hm
  · rw [if_neg h1, if_neg h1, if_neg h1]
    exact (rtake_no n h (by simpa using h1)).mono fun _ _ ⟨a, b⟩ => ⟨a, S, by rw [← b]; exact h, by rw [← b]; exact Kept.refl _ _⟩
theorem ppeek_any (h : NtAt PT w base D S L) (n : Int) : Calls Try.prog 17 #[.pointer (some ⟨D, 0, none⟩), .int .i64 n] w fun e w' => e = .returned (.tuple #[.string (takeV L n), .int .i64 (takeZ L n)]) ∧ Below w.heap.size w w' := by
  unfold takeV takeZ
  by_cases h1 : inR n L.length = true
  · obtain ⟨m, rfl, hm⟩ := inR_nat h1
    rw [if_pos h1, if_pos h1, getD_in hm]
    exact ppeek_yes m h hm
  · rw [if_neg h1, if_neg h1]
    exact (ppeek_no n h (by simpa using h1)).mono fun _ _ ⟨a, b⟩ => ⟨a, by rw [← b]; exact Below.refl _ _⟩
theorem rpeek_any (h : NtAt RT w base D S L) (n : Int) : Calls Try.prog 18 #[.pointer (some ⟨D, 0, none⟩), .int .i64 n] w fun e w' => e = .returned (.tuple #[.string (takeV L n), .int .i64 (takeZ L n)]) ∧ w = w' := by
  unfold takeV takeZ
  by_cases h1 : inR n L.length = true
  · obtain ⟨m, rfl, hm⟩ := inR_nat h1
    rw [if_pos h1, if_pos h1, getD_in hm]
    exact rpeek_yes m h hm
  · rw [if_neg h1, if_neg h1]
    exact rpeek_no n h (by simpa using h1)
theorem pdouble_any (h : NtAt PT w base D S L) (n : Int) : Calls Try.prog 19 #[.pointer (some ⟨D, 0, none⟩), .int .i64 n] w fun e w' => e = .returned (.int .i64 (dblZ L n)) ∧ ∃ S', NtAt PT w' base D S' (dblL L n) ∧ Kept w w' S S' := by
  unfold dblZ dblL
  by_cases h1 : inR n L.length = true
  · obtain ⟨m, rfl, hm⟩ := inR_nat h1
    rw [if_pos h1, if_pos h1, getD_in hm]
    by_cases h2 : 4096 ≤ L.length
    · rw [if_pos h2, if_pos h2]
      exact (pdouble_full m h h1 h2).mono fun _ _ ⟨a, b⟩ => ⟨a, S, by rw [← b]; exact h, by rw [← b]; exact Kept.refl _ _⟩
    · rw [if_neg h2, if_neg h2]
      exact pdouble_yes m h hm (by omega)
  · rw [if_neg h1, if_neg h1]
    exact (pdouble_no n h (by simpa using h1)).mono fun _ _ ⟨a, b⟩ => ⟨a, S, by rw [← b]; exact h, by rw [← b]; exact Kept.refl _ _⟩
theorem rdouble_any (h : NtAt RT w base D S L) (n : Int) : Calls Try.prog 20 #[.pointer (some ⟨D, 0, none⟩), .int .i64 n] w fun e w' => e = .returned (.int .i64 (dblZ L n)) ∧ ∃ S', NtAt RT w' base D S' (dblL L n) ∧ Kept w w' S S' := by
  unfold dblZ dblL
  by_cases h1 : inR n L.length = true
  · obtain ⟨m, rfl, hm⟩ := inR_nat h1
    rw [if_pos h1, if_pos h1, getD_in hm]
    by_cases h2 : 4096 ≤ L.length
    · rw [if_pos h2, if_pos h2]
      exact (rdouble_full m h hm h2).mono fun _ _ ⟨a, b⟩ => ⟨a, S, by rw [← b]; exact h, by rw [← b]; exact Kept.refl _ _⟩
    · rw [if_neg h2, if_neg h2]
      exact rdouble_yes m h hm (by omega)
  · rw [if_neg h1, if_neg h1]
    exact (rdouble_no n h (by simpa using h1)).mono fun _ _ ⟨a, b⟩ => ⟨a, S, by rw [← b]; exact h, by rw [← b]; exact Kept.refl _ _⟩
end
/-- Both nets, and a deed in its box. -/
structure Both (w : World) (B Dx Dy : Nat) (Sx Sy : Nat → Prop) (Lx Ly : List ByteArray) (b : Nat) (K N : Int) (s : ByteArray) : Prop where
  x : NtAt PT w B Dx Sx Lx
  y : NtAt RT w B Dy Sy Ly
  dj : ∀ i, Sx i → ¬ Sy i
  bx : w.heap[b]? = some (.cells #[.int .i64 K, .int .i64 N, .string s] DT (0, 0))
  nx : ¬ Sx b
  ny : ¬ Sy b
section
variable {w w' : World} {B Dx Dy b : Nat} {Sx Sy S' : Nat → Prop} {Lx Ly L' : List ByteArray} {K N : Int} {s : ByteArray}
theorem Both.goX (h : Both w B Dx Dy Sx Sy Lx Ly b K N s) (hn : NtAt PT w' B Dx S' L') (k : Kept w w' Sx S') : Both w' B Dx Dy S' Sy L' Ly b K N s := by
  have hb := lt_of_block h.bx
  refine ⟨hn, k.other h.y (fun i hy hx => h.dj i hx hy), fun i hi hy => ?_, (k.kept b hb h.nx).trans h.bx, fun hs => ?_, h.ny⟩
  · rcases k.old i hi with h1 | h1
    · exact h.dj i h1 hy
    · have := (h.y.bd i hy).2
      omega
  · rcases k.old b hs with h1 | h1
    · exact h.nx h1
    · omega
theorem Both.goY (h : Both w B Dx Dy Sx Sy Lx Ly b K N s) (hn : NtAt RT w' B Dy S' L') (k : Kept w w' Sy S') : Both w' B Dx Dy Sx S' Lx L' b K N s := by
  have hb := lt_of_block h.bx
  refine ⟨k.other h.x h.dj, hn, fun i hi hy => ?_, (k.kept b hb h.ny).trans h.bx, h.nx, fun hs => ?_⟩
  · rcases k.old i hy with h1 | h1
    · exact h.dj i hi h1
    · have := (h.x.bd i hi).2
      omega
  · rcases k.old b hs with h1 | h1
    · exact h.ny h1
    · omega
theorem Both.fresh (h : Both w B Dx Dy Sx Sy Lx Ly b K N s) (k : Below w.heap.size w w') : Both w' B Dx Dy Sx Sy Lx Ly b K N s :=
  ⟨h.x.fresh k, h.y.fresh k, h.dj, (k.block b (lt_of_block h.bx)).trans h.bx, h.nx, h.ny⟩
theorem Both.drew (h : Both w B Dx Dy Sx Sy Lx Ly b K N s) : Both w.drew B Dx Dy Sx Sy Lx Ly b K N s := ⟨h.x.drew, h.y.drew, h.dj, h.bx, h.nx, h.ny⟩
theorem Both.c0 (h : Both w B Dx Dy Sx Sy Lx Ly b K N s) : w.cell? ⟨b, 0, none⟩ = some (.int .i64 K) := by simp [World.cell?, h.bx]
theorem Both.c1 (h : Both w B Dx Dy Sx Sy Lx Ly b K N s) : w.cell? ⟨b, 1, none⟩ = some (.int .i64 N) := by simp [World.cell?, h.bx]
theorem Both.c2 (h : Both w B Dx Dy Sx Sy Lx Ly b K N s) : w.cell? ⟨b, 2, none⟩ = some (.string s) := by simp [World.cell?, h.bx]
theorem Both.base (h : Both w B Dx Dy Sx Sy Lx Ly b K N s) : B ≤ w.heap.size := by have := h.x.bd Dx h.x.sD; omega
theorem Both.sendX (h : Both w B Dx Dy Sx Sy Lx Ly b K N s) : Calls Try.prog 13 #[.pointer (some ⟨Dx, 0, none⟩), .string s] w fun e w' => e = .returned (.int .i64 (sendZ Lx s)) ∧ ∃ S', Both w' B Dx Dy S' Sy (sendL Lx s) Ly b K N s ∧ Below B w w' :=
  (psend_any h.x s).mono fun _ _ ⟨a, S', h1, h2⟩ => ⟨a, S', h.goX h1 h2, h2.below h.x⟩
theorem Both.sendY (h : Both w B Dx Dy Sx Sy Lx Ly b K N s) : Calls Try.prog 14 #[.pointer (some ⟨Dy, 0, none⟩), .string s] w fun e w' => e = .returned (.int .i64 (sendZ Ly s)) ∧ ∃ S', Both w' B Dx Dy Sx S' Lx (sendL Ly s) b K N s ∧ Below B w w' :=
  (rsend_any h.y s).mono fun _ _ ⟨a, S', h1, h2⟩ => ⟨a, S', h.goY h1 h2, h2.below h.y⟩
theorem Both.takeX (h : Both w B Dx Dy Sx Sy Lx Ly b K N s) : Calls Try.prog 15 #[.pointer (some ⟨Dx, 0, none⟩), .int .i64 N] w fun e w' => e = .returned (.tuple #[.string (takeV Lx N), .int .i64 (takeZ Lx N)]) ∧ ∃ S', Both w' B Dx Dy S' Sy (takeL Lx N) Ly b K N s ∧ Below B w w' :=
  (ptake_any h.x N).mono fun _ _ ⟨a, S', h1, h2⟩ => ⟨a, S', h.goX h1 h2, h2.below h.x⟩
theorem Both.takeY (h : Both w B Dx Dy Sx Sy Lx Ly b K N s) : Calls Try.prog 16 #[.pointer (some ⟨Dy, 0, none⟩), .int .i64 N] w fun e w' => e = .returned (.tuple #[.string (takeV Ly N), .int .i64 (takeZ Ly N)]) ∧ ∃ S', Both w' B Dx Dy Sx S' Lx (takeL Ly N) b K N s ∧ Below B w w' :=
  (rtake_any h.y N).mono fun _ _ ⟨a, S', h1, h2⟩ => ⟨a, S', h.goY h1 h2, h2.below h.y⟩
theorem Both.peekX (h : Both w B Dx Dy Sx Sy Lx Ly b K N s) : Calls Try.prog 17 #[.pointer (some ⟨Dx, 0, none⟩), .int .i64 N] w fun e w' => e = .returned (.tuple #[.string (takeV Lx N), .int .i64 (takeZ Lx N)]) ∧ Both w' B Dx Dy Sx Sy Lx Ly b K N s ∧ Below B w w' :=
  (ppeek_any h.x N).mono fun _ _ ⟨a, k⟩ => ⟨a, h.fresh k, k.mono h.base⟩
theorem Both.peekY (h : Both w B Dx Dy Sx Sy Lx Ly b K N s) : Calls Try.prog 18 #[.pointer (some ⟨Dy, 0, none⟩), .int .i64 N] w fun e w' => e = .returned (.tuple #[.string (takeV Ly N), .int .i64 (takeZ Ly N)]) ∧ w = w' := rpeek_any h.y N
theorem Both.doubleX (h : Both w B Dx Dy Sx Sy Lx Ly b K N s) : Calls Try.prog 19 #[.pointer (some ⟨Dx, 0, none⟩), .int .i64 N] w fun e w' => e = .returned (.int .i64 (dblZ Lx N)) ∧ ∃ S', Both w' B Dx Dy S' Sy (dblL Lx N) Ly b K N s ∧ Below B w w' :=
  (pdouble_any h.x N).mono fun _ _ ⟨a, S', h1, h2⟩ => ⟨a, S', h.goX h1 h2, h2.below h.x⟩
theorem Both.doubleY (h : Both w B Dx Dy Sx Sy Lx Ly b K N s) : Calls Try.prog 20 #[.pointer (some ⟨Dy, 0, none⟩), .int .i64 N] w fun e w' => e = .returned (.int .i64 (dblZ Ly N)) ∧ ∃ S', Both w' B Dx Dy Sx S' Lx (dblL Ly N) b K N s ∧ Below B w w' :=
  (rdouble_any h.y N).mono fun _ _ ⟨a, S', h1, h2⟩ => ⟨a, S', h.goY h1 h2, h2.below h.y⟩
theorem Both.len (h : Both w B Dx Dy Sx Sy Lx Ly b K N s) : Calls Try.prog 21 #[.pointer (some ⟨Dx, 0, none⟩)] w fun e w' => e = .returned (.int .i64 (Lx.length : Int)) ∧ w = w' := plen_any h.x
theorem Both.all (h : Both w B Dx Dy Sx Sy Lx Ly b K N s) : Calls Try.prog 23 #[.pointer (some ⟨Dx, 0, none⟩)] w fun e w' => ∃ v, e = .returned v ∧ StrAt w' v Lx ∧ Both w' B Dx Dy Sx Sy Lx Ly b K N s ∧ Below w.heap.size w w' :=
  (pall_any h.x).mono fun _ _ ⟨v, a, h1, k⟩ => ⟨v, a, h1, h.fresh k, k⟩
theorem undrewB (k : Below B w.drew w') : Below B w w' := ⟨k.os, k.tape, k.output, k.size, k.block⟩
/-- The document's packets, as a slice. -/
theorem Both.rowY (h : Both w B Dx Dy Sx Sy Lx Ly b K N s) : ∃ p c, w.cell? ⟨Dy, 0, none⟩ = some (.slice p Ly.length c) ∧ StrAt w (.slice p Ly.length c) Ly := by
  obtain ⟨p, c, hb, hr, _, _⟩ := h.y.cells
  exact ⟨p, c, by simp [World.cell?, hb], StrAt.own hr⟩
theorem Both.texts (h : Both w B Dx Dy Sx Sy Lx Ly b K N s) {v v2 : Value} (h1 : StrAt w v Lx) (h2 : StrAt w v2 Lx) : Calls Try.prog 22 #[v, v2] w fun e w' => e = .returned (.bool true) ∧ Both w' B Dx Dy Sx Sy Lx Ly b K N s ∧ Below w.heap.size w w' :=
  (texts_any Lx Lx v v2 w h1 h2 (by have := h.x.mx; omega) true (by simp)).mono fun _ _ ⟨a, k⟩ => ⟨a, h.fresh k, k⟩
end
end Go.Proofs.Ytpbkpaendhpbfaa
