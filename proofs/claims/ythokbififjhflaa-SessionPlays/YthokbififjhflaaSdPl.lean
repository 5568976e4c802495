/-
  The program's sessions and the document's, both the same: each call on both. The conditions: numbers are ints; fewer than a hundred thousand sessions.
-/
import Derived.Test.YthokbififjhflaaSdGo
import Derived.Test.YthokbififjhflaaSxEnc
import Derived.Test.YthokbififjhflaaMxRef
namespace Go.Proofs.Ythokbififjhflaa
open Go.RowKit

/-- A row of numbers of one's own is a row of numbers to be read. -/
theorem IntsAt.own {w : World} {base : Nat} {v : Value} {l : List Int} (h : w.ownsRow base 3 1 v l.length (intL l)) (hl : l.length ≤ 17592186043904) (hlo : ∀ x ∈ l, -9223372036854775808 ≤ x ∧ x ≤ 9223372036854775807) : IntsAt w v l := by
  refine ⟨?_, hlo, by unfold maxLen; omega⟩
  rcases h.2 with ⟨rfl, h0⟩ | ⟨g, cap, cur, rfl, _, hg, hc, _, _, _⟩
  · exact ⟨none, 0, by rw [h0], by omega, Or.inl h0⟩
  · refine ⟨_, _, rfl, hc, Or.inr ⟨g, 0, rfl, lt_of_block hg, fun j hj => ?_⟩⟩
    have := World.ownsRow.cellAt h j (by omega)
    rw [Nat.zero_add, this]
    unfold intL
    rw [List.getElem?_map, List.getElem?_eq_getElem hj]
    rfl
theorem seAll_few (l : List SeX) : (seAll l).length ≤ l.length := seAllN_len l l.length
theorem seAll_ok {l : List SeX} (hl : l.length ≤ 1000000) {a : Int} (h : a ∈ seAll l) : -9223372036854775808 ≤ a ∧ a ≤ 9223372036854775807 := by
  obtain ⟨x, hx, _⟩ := seAll_mem.1 h
  obtain ⟨k, e, hk, _⟩ := seAt_place hx
  omega
theorem AlP.ints {w : World} {l : List SeX} {e : Ending} {w' : World} (h : AlP w l e w') (hl : l.length ≤ 1000000) : ∃ u, e = .returned u ∧ IntsAt w' u (seAll l) ∧ Below w.heap.size w w' := by
  obtain ⟨u, he, ho, hb⟩ := h.ex
  exact ⟨u, he, IntsAt.own ho (Nat.le_trans (seAll_few l) (by omega)) (fun a ha => seAll_ok hl ha), hb⟩
structure PlT (w wr : World) (X Y : Nat) (l : List SeX) : Prop where
  ex : ∃ S T, SeTw wr w.heap.size X Y S T l l
  bel : Below w.heap.size w wr
section
variable {w wr wr' : World} {X Y : Nat} {l : List SeX}
theorem PlT.fresh (I : PlT w wr X Y l) (b : Below wr.heap.size wr wr') : PlT w wr' X Y l := by
  obtain ⟨S, T, h⟩ := I.ex
  exact ⟨⟨S, T, h.fresh b⟩, bmm I.bel I.bel.size b⟩
theorem PlT.new {S : Nat → Prop} (h : SeAt wr w.heap.size X S []) (b : Below w.heap.size w wr) : PlT w (wr.alloc (.cells sx0 31)) X wr.heap.size [] := by
  have b0 : Below wr.heap.size wr (wr.alloc (.cells sx0 31)) := (Below.refl _ wr).alloc (Nat.le_refl _) _
  exact ⟨⟨S, fun g => g = wr.heap.size, h.fresh b0, sx_new wr b.size, fun g hg e => by have := (h.bd g hg).2; omega⟩, bmm b b.size b0⟩
theorem PlT.step (I : PlT w wr X Y l) (v : Sd) (ok : SdOk v) (hp : sdP v = true) (hl : l.length < 1000000) : Calls Try.prog 11 #[.pointer (some ⟨X, 0, none⟩), .pointer (some ⟨Y, 0, none⟩), .agg (sdA v)] wr fun e w' => e = .returned (.bool true) ∧ PlT w w' X Y (doL l v) := by
  obtain ⟨S, T, h⟩ := I.ex
  refine (do_any h v ok hp hl hl).mono ?_
  rintro e w' ⟨⟨S', T', b, he, hb, h', k⟩⟩
  refine ⟨by rw [he, hb rfl], ⟨S', T', h'⟩, ?_⟩
  exact I.bel.trans (k.low (Nat.le_trans (Nat.le_refl _) I.bel.size) fun g hg => (h.bd g hg).1)
theorem PlT.allX (I : PlT w wr X Y l) : Calls Try.prog 13 #[.pointer (some ⟨X, 0, none⟩)] wr fun e w' => ∃ u, e = .returned u ∧ IntsAt w' u (seAll l) ∧ Below wr.heap.size wr w' := by
  obtain ⟨S, T, h⟩ := I.ex
  exact (all_any h.a).mono fun e w' a => a.ints h.a.len
theorem PlT.allY (I : PlT w wr X Y l) : Calls Try.prog 14 #[.pointer (some ⟨Y, 0, none⟩)] wr fun e w' => ∃ u, e = .returned u ∧ IntsAt w' u (seAll l) ∧ Below wr.heap.size wr w' := by
  obtain ⟨S, T, h⟩ := I.ex
  exact (xall_any h.b).mono fun e w' a => a.ints h.b.len
theorem PlT.encX (I : PlT w wr X Y l) (hl : l.length ≤ 100000) : Calls Try.prog 15 #[.pointer (some ⟨X, 0, none⟩)] wr fun e w' => e = .returned (.string ⟨(seEnc l).toArray⟩) ∧ Below wr.heap.size wr w' := by
  obtain ⟨S, T, h⟩ := I.ex
  exact sencode_any h.a hl
theorem PlT.encY (I : PlT w wr X Y l) (hl : l.length ≤ 100000) : Calls Try.prog 16 #[.pointer (some ⟨Y, 0, none⟩)] wr fun e w' => e = .returned (.string ⟨(seEnc l).toArray⟩) ∧ Below wr.heap.size wr w' := by
  obtain ⟨S, T, h⟩ := I.ex
  exact xencode_any h.b hl
theorem PlT.cliX (I : PlT w wr X Y l) {id : Int} (hi : okI id) : Calls Try.prog 17 #[.pointer (some ⟨X, 0, none⟩), .int .i64 id] wr fun e w' => e = .returned (.tuple #[.int .i64 (seCli l id).1, .int .i64 (seCli l id).2.1, .bool (seCli l id).2.2]) ∧ Below wr.heap.size wr w' := by
  obtain ⟨S, T, h⟩ := I.ex
  exact client_any h.a hi
theorem PlT.cliY (I : PlT w wr X Y l) {id : Int} (hi : okI id) : Calls Try.prog 18 #[.pointer (some ⟨Y, 0, none⟩), .int .i64 id] wr fun e w' => e = .returned (.tuple #[.int .i64 (seCli l id).1, .int .i64 (seCli l id).2.1, .bool (seCli l id).2.2]) ∧ Below wr.heap.size wr w' := by
  obtain ⟨S, T, h⟩ := I.ex
  exact xclient_any h.b hi
end
end Go.Proofs.Ythokbififjhflaa
