/-
  Parts of the proof, laid together: FPlain, WlPlain, DuPlain, GStore, DuMem, EnEq. The conditions stand at each part.
-/
import Derived.Lib.UnsafeStr
import Derived.Lib.Strings
import Derived.WalkKit
import Derived.Laws.Tables
import Derived.BigFrame
import Derived.ChangeKeysEq
import Derived.Test.YtnoappklbipdhaaLrpPackA
import Derived.Test.YtnoappklbipdhaaLrpPackC
/-
  The sum of a text (CRC-32, bit by bit) and frames, as plain functions on lists of bytes, and the facts on them that the walks and the laws need: a sum tells two texts apart that part at one byte; a table of 256 sums serves as well. No condition.
-/
namespace Go.Proofs.Ytnoappklbipdhaa

/-! ### A table serves as well -/
/-! ### Four bytes, frames -/
/-- A number in four bytes. -/
def four (n : Nat) : List UInt8 := [UInt8.ofNat (n % 256), UInt8.ofNat (n / 256 % 256), UInt8.ofNat (n / 65536 % 256), UInt8.ofNat (n / 16777216 % 256)]
end Go.Proofs.Ytnoappklbipdhaa
/-
  What must not be forgotten, as plain data: records put to a state, a state's records, and that both go together. No condition but what each part says.
-/
namespace Go.Proofs.Ytnoappklbipdhaa

/-- A state: what is promised, the snapshot's slot and text, the entries. -/
structure Du where
  p : Int
  b : Int
  s : ByteArray
  es : List En
end Go.Proofs.Ytnoappklbipdhaa
/-
  A struct's block, read and written whole: for any program. No condition.
-/
namespace Go.Proofs.Ytnoappklbipdhaa
open Go.RowKit

section
variable {P : Program} {ops : Array Oper} {rest : List Oper} {o : Oper} {a : Act} {w : World} {Q : Exit → Act → World → Prop}
/-- A load of a whole block, guarded or not. -/
theorem load_row_g (hw : Region.wanted o (yielded ops a.tmps) = true) (ty : TypeId) (x : Operand) (ho : o.op = .load ty x)
    (g : Nat) (hx : a.eval x = .pointer (some ⟨g, 0, none⟩)) (t : TypeId) (cs : Array Value) (fr : Nat × Nat) (d : TypeDesc) (hg : w.heap[g]? = some (.cells cs t fr))
    (hu : P.underlying ty = some d) (hd : (match d with | .struct _ | .array _ _ => true | _ => false) = true) (hi : (P.info? ty).map (·.size) = some cs.size)
    (h : wpList P ops Q rest (a.put o.dst (.agg cs)) w) : wpList P ops Q (o :: rest) a w :=
  BigFrame.wpList_want hw fun _ hK => wp_load_row ty x ho g hx t cs fr d hg hu hd hi (hK _ _ h)
theorem grown_setRow_g (w : World) (g : Nat) (cs : Array Value) : w.grownBy (w.setRow g cs) (some g) :=
  ⟨rfl, rfl, rfl, by simp, fun k _ hk => by
    have : ¬ g = k := fun e => hk (by rw [e])
    simp [World.setRow, Array.getElem?_modify, this]⟩
/-- A store of a whole block: the world behind it is told by what it holds. -/
theorem store_row_g (hw : Region.wanted o (yielded ops a.tmps) = true) (ty : TypeId) (x y : Operand) (ho : o.op = .store ty x y)
    (g : Nat) (cells : Array Value) (hx : a.eval x = .pointer (some ⟨g, 0, none⟩)) (hy : a.eval y = .agg cells)
    (t : TypeId) (old : Array Value) (hg : w.heap[g]? = some (.cells old t (0, 0))) (hi : (P.info? ty).map (·.size) = some cells.size)
    (hold : old.size = cells.size) (h1 : cells.all (·.oneCell') = true)
    (h : ∀ w', w'.heap[g]? = some (.cells cells t (0, 0)) → w.grownBy w' (some g) → wpList P ops Q rest (a.put o.dst undef) w') : wpList P ops Q (o :: rest) a w :=
  BigFrame.wpList_want hw fun _ hK => wp_store_row ty x y ho g cells hx hy t old hg hi hold h1 (hK _ _ (h _ (setRow_heap w g old cells t _ hg) (grown_setRow_g w g cells)))
end
end Go.Proofs.Ytnoappklbipdhaa
/-
  A state in memory: a struct of four cells, the last of them a row of entries. No condition.
-/
namespace Go.Proofs.Ytnoappklbipdhaa
open Go.RowKit

theorem two_blocks (w : World) (o1 o2 : Obj) : ((w.alloc o1).alloc o2).heap[w.heap.size]? = (w.alloc o1).heap[w.heap.size]? ∧ ((w.alloc o1).alloc o2).heap[w.heap.size + 1]? = ((w.alloc o1).alloc o2).heap[(w.alloc o1).heap.size]? :=
  ⟨Below.heap_alloc _ _ w.heap.size (by simp), by simp⟩
/-- An entry's seven cells. -/
def enC (e : En) : List Value := [.int .i64 e.slot, .int .i64 e.ballot, .int .i64 e.cmd.kind, .int .i64 e.cmd.session, .int .i64 e.cmd.seq, .string e.cmd.name, .int .i64 e.cmd.n]
theorem enC_len (e : En) : (enC e).length = 7 := rfl
theorem enC_one : ∀ x : En, ∀ u ∈ enC x, u.oneCell' = true := by
  intro x u hu
  simp only [enC, List.mem_cons, List.not_mem_nil, or_false] at hu
  rcases hu with rfl | rfl | rfl | rfl | rfl | rfl | rfl <;> rfl
abbrev enA (e : En) : Array Value := #[.int .i64 e.slot, .int .i64 e.ballot, .int .i64 e.cmd.kind, .int .i64 e.cmd.session, .int .i64 e.cmd.seq, .string e.cmd.name, .int .i64 e.cmd.n]
theorem infoEn : (Try.prog.info? 30).map (fun i => (i.zero, i.size, i.bytes)) = some (some (.agg #[.int .i64 0, .int .i64 0, .int .i64 0, .int .i64 0, .int .i64 0, .string ⟨#[]⟩, .int .i64 0]), 7, 64) := by kernel_rfl
/-- A row of entries of the call's own. -/
abbrev OwnEn (w : World) (base : Nat) (v : Value) (es : List En) : Prop := w.ownsRow base 30 7 v es.length (rowL enC es)
theorem OwnEn.row {w : World} {base : Nat} {v : Value} {es : List En} (h : OwnEn w base v es) : RowAt enC w v es := RowAt.own enC_len h
section
variable {w : World} {B : Nat} {d : Du} {v : Value}
end
end Go.Proofs.Ytnoappklbipdhaa
/-
  When two commands, two entries are the same, as values are compared. No condition.
-/
namespace Go.Proofs.Ytnoappklbipdhaa
open Go.RowKit

theorem toList_inj {x y : ByteArray} (h : x.toList = y.toList) : x = y := by
  rw [Lib.toList_data, Lib.toList_data] at h
  rw [← Lib.mk_data x, ← Lib.mk_data y, h]
/-- The same command, the same entry, reply, head: one bool each. -/
def eqC (a b : Cm) : Bool := a.kind == b.kind && (a.session == b.session && (a.seq == b.seq && (a.name.toList == b.name.toList && a.n == b.n)))
def eqE (a b : En) : Bool := a.slot == b.slot && (a.ballot == b.ballot && eqC a.cmd b.cmd)
theorem eqC_iff (a b : Cm) : eqC a b = true ↔ a = b := by
  obtain ⟨K, S, Q, T, N⟩ := a
  obtain ⟨K', S', Q', T', N'⟩ := b
  unfold eqC
  simp only [Bool.and_eq_true, beq_iff_eq, Cm.mk.injEq]
  constructor
  · rintro ⟨h1, h2, h3, h4, h5⟩
    exact ⟨h1, h2, h3, toList_inj h4, h5⟩
  · rintro ⟨h1, h2, h3, h4, h5⟩
    exact ⟨h1, h2, h3, by rw [h4], h5⟩
theorem eqE_iff (a b : En) : eqE a b = true ↔ a = b := by
  obtain ⟨A, B, C⟩ := a
  obtain ⟨A', B', C'⟩ := b
  unfold eqE
  simp only [Bool.and_eq_true, beq_iff_eq, eqC_iff, En.mk.injEq]

set_option maxRecDepth 100000 in
theorem ent_neq (a b : En) (w : World) : (binOp .neq 30 (.agg #[.int .i64 a.slot, .int .i64 a.ballot, .int .i64 a.cmd.kind, .int .i64 a.cmd.session, .int .i64 a.cmd.seq, .string a.cmd.name, .int .i64 a.cmd.n]) (.agg #[.int .i64 b.slot, .int .i64 b.ballot, .int .i64 b.cmd.kind, .int .i64 b.cmd.session, .int .i64 b.cmd.seq, .string b.cmd.name, .int .i64 b.cmd.n])).run Try.prog w = .ok (.bool (!eqE a b)) w := by
  unfold eqE eqC
  cases h0 : (a.slot == b.slot) with
  | false => simp [go_sem, h0]
  | true =>
    cases h1 : (a.ballot == b.ballot) with
    | false => simp [go_sem, h0, h1]
    | true =>
      cases h2 : (a.cmd.kind == b.cmd.kind) with
      | false => simp [go_sem, h0, h1, h2]
      | true =>
        cases h3 : (a.cmd.session == b.cmd.session) with
        | false => simp [go_sem, h0, h1, h2, h3]
        | true =>
          cases h4 : (a.cmd.seq == b.cmd.seq) with
          | false => simp [go_sem, h0, h1, h2, h3, h4]
          | true =>
            cases h5 : (a.cmd.name.toList == b.cmd.name.toList) with
            | false => simp [go_sem, h0, h1, h2, h3, h4, h5]
            | true =>
              cases h6 : (a.cmd.n == b.cmd.n) with
              | false => simp [go_sem, h0, h1, h2, h3, h4, h5, h6]
              | true =>
                simp [go_sem, h0, h1, h2, h3, h4, h5, h6]

end Go.Proofs.Ytnoappklbipdhaa
