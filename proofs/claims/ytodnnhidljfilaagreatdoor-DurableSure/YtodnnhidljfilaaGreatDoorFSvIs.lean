/-
  Package snap's three errors in memory, beside package frame's table, and errors.Is over them. The condition: they lie in memory as the program's text lays them ('Env').
-/
import Derived.Test.YtodnnhidljfilaaGreatDoorFPackE
import Derived.WalkKit
import Derived.LaidEql
import Derived.Stop.Asserts
import Derived.RowKitTokens
namespace Go.Proofs.YtodnnhidljfilaaGreatDoor
open Go.RowKit Go.Extern.Stop Go.Stop Go.Extern

theorem Tryz.isTypeOf (v : Value) (w : World) : (Extern.ReflectliteType.typeOf #[.iface 296 v]).run Tryz.prog w = .ok (.iface 208 (.agg #[.pointer (some ⟨9, 296, none⟩)])) w := by kernel_rfl
/-- What the model has for the type's own question, by a name. -/
def cmpM : Array Value → Sem Value := Extern.ReflectliteType.method fun t => do Extern.Rtype.noPackHeld "Comparable" t; pure (.bool (← typeInfo t).comparable)
theorem Tryz.isComparable (w : World) : (cmpM #[.agg #[.pointer (some ⟨9, 296, none⟩)]]).run Tryz.prog w = .ok (.bool true) w := by kernel_rfl
theorem Tryz.isMethodComparable (v : Value) (w : World) : (Go.method (Tryz.prog.types.size + Made.depth) 208 v "Comparable").run Tryz.prog w = .ok (251, v) w := by kernel_rfl
theorem Tryz.isComp : (Tryz.prog.info? 296).map (·.comparable) = some true := by kernel_rfl
theorem Tryz.isSize : (Tryz.prog.info? 298).map (·.size) = some 1 := by kernel_rfl
theorem Tryz.noIsE (v : Value) (xT : TypeId) (w : World) : (Instr.typeAssert (.iface 296 v) xT 210 true).run Tryz.prog w = .ok (.tuple #[.nilIface, .bool false]) w := run_typeAssert_lacksB Tryz.underlying210 (by kernel_rfl) (by kernel_rfl) v xT w
theorem Tryz.noUnwrapE (v : Value) (xT : TypeId) (w : World) : (Instr.typeAssert (.iface 296 v) xT 213 true).run Tryz.prog w = .ok (.tuple #[.nilIface, .bool false]) w := run_typeAssert_lacksB Tryz.underlying213 (by kernel_rfl) (by kernel_rfl) v xT w
theorem Tryz.noUnwrapsE (v : Value) (xT : TypeId) (w : World) : (Instr.typeAssert (.iface 296 v) xT 215 true).run Tryz.prog w = .ok (.tuple #[.nilIface, .bool false]) w := run_typeAssert_lacksB Tryz.underlying215 (by kernel_rfl) (by kernel_rfl) v xT w

set_option maxRecDepth 100000 in
/-- errors.Is of an error and itself. -/
theorem is_same (a : Addr) (w : World) :
    Calls Tryz.prog 60 #[.iface 296 (.pointer (some a)), .iface 296 (.pointer (some a))] w fun e w' => e = .returned (.bool true) ∧ w = w' := by
  obtain ⟨i, hi, hcmp⟩ := Option.map_eq_some_iff.1 Tryz.isComp
  obtain ⟨j, hj, hjs⟩ := Option.map_eq_some_iff.1 Tryz.isSize
  have h8 := @run_callFunc_extern Tryz.prog 104 _ Extern.ReflectliteType.typeOf Tryz.func104 (by kernel_rfl) (by kernel_rfl) (by kernel_rfl) (by kernel_rfl)
  have h32 := @run_callFunc_extern Tryz.prog 251 _ cmpM Tryz.func251 (by kernel_rfl) (by kernel_rfl) (by kernel_rfl) (by kernel_rfl)
  have tT := Tryz.isTypeOf
  have cT := Tryz.isComparable
  have mR := Tryz.isMethodComparable
  have heq := run_eql_iface_ptr_same (P := Tryz.prog) w a Tryz.underlying117 Tryz.underlying296 hi hcmp hj
  go_enter Tryz.func60, Tryz.ntmps60
  go_wp2
  refine wp_loop_rounds 1 ?_
  rw [rounds_succ]
  go_wp2
  go_ret
  exact ⟨rfl, rfl⟩
set_option maxRecDepth 100000 in
/-- errors.Is of two different ones. -/
theorem is_other (a b : Addr) (ca cb : Array Value) (ta tb : TypeId) (w : World) (hne : a ≠ b) (ha : w.heap[a.block]? = some (.cells ca ta (0, 0))) (hb : w.heap[b.block]? = some (.cells cb tb (0, 0))) :
    Calls Tryz.prog 60 #[.iface 296 (.pointer (some a)), .iface 296 (.pointer (some b))] w fun e w' => e = .returned (.bool false) ∧ w = w' := by
  obtain ⟨i, hi, hcmp⟩ := Option.map_eq_some_iff.1 Tryz.isComp
  obtain ⟨j, hj, hjs⟩ := Option.map_eq_some_iff.1 Tryz.isSize
  have h8 := @run_callFunc_extern Tryz.prog 104 _ Extern.ReflectliteType.typeOf Tryz.func104 (by kernel_rfl) (by kernel_rfl) (by kernel_rfl) (by kernel_rfl)
  have h32 := @run_callFunc_extern Tryz.prog 251 _ cmpM Tryz.func251 (by kernel_rfl) (by kernel_rfl) (by kernel_rfl) (by kernel_rfl)
  have tT := Tryz.isTypeOf
  have cT := Tryz.isComparable
  have mR := Tryz.isMethodComparable
  have nE := Tryz.noIsE
  have uE := Tryz.noUnwrapE
  have vE := Tryz.noUnwrapsE
  have heq := run_eql_iface_ptr_other (P := Tryz.prog) w Tryz.underlying117 Tryz.underlying296 hi hcmp hj (by rw [hjs]; decide) hne ha hb
  go_enter Tryz.func60, Tryz.ntmps60
  go_wp2
  refine wp_loop_rounds 1 ?_
  rw [rounds_succ]
  go_wp2
  go_ret
  exact ⟨rfl, rfl⟩

/-- The three errors, in blocks below B. -/
structure Sen (w : World) (B : Nat) (a0 a1 a2 : Addr) : Prop where
  c0 : w.cell? ⟨0, 0, none⟩ = some (.iface 296 (.pointer (some a0)))
  c1 : w.cell? ⟨1, 0, none⟩ = some (.iface 296 (.pointer (some a1)))
  c2 : w.cell? ⟨2, 0, none⟩ = some (.iface 296 (.pointer (some a2)))
  r0 : ∃ c t, w.heap[a0.block]? = some (.cells c t (0, 0))
  r1 : ∃ c t, w.heap[a1.block]? = some (.cells c t (0, 0))
  r2 : ∃ c t, w.heap[a2.block]? = some (.cells c t (0, 0))
  l0 : a0.block < B
  l1 : a1.block < B
  l2 : a2.block < B
  n01 : a0 ≠ a1
  n02 : a0 ≠ a2
  n12 : a1 ≠ a2
/-- The program's variables as the text lays them, in blocks below B. -/
structure Env (w : World) (B : Nat) : Prop where
  sn : ∃ a0 a1 a2, Sen w B a0 a1 a2
  tab : Tab w
  b4 : 4 ≤ B
  le : B ≤ w.heap.size
theorem Sen.below {w w' : World} {B B' : Nat} {a0 a1 a2 : Addr} (h : Sen w B a0 a1 a2) (b : Below B' w w') (hB : B ≤ B') (h4 : 4 ≤ B) : Sen w' B a0 a1 a2 := by
  have g0 : 0 < B' := by omega
  have g1 : 1 < B' := by omega
  have g2 : 2 < B' := by omega
  have l0 := h.l0
  have l1 := h.l1
  have l2 := h.l2
  obtain ⟨x0, y0, r0⟩ := h.r0
  obtain ⟨x1, y1, r1⟩ := h.r1
  obtain ⟨x2, y2, r2⟩ := h.r2
  exact ⟨(b.cell (by exact g0)).trans h.c0, (b.cell (by exact g1)).trans h.c1, (b.cell (by exact g2)).trans h.c2, ⟨x0, y0, (b.block _ (by omega)).trans r0⟩, ⟨x1, y1, (b.block _ (by omega)).trans r1⟩, ⟨x2, y2, (b.block _ (by omega)).trans r2⟩, l0, l1, l2, h.n01, h.n02, h.n12⟩
theorem Env.below {w w' : World} {B B' : Nat} (h : Env w B) (b : Below B' w w') (hB : B ≤ B') : Env w' B := by
  obtain ⟨a0, a1, a2, hs⟩ := h.sn
  have h4 := h.b4
  have hg : 3 < B' := by omega
  exact ⟨⟨a0, a1, a2, hs.below b hB h4⟩, ⟨Nat.lt_of_lt_of_le h.tab.1 b.size, fun i hi => (b.cell (by exact hg)).trans (h.tab.2 i hi)⟩, h4, Nat.le_trans h.le b.size⟩
theorem Env.fresh {w w' : World} {B : Nat} (h : Env w B) (b : Below w.heap.size w w') : Env w' B := h.below b h.le
end Go.Proofs.YtodnnhidljfilaaGreatDoor
