/-
  A message's block, read and written whole: laws for walks over structs of many cells. No condition.
-/
import Derived.Test.YtmmdcbgmhjheeaaMgEnc
import Derived.Laws.Tables
namespace Go.Proofs.Ytmmdcbgmhjheeaa
open Go.RowKit


section
variable {P : Program} {ops : Array Oper} {rest : List Oper} {o : Oper} {a : Act} {w : World} {Q : Exit → Act → World → Prop}
/-- A load of a whole block, guarded or not. -/
theorem load_row_any (hw : Region.wanted o (yielded ops a.tmps) = true) (ty : TypeId) (x : Operand) (ho : o.op = .load ty x)
    (g : Nat) (hx : a.eval x = .pointer (some ⟨g, 0, none⟩)) (t : TypeId) (cs : Array Value) (fr : Nat × Nat) (d : TypeDesc) (hg : w.heap[g]? = some (.cells cs t fr))
    (hu : P.underlying ty = some d) (hd : (match d with | .struct _ | .array _ _ => true | _ => false) = true) (hi : (P.info? ty).map (·.size) = some cs.size)
    (h : wpList P ops Q rest (a.put o.dst (.agg cs)) w) : wpList P ops Q (o :: rest) a w :=
  BigFrame.wpList_want hw fun _ hK => wp_load_row ty x ho g hx t cs fr d hg hu hd hi (hK _ _ h)
theorem grown_setRow (w : World) (g : Nat) (cs : Array Value) : w.grownBy (w.setRow g cs) (some g) :=
  ⟨rfl, rfl, rfl, by simp, fun k _ hk => by
    have : ¬ g = k := fun e => hk (by rw [e])
    simp [World.setRow, Array.getElem?_modify, this]⟩
/-- A store of a whole block: the world behind it is told by what it holds. -/
theorem store_row_any (hw : Region.wanted o (yielded ops a.tmps) = true) (ty : TypeId) (x y : Operand) (ho : o.op = .store ty x y)
    (g : Nat) (cells : Array Value) (hx : a.eval x = .pointer (some ⟨g, 0, none⟩)) (hy : a.eval y = .agg cells)
    (t : TypeId) (old : Array Value) (hg : w.heap[g]? = some (.cells old t (0, 0))) (hi : (P.info? ty).map (·.size) = some cells.size)
    (hold : old.size = cells.size) (h1 : cells.all (·.oneCell') = true)
    (h : ∀ w', w'.heap[g]? = some (.cells cells t (0, 0)) → w.grownBy w' (some g) → wpList P ops Q rest (a.put o.dst undef) w') : wpList P ops Q (o :: rest) a w :=
  BigFrame.wpList_want hw fun _ hK => wp_store_row ty x y ho g cells hx hy t old hg hi hold h1 (hK _ _ (h _ (setRow_heap w g old cells t _ hg) (grown_setRow w g cells)))
end

/-- A message's block. -/
def MLies (w : World) (B : Nat) (m : Ms) (v : Value) : Prop := w.heap[B]? = some (.cells #[.int .i64 m.k, .int .i64 m.f, .int .i64 m.t, .int .i64 m.b, .int .i64 m.sl, .int .i64 m.ro, .int .i64 m.se, .int .i64 m.er, v, .int .i64 m.c.kind, .int .i64 m.c.session, .int .i64 m.c.seq, .string m.c.name, .int .i64 m.c.n, .int .i64 m.rs, .int .i64 m.rq, .int .i64 m.re, .int .u64 m.tk, .int .i64 m.rn, .string m.x] 30 (0, 0))
theorem MLies.lt {w : World} {B : Nat} {m : Ms} {v : Value} (h : MLies w B m v) : B < w.heap.size := lt_of_block h
theorem MLies.far {w w' : World} {B : Nat} {m : Ms} {v : Value} (h : MLies w B m v) (hb : w'.heap[B]? = w.heap[B]?) : MLies w' B m v := by
  unfold MLies at h ⊢
  rw [hb]
  exact h
theorem MLies.below {w w' : World} {B : Nat} {m : Ms} {v : Value} (h : MLies w B m v) (hb : Below w.heap.size w w') : MLies w' B m v := h.far (hb.block _ h.lt)
theorem MLies.belowB {w w' : World} {B b : Nat} {m : Ms} {v : Value} (h : MLies w b m v) (hl : b < B) (hb : Below B w w') : MLies w' b m v := h.far (hb.block _ hl)
theorem MLies.fresh (w : World) (m : Ms) (v : Value) : MLies (w.alloc (.cells #[.int .i64 m.k, .int .i64 m.f, .int .i64 m.t, .int .i64 m.b, .int .i64 m.sl, .int .i64 m.ro, .int .i64 m.se, .int .i64 m.er, v, .int .i64 m.c.kind, .int .i64 m.c.session, .int .i64 m.c.seq, .string m.c.name, .int .i64 m.c.n, .int .i64 m.rs, .int .i64 m.rq, .int .i64 m.re, .int .u64 m.tk, .int .i64 m.rn, .string m.x] 30)) w.heap.size m v := heap_alloc_new _ _
theorem MLies.box {w : World} {B : Nat} {m : Ms} {v : Value} (h : MLies w B m v) : MBox w B m v := by
  unfold MLies at h
  exact ⟨lt_of_block h, by simp [World.cell?, h], by simp [World.cell?, h], by simp [World.cell?, h], by simp [World.cell?, h], by simp [World.cell?, h], by simp [World.cell?, h], by simp [World.cell?, h], by simp [World.cell?, h], by simp [World.cell?, h], by simp [World.cell?, h], by simp [World.cell?, h], by simp [World.cell?, h], by simp [World.cell?, h], by simp [World.cell?, h], by simp [World.cell?, h], by simp [World.cell?, h], by simp [World.cell?, h], by simp [World.cell?, h], by simp [World.cell?, h], by simp [World.cell?, h]⟩
theorem MLies.free {w : World} {B : Nat} {m : Ms} {v : Value} (h : MLies w B m v) (i : Nat) : w.frozen? ⟨B, i, none⟩ = false := by
  unfold MLies at h
  simp [World.frozen?, h]

section
variable {ops : Array Oper} {rest : List Oper} {o : Oper} {a : Act} {w : World} {Q : Exit → Act → World → Prop}
theorem load_msg (hw : Region.wanted o (yielded ops a.tmps) = true) (x : Operand) (ho : o.op = .load 30 x) {g : Nat} {m : Ms} {v : Value} (hx : a.eval x = .pointer (some ⟨g, 0, none⟩)) (hg : MLies w g m v)
    (h : wpList Try.prog ops Q rest (a.put o.dst (.agg #[.int .i64 m.k, .int .i64 m.f, .int .i64 m.t, .int .i64 m.b, .int .i64 m.sl, .int .i64 m.ro, .int .i64 m.se, .int .i64 m.er, v, .int .i64 m.c.kind, .int .i64 m.c.session, .int .i64 m.c.seq, .string m.c.name, .int .i64 m.c.n, .int .i64 m.rs, .int .i64 m.rq, .int .i64 m.re, .int .u64 m.tk, .int .i64 m.rn, .string m.x])) w) : wpList Try.prog ops Q (o :: rest) a w :=
  load_row_any hw 30 x ho g hx 30 _ (0, 0) _ hg Try.underlying30 rfl info30 h
theorem store_msg (hw : Region.wanted o (yielded ops a.tmps) = true) (x y : Operand) (ho : o.op = .store 30 x y) {g : Nat} {m0 m : Ms} {v0 : Value} (hx : a.eval x = .pointer (some ⟨g, 0, none⟩)) (hg : MLies w g m0 v0)
    (pv : Option Addr) (nv cv : Nat) (hy : a.eval y = .agg #[.int .i64 m.k, .int .i64 m.f, .int .i64 m.t, .int .i64 m.b, .int .i64 m.sl, .int .i64 m.ro, .int .i64 m.se, .int .i64 m.er, (.slice pv nv cv), .int .i64 m.c.kind, .int .i64 m.c.session, .int .i64 m.c.seq, .string m.c.name, .int .i64 m.c.n, .int .i64 m.rs, .int .i64 m.rq, .int .i64 m.re, .int .u64 m.tk, .int .i64 m.rn, .string m.x])
    (h : ∀ w', MLies w' g m (.slice pv nv cv) → w.grownBy w' (some g) → wpList Try.prog ops Q rest (a.put o.dst undef) w') : wpList Try.prog ops Q (o :: rest) a w :=
  store_row_any hw 30 x y ho g _ hx hy 30 _ hg info30 rfl (by simp [Value.oneCell']) h
end

/-- The message at a pointer, if one lies there. -/
def msgHere (w : World) (p : Value) : Option Value :=
  match p with
  | .pointer (some ⟨g, 0, none⟩) =>
    match w.heap[g]? with
    | some (.cells cs t _) => if t = 30 ∧ cs.size = 20 then some (.agg cs) else none
    | _ => none
  | _ => none
theorem msgHere_drew (w : World) (p : Value) : msgHere w.drew p = msgHere w p := rfl
theorem MLies.here {w : World} {B : Nat} {m : Ms} {v : Value} (h : MLies w B m v) : msgHere w (.pointer (some ⟨B, 0, none⟩)) = some (.agg #[.int .i64 m.k, .int .i64 m.f, .int .i64 m.t, .int .i64 m.b, .int .i64 m.sl, .int .i64 m.ro, .int .i64 m.se, .int .i64 m.er, v, .int .i64 m.c.kind, .int .i64 m.c.session, .int .i64 m.c.seq, .string m.c.name, .int .i64 m.c.n, .int .i64 m.rs, .int .i64 m.rq, .int .i64 m.re, .int .u64 m.tk, .int .i64 m.rn, .string m.x]) := by
  unfold MLies at h
  unfold msgHere
  simp only [h]
  rfl
theorem run_load_here {w : World} {p : Value} {u : Value} (h : msgHere w p = some u) : (Instr.loadAt 30 p).run Try.prog w = .ok u w := by
  unfold msgHere at h
  split at h
  · rename_i g
    split at h
    · rename_i cs t fr hg
      split at h
      · rename_i hc
        obtain rfl := Option.some.inj h
        simp only [Instr.loadAt, Instr.sureAddr, Sem.run_bind, Sem.run_pure, Result.andThen_ok, run_loadVar_row w g t 30 cs fr _ hg Try.underlying30 rfl (by rw [info30, hc.2])]
      · cases h
    · cases h
  · cases h
/-- A load of a message, at the level of the whole operation. -/
theorem exec_load_msg (ρ : Operand → Value) (dst : Option Tmp) (x : Operand) (ty : TypeId) (pos : String) (after : Array Edge) (guard : Option (Nat × Bool)) (w : World) (h : (msgHere w (ρ x)).isSome = true) :
    (execOp ρ { dst, op := .load 30 x, type := ty, pos, after, guard }).run Try.prog w = .ok (.value ((msgHere w (ρ x)).getD undef)) w := by
  obtain ⟨u, hu⟩ := Option.isSome_iff_exists.1 h
  rw [hu]
  unfold execOp
  simp only [Sem.run_bind, run_load_here hu, Result.andThen_ok, Sem.run_pure]
  rfl

theorem load_yields {ρ : Operand → Value} {o : Oper} {x : Operand} {w : World} {p u : Value} (ho : o.op = .load 30 x) (hx : ρ x = p) (h : msgHere w p = some u) : (execOp ρ o).run Try.prog w = .ok (.value u) w := by
  unfold execOp
  simp only [ho, hx, Sem.run_bind, run_load_here h, Result.andThen_ok, Sem.run_pure]

/-- What a function hands back that lies in a block: a message, a message and an error's number. -/
theorem results_msg {fn : Func} (h : fn.results = #[.cell 2 30]) (tmps : Array Value) (w : World) {g : Nat} {m : Ms} {v : Value} (hp : tmps.getD 2 undef = .pointer (some ⟨g, 0, none⟩)) (hg : MLies w g m v) :
    (results fn tmps).run Try.prog w = .ok (.agg #[.int .i64 m.k, .int .i64 m.f, .int .i64 m.t, .int .i64 m.b, .int .i64 m.sl, .int .i64 m.ro, .int .i64 m.se, .int .i64 m.er, v, .int .i64 m.c.kind, .int .i64 m.c.session, .int .i64 m.c.seq, .string m.c.name, .int .i64 m.c.n, .int .i64 m.rs, .int .i64 m.rq, .int .i64 m.re, .int .u64 m.tk, .int .i64 m.rn, .string m.x]) w :=
  results_cell_row h tmps w g 30 _ (0, 0) _ hp hg Try.underlying30 rfl info30
theorem results_msg2 {fn : Func} (h : fn.results = #[.cell 2 30, .tmp 3]) (tmps : Array Value) (w : World) {g : Nat} {m : Ms} {v : Value} (hp : tmps.getD 2 undef = .pointer (some ⟨g, 0, none⟩)) (hg : MLies w g m v) :
    (results fn tmps).run Try.prog w = .ok (.tuple #[.agg #[.int .i64 m.k, .int .i64 m.f, .int .i64 m.t, .int .i64 m.b, .int .i64 m.sl, .int .i64 m.ro, .int .i64 m.se, .int .i64 m.er, v, .int .i64 m.c.kind, .int .i64 m.c.session, .int .i64 m.c.seq, .string m.c.name, .int .i64 m.c.n, .int .i64 m.rs, .int .i64 m.rq, .int .i64 m.re, .int .u64 m.tk, .int .i64 m.rn, .string m.x], tmps.getD 3 undef]) w := by
  have hp' : tmps[2]?.getD undef = .pointer (some ⟨g, 0, none⟩) := by simpa using hp
  simp [results, h, hp', asAddr, run_loadVar_row w g 30 30 _ (0, 0) _ hg Try.underlying30 rfl info30]
end Go.Proofs.Ytmmdcbgmhjheeaa
