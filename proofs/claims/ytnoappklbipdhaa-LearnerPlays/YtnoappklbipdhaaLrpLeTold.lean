/-
  Entries that are collected while an iterator is gone over: the cell that holds them, one more behind them. The condition: at most 2^29 of them.
-/
import Derived.Test.YtnoappklbipdhaaLrpLeAt
namespace Go.Proofs.Ytnoappklbipdhaa
open Go.RowKit Go.Shelf

/-- The cell K that holds the row; the row's own block from Z on. -/
structure Tld (W : World) (K Z : Nat) (u : Value) (pre : List En) : Prop where
  box : W.heap[K]? = some (.cells #[u] 33 (0, 0))
  own : OwnEn W Z u pre
  kz : K < Z
  sz : Z ≤ W.heap.size
theorem Tld.keep {W W' : World} {K Z : Nat} {u : Value} {pre : List En} (h : Tld W K Z u pre) (hz : W.heap.size ≤ W'.heap.size) (h1 : W'.heap[K]? = W.heap[K]?) (h2 : ∀ g, u.ownBlock = some g → W'.heap[g]? = W.heap[g]?) : Tld W' K Z u pre :=
  ⟨h1.trans h.box, own_keep h.own h2, h.kz, Nat.le_trans h.sz hz⟩
/-- What one more leaves. -/
structure TldMore (W : World) (K Z : Nat) (u : Value) (pre : List En) (w2 : World) (e : En) (pv : Option Addr) (nv cv : Nat) (w6 : World) : Prop where
  cell : w6.cell? ⟨K, 0, none⟩ = some u
  froz : w6.frozen? ⟨K, 0, none⟩ = false
  tld : Tld (w6.setCell ⟨K, 0, none⟩ (.slice pv nv cv)) K Z (.slice pv nv cv) (pre ++ [e])
  fr : (w6.setCell ⟨K, 0, none⟩ (.slice pv nv cv)).os = W.os ∧ (w6.setCell ⟨K, 0, none⟩ (.slice pv nv cv)).tape = W.tape ∧ (w6.setCell ⟨K, 0, none⟩ (.slice pv nv cv)).output = W.output ∧ W.heap.size ≤ (w6.setCell ⟨K, 0, none⟩ (.slice pv nv cv)).heap.size
  lies : ∀ g, (Value.slice pv nv cv).ownBlock = some g → u.ownBlock = some g ∨ W.heap.size ≤ g
  rest : ∀ g, g < W.heap.size → g ≠ K → u.ownBlock ≠ some g → (w6.setCell ⟨K, 0, none⟩ (.slice pv nv cv)).heap[g]? = W.heap[g]?
theorem Tld.grow {W w2 : World} {K Z : Nat} {u : Value} {pre : List En} (h : Tld W K Z u pre) (e : En) (b2 : Below W.heap.size W w2) (hpl : pre.length + 1 ≤ 536870912) :
    ∃ pv nv cv w6, (Builtin.append_ #[33, 33] 33 #[u, .slice (some ⟨w2.heap.size, 0, none⟩) 1 1]).run Try.prog (w2.alloc (.cells (enA e) 30)) = .ok (.slice pv nv cv) w6 ∧ TldMore W K Z u pre w2 e pv nv cv w6 := by
  obtain ⟨i0, hi, hz0, hz1, hz2⟩ := info_parts infoEn
  obtain ⟨w3, hw3⟩ : ∃ w3, w3 = w2.alloc (.cells (enA e) 30) := ⟨_, rfl⟩
  have b3 : Below W.heap.size W w3 := by rw [hw3]; exact b2.alloc b2.size _
  have q3 : w3.heap[w2.heap.size]? = some (.cells (enA e) 30 (0, 0)) := by rw [hw3]; exact heap_alloc_new w2 _
  have r3 : RowAt enC w3 (.slice (some ⟨w2.heap.size, 0, none⟩) 1 1) [e] := RowAt.built q3 rfl 1 rfl rfl
  have o3 : OwnEn w3 Z u pre := own_keep h.own fun g hg => b3.block g (h.own.lt g hg).2
  have hz := h.sz
  have hkz := h.kz
  have hz3 := b3.size
  obtain ⟨u', w6, hr, h5, h6, _, h8⟩ := run_append_own_at (P := Try.prog) w3 Z 33 33 30 i0 _ 7 64 Try.underlying33 hi hz0 hz1 hz2 rfl (by decide) u _ _ o3 ⟨w2.heap.size, 0, none⟩ 1 1 (rowL enC [e]) rfl (fun j x hx => by
      rw [Addr.add_mid]
      obtain ⟨a, cap, e1, _, _, e4⟩ := r3.ex
      rcases e4 with e4 | ⟨bk, off, e5, _, e6⟩
      · cases e4
      · injection e1 with e1 _ _
        rw [← e1] at e5
        injection e5 with e5
        injection e5 with e5 e7 _
        rw [← e5, ← e7] at e6
        exact e6 j x hx) (rowL_one_cell enC_one _) (by unfold maxLen; omega) (by omega) (by omega)
  obtain ⟨pv, nv, cv, rfl⟩ := own_form h5
  have oX : ∀ g, g < Z → u.ownBlock ≠ some g := fun g hg e => by have := (h.own.lt g e).1; omega
  have k6 : ∀ g, g < w3.heap.size → u.ownBlock ≠ some g → w6.heap[g]? = w3.heap[g]? := fun g hg hn => h6.block g hg (fun e => hn e.symm)
  have kW : ∀ g, g < W.heap.size → u.ownBlock ≠ some g → w6.heap[g]? = W.heap[g]? := fun g hg hn => (k6 g (by omega) hn).trans (b3.block g hg)
  have q6 : w6.heap[K]? = some (.cells #[u] 33 (0, 0)) := (kW _ (by omega) (oX _ hkz)).trans h.box
  have hs : ∀ g, g ≠ K → (w6.setCell ⟨K, 0, none⟩ (.slice pv nv cv)).heap[g]? = w6.heap[g]? := fun g hg => heap_setCell_other _ _ _ _ hg
  have o6 : OwnEn w6 Z (.slice pv nv cv) (pre ++ [e]) := by
    rw [OwnEn, List.length_append, rowL_append]
    exact h5
  have n6 : ∀ g, (Value.slice pv nv cv).ownBlock = some g → g ≠ K := fun g hg e1 => by have := (o6.lt g hg).1; omega
  have hs6 := h6.size
  refine ⟨pv, nv, cv, w6, by rw [← hw3]; exact hr, by simp [World.cell?, q6], by simp [World.frozen?, q6], ⟨?_, own_keep o6 fun g hg => hs g (n6 g hg), hkz, by simp; omega⟩, ⟨h6.os.trans b3.os, h6.tape.trans b3.tape, h6.output.trans b3.output, by simp; omega⟩, fun g hg => ?_, fun g hg h1 h2 => ?_⟩
  · rw [heap_setCell_same w6 _ 0 _ _ _ q6]
    rfl
  · rcases h8 with h8 | h8
    · exact Or.inl (by rw [← h8]; exact hg)
    · rw [h8] at hg
      have := Option.some.inj hg
      exact Or.inr (by omega)
  · rw [hs g h1, kW g hg h2]
/-- An append in a region that draws, within a round. -/
theorem stepIn_append {P : Program} {l n : Nat} {ops : Array Oper} {o : Oper} {a : Act} {w : World} {K : Act → World → Prop} {Q : Exit → Act → World → Prop} {E : Prop} (hgd : o.guard = none) (s x : Operand) (T T' : TypeId) (ho : o.op = .call { callee := .builtin .append, args := #[s, x], argTypes := #[T, T'] })
    {v u : Value} (hs : a.eval s = v) (hx : a.eval x = u) {v' : Value} {w' : World} (hr : (Builtin.append_ #[T, T'] o.type #[v, u]).run P w = .ok v' w') (h : K (a.put o.dst v') w') : if Region.wanted o (yielded ops a.tmps) = true then Oper.wpIn (Fence.wide.inRound l) n P o a w K Q else E := by
  have hw : Region.wanted o (yielded ops a.tmps) = true := by simp [Region.wanted, hgd]
  rw [if_pos hw]
  unfold Oper.wpIn
  refine ⟨?_, ?_⟩
  · simp [Oper.about, ho, resolve, Target.leads, Sem.run_pure]
  · rw [Oper.semAt_plain _ _ _ (by rw [ho]; intro c hc'; cases hc')]
    simp [execOp, ho, resolve, invoke, builtin, hs, hx, hr, Result.andThen]
    exact h
/-- A load in such a region. -/
theorem stepIn_load {P : Program} {l n : Nat} {ops : Array Oper} {o : Oper} {a : Act} {w : World} {K : Act → World → Prop} {Q : Exit → Act → World → Prop} {E : Prop} (hgd : o.guard = none) (ty : TypeId) (x : Operand) (ho : o.op = .load ty x)
    {ad : Addr} (hx : a.eval x = .pointer (some ad)) {v' : Value} (hr : (Instr.loadAt ty (.pointer (some ad))).run P w = .ok v' w) (h : K (a.put o.dst v') w) : if Region.wanted o (yielded ops a.tmps) = true then Oper.wpIn (Fence.wide.inRound l) n P o a w K Q else E := by
  have hw : Region.wanted o (yielded ops a.tmps) = true := by simp [Region.wanted, hgd]
  rw [if_pos hw]
  unfold Oper.wpIn
  refine ⟨?_, ?_⟩
  · simp [Oper.about, ho]
  · rw [Oper.semAt_plain _ _ _ (by rw [ho]; intro c hc'; cases hc')]
    simp [execOp, ho, hx, hr, Result.andThen]
    exact h
end Go.Proofs.Ytnoappklbipdhaa
