/-
  A row behind one's own, within a round of a range over a function, or inside a fence: for any program. No condition.
-/
import Derived.Test.YtmfadmhbkgemmaaQPackA
import Derived.OwnWalkIn
namespace Go.Proofs.Ytmfadmhbkgemmaa
open Go.RowKit

theorem wpListIn_app_row {α : Type} {enc : α → List Value} {k : Nat} {l : List α} {F : Fence} {nf : Nat} {w : World} {ops : Array Oper} {rest : List Oper} {o : Oper} {a : Act} {Q : Exit → Act → World → Prop} (hgd : o.guard = none) (s x : Operand) (T E : TypeId) (ho : o.op = .call { callee := .builtin .append, args := #[s, x], argTypes := #[T, T] }) (i0 : TypeInfo) (z : Value) (bytes : Nat) (hu : Try.prog.underlying T = some (.slice E)) (hi : Try.prog.info? E = some i0) (hz0 : i0.zero = some z) (hz1 : i0.size = k) (hz2 : i0.bytes = bytes) (hzs : z.cells.size = k) (h0 : 0 < k)
    (hk : ∀ x, (enc x).length = k) (h1 : ∀ x, ∀ u ∈ enc x, u.oneCell' = true) {base n : Nat} {v u : Value} {xs : List Value} (hs : a.eval s = v) (hx : a.eval x = u) (hown : w.ownsRow base E k v n xs) (hr : RowAt enc w u l) (hl : 0 < l.length) (hb : base ≤ w.heap.size) (hn : (n + l.length) * bytes ≤ 140737488355328) (hn2 : n + l.length ≤ 140737488355328)
    (h : ∀ u' w', w'.ownsRow base E k u' (n + l.length) (xs ++ rowL enc l) → Appended base w w' v u' → wpListIn F nf Try.prog ops Q rest (a.put o.dst u') w') : wpListIn F nf Try.prog ops Q (o :: rest) a w := by
  refine wpListIn_plain hgd fun K hK' => ?_
  obtain ⟨ad, cap, rfl, h2, h3, h4⟩ := hr.ex
  cases ad with
  | none => have := (h3 rfl).1; omega
  | some ad =>
    have hnews : ∀ j u, (rowL enc l)[j]? = some u → w.cell? (ad.add j) = some u := fun j u hu => by
      rcases h4 with h4 | ⟨bk, off, e, _, hx4⟩
      · omega
      · cases e
        rw [Addr.add_mid]
        exact hx4 j u hu
    obtain ⟨u', w', hr, h5, h6, _, h8⟩ := run_append_own_at (P := Try.prog) w base T o.type E i0 z k bytes hu hi hz0 hz1 hz2 hzs h0 v n xs hown ad l.length cap (rowL enc l) (rowL_length hk l) hnews (rowL_one_cell h1 l) (by unfold maxLen; omega) hn hb
    unfold Oper.wpIn
    refine ⟨?_, ?_⟩
    · simp [Oper.about, ho, resolve, Target.leads, Sem.run_pure]
    · rw [Oper.semAt_plain F _ _ (by rw [ho]; intro c hc'; cases hc')]
      simp [execOp, ho, resolve, invoke, builtin, hs, hx, hr, Result.andThen]
      exact hK' _ _ (h u' w' h5 ⟨(Below.refl _ w).grown h6 hb (fun k hk => (hown.lt k hk).1), fun b hb hne => h6.block b hb hne, h8⟩)
end Go.Proofs.Ytmfadmhbkgemmaa
