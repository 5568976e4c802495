/-
  A region that draws its order and reads alone, within a round of a range over a function: as outside a round. For any program; no condition.
-/
import Derived.Test.YtnoappklbipdhaaLrpPackA
import Derived.RangeFuncNested
import Derived.OwnWalkIn
import Derived.OrdersHeld
import Derived.OrdersIn
namespace Go.Proofs.Ytnoappklbipdhaa
open Go.RowKit

section
variable {P : Program}
/-- What an operation comes to: a value, nothing, or an end. -/
def PlainAt (r : Result Next) : Prop := (∃ v w, r = .ok (.value v) w) ∨ (∃ w, r = .ok .skip w) ∨ ∃ h w, r = .halt h w
theorem plain_of (r : Result Value) : PlainAt (r.andThen fun v w => .ok (.value v) w) := by
  cases r with
  | ok v w => exact Or.inl ⟨v, w, rfl⟩
  | halt h w => exact Or.inr (Or.inr ⟨h, w, rfl⟩)
/-- Operations that read. -/
def readsB (o : Oper) : Bool := match o.op with
  | .move _ | .assign _ | .load _ _ | .binOp .. | .fieldAddr .. | .pick .. => true
  | .nilCheck _ => true
  | .call c => match c.callee with
    | .builtin .len => true
    | _ => false
  | _ => false
theorem plain_reads {o : Oper} (h : readsB o = true) (ρ : Operand → Value) (w : World) : PlainAt ((execOp ρ o).run P w) := by
  unfold readsB at h
  cases ho : o.op with
  | move x => exact Or.inl ⟨ρ x, w, by simp [execOp, ho]⟩
  | assign x => exact Or.inl ⟨ρ x, w, by simp [execOp, ho]⟩
  | load t a =>
    have := plain_of ((Instr.loadAt t (ρ a)).run P w)
    simpa [execOp, ho] using this
  | binOp op xType x y t =>
    have := plain_of ((do eqGuard op xType x y (ρ x) (ρ y); binOp op xType (ρ x) (ρ y) : Sem Value).run P w)
    simpa only [execOp, ho, Sem.run_bind, Sem.run_pure] using this
  | fieldAddr s x f =>
    have := plain_of ((Instr.fieldAt s (ρ x) f).run P w)
    simpa [execOp, ho] using this
  | pick c a b =>
    have : PlainAt (((asBool (ρ c)).run P w).andThen fun t w => .ok (.value (if t then ρ a else ρ b)) w) := by
      cases hr : (asBool (ρ c)).run P w with
      | ok t w' => exact Or.inl ⟨_, w', rfl⟩
      | halt h w' => exact Or.inr (Or.inr ⟨h, w', rfl⟩)
    simpa [execOp, ho] using this
  | nilCheck x =>
    have hp : ∀ w', PlainAt ((runtimePanic .nilDeref : Sem Next).run P w') := fun w' => Or.inr (Or.inr (by simp [runtimePanic, goPanic]))
    have hv : ∀ (v : Value) w', PlainAt ((pure (.value v) : Sem Next).run P w') := fun v w' => Or.inl ⟨v, w', by simp⟩
    simp only [execOp, ho]
    split
    · exact hp w
    · exact hp w
    · exact hp w
    · split
      · exact hp w
      · rename_i name first captured _ _ t u _
        simp only [Sem.run_bind]
        cases hr : (program : Sem Program).run P w with
        | halt h w' => exact Or.inr (Or.inr ⟨h, w', rfl⟩)
        | ok p w' =>
          simp only [Result.andThen_ok]
          cases hn : (nilAhead (p.types.size + Made.depth) t u name).run P w' with
          | halt h w' => exact Or.inr (Or.inr ⟨h, w', rfl⟩)
          | ok b w'' =>
            simp only [Result.andThen_ok]
            split
            · exact Or.inr (Or.inr (by simp [unsupported]))
            · exact Or.inl ⟨.func (.method name) first captured, w'', by simp⟩
      · exact hv _ w
    · exact hv _ w
  | call c =>
    rw [ho] at h
    cases hc : c.callee with
    | builtin b =>
      simp only [hc] at h
      cases b with
      | len =>
        have := plain_of ((Builtin.len_ c.argTypes o.type (c.args.map ρ)).run P w)
        simpa [execOp, ho, resolve, hc, invoke, builtin] using this
      | _ => cases h
    | _ => simp [hc] at h
  | _ => rw [ho] at h; cases h
theorem reads_noDefer {o : Oper} (h : readsB o = true) : ∀ c, o.op ≠ .defer c := fun c e => by
  unfold readsB at h
  rw [e] at h
  cases h
/-- Outside a round, then within one. -/
theorem any_round {md : Region.Mode} {ops : Array Oper} {Q : Exit → Act → World → Prop} {S : World → Prop} (l n : Nat) (hr : ∀ (i : Nat) (o : Oper), ops[i]? = some o → readsB o = true) (hQ : ¬ LetsOut Q) :
    ∀ (fuel : Nat) (listed : Array Bool) (a : Act) (w : World), wpAnyH P md ops Q S fuel listed a w → wpAnyIn (Fence.wide.inRound l) n P md ops Q fuel listed a w
  | 0, _, _, _, h => h
  | fuel + 1, listed, a, w, h => by
    refine ⟨h.1, fun i hi => ?_⟩
    have h1 := h.2 i hi
    unfold wpOp at h1
    unfold wpOpIn
    cases ho : ops[i]? with
    | none =>
      rw [ho] at h1
      exact any_round l n hr hQ fuel _ a w h1.2
    | some o =>
      simp only [ho] at h1 ⊢
      by_cases hw : Region.wanted o (yielded ops a.tmps) = true
      · rw [if_pos hw] at h1 ⊢
        rcases h1 with h1 | h1
        · have hro := hr i o ho
          unfold Oper.wpIn
          refine ⟨fun f _ => trivial, ?_⟩
          rw [Oper.semAt_plain _ _ _ (reads_noDefer hro)]
          unfold Oper.wp at h1
          rcases plain_reads (P := P) hro a.eval w with ⟨v, w', e⟩ | ⟨w', e⟩ | ⟨x, w', e⟩
          · rw [e] at h1 ⊢
            exact any_round l n hr hQ fuel _ _ _ h1.2
          · rw [e] at h1 ⊢
            exact any_round l n hr hQ fuel _ _ _ h1.2
          · rw [e] at h1 ⊢
            cases x with
            | panic v => exact h1
            | _ => exact h1.elim
        · exact absurd h1.2 hQ
      · rw [if_neg hw] at h1 ⊢
        exact ⟨fun f _ => trivial, any_round l n hr hQ fuel _ _ _ h1.2⟩
/-- A region of reads within a round, whose cells hold whatever is read of them. -/
theorem wpIn_reads {id n l : Nat} {ops : Array Oper} {Q : Exit → Act → World → Prop} {S : World → Prop} {a : Act} {w : World} (hm : P.follows .mixedOrders = true) (hr : ops.all readsB = true) (hQ : ¬ LetsOut Q)
    (h : wpAnyH P .any ops Q S ops.size (Array.replicate ops.size false) a w.drew) : (Code.region id ops true).wpIn (Fence.wide.inRound l) n P Q a w :=
  wpIn_region_any hm (any_round l n (fun i o ho => by
    rw [Array.all_eq_true] at hr
    obtain ⟨hi, e⟩ := Array.getElem?_eq_some_iff.1 ho
    rw [← e]
    exact hr i hi) hQ _ _ _ _ h)
end
end Go.Proofs.Ytnoappklbipdhaa
