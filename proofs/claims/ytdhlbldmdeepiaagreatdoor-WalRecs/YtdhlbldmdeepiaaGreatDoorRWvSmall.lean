/-
  Package wal's small functions: whether a record is a promise, eight bytes of a number, eight bytes as a number. The conditions: the number is a ballot; the text has eight bytes.
-/
import Derived.Test.YtdhlbldmdeepiaaGreatDoorRPackD
namespace Go.Proofs.YtdhlbldmdeepiaaGreatDoor
open Go.RowKit

/-- A promise? -/
def promB (r : Rc) : Bool := decide (r.kind = 1) && (decide (1 ≤ r.n) && (decide (r.n ≤ 1099511627776) && noE r.en))
theorem promB_zero (m : Int) : promB ⟨1, m, En.zero⟩ = (decide (1 ≤ m) && decide (m ≤ 1099511627776)) := by
  unfold promB
  have : noE En.zero = true := rfl
  simp [this]
set_option maxHeartbeats 3200000 in
set_option maxRecDepth 100000 in
theorem isPromise_any (K N A B k S Q n : Int) (T : ByteArray) (w : World) :
    Calls Tryz.prog 29 #[.agg (rcA K N A B k S Q n T)] w fun e w' => e = .returned (.bool (promB ⟨K, N, ⟨A, B, ⟨k, S, Q, T, n⟩⟩⟩)) ∧ Below w.heap.size w w' := by
  by_cases h1 : K = 1
  · by_cases h2 : 1 ≤ N
    · by_cases h3 : N ≤ 1099511627776
      · have e : promB ⟨K, N, ⟨A, B, ⟨k, S, Q, T, n⟩⟩⟩ = noE ⟨A, B, ⟨k, S, Q, T, n⟩⟩ := by
          unfold promB
          simp [h1, h2, h3]
        rw [e]
        subst h1
        cases he : noE ⟨A, B, ⟨k, S, Q, T, n⟩⟩ with
        | true =>
          have ez := noE_iff.mp he
          unfold En.zero Cm.zero at ez
          injection ez with e1 e2 e3
          injection e3 with e4 e5 e6 e7 e8
          subst e1 e2 e4 e5 e6 e7 e8
          clear he e
          go_enter Tryz.func29, Tryz.ntmps29
          go_wp2
          go_ret
          exact ⟨rfl, (Below.refl _ w).alloc (Nat.le_refl _) _⟩
        | false =>
          clear e
          rcases name_kinds T with rfl | ⟨hT, _⟩
          · go_enter Tryz.func29, Tryz.ntmps29
            go_wp2 <;> first
              | (go_ret; exact ⟨rfl, (Below.refl _ w).alloc (Nat.le_refl _) _⟩)
              | (exfalso; simp_all [noE]; done)
              | (exfalso; revert he; subst_vars; decide)
          · go_enter Tryz.func29, Tryz.ntmps29
            go_wp2 <;> (go_ret; exact ⟨rfl, (Below.refl _ w).alloc (Nat.le_refl _) _⟩)
      · have e : promB ⟨K, N, ⟨A, B, ⟨k, S, Q, T, n⟩⟩⟩ = false := by
          unfold promB
          simp [h3]
        rw [e]
        clear e
        go_enter Tryz.func29, Tryz.ntmps29
        go_wp2
        go_ret
        exact ⟨rfl, (Below.refl _ w).alloc (Nat.le_refl _) _⟩
    · have e : promB ⟨K, N, ⟨A, B, ⟨k, S, Q, T, n⟩⟩⟩ = false := by
        unfold promB
        simp [h2]
      rw [e]
      clear e
      go_enter Tryz.func29, Tryz.ntmps29
      go_wp2
      go_ret
      exact ⟨rfl, (Below.refl _ w).alloc (Nat.le_refl _) _⟩
  · have e : promB ⟨K, N, ⟨A, B, ⟨k, S, Q, T, n⟩⟩⟩ = false := by
      unfold promB
      simp [h1]
    rw [e]
    clear e
    go_enter Tryz.func29, Tryz.ntmps29
    go_wp2
    go_ret
    exact ⟨rfl, (Below.refl _ w).alloc (Nat.le_refl _) _⟩
end Go.Proofs.YtdhlbldmdeepiaaGreatDoor
