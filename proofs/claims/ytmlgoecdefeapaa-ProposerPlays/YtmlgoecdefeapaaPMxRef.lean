/-
  Rows of numbers read: is a number among some, are two rows one (package latchkeyref08). The condition: the rows lie in memory as their reading says.
-/
import Derived.Test.YtmlgoecdefeapaaPPackA
import Derived.Test.YtmlgoecdefeapaaPPack5
namespace Go.Proofs.Ytmlgoecdefeapaa
open Go.RowKit

def hasB (l : List Int) (n : Int) : Bool := decide (n ∈ l)
set_option maxHeartbeats 3200000 in
set_option maxRecDepth 100000 in
theorem has_any (w : World) (v : Value) (l : List Int) (n : Int) (hv : IntsAt w v l) : Calls Try.prog 30 #[v, .int .i64 n] w fun e w' => e = .returned (.bool (hasB l n)) ∧ w' = w := by
  obtain ⟨a, cap, rfl, _, hx⟩ := hv.ex
  have HX : Hid _ := hx
  have hmx : l.length ≤ 9223372036854775807 := hv.mx
  clear hx hv
  go_enter Try.func30, Try.ntmps30
  go_wp2
  go_loop [5] (fun i => ∃ k : Nat, k ≤ l.length ∧ i = .int .i64 k ∧ Hid (∀ j (hj : j < l.length), j < k → l[j] ≠ n)) (fun i => l.length - (intOf i).toNat)
  case atStart => exact ⟨0, Nat.zero_le _, rfl, fun j hj h0 => absurd h0 (Nat.not_lt_zero _)⟩
  case round =>
    obtain ⟨k, hk, rfl, HN⟩ := hrel
    by_cases hkl : k < l.length
    · rcases HX.out with h0 | ⟨bk, off, rfl, hbk, hxx⟩
      · omega
      have z0 := hxx k hkl
      have q0 : decide ((k : Int) < (l.length : Int)) = true := decide_eq_true (by omega)
      clear hxx
      by_cases he : l[k] = n
      · have HC : Hid (hasB l n = true) := by
          show decide _ = _
          rw [decide_eq_true_eq, ← he]
          exact List.getElem_mem hkl
        have q1 : (l[k] == n) = true := beq_iff_eq.2 he
        clear he HN
        generalize l[k] = X at *
        go_wp2
        go_ret
        exact ⟨by rw [HC.out]; rfl, rfl⟩
      · have q1 : (l[k] == n) = false := beq_eq_false_iff_ne.2 he
        have HN2 : Hid (∀ j (hj : j < l.length), j < k + 1 → l[j] ≠ n) := fun j hj h0 => by
          by_cases e : j = k
          · subst e
            exact he
          · exact HN.out j hj (by omega)
        clear he HN
        generalize l[k] = X at *
        go_wp2
        go_round
        case rel => exact ⟨k + 1, hkl, by go_num, HN2⟩
        case measure => simp [intOf]; omega
    · have q0 : decide ((k : Int) < (l.length : Int)) = false := decide_eq_false (by omega)
      have HC : Hid (hasB l n = false) := by
        show decide _ = _
        rw [decide_eq_false_iff_not]
        intro hm
        obtain ⟨j, hj, e⟩ := List.getElem_of_mem hm
        exact HN.out j hj (by omega) e
      clear HN
      go_wp2
      go_ret
      exact ⟨by rw [HC.out]; rfl, rfl⟩
end Go.Proofs.Ytmlgoecdefeapaa
