/-
  The document's ballots: each call as a plain number. No condition.
-/
import Derived.Test.YtmlgoecdefeapaaPBaPlain
namespace Go.Proofs.Ytmlgoecdefeapaa
open Go.RowKit

theorem rmaj_any (n : Int) (hn : n ≤ 9223372036854775807) (w : World) : Calls Try.prog 24 #[.int .i64 n] w fun e w' => e = .returned (.int .i64 (maR n)) ∧ w = w' := by
  by_cases h1 : n < 1
  · have q1 : decide (n < 1) = true := decide_eq_true h1
    have HB : Hid (maR n = 1) := if_pos h1
    go_enter Try.func24, Try.ntmps24
    go_wp2
    go_ret
    exact ⟨congrArg (fun z => Ending.returned (Value.int .i64 z)) HB.out.symm, rfl⟩
  · have q1 : decide (n < 1) = false := decide_eq_false h1
    have HB : Hid (maR n = n / 2 + 1) := if_neg h1
    have e1 : n.tdiv 2 = n / 2 := Int.tdiv_eq_ediv_of_nonneg (by omega)
    obtain ⟨m, hm⟩ : ∃ m, m = n / 2 := ⟨_, rfl⟩
    have m0 : 0 ≤ m ∧ m ≤ 4611686018427387904 := by omega
    rw [← hm] at e1 HB
    clear hm
    go_enter Try.func24, Try.ntmps24
    go_wp2
    go_ret
    exact ⟨congrArg (fun z => Ending.returned (Value.int .i64 z)) HB.out.symm, rfl⟩
end Go.Proofs.Ytmlgoecdefeapaa
