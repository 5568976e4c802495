/-
  Package ballot: each call as a plain number. No condition.
-/
import Derived.Test.YtmlgoecdefeapaaPBaPlain
namespace Go.Proofs.Ytmlgoecdefeapaa
open Go.RowKit

theorem pmaj_any (n : Int) (hn : n ≤ 9223372036854775807) (w : World) : Calls Try.prog 28 #[.int .i64 n] w fun e w' => e = .returned (.int .i64 (maR n)) ∧ w = w' := by
  obtain ⟨x, hx⟩ : ∃ x, x = max n 0 := ⟨_, rfl⟩
  have x0 : 0 ≤ x ∧ x ≤ 9223372036854775807 := by omega
  have HB : Hid (maR n = x / 2 + 1) := by show _ = _; unfold maR; split <;> omega
  have hx' : max n 0 = x := hx.symm
  clear hx
  have e1 : x.tdiv 2 = x / 2 := Int.tdiv_eq_ediv_of_nonneg x0.1
  obtain ⟨m, hm⟩ : ∃ m, m = x / 2 := ⟨_, rfl⟩
  have m0 : 0 ≤ m ∧ m ≤ 4611686018427387904 := by omega
  rw [← hm] at e1 HB
  clear hm
  go_enter Try.func28, Try.ntmps28
  go_wp2
  go_ret
  exact ⟨congrArg (fun z => Ending.returned (Value.int .i64 z)) HB.out.symm, rfl⟩
end Go.Proofs.Ytmlgoecdefeapaa
