/-
  The row of slots that wait, as package heap asks it: its methods through an interface, each as plain data. The conditions: places within the row; fewer than 2^40 of them.
-/
import Derived.Test.YtnoappklbipdhaaLrpLeMem
import Derived.Test.YtnoappklbipdhaaLrpGIface
import Derived.Deep.QuietTactic
import Derived.BigQuiet
namespace Go.Proofs.Ytnoappklbipdhaa
open Go.RowKit

abbrev whW (X : Nat) : Value := .pointer (some ⟨X, 3, none⟩)
section
variable {w : World} {X : Nat} {v : Value}
theorem wh_load (h : w.cell? ⟨X, 3, none⟩ = some v) : (loadVar 51 ⟨X, 3, none⟩).run Try.prog w = .ok v w := by
  simp [go_sem, h]
/-- A method as the type's table has it. -/
theorem meth_at (name : String) (f : FuncId) (pr : Bool) (u : Value) (hm : ((Try.prog.info? 57).bind fun i => i.methods.find? (·.name == name)).map (fun m => (m.func, m.path)) = some (some (f, pr), #[]))
    (hr : (receiverAt 57 (.val (whW X)) pr (some ((name.splitOn ".").getLastD name))).run Try.prog w = .ok u w) :
    (method 191 57 (whW X) name).run Try.prog w = .ok (f, u) w := by
  have hn : (191 : Nat) = (Try.prog.types.size + 99) + 1 := by kernel_rfl
  cases hi : Try.prog.info? 57 with
  | none => rw [hi] at hm; cases hm
  | some i =>
    rw [hi] at hm
    simp only [Option.bind_some] at hm
    cases hf : i.methods.find? (·.name == name) with
    | none => rw [hf] at hm; cases hm
    | some m =>
      rw [hf] at hm
      simp only [Option.map_some, Option.some.injEq, Prod.mk.injEq] at hm
      obtain ⟨h1, h2⟩ := hm
      rw [hn, method]
      rw [List.getLastD_eq_getLast?] at hr
      simp [typeInfo, hi, hf, h1, h2, follow, hr, Result.andThen]
theorem meth_len (h : w.cell? ⟨X, 3, none⟩ = some v) : (method 191 57 (whW X) "Len").run Try.prog w = .ok (51, v) w :=
  meth_at "Len" _ false v (by kernel_rfl) (by rw [← wh_load h]; kernel_rfl)
theorem meth_less (h : w.cell? ⟨X, 3, none⟩ = some v) : (method 191 57 (whW X) "Less").run Try.prog w = .ok (52, v) w :=
  meth_at "Less" _ false v (by kernel_rfl) (by rw [← wh_load h]; kernel_rfl)
theorem meth_swap (h : w.cell? ⟨X, 3, none⟩ = some v) : (method 191 57 (whW X) "Swap").run Try.prog w = .ok (53, v) w :=
  meth_at "Swap" _ false v (by kernel_rfl) (by rw [← wh_load h]; kernel_rfl)
theorem meth_push (w : World) (X : Nat) : (method 191 57 (whW X) "Push").run Try.prog w = .ok (55, whW X) w :=
  meth_at "Push" _ true _ (by kernel_rfl) (by kernel_rfl)
theorem meth_pop (w : World) (X : Nat) : (method 191 57 (whW X) "Pop").run Try.prog w = .ok (54, whW X) w :=
  meth_at "Pop" _ true _ (by kernel_rfl) (by kernel_rfl)
end
end Go.Proofs.Ytnoappklbipdhaa
