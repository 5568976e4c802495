/-
  Package session: sessions that are none. No condition.
-/
import Derived.Test.YthokbififjhflaaSeAsk
import Derived.Test.YthokbififjhflaaSeAll
import Derived.Test.YthokbififjhflaaSeEnc
namespace Go.Proofs.Ythokbififjhflaa
open Go.RowKit

set_option maxRecDepth 100000 in
theorem sopen_nil (c f : Int) (w : World) : Calls Try.prog 22 #[.pointer none, .int .i64 c, .int .i64 f] w fun e w' => e = .returned (.tuple #[.int .i64 0, .bool false, .int .i64 1]) ∧ w' = w := by
  go_enter Try.func22, Try.ntmps22
  go_wp2
  go_ret3
  exact ⟨rfl, rfl⟩
set_option maxRecDepth 100000 in
theorem client_nil (c : Int) (w : World) : Calls Try.prog 17 #[.pointer none, .int .i64 c] w fun e w' => e = .returned (.tuple #[.int .i64 0, .int .i64 0, .bool false]) ∧ w' = w := by
  go_enter Try.func17, Try.ntmps17
  go_wp2
  go_ret3
  exact ⟨rfl, rfl⟩
set_option maxRecDepth 100000 in
theorem close_nil (c : Int) (w : World) : Calls Try.prog 25 #[.pointer none, .int .i64 c] w fun e w' => e = .returned (.bool false) ∧ w' = w := by
  go_enter Try.func25, Try.ntmps25
  go_wp2
  go_ret
  exact ⟨rfl, rfl⟩
set_option maxRecDepth 100000 in
theorem sall_nil (w : World) : Calls Try.prog 13 #[.pointer none] w fun e w' => e = .returned (.slice none 0 0) ∧ w' = w := by
  go_enter Try.func13, Try.ntmps13
  go_wp2
  go_ret
  exact ⟨rfl, rfl⟩
set_option maxRecDepth 100000 in
theorem send_nil (r : SeR) (w : World) : Calls Try.prog 24 #[.pointer none, .agg (seRA r)] w fun e w' => e = .returned (.bool false) ∧ Below w.heap.size w w' := by
  go_enter Try.func24, Try.ntmps24
  go_wp2
  go_ret
  exact ⟨rfl, (Below.refl _ w).alloc (Nat.le_refl _) _⟩
set_option maxRecDepth 100000 in
theorem sbegin_nil (c q : Int) (w : World) : Calls Try.prog 23 #[.pointer none, .int .i64 c, .int .i64 q] w fun e w' => e = .returned (.tuple #[.agg (seRA SeR.zero), .int .i64 4]) ∧ Below w.heap.size w w' := by
  have HR : Hid ((w.alloc (.cells (seRA SeR.zero) 36)).heap[w.heap.size]? = some (.cells (seRA SeR.zero) 36 (0, 0))) := heap_alloc_new w _
  go_enter Try.func23, Try.ntmps23
  go_wp2_with (show wpList _ _ _ (⟨_, Op.store 36 _ _, _, _, _, _⟩ :: _) _ _; refine store_row_g rfl 36 _ _ rfl w.heap.size (seRA SeR.zero) rfl rfl 36 _ HR.out sizeRep rfl (by simp [Value.oneCell']) ?_; intro w4 h4 g4)
  refine bodyPost_ret (results_rep Try.results23 _ _ w.heap.size _ rfl (load_rep h4)) rfl ?_
  exact ⟨rfl, below_out ((Below.refl _ w).alloc (Nat.le_refl _) _) g4⟩
end Go.Proofs.Ythokbififjhflaa
