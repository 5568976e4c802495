/-
  Package learner: a learner that is none. No condition.
-/
import Derived.Test.YtnoappklbipdhaaLrnLeJump
namespace Go.Proofs.Ytnoappklbipdhaa
open Go.RowKit Go.Shelf

/-- Nothing is told; what was there lies as it lay. -/
structure NilPost (w : World) (e : Ending) (w' : World) : Prop where
  ex : e = .returned (.slice none 0 0) ∧ Below w.heap.size w w'
set_option maxRecDepth 100000 in
theorem learn_nil (w : World) (e : En) : Calls Try.prog 9 #[.pointer none, .agg (enA e)] w (NilPost w) := by
  have mixed : Try.prog.follows Departure.mixedOrders = true := by kernel_rfl
  obtain ⟨W0, hW0⟩ : ∃ W0, W0 = w.alloc (.cells (enA e) 30) := ⟨_, rfl⟩
  have B0 : Hid (Below w.heap.size w W0) := by rw [hW0]; exact (Below.refl _ w).alloc (Nat.le_refl _) _
  have HW : Hid (w.alloc (.cells (enA e) 30) = W0) := hW0.symm
  clear hW0
  go_enter Try.func9, Try.ntmps9
  go_upto_region 1 with fail
  rw [HW.out]
  go_quiet (fail)
  go_wp2
  go_ret
  exact ⟨rfl, bmm B0.out B0.out.size (below_drewN (Below.refl _ W0) nq)⟩
set_option maxRecDepth 100000 in
theorem jump_nil (w : World) (b : Int) : Calls Try.prog 11 #[.pointer none, .int .i64 b] w (NilPost w) := by
  go_enter Try.func11, Try.ntmps11
  go_wp2
  go_ret
  exact ⟨rfl, Below.refl _ _⟩
set_option maxRecDepth 100000 in
set_option maxHeartbeats 1000000 in
theorem since_nil (w : World) (s most : Int) : Calls Try.prog 13 #[.pointer none, .int .i64 s, .int .i64 most] w (NilPost w) := by
  have h2 := two_blocks w (.cells #[.pointer none] 23) (.cells #[.int .i64 most] 3)
  have y0 : ((w.alloc (.cells #[.pointer none] 23)).alloc (.cells #[.int .i64 most] 3)).heap[w.heap.size]? = some (.cells #[.pointer none] 23 (0, 0)) := h2.1.trans (heap_alloc_new w _)
  have dp : ((w.alloc (.cells #[.pointer none] 23)).alloc (.cells #[.int .i64 most] 3)).cell? ⟨w.heap.size, 0, none⟩ = some (.pointer none) := by simp only [World.cell?, y0]; rfl
  have b2 : Below w.heap.size w ((w.alloc (.cells #[.pointer none] 23)).alloc (.cells #[.int .i64 most] 3)) := ((Below.refl _ w).alloc (Nat.le_refl _) _).alloc (by simp) _
  have B2 : Hid _ := b2
  clear h2 y0 b2
  refine (callsIn_wide (n := 3)).1 ?_
  refine callsIn_of_wp_marks Try.func13 rfl trivial ?_ rfl
  simp only [Try.ntmps13, List.size_toArray, List.length_cons, List.length_nil, Nat.reduceAdd, Nat.reduceSub, Array.replicate_succ, Array.replicate_zero, List.push_toArray, List.append_toArray, List.nil_append, List.cons_append]
  gi_wp2
  exact ⟨_, results_tmp rfl _ _ _, rfl, B2.out⟩
end Go.Proofs.Ytnoappklbipdhaa
