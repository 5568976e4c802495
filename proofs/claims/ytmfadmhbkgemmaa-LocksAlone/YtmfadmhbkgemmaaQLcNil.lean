/-
  Package locks: locks that are none; new ones. No condition.
-/
import Derived.Test.YtmfadmhbkgemmaaQLcHolders
namespace Go.Proofs.Ytmfadmhbkgemmaa
open Go.RowKit

set_option maxRecDepth 100000 in
set_option maxHeartbeats 2000000 in
theorem lnew_any (w : World) : Calls Try.prog 7 #[] w fun e w' => ∃ D S, e = .returned (.pointer (some ⟨D, 0, none⟩)) ∧ LcW w' w.heap.size D S 0 0 [] ∧ Below w.heap.size w w' := by
  obtain ⟨a1, a2, a3, a4⟩ := lc_two_blks w (.map #[] 0) (.cells (pgA w.heap.size 0) pgT)
  obtain ⟨V, hV⟩ : ∃ V, V = (w.alloc (.map #[] 0)).alloc (.cells (pgA w.heap.size 0) pgT) := ⟨_, rfl⟩
  rw [← hV] at a1 a2 a3 a4
  have hM : mNm.At V w.heap.size [] := MapOf.At.keep (w := w.alloc (.map #[] 0)) (MapOf.new mNm w) (a1.trans (heap_alloc_new w _).symm)
  have HE : Hid (LcW V w.heap.size (w.heap.size + 1) (setL (w.heap.size + 1) w.heap.size fun _ _ => False) 0 0 [] ∧ Below w.heap.size w V) := (show Hid _ from (⟨⟨⟨w.heap.size, [], fun _ _ => False, ⟨a2, hM, fun nm x hx => (by cases hx), fun nm _ => ⟨rfl, fun g h => h⟩, fun a b _ g h => h.elim, fun nm h => h, fun nm h => h, fun g hg => (by
    rcases hg with h | h | ⟨_, h⟩
    · omega
    · omega
    · exact h.elim), by decide, by decide⟩, rfl⟩, LcOk.nil, ⟨fun x hx => (by cases hx), by simp, by decide, by decide⟩⟩, a4⟩ : _ ∧ _))
  have HV : Hid ((w.alloc (.map #[] 0)).alloc (.cells #[.map (some w.heap.size), .int .u64 0] pgT) = V) := hV.symm
  have mkA : ∀ w : World, (Instr.makeMap 58 none).run Try.prog w = .ok (.map (some w.heap.size)) (w.alloc (.map #[] 0)) := fun w => run_makeMap _ _
  clear hV a1 a2 a3 a4 hM
  go_enter Try.func7, Try.ntmps7
  go_wp2
  go_ret
  rw [HV.out]
  exact ⟨_, _, rfl, HE.out.1, HE.out.2⟩
end Go.Proofs.Ytmfadmhbkgemmaa
