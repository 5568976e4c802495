/-
  The keys of a set of numbers, sorted, as the library has it: at a set in memory. The condition: at most 65536 numbers.
-/
import Derived.Test.YtmfadmhbkgemmaaQSJ
import Derived.Test.YtmfadmhbkgemmaaQGSet
import Derived.Test.YtmfadmhbkgemmaaQPackA
namespace Go.Proofs.Ytmfadmhbkgemmaa
open Go.RowKit Go.Maps Go.Sort Go.Shelf

theorem sortsA (m : Nat) : AnyZI.SortsIn Try.prog Try.sortedA_ren Fence.wide m :=
  ⟨fun blk off cap ss W hH hblk hsz => callsIn_wide.2 (AnyM.slices_Sort_int Try.sortA blk off cap ss W hH hblk hsz),
   fun p cap W => callsIn_wide.2 (AnyM.slices_Sort_int_none Try.sortA p cap W)⟩
theorem keys_call (mb : Option Nat) (W : World) : Calls Try.prog 62 #[.map mb] W fun e w' => e = .returned (.func (.func 72) #[] #[.pointer (some ⟨W.heap.size, 0, none⟩)]) ∧ w' = W.alloc (.cells #[.map mb] 83) :=
  (callsIn_wide (n := 5)).1 (AnyZI.keys_in Try.keysA Fence.wide 5 trivial rfl mb W)
theorem sorted_call {w : World} {M : Nat} {ks : List Int} (h : SetAt w M ks) (hl : ks.length ≤ 65536) : Calls Try.prog 61 #[.func (.func 72) #[] #[.pointer (some ⟨w.heap.size, 0, none⟩)]] (w.alloc (.cells #[.map (some M)] 83)) fun e w' => ∃ v, e = .returned v ∧ w'.ownsRow w.heap.size 3 1 v ks.length (intL (ks.mergeSort leI)) ∧ Below w.heap.size w w' := by
  obtain ⟨D, hown, hnd, hm⟩ := h
  have hbl := hown.lt
  have hsz := own_size hown hnd hm
  have hseq : SeqGives Fence.wide 2 Try.prog 72 #[.pointer (some ⟨w.heap.size, 0, none⟩)] encZ (fun ss => ss.Perm (intKeys D)) (Maps.size D) (w.alloc (.cells #[.map (some M)] 83)) :=
    AnyZI.keys_gives (ρ := Try.keysA_ren) { Try.keysA with } Fence.wide _ trivial rfl (by omega) w.heap.size M ks.length D _ (by simp) (by simp) (by
      obtain ⟨es, clock, hb, Ft, hs, hD⟩ := hown
      exact ⟨es, clock, (Below.heap_alloc _ _ M hbl).trans hb, Ft, hs, hD⟩)
  have cS := AnyZI.sorted_in Try.sortedA Fence.wide 5 trivial trivial trivial trivial rfl (by omega) (sortsA _) (enters_of Try.func71 (by kernel_rfl) rfl) 72 #[.pointer (some ⟨w.heap.size, 0, none⟩)] trivial (enters_of Try.func72 (by kernel_rfl) rfl) _ _ (by rw [hsz]; unfold maxLen; omega) (by rw [hsz]; omega) _ hseq
  change CallsIn _ _ Try.prog 61 _ _ _ at cS
  refine ((callsIn_wide (n := 5)).1 cS).mono ?_
  rintro e w' ⟨v, ss, rfl, hS, hrow, _, hb⟩
  have hp : ss.Perm ks := hS.trans (own_perm hown hnd hm).symm
  refine ⟨v, rfl, ?_, ((Below.refl _ w).alloc (Nat.le_refl _) _).trans (hb.mono (by simp))⟩
  rw [hp.length_eq, show (ss.mergeSort fun x y => decide (x ≤ y)) = ks.mergeSort leI from mergeSort_of_perm_i hp] at hrow
  exact own_mono hrow (by simp)
/-- A rising row is its own sorting. -/
theorem sorted_self {l L : List Int} (hp : l.Perm L) (hs : L.Pairwise (· < ·)) : l.mergeSort leI = L := by
  rw [mergeSort_of_perm_i hp]
  refine List.mergeSort_of_pairwise (hs.imp ?_)
  intro a b h
  simp only [leI, decide_eq_true_eq]
  omega
end Go.Proofs.Ytmfadmhbkgemmaa
