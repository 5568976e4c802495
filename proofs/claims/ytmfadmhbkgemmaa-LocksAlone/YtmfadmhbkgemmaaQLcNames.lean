/-
  The keys of a map of names, sorted, as the library has it: at a map in memory. The condition: at most 65536 names.
-/
import Derived.Test.YtmfadmhbkgemmaaQLcKeys
import Derived.Test.YtmfadmhbkgemmaaQGMapR
import Derived.Sort.KeysCollected
namespace Go.Proofs.Ytmfadmhbkgemmaa
open Go.RowKit Go.Maps Go.Sort Go.Shelf
open Go.WideElems (Fit rg)

abbrev nmPtr (b : Nat) : Value := .pointer (some ⟨b, 0, none⟩)
theorem keyS : Keyed Try.prog 9 := Maps.string_keyed Try.underlying9
theorem keyS_of {n : ByteArray} (h : n.size ≤ maxLen) : keyOf Try.prog 9 (.string n) = some (.string n.data.toList) := by
  simp [keyOf, Try.underlying9, mapKey, h]
/-- Locks' blocks by names. -/
abbrev mNm : MapOf ByteArray Nat := ⟨58, 9, 66, Value.string, nmPtr, fun n => n.size ≤ maxLen, .pointer none⟩
theorem mNm_is : mNm.Is := ⟨Try.underlying58, keyS, fun _ h => ⟨_, keyS_of h⟩, fun a b h => by injection h, fun w => by kernel_rfl⟩
abbrev nmR : Value → Option (DataW Unit × List MemPlace) := fun _ => some (.nil, [])
theorem nm_own {w : World} {M : Nat} {T : List (ByteArray × Nat)} (h : mNm.At w M T) (hl : T.length ≤ maxLen) : ∃ D : DataW Unit, w.ownsMap Try.prog 9 nmR M T.length D ∧ (strKeys D).Perm (T.map fun p => p.1.data.toList) ∧ Maps.size D = T.length := by
  obtain ⟨es, clock, hb, he⟩ := h
  have hrd : ∀ x ∈ es.toList, ∃ p ∈ T, x.key = .string p.1 ∧ WideElems.rd Try.prog 9 nmR x = some (.string p.1.data.toList, .nil) := fun x hx => by
    obtain ⟨j, hj, rfl⟩ := List.getElem_of_mem hx
    obtain ⟨p, hp, e1, e2⟩ := he.at (List.getElem?_eq_getElem hj)
    refine ⟨p, List.mem_of_getElem? hp, e1, ?_⟩
    unfold WideElems.rd
    rw [e1, keyS_of (he.ok p (List.mem_of_getElem? hp))]
    rfl
  have hF : Fit Try.prog 9 nmR es clock := ⟨by rw [he.len]; exact hl, he.st, fun x hx => by obtain ⟨p, _, _, e⟩ := hrd x hx; exact ⟨_, e⟩⟩
  have hmap : es.toList.map (rg Try.prog 9 nmR) = T.map fun p => (Lit.string p.1.data.toList, DataW.nil) := by
    apply List.ext_getElem?
    intro j
    rw [List.getElem?_map, List.getElem?_map]
    by_cases hj : j < es.toList.length
    · obtain ⟨p, hp, e1, e2⟩ := he.at (List.getElem?_eq_getElem hj)
      rw [List.getElem?_eq_getElem hj, hp]
      have : WideElems.rd Try.prog 9 nmR es.toList[j] = some (.string p.1.data.toList, .nil) := by
        unfold WideElems.rd
        rw [e1, keyS_of (he.ok p (List.mem_of_getElem? hp))]
        rfl
      show some (rg Try.prog 9 nmR es.toList[j]) = _
      unfold rg
      rw [this]
      rfl
    · have h1 : T.length = es.toList.length := by rw [← he.len]; simp
      rw [List.getElem?_eq_none (by omega), List.getElem?_eq_none (by omega)]
      rfl
  refine ⟨_, ⟨es, clock, hb, hF, by rw [he.len]; exact Nat.le_refl _, rfl⟩, ?_, ?_⟩
  · rw [hmap]
    have := (WideShapes.sorted_perm (T.map fun p => (Lit.string p.1.data.toList, (DataW.nil : DataW Unit)))).map fun p => strOf p.1
    rw [List.map_map] at this
    exact this
  · rw [Maps.size_eq, length_read, he.len]
theorem sortsS (m : Nat) : AnyZ.SortsIn Try.prog Try.sortedS_ren Fence.wide m :=
  ⟨fun blk off cap ss W hH hblk hsz => callsIn_wide.2 (AnyM.slices_Sort_string Try.sortS blk off cap ss W hH hblk hsz),
   fun p cap W => callsIn_wide.2 (AnyM.slices_Sort_string_none Try.sortS p cap W)⟩
theorem keysS_call (mb : Option Nat) (W : World) : Calls Try.prog 60 #[.map mb] W fun e w' => e = .returned (.func (.func 69) #[] #[.pointer (some ⟨W.heap.size, 0, none⟩)]) ∧ w' = W.alloc (.cells #[.map mb] 58) :=
  (callsIn_wide (n := 5)).1 (AnyZ.keys_in Try.keysS Fence.wide 5 trivial rfl mb W)
theorem sortedS_call {w : World} {M : Nat} {T : List (ByteArray × Nat)} (h : mNm.At w M T) (hl : T.length ≤ 65536) : Calls Try.prog 59 #[.func (.func 69) #[] #[.pointer (some ⟨w.heap.size, 0, none⟩)]] (w.alloc (.cells #[.map (some M)] 58)) fun e w' => ∃ v, e = .returned v ∧ w'.ownsRow w.heap.size 9 1 v T.length (((T.map fun p => p.1.data.toList).mergeSort leB).map encStr) ∧ Below w.heap.size w w' := by
  obtain ⟨D, hown, hper, hsz⟩ := nm_own h (by unfold maxLen; omega)
  have hbl := hown.lt
  have hseq : SeqGives Fence.wide 2 Try.prog 69 #[.pointer (some ⟨w.heap.size, 0, none⟩)] encStr (fun ss => ss.Perm (strKeys D)) (Maps.size D) (w.alloc (.cells #[.map (some M)] 58)) :=
    AnyZ.keys_gives (ρ := Try.keysS_ren) { Try.keysS with } Fence.wide _ trivial rfl (by omega) w.heap.size M T.length D _ (by simp) (by simp) (by
      obtain ⟨es, clock, hb, Ft, hs, hD⟩ := hown
      exact ⟨es, clock, (Below.heap_alloc _ _ M hbl).trans hb, Ft, hs, hD⟩)
  have cS := AnyZ.sorted_in Try.sortedS Fence.wide 5 trivial trivial trivial trivial rfl (by omega) (sortsS _) (enters_of Try.func68 (by kernel_rfl) rfl) 69 #[.pointer (some ⟨w.heap.size, 0, none⟩)] trivial (enters_of Try.func69 (by kernel_rfl) rfl) _ _ (by rw [hsz]; unfold maxLen; omega) (by rw [hsz]; omega) _ hseq
  change CallsIn _ _ Try.prog 59 _ _ _ at cS
  refine ((callsIn_wide (n := 5)).1 cS).mono ?_
  rintro e w' ⟨v, ss, rfl, hS, hrow, _, hb⟩
  have hp : ss.Perm (T.map fun p => p.1.data.toList) := hS.trans hper
  refine ⟨v, rfl, ?_, ((Below.refl _ w).alloc (Nat.le_refl _) _).trans (hb.mono (by simp))⟩
  have hlen := hp.length_eq
  rw [List.length_map] at hlen
  rw [hlen, show (ss.mergeSort fun x y => decide (x ≤ y)) = (T.map fun p => p.1.data.toList).mergeSort leB from mergeSort_of_perm hp] at hrow
  exact own_mono hrow (by simp)
end Go.Proofs.Ytmfadmhbkgemmaa
