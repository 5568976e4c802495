/-
  The names of the files of the document's disk (package latchkeyref05). The condition: there are at most 100000 files.
-/
import Derived.Test.YtkdglkaeglhibaaGreatDoorPDkTexts
import Derived.Deep.MidRow
namespace Go.Proofs.YtkdglkaeglhibaaGreatDoor
open Go.RowKit

def strL (l : List ByteArray) : List Value := l.map Value.string
def namesOf (l : List (Fl × Value)) : List ByteArray := l.map fun p => p.1.name
theorem infoS : (Tryz.prog.info? 9).map (fun i => (i.zero, i.size, i.bytes)) = some (some (.string ⟨#[]⟩), 1, 16) := by kernel_rfl
/-- A row of texts of one's own is a row of texts to be read. -/
theorem StrAt.own {w : World} {base : Nat} {v : Value} {l : List ByteArray} (h : w.ownsRow base 9 1 v l.length (strL l)) : StrAt w v l := by
  rcases h.2 with ⟨rfl, h0⟩ | ⟨g, cap, cur, rfl, _, hg, _, _, _, _⟩
  · exact ⟨⟨none, 0, by rw [h0], Or.inl h0⟩⟩
  · refine ⟨⟨_, _, rfl, Or.inr ⟨g, 0, rfl, lt_of_block hg, fun j hj => ?_⟩⟩⟩
    have := World.ownsRow.cellAt h j (by omega)
    rw [Nat.zero_add, this]
    unfold strL
    rw [List.getElem?_map, List.getElem?_eq_getElem hj]
    rfl

set_option maxHeartbeats 3200000 in
set_option maxRecDepth 100000 in
/-- Files. -/
theorem files_any (w : World) (base D : Nat) (l : List (Fl × Value)) (clock : Nat) (v : Value) (hl : l.length ≤ 100000) (h : DkAt w base D l clock v) :
    Calls Tryz.prog 15 #[.pointer (some ⟨D, 0, none⟩)] w fun e w' => ∃ u, e = .returned u ∧ w'.ownsRow w.heap.size 9 1 u (namesOf l).length (strL (namesOf l)) ∧ Below w.heap.size w w' := by
  obtain ⟨i0, hi, hz0, hz1, hz2⟩ := info_parts infoS
  have hD : D < w.heap.size := lt_of_block h.bl
  obtain ⟨a, cap, rfl, hf⟩ := h.files
  have GF : Hid _ := hf
  have HK : Hid _ := h
  clear hf h
  go_enter Tryz.func15, Tryz.ntmps15
  go_wp2
  go_loopw [3, 4] (fun u i wr => ∃ k : Nat, k ≤ l.length ∧ i = .int .i64 k ∧ wr.ownsRow w.heap.size 9 1 u k (strL (namesOf (l.take k))) ∧ Below w.heap.size w wr) (fun _ i _ => l.length - (intOf i).toNat)
  case atStart => exact ⟨0, Nat.zero_le _, rfl, World.ownsRow_nil _ _ _ _, Below.refl _ _⟩
  case round =>
    obtain ⟨k, hk, rfl, hown, bel⟩ := hrel
    have c0 : wr.cell? ⟨D, 0, none⟩ = some (.slice a l.length cap) := (bel.cell (by exact hD)).trans HK.out.cell0
    by_cases hkl : k < l.length
    · rcases GF.out with h0 | ⟨g, rfl, hg, hc⟩
      · omega
      have z0 := (bel.cell (p := ⟨g, k * 2, none⟩) (by exact hg)).trans (hc k hkl).1
      obtain ⟨nm, hnm⟩ : ∃ nm, nm = l[k].1.name := ⟨_, rfl⟩
      rw [← hnm] at z0
      have HT : Hid (strL (namesOf (l.take (k + 1))) = strL (namesOf (l.take k)) ++ [.string nm]) := by
        show _ = _
        rw [List.take_add_one, List.getElem?_eq_getElem hkl, hnm]
        simp only [Option.toList_some]
        unfold strL namesOf
        rw [List.map_append, List.map_append]
        rfl
      have y1 := hown.alloc (.cells #[.string nm] 9)
      have by1 := bel.alloc bel.size (.cells #[.string nm] 9)
      have hB : ∀ j u, ([Value.string nm])[j]? = some u → (wr.alloc (.cells #[.string nm] 9)).cell? ((⟨wr.heap.size, 0, none⟩ : Addr).add j) = some u := fun j u hu => by
        rw [Addr.add_mid, Nat.zero_add, ← hu]
        simp
      have one : ∀ u ∈ [Value.string nm], u.oneCell' = true := by
        intro u hu
        simp only [List.mem_cons, List.not_mem_nil, or_false] at hu
        subst hu
        rfl
      clear hc hnm
      go_wp2_with (first
        | (at_builtin; refine wpList_append_own _ rfl (.tmp 14) (.tmp 23) 42 rfl w.heap.size 9 i0 (.string ⟨#[]⟩) 1 16 Tryz.underlying42 hi hz0 hz1 hz2 rfl (by decide) _ k _ rfl (by exact y1) ⟨wr.heap.size, 0, none⟩ 1 1 [.string nm] rfl rfl (by exact hB) one (by unfold maxLen; omega) (by omega) (by exact by1.size) ?_; intro u' w7 ho hgr _))
      go_roundw
      case rel =>
        refine ⟨k + 1, hkl, by go_num, ?_, by1.grown hgr by1.size (fun k hk => (y1.lt k hk).1)⟩
        rw [HT.out]
        exact ho
      case measure => simp [intOf]; omega
    · have hke : k = l.length := by omega
      subst hke
      rw [List.take_length] at hown
      go_wp2
      go_ret
      exact ⟨_, rfl, by rw [show (namesOf l).length = l.length by simp [namesOf]]; exact hown, bel⟩
end Go.Proofs.YtkdglkaeglhibaaGreatDoor
