/-
  The document's disk (package latchkeyref05): a file made sure, read, asked how many of its bytes are not sure. The condition: a file has at most 2^40 bytes.
-/
import Derived.Test.YtkdglkaeglhibaaGreatDoorPDkMake
import Derived.Laws.OwnMore
namespace Go.Proofs.YtkdglkaeglhibaaGreatDoor
open Go.RowKit

theorem set_vals {l : List (Fl × Value)} {j : Nat} (hj : j < l.length) (f : Fl) : (l.set j (f, l[j].2)).map (·.2) = l.map (·.2) := by
  rw [List.map_set]
  apply List.ext_getElem
  · simp
  · intro i h1 h2
    rw [List.getElem_set]
    by_cases e : j = i
    · subst e
      simp
    · simp [e]
theorem set_row {l : List (Fl × Value)} {j : Nat} (hj : j < l.length) (bs : List (UInt8 × Nat)) : fsL (l.set j (⟨l[j].1.name, bs⟩, l[j].2)) = fsL l := by
  unfold fsL
  rw [List.flatMap_def, List.flatMap_def, List.map_set]
  congr 1
  apply List.ext_getElem
  · simp
  · intro i h1 h2
    rw [List.getElem_set]
    by_cases e : j = i
    · subst e
      simp [fL]
    · simp [e]
theorem set_mem {l : List (Fl × Value)} {j : Nat} {x q : Fl × Value} (h : q ∈ l.set j x) : q = x ∨ ∃ i, ∃ hi : i < l.length, i ≠ j ∧ q = l[i] := by
  obtain ⟨i, hi, rfl⟩ := List.getElem_of_mem h
  rw [List.getElem_set]
  by_cases e : j = i
  · rw [if_pos e]
    exact Or.inl rfl
  · rw [if_neg e]
    exact Or.inr ⟨i, by simpa using hi, fun e2 => e e2.symm, rfl⟩
theorem sep_at {l : List (Fl × Value)} (h : l.Pairwise (fun p q => ∀ g, p.2.ownBlock = some g → q.2.ownBlock ≠ some g)) {i j : Nat} (hi : i < l.length) (hj : j < l.length) (hne : i ≠ j) : ∀ g, l[i].2.ownBlock = some g → l[j].2.ownBlock ≠ some g := by
  rw [List.pairwise_iff_getElem] at h
  intro g e1 e2
  rcases Nat.lt_or_gt_of_ne hne with h1 | h1
  · exact h i j hi hj h1 g e1 e2
  · exact h j i hj hi h1 g e2 e1
/-- One file's bytes have turned, in their own row. -/
theorem DkAt.bytes {w w' : World} {base D : Nat} {l : List (Fl × Value)} {clock : Nat} {v : Value} (h : DkAt w base D l clock v) {j : Nat} (hj : j < l.length) {bs : List (UInt8 × Nat)} (hg : w.grownBy w' l[j].2.ownBlock) (hr : w'.ownsRow base 70 2 l[j].2 bs.length (bsL bs)) :
    DkAt w' base D (l.set j (⟨l[j].1.name, bs⟩, l[j].2)) clock v := by
  have hm : l[j] ∈ l := List.getElem_mem hj
  have hD := lt_of_block h.bl
  refine ⟨(hg.block D hD (fun e => (h.eD _ hm).1 e.symm)).trans h.bl, ?_, fun q hq => ?_, h.lo, h.nD, fun q hq => ?_, ?_⟩
  · rw [set_row hj, List.length_set]
    refine h.row.kept hg ?_
    by_cases e : v.ownBlock = none
    · exact Or.inl e
    · right
      intro e2
      obtain ⟨g, hg2⟩ := Option.ne_none_iff_exists'.1 e
      exact (h.eD _ hm).2 g (by rw [← e2]; exact hg2) hg2
  · rcases set_mem hq with rfl | ⟨i, hi, hne, rfl⟩
    · exact hr
    · refine (h.each _ (List.getElem_mem hi)).kept hg ?_
      by_cases e : l[i].2.ownBlock = none
      · exact Or.inl e
      · right
        intro e2
        obtain ⟨g, hg2⟩ := Option.ne_none_iff_exists'.1 e
        exact sep_at h.sep hi hj hne g hg2 (by rw [← e2]; exact hg2)
  · rcases set_mem hq with rfl | ⟨i, hi, hne, rfl⟩
    · exact h.eD l[j] hm
    · exact h.eD _ (List.getElem_mem hi)
  · have h1 := h.sep
    have e := set_vals hj ⟨l[j].1.name, bs⟩
    rw [← List.pairwise_map (f := fun p : Fl × Value => p.2) (R := fun a b => ∀ g, a.ownBlock = some g → b.ownBlock ≠ some g)] at h1 ⊢
    rw [e]
    exact h1
/-- A file's cells: where its row of bytes lies. -/
theorem DkAt.file {w : World} {base D : Nat} {l : List (Fl × Value)} {clock : Nat} {v : Value} (h : DkAt w base D l clock v) {j : Nat} (hj : j < l.length) :
    ∃ g cap, v = .slice (some ⟨g, 0, none⟩) l.length cap ∧ g < w.heap.size ∧ w.cell? ⟨g, j * 2 + 1, none⟩ = some l[j].2 := by
  obtain ⟨a, cap, e, hf⟩ := h.files
  rcases hf with h0 | ⟨g, rfl, hg, hc⟩
  · omega
  · exact ⟨g, cap, e, hg, (hc j hj).2⟩
def sureB (b : UInt8 × Nat) : UInt8 × Nat := (b.1, 0)
theorem bsL_at (l : List (UInt8 × Nat)) (k : Nat) (hk : k < l.length) : (bsL l)[k * 2]? = some (.int .u8 (l[k].1.toNat : Int)) ∧ (bsL l)[k * 2 + 1]? = some (.int .i64 (l[k].2 : Int)) := by
  have a0 := pairs_at bL (fun _ => rfl) l k 0 hk (by omega)
  have a1 := pairs_at bL (fun _ => rfl) l k 1 hk (by omega)
  rw [Nat.add_zero] at a0
  exact ⟨a0, a1⟩
theorem bsL_set (l : List (UInt8 × Nat)) (k : Nat) (hk : k < l.length) (t : Nat) : (bsL l).set (k * 2 + 1) (.int .i64 (t : Int)) = bsL (l.set k (l[k].1, t)) := by
  unfold bsL
  induction l generalizing k with
  | nil => simp at hk
  | cons a l ih =>
    cases k with
    | zero => simp [bL]
    | succ k =>
      rw [List.flatMap_cons, List.set_cons_succ, List.flatMap_cons]
      simp only [List.getElem_cons_succ]
      rw [← ih k (by simpa using hk)]
      show ([_, _] ++ _ : List Value).set _ _ = [_, _] ++ _
      rw [show (k + 1) * 2 + 1 = (k * 2 + 1) + 1 + 1 by omega]
      rfl
def sureK (bs : List (UInt8 × Nat)) (k : Nat) : List (UInt8 × Nat) := (bs.take k).map sureB ++ bs.drop k
theorem sureK_length (bs : List (UInt8 × Nat)) (k : Nat) (hk : k ≤ bs.length) : (sureK bs k).length = bs.length := by
  unfold sureK
  rw [List.length_append, List.length_map, List.length_take, List.length_drop]
  omega
theorem sureK_succ (bs : List (UInt8 × Nat)) (k : Nat) (hk : k < bs.length) : (sureK bs k).set k (bs[k].1, 0) = sureK bs (k + 1) := by
  unfold sureK
  rw [List.take_succ_eq_append_getElem hk, List.map_append, List.drop_eq_getElem_cons hk, List.append_assoc]
  have e : k = ((bs.take k).map sureB).length := by rw [List.length_map, List.length_take]; omega
  conv => lhs; arg 2; rw [e]
  rw [List.set_append_right _ _ (Nat.le_refl _), Nat.sub_self]
  rfl
theorem sureK_at (bs : List (UInt8 × Nat)) (k : Nat) (hk : k < bs.length) : (sureK bs k)[k]'(by rw [sureK_length bs k (by omega)]; exact hk) = bs[k] := by
  unfold sureK
  rw [List.getElem_append_right (by rw [List.length_map, List.length_take]; omega)]
  simp only [List.length_map, List.length_take, List.getElem_drop]
  congr 1
  omega
set_option maxHeartbeats 3200000 in
set_option maxRecDepth 100000 in
theorem rsync_yes (w : World) (base D : Nat) (l : List (Fl × Value)) (clock : Nat) (v : Value) (n : ByteArray) (hl : l.length ≤ 100000) (h : DkAt w base D l clock v) (j : Nat) (hj : j < l.length) (hf : findI l n = (j : Int)) (hb : l[j].1.bs.length ≤ 1099511627776) :
    Calls Tryz.prog 25 #[.pointer (some ⟨D, 0, none⟩), .string n] w fun e w' => e = .returned (.int .i64 0) ∧ DkAt w' base D (l.set j (⟨l[j].1.name, l[j].1.bs.map sureB⟩, l[j].2)) clock v ∧ w.grownBy w' l[j].2.ownBlock := by
  have hc := find_any w base D l clock v n (by omega) h
  rw [hf] at hc
  obtain ⟨g, cap, rfl, hg, hz⟩ := h.file hj
  have c0 := h.cell0
  have hm : l[j] ∈ l := List.getElem_mem hj
  have hrow := h.each _ hm
  have hD := lt_of_block h.bl
  have neD := (h.eD _ hm).1
  have neV : l[j].2.ownBlock ≠ some g := fun e => (h.eD _ hm).2 g e rfl
  have hfin : Hid (∀ w', w.grownBy w' l[j].2.ownBlock → w'.ownsRow base 70 2 l[j].2 (l[j].1.bs.map sureB).length (bsL (l[j].1.bs.map sureB)) → DkAt w' base D (l.set j (⟨l[j].1.name, l[j].1.bs.map sureB⟩, l[j].2)) clock (.slice (some ⟨g, 0, none⟩) l.length cap)) := fun w' h1 h2 => h.bytes hj h1 h2
  have hj0 : (0 : Int) ≤ (j : Int) := by omega
  have hj1 : (j : Int) < (l.length : Int) := by omega
  have hj2 : decide ((j : Int) < 0) = false := by simp
  have hv : ∃ pv cv, l[j].2 = .slice pv l[j].1.bs.length cv := by
    rcases hrow.2 with ⟨e, e0⟩ | ⟨g, cap, cur, e, _⟩
    · exact ⟨none, 0, by rw [e, e0]⟩
    · exact ⟨_, _, e⟩
  obtain ⟨pv, cv, ev⟩ := hv
  generalize l[j].1.name = nm at *
  generalize l[j].2 = V at *
  generalize l[j].1.bs = bs at *
  subst ev
  clear h hf hm
  go_enter Tryz.func25, Tryz.ntmps25
  go_wp2_with (go_at_call 31; refine hc.mono ?_; rintro e w1 ⟨rfl, rfl⟩)
  go_loopw [6] (fun i wr => ∃ k : Nat, k ≤ bs.length ∧ i = .int .i64 k ∧ wr.ownsRow base 70 2 (.slice pv bs.length cv) bs.length (bsL (sureK bs k)) ∧ w.grownBy wr (Value.slice pv bs.length cv).ownBlock) (fun i _ => bs.length - (intOf i).toNat)
  case atStart => exact ⟨0, Nat.zero_le _, rfl, by simpa [sureK] using hrow, ⟨rfl, rfl, rfl, Nat.le_refl _, fun _ _ _ => rfl⟩⟩
  case round =>
    obtain ⟨k, hk, rfl, hown, hgr⟩ := hrel
    have d0 : wr.cell? ⟨D, 0, none⟩ = some (.slice (some ⟨g, 0, none⟩) l.length cap) := (hgr.cell_far ⟨D, 0, none⟩ hD neD.symm).trans c0
    have d1 : wr.cell? ⟨g, j * 2 + 1, none⟩ = some (.slice pv bs.length cv) := (hgr.cell_far ⟨g, j * 2 + 1, none⟩ hg neV.symm).trans hz
    by_cases hkl : k < bs.length
    · rcases hown.2 with ⟨e, e0⟩ | ⟨q, cap2, cur, e, _⟩
      · omega
      simp only [Value.slice.injEq] at e
      obtain ⟨rfl, _, rfl⟩ := e
      have hst := hown.stored (k * 2 + 1) (.int .i64 0)
      have fz := hown.frozenAt (k * 2 + 1)
      have hlen := sureK_length bs k hk
      have yc : wr.cell? ⟨q, k * 2 + 1, none⟩ = some (.int .i64 (bs[k].2 : Int)) := by
        have a1 := World.ownsRow.cellAt hown (k * 2 + 1) (by omega)
        rw [(bsL_at (sureK bs k) k (by omega)).2, sureK_at bs k hkl] at a1
        exact a1
      have e2 := bsL_set (sureK bs k) k (by omega) 0
      rw [sureK_at bs k hkl, sureK_succ bs k hkl] at e2
      have HS : Hid ((wr.setCell ⟨q, k * 2 + 1, none⟩ (.int .i64 0)).ownsRow base 70 2 (.slice (some ⟨q, 0, none⟩) bs.length cv) bs.length (bsL (sureK bs (k + 1)))) := by
        have h1 := hst.1
        have e3 : (Value.int .i64 (((0 : Nat)) : Int)) = .int .i64 0 := rfl
        rw [e3] at e2
        rw [e2] at h1
        exact h1
      have HG : Hid (w.grownBy (wr.setCell ⟨q, k * 2 + 1, none⟩ (.int .i64 0)) (some q)) := hgr.andThen hst.2 (fun j hj => Or.inr hj)
      have hk0 : (0 : Int) ≤ (k : Int) := by omega
      have hk1 : (k : Int) < (bs.length : Int) := by omega
      clear hst e2 hown hgr
      generalize bs[k].2 = X at yc
      go_wp2
      exact ⟨⟨k + 1, hkl, by simp, HS.out, HG.out⟩, by simp [intOf]; omega⟩
    · have hke : k = bs.length := by omega
      subst hke
      have hq : decide ((bs.length : Int) < (bs.length : Int)) = false := by simp
      have HF : Hid (DkAt wr base D (l.set j (⟨nm, bs.map sureB⟩, .slice pv bs.length cv)) clock (.slice (some ⟨g, 0, none⟩) l.length cap)) := hfin.out wr hgr (by
        have e : sureK bs bs.length = bs.map sureB := by simp [sureK]
        rw [e] at hown
        rw [List.length_map]
        exact hown)
      go_wp2
      go_ret
      exact ⟨rfl, HF.out, hgr⟩
end Go.Proofs.YtkdglkaeglhibaaGreatDoor
