/-
  The document's disk (package latchkeyref05): a file has another name. The condition: there are at most 99999 files.
-/
import Derived.Test.YtkdglkaeglhibaaGreatDoorPRkE
import Derived.Test.YtkdglkaeglhibaaGreatDoorPRkC
namespace Go.Proofs.YtkdglkaeglhibaaGreatDoor
open Go.RowKit

/-- A file's row of bytes is another one. -/
theorem DkAt.setval {w : World} {base D : Nat} {l : List (Fl × Value)} {clock : Nat} {g cap : Nat} {u : Value} {j : Nat} {bs : List (UInt8 × Nat)} (h : DkAt w base D l clock (.slice (some ⟨g, 0, none⟩) l.length cap)) (hj : j < l.length)
    (hr : w.ownsRow base 70 2 u bs.length (bsL bs)) (uD : u.ownBlock ≠ some D) (ug : u.ownBlock ≠ some g) (un : ∀ m (hm2 : m < l.length), m ≠ j → ∀ q, u.ownBlock = some q → l[m].2.ownBlock ≠ some q) :
    DkAt (w.setCell ⟨g, j * 2 + 1, none⟩ u) base D (l.set j (⟨l[j].1.name, bs⟩, u)) clock (.slice (some ⟨g, 0, none⟩) l.length cap) := by
  have hm : l[j] ∈ l := List.getElem_mem hj
  have gD : g ≠ D := fun e => h.nD (by rw [← e]; rfl)
  have hst := h.row.stored (j * 2 + 1) u
  rw [fsL_set hj bs u] at hst
  have bo : ∀ q, q ≠ g → (w.setCell ⟨g, j * 2 + 1, none⟩ u).heap[q]? = w.heap[q]? := fun q hq => heap_setCell_other _ _ _ _ (by simpa using hq)
  refine ⟨(bo D gD.symm).trans h.bl, ?_, fun q hq => ?_, h.lo, by simpa [Value.ownBlock] using gD, fun q hq => ?_, ?_⟩
  · rw [List.length_set]
    exact hst.1
  · rcases set_mem hq with rfl | ⟨i, hi, hne2, rfl⟩
    · exact own_keep hr (fun q e => bo q (fun e2 => ug (by rw [← e2]; exact e)))
    · refine own_keep (h.each _ (List.getElem_mem hi)) (fun q e => ?_)
      rw [bo q (fun e2 => (h.eD _ (List.getElem_mem hi)).2 g (by rw [← e2]; exact e) rfl)]
  · rcases set_mem hq with rfl | ⟨i, hi, hne2, rfl⟩
    · exact ⟨uD, fun q e e2 => ug (by rw [e]; exact e2.symm)⟩
    · exact h.eD _ (List.getElem_mem hi)
  · rw [List.pairwise_iff_getElem]
    intro i k hi hk hik q e1 e2
    have hi2 : i < l.length := by simpa using hi
    have hk2 : k < l.length := by simpa using hk
    rw [List.getElem_set] at e1 e2
    by_cases c1 : j = i
    · rw [if_pos c1] at e1
      rw [if_neg (by omega)] at e2
      exact un k hk2 (by omega) q e1 e2
    · rw [if_neg c1] at e1
      by_cases c2 : j = k
      · rw [if_pos c2] at e2
        exact un i hi2 (by omega) q e2 e1
      · rw [if_neg c2] at e2
        exact sep_at h.sep hi2 hk2 (by omega) q e1 e2
theorem DkAt.dr {w : World} {base D : Nat} {l : List (Fl × Value)} {clock : Nat} {v : Value} (h : DkAt w base D l clock v) : DkAt w.drew base D l clock v := ⟨h.bl, h.row, h.each, h.lo, h.nD, h.eD, h.sep⟩
theorem grown_dr {a b : World} {o : Option Nat} (h : a.grownBy b o) : a.grownBy b.drew o := ⟨h.os, h.tape, h.output, h.size, h.block⟩
/-- The list without the file of that name. -/
def rm (l : List (Fl × Value)) (n : ByteArray) : List (Fl × Value) := if placeOf l n < l.length then l.eraseIdx (placeOf l n) else l
theorem rm_sub (l : List (Fl × Value)) (n : ByteArray) : (rm l n).Sublist l := by
  unfold rm
  by_cases h : placeOf l n < l.length
  · rw [if_pos h]
    exact List.eraseIdx_sublist _ _
  · rw [if_neg h]
    exact List.Sublist.refl l
theorem findI_yes {l : List (Fl × Value)} {n : ByteArray} (h : placeOf l n < l.length) : findI l n = (placeOf l n : Int) := by unfold findI; rw [if_pos h]
theorem findI_no {l : List (Fl × Value)} {n : ByteArray} (h : ¬ placeOf l n < l.length) : findI l n = -1 := by unfold findI; rw [if_neg h]
/-- Remove, whether there is such a file or not. -/
theorem rremove_any (w : World) (base D : Nat) (l : List (Fl × Value)) (clock : Nat) (v : Value) (n : ByteArray) (hl : l.length ≤ 100000) (h : DkAt w base D l clock v) :
    Calls Tryz.prog 24 #[.pointer (some ⟨D, 0, none⟩), .string n] w fun e w' => (∃ z : Int, e = .returned (.int .i64 z)) ∧ ∃ v', DkAt w' base D (rm l n) clock v' ∧ w.grownBy w' (some D) ∧ ∀ g, v'.ownBlock = some g → v.ownBlock = some g ∨ w.heap.size ≤ g := by
  unfold rm
  by_cases hp : placeOf l n < l.length
  · rw [if_pos hp]
    exact (rremove_yes w base D l clock v n hl h _ hp (findI_yes hp)).mono fun e w' ⟨h1, v', h2, h3, h4⟩ => ⟨⟨0, h1⟩, v', h2, h3, fun g e => Or.inr (h4 g e)⟩
  · rw [if_neg hp]
    exact (rremove_no w base D l clock v n hl h (findI_no hp)).mono fun e w' ⟨h1, h2⟩ => ⟨⟨5, h1⟩, v, by rw [← h2]; exact h, by rw [← h2]; exact ⟨rfl, rfl, rfl, Nat.le_refl _, fun _ _ _ => rfl⟩, fun g e => Or.inl e⟩
theorem ins_length (l : List (Fl × Value)) (n : ByteArray) : (insL l n).length = l.length + 1 := by
  have := (List.takeWhile_sublist (fun p : Fl × Value => ltN p.1.name n) (l := l)).length_le
  unfold insL insAt
  simp
  omega
/-- Two steps of which each turns the disk's block alone. -/
theorem grown_two {a b c : World} {D : Nat} (h : a.grownBy b (some D)) (k : b.grownBy c (some D)) : a.grownBy c (some D) :=
  ⟨k.os.trans h.os, k.tape.trans h.tape, k.output.trans h.output, Nat.le_trans h.size k.size, fun i hi hn => (k.block i (Nat.lt_of_lt_of_le hi h.size) hn).trans (h.block i hi hn)⟩
theorem ins_old {l : List (Fl × Value)} {n : ByteArray} {j : Nat} (hj : j < (insL l n).length) : (insL l n)[j] ∈ l ∨ (insL l n)[j] = (⟨n, []⟩, .slice none 0 0) := mem_ins (List.getElem_mem hj)
set_option maxHeartbeats 3200000 in
set_option maxRecDepth 100000 in
/-- Rename. -/
theorem rrename_yes (w : World) (base D : Nat) (l : List (Fl × Value)) (clock : Nat) (v : Value) (n m : ByteArray) (hm : nameB m = true) (hl : l.length ≤ 99999) (h : DkAt w base D l clock v) (hp : placeOf l n < l.length) (hnm : ¬ n = m) (j : Nat) (hj : j < (insL (rm (rm l n) m) m).length) (hjf : findI (insL (rm (rm l n) m) m) m = (j : Int)) (hjn : (insL (rm (rm l n) m) m)[j].1.name = m) :
    Calls Tryz.prog 26 #[.pointer (some ⟨D, 0, none⟩), .string n, .string m] w fun e w' => e = .returned (.int .i64 0) ∧ ∃ v', DkAt w' base D ((insL (rm (rm l n) m) m).set j (⟨m, l[placeOf l n].1.bs⟩, l[placeOf l n].2)) clock v' ∧ w.grownBy w' (some D) ∧ ∀ g, v'.ownBlock = some g → w.heap.size ≤ g := by
  have hc := find_any w base D l clock v n (by omega) h
  rw [findI_yes hp] at hc
  obtain ⟨i, hi⟩ : ∃ i, i = placeOf l n := ⟨_, rfl⟩
  have hil : i < l.length := by rw [hi]; exact hp
  have hum : l[placeOf l n] = l[i] := by simp only [hi]
  rw [hum]
  rw [← hi] at hc
  have hr1 := rremove_any w base D l clock v n (by omega) h
  have hl1 : (rm l n).length ≤ l.length := (rm_sub l n).length_le
  have hl2 : (rm (rm l n) m).length ≤ (rm l n).length := (rm_sub (rm l n) m).length_le
  have hr2 : ∀ (w1 : World) (v1 : Value), DkAt w1 base D (rm l n) clock v1 → _ := fun w1 v1 h1 => rremove_any w1 base D (rm l n) clock v1 m (by omega) h1
  have hmk : ∀ (w2 : World) (v2 : Value), DkAt w2 base D (rm (rm l n) m) clock v2 → _ := fun w2 v2 h2 => make_any w2 base D (rm (rm l n) m) clock v2 m (by omega) h2
  have hfd : ∀ (w3 : World) (v3 : Value), DkAt w3 base D (insL (rm (rm l n) m) m) clock v3 → _ := fun w3 v3 h3 => find_any w3 base D (insL (rm (rm l n) m) m) clock v3 m (by rw [ins_length]; omega) h3
  -- what is to be had of the file's own row, whatever turns in the disk's block alone
  have hrow := h.each _ (List.getElem_mem hil)
  have hED := h.eD _ (List.getElem_mem hil)
  have hrow' : ∀ w', w.grownBy w' (some D) → w'.ownsRow base 70 2 l[i].2 l[i].1.bs.length (bsL l[i].1.bs) := fun w' hg => hrow.kept hg (Or.inr hED.1)
  have hsub : (rm (rm l n) m).Sublist (l.eraseIdx i) := by
    have e : rm l n = l.eraseIdx i := by unfold rm; rw [if_pos hp, hi]
    rw [← e]
    exact rm_sub _ _
  have hsep : ∀ p ∈ l.eraseIdx i, ∀ q, l[i].2.ownBlock = some q → p.2.ownBlock ≠ some q := fun p hpm q e1 e2 => by
    obtain ⟨k, hk, rfl⟩ := List.getElem_of_mem hpm
    rw [List.getElem_eraseIdx] at e2
    rw [List.length_eraseIdx_of_lt hil] at hk
    by_cases c : k < i
    · simp only [c, dif_pos] at e2
      exact sep_at h.sep hil (by omega) (by omega) q e1 e2
    · simp only [c, dif_neg, not_false_iff] at e2
      exact sep_at h.sep hil (by omega) (by omega) q e1 e2
  have hul : ∀ q, l[i].2.ownBlock = some q → q < w.heap.size := fun q e => (hrow.lt q e).2
  obtain ⟨g, cap, rfl, hgl, hcell⟩ := h.file hil
  have c0 := h.cell0
  have hij : decide ((i : Int) < 0) = false := by simp
  have hij2 : (i : Int) < (l.length : Int) := by omega
  have hne : ¬ n.toList = m.toList := fun e => hnm (texts_inj e)
  have hne2 : (n.toList == m.toList) = false := beq_eq_false_iff_ne.2 hne
  obtain ⟨pu, nu, cu, hu⟩ := own_form hrow
  rw [hu] at hcell
  have HU : Hid (l[i].2 = .slice pu nu cu) := hu
  -- the end of it, as one fact
  have HEND0 : Hid (∀ (w3 : World) (g3 cap3 : Nat), DkAt w3 base D (insL (rm (rm l n) m) m) clock (.slice (some ⟨g3, 0, none⟩) (insL (rm (rm l n) m) m).length cap3) → w.grownBy w3 (some D) → w.heap.size ≤ g3 → DkAt (w3.setCell ⟨g3, j * 2 + 1, none⟩ (.slice pu nu cu)) base D ((insL (rm (rm l n) m) m).set j (⟨m, l[i].1.bs⟩, l[i].2)) clock (.slice (some ⟨g3, 0, none⟩) (insL (rm (rm l n) m) m).length cap3) ∧ w.grownBy (w3.setCell ⟨g3, j * 2 + 1, none⟩ (.slice pu nu cu)) (some D)) := fun w3 g3 cap3 h3 hg hg3 => by
    refine ⟨?_, hg.os, hg.tape, hg.output, by simpa using hg.size, fun b hb hn => ?_⟩
    · have h4 := h3.setval hj (hrow' w3 hg) hED.1 (fun e => by have := hul g3 e; omega) (fun k hk hkj q e1 e2 => by
        rcases ins_old hk with h5 | h5
        · exact hsep _ (hsub.subset h5) q e1 e2
        · rw [h5] at e2
          simp [Value.ownBlock] at e2)
      rw [hjn, HU.out] at h4
      rw [HU.out]
      exact h4
    · rw [heap_setCell_other _ _ _ _ (by
        show b ≠ g3
        omega)]
      exact hg.block b hb hn
  have HFZ : Hid (∀ (w3 : World) (g3 cap3 : Nat), DkAt w3 base D (insL (rm (rm l n) m) m) clock (.slice (some ⟨g3, 0, none⟩) (insL (rm (rm l n) m) m).length cap3) → w3.frozen? ⟨g3, j * 2 + 1, none⟩ = false ∧ ∃ y, w3.cell? ⟨g3, j * 2 + 1, none⟩ = some y) := fun w3 g3 cap3 h3 => by
    obtain ⟨gx, cx, ex, _, hy⟩ := h3.file hj
    simp only [Value.slice.injEq, Option.some.injEq, Addr.mk.injEq] at ex
    obtain ⟨⟨rfl, _⟩, _⟩ := ex
    refine ⟨?_, _, hy⟩
    rcases h3.row.2 with ⟨e, _⟩ | ⟨gy, capy, cur, e, _, hb, _⟩
    · simp at e
    · simp only [Value.slice.injEq, Option.some.injEq, Addr.mk.injEq] at e
      obtain ⟨⟨rfl, _⟩, _⟩ := e
      simp [World.frozen?, hb]
  have HLEN : Hid (∀ (w3 : World) (v3 : Value), DkAt w3 base D (insL (rm (rm l n) m) m) clock v3 → (∀ g, v3.ownBlock = some g → w.heap.size ≤ g) → ∃ g3 cap3, v3 = .slice (some ⟨g3, 0, none⟩) (insL (rm (rm l n) m) m).length cap3 ∧ w.heap.size ≤ g3) := fun w3 v3 h3 hv => by
    obtain ⟨gx, cx, ex, _, _⟩ := h3.file hj
    exact ⟨gx, cx, ex, hv gx (by rw [ex]; rfl)⟩
  obtain ⟨l3, hl3⟩ : ∃ l3, l3 = insL (rm (rm l n) m) m := ⟨_, rfl⟩
  simp only [← hl3] at HEND0 HFZ HLEN hfd hmk hj hjf ⊢
  have hjl : (j : Int) < (l3.length : Int) := by omega
  rw [hjf] at hfd
  obtain ⟨out, hout⟩ : ∃ out, out = l3.set j (⟨m, l[i].1.bs⟩, l[i].2) := ⟨_, rfl⟩
  simp only [← hout] at HEND0 ⊢
  have hl3n : l3.length ≤ 100000 := by rw [hl3, ins_length]; omega
  clear h hrow hED hrow' hsub hsep hul hu hl3 hout hjn hum hi hp
  go_enter Tryz.func26, Tryz.ntmps26
  go_wp2_with (first
    | (go_at_call 32; refine (hmk _ _ k2).mono ?_; rintro e w3 ⟨rfl, v3, k3, g3', f3⟩; have gr3 := grown_two gr2 g3'; have fr3 : ∀ g, v3.ownBlock = some g → w.heap.size ≤ g := (fun g e => Nat.le_trans gr2.size (f3 g e)); clear k2 g3' f3)
    | (go_at_call 24; refine (hr2 _ _ k1).mono ?_; rintro e w2 ⟨⟨z2, rfl⟩, v2, k2, g2, _⟩; have gr2 := grown_two gr1 g2; clear k1 gr1 g2)
    | (go_at_call 24; refine hr1.mono ?_; rintro e w1 ⟨⟨z1, rfl⟩, v1, k1, gr1, _⟩)
    | (go_at_call 31; refine hc.mono ?_; rintro e w1 ⟨rfl, rfl⟩)
    | (go_at_call 30; refine (name_any m _).mono ?_; rintro e w1 ⟨rfl, rfl⟩; rw [hm]))
  obtain ⟨g3, cap3, rfl, hg3⟩ := HLEN.out _ _ k3 fr3
  have e3 := k3.cell0
  obtain ⟨z3, y3, hy3⟩ := HFZ.out _ _ _ k3
  obtain ⟨hend, hgr⟩ := HEND0.out _ _ _ k3 gr3 hg3
  have HEND : Hid _ := hend
  have HGR : Hid _ := hgr
  have HFR : Hid (∀ g, (Value.slice (some ⟨g3, 0, none⟩) l3.length cap3).ownBlock = some g → w.heap.size ≤ g) := fr3
  have k3d : DkAt w3.drew base D l3 clock (.slice (some ⟨g3, 0, none⟩) l3.length cap3) := ⟨k3.bl, k3.row, k3.each, k3.lo, k3.nD, k3.eD, k3.sep⟩
  have hc3d := hfd _ _ k3d
  have gD : D ≠ g3 := fun e => k3.nD (by rw [e]; rfl)
  have e4 : ∀ x v, (w3.setCell ⟨g3, x, none⟩ v).cell? ⟨D, 0, none⟩ = some (.slice (some ⟨g3, 0, none⟩) l3.length cap3) := fun x v => by rw [World.cell?_of_block (heap_setCell_other _ _ _ _ (by simpa using gD))]; exact e3
  clear hend hgr k3 k3d fr3
  refine wp_region_held_drew (S := (fun w' : World => w'.cell? ⟨D, 0, none⟩ = some (.slice (some ⟨g3, 0, none⟩) l3.length cap3))) (by kernel_rfl) ?_ (fun hHeld0 => ?_)
  · try dsimp only
    go_keep
  refine tk0 (.pointer (some ⟨D, 0, none⟩)) (by kernel_rfl) (by kernel_rfl) (by kernel_rfl) (fun _ _ _ h => h) rfl (fun w hSw => by (try dsimp only at hSw); go_simp) (by assumption) ?_
  try simp only [Act.put, List.setIfInBounds_toArray, List.set_cons_zero, List.set_cons_succ]
  refine tk1 (.pointer (some ⟨D, 0, none⟩)) (by kernel_rfl) (by kernel_rfl) (by kernel_rfl) (fun _ _ _ h => h) rfl (fun w hSw => by (try dsimp only at hSw); go_simp) (by assumption) ?_
  try simp only [Act.put, List.setIfInBounds_toArray, List.set_cons_zero, List.set_cons_succ]
  refine tk2 (.pointer (some ⟨D, 0, none⟩)) (by kernel_rfl) (by kernel_rfl) (by kernel_rfl) (fun _ _ _ h => h) rfl (fun w hSw => by (try dsimp only at hSw); go_simp) (by assumption) ?_
  try simp only [Act.put, List.setIfInBounds_toArray, List.set_cons_zero, List.set_cons_succ]
  refine tk3 (.slice (some ⟨g3, 0, none⟩) l3.length cap3) (by kernel_rfl) (by kernel_rfl) (by kernel_rfl) (fun _ _ _ h => h) rfl (fun w hSw => by (try dsimp only at hSw); go_simp) (by assumption) ?_
  try simp only [Act.put, List.setIfInBounds_toArray, List.set_cons_zero, List.set_cons_succ]
  refine tk4 (.pointer (some ⟨D, 0, none⟩)) (by kernel_rfl) (by kernel_rfl) (by kernel_rfl) (fun _ _ _ h => h) rfl (fun w hSw => by (try dsimp only at hSw); go_simp) (by assumption) ?_
  try simp only [Act.put, List.setIfInBounds_toArray, List.set_cons_zero, List.set_cons_succ]
  refine tk5 (.string m) (by kernel_rfl) (by kernel_rfl) (by kernel_rfl) (fun _ _ _ h => h) rfl (fun w hSw => by (try dsimp only at hSw); go_simp) (by assumption) ?_
  try simp only [Act.put, List.setIfInBounds_toArray, List.set_cons_zero, List.set_cons_succ]
  refine tk7 (.slice pu nu cu) (by kernel_rfl) (by kernel_rfl) (by kernel_rfl) (fun _ _ _ h => h) rfl (fun w hSw => by (try dsimp only at hSw); go_simp) (by assumption) ?_
  try simp only [Act.put, List.setIfInBounds_toArray, List.set_cons_zero, List.set_cons_succ]
  refine cl6 (by kernel_rfl) rfl (fun K hK => ?_)
  go_simp
  go_at_call 31
  refine hc3d.mono ?_
  rintro e w4 ⟨rfl, rfl⟩
  refine hK.out _ _ ?_ (fun hHeld => ?_)
  · try dsimp only
    go_keep
  clear hK K
  try simp only [Act.put, List.setIfInBounds_toArray, List.set_cons_zero, List.set_cons_succ]
  refine tk8 (.pointer (some ⟨g3, j * 2, none⟩)) (by kernel_rfl) (by kernel_rfl) (by kernel_rfl) (fun _ _ _ h => h) rfl (fun w hSw => by (try dsimp only at hSw); go_simp) (by assumption) ?_
  try simp only [Act.put, List.setIfInBounds_toArray, List.set_cons_zero, List.set_cons_succ]
  refine tk9 (.pointer (some ⟨g3, j * 2 + 1, none⟩)) (by kernel_rfl) (by kernel_rfl) (by kernel_rfl) (fun _ _ _ h => h) rfl (fun w hSw => by (try dsimp only at hSw); go_simp) (by assumption) ?_
  try simp only [Act.put, List.setIfInBounds_toArray, List.set_cons_zero, List.set_cons_succ]
  refine cl10 (by kernel_rfl) rfl (fun K hK => ?_)
  go_simp
  refine hK.out _ _ ?_ (fun hHeld => ?_)
  · try dsimp only
    go_keep
  clear hK K
  try simp only [Act.put, List.setIfInBounds_toArray, List.set_cons_zero, List.set_cons_succ]
  refine wpAnyH_done (by kernel_rfl) ?_ _
  go_wp2
  go_ret
  exact ⟨rfl, _, HEND.out.dr, grown_dr HGR.out, HFR.out⟩
end Go.Proofs.YtkdglkaeglhibaaGreatDoor
