/-
  The document's disk (package latchkeyref05): a file goes. The condition: there are at most 100000 files.
-/
import Derived.Test.YtkdglkaeglhibaaGreatDoorPRkA
import Derived.Test.YtkdglkaeglhibaaGreatDoorPDkTexts
import Derived.Test.YtkdglkaeglhibaaGreatDoorPRTake
namespace Go.Proofs.YtkdglkaeglhibaaGreatDoor
open Go.RowKit

/-- The disk behind a new row of some of its files. -/
theorem DkAt.fewer {w w9 : World} {base D : Nat} {l l' : List (Fl × Value)} {clock : Nat} {v u : Value} (h : DkAt w base D l clock v) (hs : l'.Sublist l) (bel : Below w.heap.size w w9)
    (hr : w9.ownsRow w.heap.size 68 2 u l'.length (fsL l')) : DkAt (w9.setCell ⟨D, 0, none⟩ u) base D l' clock u ∧ w.grownBy (w9.setCell ⟨D, 0, none⟩ u) (some D) := by
  have hD : D < w.heap.size := lt_of_block h.bl
  have hbase : base ≤ w.heap.size := Nat.le_trans h.lo (Nat.le_of_lt hD)
  have hg : w.grownBy (w9.setCell ⟨D, 0, none⟩ u) (some D) := ⟨bel.os, bel.tape, bel.output, by simpa using bel.size, fun i hi hr => by
    rw [heap_setCell_other _ _ _ _ (by simp; exact fun e => hr (by rw [e]))]
    exact bel.block i hi⟩
  have hr' := ownsRow_setCell_below hr (by exact hD) u (a := ⟨D, 0, none⟩)
  have hv : ∀ g, u.ownBlock = some g → w.heap.size ≤ g := fun g e => (hr.lt g e).1
  have hp : ∀ p ∈ l', ∀ g, p.2.ownBlock = some g → g < w.heap.size := fun p hp g e => ((h.each p (hs.subset hp)).lt g e).2
  refine ⟨⟨?_, own_mono hr' hbase, fun p hm => (h.each p (hs.subset hm)).kept hg (Or.inr (h.eD p (hs.subset hm)).1), h.lo, fun e => by have := hv D e; omega, fun p hm => ⟨(h.eD p (hs.subset hm)).1, fun g e e' => by have := hp p hm g e; have := hv g e'; omega⟩, h.sep.sublist hs⟩, hg⟩
  have hb := (bel.block D hD).trans h.bl
  rw [heap_setCell_same _ _ _ _ _ _ hb]
  rfl
theorem rremove_no (w : World) (base D : Nat) (l : List (Fl × Value)) (clock : Nat) (v : Value) (n : ByteArray) (hl : l.length ≤ 100000) (h : DkAt w base D l clock v) (hf : findI l n = -1) :
    Calls Tryz.prog 24 #[.pointer (some ⟨D, 0, none⟩), .string n] w fun e w' => e = .returned (.int .i64 5) ∧ w = w' := by
  have hc := find_any w base D l clock v n (by omega) h
  rw [hf] at hc
  clear h
  go_enter Tryz.func24, Tryz.ntmps24
  go_wp2_with (go_at_call 31; refine hc.mono ?_; rintro e w1 ⟨rfl, rfl⟩)
  go_ret
  exact ⟨rfl, rfl⟩
/-- The end of a row of files, cut off behind place n. -/
def tailF (g c n : Nat) : Addr := if c = n + 1 then ⟨g, 0, none⟩ else ⟨g, (n + 1) * 2, none⟩
theorem sizeF (w : World) : (sizeOf 68).run Tryz.prog w = .ok 2 w := by
  obtain ⟨i0, hi, _, hz1, _⟩ := info_parts infoF
  simp [sizeOf, typeInfo, hi, hz1]
theorem elemF : Tryz.prog.elem 26 = 68 := by kernel_rfl
theorem undF : Tryz.prog.underlying 26 = some (.slice (Tryz.prog.elem 26)) := by rw [elemF]; exact Tryz.underlying26
theorem sliceF_tail (g len c n : Nat) (hn : n + 1 ≤ len) (w : World) : (Instr.sliceAt 26 (.slice (some ⟨g, 0, none⟩) len c) (some (.int .i64 ((n : Int) + 1))) none none).run Tryz.prog w = .ok (.slice (some (tailF g c n)) (len - (n + 1)) (c - (n + 1))) w := by
  have hnat : ((n : Int) + 1).toNat = n + 1 := by omega
  rw [run_sliceAt_slice _ _ _ _ _ _ undF, run_slice_l _ _ _ _ _ undF _ _ (by omega) (by omega), elemF, sizeF]
  simp only [Result.andThen_ok, sliced, hnat]
  unfold tailF
  by_cases hc : c = n + 1
  · rw [if_pos hc, if_pos hc]
  · rw [if_neg hc, if_neg hc]
    simp [Addr.add_mid]
theorem sliceF_head (g len c n : Nat) (hn : n ≤ c) (w : World) : (Instr.sliceAt 26 (.slice (some ⟨g, 0, none⟩) len c) none (some (.int .i64 (n : Int))) none).run Tryz.prog w = .ok (.slice (some ⟨g, 0, none⟩) n c) w := by
  rw [run_sliceAt_slice _ _ _ _ _ _ undF, run_slice_h _ _ _ _ _ undF _ _ (by omega) (by omega), elemF, sizeF]
  simp only [Result.andThen_ok, sliced, Int.toNat_natCast]
  by_cases hc : c = 0
  · rw [if_pos hc]
    simp
  · rw [if_neg hc]
    simp [Addr.add_mid]
theorem fsL_len (l : List (Fl × Value)) : (fsL l).length = l.length * 2 := pairs_length fL (fun _ => rfl) l
theorem fsL_take (l : List (Fl × Value)) (k : Nat) (j : Nat) (u : Value) (hj : (fsL (l.take k))[j]? = some u) : (fsL l)[j]? = some u := by
  have e : fsL l = fsL (l.take k) ++ fsL (l.drop k) := by rw [← fsL_append, List.take_append_drop]
  have h1 := (List.getElem?_eq_some_iff.1 hj).1
  rw [e, List.getElem?_append_left h1]
  exact hj
theorem row_cells {w : World} {base g c : Nat} {l : List (Fl × Value)} (hr : w.ownsRow base 68 2 (.slice (some ⟨g, 0, none⟩) l.length c) l.length (fsL l)) (j : Nat) (u : Value) (hj : (fsL l)[j]? = some u) : w.cell? ⟨g, j, none⟩ = some u := by
  have h1 := (List.getElem?_eq_some_iff.1 hj).1
  rw [fsL_len] at h1
  rw [World.ownsRow.cellAt hr j h1, hj]
theorem one_of {w : World} {base D : Nat} {l l' : List (Fl × Value)} {clock : Nat} {v : Value} (h : DkAt w base D l clock v) (hs : ∀ p ∈ l', p ∈ l) : ∀ u ∈ fsL l', u.oneCell' = true := fun u hu => by
  unfold fsL at hu
  rw [List.mem_flatMap] at hu
  obtain ⟨p, hp, hu⟩ := hu
  exact fL_one h (hs p hp) u hu
section
variable {P : Program} {md : Region.Mode} {Q : Exit → Act → World → Prop} {S : World → Prop} {fuel : Nat} {listed : Array Bool} {a : Act} {w : World} {l : List Oper}
theorem rdE4_11 {o0 o1 o2 o3 o4 o5 o6 o7 o8 o9 o10 o11 : Oper} (hr : Region.ready md (o0 :: o1 :: o2 :: o3 :: o4 :: o5 :: o6 :: o7 :: o8 :: o9 :: o10 :: o11 :: l).toArray listed = [4, 11]) (hw0 : Region.wanted o4 (yielded (o0 :: o1 :: o2 :: o3 :: o4 :: o5 :: o6 :: o7 :: o8 :: o9 :: o10 :: o11 :: l).toArray a.tmps) = true) (hw1 : Region.wanted o11 (yielded (o0 :: o1 :: o2 :: o3 :: o4 :: o5 :: o6 :: o7 :: o8 :: o9 :: o10 :: o11 :: l).toArray a.tmps) = true)
    (h0 : ∀ K' : Act → World → Prop, Shut (∀ a w, S w → (S w → wpAnyH P md (o0 :: o1 :: o2 :: o3 :: o4 :: o5 :: o6 :: o7 :: o8 :: o9 :: o10 :: o11 :: l).toArray Q S fuel (listed.setIfInBounds 4 true) a w) → K' a w) → Oper.wp P o4 a w K' Q)
    (h1 : ∀ K' : Act → World → Prop, Shut (∀ a w, S w → (S w → wpAnyH P md (o0 :: o1 :: o2 :: o3 :: o4 :: o5 :: o6 :: o7 :: o8 :: o9 :: o10 :: o11 :: l).toArray Q S fuel (listed.setIfInBounds 11 true) a w) → K' a w) → Oper.wp P o11 a w K' Q) : wpAnyH P md (o0 :: o1 :: o2 :: o3 :: o4 :: o5 :: o6 :: o7 :: o8 :: o9 :: o10 :: o11 :: l).toArray Q S (fuel + 1) listed a w :=
  wpAnyH_ready hr (by simp) (AllReadyH.cons (o := o4) rfl (fun K hK => by rw [if_pos hw0]; exact h0 K hK) (AllReadyH.cons (o := o11) rfl (fun K hK => by rw [if_pos hw1]; exact h1 K hK) AllReadyH.nil))
theorem rdE7_11 {o0 o1 o2 o3 o4 o5 o6 o7 o8 o9 o10 o11 : Oper} (hr : Region.ready md (o0 :: o1 :: o2 :: o3 :: o4 :: o5 :: o6 :: o7 :: o8 :: o9 :: o10 :: o11 :: l).toArray listed = [7, 11]) (hw0 : Region.wanted o7 (yielded (o0 :: o1 :: o2 :: o3 :: o4 :: o5 :: o6 :: o7 :: o8 :: o9 :: o10 :: o11 :: l).toArray a.tmps) = true) (hw1 : Region.wanted o11 (yielded (o0 :: o1 :: o2 :: o3 :: o4 :: o5 :: o6 :: o7 :: o8 :: o9 :: o10 :: o11 :: l).toArray a.tmps) = true)
    (h0 : ∀ K' : Act → World → Prop, Shut (∀ a w, S w → (S w → wpAnyH P md (o0 :: o1 :: o2 :: o3 :: o4 :: o5 :: o6 :: o7 :: o8 :: o9 :: o10 :: o11 :: l).toArray Q S fuel (listed.setIfInBounds 7 true) a w) → K' a w) → Oper.wp P o7 a w K' Q)
    (h1 : ∀ K' : Act → World → Prop, Shut (∀ a w, S w → (S w → wpAnyH P md (o0 :: o1 :: o2 :: o3 :: o4 :: o5 :: o6 :: o7 :: o8 :: o9 :: o10 :: o11 :: l).toArray Q S fuel (listed.setIfInBounds 11 true) a w) → K' a w) → Oper.wp P o11 a w K' Q) : wpAnyH P md (o0 :: o1 :: o2 :: o3 :: o4 :: o5 :: o6 :: o7 :: o8 :: o9 :: o10 :: o11 :: l).toArray Q S (fuel + 1) listed a w :=
  wpAnyH_ready hr (by simp) (AllReadyH.cons (o := o7) rfl (fun K hK => by rw [if_pos hw0]; exact h0 K hK) (AllReadyH.cons (o := o11) rfl (fun K hK => by rw [if_pos hw1]; exact h1 K hK) AllReadyH.nil))
end
set_option maxHeartbeats 3200000 in
set_option maxRecDepth 100000 in
/-- Remove. -/
theorem rremove_yes (w : World) (base D : Nat) (l : List (Fl × Value)) (clock : Nat) (v : Value) (nm : ByteArray) (hl : l.length ≤ 100000) (h : DkAt w base D l clock v) (n : Nat) (hn : n < l.length) (hf : findI l nm = (n : Int)) :
    Calls Tryz.prog 24 #[.pointer (some ⟨D, 0, none⟩), .string nm] w fun e w' => e = .returned (.int .i64 0) ∧ ∃ v', DkAt w' base D (l.eraseIdx n) clock v' ∧ w.grownBy w' (some D) ∧ ∀ g, v'.ownBlock = some g → w.heap.size ≤ g := by
  have hpk := find_any w base D l clock v nm (by omega) h
  rw [hf] at hpk
  obtain ⟨i0, hi, hz0, hz1, hz2⟩ := info_parts infoF
  obtain ⟨g, c, rfl, hgl, _⟩ := h.file hn
  have hcap := own_cap h.row
  have c0 := h.cell0
  have f0 : w.frozen? ⟨D, 0, none⟩ = false := by simp [World.frozen?, h.bl]
  have hDl := lt_of_block h.bl
  have HN : Hid _ := h
  obtain ⟨X, hX⟩ : ∃ X, X = fsL (l.take n) := ⟨_, rfl⟩
  obtain ⟨Y, hY⟩ : ∃ Y, Y = fsL (l.drop (n + 1)) := ⟨_, rfl⟩
  have hX1 : X.length = n * 2 := by rw [hX, fsL_len, List.length_take]; omega
  have hY1 : Y.length = (l.length - (n + 1)) * 2 := by rw [hY, fsL_len, List.length_drop]
  have hXc : ∀ j u, X[j]? = some u → w.cell? ((⟨g, 0, none⟩ : Addr).add j) = some u := fun j u hj => by
    rw [hX] at hj
    rw [Addr.add_mid, Nat.zero_add]
    exact row_cells h.row j u (fsL_take l n j u hj)
  have hYc : ∀ w2, Below w.heap.size w w2 → ∀ j u, Y[j]? = some u → w2.cell? ((tailF g c n).add j) = some u := fun w2 b j u hj => by
    have h1 := (List.getElem?_eq_some_iff.1 hj).1
    rw [hY1] at h1
    unfold tailF
    rw [if_neg (by omega), Addr.add_mid, b.cell (p := ⟨g, (n + 1) * 2 + j, none⟩) (by exact hgl)]
    rw [hY, fsL_drop l (n + 1) (by omega)] at hj
    exact row_cells h.row _ u hj
  have hXo : ∀ u ∈ X, u.oneCell' = true := by rw [hX]; exact one_of h (fun p hp => List.mem_of_mem_take hp)
  have hYo : ∀ u ∈ Y, u.oneCell' = true := by rw [hY]; exact one_of h (fun p hp => List.mem_of_mem_drop hp)
  have HE : Hid (∀ (w3 : World) (v : Value), w3.ownsRow w.heap.size 68 2 v (0 + n + (l.length - (n + 1))) ([] ++ X ++ Y) → w3.ownsRow w.heap.size 68 2 v (l.eraseIdx n).length (fsL (l.eraseIdx n))) := fun w3 v h3 => by
    have e1 : fsL (l.eraseIdx n) = X ++ Y := by rw [List.eraseIdx_eq_take_drop_succ, fsL_append, hX, hY]
    rw [e1, List.length_eraseIdx_of_lt hn]
    have e : 0 + n + (l.length - (n + 1)) = l.length - 1 := by omega
    rw [e] at h3
    exact h3
  have hsl := sliceF_tail g l.length c n (by omega)
  have hsh := sliceF_head g l.length c n (by omega)
  have hwr : IntKind.i64.wrap ((n : Int) + 1) = (n : Int) + 1 := IntWalk.i64_in _ ⟨by omega, by omega⟩
  have hn0 : decide ((n : Int) < 0) = false := by simp
  clear hX hY h hf
  go_enter Tryz.func24, Tryz.ntmps24
  go_wp2_with (go_at_call 31; refine hpk.mono ?_; rintro e w1 ⟨rfl, rfl⟩)
  refine wp_region_held_drew (S := (fun _ : World => True)) (by kernel_rfl) ?_ (fun hHeld0 => ?_)
  · trivial
  refine tk0 (.pointer (some ⟨D, 0, none⟩)) (by kernel_rfl) (by kernel_rfl) (by kernel_rfl) (fun _ _ _ h => h) rfl (fun w hSw => by (try dsimp only at hSw); go_simp) trivial ?_
  try simp only [Act.put, List.setIfInBounds_toArray, List.set_cons_zero, List.set_cons_succ]
  refine tk1 (.pointer (some ⟨D, 0, none⟩)) (by kernel_rfl) (by kernel_rfl) (by kernel_rfl) (fun _ _ _ h => h) rfl (fun w hSw => by (try dsimp only at hSw); go_simp) trivial ?_
  try simp only [Act.put, List.setIfInBounds_toArray, List.set_cons_zero, List.set_cons_succ]
  refine tk2 (.pointer (some ⟨D, 0, none⟩)) (by kernel_rfl) (by kernel_rfl) (by kernel_rfl) (fun _ _ _ h => h) rfl (fun w hSw => by (try dsimp only at hSw); go_simp) trivial ?_
  try simp only [Act.put, List.setIfInBounds_toArray, List.set_cons_zero, List.set_cons_succ]
  refine tk3 (.pointer (some ⟨D, 0, none⟩)) (by kernel_rfl) (by kernel_rfl) (by kernel_rfl) (fun _ _ _ h => h) rfl (fun w hSw => by (try dsimp only at hSw); go_simp) trivial ?_
  try simp only [Act.put, List.setIfInBounds_toArray, List.set_cons_zero, List.set_cons_succ]
  refine tk5 (.int .i64 (n : Int)) (by kernel_rfl) (by kernel_rfl) (by kernel_rfl) (fun _ _ _ h => h) rfl (fun w hSw => by (try dsimp only at hSw); go_simp) trivial ?_
  try simp only [Act.put, List.setIfInBounds_toArray, List.set_cons_zero, List.set_cons_succ]
  refine tk8 (.pointer (some ⟨D, 0, none⟩)) (by kernel_rfl) (by kernel_rfl) (by kernel_rfl) (fun _ _ _ h => h) rfl (fun w hSw => by (try dsimp only at hSw); go_simp) trivial ?_
  try simp only [Act.put, List.setIfInBounds_toArray, List.set_cons_zero, List.set_cons_succ]
  refine tk9 (.pointer (some ⟨D, 0, none⟩)) (by kernel_rfl) (by kernel_rfl) (by kernel_rfl) (fun _ _ _ h => h) rfl (fun w hSw => by (try dsimp only at hSw); go_simp) trivial ?_
  try simp only [Act.put, List.setIfInBounds_toArray, List.set_cons_zero, List.set_cons_succ]
  refine tk10 (.pointer (some ⟨D, 0, none⟩)) (by kernel_rfl) (by kernel_rfl) (by kernel_rfl) (fun _ _ _ h => h) rfl (fun w hSw => by (try dsimp only at hSw); go_simp) trivial ?_
  try simp only [Act.put, List.setIfInBounds_toArray, List.set_cons_zero, List.set_cons_succ]
  refine tk12 (.int .i64 (n : Int)) (by kernel_rfl) (by kernel_rfl) (by kernel_rfl) (fun _ _ _ h => h) rfl (fun w hSw => by (try dsimp only at hSw); go_simp) trivial ?_
  try simp only [Act.put, List.setIfInBounds_toArray, List.set_cons_zero, List.set_cons_succ]
  refine tk13 (.int .i64 ((n : Int) + 1)) (by kernel_rfl) (by kernel_rfl) (by kernel_rfl) (fun _ _ _ h => h) rfl (fun w hSw => by (try dsimp only at hSw); go_simp) trivial ?_
  try simp only [Act.put, List.setIfInBounds_toArray, List.set_cons_zero, List.set_cons_succ]
  refine rdE4_11 (by kernel_rfl) rfl rfl (fun K hK => ?_) (fun K hK => ?_)
  · go_simp
    refine hK.out _ _ ?_ (fun hHeld => ?_)
    · trivial
    clear hK K
    try simp only [Act.put, List.setIfInBounds_toArray, List.set_cons_zero, List.set_cons_succ]
    refine tk6 (.slice (some ⟨g, 0, none⟩) n c) (by kernel_rfl) (by kernel_rfl) (by kernel_rfl) (fun _ _ _ h => h) rfl (fun w hSw => by (try dsimp only at hSw); go_simp) trivial ?_
    try simp only [Act.put, List.setIfInBounds_toArray, List.set_cons_zero, List.set_cons_succ]
    refine rdE7_11 (by kernel_rfl) rfl rfl (fun K hK => ?_) (fun K hK => ?_)
    · refine (wp_append_own _ (.const (.slice none 0 0)) (.tmp 17) 26 rfl w.heap.size 68 i0 _ 2 40 Tryz.underlying26 hi hz0 hz1 hz2 rfl (by omega) (.slice none 0 0) 0 [] rfl (World.ownsRow_nil _ _ _ _) ⟨g, 0, none⟩ n c X rfl hX1 (by exact hXc) hXo (by unfold maxLen; omega) (by omega) (Nat.le_refl _) ?_)
      intro u2 w2 h2 g2 _
      have b2 : Below w.heap.size w w2 := (undrew (Below.refl _ w.drew)).grown g2 (Nat.le_refl _) (fun k hk => by simp [Value.ownBlock] at hk)
      have z2 := (b2.cell (p := ⟨D, 0, none⟩) (by exact hDl)).trans c0
      have y2 := (b2.frozen (p := ⟨D, 0, none⟩) (by exact hDl)).trans f0
      refine hK.out _ _ ?_ (fun hHeld => ?_)
      · trivial
      clear hK K
      try simp only [Act.put, List.setIfInBounds_toArray, List.set_cons_zero, List.set_cons_succ]
      refine cl11 (by kernel_rfl) rfl (fun K hK => ?_)
      go_simp
      refine hK.out _ _ ?_ (fun hHeld => ?_)
      · trivial
      clear hK K
      try simp only [Act.put, List.setIfInBounds_toArray, List.set_cons_zero, List.set_cons_succ]
      refine tk14 (.slice (some (tailF g c n)) (l.length - (n + 1)) (c - (n + 1))) (by kernel_rfl) (by kernel_rfl) (by kernel_rfl) (fun _ _ _ h => h) rfl (fun w hSw => by (try dsimp only at hSw); go_simp) trivial ?_
      try simp only [Act.put, List.setIfInBounds_toArray, List.set_cons_zero, List.set_cons_succ]
      refine cl15 (by kernel_rfl) rfl (fun K hK => ?_)
      refine (wp_append_own _ (.tmp 18) (.tmp 25) 26 rfl w.heap.size 68 i0 _ 2 40 Tryz.underlying26 hi hz0 hz1 hz2 rfl (by omega) u2 (0 + n) ([] ++ X) rfl h2 (tailF g c n) (l.length - (n + 1)) (c - (n + 1)) Y rfl hY1 (hYc _ b2) hYo (by unfold maxLen; omega) (by omega) b2.size ?_)
      intro u3 w3 h3 g3 _
      obtain ⟨p3, n3, q3, rfl⟩ := own_form h3
      have b3 : Below w.heap.size w w3 := b2.grown g3 b2.size (fun k hk => (h2.lt k hk).1)
      have z3 := (b3.cell (p := ⟨D, 0, none⟩) (by exact hDl)).trans c0
      have y3 := (b3.frozen (p := ⟨D, 0, none⟩) (by exact hDl)).trans f0
      refine hK.out _ _ ?_ (fun hHeld => ?_)
      · trivial
      clear hK K
      try simp only [Act.put, List.setIfInBounds_toArray, List.set_cons_zero, List.set_cons_succ]
      refine tk16 (.pointer (some ⟨D, 0, none⟩)) (by kernel_rfl) (by kernel_rfl) (by kernel_rfl) (fun _ _ _ h => h) rfl (fun w hSw => by (try dsimp only at hSw); go_simp) trivial ?_
      try simp only [Act.put, List.setIfInBounds_toArray, List.set_cons_zero, List.set_cons_succ]
      refine tk17 (.pointer (some ⟨D, 0, none⟩)) (by kernel_rfl) (by kernel_rfl) (by kernel_rfl) (fun _ _ _ h => h) rfl (fun w hSw => by (try dsimp only at hSw); go_simp) trivial ?_
      try simp only [Act.put, List.setIfInBounds_toArray, List.set_cons_zero, List.set_cons_succ]
      refine cl18 (by kernel_rfl) rfl (fun K hK => ?_)
      go_simp
      refine hK.out _ _ ?_ (fun hHeld => ?_)
      · trivial
      clear hK K
      try simp only [Act.put, List.setIfInBounds_toArray, List.set_cons_zero, List.set_cons_succ]
      refine wpAnyH_done (by kernel_rfl) ?_ _
      go_wp2
      go_ret
      obtain ⟨e1, e2⟩ := HN.out.fewer (List.eraseIdx_sublist l n) b3 (HE.out _ _ h3)
      exact ⟨rfl, _, e1, e2, fun q hq => (World.ownsRow.lt h3 q hq).1⟩
    · go_simp
      refine hK.out _ _ ?_ (fun hHeld => ?_)
      · trivial
      clear hK K
      try simp only [Act.put, List.setIfInBounds_toArray, List.set_cons_zero, List.set_cons_succ]
      refine tk14 (.slice (some (tailF g c n)) (l.length - (n + 1)) (c - (n + 1))) (by kernel_rfl) (by kernel_rfl) (by kernel_rfl) (fun _ _ _ h => h) rfl (fun w hSw => by (try dsimp only at hSw); go_simp) trivial ?_
      try simp only [Act.put, List.setIfInBounds_toArray, List.set_cons_zero, List.set_cons_succ]
      refine cl7 (by kernel_rfl) rfl (fun K hK => ?_)
      refine (wp_append_own _ (.const (.slice none 0 0)) (.tmp 17) 26 rfl w.heap.size 68 i0 _ 2 40 Tryz.underlying26 hi hz0 hz1 hz2 rfl (by omega) (.slice none 0 0) 0 [] rfl (World.ownsRow_nil _ _ _ _) ⟨g, 0, none⟩ n c X rfl hX1 (by exact hXc) hXo (by unfold maxLen; omega) (by omega) (Nat.le_refl _) ?_)
      intro u2 w2 h2 g2 _
      have b2 : Below w.heap.size w w2 := (undrew (Below.refl _ w.drew)).grown g2 (Nat.le_refl _) (fun k hk => by simp [Value.ownBlock] at hk)
      have z2 := (b2.cell (p := ⟨D, 0, none⟩) (by exact hDl)).trans c0
      have y2 := (b2.frozen (p := ⟨D, 0, none⟩) (by exact hDl)).trans f0
      refine hK.out _ _ ?_ (fun hHeld => ?_)
      · trivial
      clear hK K
      try simp only [Act.put, List.setIfInBounds_toArray, List.set_cons_zero, List.set_cons_succ]
      refine cl15 (by kernel_rfl) rfl (fun K hK => ?_)
      refine (wp_append_own _ (.tmp 18) (.tmp 25) 26 rfl w.heap.size 68 i0 _ 2 40 Tryz.underlying26 hi hz0 hz1 hz2 rfl (by omega) u2 (0 + n) ([] ++ X) rfl h2 (tailF g c n) (l.length - (n + 1)) (c - (n + 1)) Y rfl hY1 (hYc _ b2) hYo (by unfold maxLen; omega) (by omega) b2.size ?_)
      intro u3 w3 h3 g3 _
      obtain ⟨p3, n3, q3, rfl⟩ := own_form h3
      have b3 : Below w.heap.size w w3 := b2.grown g3 b2.size (fun k hk => (h2.lt k hk).1)
      have z3 := (b3.cell (p := ⟨D, 0, none⟩) (by exact hDl)).trans c0
      have y3 := (b3.frozen (p := ⟨D, 0, none⟩) (by exact hDl)).trans f0
      refine hK.out _ _ ?_ (fun hHeld => ?_)
      · trivial
      clear hK K
      try simp only [Act.put, List.setIfInBounds_toArray, List.set_cons_zero, List.set_cons_succ]
      refine tk16 (.pointer (some ⟨D, 0, none⟩)) (by kernel_rfl) (by kernel_rfl) (by kernel_rfl) (fun _ _ _ h => h) rfl (fun w hSw => by (try dsimp only at hSw); go_simp) trivial ?_
      try simp only [Act.put, List.setIfInBounds_toArray, List.set_cons_zero, List.set_cons_succ]
      refine tk17 (.pointer (some ⟨D, 0, none⟩)) (by kernel_rfl) (by kernel_rfl) (by kernel_rfl) (fun _ _ _ h => h) rfl (fun w hSw => by (try dsimp only at hSw); go_simp) trivial ?_
      try simp only [Act.put, List.setIfInBounds_toArray, List.set_cons_zero, List.set_cons_succ]
      refine cl18 (by kernel_rfl) rfl (fun K hK => ?_)
      go_simp
      refine hK.out _ _ ?_ (fun hHeld => ?_)
      · trivial
      clear hK K
      try simp only [Act.put, List.setIfInBounds_toArray, List.set_cons_zero, List.set_cons_succ]
      refine wpAnyH_done (by kernel_rfl) ?_ _
      go_wp2
      go_ret
      obtain ⟨e1, e2⟩ := HN.out.fewer (List.eraseIdx_sublist l n) b3 (HE.out _ _ h3)
      exact ⟨rfl, _, e1, e2, fun q hq => (World.ownsRow.lt h3 q hq).1⟩
  · go_simp
    refine hK.out _ _ ?_ (fun hHeld => ?_)
    · trivial
    clear hK K
    try simp only [Act.put, List.setIfInBounds_toArray, List.set_cons_zero, List.set_cons_succ]
    refine tk14 (.slice (some (tailF g c n)) (l.length - (n + 1)) (c - (n + 1))) (by kernel_rfl) (by kernel_rfl) (by kernel_rfl) (fun _ _ _ h => h) rfl (fun w hSw => by (try dsimp only at hSw); go_simp) trivial ?_
    try simp only [Act.put, List.setIfInBounds_toArray, List.set_cons_zero, List.set_cons_succ]
    refine cl4 (by kernel_rfl) rfl (fun K hK => ?_)
    go_simp
    refine hK.out _ _ ?_ (fun hHeld => ?_)
    · trivial
    clear hK K
    try simp only [Act.put, List.setIfInBounds_toArray, List.set_cons_zero, List.set_cons_succ]
    refine tk6 (.slice (some ⟨g, 0, none⟩) n c) (by kernel_rfl) (by kernel_rfl) (by kernel_rfl) (fun _ _ _ h => h) rfl (fun w hSw => by (try dsimp only at hSw); go_simp) trivial ?_
    try simp only [Act.put, List.setIfInBounds_toArray, List.set_cons_zero, List.set_cons_succ]
    refine cl7 (by kernel_rfl) rfl (fun K hK => ?_)
    refine (wp_append_own _ (.const (.slice none 0 0)) (.tmp 17) 26 rfl w.heap.size 68 i0 _ 2 40 Tryz.underlying26 hi hz0 hz1 hz2 rfl (by omega) (.slice none 0 0) 0 [] rfl (World.ownsRow_nil _ _ _ _) ⟨g, 0, none⟩ n c X rfl hX1 (by exact hXc) hXo (by unfold maxLen; omega) (by omega) (Nat.le_refl _) ?_)
    intro u2 w2 h2 g2 _
    have b2 : Below w.heap.size w w2 := (undrew (Below.refl _ w.drew)).grown g2 (Nat.le_refl _) (fun k hk => by simp [Value.ownBlock] at hk)
    have z2 := (b2.cell (p := ⟨D, 0, none⟩) (by exact hDl)).trans c0
    have y2 := (b2.frozen (p := ⟨D, 0, none⟩) (by exact hDl)).trans f0
    refine hK.out _ _ ?_ (fun hHeld => ?_)
    · trivial
    clear hK K
    try simp only [Act.put, List.setIfInBounds_toArray, List.set_cons_zero, List.set_cons_succ]
    refine cl15 (by kernel_rfl) rfl (fun K hK => ?_)
    refine (wp_append_own _ (.tmp 18) (.tmp 25) 26 rfl w.heap.size 68 i0 _ 2 40 Tryz.underlying26 hi hz0 hz1 hz2 rfl (by omega) u2 (0 + n) ([] ++ X) rfl h2 (tailF g c n) (l.length - (n + 1)) (c - (n + 1)) Y rfl hY1 (hYc _ b2) hYo (by unfold maxLen; omega) (by omega) b2.size ?_)
    intro u3 w3 h3 g3 _
    obtain ⟨p3, n3, q3, rfl⟩ := own_form h3
    have b3 : Below w.heap.size w w3 := b2.grown g3 b2.size (fun k hk => (h2.lt k hk).1)
    have z3 := (b3.cell (p := ⟨D, 0, none⟩) (by exact hDl)).trans c0
    have y3 := (b3.frozen (p := ⟨D, 0, none⟩) (by exact hDl)).trans f0
    refine hK.out _ _ ?_ (fun hHeld => ?_)
    · trivial
    clear hK K
    try simp only [Act.put, List.setIfInBounds_toArray, List.set_cons_zero, List.set_cons_succ]
    refine tk16 (.pointer (some ⟨D, 0, none⟩)) (by kernel_rfl) (by kernel_rfl) (by kernel_rfl) (fun _ _ _ h => h) rfl (fun w hSw => by (try dsimp only at hSw); go_simp) trivial ?_
    try simp only [Act.put, List.setIfInBounds_toArray, List.set_cons_zero, List.set_cons_succ]
    refine tk17 (.pointer (some ⟨D, 0, none⟩)) (by kernel_rfl) (by kernel_rfl) (by kernel_rfl) (fun _ _ _ h => h) rfl (fun w hSw => by (try dsimp only at hSw); go_simp) trivial ?_
    try simp only [Act.put, List.setIfInBounds_toArray, List.set_cons_zero, List.set_cons_succ]
    refine cl18 (by kernel_rfl) rfl (fun K hK => ?_)
    go_simp
    refine hK.out _ _ ?_ (fun hHeld => ?_)
    · trivial
    clear hK K
    try simp only [Act.put, List.setIfInBounds_toArray, List.set_cons_zero, List.set_cons_succ]
    refine wpAnyH_done (by kernel_rfl) ?_ _
    go_wp2
    go_ret
    obtain ⟨e1, e2⟩ := HN.out.fewer (List.eraseIdx_sublist l n) b3 (HE.out _ _ h3)
    exact ⟨rfl, _, e1, e2, fun q hq => (World.ownsRow.lt h3 q hq).1⟩
end Go.Proofs.YtkdglkaeglhibaaGreatDoor
