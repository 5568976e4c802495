/-
  The document's net (package latchkeyref06): a packet is read, taken, doubled. No condition.
-/
import Derived.Test.YtpbkpaendhpbfaaNrFun
import Derived.Test.YtpbkpaendhpbfaaNtTake
namespace Go.Proofs.Ytpbkpaendhpbfaa
open Go.RowKit

theorem rpeek_no {w : World} {base D : Nat} {S : Nat → Prop} {L : List ByteArray} (n : Int) (h : NtAt RT w base D S L) (hn : inR n L.length = false) : Calls Try.prog 18 #[.pointer (some ⟨D, 0, none⟩), .int .i64 n] w fun e w' => e = .returned (.tuple #[.string ⟨#[]⟩, .int .i64 1]) ∧ w = w' := by
  obtain ⟨p, c, hb, hr, ho, hz⟩ := h.cells
  have c0 : w.cell? ⟨D, 0, none⟩ = some (.slice p L.length c) := by simp [World.cell?, hb]
  unfold inR at hn
  clear h hb hr ho hz
  by_cases h0 : n < 0
  · have h1 : decide (n < (0 : Int)) = true := by simpa using h0
    clear hn
    go_enter Try.func18, Try.ntmps18
    go_wp2
    go_ret2
    exact ⟨rfl, rfl⟩
  · have h1 : decide (n < (0 : Int)) = false := by simpa using h0
    have h2 : decide ((L.length : Int) ≤ n) = true := by
      rw [decide_eq_true_eq]
      rw [Bool.and_eq_false_iff, decide_eq_false_iff_not, decide_eq_false_iff_not] at hn
      omega
    clear hn
    go_enter Try.func18, Try.ntmps18
    go_wp2
    go_ret2
    exact ⟨rfl, rfl⟩
theorem rpeek_yes {w : World} {base D : Nat} {S : Nat → Prop} {L : List ByteArray} (n : Nat) (h : NtAt RT w base D S L) (hn : n < L.length) : Calls Try.prog 18 #[.pointer (some ⟨D, 0, none⟩), .int .i64 (n : Int)] w fun e w' => e = .returned (.tuple #[.string L[n], .int .i64 0]) ∧ w = w' := by
  obtain ⟨p, c, hb, hr, ho, hz⟩ := h.cells
  rcases hz with hz | ⟨g, rfl, _⟩
  · omega
  have c0 : w.cell? ⟨D, 0, none⟩ = some (.slice (some ⟨g, 0, none⟩) L.length c) := by simp [World.cell?, hb]
  have c1 := ncell hr rfl hn
  have hmx := h.mx
  have h1 : decide ((n : Int) < (0 : Int)) = false := by simp
  have h2 : decide ((L.length : Int) ≤ (n : Int)) = false := by simp; omega
  clear h hb hr ho
  obtain ⟨x, hx⟩ : ∃ x, x = L[n] := ⟨_, rfl⟩
  rw [← hx] at c1 ⊢
  clear hx
  go_enter Try.func18, Try.ntmps18
  go_wp2
  go_ret2
  exact ⟨rfl, rfl⟩
theorem rtake_no {w : World} {base D : Nat} {S : Nat → Prop} {L : List ByteArray} (n : Int) (h : NtAt RT w base D S L) (hn : inR n L.length = false) : Calls Try.prog 16 #[.pointer (some ⟨D, 0, none⟩), .int .i64 n] w fun e w' => e = .returned (.tuple #[.string ⟨#[]⟩, .int .i64 1]) ∧ w = w' := by
  go_enter Try.func16, Try.ntmps16
  go_wp2_with (go_at_call 18; refine (rpeek_no n h hn).mono ?_; rintro e w1 ⟨rfl, rfl⟩)
  go_ret2
  exact ⟨rfl, rfl⟩
theorem rdouble_no {w : World} {base D : Nat} {S : Nat → Prop} {L : List ByteArray} (n : Int) (h : NtAt RT w base D S L) (hn : inR n L.length = false) : Calls Try.prog 20 #[.pointer (some ⟨D, 0, none⟩), .int .i64 n] w fun e w' => e = .returned (.int .i64 1) ∧ w = w' := by
  go_enter Try.func20, Try.ntmps20
  go_wp2_with (go_at_call 18; refine (rpeek_no n h hn).mono ?_; rintro e w1 ⟨rfl, rfl⟩)
  go_ret
  exact ⟨rfl, rfl⟩
theorem rdouble_full {w : World} {base D : Nat} {S : Nat → Prop} {L : List ByteArray} (n : Nat) (h : NtAt RT w base D S L) (hn : n < L.length) (hf : 4096 ≤ L.length) : Calls Try.prog 20 #[.pointer (some ⟨D, 0, none⟩), .int .i64 (n : Int)] w fun e w' => e = .returned (.int .i64 17) ∧ w = w' := by
  go_enter Try.func20, Try.ntmps20
  go_wp2_with (first
    | (go_at_call 14; refine (rsend_full _ h hf).mono ?_; rintro e w1 ⟨rfl, rfl⟩)
    | (go_at_call 18; refine (rpeek_yes n h hn).mono ?_; rintro e w1 ⟨rfl, rfl⟩))
  go_ret
  exact ⟨rfl, rfl⟩
theorem rdouble_yes {w : World} {base D : Nat} {S : Nat → Prop} {L : List ByteArray} (n : Nat) (h : NtAt RT w base D S L) (hn : n < L.length) (hf : L.length < 4096) : Calls Try.prog 20 #[.pointer (some ⟨D, 0, none⟩), .int .i64 (n : Int)] w fun e w' => e = .returned (.int .i64 0) ∧ ∃ S', NtAt RT w' base D S' (L ++ [L[n]]) ∧ Kept w w' S S' := by
  have hs := h.sz L[n] (List.getElem_mem hn)
  have hp := rpeek_yes n h hn
  have hs2 := rsend_yes L[n] h hf hs
  generalize L[n] = x at *
  go_enter Try.func20, Try.ntmps20
  go_wp2_with (first
    | (go_at_call 14; refine hs2.mono ?_; rintro e w1 ⟨rfl, hx⟩; have HX : Hid _ := hx; clear hx)
    | (go_at_call 18; refine hp.mono ?_; rintro e w1 ⟨rfl, rfl⟩))
  go_ret
  exact ⟨rfl, HX.out⟩
/-- The end of a row, cut off behind place n. -/
def tailAd (g c n : Nat) : Addr := if c = n + 1 then ⟨g, 0, none⟩ else ⟨g, n + 1, none⟩
theorem slice_tail (g len c n : Nat) (hn : n + 1 ≤ len) (w : World) : (Instr.sliceAt 39 (.slice (some ⟨g, 0, none⟩) len c) (some (.int .i64 ((n : Int) + 1))) none none).run Try.prog w = .ok (.slice (some (tailAd g c n)) (len - (n + 1)) (c - (n + 1))) w := by
  obtain ⟨i0, hi, _, hz1, _⟩ := info_parts infoS
  have hu := Try.underlying39
  have he : Try.prog.elem 39 = 9 := by kernel_rfl
  have hu2 : Try.prog.underlying 39 = some (.slice (Try.prog.elem 39)) := by rw [he]; exact hu
  have hsz : ∀ w, (sizeOf 9).run Try.prog w = .ok 1 w := fun w => by simp [sizeOf, typeInfo, hi, hz1]
  have hnat : ((n : Int) + 1).toNat = n + 1 := by omega
  rw [run_sliceAt_slice _ _ _ _ _ _ hu2, run_slice_l _ _ _ _ _ hu2 _ _ (by omega) (by omega), he, hsz]
  simp only [Result.andThen_ok, sliced, hnat]
  unfold tailAd
  by_cases hc : c = n + 1
  · rw [if_pos hc, if_pos hc]
  · rw [if_neg hc, if_neg hc]
    simp [Addr.add_mid]
theorem slice_head (g len c n : Nat) (hn : n ≤ c) (w : World) : (Instr.sliceAt 39 (.slice (some ⟨g, 0, none⟩) len c) none (some (.int .i64 (n : Int))) none).run Try.prog w = .ok (.slice (some ⟨g, 0, none⟩) n c) w := by
  obtain ⟨i0, hi, _, hz1, _⟩ := info_parts infoS
  have hu := Try.underlying39
  have he : Try.prog.elem 39 = 9 := by kernel_rfl
  have hu2 : Try.prog.underlying 39 = some (.slice (Try.prog.elem 39)) := by rw [he]; exact hu
  have hsz : ∀ w, (sizeOf 9).run Try.prog w = .ok 1 w := fun w => by simp [sizeOf, typeInfo, hi, hz1]
  rw [run_sliceAt_slice _ _ _ _ _ _ hu2, run_slice_h _ _ _ _ _ hu2 _ _ (by omega) (by omega), he, hsz]
  simp only [Result.andThen_ok, sliced, Int.toNat_natCast]
  by_cases hc : c = 0
  · rw [if_pos hc]
    simp
  · rw [if_neg hc]
    simp [Addr.add_mid]
theorem tail_cells {w : World} {base g c n : Nat} {L : List ByteArray} (hr : w.ownsRow base 9 1 (.slice (some ⟨g, 0, none⟩) L.length c) L.length (strL L)) (hn : n < L.length) (hc : L.length ≤ c) (j : Nat) (v : Value) (hj : ((strL L).drop (n + 1))[j]? = some v) : w.cell? ((tailAd g c n).add j) = some v := by
  have hl := (List.getElem?_eq_some_iff.1 hj).1
  rw [List.length_drop, strL_length] at hl
  unfold tailAd
  rw [if_neg (by omega)]
  exact drop_cell hr (r := L.length - n - 1) (by omega) j v hj
theorem head_cells {w : World} {base g c n : Nat} {L : List ByteArray} (hr : w.ownsRow base 9 1 (.slice (some ⟨g, 0, none⟩) L.length c) L.length (strL L)) (j : Nat) (v : Value) (hj : ((strL L).take n)[j]? = some v) : w.cell? ((⟨g, 0, none⟩ : Addr).add j) = some v := by
  refine news_row hr j v ?_
  rw [List.getElem?_take] at hj
  split at hj
  · exact hj
  · simp at hj
theorem one_take (L : List ByteArray) (n : Nat) : ∀ u ∈ (strL L).take n, u.oneCell' = true := fun u hu => one_strL L u (List.mem_of_mem_take hu)
theorem one_drop (L : List ByteArray) (n : Nat) : ∀ u ∈ (strL L).drop n, u.oneCell' = true := fun u hu => one_strL L u (List.mem_of_mem_drop hu)
section
variable {P : Program} {md : Region.Mode} {Q : Exit → Act → World → Prop} {S : World → Prop} {fuel : Nat} {listed : Array Bool} {a : Act} {w : World} {l : List Oper}
theorem rd7_11 {o0 o1 o2 o3 o4 o5 o6 o7 o8 o9 o10 o11 : Oper} (hr : Region.ready md (o0 :: o1 :: o2 :: o3 :: o4 :: o5 :: o6 :: o7 :: o8 :: o9 :: o10 :: o11 :: l).toArray listed = [7, 11]) (hw0 : Region.wanted o7 (yielded (o0 :: o1 :: o2 :: o3 :: o4 :: o5 :: o6 :: o7 :: o8 :: o9 :: o10 :: o11 :: l).toArray a.tmps) = true) (hw1 : Region.wanted o11 (yielded (o0 :: o1 :: o2 :: o3 :: o4 :: o5 :: o6 :: o7 :: o8 :: o9 :: o10 :: o11 :: l).toArray a.tmps) = true)
    (h0 : ∀ K' : Act → World → Prop, Shut (∀ a w, S w → (S w → wpAnyH P md (o0 :: o1 :: o2 :: o3 :: o4 :: o5 :: o6 :: o7 :: o8 :: o9 :: o10 :: o11 :: l).toArray Q S fuel (listed.setIfInBounds 7 true) a w) → K' a w) → Oper.wp P o7 a w K' Q)
    (h1 : ∀ K' : Act → World → Prop, Shut (∀ a w, S w → (S w → wpAnyH P md (o0 :: o1 :: o2 :: o3 :: o4 :: o5 :: o6 :: o7 :: o8 :: o9 :: o10 :: o11 :: l).toArray Q S fuel (listed.setIfInBounds 11 true) a w) → K' a w) → Oper.wp P o11 a w K' Q) : wpAnyH P md (o0 :: o1 :: o2 :: o3 :: o4 :: o5 :: o6 :: o7 :: o8 :: o9 :: o10 :: o11 :: l).toArray Q S (fuel + 1) listed a w :=
  wpAnyH_ready hr (by simp) (AllReadyH.cons (o := o7) rfl (fun K hK => by rw [if_pos hw0]; exact h0 K hK) (AllReadyH.cons (o := o11) rfl (fun K hK => by rw [if_pos hw1]; exact h1 K hK) AllReadyH.nil))
end
set_option maxHeartbeats 3200000 in
set_option maxRecDepth 100000 in
/-- Take. -/
theorem rtake_yes {w : World} {base D : Nat} {S : Nat → Prop} {L : List ByteArray} (n : Nat) (h : NtAt RT w base D S L) (hn : n < L.length) :
    Calls Try.prog 16 #[.pointer (some ⟨D, 0, none⟩), .int .i64 (n : Int)] w fun e w' => e = .returned (.tuple #[.string L[n], .int .i64 0]) ∧ ∃ S', NtAt RT w' base D S' (L.eraseIdx n) ∧ Kept w w' S S' := by
  have hpk := rpeek_yes n h hn
  obtain ⟨x, hx⟩ : ∃ x, x = L[n] := ⟨_, rfl⟩
  rw [← hx] at hpk ⊢
  obtain ⟨i0, hi, hz0, hz1, hz2⟩ := info_parts infoS
  obtain ⟨p, c, hb, hr, ho, hz⟩ := h.cells
  rcases hz with hz | ⟨g, rfl, hcap⟩
  · omega
  have c0 : w.cell? ⟨D, 0, none⟩ = some (.slice (some ⟨g, 0, none⟩) L.length c) := by simp [World.cell?, hb]
  have f0 : w.frozen? ⟨D, 0, none⟩ = false := by simp [World.frozen?, hb]
  have hDl := (h.bd D h.sD).2
  have hmx := h.mx
  have HN : Hid _ := h
  have HLE : Hid ((L.eraseIdx n).length ≤ 4096) := by show _ ≤ _; rw [List.length_eraseIdx_of_lt hn]; omega
  have HSZ : Hid (∀ s ∈ L.eraseIdx n, s.size ≤ 524288) := fun s hs => h.sz s (List.mem_of_mem_eraseIdx hs)
  obtain ⟨X, hX⟩ : ∃ X, X = (strL L).take n := ⟨_, rfl⟩
  obtain ⟨Y, hY⟩ : ∃ Y, Y = (strL L).drop (n + 1) := ⟨_, rfl⟩
  have hX1 : X.length = n * 1 := by rw [hX, List.length_take, strL_length]; omega
  have hY1 : Y.length = (L.length - (n + 1)) * 1 := by rw [hY, List.length_drop, strL_length]; omega
  have hXc : ∀ j u, X[j]? = some u → w.cell? ((⟨g, 0, none⟩ : Addr).add j) = some u := fun j u hj => by rw [hX] at hj; exact head_cells hr j u hj
  have hYc : ∀ w2, Below w.heap.size w w2 → ∀ j u, Y[j]? = some u → w2.cell? ((tailAd g c n).add j) = some u := fun w2 b j u hj => by rw [hY] at hj; exact tail_cells (nkeep hr (fun g2 e => b.block g2 (hr.lt g2 e).2)) hn hcap j u hj
  have hXo : ∀ u ∈ X, u.oneCell' = true := by rw [hX]; exact one_take L n
  have hYo : ∀ u ∈ Y, u.oneCell' = true := by rw [hY]; exact one_drop L (n + 1)
  have HE : Hid (∀ (w3 : World) (v : Value), w3.ownsRow w.heap.size 9 1 v (0 + n + (L.length - (n + 1))) ([] ++ X ++ Y) → w3.ownsRow w.heap.size 9 1 v (L.eraseIdx n).length (strL (L.eraseIdx n))) := fun w3 v h3 => by
    rw [strL_erase, ← hX, ← hY, List.length_eraseIdx_of_lt hn]
    have e : 0 + n + (L.length - (n + 1)) = L.length - 1 := by omega
    rw [e] at h3
    exact h3
  have hsl := slice_tail g L.length c n (by omega)
  have hsh := slice_head g L.length c n (by omega)
  have hwr : IntKind.i64.wrap ((n : Int) + 1) = (n : Int) + 1 := IntWalk.i64_in _ ⟨by omega, by omega⟩
  clear hb hr ho hX hY h hx
  go_enter Try.func16, Try.ntmps16
  go_wp2_with (go_at_call 18; refine hpk.mono ?_; rintro e w1 ⟨rfl, rfl⟩)
  refine wp_region_held_drew (S := (fun _ : World => True)) (by kernel_rfl) ?_ (fun hHeld0 => ?_)
  · trivial
  refine tk0 (.pointer (some ⟨D, 0, none⟩)) (by kernel_rfl) (by kernel_rfl) (by kernel_rfl) (fun _ _ _ h => h) rfl (fun w hSw => by (try dsimp only at hSw); go_simp) trivial ?_
  try simp only [Act.put, List.setIfInBounds_toArray, List.set_cons_zero, List.set_cons_succ]
  refine tk1 (.pointer (some ⟨D, 0, none⟩)) (by kernel_rfl) (by kernel_rfl) (by kernel_rfl) (fun _ _ _ h => h) rfl (fun w hSw => by (try dsimp only at hSw); go_simp) trivial ?_
  try simp only [Act.put, List.setIfInBounds_toArray, List.set_cons_zero, List.set_cons_succ]
  refine tk2 (.pointer (some ⟨D, 0, none⟩)) (by kernel_rfl) (by kernel_rfl) (by kernel_rfl) (fun _ _ _ h => h) rfl (fun w hSw => by (try dsimp only at hSw); go_simp) trivial ?_
  try simp only [Act.put, List.setIfInBounds_toArray, List.set_cons_zero, List.set_cons_succ]
  refine tk3 (.pointer (some ⟨D, 0, none⟩)) (by kernel_rfl) (by kernel_rfl) (by kernel_rfl) (fun _ _ _ h => h) rfl (fun w hSw => by (try dsimp only at hSw); go_simp) trivial ?_
  try simp only [Act.put, List.setIfInBounds_toArray, List.set_cons_zero, List.set_cons_succ]
  refine tk5 (.int .i64 (n : Int)) (by kernel_rfl) (by kernel_rfl) (by kernel_rfl) (fun _ _ _ h => h) rfl (fun w hSw => by (try dsimp only at hSw); go_simp) trivial ?_
  try simp only [Act.put, List.setIfInBounds_toArray, List.set_cons_zero, List.set_cons_succ]
  refine tk8 (.pointer (some ⟨D, 0, none⟩)) (by kernel_rfl) (by kernel_rfl) (by kernel_rfl) (fun _ _ _ h => h) rfl (fun w hSw => by (try dsimp only at hSw); go_simp) trivial ?_
  try simp only [Act.put, List.setIfInBounds_toArray, List.set_cons_zero, List.set_cons_succ]
  refine tk9 (.pointer (some ⟨D, 0, none⟩)) (by kernel_rfl) (by kernel_rfl) (by kernel_rfl) (fun _ _ _ h => h) rfl (fun w hSw => by (try dsimp only at hSw); go_simp) trivial ?_
  try simp only [Act.put, List.setIfInBounds_toArray, List.set_cons_zero, List.set_cons_succ]
  refine tk10 (.pointer (some ⟨D, 0, none⟩)) (by kernel_rfl) (by kernel_rfl) (by kernel_rfl) (fun _ _ _ h => h) rfl (fun w hSw => by (try dsimp only at hSw); go_simp) trivial ?_
  try simp only [Act.put, List.setIfInBounds_toArray, List.set_cons_zero, List.set_cons_succ]
  refine tk12 (.int .i64 (n : Int)) (by kernel_rfl) (by kernel_rfl) (by kernel_rfl) (fun _ _ _ h => h) rfl (fun w hSw => by (try dsimp only at hSw); go_simp) trivial ?_
  try simp only [Act.put, List.setIfInBounds_toArray, List.set_cons_zero, List.set_cons_succ]
  refine tk13 (.int .i64 ((n : Int) + 1)) (by kernel_rfl) (by kernel_rfl) (by kernel_rfl) (fun _ _ _ h => h) rfl (fun w hSw => by (try dsimp only at hSw); go_simp) trivial ?_
  try simp only [Act.put, List.setIfInBounds_toArray, List.set_cons_zero, List.set_cons_succ]
  refine rd4_11 (by kernel_rfl) rfl rfl (fun K hK => ?_) (fun K hK => ?_)
  · go_simp
    refine hK.out _ _ ?_ (fun hHeld => ?_)
    · trivial
    clear hK K
    try simp only [Act.put, List.setIfInBounds_toArray, List.set_cons_zero, List.set_cons_succ]
    refine tk6 (.slice (some ⟨g, 0, none⟩) n c) (by kernel_rfl) (by kernel_rfl) (by kernel_rfl) (fun _ _ _ h => h) rfl (fun w hSw => by (try dsimp only at hSw); go_simp) trivial ?_
    try simp only [Act.put, List.setIfInBounds_toArray, List.set_cons_zero, List.set_cons_succ]
    refine rd7_11 (by kernel_rfl) rfl rfl (fun K hK => ?_) (fun K hK => ?_)
    · refine (wp_append_own _ (.const (.slice none 0 0)) (.tmp 22) 39 rfl w.heap.size 9 i0 _ 1 16 Try.underlying39 hi hz0 hz1 hz2 rfl (by omega) (.slice none 0 0) 0 [] rfl (World.ownsRow_nil _ _ _ _) ⟨g, 0, none⟩ n c X rfl hX1 (by exact hXc) hXo (by unfold maxLen; omega) (by omega) (Nat.le_refl _) ?_)
      intro u2 w2 h2 g2 _
      have b2 : Below w.heap.size w w2 := (undrew (Below.refl _ w.drew)).grown g2 (Nat.le_refl _) (fun k hk => by simp [Value.ownBlock] at hk)
      have z2 := (b2.cell (p := ⟨D, 0, none⟩) (by exact hDl)).trans c0
      have y2 := (b2.frozen (p := ⟨D, 0, none⟩) (by exact hDl)).trans f0
      refine hK.out _ _ ?_ (fun hHeld => ?_)
      · trivial
      clear hK K
      try simp only [Act.put, List.setIfInBounds_toArray, List.set_cons_zero, List.set_cons_succ]
      refine cl11 (by kernel_rfl) rfl (fun K hK => ?_)
      go_simp
      refine hK.out _ _ ?_ (fun hHeld => ?_)
      · trivial
      clear hK K
      try simp only [Act.put, List.setIfInBounds_toArray, List.set_cons_zero, List.set_cons_succ]
      refine tk14 (.slice (some (tailAd g c n)) (L.length - (n + 1)) (c - (n + 1))) (by kernel_rfl) (by kernel_rfl) (by kernel_rfl) (fun _ _ _ h => h) rfl (fun w hSw => by (try dsimp only at hSw); go_simp) trivial ?_
      try simp only [Act.put, List.setIfInBounds_toArray, List.set_cons_zero, List.set_cons_succ]
      refine cl15 (by kernel_rfl) rfl (fun K hK => ?_)
      refine (wp_append_own _ (.tmp 23) (.tmp 30) 39 rfl w.heap.size 9 i0 _ 1 16 Try.underlying39 hi hz0 hz1 hz2 rfl (by omega) u2 (0 + n) ([] ++ X) rfl h2 (tailAd g c n) (L.length - (n + 1)) (c - (n + 1)) Y rfl hY1 (hYc _ b2) hYo (by unfold maxLen; omega) (by omega) b2.size ?_)
      intro u3 w3 h3 g3 _
      obtain ⟨p3, n3, q3, rfl⟩ := nform h3
      have b3 : Below w.heap.size w w3 := b2.grown g3 b2.size (fun k hk => (h2.lt k hk).1)
      have z3 := (b3.cell (p := ⟨D, 0, none⟩) (by exact hDl)).trans c0
      have y3 := (b3.frozen (p := ⟨D, 0, none⟩) (by exact hDl)).trans f0
      refine hK.out _ _ ?_ (fun hHeld => ?_)
      · trivial
      clear hK K
      try simp only [Act.put, List.setIfInBounds_toArray, List.set_cons_zero, List.set_cons_succ]
      refine tk16 (.pointer (some ⟨D, 0, none⟩)) (by kernel_rfl) (by kernel_rfl) (by kernel_rfl) (fun _ _ _ h => h) rfl (fun w hSw => by (try dsimp only at hSw); go_simp) trivial ?_
      try simp only [Act.put, List.setIfInBounds_toArray, List.set_cons_zero, List.set_cons_succ]
      refine tk17 (.pointer (some ⟨D, 0, none⟩)) (by kernel_rfl) (by kernel_rfl) (by kernel_rfl) (fun _ _ _ h => h) rfl (fun w hSw => by (try dsimp only at hSw); go_simp) trivial ?_
      try simp only [Act.put, List.setIfInBounds_toArray, List.set_cons_zero, List.set_cons_succ]
      refine cl18 (by kernel_rfl) rfl (fun K hK => ?_)
      go_simp
      refine hK.out _ _ ?_ (fun hHeld => ?_)
      · trivial
      clear hK K
      try simp only [Act.put, List.setIfInBounds_toArray, List.set_cons_zero, List.set_cons_succ]
      refine wpAnyH_done (by kernel_rfl) ?_ _
      go_wp2
      go_ret2
      exact ⟨rfl, HN.out.row (by decide) b3 (HE.out _ _ h3) HLE.out HSZ.out⟩
    · go_simp
      refine hK.out _ _ ?_ (fun hHeld => ?_)
      · trivial
      clear hK K
      try simp only [Act.put, List.setIfInBounds_toArray, List.set_cons_zero, List.set_cons_succ]
      refine tk14 (.slice (some (tailAd g c n)) (L.length - (n + 1)) (c - (n + 1))) (by kernel_rfl) (by kernel_rfl) (by kernel_rfl) (fun _ _ _ h => h) rfl (fun w hSw => by (try dsimp only at hSw); go_simp) trivial ?_
      try simp only [Act.put, List.setIfInBounds_toArray, List.set_cons_zero, List.set_cons_succ]
      refine cl7 (by kernel_rfl) rfl (fun K hK => ?_)
      refine (wp_append_own _ (.const (.slice none 0 0)) (.tmp 22) 39 rfl w.heap.size 9 i0 _ 1 16 Try.underlying39 hi hz0 hz1 hz2 rfl (by omega) (.slice none 0 0) 0 [] rfl (World.ownsRow_nil _ _ _ _) ⟨g, 0, none⟩ n c X rfl hX1 (by exact hXc) hXo (by unfold maxLen; omega) (by omega) (Nat.le_refl _) ?_)
      intro u2 w2 h2 g2 _
      have b2 : Below w.heap.size w w2 := (undrew (Below.refl _ w.drew)).grown g2 (Nat.le_refl _) (fun k hk => by simp [Value.ownBlock] at hk)
      have z2 := (b2.cell (p := ⟨D, 0, none⟩) (by exact hDl)).trans c0
      have y2 := (b2.frozen (p := ⟨D, 0, none⟩) (by exact hDl)).trans f0
      refine hK.out _ _ ?_ (fun hHeld => ?_)
      · trivial
      clear hK K
      try simp only [Act.put, List.setIfInBounds_toArray, List.set_cons_zero, List.set_cons_succ]
      refine cl15 (by kernel_rfl) rfl (fun K hK => ?_)
      refine (wp_append_own _ (.tmp 23) (.tmp 30) 39 rfl w.heap.size 9 i0 _ 1 16 Try.underlying39 hi hz0 hz1 hz2 rfl (by omega) u2 (0 + n) ([] ++ X) rfl h2 (tailAd g c n) (L.length - (n + 1)) (c - (n + 1)) Y rfl hY1 (hYc _ b2) hYo (by unfold maxLen; omega) (by omega) b2.size ?_)
      intro u3 w3 h3 g3 _
      obtain ⟨p3, n3, q3, rfl⟩ := nform h3
      have b3 : Below w.heap.size w w3 := b2.grown g3 b2.size (fun k hk => (h2.lt k hk).1)
      have z3 := (b3.cell (p := ⟨D, 0, none⟩) (by exact hDl)).trans c0
      have y3 := (b3.frozen (p := ⟨D, 0, none⟩) (by exact hDl)).trans f0
      refine hK.out _ _ ?_ (fun hHeld => ?_)
      · trivial
      clear hK K
      try simp only [Act.put, List.setIfInBounds_toArray, List.set_cons_zero, List.set_cons_succ]
      refine tk16 (.pointer (some ⟨D, 0, none⟩)) (by kernel_rfl) (by kernel_rfl) (by kernel_rfl) (fun _ _ _ h => h) rfl (fun w hSw => by (try dsimp only at hSw); go_simp) trivial ?_
      try simp only [Act.put, List.setIfInBounds_toArray, List.set_cons_zero, List.set_cons_succ]
      refine tk17 (.pointer (some ⟨D, 0, none⟩)) (by kernel_rfl) (by kernel_rfl) (by kernel_rfl) (fun _ _ _ h => h) rfl (fun w hSw => by (try dsimp only at hSw); go_simp) trivial ?_
      try simp only [Act.put, List.setIfInBounds_toArray, List.set_cons_zero, List.set_cons_succ]
      refine cl18 (by kernel_rfl) rfl (fun K hK => ?_)
      go_simp
      refine hK.out _ _ ?_ (fun hHeld => ?_)
      · trivial
      clear hK K
      try simp only [Act.put, List.setIfInBounds_toArray, List.set_cons_zero, List.set_cons_succ]
      refine wpAnyH_done (by kernel_rfl) ?_ _
      go_wp2
      go_ret2
      exact ⟨rfl, HN.out.row (by decide) b3 (HE.out _ _ h3) HLE.out HSZ.out⟩
  · go_simp
    refine hK.out _ _ ?_ (fun hHeld => ?_)
    · trivial
    clear hK K
    try simp only [Act.put, List.setIfInBounds_toArray, List.set_cons_zero, List.set_cons_succ]
    refine tk14 (.slice (some (tailAd g c n)) (L.length - (n + 1)) (c - (n + 1))) (by kernel_rfl) (by kernel_rfl) (by kernel_rfl) (fun _ _ _ h => h) rfl (fun w hSw => by (try dsimp only at hSw); go_simp) trivial ?_
    try simp only [Act.put, List.setIfInBounds_toArray, List.set_cons_zero, List.set_cons_succ]
    refine cl4 (by kernel_rfl) rfl (fun K hK => ?_)
    go_simp
    refine hK.out _ _ ?_ (fun hHeld => ?_)
    · trivial
    clear hK K
    try simp only [Act.put, List.setIfInBounds_toArray, List.set_cons_zero, List.set_cons_succ]
    refine tk6 (.slice (some ⟨g, 0, none⟩) n c) (by kernel_rfl) (by kernel_rfl) (by kernel_rfl) (fun _ _ _ h => h) rfl (fun w hSw => by (try dsimp only at hSw); go_simp) trivial ?_
    try simp only [Act.put, List.setIfInBounds_toArray, List.set_cons_zero, List.set_cons_succ]
    refine cl7 (by kernel_rfl) rfl (fun K hK => ?_)
    refine (wp_append_own _ (.const (.slice none 0 0)) (.tmp 22) 39 rfl w.heap.size 9 i0 _ 1 16 Try.underlying39 hi hz0 hz1 hz2 rfl (by omega) (.slice none 0 0) 0 [] rfl (World.ownsRow_nil _ _ _ _) ⟨g, 0, none⟩ n c X rfl hX1 (by exact hXc) hXo (by unfold maxLen; omega) (by omega) (Nat.le_refl _) ?_)
    intro u2 w2 h2 g2 _
    have b2 : Below w.heap.size w w2 := (undrew (Below.refl _ w.drew)).grown g2 (Nat.le_refl _) (fun k hk => by simp [Value.ownBlock] at hk)
    have z2 := (b2.cell (p := ⟨D, 0, none⟩) (by exact hDl)).trans c0
    have y2 := (b2.frozen (p := ⟨D, 0, none⟩) (by exact hDl)).trans f0
    refine hK.out _ _ ?_ (fun hHeld => ?_)
    · trivial
    clear hK K
    try simp only [Act.put, List.setIfInBounds_toArray, List.set_cons_zero, List.set_cons_succ]
    refine cl15 (by kernel_rfl) rfl (fun K hK => ?_)
    refine (wp_append_own _ (.tmp 23) (.tmp 30) 39 rfl w.heap.size 9 i0 _ 1 16 Try.underlying39 hi hz0 hz1 hz2 rfl (by omega) u2 (0 + n) ([] ++ X) rfl h2 (tailAd g c n) (L.length - (n + 1)) (c - (n + 1)) Y rfl hY1 (hYc _ b2) hYo (by unfold maxLen; omega) (by omega) b2.size ?_)
    intro u3 w3 h3 g3 _
    obtain ⟨p3, n3, q3, rfl⟩ := nform h3
    have b3 : Below w.heap.size w w3 := b2.grown g3 b2.size (fun k hk => (h2.lt k hk).1)
    have z3 := (b3.cell (p := ⟨D, 0, none⟩) (by exact hDl)).trans c0
    have y3 := (b3.frozen (p := ⟨D, 0, none⟩) (by exact hDl)).trans f0
    refine hK.out _ _ ?_ (fun hHeld => ?_)
    · trivial
    clear hK K
    try simp only [Act.put, List.setIfInBounds_toArray, List.set_cons_zero, List.set_cons_succ]
    refine tk16 (.pointer (some ⟨D, 0, none⟩)) (by kernel_rfl) (by kernel_rfl) (by kernel_rfl) (fun _ _ _ h => h) rfl (fun w hSw => by (try dsimp only at hSw); go_simp) trivial ?_
    try simp only [Act.put, List.setIfInBounds_toArray, List.set_cons_zero, List.set_cons_succ]
    refine tk17 (.pointer (some ⟨D, 0, none⟩)) (by kernel_rfl) (by kernel_rfl) (by kernel_rfl) (fun _ _ _ h => h) rfl (fun w hSw => by (try dsimp only at hSw); go_simp) trivial ?_
    try simp only [Act.put, List.setIfInBounds_toArray, List.set_cons_zero, List.set_cons_succ]
    refine cl18 (by kernel_rfl) rfl (fun K hK => ?_)
    go_simp
    refine hK.out _ _ ?_ (fun hHeld => ?_)
    · trivial
    clear hK K
    try simp only [Act.put, List.setIfInBounds_toArray, List.set_cons_zero, List.set_cons_succ]
    refine wpAnyH_done (by kernel_rfl) ?_ _
    go_wp2
    go_ret2
    exact ⟨rfl, HN.out.row (by decide) b3 (HE.out _ _ h3) HLE.out HSZ.out⟩
end Go.Proofs.Ytpbkpaendhpbfaa
