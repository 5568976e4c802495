/-
  Parts of the proof, laid together: SoNew. The conditions stand at each part.
-/
import Derived.Test.YthhlglbohibekaaSPackB
import Derived.Test.YthhlglbohibekaaSPackL
namespace Go.Proofs.Ythhlglbohibekaa
open Go.RowKit

section
variable {P : Program} {md : Region.Mode} {Q : Exit → Act → World → Prop} {S : World → Prop} {fuel : Nat} {listed : Array Bool} {a : Act} {w : World} {l : List Oper}
theorem rd2_5 {o0 o1 o2 o3 o4 o5 : Oper} (hr : Region.ready md (o0 :: o1 :: o2 :: o3 :: o4 :: o5 :: l).toArray listed = [2, 5]) (hw0 : Region.wanted o2 (yielded (o0 :: o1 :: o2 :: o3 :: o4 :: o5 :: l).toArray a.tmps) = true) (hw1 : Region.wanted o5 (yielded (o0 :: o1 :: o2 :: o3 :: o4 :: o5 :: l).toArray a.tmps) = true)
    (h0 : ∀ K' : Act → World → Prop, Shut (∀ a w, S w → (S w → wpAnyH P md (o0 :: o1 :: o2 :: o3 :: o4 :: o5 :: l).toArray Q S fuel (listed.setIfInBounds 2 true) a w) → K' a w) → Oper.wp P o2 a w K' Q)
    (h1 : ∀ K' : Act → World → Prop, Shut (∀ a w, S w → (S w → wpAnyH P md (o0 :: o1 :: o2 :: o3 :: o4 :: o5 :: l).toArray Q S fuel (listed.setIfInBounds 5 true) a w) → K' a w) → Oper.wp P o5 a w K' Q) : wpAnyH P md (o0 :: o1 :: o2 :: o3 :: o4 :: o5 :: l).toArray Q S (fuel + 1) listed a w :=
  wpAnyH_ready hr (by simp) (AllReadyH.cons (o := o2) rfl (fun K hK => by rw [if_pos hw0]; exact h0 K hK) (AllReadyH.cons (o := o5) rfl (fun K hK => by rw [if_pos hw1]; exact h1 K hK) AllReadyH.nil))
theorem rd2_5_9 {o0 o1 o2 o3 o4 o5 o6 o7 o8 o9 : Oper} (hr : Region.ready md (o0 :: o1 :: o2 :: o3 :: o4 :: o5 :: o6 :: o7 :: o8 :: o9 :: l).toArray listed = [2, 5, 9]) (hw0 : Region.wanted o2 (yielded (o0 :: o1 :: o2 :: o3 :: o4 :: o5 :: o6 :: o7 :: o8 :: o9 :: l).toArray a.tmps) = true) (hw1 : Region.wanted o5 (yielded (o0 :: o1 :: o2 :: o3 :: o4 :: o5 :: o6 :: o7 :: o8 :: o9 :: l).toArray a.tmps) = true) (hw2 : Region.wanted o9 (yielded (o0 :: o1 :: o2 :: o3 :: o4 :: o5 :: o6 :: o7 :: o8 :: o9 :: l).toArray a.tmps) = true)
    (h0 : ∀ K' : Act → World → Prop, Shut (∀ a w, S w → (S w → wpAnyH P md (o0 :: o1 :: o2 :: o3 :: o4 :: o5 :: o6 :: o7 :: o8 :: o9 :: l).toArray Q S fuel (listed.setIfInBounds 2 true) a w) → K' a w) → Oper.wp P o2 a w K' Q)
    (h1 : ∀ K' : Act → World → Prop, Shut (∀ a w, S w → (S w → wpAnyH P md (o0 :: o1 :: o2 :: o3 :: o4 :: o5 :: o6 :: o7 :: o8 :: o9 :: l).toArray Q S fuel (listed.setIfInBounds 5 true) a w) → K' a w) → Oper.wp P o5 a w K' Q)
    (h2 : ∀ K' : Act → World → Prop, Shut (∀ a w, S w → (S w → wpAnyH P md (o0 :: o1 :: o2 :: o3 :: o4 :: o5 :: o6 :: o7 :: o8 :: o9 :: l).toArray Q S fuel (listed.setIfInBounds 9 true) a w) → K' a w) → Oper.wp P o9 a w K' Q) : wpAnyH P md (o0 :: o1 :: o2 :: o3 :: o4 :: o5 :: o6 :: o7 :: o8 :: o9 :: l).toArray Q S (fuel + 1) listed a w :=
  wpAnyH_ready hr (by simp) (AllReadyH.cons (o := o2) rfl (fun K hK => by rw [if_pos hw0]; exact h0 K hK) (AllReadyH.cons (o := o5) rfl (fun K hK => by rw [if_pos hw1]; exact h1 K hK) (AllReadyH.cons (o := o9) rfl (fun K hK => by rw [if_pos hw2]; exact h2 K hK) AllReadyH.nil)))
theorem rd2_8 {o0 o1 o2 o3 o4 o5 o6 o7 o8 : Oper} (hr : Region.ready md (o0 :: o1 :: o2 :: o3 :: o4 :: o5 :: o6 :: o7 :: o8 :: l).toArray listed = [2, 8]) (hw0 : Region.wanted o2 (yielded (o0 :: o1 :: o2 :: o3 :: o4 :: o5 :: o6 :: o7 :: o8 :: l).toArray a.tmps) = true) (hw1 : Region.wanted o8 (yielded (o0 :: o1 :: o2 :: o3 :: o4 :: o5 :: o6 :: o7 :: o8 :: l).toArray a.tmps) = true)
    (h0 : ∀ K' : Act → World → Prop, Shut (∀ a w, S w → (S w → wpAnyH P md (o0 :: o1 :: o2 :: o3 :: o4 :: o5 :: o6 :: o7 :: o8 :: l).toArray Q S fuel (listed.setIfInBounds 2 true) a w) → K' a w) → Oper.wp P o2 a w K' Q)
    (h1 : ∀ K' : Act → World → Prop, Shut (∀ a w, S w → (S w → wpAnyH P md (o0 :: o1 :: o2 :: o3 :: o4 :: o5 :: o6 :: o7 :: o8 :: l).toArray Q S fuel (listed.setIfInBounds 8 true) a w) → K' a w) → Oper.wp P o8 a w K' Q) : wpAnyH P md (o0 :: o1 :: o2 :: o3 :: o4 :: o5 :: o6 :: o7 :: o8 :: l).toArray Q S (fuel + 1) listed a w :=
  wpAnyH_ready hr (by simp) (AllReadyH.cons (o := o2) rfl (fun K hK => by rw [if_pos hw0]; exact h0 K hK) (AllReadyH.cons (o := o8) rfl (fun K hK => by rw [if_pos hw1]; exact h1 K hK) AllReadyH.nil))
theorem rd2_8_9 {o0 o1 o2 o3 o4 o5 o6 o7 o8 o9 : Oper} (hr : Region.ready md (o0 :: o1 :: o2 :: o3 :: o4 :: o5 :: o6 :: o7 :: o8 :: o9 :: l).toArray listed = [2, 8, 9]) (hw0 : Region.wanted o2 (yielded (o0 :: o1 :: o2 :: o3 :: o4 :: o5 :: o6 :: o7 :: o8 :: o9 :: l).toArray a.tmps) = true) (hw1 : Region.wanted o8 (yielded (o0 :: o1 :: o2 :: o3 :: o4 :: o5 :: o6 :: o7 :: o8 :: o9 :: l).toArray a.tmps) = true) (hw2 : Region.wanted o9 (yielded (o0 :: o1 :: o2 :: o3 :: o4 :: o5 :: o6 :: o7 :: o8 :: o9 :: l).toArray a.tmps) = true)
    (h0 : ∀ K' : Act → World → Prop, Shut (∀ a w, S w → (S w → wpAnyH P md (o0 :: o1 :: o2 :: o3 :: o4 :: o5 :: o6 :: o7 :: o8 :: o9 :: l).toArray Q S fuel (listed.setIfInBounds 2 true) a w) → K' a w) → Oper.wp P o2 a w K' Q)
    (h1 : ∀ K' : Act → World → Prop, Shut (∀ a w, S w → (S w → wpAnyH P md (o0 :: o1 :: o2 :: o3 :: o4 :: o5 :: o6 :: o7 :: o8 :: o9 :: l).toArray Q S fuel (listed.setIfInBounds 8 true) a w) → K' a w) → Oper.wp P o8 a w K' Q)
    (h2 : ∀ K' : Act → World → Prop, Shut (∀ a w, S w → (S w → wpAnyH P md (o0 :: o1 :: o2 :: o3 :: o4 :: o5 :: o6 :: o7 :: o8 :: o9 :: l).toArray Q S fuel (listed.setIfInBounds 9 true) a w) → K' a w) → Oper.wp P o9 a w K' Q) : wpAnyH P md (o0 :: o1 :: o2 :: o3 :: o4 :: o5 :: o6 :: o7 :: o8 :: o9 :: l).toArray Q S (fuel + 1) listed a w :=
  wpAnyH_ready hr (by simp) (AllReadyH.cons (o := o2) rfl (fun K hK => by rw [if_pos hw0]; exact h0 K hK) (AllReadyH.cons (o := o8) rfl (fun K hK => by rw [if_pos hw1]; exact h1 K hK) (AllReadyH.cons (o := o9) rfl (fun K hK => by rw [if_pos hw2]; exact h2 K hK) AllReadyH.nil)))
theorem rd2_9 {o0 o1 o2 o3 o4 o5 o6 o7 o8 o9 : Oper} (hr : Region.ready md (o0 :: o1 :: o2 :: o3 :: o4 :: o5 :: o6 :: o7 :: o8 :: o9 :: l).toArray listed = [2, 9]) (hw0 : Region.wanted o2 (yielded (o0 :: o1 :: o2 :: o3 :: o4 :: o5 :: o6 :: o7 :: o8 :: o9 :: l).toArray a.tmps) = true) (hw1 : Region.wanted o9 (yielded (o0 :: o1 :: o2 :: o3 :: o4 :: o5 :: o6 :: o7 :: o8 :: o9 :: l).toArray a.tmps) = true)
    (h0 : ∀ K' : Act → World → Prop, Shut (∀ a w, S w → (S w → wpAnyH P md (o0 :: o1 :: o2 :: o3 :: o4 :: o5 :: o6 :: o7 :: o8 :: o9 :: l).toArray Q S fuel (listed.setIfInBounds 2 true) a w) → K' a w) → Oper.wp P o2 a w K' Q)
    (h1 : ∀ K' : Act → World → Prop, Shut (∀ a w, S w → (S w → wpAnyH P md (o0 :: o1 :: o2 :: o3 :: o4 :: o5 :: o6 :: o7 :: o8 :: o9 :: l).toArray Q S fuel (listed.setIfInBounds 9 true) a w) → K' a w) → Oper.wp P o9 a w K' Q) : wpAnyH P md (o0 :: o1 :: o2 :: o3 :: o4 :: o5 :: o6 :: o7 :: o8 :: o9 :: l).toArray Q S (fuel + 1) listed a w :=
  wpAnyH_ready hr (by simp) (AllReadyH.cons (o := o2) rfl (fun K hK => by rw [if_pos hw0]; exact h0 K hK) (AllReadyH.cons (o := o9) rfl (fun K hK => by rw [if_pos hw1]; exact h1 K hK) AllReadyH.nil))
theorem rd5_9 {o0 o1 o2 o3 o4 o5 o6 o7 o8 o9 : Oper} (hr : Region.ready md (o0 :: o1 :: o2 :: o3 :: o4 :: o5 :: o6 :: o7 :: o8 :: o9 :: l).toArray listed = [5, 9]) (hw0 : Region.wanted o5 (yielded (o0 :: o1 :: o2 :: o3 :: o4 :: o5 :: o6 :: o7 :: o8 :: o9 :: l).toArray a.tmps) = true) (hw1 : Region.wanted o9 (yielded (o0 :: o1 :: o2 :: o3 :: o4 :: o5 :: o6 :: o7 :: o8 :: o9 :: l).toArray a.tmps) = true)
    (h0 : ∀ K' : Act → World → Prop, Shut (∀ a w, S w → (S w → wpAnyH P md (o0 :: o1 :: o2 :: o3 :: o4 :: o5 :: o6 :: o7 :: o8 :: o9 :: l).toArray Q S fuel (listed.setIfInBounds 5 true) a w) → K' a w) → Oper.wp P o5 a w K' Q)
    (h1 : ∀ K' : Act → World → Prop, Shut (∀ a w, S w → (S w → wpAnyH P md (o0 :: o1 :: o2 :: o3 :: o4 :: o5 :: o6 :: o7 :: o8 :: o9 :: l).toArray Q S fuel (listed.setIfInBounds 9 true) a w) → K' a w) → Oper.wp P o9 a w K' Q) : wpAnyH P md (o0 :: o1 :: o2 :: o3 :: o4 :: o5 :: o6 :: o7 :: o8 :: o9 :: l).toArray Q S (fuel + 1) listed a w :=
  wpAnyH_ready hr (by simp) (AllReadyH.cons (o := o5) rfl (fun K hK => by rw [if_pos hw0]; exact h0 K hK) (AllReadyH.cons (o := o9) rfl (fun K hK => by rw [if_pos hw1]; exact h1 K hK) AllReadyH.nil))
theorem rd8_9 {o0 o1 o2 o3 o4 o5 o6 o7 o8 o9 : Oper} (hr : Region.ready md (o0 :: o1 :: o2 :: o3 :: o4 :: o5 :: o6 :: o7 :: o8 :: o9 :: l).toArray listed = [8, 9]) (hw0 : Region.wanted o8 (yielded (o0 :: o1 :: o2 :: o3 :: o4 :: o5 :: o6 :: o7 :: o8 :: o9 :: l).toArray a.tmps) = true) (hw1 : Region.wanted o9 (yielded (o0 :: o1 :: o2 :: o3 :: o4 :: o5 :: o6 :: o7 :: o8 :: o9 :: l).toArray a.tmps) = true)
    (h0 : ∀ K' : Act → World → Prop, Shut (∀ a w, S w → (S w → wpAnyH P md (o0 :: o1 :: o2 :: o3 :: o4 :: o5 :: o6 :: o7 :: o8 :: o9 :: l).toArray Q S fuel (listed.setIfInBounds 8 true) a w) → K' a w) → Oper.wp P o8 a w K' Q)
    (h1 : ∀ K' : Act → World → Prop, Shut (∀ a w, S w → (S w → wpAnyH P md (o0 :: o1 :: o2 :: o3 :: o4 :: o5 :: o6 :: o7 :: o8 :: o9 :: l).toArray Q S fuel (listed.setIfInBounds 9 true) a w) → K' a w) → Oper.wp P o9 a w K' Q) : wpAnyH P md (o0 :: o1 :: o2 :: o3 :: o4 :: o5 :: o6 :: o7 :: o8 :: o9 :: l).toArray Q S (fuel + 1) listed a w :=
  wpAnyH_ready hr (by simp) (AllReadyH.cons (o := o8) rfl (fun K hK => by rw [if_pos hw0]; exact h0 K hK) (AllReadyH.cons (o := o9) rfl (fun K hK => by rw [if_pos hw1]; exact h1 K hK) AllReadyH.nil))
end
structure NewRel (ts : List (List Opx)) (kk : Nat) (P : List Pk) (fR : Nat → Bool) : Prop where
  ln : P.length = ts.length
  lo : ∀ i (_ : i < P.length) (_ : i < ts.length), i < kk → P[i] = ⟨ts[i], 0, []⟩ ∧ fR i = decide (0 < ts[i].length)
  hi : ∀ i (_ : i < P.length), kk ≤ i → P[i] = pk0 ∧ fR i = false
theorem NewRel.start (ts : List (List Opx)) : NewRel ts 0 (List.replicate ts.length pk0) (fun _ => false) :=
  ⟨by rw [List.length_replicate], fun i _ _ h => absurd h (Nat.not_lt_zero _), fun i h _ => ⟨List.getElem_replicate h, rfl⟩⟩
theorem NewRel.rel {ts : List (List Opx)} {P : List Pk} {fR : Nat → Bool} (h : NewRel ts ts.length P fR) : Rel none (ts.map tkNew) P fR (fun _ => false) := by
  have hl : (ts.map tkNew).length = ts.length := List.length_map _
  have key : ∀ i (h1 : i < (ts.map tkNew).length) (h2 : i < P.length), (ts.map tkNew)[i] = tkNew (ts[i]'(by rw [← hl]; exact h1)) ∧ P[i] = ⟨ts[i]'(by rw [← hl]; exact h1), 0, []⟩ ∧ fR i = decide (0 < (ts[i]'(by rw [← hl]; exact h1)).length) := fun i h1 h2 => ⟨List.getElem_map _, h.lo i h2 (by rw [← hl]; exact h1) (by rw [← hl]; exact h1)⟩
  have hP : ∀ i, i < (ts.map tkNew).length → i < P.length := fun i h1 => by rw [h.ln, ← hl]; exact h1
  refine ⟨by rw [h.ln, hl], fun i h1 h2 => ?_, fun i h1 => ?_, fun i h1 h2 _ => ?_, fun i h1 h2 hb => ?_, fun i h1 => ?_⟩
  · obtain ⟨e1, e2, _⟩ := key i h1 h2
    rw [e1, e2]
    exact ⟨rfl, rfl⟩
  · rw [(key i h1 (hP i h1)).1]
    rfl
  · obtain ⟨e1, e2, _⟩ := key i h1 h2
    rw [e1, e2]
    rfl
  · rw [(key i h1 h2).1] at hb
    cases hb
  · obtain ⟨e1, _, e3⟩ := key i h1 (hP i h1)
    rw [e1, e3]
    unfold tkR tkNew
    simp
theorem NewRel.step {ts : List (List Opx)} {kk : Nat} {P : List Pk} {fR : Nat → Bool} (h : NewRel ts kk P fR) (hk : kk < ts.length) (hP : kk < P.length) (P' : List Pk) (hP' : P' = P.set kk ⟨ts[kk], 0, []⟩) : NewRel ts (kk + 1) P' (goF ts[kk].length fR kk 0) := by
  subst hP'
  obtain ⟨_, e2⟩ := h.hi kk hP (Nat.le_refl _)
  refine ⟨by rw [List.length_set]; exact h.ln, fun i h1 h2 hi => ?_, fun i h1 hi => ?_⟩
  · rw [List.length_set] at h1
    by_cases e : kk = i
    · subst e
      rw [List.getElem_set_self, goF_at _ _ _ _ e2]
      exact ⟨rfl, rfl⟩
    · rw [List.getElem_set_ne e, goF_ne _ _ _ _ _ (fun e2 => e e2.symm)]
      exact h.lo i h1 h2 (by omega)
  · rw [List.length_set] at h1
    rw [List.getElem_set_ne (by omega), goF_ne _ _ _ _ _ (by omega)]
    exact h.hi i h1 (by omega)
section
variable {w w' : World} {v : Value} {ts : List (List Opx)}
set_option maxHeartbeats 6400000 in
set_option maxRecDepth 100000 in
theorem ps_new (h : TasksAt w v ts) (hn : ts.length ≤ 65536) (hl : ∀ o ∈ ts, o.length ≤ 65536) (ho : opsOk ts) : Calls Try.prog 11 #[v] w fun e w' => ∃ D S, e = .returned (.pointer (some ⟨D, 0, none⟩)) ∧ PSk w' w.heap.size D S 0 (ts.map tkNew) [] ∧ Below w.heap.size w w' := by
  obtain ⟨a, cap, rfl⟩ := h.form
  obtain ⟨i0, hi0, hz0, hz1, hz2⟩ := info_parts infoPt
  have hcn := cr_new ts.length hn
  unfold crV at hcn
  have hmk : ∀ w : World, (Instr.makeSlice 50 (.int .i64 (ts.length : Int)) (.int .i64 (ts.length : Int))).run Try.prog w = .ok (.slice (some ⟨w.heap.size, 0, none⟩) ts.length ts.length) (w.alloc (.cells (madeCells #[.slice none 0 0, .int .i64 0, .slice none 0 0] (ts.length * 3)) PtT)) := fun w => by
    have := run_make (P := Try.prog) w 50 PtT i0 (.agg #[.slice none 0 0, .int .i64 0, .slice none 0 0]) Try.underlying50 hi0 hz0 .i64 .i64 (ts.length : Int) (ts.length : Int) (by omega) (Int.le_refl _) (by rw [hz2]; omega) (by omega)
    rw [Int.toNat_natCast, hz1] at this
    exact this
  have HT : Hid _ := h
  have HL : Hid _ := hl
  have HOK : Hid _ := ho
  clear h hl ho
  go_enter Try.func11, Try.ntmps11
  go_wp2
  rename_i Q9 K9 a9
  have HREST : Hid (∀ (bT bR dR bB dB M D : Nat) (X : World), D = X.heap.size → X.heap[bT]? = some (.cells (madeCells #[.slice none 0 0, .int .i64 0, .slice none 0 0] (ts.length * 3)) PtT (0, 0)) → CrAt X bR dR (fun _ => false) → CrAt X bB dB (fun _ => false) → objM.At X M [] → bR ≠ bB → (ts.length ≤ 2 ^ dR ∧ 2 ^ dR ≤ 65536) → (ts.length ≤ 2 ^ dB ∧ 2 ^ dB ≤ 65536) → (w.drew.heap.size ≤ bT ∧ w.drew.heap.size ≤ bR ∧ w.drew.heap.size ≤ bB ∧ w.drew.heap.size ≤ M) → Below w.drew.heap.size w.drew X → Exit.then K9 Q9 Exit.normal { tmps := #[.slice a ts.length cap, undef, .pointer none, .pointer (some ⟨D, 0, none⟩), undef, undef, .slice a ts.length cap, .int .i64 (ts.length : Int), .slice (some ⟨bT, 0, none⟩) ts.length ts.length, .slice a ts.length cap, .int .i64 (ts.length : Int), .agg #[.slice (some ⟨bR, 0, none⟩) (2 * 2 ^ dR) (2 * 2 ^ dR)], .slice a ts.length cap, .int .i64 (ts.length : Int), .agg #[.slice (some ⟨bB, 0, none⟩) (2 * 2 ^ dB) (2 * 2 ^ dB)], .map (some M), .agg #[.slice (some ⟨bT, 0, none⟩) ts.length ts.length, .slice (some ⟨bR, 0, none⟩) (2 * 2 ^ dR) (2 * 2 ^ dR), .slice (some ⟨bB, 0, none⟩) (2 * 2 ^ dB) (2 * 2 ^ dB), .map (some (M))], .pointer (some ⟨D, 0, none⟩), undef, undef, undef, undef, undef, undef, undef, undef, undef, undef, undef, undef, undef, undef, undef, undef, undef, undef, undef, undef, undef], defers := [] } (X.alloc (.cells #[.slice (some ⟨bT, 0, none⟩) ts.length ts.length, .slice (some ⟨bR, 0, none⟩) (2 * 2 ^ dR) (2 * 2 ^ dR), .slice (some ⟨bB, 0, none⟩) (2 * 2 ^ dB) (2 * 2 ^ dB), .map (some (M))] SchT))) := by
    intro bT bR dR bB dB M D X eD f2 f5 f8 f9 ne zR zB hbs cc
    have hBX : Below w.heap.size w (X.alloc (.cells #[.slice (some ⟨bT, 0, none⟩) ts.length ts.length, .slice (some ⟨bR, 0, none⟩) (2 * 2 ^ dR) (2 * 2 ^ dR), .slice (some ⟨bB, 0, none⟩) (2 * 2 ^ dB) (2 * 2 ^ dB), .map (some (M))] SchT)) := (undrB cc).alloc cc.size _
    have hst : PkAt (X.alloc (.cells #[.slice (some ⟨bT, 0, none⟩) ts.length ts.length, .slice (some ⟨bR, 0, none⟩) (2 * 2 ^ dR) (2 * 2 ^ dR), .slice (some ⟨bB, 0, none⟩) (2 * 2 ^ dB) (2 * 2 ^ dB), .map (some (M))] SchT)) w.heap.size (ro0 ⟨D, bT, bR, bB, M, dR, dB⟩) ⟨D, bT, bR, bB, M, dR, dB⟩ (List.replicate ts.length tv0) [] (List.replicate ts.length pk0) (fun _ => false) (fun _ => false) [] := by
      have hB1 : Below X.heap.size X (X.alloc (.cells #[.slice (some ⟨bT, 0, none⟩) ts.length ts.length, .slice (some ⟨bR, 0, none⟩) (2 * 2 ^ dR) (2 * 2 ^ dR), .slice (some ⟨bB, 0, none⟩) (2 * 2 ^ dB) (2 * 2 ^ dB), .map (some (M))] SchT)) := (Below.refl _ X).alloc (Nat.le_refl _) _
      exact PkAt.start (y := ⟨D, bT, bR, bB, M, dR, dB⟩) (by show _ = _; rw [eD]; exact heap_alloc_new X _) ((hB1.block _ (lt_of_block f2)).trans f2) (f5.fresh hB1) (f8.fresh hB1) (f9.keep (hB1.block _ f9.lt)) ne zR zB ⟨by show _ ≤ D; rw [eD]; exact cc.size, hbs.1, hbs.2.1, hbs.2.2.1, hbs.2.2.2⟩
    have HST : Hid _ := hst
    have HBX : Hid _ := hBX
    have hgen : ∀ (y : Lay) (WF : World), Hid (PkAt WF w.heap.size (ro0 y) y (List.replicate ts.length tv0) [] (List.replicate ts.length pk0) (fun _ => false) (fun _ => false) []) → Hid (Below w.heap.size w WF) → Exit.then K9 Q9 Exit.normal { tmps := #[.slice a ts.length cap, undef, .pointer none, .pointer (some ⟨y.D, 0, none⟩), undef, undef, .slice a ts.length cap, .int .i64 (ts.length : Int), .slice (some ⟨y.bT, 0, none⟩) ts.length ts.length, .slice a ts.length cap, .int .i64 (ts.length : Int), .agg #[.slice (some ⟨y.bR, 0, none⟩) (2 * 2 ^ y.dR) (2 * 2 ^ y.dR)], .slice a ts.length cap, .int .i64 (ts.length : Int), .agg #[.slice (some ⟨y.bB, 0, none⟩) (2 * 2 ^ y.dB) (2 * 2 ^ y.dB)], .map (some y.M), .agg #[.slice (some ⟨y.bT, 0, none⟩) ts.length ts.length, .slice (some ⟨y.bR, 0, none⟩) (2 * 2 ^ y.dR) (2 * 2 ^ y.dR), .slice (some ⟨y.bB, 0, none⟩) (2 * 2 ^ y.dB) (2 * 2 ^ y.dB), .map (some y.M)], .pointer (some ⟨y.D, 0, none⟩), undef, undef, undef, undef, undef, undef, undef, undef, undef, undef, undef, undef, undef, undef, undef, undef, undef, undef, undef, undef, undef], defers := [] } WF := by
      clear HST HBX hst hBX cc hbs zR zB ne f9 f8 f5 f2 eD
      intro y WF HST HBX
      go_wp2
      go_loopw [4, 5, 20] (fun _ _ j wr => ∃ (kk : Nat) (ro : Nat → Option Who) (tv : List Tv) (P : List Pk) (fR : Nat → Bool), kk ≤ ts.length ∧ j = .int .i64 (kk : Int) ∧ Hid (PkAt wr w.heap.size ro y tv [] P fR (fun _ => false) []) ∧ Hid (NewRel ts kk P fR) ∧ Hid (Below w.heap.size w wr)) (fun _ _ j _ => ts.length - (RowKit.intOf j).toNat)
      case atStart => exact ⟨0, _, _, _, _, Nat.zero_le _, rfl, HST, NewRel.start ts, HBX⟩
      case round =>
        obtain ⟨kk, ro, tv, P, fR, hkk, rfl, hP, hN, hB⟩ := hrel
        by_cases hkl : kk < ts.length
        · have q0 : decide ((kk : Int) < (ts.length : Int)) = true := decide_eq_true (by omega)
          obtain ⟨bk, off, cp, e, hbk, hx⟩ := HT.out.cells (by omega)
          simp only [Value.slice.injEq] at e
          obtain ⟨rfl, _, rfl⟩ := e
          obtain ⟨ak, ck, zk', hrk⟩ := hx kk hkl
          have zk : wr.cell? ⟨bk, off + kk, none⟩ = some (.slice ak ts[kk].length ck) := (hB.out.cell (p := ⟨bk, off + kk, none⟩) (by exact hbk)).trans zk'
          have hPl := hN.out.ln
          have hkP : kk < P.length := by omega
          obtain ⟨c0, _⟩ := hP.out.cells
          rw [hPl] at c0
          have hkt : kk < tv.length := by rw [hP.out.tl]; exact hkP
          have HS5 : Hid (wr.drew.cell? ⟨y.D, 0, none⟩ = some (.slice (some ⟨y.bT, 0, none⟩) ts.length ts.length)) := c0
          have HP9 : Hid (PkAt wr.drew w.heap.size ro y tv [] P fR (fun _ => false) []) := hP.out.keep (Nat.le_refl _) (fun _ _ => rfl)
          have HCL : Hid (∀ (dummy : Unit), Calls Try.prog 28 #[.slice ak ts[kk].length ck] wr.drew fun e w' => ∃ u, e = .returned u ∧ RowAt opC w' u ts[kk] ∧ (∀ b, Blk u b → wr.drew.heap.size ≤ b) ∧ Below wr.drew.heap.size wr.drew w') := fun _ => clone_ops (hrk.fresh (hB.out.drew)) (HL.out _ (List.getElem_mem hkl))
          obtain ⟨pq1, pq2⟩ := hN.out.hi kk hkP (Nat.le_refl _)
          have HK6 : Hid (kk < (P.set kk { P[kk] with ops := ts[kk] }).length) := by show _ < _; rw [List.length_set]; exact hkP
          have HF6 : Hid (fR kk = false) := pq2
          have HPK : Hid ((P.set kk { P[kk] with ops := ts[kk] })[kk]'(HK6.out) = ⟨ts[kk], 0, []⟩) := by
            show _ = _
            rw [List.getElem_set_self, pq1]
            rfl
          have HNR : Hid (NewRel ts (kk + 1) ((P.set kk { P[kk] with ops := ts[kk] }).set kk { (P.set kk { P[kk] with ops := ts[kk] })[kk]'(HK6.out) with pos := 0 }) (goF ((P.set kk { P[kk] with ops := ts[kk] })[kk]'(HK6.out)).ops.length fR kk 0)) := by
            rw [HPK.out]
            exact hN.out.step hkl hkP _ (by rw [List.set_set])
          have HS6 : Hid (∀ w5 u, RowAt opC w5 u ts[kk] → (∀ b, Blk u b → wr.drew.heap.size ≤ b) → Below wr.drew.heap.size wr.drew w5 → (∃ ro', PkAt (w5.setCell ⟨y.bT, kk * 3, none⟩ u) w.heap.size ro' y (tv.set kk (u, tv[kk].2)) [] (P.set kk { P[kk] with ops := ts[kk] }) fR (fun _ => false) [] ∧ Kept wr.drew (w5.setCell ⟨y.bT, kk * 3, none⟩ u) (fun b => ro b ≠ none) (fun b => ro' b ≠ none)) ∧ w5.cell? ⟨y.D, 0, none⟩ = some (.slice (some ⟨y.bT, 0, none⟩) ts.length ts.length) ∧ (∃ x, w5.cell? ⟨y.bT, kk * 3, none⟩ = some x) ∧ w5.frozen? ⟨y.bT, kk * 3, none⟩ = false ∧ (w5.setCell ⟨y.bT, kk * 3, none⟩ u).cell? ⟨y.D, 0, none⟩ = some (.slice (some ⟨y.bT, 0, none⟩) ts.length ts.length)) := fun w5 u r5 n5 b5 => by
            obtain ⟨g1, g2⟩ := HP9.out.setOps kk hkP hkt u ts[kk] r5 n5 b5
            obtain ⟨ao, co, ar, cr, _, z0, _, _, zf, zb⟩ := (HP9.out.fresh b5).task kk hkP
            obtain ⟨d0, _⟩ := (HP9.out.fresh b5).cells
            rw [hPl] at d0
            obtain ⟨e0, _⟩ := g2.1.cells
            rw [List.length_set, hPl] at e0
            exact ⟨⟨g1, g2⟩, d0, ⟨_, z0⟩, zf _, e0⟩
          have HBW : Hid (∀ w7 (S' : Nat → Prop), Kept wr.drew w7 (fun b => ro b ≠ none) S' → Below w.heap.size w w7) := fun w7 S' k7 => hB.out.drew.trans (k7.low (by have := hB.out.size; exact this) (fun b hb => (hP.out.bd b hb).1))
          clear hx zk' hrk pq1 pq2 hPl hN hP hB
          go_wp2
          refine wp_region_held_drew (S := (fun w' : World => w'.cell? ⟨y.D, 0, none⟩ = some (.slice (some ⟨y.bT, 0, none⟩) ts.length ts.length))) (by kernel_rfl) ?_ (fun hHeld0 => ?_)
          · exact HS5.out
          generalize wr.drew = w9 at *
          clear hHeld0
          have hHeld0 := HS5.out
          refine tk0 (.pointer (some ⟨y.D, 0, none⟩)) ?_
          try simp only [Act.put, pu1, pu2, pu3]
          refine tk1 (.pointer (some ⟨y.D, 0, none⟩)) ?_
          try simp only [Act.put, pu1, pu2, pu3]
          refine tk2 (.pointer (some ⟨y.D, 0, none⟩)) ?_
          try simp only [Act.put, pu1, pu2, pu3]
          refine tk3 (.slice (some ⟨y.bT, 0, none⟩) ts.length ts.length) ?_
          try simp only [Act.put, pu1, pu2, pu3]
          refine tk4 (.int .i64 (kk : Int)) ?_
          try simp only [Act.put, pu1, pu2, pu3]
          refine tk5 (.slice ak ts[kk].length ck) ?_
          try simp only [Act.put, pu1, pu2, pu3]
          refine cl6 (by kernel_rfl) rfl (fun K hK => ?_)
          go_simp
          go_at_call 28
          refine (HCL.out ()).mono ?_
          rintro e w5 ⟨u, rfl, r5', n5', b5'⟩
          have r5 : Hid _ := r5'
          have n5 : Hid _ := n5'
          have b5 : Hid _ := b5'
          clear r5' n5' b5'
          obtain ⟨au, cu, hau⟩ := r5.out.form
          obtain ⟨f6, g5, ⟨xx, t5⟩, tf5, s6⟩ := HS6.out w5 u r5.out n5.out b5.out
          subst hau
          refine hK.out _ _ ?_ (fun hHeld => ?_)
          · exact g5
          clear hK K
          try simp only [Act.put, pu1, pu2, pu3]
          refine tk7 (.pointer (some ⟨y.bT, kk * 3, none⟩)) ?_
          try simp only [Act.put, pu1, pu2, pu3]
          refine tk8 (.pointer (some ⟨y.bT, kk * 3, none⟩)) ?_
          try simp only [Act.put, pu1, pu2, pu3]
          refine cl9 (by kernel_rfl) rfl (fun K hK => ?_)
          go_simp
          refine hK.out _ _ ?_ (fun hHeld => ?_)
          · exact s6
          clear hK K
          try simp only [Act.put, pu1, pu2, pu3]
          refine wpAnyH_done (by kernel_rfl) ?_ _
          obtain ⟨ro6, h6', k6'⟩ := f6
          have h6 : Hid _ := h6'
          have k6 : Hid _ := k6'
          clear h6' k6' hHeld hHeld0
          go_wp2_with (go_at_call 29; refine (pk_goTo h6.out kk HK6.out 0 HF6.out).mono ?_; rintro e w7 ⟨rfl, h7', k7'⟩; have h7 : Hid _ := h7'; have k7 : Hid _ := k7'; clear h7' k7')
          go_roundw
          case rel => exact ⟨kk + 1, _, _, _, _, hkl, by go_num, h7, HNR.out, HBW.out w7 _ (k6.out.trans k7.out)⟩
          case measure => simp [RowKit.intOf]; omega
        · have q0 : decide ((kk : Int) < (ts.length : Int)) = false := decide_eq_false (by omega)
          have hke : kk = ts.length := by omega
          have HF : Hid (PSk wr w.heap.size y.D (fun b => ro b ≠ none) 0 (ts.map tkNew) []) := by
            refine ⟨⟨ro, y, rfl, ⟨⟨_, _, _, _, _, hP.out, ?_⟩, Inv.new (fun t ht => ?_)⟩, fun b => Iff.rfl⟩, StOk.new hn HL.out, fun t ht x hx => ?_⟩
            · rw [hke] at hN
              exact hN.out.rel
            · obtain ⟨o, _, rfl⟩ := List.mem_map.1 ht
              rfl
            · obtain ⟨o, ho, rfl⟩ := List.mem_map.1 ht
              exact HOK.out o ho x hx
          clear hP hN
          go_wp2
          go_ret
          exact ⟨y.D, _, rfl, HF.out, hB.out⟩
    exact hgen ⟨D, bT, bR, bB, M, dR, dB⟩ _ HST HBX
  refine wp_region_held_drew (S := (fun _ : World => True)) (by kernel_rfl) ?_ (fun hHeld0 => ?_)
  · trivial
  generalize w.drew = w9 at *
  clear hHeld0
  refine tk0 (.slice a ts.length cap) ?_ (fun w hSw => by (try dsimp only at hSw); clear hSw; go_simp)
  try simp only [Act.put, pu1, pu2, pu3]
  refine tk1 (.int .i64 (ts.length : Int)) ?_ (fun w hSw => by (try dsimp only at hSw); clear hSw; go_simp)
  try simp only [Act.put, pu1, pu2, pu3]
  refine tk3 (.slice a ts.length cap) ?_ (fun w hSw => by (try dsimp only at hSw); clear hSw; go_simp)
  try simp only [Act.put, pu1, pu2, pu3]
  refine tk4 (.int .i64 (ts.length : Int)) ?_ (fun w hSw => by (try dsimp only at hSw); clear hSw; go_simp)
  try simp only [Act.put, pu1, pu2, pu3]
  refine tk6 (.slice a ts.length cap) ?_ (fun w hSw => by (try dsimp only at hSw); clear hSw; go_simp)
  try simp only [Act.put, pu1, pu2, pu3]
  refine tk7 (.int .i64 (ts.length : Int)) ?_ (fun w hSw => by (try dsimp only at hSw); clear hSw; go_simp)
  try simp only [Act.put, pu1, pu2, pu3]
  refine rd2_5_9 (by kernel_rfl) rfl rfl rfl (fun K hK => ?_) (fun K hK => ?_) (fun K hK => ?_)
  · go_simp
    refine hK.out _ _ ?_ (fun hHeld => ?_)
    · trivial
    clear hK K
    try simp only [Act.put, pu1, pu2, pu3]
    refine rd5_9 (by kernel_rfl) rfl rfl (fun K hK => ?_) (fun K hK => ?_)
    · go_simp
      go_at_call 27
      refine (hcn (w9.alloc (.cells (madeCells #[.slice none 0 0, .int .i64 0, .slice none 0 0] (ts.length * 3)) PtT))).mono ?_
      rintro e w5 ⟨bR, dR, rfl, zR1, zR2, hR', lR, b5⟩
      have hR5 : Hid _ := hR'
      clear hR'
      refine hK.out _ _ ?_ (fun hHeld => ?_)
      · trivial
      clear hK K
      try simp only [Act.put, pu1, pu2, pu3]
      refine rd8_9 (by kernel_rfl) rfl rfl (fun K hK => ?_) (fun K hK => ?_)
      · go_simp
        go_at_call 27
        refine (hcn w5).mono ?_
        rintro e w8 ⟨bB, dB, rfl, zB1, zB2, hB', lB, b8⟩
        have hB8 : Hid _ := hB'
        clear hB'
        refine hK.out _ _ ?_ (fun hHeld => ?_)
        · trivial
        clear hK K
        try simp only [Act.put, pu1, pu2, pu3]
        refine cl9 (by kernel_rfl) rfl (fun K hK => ?_)
        go_simp
        refine hK.out _ _ ?_ (fun hHeld => ?_)
        · trivial
        clear hK K
        try simp only [Act.put, pu1, pu2, pu3]
        refine tk10 (.agg #[.slice (some ⟨w9.heap.size, 0, none⟩) ts.length ts.length, .slice (some ⟨bR, 0, none⟩) (2 * 2 ^ dR) (2 * 2 ^ dR), .slice (some ⟨bB, 0, none⟩) (2 * 2 ^ dB) (2 * 2 ^ dB), .map (some (w8.heap.size))]) ?_ (fun w hSw => by (try dsimp only at hSw); clear hSw; go_simp)
        try simp only [Act.put, pu1, pu2, pu3]
        refine cl11 (by kernel_rfl) rfl (fun K hK => ?_)
        go_simp
        refine hK.out _ _ ?_ (fun hHeld => ?_)
        · trivial
        clear hK K
        try simp only [Act.put, pu1, pu2, pu3]
        refine tk12 (.pointer (some ⟨w8.heap.size + 1, 0, none⟩)) ?_ (fun w hSw => by (try dsimp only at hSw); clear hSw; go_simp)
        try simp only [Act.put, pu1, pu2, pu3]
        refine wpAnyH_done (by kernel_rfl) ?_ _
        have cc4 : Below (w8.alloc (.map #[] 0)).heap.size (w8.alloc (.map #[] 0)) (w8.alloc (.map #[] 0)) := Below.refl _ _
        have cc3 : Below w8.heap.size w8 (w8.alloc (.map #[] 0)) := bmm ((Below.refl _ w8).alloc (Nat.le_refl _) (.map #[] 0)) ((Below.refl _ w8).alloc (Nat.le_refl _) (.map #[] 0)).size cc4
        have cc2 : Below w5.heap.size w5 (w8.alloc (.map #[] 0)) := bmm b8 b8.size cc3
        have cc1 : Below (w9.alloc (.cells (madeCells #[.slice none 0 0, .int .i64 0, .slice none 0 0] (ts.length * 3)) PtT)).heap.size (w9.alloc (.cells (madeCells #[.slice none 0 0, .int .i64 0, .slice none 0 0] (ts.length * 3)) PtT)) (w8.alloc (.map #[] 0)) := bmm b5 b5.size cc2
        have cc0 : Below w9.heap.size w9 (w8.alloc (.map #[] 0)) := bmm ((Below.refl _ w9).alloc (Nat.le_refl _) (.cells (madeCells #[.slice none 0 0, .int .i64 0, .slice none 0 0] (ts.length * 3)) PtT)) ((Below.refl _ w9).alloc (Nat.le_refl _) (.cells (madeCells #[.slice none 0 0, .int .i64 0, .slice none 0 0] (ts.length * 3)) PtT)).size cc1
        have e2 : w9.heap.size = w9.heap.size := rfl
        have e9 : w8.heap.size = w8.heap.size := rfl
        have f2 : (w8.alloc (.map #[] 0)).heap[w9.heap.size]? = some (.cells (madeCells #[.slice none 0 0, .int .i64 0, .slice none 0 0] (ts.length * 3)) PtT (0, 0)) := by rw [← e2]; exact (cc1.block _ (by simp)).trans (heap_alloc_new w9 _)
        have f9 : objM.At (w8.alloc (.map #[] 0)) (w8.heap.size) [] := by rw [← e9]; exact (MapOf.new objM w8).keep (cc4.block _ (by simp))
        have f5 : CrAt (w8.alloc (.map #[] 0)) bR dR (fun _ => false) := hR5.out.fresh cc2
        have f8 : CrAt (w8.alloc (.map #[] 0)) bB dB (fun _ => false) := hB8.out.fresh cc3
        have l2 : w9.heap.size ≤ w9.heap.size := by rw [← e2]; exact Nat.le_refl _
        have l9 : w9.heap.size ≤ w8.heap.size := by rw [← e9]; exact Nat.le_trans (Nat.le_trans (Nat.le_trans (Nat.le_refl _) ((Below.refl _ w9).alloc (Nat.le_refl _) (.cells (madeCells #[.slice none 0 0, .int .i64 0, .slice none 0 0] (ts.length * 3)) PtT)).size) b5.size) b8.size
        have l5 : w9.heap.size ≤ bR := Nat.le_trans (Nat.le_trans (Nat.le_refl _) ((Below.refl _ w9).alloc (Nat.le_refl _) (.cells (madeCells #[.slice none 0 0, .int .i64 0, .slice none 0 0] (ts.length * 3)) PtT)).size) lR
        have l8 : w9.heap.size ≤ bB := Nat.le_trans (Nat.le_trans (Nat.le_trans (Nat.le_refl _) ((Below.refl _ w9).alloc (Nat.le_refl _) (.cells (madeCells #[.slice none 0 0, .int .i64 0, .slice none 0 0] (ts.length * 3)) PtT)).size) b5.size) lB
        have ne : bR ≠ bB := fun e => by have h1 := hR5.out.lt; have h2 : w5.heap.size ≤ w5.heap.size := Nat.le_refl _; omega
        exact HREST.out (w9.heap.size) bR dR bB dB (w8.heap.size) (w8.heap.size + 1) (w8.alloc (.map #[] 0)) (by simp) f2 f5 f8 f9 ne ⟨zR1, zR2⟩ ⟨zB1, zB2⟩ ⟨l2, l5, l8, l9⟩ cc0
      · go_simp
        refine hK.out _ _ ?_ (fun hHeld => ?_)
        · trivial
        clear hK K
        try simp only [Act.put, pu1, pu2, pu3]
        refine cl8 (by kernel_rfl) rfl (fun K hK => ?_)
        go_simp
        go_at_call 27
        refine (hcn (w5.alloc (.map #[] 0))).mono ?_
        rintro e w8 ⟨bB, dB, rfl, zB1, zB2, hB', lB, b8⟩
        have hB8 : Hid _ := hB'
        clear hB'
        refine hK.out _ _ ?_ (fun hHeld => ?_)
        · trivial
        clear hK K
        try simp only [Act.put, pu1, pu2, pu3]
        refine tk10 (.agg #[.slice (some ⟨w9.heap.size, 0, none⟩) ts.length ts.length, .slice (some ⟨bR, 0, none⟩) (2 * 2 ^ dR) (2 * 2 ^ dR), .slice (some ⟨bB, 0, none⟩) (2 * 2 ^ dB) (2 * 2 ^ dB), .map (some (w5.heap.size))]) ?_ (fun w hSw => by (try dsimp only at hSw); clear hSw; go_simp)
        try simp only [Act.put, pu1, pu2, pu3]
        refine cl11 (by kernel_rfl) rfl (fun K hK => ?_)
        go_simp
        refine hK.out _ _ ?_ (fun hHeld => ?_)
        · trivial
        clear hK K
        try simp only [Act.put, pu1, pu2, pu3]
        refine tk12 (.pointer (some ⟨w8.heap.size, 0, none⟩)) ?_ (fun w hSw => by (try dsimp only at hSw); clear hSw; go_simp)
        try simp only [Act.put, pu1, pu2, pu3]
        refine wpAnyH_done (by kernel_rfl) ?_ _
        have cc4 : Below w8.heap.size w8 w8 := Below.refl _ _
        have cc3 : Below (w5.alloc (.map #[] 0)).heap.size (w5.alloc (.map #[] 0)) w8 := bmm b8 b8.size cc4
        have cc2 : Below w5.heap.size w5 w8 := bmm ((Below.refl _ w5).alloc (Nat.le_refl _) (.map #[] 0)) ((Below.refl _ w5).alloc (Nat.le_refl _) (.map #[] 0)).size cc3
        have cc1 : Below (w9.alloc (.cells (madeCells #[.slice none 0 0, .int .i64 0, .slice none 0 0] (ts.length * 3)) PtT)).heap.size (w9.alloc (.cells (madeCells #[.slice none 0 0, .int .i64 0, .slice none 0 0] (ts.length * 3)) PtT)) w8 := bmm b5 b5.size cc2
        have cc0 : Below w9.heap.size w9 w8 := bmm ((Below.refl _ w9).alloc (Nat.le_refl _) (.cells (madeCells #[.slice none 0 0, .int .i64 0, .slice none 0 0] (ts.length * 3)) PtT)) ((Below.refl _ w9).alloc (Nat.le_refl _) (.cells (madeCells #[.slice none 0 0, .int .i64 0, .slice none 0 0] (ts.length * 3)) PtT)).size cc1
        have e2 : w9.heap.size = w9.heap.size := rfl
        have e9 : w5.heap.size = w5.heap.size := rfl
        have f2 : w8.heap[w9.heap.size]? = some (.cells (madeCells #[.slice none 0 0, .int .i64 0, .slice none 0 0] (ts.length * 3)) PtT (0, 0)) := by rw [← e2]; exact (cc1.block _ (by simp)).trans (heap_alloc_new w9 _)
        have f9 : objM.At w8 (w5.heap.size) [] := by rw [← e9]; exact (MapOf.new objM w5).keep (cc3.block _ (by simp))
        have f5 : CrAt w8 bR dR (fun _ => false) := hR5.out.fresh cc2
        have f8 : CrAt w8 bB dB (fun _ => false) := hB8.out.fresh cc4
        have l2 : w9.heap.size ≤ w9.heap.size := by rw [← e2]; exact Nat.le_refl _
        have l9 : w9.heap.size ≤ w5.heap.size := by rw [← e9]; exact Nat.le_trans (Nat.le_trans (Nat.le_refl _) ((Below.refl _ w9).alloc (Nat.le_refl _) (.cells (madeCells #[.slice none 0 0, .int .i64 0, .slice none 0 0] (ts.length * 3)) PtT)).size) b5.size
        have l5 : w9.heap.size ≤ bR := Nat.le_trans (Nat.le_trans (Nat.le_refl _) ((Below.refl _ w9).alloc (Nat.le_refl _) (.cells (madeCells #[.slice none 0 0, .int .i64 0, .slice none 0 0] (ts.length * 3)) PtT)).size) lR
        have l8 : w9.heap.size ≤ bB := Nat.le_trans (Nat.le_trans (Nat.le_trans (Nat.le_trans (Nat.le_refl _) ((Below.refl _ w9).alloc (Nat.le_refl _) (.cells (madeCells #[.slice none 0 0, .int .i64 0, .slice none 0 0] (ts.length * 3)) PtT)).size) b5.size) ((Below.refl _ w5).alloc (Nat.le_refl _) (.map #[] 0)).size) lB
        have ne : bR ≠ bB := fun e => by have h1 := hR5.out.lt; have h2 : w5.heap.size ≤ (w5.alloc (.map #[] 0)).heap.size := Nat.le_trans (Nat.le_refl _) ((Below.refl _ w5).alloc (Nat.le_refl _) (.map #[] 0)).size; omega
        exact HREST.out (w9.heap.size) bR dR bB dB (w5.heap.size) (w8.heap.size) w8 rfl f2 f5 f8 f9 ne ⟨zR1, zR2⟩ ⟨zB1, zB2⟩ ⟨l2, l5, l8, l9⟩ cc0
    · go_simp
      refine hK.out _ _ ?_ (fun hHeld => ?_)
      · trivial
      clear hK K
      try simp only [Act.put, pu1, pu2, pu3]
      refine cl5 (by kernel_rfl) rfl (fun K hK => ?_)
      go_simp
      go_at_call 27
      refine (hcn ((w9.alloc (.cells (madeCells #[.slice none 0 0, .int .i64 0, .slice none 0 0] (ts.length * 3)) PtT)).alloc (.map #[] 0))).mono ?_
      rintro e w5 ⟨bR, dR, rfl, zR1, zR2, hR', lR, b5⟩
      have hR5 : Hid _ := hR'
      clear hR'
      refine hK.out _ _ ?_ (fun hHeld => ?_)
      · trivial
      clear hK K
      try simp only [Act.put, pu1, pu2, pu3]
      refine cl8 (by kernel_rfl) rfl (fun K hK => ?_)
      go_simp
      go_at_call 27
      refine (hcn w5).mono ?_
      rintro e w8 ⟨bB, dB, rfl, zB1, zB2, hB', lB, b8⟩
      have hB8 : Hid _ := hB'
      clear hB'
      refine hK.out _ _ ?_ (fun hHeld => ?_)
      · trivial
      clear hK K
      try simp only [Act.put, pu1, pu2, pu3]
      refine tk10 (.agg #[.slice (some ⟨w9.heap.size, 0, none⟩) ts.length ts.length, .slice (some ⟨bR, 0, none⟩) (2 * 2 ^ dR) (2 * 2 ^ dR), .slice (some ⟨bB, 0, none⟩) (2 * 2 ^ dB) (2 * 2 ^ dB), .map (some (w9.heap.size + 1))]) ?_ (fun w hSw => by (try dsimp only at hSw); clear hSw; go_simp)
      try simp only [Act.put, pu1, pu2, pu3]
      refine cl11 (by kernel_rfl) rfl (fun K hK => ?_)
      go_simp
      refine hK.out _ _ ?_ (fun hHeld => ?_)
      · trivial
      clear hK K
      try simp only [Act.put, pu1, pu2, pu3]
      refine tk12 (.pointer (some ⟨w8.heap.size, 0, none⟩)) ?_ (fun w hSw => by (try dsimp only at hSw); clear hSw; go_simp)
      try simp only [Act.put, pu1, pu2, pu3]
      refine wpAnyH_done (by kernel_rfl) ?_ _
      have cc4 : Below w8.heap.size w8 w8 := Below.refl _ _
      have cc3 : Below w5.heap.size w5 w8 := bmm b8 b8.size cc4
      have cc2 : Below ((w9.alloc (.cells (madeCells #[.slice none 0 0, .int .i64 0, .slice none 0 0] (ts.length * 3)) PtT)).alloc (.map #[] 0)).heap.size ((w9.alloc (.cells (madeCells #[.slice none 0 0, .int .i64 0, .slice none 0 0] (ts.length * 3)) PtT)).alloc (.map #[] 0)) w8 := bmm b5 b5.size cc3
      have cc1 : Below (w9.alloc (.cells (madeCells #[.slice none 0 0, .int .i64 0, .slice none 0 0] (ts.length * 3)) PtT)).heap.size (w9.alloc (.cells (madeCells #[.slice none 0 0, .int .i64 0, .slice none 0 0] (ts.length * 3)) PtT)) w8 := bmm ((Below.refl _ (w9.alloc (.cells (madeCells #[.slice none 0 0, .int .i64 0, .slice none 0 0] (ts.length * 3)) PtT))).alloc (Nat.le_refl _) (.map #[] 0)) ((Below.refl _ (w9.alloc (.cells (madeCells #[.slice none 0 0, .int .i64 0, .slice none 0 0] (ts.length * 3)) PtT))).alloc (Nat.le_refl _) (.map #[] 0)).size cc2
      have cc0 : Below w9.heap.size w9 w8 := bmm ((Below.refl _ w9).alloc (Nat.le_refl _) (.cells (madeCells #[.slice none 0 0, .int .i64 0, .slice none 0 0] (ts.length * 3)) PtT)) ((Below.refl _ w9).alloc (Nat.le_refl _) (.cells (madeCells #[.slice none 0 0, .int .i64 0, .slice none 0 0] (ts.length * 3)) PtT)).size cc1
      have e2 : w9.heap.size = w9.heap.size := rfl
      have e9 : (w9.alloc (.cells (madeCells #[.slice none 0 0, .int .i64 0, .slice none 0 0] (ts.length * 3)) PtT)).heap.size = w9.heap.size + 1 := by simp
      have f2 : w8.heap[w9.heap.size]? = some (.cells (madeCells #[.slice none 0 0, .int .i64 0, .slice none 0 0] (ts.length * 3)) PtT (0, 0)) := by rw [← e2]; exact (cc1.block _ (by simp)).trans (heap_alloc_new w9 _)
      have f9 : objM.At w8 (w9.heap.size + 1) [] := by rw [← e9]; exact (MapOf.new objM (w9.alloc (.cells (madeCells #[.slice none 0 0, .int .i64 0, .slice none 0 0] (ts.length * 3)) PtT))).keep (cc2.block _ (by simp))
      have f5 : CrAt w8 bR dR (fun _ => false) := hR5.out.fresh cc3
      have f8 : CrAt w8 bB dB (fun _ => false) := hB8.out.fresh cc4
      have l2 : w9.heap.size ≤ w9.heap.size := by rw [← e2]; exact Nat.le_refl _
      have l9 : w9.heap.size ≤ w9.heap.size + 1 := by rw [← e9]; exact Nat.le_trans (Nat.le_refl _) ((Below.refl _ w9).alloc (Nat.le_refl _) (.cells (madeCells #[.slice none 0 0, .int .i64 0, .slice none 0 0] (ts.length * 3)) PtT)).size
      have l5 : w9.heap.size ≤ bR := Nat.le_trans (Nat.le_trans (Nat.le_trans (Nat.le_refl _) ((Below.refl _ w9).alloc (Nat.le_refl _) (.cells (madeCells #[.slice none 0 0, .int .i64 0, .slice none 0 0] (ts.length * 3)) PtT)).size) ((Below.refl _ (w9.alloc (.cells (madeCells #[.slice none 0 0, .int .i64 0, .slice none 0 0] (ts.length * 3)) PtT))).alloc (Nat.le_refl _) (.map #[] 0)).size) lR
      have l8 : w9.heap.size ≤ bB := Nat.le_trans (Nat.le_trans (Nat.le_trans (Nat.le_trans (Nat.le_refl _) ((Below.refl _ w9).alloc (Nat.le_refl _) (.cells (madeCells #[.slice none 0 0, .int .i64 0, .slice none 0 0] (ts.length * 3)) PtT)).size) ((Below.refl _ (w9.alloc (.cells (madeCells #[.slice none 0 0, .int .i64 0, .slice none 0 0] (ts.length * 3)) PtT))).alloc (Nat.le_refl _) (.map #[] 0)).size) b5.size) lB
      have ne : bR ≠ bB := fun e => by have h1 := hR5.out.lt; have h2 : w5.heap.size ≤ w5.heap.size := Nat.le_refl _; omega
      exact HREST.out (w9.heap.size) bR dR bB dB (w9.heap.size + 1) (w8.heap.size) w8 rfl f2 f5 f8 f9 ne ⟨zR1, zR2⟩ ⟨zB1, zB2⟩ ⟨l2, l5, l8, l9⟩ cc0
  · go_simp
    go_at_call 27
    refine (hcn w9).mono ?_
    rintro e w5 ⟨bR, dR, rfl, zR1, zR2, hR', lR, b5⟩
    have hR5 : Hid _ := hR'
    clear hR'
    refine hK.out _ _ ?_ (fun hHeld => ?_)
    · trivial
    clear hK K
    try simp only [Act.put, pu1, pu2, pu3]
    refine rd2_8_9 (by kernel_rfl) rfl rfl rfl (fun K hK => ?_) (fun K hK => ?_) (fun K hK => ?_)
    · go_simp
      refine hK.out _ _ ?_ (fun hHeld => ?_)
      · trivial
      clear hK K
      try simp only [Act.put, pu1, pu2, pu3]
      refine rd8_9 (by kernel_rfl) rfl rfl (fun K hK => ?_) (fun K hK => ?_)
      · go_simp
        go_at_call 27
        refine (hcn (w5.alloc (.cells (madeCells #[.slice none 0 0, .int .i64 0, .slice none 0 0] (ts.length * 3)) PtT))).mono ?_
        rintro e w8 ⟨bB, dB, rfl, zB1, zB2, hB', lB, b8⟩
        have hB8 : Hid _ := hB'
        clear hB'
        refine hK.out _ _ ?_ (fun hHeld => ?_)
        · trivial
        clear hK K
        try simp only [Act.put, pu1, pu2, pu3]
        refine cl9 (by kernel_rfl) rfl (fun K hK => ?_)
        go_simp
        refine hK.out _ _ ?_ (fun hHeld => ?_)
        · trivial
        clear hK K
        try simp only [Act.put, pu1, pu2, pu3]
        refine tk10 (.agg #[.slice (some ⟨w5.heap.size, 0, none⟩) ts.length ts.length, .slice (some ⟨bR, 0, none⟩) (2 * 2 ^ dR) (2 * 2 ^ dR), .slice (some ⟨bB, 0, none⟩) (2 * 2 ^ dB) (2 * 2 ^ dB), .map (some (w8.heap.size))]) ?_ (fun w hSw => by (try dsimp only at hSw); clear hSw; go_simp)
        try simp only [Act.put, pu1, pu2, pu3]
        refine cl11 (by kernel_rfl) rfl (fun K hK => ?_)
        go_simp
        refine hK.out _ _ ?_ (fun hHeld => ?_)
        · trivial
        clear hK K
        try simp only [Act.put, pu1, pu2, pu3]
        refine tk12 (.pointer (some ⟨w8.heap.size + 1, 0, none⟩)) ?_ (fun w hSw => by (try dsimp only at hSw); clear hSw; go_simp)
        try simp only [Act.put, pu1, pu2, pu3]
        refine wpAnyH_done (by kernel_rfl) ?_ _
        have cc4 : Below (w8.alloc (.map #[] 0)).heap.size (w8.alloc (.map #[] 0)) (w8.alloc (.map #[] 0)) := Below.refl _ _
        have cc3 : Below w8.heap.size w8 (w8.alloc (.map #[] 0)) := bmm ((Below.refl _ w8).alloc (Nat.le_refl _) (.map #[] 0)) ((Below.refl _ w8).alloc (Nat.le_refl _) (.map #[] 0)).size cc4
        have cc2 : Below (w5.alloc (.cells (madeCells #[.slice none 0 0, .int .i64 0, .slice none 0 0] (ts.length * 3)) PtT)).heap.size (w5.alloc (.cells (madeCells #[.slice none 0 0, .int .i64 0, .slice none 0 0] (ts.length * 3)) PtT)) (w8.alloc (.map #[] 0)) := bmm b8 b8.size cc3
        have cc1 : Below w5.heap.size w5 (w8.alloc (.map #[] 0)) := bmm ((Below.refl _ w5).alloc (Nat.le_refl _) (.cells (madeCells #[.slice none 0 0, .int .i64 0, .slice none 0 0] (ts.length * 3)) PtT)) ((Below.refl _ w5).alloc (Nat.le_refl _) (.cells (madeCells #[.slice none 0 0, .int .i64 0, .slice none 0 0] (ts.length * 3)) PtT)).size cc2
        have cc0 : Below w9.heap.size w9 (w8.alloc (.map #[] 0)) := bmm b5 b5.size cc1
        have e2 : w5.heap.size = w5.heap.size := rfl
        have e9 : w8.heap.size = w8.heap.size := rfl
        have f2 : (w8.alloc (.map #[] 0)).heap[w5.heap.size]? = some (.cells (madeCells #[.slice none 0 0, .int .i64 0, .slice none 0 0] (ts.length * 3)) PtT (0, 0)) := by rw [← e2]; exact (cc2.block _ (by simp)).trans (heap_alloc_new w5 _)
        have f9 : objM.At (w8.alloc (.map #[] 0)) (w8.heap.size) [] := by rw [← e9]; exact (MapOf.new objM w8).keep (cc4.block _ (by simp))
        have f5 : CrAt (w8.alloc (.map #[] 0)) bR dR (fun _ => false) := hR5.out.fresh cc1
        have f8 : CrAt (w8.alloc (.map #[] 0)) bB dB (fun _ => false) := hB8.out.fresh cc3
        have l2 : w9.heap.size ≤ w5.heap.size := by rw [← e2]; exact Nat.le_trans (Nat.le_refl _) b5.size
        have l9 : w9.heap.size ≤ w8.heap.size := by rw [← e9]; exact Nat.le_trans (Nat.le_trans (Nat.le_trans (Nat.le_refl _) b5.size) ((Below.refl _ w5).alloc (Nat.le_refl _) (.cells (madeCells #[.slice none 0 0, .int .i64 0, .slice none 0 0] (ts.length * 3)) PtT)).size) b8.size
        have l5 : w9.heap.size ≤ bR := Nat.le_trans (Nat.le_refl _) lR
        have l8 : w9.heap.size ≤ bB := Nat.le_trans (Nat.le_trans (Nat.le_trans (Nat.le_refl _) b5.size) ((Below.refl _ w5).alloc (Nat.le_refl _) (.cells (madeCells #[.slice none 0 0, .int .i64 0, .slice none 0 0] (ts.length * 3)) PtT)).size) lB
        have ne : bR ≠ bB := fun e => by have h1 := hR5.out.lt; have h2 : w5.heap.size ≤ (w5.alloc (.cells (madeCells #[.slice none 0 0, .int .i64 0, .slice none 0 0] (ts.length * 3)) PtT)).heap.size := Nat.le_trans (Nat.le_refl _) ((Below.refl _ w5).alloc (Nat.le_refl _) (.cells (madeCells #[.slice none 0 0, .int .i64 0, .slice none 0 0] (ts.length * 3)) PtT)).size; omega
        exact HREST.out (w5.heap.size) bR dR bB dB (w8.heap.size) (w8.heap.size + 1) (w8.alloc (.map #[] 0)) (by simp) f2 f5 f8 f9 ne ⟨zR1, zR2⟩ ⟨zB1, zB2⟩ ⟨l2, l5, l8, l9⟩ cc0
      · go_simp
        refine hK.out _ _ ?_ (fun hHeld => ?_)
        · trivial
        clear hK K
        try simp only [Act.put, pu1, pu2, pu3]
        refine cl8 (by kernel_rfl) rfl (fun K hK => ?_)
        go_simp
        go_at_call 27
        refine (hcn ((w5.alloc (.cells (madeCells #[.slice none 0 0, .int .i64 0, .slice none 0 0] (ts.length * 3)) PtT)).alloc (.map #[] 0))).mono ?_
        rintro e w8 ⟨bB, dB, rfl, zB1, zB2, hB', lB, b8⟩
        have hB8 : Hid _ := hB'
        clear hB'
        refine hK.out _ _ ?_ (fun hHeld => ?_)
        · trivial
        clear hK K
        try simp only [Act.put, pu1, pu2, pu3]
        refine tk10 (.agg #[.slice (some ⟨w5.heap.size, 0, none⟩) ts.length ts.length, .slice (some ⟨bR, 0, none⟩) (2 * 2 ^ dR) (2 * 2 ^ dR), .slice (some ⟨bB, 0, none⟩) (2 * 2 ^ dB) (2 * 2 ^ dB), .map (some (w5.heap.size + 1))]) ?_ (fun w hSw => by (try dsimp only at hSw); clear hSw; go_simp)
        try simp only [Act.put, pu1, pu2, pu3]
        refine cl11 (by kernel_rfl) rfl (fun K hK => ?_)
        go_simp
        refine hK.out _ _ ?_ (fun hHeld => ?_)
        · trivial
        clear hK K
        try simp only [Act.put, pu1, pu2, pu3]
        refine tk12 (.pointer (some ⟨w8.heap.size, 0, none⟩)) ?_ (fun w hSw => by (try dsimp only at hSw); clear hSw; go_simp)
        try simp only [Act.put, pu1, pu2, pu3]
        refine wpAnyH_done (by kernel_rfl) ?_ _
        have cc4 : Below w8.heap.size w8 w8 := Below.refl _ _
        have cc3 : Below ((w5.alloc (.cells (madeCells #[.slice none 0 0, .int .i64 0, .slice none 0 0] (ts.length * 3)) PtT)).alloc (.map #[] 0)).heap.size ((w5.alloc (.cells (madeCells #[.slice none 0 0, .int .i64 0, .slice none 0 0] (ts.length * 3)) PtT)).alloc (.map #[] 0)) w8 := bmm b8 b8.size cc4
        have cc2 : Below (w5.alloc (.cells (madeCells #[.slice none 0 0, .int .i64 0, .slice none 0 0] (ts.length * 3)) PtT)).heap.size (w5.alloc (.cells (madeCells #[.slice none 0 0, .int .i64 0, .slice none 0 0] (ts.length * 3)) PtT)) w8 := bmm ((Below.refl _ (w5.alloc (.cells (madeCells #[.slice none 0 0, .int .i64 0, .slice none 0 0] (ts.length * 3)) PtT))).alloc (Nat.le_refl _) (.map #[] 0)) ((Below.refl _ (w5.alloc (.cells (madeCells #[.slice none 0 0, .int .i64 0, .slice none 0 0] (ts.length * 3)) PtT))).alloc (Nat.le_refl _) (.map #[] 0)).size cc3
        have cc1 : Below w5.heap.size w5 w8 := bmm ((Below.refl _ w5).alloc (Nat.le_refl _) (.cells (madeCells #[.slice none 0 0, .int .i64 0, .slice none 0 0] (ts.length * 3)) PtT)) ((Below.refl _ w5).alloc (Nat.le_refl _) (.cells (madeCells #[.slice none 0 0, .int .i64 0, .slice none 0 0] (ts.length * 3)) PtT)).size cc2
        have cc0 : Below w9.heap.size w9 w8 := bmm b5 b5.size cc1
        have e2 : w5.heap.size = w5.heap.size := rfl
        have e9 : (w5.alloc (.cells (madeCells #[.slice none 0 0, .int .i64 0, .slice none 0 0] (ts.length * 3)) PtT)).heap.size = w5.heap.size + 1 := by simp
        have f2 : w8.heap[w5.heap.size]? = some (.cells (madeCells #[.slice none 0 0, .int .i64 0, .slice none 0 0] (ts.length * 3)) PtT (0, 0)) := by rw [← e2]; exact (cc2.block _ (by simp)).trans (heap_alloc_new w5 _)
        have f9 : objM.At w8 (w5.heap.size + 1) [] := by rw [← e9]; exact (MapOf.new objM (w5.alloc (.cells (madeCells #[.slice none 0 0, .int .i64 0, .slice none 0 0] (ts.length * 3)) PtT))).keep (cc3.block _ (by simp))
        have f5 : CrAt w8 bR dR (fun _ => false) := hR5.out.fresh cc1
        have f8 : CrAt w8 bB dB (fun _ => false) := hB8.out.fresh cc4
        have l2 : w9.heap.size ≤ w5.heap.size := by rw [← e2]; exact Nat.le_trans (Nat.le_refl _) b5.size
        have l9 : w9.heap.size ≤ w5.heap.size + 1 := by rw [← e9]; exact Nat.le_trans (Nat.le_trans (Nat.le_refl _) b5.size) ((Below.refl _ w5).alloc (Nat.le_refl _) (.cells (madeCells #[.slice none 0 0, .int .i64 0, .slice none 0 0] (ts.length * 3)) PtT)).size
        have l5 : w9.heap.size ≤ bR := Nat.le_trans (Nat.le_refl _) lR
        have l8 : w9.heap.size ≤ bB := Nat.le_trans (Nat.le_trans (Nat.le_trans (Nat.le_trans (Nat.le_refl _) b5.size) ((Below.refl _ w5).alloc (Nat.le_refl _) (.cells (madeCells #[.slice none 0 0, .int .i64 0, .slice none 0 0] (ts.length * 3)) PtT)).size) ((Below.refl _ (w5.alloc (.cells (madeCells #[.slice none 0 0, .int .i64 0, .slice none 0 0] (ts.length * 3)) PtT))).alloc (Nat.le_refl _) (.map #[] 0)).size) lB
        have ne : bR ≠ bB := fun e => by have h1 := hR5.out.lt; have h2 : w5.heap.size ≤ ((w5.alloc (.cells (madeCells #[.slice none 0 0, .int .i64 0, .slice none 0 0] (ts.length * 3)) PtT)).alloc (.map #[] 0)).heap.size := Nat.le_trans (Nat.le_trans (Nat.le_refl _) ((Below.refl _ w5).alloc (Nat.le_refl _) (.cells (madeCells #[.slice none 0 0, .int .i64 0, .slice none 0 0] (ts.length * 3)) PtT)).size) ((Below.refl _ (w5.alloc (.cells (madeCells #[.slice none 0 0, .int .i64 0, .slice none 0 0] (ts.length * 3)) PtT))).alloc (Nat.le_refl _) (.map #[] 0)).size; omega
        exact HREST.out (w5.heap.size) bR dR bB dB (w5.heap.size + 1) (w8.heap.size) w8 rfl f2 f5 f8 f9 ne ⟨zR1, zR2⟩ ⟨zB1, zB2⟩ ⟨l2, l5, l8, l9⟩ cc0
    · go_simp
      go_at_call 27
      refine (hcn w5).mono ?_
      rintro e w8 ⟨bB, dB, rfl, zB1, zB2, hB', lB, b8⟩
      have hB8 : Hid _ := hB'
      clear hB'
      refine hK.out _ _ ?_ (fun hHeld => ?_)
      · trivial
      clear hK K
      try simp only [Act.put, pu1, pu2, pu3]
      refine rd2_9 (by kernel_rfl) rfl rfl (fun K hK => ?_) (fun K hK => ?_)
      · go_simp
        refine hK.out _ _ ?_ (fun hHeld => ?_)
        · trivial
        clear hK K
        try simp only [Act.put, pu1, pu2, pu3]
        refine cl9 (by kernel_rfl) rfl (fun K hK => ?_)
        go_simp
        refine hK.out _ _ ?_ (fun hHeld => ?_)
        · trivial
        clear hK K
        try simp only [Act.put, pu1, pu2, pu3]
        refine tk10 (.agg #[.slice (some ⟨w8.heap.size, 0, none⟩) ts.length ts.length, .slice (some ⟨bR, 0, none⟩) (2 * 2 ^ dR) (2 * 2 ^ dR), .slice (some ⟨bB, 0, none⟩) (2 * 2 ^ dB) (2 * 2 ^ dB), .map (some (w8.heap.size + 1))]) ?_ (fun w hSw => by (try dsimp only at hSw); clear hSw; go_simp)
        try simp only [Act.put, pu1, pu2, pu3]
        refine cl11 (by kernel_rfl) rfl (fun K hK => ?_)
        go_simp
        refine hK.out _ _ ?_ (fun hHeld => ?_)
        · trivial
        clear hK K
        try simp only [Act.put, pu1, pu2, pu3]
        refine tk12 (.pointer (some ⟨w8.heap.size + 2, 0, none⟩)) ?_ (fun w hSw => by (try dsimp only at hSw); clear hSw; go_simp)
        try simp only [Act.put, pu1, pu2, pu3]
        refine wpAnyH_done (by kernel_rfl) ?_ _
        have cc4 : Below ((w8.alloc (.cells (madeCells #[.slice none 0 0, .int .i64 0, .slice none 0 0] (ts.length * 3)) PtT)).alloc (.map #[] 0)).heap.size ((w8.alloc (.cells (madeCells #[.slice none 0 0, .int .i64 0, .slice none 0 0] (ts.length * 3)) PtT)).alloc (.map #[] 0)) ((w8.alloc (.cells (madeCells #[.slice none 0 0, .int .i64 0, .slice none 0 0] (ts.length * 3)) PtT)).alloc (.map #[] 0)) := Below.refl _ _
        have cc3 : Below (w8.alloc (.cells (madeCells #[.slice none 0 0, .int .i64 0, .slice none 0 0] (ts.length * 3)) PtT)).heap.size (w8.alloc (.cells (madeCells #[.slice none 0 0, .int .i64 0, .slice none 0 0] (ts.length * 3)) PtT)) ((w8.alloc (.cells (madeCells #[.slice none 0 0, .int .i64 0, .slice none 0 0] (ts.length * 3)) PtT)).alloc (.map #[] 0)) := bmm ((Below.refl _ (w8.alloc (.cells (madeCells #[.slice none 0 0, .int .i64 0, .slice none 0 0] (ts.length * 3)) PtT))).alloc (Nat.le_refl _) (.map #[] 0)) ((Below.refl _ (w8.alloc (.cells (madeCells #[.slice none 0 0, .int .i64 0, .slice none 0 0] (ts.length * 3)) PtT))).alloc (Nat.le_refl _) (.map #[] 0)).size cc4
        have cc2 : Below w8.heap.size w8 ((w8.alloc (.cells (madeCells #[.slice none 0 0, .int .i64 0, .slice none 0 0] (ts.length * 3)) PtT)).alloc (.map #[] 0)) := bmm ((Below.refl _ w8).alloc (Nat.le_refl _) (.cells (madeCells #[.slice none 0 0, .int .i64 0, .slice none 0 0] (ts.length * 3)) PtT)) ((Below.refl _ w8).alloc (Nat.le_refl _) (.cells (madeCells #[.slice none 0 0, .int .i64 0, .slice none 0 0] (ts.length * 3)) PtT)).size cc3
        have cc1 : Below w5.heap.size w5 ((w8.alloc (.cells (madeCells #[.slice none 0 0, .int .i64 0, .slice none 0 0] (ts.length * 3)) PtT)).alloc (.map #[] 0)) := bmm b8 b8.size cc2
        have cc0 : Below w9.heap.size w9 ((w8.alloc (.cells (madeCells #[.slice none 0 0, .int .i64 0, .slice none 0 0] (ts.length * 3)) PtT)).alloc (.map #[] 0)) := bmm b5 b5.size cc1
        have e2 : w8.heap.size = w8.heap.size := rfl
        have e9 : (w8.alloc (.cells (madeCells #[.slice none 0 0, .int .i64 0, .slice none 0 0] (ts.length * 3)) PtT)).heap.size = w8.heap.size + 1 := by simp
        have f2 : ((w8.alloc (.cells (madeCells #[.slice none 0 0, .int .i64 0, .slice none 0 0] (ts.length * 3)) PtT)).alloc (.map #[] 0)).heap[w8.heap.size]? = some (.cells (madeCells #[.slice none 0 0, .int .i64 0, .slice none 0 0] (ts.length * 3)) PtT (0, 0)) := by rw [← e2]; exact (cc3.block _ (by simp)).trans (heap_alloc_new w8 _)
        have f9 : objM.At ((w8.alloc (.cells (madeCells #[.slice none 0 0, .int .i64 0, .slice none 0 0] (ts.length * 3)) PtT)).alloc (.map #[] 0)) (w8.heap.size + 1) [] := by rw [← e9]; exact (MapOf.new objM (w8.alloc (.cells (madeCells #[.slice none 0 0, .int .i64 0, .slice none 0 0] (ts.length * 3)) PtT))).keep (cc4.block _ (by simp))
        have f5 : CrAt ((w8.alloc (.cells (madeCells #[.slice none 0 0, .int .i64 0, .slice none 0 0] (ts.length * 3)) PtT)).alloc (.map #[] 0)) bR dR (fun _ => false) := hR5.out.fresh cc1
        have f8 : CrAt ((w8.alloc (.cells (madeCells #[.slice none 0 0, .int .i64 0, .slice none 0 0] (ts.length * 3)) PtT)).alloc (.map #[] 0)) bB dB (fun _ => false) := hB8.out.fresh cc2
        have l2 : w9.heap.size ≤ w8.heap.size := by rw [← e2]; exact Nat.le_trans (Nat.le_trans (Nat.le_refl _) b5.size) b8.size
        have l9 : w9.heap.size ≤ w8.heap.size + 1 := by rw [← e9]; exact Nat.le_trans (Nat.le_trans (Nat.le_trans (Nat.le_refl _) b5.size) b8.size) ((Below.refl _ w8).alloc (Nat.le_refl _) (.cells (madeCells #[.slice none 0 0, .int .i64 0, .slice none 0 0] (ts.length * 3)) PtT)).size
        have l5 : w9.heap.size ≤ bR := Nat.le_trans (Nat.le_refl _) lR
        have l8 : w9.heap.size ≤ bB := Nat.le_trans (Nat.le_trans (Nat.le_refl _) b5.size) lB
        have ne : bR ≠ bB := fun e => by have h1 := hR5.out.lt; have h2 : w5.heap.size ≤ w5.heap.size := Nat.le_refl _; omega
        exact HREST.out (w8.heap.size) bR dR bB dB (w8.heap.size + 1) (w8.heap.size + 2) ((w8.alloc (.cells (madeCells #[.slice none 0 0, .int .i64 0, .slice none 0 0] (ts.length * 3)) PtT)).alloc (.map #[] 0)) (by simp) f2 f5 f8 f9 ne ⟨zR1, zR2⟩ ⟨zB1, zB2⟩ ⟨l2, l5, l8, l9⟩ cc0
      · go_simp
        refine hK.out _ _ ?_ (fun hHeld => ?_)
        · trivial
        clear hK K
        try simp only [Act.put, pu1, pu2, pu3]
        refine cl2 (by kernel_rfl) rfl (fun K hK => ?_)
        go_simp
        refine hK.out _ _ ?_ (fun hHeld => ?_)
        · trivial
        clear hK K
        try simp only [Act.put, pu1, pu2, pu3]
        refine tk10 (.agg #[.slice (some ⟨w8.heap.size + 1, 0, none⟩) ts.length ts.length, .slice (some ⟨bR, 0, none⟩) (2 * 2 ^ dR) (2 * 2 ^ dR), .slice (some ⟨bB, 0, none⟩) (2 * 2 ^ dB) (2 * 2 ^ dB), .map (some (w8.heap.size))]) ?_ (fun w hSw => by (try dsimp only at hSw); clear hSw; go_simp)
        try simp only [Act.put, pu1, pu2, pu3]
        refine cl11 (by kernel_rfl) rfl (fun K hK => ?_)
        go_simp
        refine hK.out _ _ ?_ (fun hHeld => ?_)
        · trivial
        clear hK K
        try simp only [Act.put, pu1, pu2, pu3]
        refine tk12 (.pointer (some ⟨w8.heap.size + 2, 0, none⟩)) ?_ (fun w hSw => by (try dsimp only at hSw); clear hSw; go_simp)
        try simp only [Act.put, pu1, pu2, pu3]
        refine wpAnyH_done (by kernel_rfl) ?_ _
        have cc4 : Below ((w8.alloc (.map #[] 0)).alloc (.cells (madeCells #[.slice none 0 0, .int .i64 0, .slice none 0 0] (ts.length * 3)) PtT)).heap.size ((w8.alloc (.map #[] 0)).alloc (.cells (madeCells #[.slice none 0 0, .int .i64 0, .slice none 0 0] (ts.length * 3)) PtT)) ((w8.alloc (.map #[] 0)).alloc (.cells (madeCells #[.slice none 0 0, .int .i64 0, .slice none 0 0] (ts.length * 3)) PtT)) := Below.refl _ _
        have cc3 : Below (w8.alloc (.map #[] 0)).heap.size (w8.alloc (.map #[] 0)) ((w8.alloc (.map #[] 0)).alloc (.cells (madeCells #[.slice none 0 0, .int .i64 0, .slice none 0 0] (ts.length * 3)) PtT)) := bmm ((Below.refl _ (w8.alloc (.map #[] 0))).alloc (Nat.le_refl _) (.cells (madeCells #[.slice none 0 0, .int .i64 0, .slice none 0 0] (ts.length * 3)) PtT)) ((Below.refl _ (w8.alloc (.map #[] 0))).alloc (Nat.le_refl _) (.cells (madeCells #[.slice none 0 0, .int .i64 0, .slice none 0 0] (ts.length * 3)) PtT)).size cc4
        have cc2 : Below w8.heap.size w8 ((w8.alloc (.map #[] 0)).alloc (.cells (madeCells #[.slice none 0 0, .int .i64 0, .slice none 0 0] (ts.length * 3)) PtT)) := bmm ((Below.refl _ w8).alloc (Nat.le_refl _) (.map #[] 0)) ((Below.refl _ w8).alloc (Nat.le_refl _) (.map #[] 0)).size cc3
        have cc1 : Below w5.heap.size w5 ((w8.alloc (.map #[] 0)).alloc (.cells (madeCells #[.slice none 0 0, .int .i64 0, .slice none 0 0] (ts.length * 3)) PtT)) := bmm b8 b8.size cc2
        have cc0 : Below w9.heap.size w9 ((w8.alloc (.map #[] 0)).alloc (.cells (madeCells #[.slice none 0 0, .int .i64 0, .slice none 0 0] (ts.length * 3)) PtT)) := bmm b5 b5.size cc1
        have e2 : (w8.alloc (.map #[] 0)).heap.size = w8.heap.size + 1 := by simp
        have e9 : w8.heap.size = w8.heap.size := rfl
        have f2 : ((w8.alloc (.map #[] 0)).alloc (.cells (madeCells #[.slice none 0 0, .int .i64 0, .slice none 0 0] (ts.length * 3)) PtT)).heap[w8.heap.size + 1]? = some (.cells (madeCells #[.slice none 0 0, .int .i64 0, .slice none 0 0] (ts.length * 3)) PtT (0, 0)) := by rw [← e2]; exact (cc4.block _ (by simp)).trans (heap_alloc_new (w8.alloc (.map #[] 0)) _)
        have f9 : objM.At ((w8.alloc (.map #[] 0)).alloc (.cells (madeCells #[.slice none 0 0, .int .i64 0, .slice none 0 0] (ts.length * 3)) PtT)) (w8.heap.size) [] := by rw [← e9]; exact (MapOf.new objM w8).keep (cc3.block _ (by simp))
        have f5 : CrAt ((w8.alloc (.map #[] 0)).alloc (.cells (madeCells #[.slice none 0 0, .int .i64 0, .slice none 0 0] (ts.length * 3)) PtT)) bR dR (fun _ => false) := hR5.out.fresh cc1
        have f8 : CrAt ((w8.alloc (.map #[] 0)).alloc (.cells (madeCells #[.slice none 0 0, .int .i64 0, .slice none 0 0] (ts.length * 3)) PtT)) bB dB (fun _ => false) := hB8.out.fresh cc2
        have l2 : w9.heap.size ≤ w8.heap.size + 1 := by rw [← e2]; exact Nat.le_trans (Nat.le_trans (Nat.le_trans (Nat.le_refl _) b5.size) b8.size) ((Below.refl _ w8).alloc (Nat.le_refl _) (.map #[] 0)).size
        have l9 : w9.heap.size ≤ w8.heap.size := by rw [← e9]; exact Nat.le_trans (Nat.le_trans (Nat.le_refl _) b5.size) b8.size
        have l5 : w9.heap.size ≤ bR := Nat.le_trans (Nat.le_refl _) lR
        have l8 : w9.heap.size ≤ bB := Nat.le_trans (Nat.le_trans (Nat.le_refl _) b5.size) lB
        have ne : bR ≠ bB := fun e => by have h1 := hR5.out.lt; have h2 : w5.heap.size ≤ w5.heap.size := Nat.le_refl _; omega
        exact HREST.out (w8.heap.size + 1) bR dR bB dB (w8.heap.size) (w8.heap.size + 2) ((w8.alloc (.map #[] 0)).alloc (.cells (madeCells #[.slice none 0 0, .int .i64 0, .slice none 0 0] (ts.length * 3)) PtT)) (by simp) f2 f5 f8 f9 ne ⟨zR1, zR2⟩ ⟨zB1, zB2⟩ ⟨l2, l5, l8, l9⟩ cc0
    · go_simp
      refine hK.out _ _ ?_ (fun hHeld => ?_)
      · trivial
      clear hK K
      try simp only [Act.put, pu1, pu2, pu3]
      refine rd2_8 (by kernel_rfl) rfl rfl (fun K hK => ?_) (fun K hK => ?_)
      · go_simp
        refine hK.out _ _ ?_ (fun hHeld => ?_)
        · trivial
        clear hK K
        try simp only [Act.put, pu1, pu2, pu3]
        refine cl8 (by kernel_rfl) rfl (fun K hK => ?_)
        go_simp
        go_at_call 27
        refine (hcn ((w5.alloc (.map #[] 0)).alloc (.cells (madeCells #[.slice none 0 0, .int .i64 0, .slice none 0 0] (ts.length * 3)) PtT))).mono ?_
        rintro e w8 ⟨bB, dB, rfl, zB1, zB2, hB', lB, b8⟩
        have hB8 : Hid _ := hB'
        clear hB'
        refine hK.out _ _ ?_ (fun hHeld => ?_)
        · trivial
        clear hK K
        try simp only [Act.put, pu1, pu2, pu3]
        refine tk10 (.agg #[.slice (some ⟨w5.heap.size + 1, 0, none⟩) ts.length ts.length, .slice (some ⟨bR, 0, none⟩) (2 * 2 ^ dR) (2 * 2 ^ dR), .slice (some ⟨bB, 0, none⟩) (2 * 2 ^ dB) (2 * 2 ^ dB), .map (some (w5.heap.size))]) ?_ (fun w hSw => by (try dsimp only at hSw); clear hSw; go_simp)
        try simp only [Act.put, pu1, pu2, pu3]
        refine cl11 (by kernel_rfl) rfl (fun K hK => ?_)
        go_simp
        refine hK.out _ _ ?_ (fun hHeld => ?_)
        · trivial
        clear hK K
        try simp only [Act.put, pu1, pu2, pu3]
        refine tk12 (.pointer (some ⟨w8.heap.size, 0, none⟩)) ?_ (fun w hSw => by (try dsimp only at hSw); clear hSw; go_simp)
        try simp only [Act.put, pu1, pu2, pu3]
        refine wpAnyH_done (by kernel_rfl) ?_ _
        have cc4 : Below w8.heap.size w8 w8 := Below.refl _ _
        have cc3 : Below ((w5.alloc (.map #[] 0)).alloc (.cells (madeCells #[.slice none 0 0, .int .i64 0, .slice none 0 0] (ts.length * 3)) PtT)).heap.size ((w5.alloc (.map #[] 0)).alloc (.cells (madeCells #[.slice none 0 0, .int .i64 0, .slice none 0 0] (ts.length * 3)) PtT)) w8 := bmm b8 b8.size cc4
        have cc2 : Below (w5.alloc (.map #[] 0)).heap.size (w5.alloc (.map #[] 0)) w8 := bmm ((Below.refl _ (w5.alloc (.map #[] 0))).alloc (Nat.le_refl _) (.cells (madeCells #[.slice none 0 0, .int .i64 0, .slice none 0 0] (ts.length * 3)) PtT)) ((Below.refl _ (w5.alloc (.map #[] 0))).alloc (Nat.le_refl _) (.cells (madeCells #[.slice none 0 0, .int .i64 0, .slice none 0 0] (ts.length * 3)) PtT)).size cc3
        have cc1 : Below w5.heap.size w5 w8 := bmm ((Below.refl _ w5).alloc (Nat.le_refl _) (.map #[] 0)) ((Below.refl _ w5).alloc (Nat.le_refl _) (.map #[] 0)).size cc2
        have cc0 : Below w9.heap.size w9 w8 := bmm b5 b5.size cc1
        have e2 : (w5.alloc (.map #[] 0)).heap.size = w5.heap.size + 1 := by simp
        have e9 : w5.heap.size = w5.heap.size := rfl
        have f2 : w8.heap[w5.heap.size + 1]? = some (.cells (madeCells #[.slice none 0 0, .int .i64 0, .slice none 0 0] (ts.length * 3)) PtT (0, 0)) := by rw [← e2]; exact (cc3.block _ (by simp)).trans (heap_alloc_new (w5.alloc (.map #[] 0)) _)
        have f9 : objM.At w8 (w5.heap.size) [] := by rw [← e9]; exact (MapOf.new objM w5).keep (cc2.block _ (by simp))
        have f5 : CrAt w8 bR dR (fun _ => false) := hR5.out.fresh cc1
        have f8 : CrAt w8 bB dB (fun _ => false) := hB8.out.fresh cc4
        have l2 : w9.heap.size ≤ w5.heap.size + 1 := by rw [← e2]; exact Nat.le_trans (Nat.le_trans (Nat.le_refl _) b5.size) ((Below.refl _ w5).alloc (Nat.le_refl _) (.map #[] 0)).size
        have l9 : w9.heap.size ≤ w5.heap.size := by rw [← e9]; exact Nat.le_trans (Nat.le_refl _) b5.size
        have l5 : w9.heap.size ≤ bR := Nat.le_trans (Nat.le_refl _) lR
        have l8 : w9.heap.size ≤ bB := Nat.le_trans (Nat.le_trans (Nat.le_trans (Nat.le_trans (Nat.le_refl _) b5.size) ((Below.refl _ w5).alloc (Nat.le_refl _) (.map #[] 0)).size) ((Below.refl _ (w5.alloc (.map #[] 0))).alloc (Nat.le_refl _) (.cells (madeCells #[.slice none 0 0, .int .i64 0, .slice none 0 0] (ts.length * 3)) PtT)).size) lB
        have ne : bR ≠ bB := fun e => by have h1 := hR5.out.lt; have h2 : w5.heap.size ≤ ((w5.alloc (.map #[] 0)).alloc (.cells (madeCells #[.slice none 0 0, .int .i64 0, .slice none 0 0] (ts.length * 3)) PtT)).heap.size := Nat.le_trans (Nat.le_trans (Nat.le_refl _) ((Below.refl _ w5).alloc (Nat.le_refl _) (.map #[] 0)).size) ((Below.refl _ (w5.alloc (.map #[] 0))).alloc (Nat.le_refl _) (.cells (madeCells #[.slice none 0 0, .int .i64 0, .slice none 0 0] (ts.length * 3)) PtT)).size; omega
        exact HREST.out (w5.heap.size + 1) bR dR bB dB (w5.heap.size) (w8.heap.size) w8 rfl f2 f5 f8 f9 ne ⟨zR1, zR2⟩ ⟨zB1, zB2⟩ ⟨l2, l5, l8, l9⟩ cc0
      · go_simp
        go_at_call 27
        refine (hcn (w5.alloc (.map #[] 0))).mono ?_
        rintro e w8 ⟨bB, dB, rfl, zB1, zB2, hB', lB, b8⟩
        have hB8 : Hid _ := hB'
        clear hB'
        refine hK.out _ _ ?_ (fun hHeld => ?_)
        · trivial
        clear hK K
        try simp only [Act.put, pu1, pu2, pu3]
        refine cl2 (by kernel_rfl) rfl (fun K hK => ?_)
        go_simp
        refine hK.out _ _ ?_ (fun hHeld => ?_)
        · trivial
        clear hK K
        try simp only [Act.put, pu1, pu2, pu3]
        refine tk10 (.agg #[.slice (some ⟨w8.heap.size, 0, none⟩) ts.length ts.length, .slice (some ⟨bR, 0, none⟩) (2 * 2 ^ dR) (2 * 2 ^ dR), .slice (some ⟨bB, 0, none⟩) (2 * 2 ^ dB) (2 * 2 ^ dB), .map (some (w5.heap.size))]) ?_ (fun w hSw => by (try dsimp only at hSw); clear hSw; go_simp)
        try simp only [Act.put, pu1, pu2, pu3]
        refine cl11 (by kernel_rfl) rfl (fun K hK => ?_)
        go_simp
        refine hK.out _ _ ?_ (fun hHeld => ?_)
        · trivial
        clear hK K
        try simp only [Act.put, pu1, pu2, pu3]
        refine tk12 (.pointer (some ⟨w8.heap.size + 1, 0, none⟩)) ?_ (fun w hSw => by (try dsimp only at hSw); clear hSw; go_simp)
        try simp only [Act.put, pu1, pu2, pu3]
        refine wpAnyH_done (by kernel_rfl) ?_ _
        have cc4 : Below (w8.alloc (.cells (madeCells #[.slice none 0 0, .int .i64 0, .slice none 0 0] (ts.length * 3)) PtT)).heap.size (w8.alloc (.cells (madeCells #[.slice none 0 0, .int .i64 0, .slice none 0 0] (ts.length * 3)) PtT)) (w8.alloc (.cells (madeCells #[.slice none 0 0, .int .i64 0, .slice none 0 0] (ts.length * 3)) PtT)) := Below.refl _ _
        have cc3 : Below w8.heap.size w8 (w8.alloc (.cells (madeCells #[.slice none 0 0, .int .i64 0, .slice none 0 0] (ts.length * 3)) PtT)) := bmm ((Below.refl _ w8).alloc (Nat.le_refl _) (.cells (madeCells #[.slice none 0 0, .int .i64 0, .slice none 0 0] (ts.length * 3)) PtT)) ((Below.refl _ w8).alloc (Nat.le_refl _) (.cells (madeCells #[.slice none 0 0, .int .i64 0, .slice none 0 0] (ts.length * 3)) PtT)).size cc4
        have cc2 : Below (w5.alloc (.map #[] 0)).heap.size (w5.alloc (.map #[] 0)) (w8.alloc (.cells (madeCells #[.slice none 0 0, .int .i64 0, .slice none 0 0] (ts.length * 3)) PtT)) := bmm b8 b8.size cc3
        have cc1 : Below w5.heap.size w5 (w8.alloc (.cells (madeCells #[.slice none 0 0, .int .i64 0, .slice none 0 0] (ts.length * 3)) PtT)) := bmm ((Below.refl _ w5).alloc (Nat.le_refl _) (.map #[] 0)) ((Below.refl _ w5).alloc (Nat.le_refl _) (.map #[] 0)).size cc2
        have cc0 : Below w9.heap.size w9 (w8.alloc (.cells (madeCells #[.slice none 0 0, .int .i64 0, .slice none 0 0] (ts.length * 3)) PtT)) := bmm b5 b5.size cc1
        have e2 : w8.heap.size = w8.heap.size := rfl
        have e9 : w5.heap.size = w5.heap.size := rfl
        have f2 : (w8.alloc (.cells (madeCells #[.slice none 0 0, .int .i64 0, .slice none 0 0] (ts.length * 3)) PtT)).heap[w8.heap.size]? = some (.cells (madeCells #[.slice none 0 0, .int .i64 0, .slice none 0 0] (ts.length * 3)) PtT (0, 0)) := by rw [← e2]; exact (cc4.block _ (by simp)).trans (heap_alloc_new w8 _)
        have f9 : objM.At (w8.alloc (.cells (madeCells #[.slice none 0 0, .int .i64 0, .slice none 0 0] (ts.length * 3)) PtT)) (w5.heap.size) [] := by rw [← e9]; exact (MapOf.new objM w5).keep (cc2.block _ (by simp))
        have f5 : CrAt (w8.alloc (.cells (madeCells #[.slice none 0 0, .int .i64 0, .slice none 0 0] (ts.length * 3)) PtT)) bR dR (fun _ => false) := hR5.out.fresh cc1
        have f8 : CrAt (w8.alloc (.cells (madeCells #[.slice none 0 0, .int .i64 0, .slice none 0 0] (ts.length * 3)) PtT)) bB dB (fun _ => false) := hB8.out.fresh cc3
        have l2 : w9.heap.size ≤ w8.heap.size := by rw [← e2]; exact Nat.le_trans (Nat.le_trans (Nat.le_trans (Nat.le_refl _) b5.size) ((Below.refl _ w5).alloc (Nat.le_refl _) (.map #[] 0)).size) b8.size
        have l9 : w9.heap.size ≤ w5.heap.size := by rw [← e9]; exact Nat.le_trans (Nat.le_refl _) b5.size
        have l5 : w9.heap.size ≤ bR := Nat.le_trans (Nat.le_refl _) lR
        have l8 : w9.heap.size ≤ bB := Nat.le_trans (Nat.le_trans (Nat.le_trans (Nat.le_refl _) b5.size) ((Below.refl _ w5).alloc (Nat.le_refl _) (.map #[] 0)).size) lB
        have ne : bR ≠ bB := fun e => by have h1 := hR5.out.lt; have h2 : w5.heap.size ≤ (w5.alloc (.map #[] 0)).heap.size := Nat.le_trans (Nat.le_refl _) ((Below.refl _ w5).alloc (Nat.le_refl _) (.map #[] 0)).size; omega
        exact HREST.out (w8.heap.size) bR dR bB dB (w5.heap.size) (w8.heap.size + 1) (w8.alloc (.cells (madeCells #[.slice none 0 0, .int .i64 0, .slice none 0 0] (ts.length * 3)) PtT)) (by simp) f2 f5 f8 f9 ne ⟨zR1, zR2⟩ ⟨zB1, zB2⟩ ⟨l2, l5, l8, l9⟩ cc0
  · go_simp
    refine hK.out _ _ ?_ (fun hHeld => ?_)
    · trivial
    clear hK K
    try simp only [Act.put, pu1, pu2, pu3]
    refine rd2_5 (by kernel_rfl) rfl rfl (fun K hK => ?_) (fun K hK => ?_)
    · go_simp
      refine hK.out _ _ ?_ (fun hHeld => ?_)
      · trivial
      clear hK K
      try simp only [Act.put, pu1, pu2, pu3]
      refine cl5 (by kernel_rfl) rfl (fun K hK => ?_)
      go_simp
      go_at_call 27
      refine (hcn ((w9.alloc (.map #[] 0)).alloc (.cells (madeCells #[.slice none 0 0, .int .i64 0, .slice none 0 0] (ts.length * 3)) PtT))).mono ?_
      rintro e w5 ⟨bR, dR, rfl, zR1, zR2, hR', lR, b5⟩
      have hR5 : Hid _ := hR'
      clear hR'
      refine hK.out _ _ ?_ (fun hHeld => ?_)
      · trivial
      clear hK K
      try simp only [Act.put, pu1, pu2, pu3]
      refine cl8 (by kernel_rfl) rfl (fun K hK => ?_)
      go_simp
      go_at_call 27
      refine (hcn w5).mono ?_
      rintro e w8 ⟨bB, dB, rfl, zB1, zB2, hB', lB, b8⟩
      have hB8 : Hid _ := hB'
      clear hB'
      refine hK.out _ _ ?_ (fun hHeld => ?_)
      · trivial
      clear hK K
      try simp only [Act.put, pu1, pu2, pu3]
      refine tk10 (.agg #[.slice (some ⟨w9.heap.size + 1, 0, none⟩) ts.length ts.length, .slice (some ⟨bR, 0, none⟩) (2 * 2 ^ dR) (2 * 2 ^ dR), .slice (some ⟨bB, 0, none⟩) (2 * 2 ^ dB) (2 * 2 ^ dB), .map (some (w9.heap.size))]) ?_ (fun w hSw => by (try dsimp only at hSw); clear hSw; go_simp)
      try simp only [Act.put, pu1, pu2, pu3]
      refine cl11 (by kernel_rfl) rfl (fun K hK => ?_)
      go_simp
      refine hK.out _ _ ?_ (fun hHeld => ?_)
      · trivial
      clear hK K
      try simp only [Act.put, pu1, pu2, pu3]
      refine tk12 (.pointer (some ⟨w8.heap.size, 0, none⟩)) ?_ (fun w hSw => by (try dsimp only at hSw); clear hSw; go_simp)
      try simp only [Act.put, pu1, pu2, pu3]
      refine wpAnyH_done (by kernel_rfl) ?_ _
      have cc4 : Below w8.heap.size w8 w8 := Below.refl _ _
      have cc3 : Below w5.heap.size w5 w8 := bmm b8 b8.size cc4
      have cc2 : Below ((w9.alloc (.map #[] 0)).alloc (.cells (madeCells #[.slice none 0 0, .int .i64 0, .slice none 0 0] (ts.length * 3)) PtT)).heap.size ((w9.alloc (.map #[] 0)).alloc (.cells (madeCells #[.slice none 0 0, .int .i64 0, .slice none 0 0] (ts.length * 3)) PtT)) w8 := bmm b5 b5.size cc3
      have cc1 : Below (w9.alloc (.map #[] 0)).heap.size (w9.alloc (.map #[] 0)) w8 := bmm ((Below.refl _ (w9.alloc (.map #[] 0))).alloc (Nat.le_refl _) (.cells (madeCells #[.slice none 0 0, .int .i64 0, .slice none 0 0] (ts.length * 3)) PtT)) ((Below.refl _ (w9.alloc (.map #[] 0))).alloc (Nat.le_refl _) (.cells (madeCells #[.slice none 0 0, .int .i64 0, .slice none 0 0] (ts.length * 3)) PtT)).size cc2
      have cc0 : Below w9.heap.size w9 w8 := bmm ((Below.refl _ w9).alloc (Nat.le_refl _) (.map #[] 0)) ((Below.refl _ w9).alloc (Nat.le_refl _) (.map #[] 0)).size cc1
      have e2 : (w9.alloc (.map #[] 0)).heap.size = w9.heap.size + 1 := by simp
      have e9 : w9.heap.size = w9.heap.size := rfl
      have f2 : w8.heap[w9.heap.size + 1]? = some (.cells (madeCells #[.slice none 0 0, .int .i64 0, .slice none 0 0] (ts.length * 3)) PtT (0, 0)) := by rw [← e2]; exact (cc2.block _ (by simp)).trans (heap_alloc_new (w9.alloc (.map #[] 0)) _)
      have f9 : objM.At w8 (w9.heap.size) [] := by rw [← e9]; exact (MapOf.new objM w9).keep (cc1.block _ (by simp))
      have f5 : CrAt w8 bR dR (fun _ => false) := hR5.out.fresh cc3
      have f8 : CrAt w8 bB dB (fun _ => false) := hB8.out.fresh cc4
      have l2 : w9.heap.size ≤ w9.heap.size + 1 := by rw [← e2]; exact Nat.le_trans (Nat.le_refl _) ((Below.refl _ w9).alloc (Nat.le_refl _) (.map #[] 0)).size
      have l9 : w9.heap.size ≤ w9.heap.size := by rw [← e9]; exact Nat.le_refl _
      have l5 : w9.heap.size ≤ bR := Nat.le_trans (Nat.le_trans (Nat.le_trans (Nat.le_refl _) ((Below.refl _ w9).alloc (Nat.le_refl _) (.map #[] 0)).size) ((Below.refl _ (w9.alloc (.map #[] 0))).alloc (Nat.le_refl _) (.cells (madeCells #[.slice none 0 0, .int .i64 0, .slice none 0 0] (ts.length * 3)) PtT)).size) lR
      have l8 : w9.heap.size ≤ bB := Nat.le_trans (Nat.le_trans (Nat.le_trans (Nat.le_trans (Nat.le_refl _) ((Below.refl _ w9).alloc (Nat.le_refl _) (.map #[] 0)).size) ((Below.refl _ (w9.alloc (.map #[] 0))).alloc (Nat.le_refl _) (.cells (madeCells #[.slice none 0 0, .int .i64 0, .slice none 0 0] (ts.length * 3)) PtT)).size) b5.size) lB
      have ne : bR ≠ bB := fun e => by have h1 := hR5.out.lt; have h2 : w5.heap.size ≤ w5.heap.size := Nat.le_refl _; omega
      exact HREST.out (w9.heap.size + 1) bR dR bB dB (w9.heap.size) (w8.heap.size) w8 rfl f2 f5 f8 f9 ne ⟨zR1, zR2⟩ ⟨zB1, zB2⟩ ⟨l2, l5, l8, l9⟩ cc0
    · go_simp
      go_at_call 27
      refine (hcn (w9.alloc (.map #[] 0))).mono ?_
      rintro e w5 ⟨bR, dR, rfl, zR1, zR2, hR', lR, b5⟩
      have hR5 : Hid _ := hR'
      clear hR'
      refine hK.out _ _ ?_ (fun hHeld => ?_)
      · trivial
      clear hK K
      try simp only [Act.put, pu1, pu2, pu3]
      refine rd2_8 (by kernel_rfl) rfl rfl (fun K hK => ?_) (fun K hK => ?_)
      · go_simp
        refine hK.out _ _ ?_ (fun hHeld => ?_)
        · trivial
        clear hK K
        try simp only [Act.put, pu1, pu2, pu3]
        refine cl8 (by kernel_rfl) rfl (fun K hK => ?_)
        go_simp
        go_at_call 27
        refine (hcn (w5.alloc (.cells (madeCells #[.slice none 0 0, .int .i64 0, .slice none 0 0] (ts.length * 3)) PtT))).mono ?_
        rintro e w8 ⟨bB, dB, rfl, zB1, zB2, hB', lB, b8⟩
        have hB8 : Hid _ := hB'
        clear hB'
        refine hK.out _ _ ?_ (fun hHeld => ?_)
        · trivial
        clear hK K
        try simp only [Act.put, pu1, pu2, pu3]
        refine tk10 (.agg #[.slice (some ⟨w5.heap.size, 0, none⟩) ts.length ts.length, .slice (some ⟨bR, 0, none⟩) (2 * 2 ^ dR) (2 * 2 ^ dR), .slice (some ⟨bB, 0, none⟩) (2 * 2 ^ dB) (2 * 2 ^ dB), .map (some (w9.heap.size))]) ?_ (fun w hSw => by (try dsimp only at hSw); clear hSw; go_simp)
        try simp only [Act.put, pu1, pu2, pu3]
        refine cl11 (by kernel_rfl) rfl (fun K hK => ?_)
        go_simp
        refine hK.out _ _ ?_ (fun hHeld => ?_)
        · trivial
        clear hK K
        try simp only [Act.put, pu1, pu2, pu3]
        refine tk12 (.pointer (some ⟨w8.heap.size, 0, none⟩)) ?_ (fun w hSw => by (try dsimp only at hSw); clear hSw; go_simp)
        try simp only [Act.put, pu1, pu2, pu3]
        refine wpAnyH_done (by kernel_rfl) ?_ _
        have cc4 : Below w8.heap.size w8 w8 := Below.refl _ _
        have cc3 : Below (w5.alloc (.cells (madeCells #[.slice none 0 0, .int .i64 0, .slice none 0 0] (ts.length * 3)) PtT)).heap.size (w5.alloc (.cells (madeCells #[.slice none 0 0, .int .i64 0, .slice none 0 0] (ts.length * 3)) PtT)) w8 := bmm b8 b8.size cc4
        have cc2 : Below w5.heap.size w5 w8 := bmm ((Below.refl _ w5).alloc (Nat.le_refl _) (.cells (madeCells #[.slice none 0 0, .int .i64 0, .slice none 0 0] (ts.length * 3)) PtT)) ((Below.refl _ w5).alloc (Nat.le_refl _) (.cells (madeCells #[.slice none 0 0, .int .i64 0, .slice none 0 0] (ts.length * 3)) PtT)).size cc3
        have cc1 : Below (w9.alloc (.map #[] 0)).heap.size (w9.alloc (.map #[] 0)) w8 := bmm b5 b5.size cc2
        have cc0 : Below w9.heap.size w9 w8 := bmm ((Below.refl _ w9).alloc (Nat.le_refl _) (.map #[] 0)) ((Below.refl _ w9).alloc (Nat.le_refl _) (.map #[] 0)).size cc1
        have e2 : w5.heap.size = w5.heap.size := rfl
        have e9 : w9.heap.size = w9.heap.size := rfl
        have f2 : w8.heap[w5.heap.size]? = some (.cells (madeCells #[.slice none 0 0, .int .i64 0, .slice none 0 0] (ts.length * 3)) PtT (0, 0)) := by rw [← e2]; exact (cc3.block _ (by simp)).trans (heap_alloc_new w5 _)
        have f9 : objM.At w8 (w9.heap.size) [] := by rw [← e9]; exact (MapOf.new objM w9).keep (cc1.block _ (by simp))
        have f5 : CrAt w8 bR dR (fun _ => false) := hR5.out.fresh cc2
        have f8 : CrAt w8 bB dB (fun _ => false) := hB8.out.fresh cc4
        have l2 : w9.heap.size ≤ w5.heap.size := by rw [← e2]; exact Nat.le_trans (Nat.le_trans (Nat.le_refl _) ((Below.refl _ w9).alloc (Nat.le_refl _) (.map #[] 0)).size) b5.size
        have l9 : w9.heap.size ≤ w9.heap.size := by rw [← e9]; exact Nat.le_refl _
        have l5 : w9.heap.size ≤ bR := Nat.le_trans (Nat.le_trans (Nat.le_refl _) ((Below.refl _ w9).alloc (Nat.le_refl _) (.map #[] 0)).size) lR
        have l8 : w9.heap.size ≤ bB := Nat.le_trans (Nat.le_trans (Nat.le_trans (Nat.le_trans (Nat.le_refl _) ((Below.refl _ w9).alloc (Nat.le_refl _) (.map #[] 0)).size) b5.size) ((Below.refl _ w5).alloc (Nat.le_refl _) (.cells (madeCells #[.slice none 0 0, .int .i64 0, .slice none 0 0] (ts.length * 3)) PtT)).size) lB
        have ne : bR ≠ bB := fun e => by have h1 := hR5.out.lt; have h2 : w5.heap.size ≤ (w5.alloc (.cells (madeCells #[.slice none 0 0, .int .i64 0, .slice none 0 0] (ts.length * 3)) PtT)).heap.size := Nat.le_trans (Nat.le_refl _) ((Below.refl _ w5).alloc (Nat.le_refl _) (.cells (madeCells #[.slice none 0 0, .int .i64 0, .slice none 0 0] (ts.length * 3)) PtT)).size; omega
        exact HREST.out (w5.heap.size) bR dR bB dB (w9.heap.size) (w8.heap.size) w8 rfl f2 f5 f8 f9 ne ⟨zR1, zR2⟩ ⟨zB1, zB2⟩ ⟨l2, l5, l8, l9⟩ cc0
      · go_simp
        go_at_call 27
        refine (hcn w5).mono ?_
        rintro e w8 ⟨bB, dB, rfl, zB1, zB2, hB', lB, b8⟩
        have hB8 : Hid _ := hB'
        clear hB'
        refine hK.out _ _ ?_ (fun hHeld => ?_)
        · trivial
        clear hK K
        try simp only [Act.put, pu1, pu2, pu3]
        refine cl2 (by kernel_rfl) rfl (fun K hK => ?_)
        go_simp
        refine hK.out _ _ ?_ (fun hHeld => ?_)
        · trivial
        clear hK K
        try simp only [Act.put, pu1, pu2, pu3]
        refine tk10 (.agg #[.slice (some ⟨w8.heap.size, 0, none⟩) ts.length ts.length, .slice (some ⟨bR, 0, none⟩) (2 * 2 ^ dR) (2 * 2 ^ dR), .slice (some ⟨bB, 0, none⟩) (2 * 2 ^ dB) (2 * 2 ^ dB), .map (some (w9.heap.size))]) ?_ (fun w hSw => by (try dsimp only at hSw); clear hSw; go_simp)
        try simp only [Act.put, pu1, pu2, pu3]
        refine cl11 (by kernel_rfl) rfl (fun K hK => ?_)
        go_simp
        refine hK.out _ _ ?_ (fun hHeld => ?_)
        · trivial
        clear hK K
        try simp only [Act.put, pu1, pu2, pu3]
        refine tk12 (.pointer (some ⟨w8.heap.size + 1, 0, none⟩)) ?_ (fun w hSw => by (try dsimp only at hSw); clear hSw; go_simp)
        try simp only [Act.put, pu1, pu2, pu3]
        refine wpAnyH_done (by kernel_rfl) ?_ _
        have cc4 : Below (w8.alloc (.cells (madeCells #[.slice none 0 0, .int .i64 0, .slice none 0 0] (ts.length * 3)) PtT)).heap.size (w8.alloc (.cells (madeCells #[.slice none 0 0, .int .i64 0, .slice none 0 0] (ts.length * 3)) PtT)) (w8.alloc (.cells (madeCells #[.slice none 0 0, .int .i64 0, .slice none 0 0] (ts.length * 3)) PtT)) := Below.refl _ _
        have cc3 : Below w8.heap.size w8 (w8.alloc (.cells (madeCells #[.slice none 0 0, .int .i64 0, .slice none 0 0] (ts.length * 3)) PtT)) := bmm ((Below.refl _ w8).alloc (Nat.le_refl _) (.cells (madeCells #[.slice none 0 0, .int .i64 0, .slice none 0 0] (ts.length * 3)) PtT)) ((Below.refl _ w8).alloc (Nat.le_refl _) (.cells (madeCells #[.slice none 0 0, .int .i64 0, .slice none 0 0] (ts.length * 3)) PtT)).size cc4
        have cc2 : Below w5.heap.size w5 (w8.alloc (.cells (madeCells #[.slice none 0 0, .int .i64 0, .slice none 0 0] (ts.length * 3)) PtT)) := bmm b8 b8.size cc3
        have cc1 : Below (w9.alloc (.map #[] 0)).heap.size (w9.alloc (.map #[] 0)) (w8.alloc (.cells (madeCells #[.slice none 0 0, .int .i64 0, .slice none 0 0] (ts.length * 3)) PtT)) := bmm b5 b5.size cc2
        have cc0 : Below w9.heap.size w9 (w8.alloc (.cells (madeCells #[.slice none 0 0, .int .i64 0, .slice none 0 0] (ts.length * 3)) PtT)) := bmm ((Below.refl _ w9).alloc (Nat.le_refl _) (.map #[] 0)) ((Below.refl _ w9).alloc (Nat.le_refl _) (.map #[] 0)).size cc1
        have e2 : w8.heap.size = w8.heap.size := rfl
        have e9 : w9.heap.size = w9.heap.size := rfl
        have f2 : (w8.alloc (.cells (madeCells #[.slice none 0 0, .int .i64 0, .slice none 0 0] (ts.length * 3)) PtT)).heap[w8.heap.size]? = some (.cells (madeCells #[.slice none 0 0, .int .i64 0, .slice none 0 0] (ts.length * 3)) PtT (0, 0)) := by rw [← e2]; exact (cc4.block _ (by simp)).trans (heap_alloc_new w8 _)
        have f9 : objM.At (w8.alloc (.cells (madeCells #[.slice none 0 0, .int .i64 0, .slice none 0 0] (ts.length * 3)) PtT)) (w9.heap.size) [] := by rw [← e9]; exact (MapOf.new objM w9).keep (cc1.block _ (by simp))
        have f5 : CrAt (w8.alloc (.cells (madeCells #[.slice none 0 0, .int .i64 0, .slice none 0 0] (ts.length * 3)) PtT)) bR dR (fun _ => false) := hR5.out.fresh cc2
        have f8 : CrAt (w8.alloc (.cells (madeCells #[.slice none 0 0, .int .i64 0, .slice none 0 0] (ts.length * 3)) PtT)) bB dB (fun _ => false) := hB8.out.fresh cc3
        have l2 : w9.heap.size ≤ w8.heap.size := by rw [← e2]; exact Nat.le_trans (Nat.le_trans (Nat.le_trans (Nat.le_refl _) ((Below.refl _ w9).alloc (Nat.le_refl _) (.map #[] 0)).size) b5.size) b8.size
        have l9 : w9.heap.size ≤ w9.heap.size := by rw [← e9]; exact Nat.le_refl _
        have l5 : w9.heap.size ≤ bR := Nat.le_trans (Nat.le_trans (Nat.le_refl _) ((Below.refl _ w9).alloc (Nat.le_refl _) (.map #[] 0)).size) lR
        have l8 : w9.heap.size ≤ bB := Nat.le_trans (Nat.le_trans (Nat.le_trans (Nat.le_refl _) ((Below.refl _ w9).alloc (Nat.le_refl _) (.map #[] 0)).size) b5.size) lB
        have ne : bR ≠ bB := fun e => by have h1 := hR5.out.lt; have h2 : w5.heap.size ≤ w5.heap.size := Nat.le_refl _; omega
        exact HREST.out (w8.heap.size) bR dR bB dB (w9.heap.size) (w8.heap.size + 1) (w8.alloc (.cells (madeCells #[.slice none 0 0, .int .i64 0, .slice none 0 0] (ts.length * 3)) PtT)) (by simp) f2 f5 f8 f9 ne ⟨zR1, zR2⟩ ⟨zB1, zB2⟩ ⟨l2, l5, l8, l9⟩ cc0
end
end Go.Proofs.Ythhlglbohibekaa
