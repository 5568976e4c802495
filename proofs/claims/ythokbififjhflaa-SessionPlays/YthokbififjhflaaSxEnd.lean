/-
  The document's sessions: End, as plain data. The condition: a reply that a command may have.
-/
import Derived.Test.YthokbififjhflaaSxBegin
namespace Go.Proofs.Ythokbififjhflaa
open Go.RowKit

/-- An answer laid into the row. -/
theorem SxM.fin {w : World} {base X g c : Nat} {S : Nat → Prop} {raw : List SeX} {F I : Nat → Int} (h : SxM w base X S raw (.slice (some ⟨g, 0, none⟩) raw.length c) F I) {k : Nat} {x : SeX} (hx : raw[k]? = some x) (r : SeR) :
    SxM ((((((w.setCell ⟨g, k * 10 + 4, none⟩ (.bool true)).setCell ⟨g, k * 10 + 5, none⟩ (.int .i64 r.session)).setCell ⟨g, k * 10 + 5 + 1, none⟩ (.int .i64 r.seq)).setCell ⟨g, k * 10 + 5 + 2, none⟩ (.int .i64 r.err)).setCell ⟨g, k * 10 + 5 + 3, none⟩ (.int .u64 r.token)).setCell ⟨g, k * 10 + 5 + 4, none⟩ (.int .i64 r.n)) base X S (raw.set k { x with said := true, r := r }) (.slice (some ⟨g, 0, none⟩) raw.length c) F I ∧
    Kept w ((((((w.setCell ⟨g, k * 10 + 4, none⟩ (.bool true)).setCell ⟨g, k * 10 + 5, none⟩ (.int .i64 r.session)).setCell ⟨g, k * 10 + 5 + 1, none⟩ (.int .i64 r.seq)).setCell ⟨g, k * 10 + 5 + 2, none⟩ (.int .i64 r.err)).setCell ⟨g, k * 10 + 5 + 3, none⟩ (.int .u64 r.token)).setCell ⟨g, k * 10 + 5 + 4, none⟩ (.int .i64 r.n)) S S := by
  have nx : ∀ (L : List SeX) (y z : SeX), L[k]? = some y → (L.set k z)[k]? = some z := fun L y z hy => by rw [set_at hy, if_pos rfl]
  have h0 := h.setc (j := 4) (y := { x with said := true }) (u := .bool true) hx (by decide) rfl rfl rfl
  have x0 := nx _ _ { x with said := true } hx
  have h1 := h0.setc (j := 5) (y := { x with said := true, r := { x.r with session := r.session } }) (u := .int .i64 r.session) x0 (by decide) rfl rfl rfl
  have x1 := nx _ _ { x with said := true, r := { x.r with session := r.session } } x0
  have h2 := h1.setc (j := 6) (y := { x with said := true, r := { x.r with session := r.session, seq := r.seq } }) (u := .int .i64 r.seq) x1 (by decide) rfl rfl rfl
  have x2 := nx _ _ { x with said := true, r := { x.r with session := r.session, seq := r.seq } } x1
  have h3 := h2.setc (j := 7) (y := { x with said := true, r := { x.r with session := r.session, seq := r.seq, err := r.err } }) (u := .int .i64 r.err) x2 (by decide) rfl rfl rfl
  have x3 := nx _ _ { x with said := true, r := { x.r with session := r.session, seq := r.seq, err := r.err } } x2
  have h4 := h3.setc (j := 8) (y := { x with said := true, r := { x.r with session := r.session, seq := r.seq, err := r.err, token := r.token } }) (u := .int .u64 r.token) x3 (by decide) rfl rfl rfl
  have x4 := nx _ _ { x with said := true, r := { x.r with session := r.session, seq := r.seq, err := r.err, token := r.token } } x3
  have h5 := h4.setc (j := 9) (y := { x with said := true, r := r }) (u := .int .i64 r.n) x4 (by decide) rfl rfl rfl
  have K := ((((h.kept (k * 10 + 4) (.bool true)).trans (h0.kept (k * 10 + 5) (.int .i64 r.session))).trans (h1.kept (k * 10 + 6) (.int .i64 r.seq))).trans (h2.kept (k * 10 + 7) (.int .i64 r.err))).trans ((h3.kept (k * 10 + 8) (.int .u64 r.token)).trans (h4.kept (k * 10 + 9) (.int .i64 r.n)))
  simp only [List.set_set, List.length_set] at h5
  exact ⟨h5, K⟩
set_option maxRecDepth 100000 in
set_option maxHeartbeats 8000000 in
theorem xend_any {w : World} {base X : Nat} {S : Nat → Prop} {l : List SeX} (h : SxAt w base X S l) {r : SeR} (hi : okI r.session) (hr : r.Ok) : Calls Try.prog 29 #[.pointer (some ⟨X, 0, none⟩), .agg (seRA r)] w (SxClP w base X S (seEnd l r)) := by
  obtain ⟨W, hW⟩ : ∃ W, W = w.alloc (.cells (seRA r) 36) := ⟨_, rfl⟩
  have bW : Below w.heap.size w W := by rw [hW]; exact (Below.refl _ w).alloc (Nat.le_refl _) _
  have rW : W.heap[w.heap.size]? = some (.cells (seRA r) 36 (0, 0)) := by rw [hW]; exact heap_alloc_new w _
  have HW : Hid (w.alloc (.cells (seRA r) 36) = W) := hW.symm
  have HH : Hid (SxAt w base X S l) := h
  obtain ⟨raw, v, F, I, hM0, rfl⟩ := h.ex
  have hM := hM0.keep (w' := W) fun g hg => bW.block g (hM0.bd g hg).2
  have hl := h.len
  rw [List.length_map] at hl
  have r0 : W.cell? ⟨w.heap.size, 0, none⟩ = some (.int .i64 r.session) := by simp [World.cell?, rW]
  have r1 : W.cell? ⟨w.heap.size, 1, none⟩ = some (.int .i64 r.seq) := by simp [World.cell?, rW]
  have HR : Hid (Below w.heap.size w W) := bW
  cases hx : seAt raw r.session with
  | none =>
    have HA : Hid _ := at_none hM hl hi hx
    rw [seEnd_none (by rw [seAt_map, hx]; rfl)]
    clear hM0 hM h hx rW hW bW
    go_enter Try.func29, Try.ntmps29
    go_upto_region 1 with fail
    rw [HW.out]
    go_upto_region 2 with (go_at_call 39; refine Calls.mono HA.out ?_; rintro e w1 ⟨rfl, hw1⟩; rw [hw1]; clear hw1)
    go_quiet (fail)
    go_wp2
    go_ret
    have b4 : Below w.heap.size w (W.drewN nq) := below_drewN HR.out _
    exact ⟨rfl, HH.out.fresh b4, Kept.of b4⟩
  | some x =>
    obtain ⟨k, hid, hk, hxk, hkk⟩ := seAt_place hx
    obtain ⟨g, c, rfl, hSg, _, hcc, hcell, hfz⟩ := hM.at hxk
    have HA : Hid (Calls Try.prog 39 #[.pointer (some ⟨X, 0, none⟩), .int .i64 r.session] W fun e w' => e = .returned (.pointer (some ⟨g, k * 10, none⟩)) ∧ w' = W) := by
      rw [hid]
      exact at_some hM hl hcc hk
    have hsx : seAt (raw.map sxN) r.session = some (sxN x) := by rw [seAt_map, hx]; rfl
    have hox := h.ok.at hsx
    have hq0 : 0 ≤ x.seq := by have := hox.q0; rw [sxN_seq] at this; exact this
    have x3 : W.cell? ⟨g, k * 10 + 3, none⟩ = some (.int .i64 x.seq) := hcell 3 _ rfl
    have x4 : W.cell? ⟨g, k * 10 + 4, none⟩ = some (.bool x.said) := hcell 4 _ rfl
    by_cases hc : x.seq = 0 ∨ x.seq ≠ r.seq ∨ x.said = true
    · rw [seEnd_no hsx (by rw [sxN_seq, sxN_said]; exact hc)]
      have t : decide (x.seq < 1) = true ∨ decide (x.seq < 1) = false ∧ (x.seq != r.seq) = true ∨ decide (x.seq < 1) = false ∧ (x.seq != r.seq) = false ∧ x.said = true := by
        by_cases h1 : x.seq = 0
        · exact Or.inl (decide_eq_true (by omega))
        · by_cases h2 : x.seq = r.seq
          · refine Or.inr (Or.inr ⟨decide_eq_false (by omega), by simpa using h2, ?_⟩)
            rcases hc with hc | hc | hc
            · exact absurd hc h1
            · exact absurd h2 hc
            · exact hc
          · exact Or.inr (Or.inl ⟨decide_eq_false (by omega), by simpa using h2⟩)
      clear hM0 hM h hx rW hW bW hcell hxk hsx hox hc hid
      rcases t with t1 | ⟨t1, t2⟩ | ⟨t1, t2, t3⟩
      all_goals (try rw [t3] at x4)
      all_goals
        go_enter Try.func29, Try.ntmps29
        go_upto_region 1 with fail
        rw [HW.out]
        go_upto_region 2 with (go_at_call 39; refine Calls.mono HA.out ?_; rintro e w1 ⟨rfl, hw1⟩; rw [hw1]; clear hw1)
        go_quiet (fail)
        go_wp2
        go_ret
        have b4 : Below w.heap.size w (W.drewN nq) := below_drewN HR.out _
        exact ⟨rfl, HH.out.fresh b4, Kept.of b4⟩
    · have hok := h.ok.fin (r := r) hr
      have hc' : ¬ ((sxN x).seq = 0 ∨ (sxN x).seq ≠ r.seq ∨ (sxN x).said = true) := by rw [sxN_seq, sxN_said]; exact hc
      rw [seEnd_yes hsx hc', hkk] at hok ⊢
      simp only [not_or, ne_eq, Decidable.not_not, Bool.not_eq_true] at hc
      have t1 : decide (x.seq < 1) = false := decide_eq_false (by omega)
      have t2 : (x.seq != r.seq) = false := by simpa using hc.2.1
      rw [hc.2.2] at x4
      have x5 : W.cell? ⟨g, k * 10 + 5, none⟩ = some (.int .i64 x.r.session) := hcell 5 _ rfl
      have x6 : W.cell? ⟨g, k * 10 + 5 + 1, none⟩ = some (.int .i64 x.r.seq) := hcell 6 _ rfl
      have x7 : W.cell? ⟨g, k * 10 + 5 + 2, none⟩ = some (.int .i64 x.r.err) := hcell 7 _ rfl
      have x8 : W.cell? ⟨g, k * 10 + 5 + 3, none⟩ = some (.int .u64 x.r.token) := hcell 8 _ rfl
      have x9 : W.cell? ⟨g, k * 10 + 5 + 4, none⟩ = some (.int .i64 x.r.n) := hcell 9 _ rfl
      have r2 : W.cell? ⟨w.heap.size, 2, none⟩ = some (.int .i64 r.err) := by simp [World.cell?, rW]
      have r3 : W.cell? ⟨w.heap.size, 3, none⟩ = some (.int .u64 r.token) := by simp [World.cell?, rW]
      have r4 : W.cell? ⟨w.heap.size, 4, none⟩ = some (.int .i64 r.n) := by simp [World.cell?, rW]
      have hne : g ≠ w.heap.size := Nat.ne_of_lt (hM0.bd g hSg).2
      have hne' : w.heap.size ≠ g := hne.symm
      have hmap : (raw.map sxN).set k { sxN x with said := true, r := r } = (raw.set k { x with said := true, r := r }).map sxN := by
        rw [map_set]
        congr 1
        show _ = sxN { x with said := true, r := r }
        unfold sxN
        split <;> rfl
      have HF := fun n => ((hM.keep (w' := W.drewN n) fun _ _ => (below_drewN (Below.refl W.heap.size W) n).block _ (hM.bd _ ‹_›).2).fin hxk r)
      have HE : Hid (∀ n, SxAt _ base X S ((raw.map sxN).set k { sxN x with said := true, r := r }) ∧ Kept w _ S S) := fun n => ⟨⟨⟨_, _, _, _, by have := (HF n).1; rw [show (raw.length : Nat) = (raw.set k { x with said := true, r := r }).length by rw [List.length_set]] at this; exact this, hmap⟩, hok, by rw [List.length_set, List.length_map]; exact hl⟩, (Kept.of (below_drewN HR.out n)).trans (HF n).2⟩
      clear hM0 hM h hx rW hW bW hcell hxk hsx hox hc hid hc' hok hmap HF
      go_enter Try.func29, Try.ntmps29
      go_upto_region 1 with fail
      rw [HW.out]
      go_upto_region 2 with (go_at_call 39; refine Calls.mono HA.out ?_; rintro e w1 ⟨rfl, hw1⟩; rw [hw1]; clear hw1)
      go_quiet (fail)
      go_upto_region 4 with fail
      obtain ⟨n1, hn1⟩ : ∃ n, n = nq := ⟨_, rfl⟩
      rw [← hn1]
      go_region
      all_goals go_wp2
      all_goals go_ret
      exact ⟨rfl, (HE.out _).1, (HE.out _).2⟩
end Go.Proofs.Ythokbififjhflaa
