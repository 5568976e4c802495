/-
  LmutexFair of layer 8, walked: a reader that asks while a writer waits has the lock behind it; no writer holds it beside another task. The condition: the deeds lie in memory as their reading says.
-/
import Derived.Test.YtlcacjekpdmigaaRwPlays
namespace Go.Proofs.Ytlcacjekpdmigaa
open Go.RowKit

/-- A writer holds it alone. -/
def InvA (L : List Int) (wt : Bool) : Prop := wt = true → 0 < L.length → L.length = 1
/-- .. and where nobody holds it nobody waits. -/
def Inv (L : List Int) (wt : Bool) (q : List Wt) : Prop := InvA L wt ∧ (L.length = 0 → q.length = 0)
theorem fits_writer {L : List Int} {wt : Bool} (h : fitsB L wt false = true) : L.length = 0 := by
  unfold fitsB at h
  simpa using h
theorem fits_empty {L : List Int} {wt rd : Bool} (h : L.length = 0) : fitsB L wt rd = true := by
  unfold fitsB
  rw [decide_eq_true h]
  rfl
theorem invA_put {L : List Int} {wt rd : Bool} (t : Int) (h : fitsB L wt rd = true) : InvA (putL L t) (!rd) := fun h1 _ => by
  have h2 := putL_length L t
  cases rd with
  | true => simp at h1
  | false =>
    have := fits_writer h
    omega
theorem rwGo_inv : ∀ (q : List Wt) (L : List Int) (wt : Bool), InvA L wt → Inv (rwGo L wt q).2.1 (rwGo L wt q).2.2.1 (rwGo L wt q).2.2.2
  | [], L, wt, h => ⟨h, fun _ => rfl⟩
  | y :: q, L, wt, h => by
    rw [rwGo]
    split
    · next hf => exact rwGo_inv q _ _ (invA_put y.1 hf)
    · next hf => exact ⟨h, fun h0 => absurd (fits_empty h0) hf⟩
theorem rwU_inv {L : List Int} {wt : Bool} {q : List Wt} (t : Int) (rd : Bool) (h : Inv L wt q) : Inv (rwU L wt q t rd).2.1 (rwU L wt q t rd).2.2.1 (rwU L wt q t rd).2.2.2 := by
  unfold rwU
  split
  · exact h
  · exact rwGo_inv q _ _ (fun h1 h2 => by
      have h3 := dropL_le L t
      have h4 := h.1 h1 (by omega)
      omega)
theorem rwSt_inv {L : List Int} {wt : Bool} {q : List Wt} (t : Int) (rd : Bool) (h : Inv L wt q) : Inv (rwSt L wt q t rd).1 (rwSt L wt q t rd).2.1 (rwSt L wt q t rd).2.2 := by
  unfold rwSt
  split
  · next hz =>
    split
    · next hb =>
      unfold rwB at hb
      simp only [Bool.and_eq_true] at hb
      exact ⟨invA_put t hb.2, fun h0 => by rw [putL_length] at h0; omega⟩
    · next hb =>
      refine ⟨h.1, fun h0 => absurd ?_ hb⟩
      unfold rwB
      rw [fits_empty h0, decide_eq_true hz, decide_eq_true (h.2 h0)]
      rfl
  · exact h
theorem rwB_queue {L : List Int} {wt : Bool} {q : List Wt} {t : Int} {rd : Bool} (h : rwB L wt q t rd = true) : q.length = 0 := by
  unfold rwB at h
  simp only [Bool.and_eq_true, decide_eq_true_eq] at h
  exact h.1.2
set_option maxHeartbeats 12800000 in
set_option maxRecDepth 100000 in
theorem fair_walk (w : World) (v : Value) (ds : List Wt) (hv : RowAt waitC w v ds) (hlo : ∀ x ∈ ds, okI x.1) (hmx : ds.length ≤ 9223372036854775807) :
    Calls Try.prog 6 #[v] w fun e w' => e = .returned (.bool true) ∧ Below w.heap.size w w' := by
  have hn := pr_new w
  obtain ⟨a, cap, rfl⟩ := hv.form
  obtain ⟨B, hB⟩ : ∃ B, B = w.heap.size := ⟨_, rfl⟩
  have HBE : Hid (B = w.heap.size) := hB
  rw [← hB] at hn ⊢
  have HA : Hid _ := hv
  have HLO : Hid _ := hlo
  clear hv hlo hB
  go_enter Try.func6, Try.ntmps6
  go_wp2_with (go_at_call 18; refine hn.mono ?_; rintro e w1 ⟨Dx, Sx, rfl, k1, b1⟩)
  have HST : Hid _ := k1
  have HST2 : Hid _ := b1
  clear k1 b1 hn
  go_loopw [4, 5, 6, 7, 8, 9] (fun i _ _ _ _ _ wr => ∃ (k : Nat) (L : List Int) (wt : Bool) (q : List Wt) (Sx : Nat → Prop), k ≤ ds.length ∧ k ≤ 200 ∧ i = .int .i64 k ∧ PRw wr B Dx Sx L wt q ∧ L.length + q.length ≤ k ∧ Inv L wt q ∧ Below B w wr) (fun i _ _ _ _ _ _ => ds.length - (RowKit.intOf i).toNat)
  case atStart => exact ⟨0, [], false, [], _, Nat.zero_le _, Nat.zero_le _, rfl, HST.out, Nat.le_refl _, ⟨fun h => (by cases h), fun _ => rfl⟩, HST2.out⟩
  case round =>
    clear HST HST2
    obtain ⟨k, L, wt, q, Sx, hk, hk2, rfl, hM, hlk, hI, bel⟩ := hrel
    have hBw : B ≤ wr.heap.size := hM.base_le
    by_cases hkl : k < ds.length
    · by_cases hkm : k < 200
      · have q0 : decide ((k : Int) < (ds.length : Int)) = true := decide_eq_true (by omega)
        have q1 : decide ((k : Int) < (200 : Int)) = true := decide_eq_true (by omega)
        obtain ⟨bk, off, cp, e, _, hbk, hx⟩ := HA.out.cells waitC_len (by omega)
        simp only [Value.slice.injEq] at e
        obtain ⟨rfl, _, rfl⟩ := e
        rw [← HBE.out] at hbk
        have hbw : bk < wr.heap.size := Nat.lt_of_lt_of_le hbk hBw
        have z0 := (bel.cell (p := ⟨bk, off + k * 3, none⟩) (by exact hbk)).trans (hx k hkl 0 _ (by decide) rfl)
        have z1 := (bel.cell (p := ⟨bk, off + k * 3 + 1, none⟩) (by exact hbk)).trans (hx k hkl 1 _ (by decide) rfl)
        have z2 := (bel.cell (p := ⟨bk, off + k * 3 + 2, none⟩) (by exact hbk)).trans (hx k hkl 2 _ (by decide) rfl)
        have hok := HLO.out _ (List.getElem_mem hkl)
        clear hx
        generalize ds[k] = D at *
        obtain ⟨t, un, rd⟩ := D
        simp only at z0 z1 z2 hok
        have HM : Hid _ := hM
        have HI : Hid (Inv L wt q) := hI
        have hpq := pr_queue hM
        clear hM hI
        cases un with
        | true =>
          go_wp2_with (go_at_call 25; refine hpq.mono ?_; rintro e w2 ⟨u2, rfl, r2, b2⟩; obtain ⟨a2, c2, rfl⟩ := r2.form; have y0 := (b2.cell (p := ⟨bk, off + k * 3, none⟩) (by exact hbw)).trans z0; have y1 := (b2.cell (p := ⟨bk, off + k * 3 + 1, none⟩) (by exact hbw)).trans z1; have y2 := (b2.cell (p := ⟨bk, off + k * 3 + 2, none⟩) (by exact hbw)).trans z2)
          have k2 := (HM.out.fresh b2).drew
          have bel2 : Below B w w2.drew := undrB2 (bmm bel hBw b2)
          clear hpq r2 HM bel z0 z1 z2
          refine wp_region_held_drew (S := (fun w' : World => w'.cell? ⟨bk, off + k * 3, none⟩ = some (.int .i64 t) ∧ w'.cell? ⟨bk, off + k * 3 + 2, none⟩ = some (.bool rd))) (by kernel_rfl) ?_ (fun hHeld0 => ?_)
          · try dsimp only
            go_keep
          refine tk0 (.pointer (some ⟨Dx, 0, none⟩)) (by kernel_rfl) (by kernel_rfl) (by kernel_rfl) (fun _ _ _ h => h) rfl (fun w hSw => by (try dsimp only at hSw); obtain ⟨q0, q1⟩ := hSw; go_simp) (by assumption) ?_
          try simp only [Act.put, List.setIfInBounds_toArray, List.set_cons_zero, List.set_cons_succ]
          refine tk1 (.slice (some ⟨bk, off, none⟩) ds.length cap) (by kernel_rfl) (by kernel_rfl) (by kernel_rfl) (fun _ _ _ h => h) rfl (fun w hSw => by (try dsimp only at hSw); obtain ⟨q0, q1⟩ := hSw; go_simp) (by assumption) ?_
          try simp only [Act.put, List.setIfInBounds_toArray, List.set_cons_zero, List.set_cons_succ]
          refine tk2 (.int .i64 (k : Int)) (by kernel_rfl) (by kernel_rfl) (by kernel_rfl) (fun _ _ _ h => h) rfl (fun w hSw => by (try dsimp only at hSw); obtain ⟨q0, q1⟩ := hSw; go_simp) (by assumption) ?_
          try simp only [Act.put, List.setIfInBounds_toArray, List.set_cons_zero, List.set_cons_succ]
          refine tk3 (.pointer (some ⟨bk, off + k * 3, none⟩)) (by kernel_rfl) (by kernel_rfl) (by kernel_rfl) (fun _ _ _ h => h) rfl (fun w hSw => by (try dsimp only at hSw); obtain ⟨q0, q1⟩ := hSw; go_simp) (by assumption) ?_
          try simp only [Act.put, List.setIfInBounds_toArray, List.set_cons_zero, List.set_cons_succ]
          refine tk4 (.pointer (some ⟨bk, off + k * 3, none⟩)) (by kernel_rfl) (by kernel_rfl) (by kernel_rfl) (fun _ _ _ h => h) rfl (fun w hSw => by (try dsimp only at hSw); obtain ⟨q0, q1⟩ := hSw; go_simp) (by assumption) ?_
          try simp only [Act.put, List.setIfInBounds_toArray, List.set_cons_zero, List.set_cons_succ]
          refine tk5 (.int .i64 t) (by kernel_rfl) (by kernel_rfl) (by kernel_rfl) (fun _ _ _ h => h) rfl (fun w hSw => by (try dsimp only at hSw); obtain ⟨q0, q1⟩ := hSw; go_simp) (by assumption) ?_
          try simp only [Act.put, List.setIfInBounds_toArray, List.set_cons_zero, List.set_cons_succ]
          refine tk6 (.slice (some ⟨bk, off, none⟩) ds.length cap) (by kernel_rfl) (by kernel_rfl) (by kernel_rfl) (fun _ _ _ h => h) rfl (fun w hSw => by (try dsimp only at hSw); obtain ⟨q0, q1⟩ := hSw; go_simp) (by assumption) ?_
          try simp only [Act.put, List.setIfInBounds_toArray, List.set_cons_zero, List.set_cons_succ]
          refine tk7 (.int .i64 (k : Int)) (by kernel_rfl) (by kernel_rfl) (by kernel_rfl) (fun _ _ _ h => h) rfl (fun w hSw => by (try dsimp only at hSw); obtain ⟨q0, q1⟩ := hSw; go_simp) (by assumption) ?_
          try simp only [Act.put, List.setIfInBounds_toArray, List.set_cons_zero, List.set_cons_succ]
          refine tk8 (.pointer (some ⟨bk, off + k * 3, none⟩)) (by kernel_rfl) (by kernel_rfl) (by kernel_rfl) (fun _ _ _ h => h) rfl (fun w hSw => by (try dsimp only at hSw); obtain ⟨q0, q1⟩ := hSw; go_simp) (by assumption) ?_
          try simp only [Act.put, List.setIfInBounds_toArray, List.set_cons_zero, List.set_cons_succ]
          refine tk9 (.pointer (some ⟨bk, off + k * 3 + 2, none⟩)) (by kernel_rfl) (by kernel_rfl) (by kernel_rfl) (fun _ _ _ h => h) rfl (fun w hSw => by (try dsimp only at hSw); obtain ⟨q0, q1⟩ := hSw; go_simp) (by assumption) ?_
          try simp only [Act.put, List.setIfInBounds_toArray, List.set_cons_zero, List.set_cons_succ]
          refine tk10 (.bool rd) (by kernel_rfl) (by kernel_rfl) (by kernel_rfl) (fun _ _ _ h => h) rfl (fun w hSw => by (try dsimp only at hSw); obtain ⟨q0, q1⟩ := hSw; go_simp) (by assumption) ?_
          try simp only [Act.put, List.setIfInBounds_toArray, List.set_cons_zero, List.set_cons_succ]
          refine cl11 (by kernel_rfl) rfl (fun K hK => ?_)
          go_simp
          go_at_call 19
          refine (pr_unlock k2 t hok rd (by omega)).mono ?_
          rintro e w4 ⟨ux, rfl, _, _, S4, g4, kk4⟩
          have b4 := k2.below kk4
          have s0 := (b4.cell (p := ⟨bk, off + k * 3, none⟩) (by exact hbk)).trans y0
          have s2 := (b4.cell (p := ⟨bk, off + k * 3 + 2, none⟩) (by exact hbk)).trans y2
          refine hK.out _ _ ?_ (fun hHeld => ?_)
          · try dsimp only
            go_keep
          clear hK K
          try simp only [Act.put, List.setIfInBounds_toArray, List.set_cons_zero, List.set_cons_succ]
          refine wpAnyH_done (by kernel_rfl) ?_ _
          have hle := rwU_len L wt q t rd
          have HINV := rwU_inv t rd HI.out
          generalize hL1 : (rwU L wt q t rd).2.1 = L1 at g4 hle HINV
          generalize hq1 : (rwU L wt q t rd).2.2.2 = qq1 at g4 hle HINV
          generalize hT1 : (rwU L wt q t rd).2.2.1 = T1 at g4 HINV
          clear hL1 hq1 hT1 HI k2 kk4 s0 s2 y0 y1 y2
          have HI1 : Hid (Inv L1 T1 qq1) := HINV
          have hho := pr_holders g4
          have hqq := fun (w' : World) (k : Below w4.heap.size w4 w') => pr_queue (g4.fresh k)
          have K4 : Hid _ := g4
          clear g4
          by_cases h0 : L1.length = 0
          · have hq0 := HI1.out.2 h0
            have hbb : (T1 && decide (0 < L1.length)) = false := by rw [decide_eq_false (by omega), Bool.and_false]
            have p0 : ((L1.length : Int) == 0) = true := by rw [beq_iff_eq]; omega
            have p1 : decide (0 < qq1.length) = false := decide_eq_false (by omega)
            have H0 : Hid _ := h0
            have HQ0 : Hid _ := hq0
            rw [hbb] at hho
            clear h0 hq0 hbb
            go_wp2_with (first
              | (go_at_call 25; refine (hqq _ b5).mono ?_; rintro e w6 ⟨u6, rfl, r6, b6⟩; obtain ⟨a6, c6, rfl⟩ := r6.form)
              | (go_at_call 23; refine hho.mono ?_; rintro e w5 ⟨u5, rfl, r5, b5⟩; obtain ⟨a5, c5, rfl⟩ := r5.form))
            have b7 : Below w4.heap.size w4 w6 := bmm b5 b5.size b6
            go_roundw
            case rel => exact ⟨k + 1, L1, T1, qq1, _, hkl, by omega, by go_num, K4.out.fresh b7, by omega, HI1.out, bmm (bel2.trans b4) K4.out.base_le b7⟩
            case measure => simp [RowKit.intOf]; omega
          · have p0 : ((L1.length : Int) == 0) = false := by rw [beq_eq_false_iff_ne]; omega
            have hpos : decide (0 < L1.length) = true := decide_eq_true (by omega)
            rw [hpos, Bool.and_true] at hho
            cases hT : T1 with
            | false =>
              rw [hT] at hho
              clear hT hpos h0
              go_wp2_with (go_at_call 23; refine hho.mono ?_; rintro e w5 ⟨u5, rfl, r5, b5⟩; obtain ⟨a5, c5, rfl⟩ := r5.form)
              go_roundw
              case rel => exact ⟨k + 1, L1, T1, qq1, _, hkl, by omega, by go_num, K4.out.fresh b5, by omega, HI1.out, bmm (bel2.trans b4) K4.out.base_le b5⟩
              case measure => simp [RowKit.intOf]; omega
            | true =>
              have h1 := HI1.out.1 hT (by omega)
              have p2 : ((L1.length : Int) != 1) = false := by rw [bne_eq_false_iff_eq]; omega
              have H1 : Hid _ := h1
              rw [hT] at hho
              clear hT hpos h0 h1
              go_wp2_with (go_at_call 23; refine hho.mono ?_; rintro e w5 ⟨u5, rfl, r5, b5⟩; obtain ⟨a5, c5, rfl⟩ := r5.form)
              go_roundw
              case rel => exact ⟨k + 1, L1, T1, qq1, _, hkl, by omega, by go_num, K4.out.fresh b5, by omega, HI1.out, bmm (bel2.trans b4) K4.out.base_le b5⟩
              case measure => simp [RowKit.intOf]; omega
        | false =>
          go_wp2_with (go_at_call 25; refine hpq.mono ?_; rintro e w2 ⟨u2, rfl, r2, b2⟩; obtain ⟨a2, c2, rfl⟩ := r2.form; have y0 := (b2.cell (p := ⟨bk, off + k * 3, none⟩) (by exact hbw)).trans z0; have y1 := (b2.cell (p := ⟨bk, off + k * 3 + 1, none⟩) (by exact hbw)).trans z1; have y2 := (b2.cell (p := ⟨bk, off + k * 3 + 2, none⟩) (by exact hbw)).trans z2)
          have k2 := (HM.out.fresh b2).drew
          have bel2 : Below B w w2.drew := undrB2 (bmm bel hBw b2)
          clear hpq r2 HM bel z0 z1 z2
          have hbz : rwB L wt q t rd = true → q.length = 0 := rwB_queue
          generalize hbv : rwB L wt q t rd = bv at hbz
          generalize hzv : rwZ L q t = zv
          have HBZ : Hid _ := hbz
          have HBV : Hid _ := hbv
          have HZV : Hid _ := hzv
          clear hbz hbv hzv
          refine wp_region_held_drew (S := (fun w' : World => w'.cell? ⟨bk, off + k * 3, none⟩ = some (.int .i64 t) ∧ w'.cell? ⟨bk, off + k * 3 + 2, none⟩ = some (.bool rd))) (by kernel_rfl) ?_ (fun hHeld0 => ?_)
          · try dsimp only
            go_keep
          refine tk0 (.pointer (some ⟨Dx, 0, none⟩)) (by kernel_rfl) (by kernel_rfl) (by kernel_rfl) (fun _ _ _ h => h) rfl (fun w hSw => by (try dsimp only at hSw); obtain ⟨q0, q1⟩ := hSw; go_simp) (by assumption) ?_
          try simp only [Act.put, List.setIfInBounds_toArray, List.set_cons_zero, List.set_cons_succ]
          refine tk1 (.slice (some ⟨bk, off, none⟩) ds.length cap) (by kernel_rfl) (by kernel_rfl) (by kernel_rfl) (fun _ _ _ h => h) rfl (fun w hSw => by (try dsimp only at hSw); obtain ⟨q0, q1⟩ := hSw; go_simp) (by assumption) ?_
          try simp only [Act.put, List.setIfInBounds_toArray, List.set_cons_zero, List.set_cons_succ]
          refine tk2 (.int .i64 (k : Int)) (by kernel_rfl) (by kernel_rfl) (by kernel_rfl) (fun _ _ _ h => h) rfl (fun w hSw => by (try dsimp only at hSw); obtain ⟨q0, q1⟩ := hSw; go_simp) (by assumption) ?_
          try simp only [Act.put, List.setIfInBounds_toArray, List.set_cons_zero, List.set_cons_succ]
          refine tk3 (.pointer (some ⟨bk, off + k * 3, none⟩)) (by kernel_rfl) (by kernel_rfl) (by kernel_rfl) (fun _ _ _ h => h) rfl (fun w hSw => by (try dsimp only at hSw); obtain ⟨q0, q1⟩ := hSw; go_simp) (by assumption) ?_
          try simp only [Act.put, List.setIfInBounds_toArray, List.set_cons_zero, List.set_cons_succ]
          refine tk4 (.pointer (some ⟨bk, off + k * 3, none⟩)) (by kernel_rfl) (by kernel_rfl) (by kernel_rfl) (fun _ _ _ h => h) rfl (fun w hSw => by (try dsimp only at hSw); obtain ⟨q0, q1⟩ := hSw; go_simp) (by assumption) ?_
          try simp only [Act.put, List.setIfInBounds_toArray, List.set_cons_zero, List.set_cons_succ]
          refine tk5 (.int .i64 t) (by kernel_rfl) (by kernel_rfl) (by kernel_rfl) (fun _ _ _ h => h) rfl (fun w hSw => by (try dsimp only at hSw); obtain ⟨q0, q1⟩ := hSw; go_simp) (by assumption) ?_
          try simp only [Act.put, List.setIfInBounds_toArray, List.set_cons_zero, List.set_cons_succ]
          refine tk6 (.slice (some ⟨bk, off, none⟩) ds.length cap) (by kernel_rfl) (by kernel_rfl) (by kernel_rfl) (fun _ _ _ h => h) rfl (fun w hSw => by (try dsimp only at hSw); obtain ⟨q0, q1⟩ := hSw; go_simp) (by assumption) ?_
          try simp only [Act.put, List.setIfInBounds_toArray, List.set_cons_zero, List.set_cons_succ]
          refine tk7 (.int .i64 (k : Int)) (by kernel_rfl) (by kernel_rfl) (by kernel_rfl) (fun _ _ _ h => h) rfl (fun w hSw => by (try dsimp only at hSw); obtain ⟨q0, q1⟩ := hSw; go_simp) (by assumption) ?_
          try simp only [Act.put, List.setIfInBounds_toArray, List.set_cons_zero, List.set_cons_succ]
          refine tk8 (.pointer (some ⟨bk, off + k * 3, none⟩)) (by kernel_rfl) (by kernel_rfl) (by kernel_rfl) (fun _ _ _ h => h) rfl (fun w hSw => by (try dsimp only at hSw); obtain ⟨q0, q1⟩ := hSw; go_simp) (by assumption) ?_
          try simp only [Act.put, List.setIfInBounds_toArray, List.set_cons_zero, List.set_cons_succ]
          refine tk9 (.pointer (some ⟨bk, off + k * 3 + 2, none⟩)) (by kernel_rfl) (by kernel_rfl) (by kernel_rfl) (fun _ _ _ h => h) rfl (fun w hSw => by (try dsimp only at hSw); obtain ⟨q0, q1⟩ := hSw; go_simp) (by assumption) ?_
          try simp only [Act.put, List.setIfInBounds_toArray, List.set_cons_zero, List.set_cons_succ]
          refine tk10 (.bool rd) (by kernel_rfl) (by kernel_rfl) (by kernel_rfl) (fun _ _ _ h => h) rfl (fun w hSw => by (try dsimp only at hSw); obtain ⟨q0, q1⟩ := hSw; go_simp) (by assumption) ?_
          try simp only [Act.put, List.setIfInBounds_toArray, List.set_cons_zero, List.set_cons_succ]
          refine cl11 (by kernel_rfl) rfl (fun K hK => ?_)
          go_simp
          go_at_call 21
          refine (pr_lock k2 t hok rd (by omega)).mono ?_
          rw [HBV.out, HZV.out]
          rintro e w4 ⟨rfl, S4, g4, kk4⟩
          have b4 := k2.below kk4
          have s0 := (b4.cell (p := ⟨bk, off + k * 3, none⟩) (by exact hbk)).trans y0
          have s2 := (b4.cell (p := ⟨bk, off + k * 3 + 2, none⟩) (by exact hbk)).trans y2
          refine hK.out _ _ ?_ (fun hHeld => ?_)
          · try dsimp only
            go_keep
          clear hK K
          try simp only [Act.put, List.setIfInBounds_toArray, List.set_cons_zero, List.set_cons_succ]
          refine tk12 (.tuple #[.bool bv, .int .i64 zv]) (by kernel_rfl) (by kernel_rfl) (by kernel_rfl) (fun _ _ _ h => h) rfl (fun w hSw => by (try dsimp only at hSw); obtain ⟨q0, q1⟩ := hSw; go_simp) (by assumption) ?_
          try simp only [Act.put, List.setIfInBounds_toArray, List.set_cons_zero, List.set_cons_succ]
          refine tk13 (.bool bv) (by kernel_rfl) (by kernel_rfl) (by kernel_rfl) (fun _ _ _ h => h) rfl (fun w hSw => by (try dsimp only at hSw); obtain ⟨q0, q1⟩ := hSw; go_simp) (by assumption) ?_
          try simp only [Act.put, List.setIfInBounds_toArray, List.set_cons_zero, List.set_cons_succ]
          refine tk14 (.int .i64 zv) (by kernel_rfl) (by kernel_rfl) (by kernel_rfl) (fun _ _ _ h => h) rfl (fun w hSw => by (try dsimp only at hSw); obtain ⟨q0, q1⟩ := hSw; go_simp) (by assumption) ?_
          try simp only [Act.put, List.setIfInBounds_toArray, List.set_cons_zero, List.set_cons_succ]
          refine tk15 (.bool bv) (by kernel_rfl) (by kernel_rfl) (by kernel_rfl) (fun _ _ _ h => h) rfl (fun w hSw => by (try dsimp only at hSw); obtain ⟨q0, q1⟩ := hSw; go_simp) (by assumption) ?_
          try simp only [Act.put, List.setIfInBounds_toArray, List.set_cons_zero, List.set_cons_succ]
          refine tk16 (.int .i64 zv) (by kernel_rfl) (by kernel_rfl) (by kernel_rfl) (fun _ _ _ h => h) rfl (fun w hSw => by (try dsimp only at hSw); obtain ⟨q0, q1⟩ := hSw; go_simp) (by assumption) ?_
          try simp only [Act.put, List.setIfInBounds_toArray, List.set_cons_zero, List.set_cons_succ]
          refine wpAnyH_done (by kernel_rfl) ?_ _
          have hle := rwSt_len L wt q t rd
          have HINV := rwSt_inv t rd HI.out
          generalize hL1 : (rwSt L wt q t rd).1 = L1 at g4 hle HINV
          generalize hq1 : (rwSt L wt q t rd).2.2 = qq1 at g4 hle HINV
          generalize hT1 : (rwSt L wt q t rd).2.1 = T1 at g4 HINV
          clear hL1 hq1 hT1 HI k2 kk4 s0 s2 y0 y1 y2
          by_cases hz : zv = 0
          · have pz : (zv == 0) = true := by rw [beq_iff_eq]; exact hz
            have HZ0 : Hid _ := hz
            clear hz
            cases bv with
            | false =>
              have HI1 : Hid (Inv L1 T1 qq1) := HINV
              have hho := pr_holders g4
              have hqq := fun (w' : World) (k : Below w4.heap.size w4 w') => pr_queue (g4.fresh k)
              have K4 : Hid _ := g4
              clear g4
              by_cases h0 : L1.length = 0
              · have hq0 := HI1.out.2 h0
                have hbb : (T1 && decide (0 < L1.length)) = false := by rw [decide_eq_false (by omega), Bool.and_false]
                have p0 : ((L1.length : Int) == 0) = true := by rw [beq_iff_eq]; omega
                have p1 : decide (0 < qq1.length) = false := decide_eq_false (by omega)
                have H0 : Hid _ := h0
                have HQ0 : Hid _ := hq0
                rw [hbb] at hho
                clear h0 hq0 hbb
                go_wp2_with (first
                  | (go_at_call 25; refine (hqq _ b5).mono ?_; rintro e w6 ⟨u6, rfl, r6, b6⟩; obtain ⟨a6, c6, rfl⟩ := r6.form)
                  | (go_at_call 23; refine hho.mono ?_; rintro e w5 ⟨u5, rfl, r5, b5⟩; obtain ⟨a5, c5, rfl⟩ := r5.form))
                have b7 : Below w4.heap.size w4 w6 := bmm b5 b5.size b6
                go_roundw
                case rel => exact ⟨k + 1, L1, T1, qq1, _, hkl, by omega, by go_num, K4.out.fresh b7, by omega, HI1.out, bmm (bel2.trans b4) K4.out.base_le b7⟩
                case measure => simp [RowKit.intOf]; omega
              · have p0 : ((L1.length : Int) == 0) = false := by rw [beq_eq_false_iff_ne]; omega
                have hpos : decide (0 < L1.length) = true := decide_eq_true (by omega)
                rw [hpos, Bool.and_true] at hho
                cases hT : T1 with
                | false =>
                  rw [hT] at hho
                  clear hT hpos h0
                  go_wp2_with (go_at_call 23; refine hho.mono ?_; rintro e w5 ⟨u5, rfl, r5, b5⟩; obtain ⟨a5, c5, rfl⟩ := r5.form)
                  go_roundw
                  case rel => exact ⟨k + 1, L1, T1, qq1, _, hkl, by omega, by go_num, K4.out.fresh b5, by omega, HI1.out, bmm (bel2.trans b4) K4.out.base_le b5⟩
                  case measure => simp [RowKit.intOf]; omega
                | true =>
                  have h1 := HI1.out.1 hT (by omega)
                  have p2 : ((L1.length : Int) != 1) = false := by rw [bne_eq_false_iff_eq]; omega
                  have H1 : Hid _ := h1
                  rw [hT] at hho
                  clear hT hpos h0 h1
                  go_wp2_with (go_at_call 23; refine hho.mono ?_; rintro e w5 ⟨u5, rfl, r5, b5⟩; obtain ⟨a5, c5, rfl⟩ := r5.form)
                  go_roundw
                  case rel => exact ⟨k + 1, L1, T1, qq1, _, hkl, by omega, by go_num, K4.out.fresh b5, by omega, HI1.out, bmm (bel2.trans b4) K4.out.base_le b5⟩
                  case measure => simp [RowKit.intOf]; omega
            | true =>
              have hq00 := HBZ.out rfl
              have pq : decide (0 < q.length) = false := decide_eq_false (by omega)
              have HQ00 : Hid _ := hq00
              clear hq00
              have HI1 : Hid (Inv L1 T1 qq1) := HINV
              have hho := pr_holders g4
              have hqq := fun (w' : World) (k : Below w4.heap.size w4 w') => pr_queue (g4.fresh k)
              have K4 : Hid _ := g4
              clear g4
              by_cases h0 : L1.length = 0
              · have hq0 := HI1.out.2 h0
                have hbb : (T1 && decide (0 < L1.length)) = false := by rw [decide_eq_false (by omega), Bool.and_false]
                have p0 : ((L1.length : Int) == 0) = true := by rw [beq_iff_eq]; omega
                have p1 : decide (0 < qq1.length) = false := decide_eq_false (by omega)
                have H0 : Hid _ := h0
                have HQ0 : Hid _ := hq0
                rw [hbb] at hho
                clear h0 hq0 hbb
                go_wp2_with (first
                  | (go_at_call 25; refine (hqq _ b5).mono ?_; rintro e w6 ⟨u6, rfl, r6, b6⟩; obtain ⟨a6, c6, rfl⟩ := r6.form)
                  | (go_at_call 23; refine hho.mono ?_; rintro e w5 ⟨u5, rfl, r5, b5⟩; obtain ⟨a5, c5, rfl⟩ := r5.form))
                have b7 : Below w4.heap.size w4 w6 := bmm b5 b5.size b6
                go_roundw
                case rel => exact ⟨k + 1, L1, T1, qq1, _, hkl, by omega, by go_num, K4.out.fresh b7, by omega, HI1.out, bmm (bel2.trans b4) K4.out.base_le b7⟩
                case measure => simp [RowKit.intOf]; omega
              · have p0 : ((L1.length : Int) == 0) = false := by rw [beq_eq_false_iff_ne]; omega
                have hpos : decide (0 < L1.length) = true := decide_eq_true (by omega)
                rw [hpos, Bool.and_true] at hho
                cases hT : T1 with
                | false =>
                  rw [hT] at hho
                  clear hT hpos h0
                  go_wp2_with (go_at_call 23; refine hho.mono ?_; rintro e w5 ⟨u5, rfl, r5, b5⟩; obtain ⟨a5, c5, rfl⟩ := r5.form)
                  go_roundw
                  case rel => exact ⟨k + 1, L1, T1, qq1, _, hkl, by omega, by go_num, K4.out.fresh b5, by omega, HI1.out, bmm (bel2.trans b4) K4.out.base_le b5⟩
                  case measure => simp [RowKit.intOf]; omega
                | true =>
                  have h1 := HI1.out.1 hT (by omega)
                  have p2 : ((L1.length : Int) != 1) = false := by rw [bne_eq_false_iff_eq]; omega
                  have H1 : Hid _ := h1
                  rw [hT] at hho
                  clear hT hpos h0 h1
                  go_wp2_with (go_at_call 23; refine hho.mono ?_; rintro e w5 ⟨u5, rfl, r5, b5⟩; obtain ⟨a5, c5, rfl⟩ := r5.form)
                  go_roundw
                  case rel => exact ⟨k + 1, L1, T1, qq1, _, hkl, by omega, by go_num, K4.out.fresh b5, by omega, HI1.out, bmm (bel2.trans b4) K4.out.base_le b5⟩
                  case measure => simp [RowKit.intOf]; omega
          · have pz : (zv == 0) = false := by rw [beq_eq_false_iff_ne]; exact hz
            clear hz
            have HI1 : Hid (Inv L1 T1 qq1) := HINV
            have hho := pr_holders g4
            have hqq := fun (w' : World) (k : Below w4.heap.size w4 w') => pr_queue (g4.fresh k)
            have K4 : Hid _ := g4
            clear g4
            by_cases h0 : L1.length = 0
            · have hq0 := HI1.out.2 h0
              have hbb : (T1 && decide (0 < L1.length)) = false := by rw [decide_eq_false (by omega), Bool.and_false]
              have p0 : ((L1.length : Int) == 0) = true := by rw [beq_iff_eq]; omega
              have p1 : decide (0 < qq1.length) = false := decide_eq_false (by omega)
              have H0 : Hid _ := h0
              have HQ0 : Hid _ := hq0
              rw [hbb] at hho
              clear h0 hq0 hbb
              go_wp2_with (first
                | (go_at_call 25; refine (hqq _ b5).mono ?_; rintro e w6 ⟨u6, rfl, r6, b6⟩; obtain ⟨a6, c6, rfl⟩ := r6.form)
                | (go_at_call 23; refine hho.mono ?_; rintro e w5 ⟨u5, rfl, r5, b5⟩; obtain ⟨a5, c5, rfl⟩ := r5.form))
              have b7 : Below w4.heap.size w4 w6 := bmm b5 b5.size b6
              go_roundw
              case rel => exact ⟨k + 1, L1, T1, qq1, _, hkl, by omega, by go_num, K4.out.fresh b7, by omega, HI1.out, bmm (bel2.trans b4) K4.out.base_le b7⟩
              case measure => simp [RowKit.intOf]; omega
            · have p0 : ((L1.length : Int) == 0) = false := by rw [beq_eq_false_iff_ne]; omega
              have hpos : decide (0 < L1.length) = true := decide_eq_true (by omega)
              rw [hpos, Bool.and_true] at hho
              cases hT : T1 with
              | false =>
                rw [hT] at hho
                clear hT hpos h0
                go_wp2_with (go_at_call 23; refine hho.mono ?_; rintro e w5 ⟨u5, rfl, r5, b5⟩; obtain ⟨a5, c5, rfl⟩ := r5.form)
                go_roundw
                case rel => exact ⟨k + 1, L1, T1, qq1, _, hkl, by omega, by go_num, K4.out.fresh b5, by omega, HI1.out, bmm (bel2.trans b4) K4.out.base_le b5⟩
                case measure => simp [RowKit.intOf]; omega
              | true =>
                have h1 := HI1.out.1 hT (by omega)
                have p2 : ((L1.length : Int) != 1) = false := by rw [bne_eq_false_iff_eq]; omega
                have H1 : Hid _ := h1
                rw [hT] at hho
                clear hT hpos h0 h1
                go_wp2_with (go_at_call 23; refine hho.mono ?_; rintro e w5 ⟨u5, rfl, r5, b5⟩; obtain ⟨a5, c5, rfl⟩ := r5.form)
                go_roundw
                case rel => exact ⟨k + 1, L1, T1, qq1, _, hkl, by omega, by go_num, K4.out.fresh b5, by omega, HI1.out, bmm (bel2.trans b4) K4.out.base_le b5⟩
                case measure => simp [RowKit.intOf]; omega
      · have hke : k = 200 := by omega
        have q0 : decide ((k : Int) < (ds.length : Int)) = true := decide_eq_true (by omega)
        have q1 : decide ((k : Int) < (200 : Int)) = false := decide_eq_false (by omega)
        clear hM hI
        go_wp2_with (go_at_call 17; refine (awake_any _).mono ?_; rintro e w9 ⟨rfl, b9⟩)
        go_ret
        exact ⟨rfl, bmm bel hBw b9⟩
    · have q0 : decide ((k : Int) < (ds.length : Int)) = false := decide_eq_false (by omega)
      clear hM hI
      go_wp2_with (go_at_call 17; refine (awake_any _).mono ?_; rintro e w9 ⟨rfl, b9⟩)
      go_ret
      exact ⟨rfl, bmm bel hBw b9⟩
end Go.Proofs.Ytlcacjekpdmigaa
