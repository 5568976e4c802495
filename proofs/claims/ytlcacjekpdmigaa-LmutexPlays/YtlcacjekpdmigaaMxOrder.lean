/-
  LmutexOrder of layer 8, walked: a mutex goes round in the order of asking, whoever asks. The condition: the numbers lie in memory as their reading says.
-/
import Derived.Test.YtlcacjekpdmigaaMxPlays
namespace Go.Proofs.Ytlcacjekpdmigaa
open Go.RowKit

/-- Who holds it and who waits are those that asked, in order. -/
def Ord (who : Int) (l : List Int) (asked : List Int) : Prop := (who = -1 ∧ l = [] ∧ asked = []) ∨ (0 ≤ who ∧ (∀ x ∈ l, 0 ≤ x) ∧ asked = who :: l)
theorem ord_lock {who : Int} {l asked : List Int} {t : Int} (h : Ord who l asked) (hz : lockZ who l t = 0) : Ord (lockW who l t) (lockL who l t) (asked ++ [t]) := by
  have h1 : ¬ t < 0 := fun h => by unfold lockZ at hz; rw [if_pos h] at hz; cases hz
  have h2 : ¬ (who = t ∨ t ∈ l) := fun h => by unfold lockZ at hz; rw [if_neg h1, if_pos h] at hz; cases hz
  rcases h with ⟨rfl, rfl, rfl⟩ | ⟨h3, h4, rfl⟩
  · have e1 : lockB (-1) [] t = true := decide_eq_true ⟨by omega, by omega, by simp, by decide⟩
    have e2 : lockW (-1) [] t = t := by unfold lockW; rw [e1]; rfl
    have e3 : lockL (-1) [] t = [] := by unfold lockL; rw [if_neg (fun h => h.2 (by decide))]
    rw [e2, e3]
    exact Or.inr ⟨by omega, fun x hx => (by cases hx), rfl⟩
  · have e1 : lockB who l t = false := decide_eq_false (fun h => by omega)
    have e2 : lockW who l t = who := by unfold lockW; rw [e1]; rfl
    have e3 : lockL who l t = l ++ [t] := by unfold lockL; rw [if_pos ⟨hz, by omega⟩]
    rw [e2, e3]
    refine Or.inr ⟨h3, fun x hx => ?_, rfl⟩
    rcases List.mem_append.1 hx with hx | hx
    · exact h4 x hx
    · rw [List.mem_singleton] at hx
      omega
theorem ord_no {who : Int} {l asked : List Int} {t : Int} (h : Ord who l asked) (hz : ¬ lockZ who l t = 0) : lockW who l t = who ∧ lockL who l t = l ∧ (0 ≤ t → hasB asked t = true) := by
  have e1 : lockB who l t = false := decide_eq_false (fun ⟨a, b, c, _⟩ => hz (by unfold lockZ; rw [if_neg (by omega), if_neg (fun h => h.elim b c)]))
  refine ⟨by unfold lockW; rw [e1]; rfl, by unfold lockL; rw [if_neg (fun h => hz h.1)], fun h0 => ?_⟩
  have h2 : who = t ∨ t ∈ l := Classical.byContradiction fun h => hz (by unfold lockZ; rw [if_neg (by omega), if_neg h])
  rcases h with ⟨rfl, rfl, rfl⟩ | ⟨h3, h4, rfl⟩
  · rcases h2 with h2 | h2
    · omega
    · cases h2
  · refine decide_eq_true ?_
    rcases h2 with h2 | h2
    · rw [h2]
      exact List.mem_cons_self
    · exact List.mem_cons_of_mem _ h2
theorem ord_unlock {who : Int} {l rest : List Int} {x : Int} (h : Ord who l (x :: rest)) : x = who ∧ l = rest ∧ unZ who x = 0 ∧ unN who l x = rest.headD (-1) ∧ Ord (unW who l x) (unL who l x) rest := by
  rcases h with ⟨_, _, h⟩ | ⟨h3, h4, h⟩
  · cases h
  · cases h
    have hn : ¬ (who < 0 ∨ ¬ who = who) := by omega
    refine ⟨rfl, rfl, by unfold unZ; rw [if_neg hn], by unfold unN; rw [if_neg hn], ?_⟩
    unfold unW unL
    rw [if_neg hn, if_neg hn]
    cases l with
    | nil => exact Or.inl ⟨rfl, rfl, rfl⟩
    | cons y r => exact Or.inr ⟨h4 y (by simp), fun z hz => h4 z (List.mem_cons_of_mem _ hz), rfl⟩
set_option maxHeartbeats 6400000 in
set_option maxRecDepth 100000 in
theorem order_walk (w : World) (v : Value) (xs : List Int) (hv : RowAt intC w v xs) (hlo : ∀ x ∈ xs, okI x) (hmx : xs.length ≤ 9223372036854775807) :
    Calls Try.prog 5 #[v] w fun e w' => e = .returned (.bool true) ∧ Below w.heap.size w w' := by
  obtain ⟨i0, hi, hz0, hz1, hz2⟩ := info_parts infoI
  have hn := pm_new w
  obtain ⟨a, cap, rfl⟩ := hv.form
  obtain ⟨B, hB⟩ : ∃ B, B = w.heap.size := ⟨_, rfl⟩
  have HBE : Hid (B = w.heap.size) := hB
  rw [← hB] at hn ⊢
  have HA : Hid _ := hv
  have HLO : Hid _ := hlo
  clear hv hlo hB
  go_enter Try.func5, Try.ntmps5
  go_wp2_with (go_at_call 8; refine hn.mono ?_; rintro e w1 ⟨Dx, Sx, rfl, k1, b1⟩)
  have HST : Hid _ := k1
  have HST2 : Hid _ := b1
  clear k1 b1 hn
  go_loopw [4, 5, 6, 7] (fun g i _ _ wr => ∃ (k : Nat) (who : Int) (l asked : List Int) (S : Nat → Prop), k ≤ xs.length ∧ k ≤ 200 ∧ i = .int .i64 k ∧ PMx wr B Dx S who l ∧ l.length ≤ k ∧ asked.length ≤ k ∧ wr.ownsRow B 3 1 g asked.length (intL asked) ∧ (∀ x, g.ownBlock = some x → ¬ S x) ∧ Hid (Ord who l asked) ∧ Hid (∀ x ∈ asked, okI x) ∧ Below B w wr) (fun _ i _ _ _ => xs.length - (RowKit.intOf i).toNat)
  case atStart => exact ⟨0, -1, [], [], _, Nat.zero_le _, Nat.zero_le _, rfl, HST.out, Nat.le_refl _, Nat.le_refl _, World.ownsRow_nil _ _ _ _, fun x e => (by simp [Value.ownBlock] at e), Or.inl ⟨rfl, rfl, rfl⟩, fun x hx => (by cases hx), HST2.out⟩
  case round =>
    clear HST HST2
    obtain ⟨k, who, l, asked, S, hk, hk2, rfl, hM, hlk, hak, hown, hne, HO, HAL, bel⟩ := hrel
    obtain ⟨pg, ng, mg, rfl⟩ := own_form hown
    have hBw : B ≤ wr.heap.size := hM.base_le
    by_cases hgo : k < xs.length ∧ k < 200
    · obtain ⟨hkl, hkm⟩ := hgo
      have q0 : decide ((k : Int) < (xs.length : Int)) = true := decide_eq_true (by omega)
      have q1 : decide ((k : Int) < (200 : Int)) = true := decide_eq_true (by omega)
      obtain ⟨bk, off, cp, e, _, hbk, hx⟩ := HA.out.cells intC_len (by omega)
      simp only [Value.slice.injEq] at e
      obtain ⟨rfl, _, rfl⟩ := e
      rw [← HBE.out] at hbk
      have z00 := (bel.cell (p := ⟨bk, off + k * 1 + 0, none⟩) (by exact hbk)).trans (hx k hkl 0 _ (by decide) rfl)
      have z0 : wr.cell? ⟨bk, off + k, none⟩ = some (.int .i64 xs[k]) := by rw [Nat.mul_one, Nat.add_zero] at z00; exact z00
      have hok := HLO.out _ (List.getElem_mem hkl)
      clear hx z00
      generalize xs[k] = t at *
      have hpl := pm_lock hM t hok (by omega)
      have HM : Hid _ := hM
      have HOW : Hid (wr.ownsRow B 3 1 (.slice pg ng mg) asked.length (intL asked)) := hown
      have HNE : Hid _ := hne
      have hll := lockL_le who l t
      clear hM hown hne
      by_cases hz : lockZ who l t = 0
      · rw [hz] at hpl
        have HO2 : Hid _ := ord_lock HO.out hz
        generalize lockW who l t = who2 at *
        generalize lockL who l t = l2 at *
        generalize lockB who l t = lb at *
        have HZ : Hid _ := hz
        clear HO hz
        go_wp2_with (first
          | (at_builtin; refine wpList_app_row (k := 1) (enc := intC) (l := [t]) rfl (.tmp 36) (.tmp 41) 39 3 rfl i0 _ 8 Try.underlying39 hi hz0 hz1 hz2 rfl (by decide) intC_len intC_one rfl rfl (o2.alloc _) (RowAt.built (heap_alloc_new w2 _) rfl 1 rfl rfl) (by have := k2.base_le; simp; omega) (by simp; omega) (by simp; omega) ?_; intro u3 w3 h3 k3)
          | (go_at_call 12; refine hpl.mono ?_; rintro e w2 ⟨rfl, S2, k2, kk2⟩; have b2 := HM.out.below kk2; have o2 : w2.ownsRow B 3 1 (.slice pg ng mg) asked.length (intL asked) := own_keep HOW.out (fun g e => kk2.kept g (World.ownsRow.lt HOW.out g e).2 (HNE.out g e)); have y0 := (b2.cell (p := ⟨bk, off + k, none⟩) (by exact hbk)).trans z0))
        have hN2 : ∀ x, (Value.slice pg ng mg).ownBlock = some x → ¬ S2 x := fun x e h2 => by
          rcases kk2.old x h2 with h | h
          · exact HNE.out x e h
          · have := (World.ownsRow.lt HOW.out x e).2
            omega
        have hM3 : PMx w3 B Dx S2 who2 l2 := k2.keep (Nat.le_trans (by simp) k3.below.size) (fun b hb => by
          have hlt := (k2.bd b hb).2
          rw [k3.rest b (by simp; omega) (fun e => hN2 b e.symm hb), Below.heap_alloc _ _ _ hlt])
        have b3 : Below B w w3 := ((bel.trans b2).alloc k2.base_le _).trans k3.below
        go_roundw
        case rel =>
          refine ⟨k + 1, who2, l2, asked ++ [t], S2, hkl, by omega, by go_num, hM3, by omega, by simp; omega, ?_, fun x e h2 => ?_, HO2.out, fun x hx => ?_, b3⟩
          · have e4 : intL (asked ++ [t]) = intL asked ++ rowL intC [t] := by rw [rowL_int]; unfold intL; simp
            rw [e4, List.length_append]
            exact h3
          · rcases k3.lies with h8 | h8
            · rw [h8] at e
              exact hN2 x e h2
            · rw [h8] at e
              simp at e
              have := (k2.bd x h2).2
              omega
          · rcases List.mem_append.1 hx with hx | hx
            · exact HAL.out x hx
            · rw [List.mem_singleton] at hx
              rw [hx]
              exact hok
        case measure => simp [RowKit.intOf]; omega
      · have pz : (lockZ who l t == 0) = false := by rw [beq_eq_false_iff_ne]; exact hz
        obtain ⟨e1, e2, e3⟩ := ord_no HO.out hz
        rw [e1, e2] at hpl
        have HE3 : Hid _ := e3
        clear hz e1 e2 e3
        generalize lockZ who l t = lz at *
        generalize lockB who l t = lb at *
        by_cases ht : 0 ≤ t
        · have pt : decide (0 ≤ t) = true := decide_eq_true ht
          have hhas : hasB asked t = true := HE3.out ht
          clear ht
          go_wp2_with (first
            | (go_at_call 26; refine ((has_any w2 _ asked t ((RowAt.own (k := 1) (T := 3) (base := B) intC_len (by rw [rowL_int]; exact o2)).ints HAL.out (by omega))).mono (fun e w' h => (⟨h.1, h.2.symm⟩ : e = .returned (.bool (hasB asked t)) ∧ w2 = w'))).mono ?_; rw [hhas]; rintro e w3 ⟨rfl, rfl⟩)
            | (go_at_call 12; refine hpl.mono ?_; rintro e w2 ⟨rfl, S2, k2, kk2⟩; have b2 := HM.out.below kk2; have o2 : w2.ownsRow B 3 1 (.slice pg ng mg) asked.length (intL asked) := own_keep HOW.out (fun g e => kk2.kept g (World.ownsRow.lt HOW.out g e).2 (HNE.out g e)); have y0 := (b2.cell (p := ⟨bk, off + k, none⟩) (by exact hbk)).trans z0))
          go_roundw
          case rel =>
            refine ⟨k + 1, who, l, asked, S2, hkl, by omega, by go_num, k2, by omega, by omega, o2, fun x e h2 => ?_, HO, HAL, bel.trans b2⟩
            rcases kk2.old x h2 with h | h
            · exact HNE.out x e h
            · have := (World.ownsRow.lt HOW.out x e).2
              omega
          case measure => simp [RowKit.intOf]; omega
        · have pt : decide (0 ≤ t) = false := decide_eq_false ht
          clear ht
          go_wp2_with (go_at_call 12; refine hpl.mono ?_; rintro e w2 ⟨rfl, S2, k2, kk2⟩; have b2 := HM.out.below kk2; have o2 : w2.ownsRow B 3 1 (.slice pg ng mg) asked.length (intL asked) := own_keep HOW.out (fun g e => kk2.kept g (World.ownsRow.lt HOW.out g e).2 (HNE.out g e)); have y0 := (b2.cell (p := ⟨bk, off + k, none⟩) (by exact hbk)).trans z0)
          go_roundw
          case rel =>
            refine ⟨k + 1, who, l, asked, S2, hkl, by omega, by go_num, k2, by omega, by omega, o2, fun x e h2 => ?_, HO, HAL, bel.trans b2⟩
            rcases kk2.old x h2 with h | h
            · exact HNE.out x e h
            · have := (World.ownsRow.lt HOW.out x e).2
              omega
          case measure => simp [RowKit.intOf]; omega
    · have HOW : Hid (wr.ownsRow B 3 1 (.slice pg ng mg) asked.length (intL asked)) := hown
      obtain ⟨a2, c2, e2⟩ := (RowAt.own (k := 1) (T := 3) (base := B) (l := asked) intC_len (by rw [rowL_int]; exact hown)).form
      simp only [Value.slice.injEq] at e2
      obtain ⟨-, e3, -⟩ := e2
      subst e3
      have HM : Hid _ := hM
      have HNE : Hid _ := hne
      have hcond : (¬ k < xs.length) ∨ (k < xs.length ∧ ¬ k < 200) := by
        by_cases h : k < xs.length
        · exact Or.inr ⟨h, by omega⟩
        · exact Or.inl h
      clear hM hown hne hgo
      rcases hcond with hkl | ⟨hkl, hkm⟩
      · have q0 : decide ((k : Int) < (xs.length : Int)) = false := decide_eq_false (by omega)
        go_wp2
        go_loopw [8, 9, 10, 11] (fun i _ _ _ wr => ∃ (j : Nat) (who : Int) (l : List Int) (S : Nat → Prop), j ≤ asked.length ∧ i = .int .i64 j ∧ PMx wr B Dx S who l ∧ wr.ownsRow B 3 1 (.slice pg asked.length mg) asked.length (intL asked) ∧ (∀ x, (Value.slice pg asked.length mg).ownBlock = some x → ¬ S x) ∧ Hid (Ord who l (asked.drop j)) ∧ Below B w wr) (fun i _ _ _ _ => asked.length - (RowKit.intOf i).toNat)
        case atStart => exact ⟨0, who, l, S, Nat.zero_le _, rfl, HM.out, HOW.out, HNE.out, HO.out, bel⟩
        case round =>
          clear HM HOW HNE HO bel hlk
          obtain ⟨j, who, l, S, hj, rfl, hM, hown, hne, HO, bel⟩ := hrel
          have hBw : B ≤ wr.heap.size := hM.base_le
          have HM : Hid _ := hM
          have HNE : Hid _ := hne
          have HOW : Hid (wr.ownsRow B 3 1 (.slice pg asked.length mg) asked.length (intL asked)) := hown
          by_cases hjl : j < asked.length
          · have hro : RowAt intC wr (.slice pg asked.length mg) asked := RowAt.own (k := 1) (T := 3) (base := B) intC_len (by rw [rowL_int]; exact hown)
            obtain ⟨bg, og, cg, e, _, hbg, hx⟩ := hro.cells intC_len (by omega)
            simp only [Value.slice.injEq] at e
            obtain ⟨rfl, _, rfl⟩ := e
            have z0 : wr.cell? ⟨bg, og + j, none⟩ = some (.int .i64 asked[j]) := by
              have := hx j hjl 0 _ (by decide) rfl
              rw [Nat.mul_one, Nat.add_zero] at this
              exact this
            have hgS := hne bg rfl
            have ho := HO.out
            rw [List.drop_eq_getElem_cons hjl] at ho
            obtain ⟨e1, e2, e3, e4, e5⟩ := ord_unlock ho
            have hpu := pm_unlock hM asked[j]
            rw [e3, e4] at hpu
            have HO2 : Hid _ := e5
            have zn : ∀ h : j + 1 < asked.length, wr.cell? ⟨bg, og + (j + 1), none⟩ = some (.int .i64 asked[j + 1]) := fun h => by
              have := hx (j + 1) h 0 _ (by decide) rfl
              rw [Nat.mul_one, Nat.add_zero] at this
              exact this
            have q2 : decide ((j : Int) < (asked.length : Int)) = true := decide_eq_true (by omega)
            clear hx ho e1 e2 e3 e4 e5 hM hown hne hro
            by_cases hj1 : j + 1 < asked.length
            · have hd : (asked.drop (j + 1)).headD (-1) = asked[j + 1] := by
                rw [List.drop_eq_getElem_cons hj1]
                rfl
              rw [hd] at hpu
              have z1 := zn hj1
              have q3 : decide ((j : Int) + 1 < (asked.length : Int)) = true := decide_eq_true (by omega)
              clear hd zn
              generalize unW who l asked[j] = who2 at *
              generalize unL who l asked[j] = l2 at *
              generalize asked[j] = t at *
              generalize asked[j + 1] = t2 at *
              go_wp2_with (go_at_call 10; refine hpu.mono ?_; rintro e w2 ⟨rfl, S2, k2, kk2⟩; have b2 := HM.out.below kk2; have y1 := (World.cell?_of_block (kk2.kept bg hbg hgS)).trans z1)
              go_roundw
              case rel => exact ⟨j + 1, who2, l2, S2, by omega, by go_num, k2, own_keep HOW.out (fun g e => kk2.kept g (World.ownsRow.lt HOW.out g e).2 (HNE.out g e)), fun x e h2 => by
                rcases kk2.old x h2 with h | h
                · exact HNE.out x e h
                · have := (World.ownsRow.lt HOW.out x e).2
                  omega, HO2.out, bel.trans b2⟩
              case measure => simp [RowKit.intOf]; omega
            · have hd : (asked.drop (j + 1)).headD (-1) = -1 := by
                rw [List.drop_eq_nil_of_le (by omega)]
                rfl
              rw [hd] at hpu
              have q3 : decide ((j : Int) + 1 < (asked.length : Int)) = false := decide_eq_false (by omega)
              clear hd zn
              generalize unW who l asked[j] = who2 at *
              generalize unL who l asked[j] = l2 at *
              generalize asked[j] = t at *
              go_wp2_with (go_at_call 10; refine hpu.mono ?_; rintro e w2 ⟨rfl, S2, k2, kk2⟩; have b2 := HM.out.below kk2)
              go_roundw
              case rel => exact ⟨j + 1, who2, l2, S2, by omega, by go_num, k2, own_keep HOW.out (fun g e => kk2.kept g (World.ownsRow.lt HOW.out g e).2 (HNE.out g e)), fun x e h2 => by
                rcases kk2.old x h2 with h | h
                · exact HNE.out x e h
                · have := (World.ownsRow.lt HOW.out x e).2
                  omega, HO2.out, bel.trans b2⟩
              case measure => simp [RowKit.intOf]; omega
          · have q2 : decide ((j : Int) < (asked.length : Int)) = false := decide_eq_false (by omega)
            have ho := HO.out
            rw [List.drop_eq_nil_of_le (by omega)] at ho
            have hw : who = -1 := by
              rcases ho with ⟨h, _⟩ | ⟨_, _, h⟩
              · exact h
              · cases h
            have hph := pm_holder hM
            rw [hw] at hph
            clear ho hw hM hown hne HO
            go_wp2_with (first
              | (go_at_call 17; refine (awake_any _).mono ?_; rintro e w9 ⟨rfl, b9⟩)
              | (go_at_call 14; refine hph.mono ?_; rintro e w2 ⟨rfl, rfl⟩))
            go_ret
            exact ⟨rfl, bmm bel hBw b9⟩
      · have q0 : decide ((k : Int) < (xs.length : Int)) = true := decide_eq_true (by omega)
        have q1 : decide ((k : Int) < (200 : Int)) = false := decide_eq_false (by omega)
        go_wp2
        go_loopw [8, 9, 10, 11] (fun i _ _ _ wr => ∃ (j : Nat) (who : Int) (l : List Int) (S : Nat → Prop), j ≤ asked.length ∧ i = .int .i64 j ∧ PMx wr B Dx S who l ∧ wr.ownsRow B 3 1 (.slice pg asked.length mg) asked.length (intL asked) ∧ (∀ x, (Value.slice pg asked.length mg).ownBlock = some x → ¬ S x) ∧ Hid (Ord who l (asked.drop j)) ∧ Below B w wr) (fun i _ _ _ _ => asked.length - (RowKit.intOf i).toNat)
        case atStart => exact ⟨0, who, l, S, Nat.zero_le _, rfl, HM.out, HOW.out, HNE.out, HO.out, bel⟩
        case round =>
          clear HM HOW HNE HO bel hlk
          obtain ⟨j, who, l, S, hj, rfl, hM, hown, hne, HO, bel⟩ := hrel
          have hBw : B ≤ wr.heap.size := hM.base_le
          have HM : Hid _ := hM
          have HNE : Hid _ := hne
          have HOW : Hid (wr.ownsRow B 3 1 (.slice pg asked.length mg) asked.length (intL asked)) := hown
          by_cases hjl : j < asked.length
          · have hro : RowAt intC wr (.slice pg asked.length mg) asked := RowAt.own (k := 1) (T := 3) (base := B) intC_len (by rw [rowL_int]; exact hown)
            obtain ⟨bg, og, cg, e, _, hbg, hx⟩ := hro.cells intC_len (by omega)
            simp only [Value.slice.injEq] at e
            obtain ⟨rfl, _, rfl⟩ := e
            have z0 : wr.cell? ⟨bg, og + j, none⟩ = some (.int .i64 asked[j]) := by
              have := hx j hjl 0 _ (by decide) rfl
              rw [Nat.mul_one, Nat.add_zero] at this
              exact this
            have hgS := hne bg rfl
            have ho := HO.out
            rw [List.drop_eq_getElem_cons hjl] at ho
            obtain ⟨e1, e2, e3, e4, e5⟩ := ord_unlock ho
            have hpu := pm_unlock hM asked[j]
            rw [e3, e4] at hpu
            have HO2 : Hid _ := e5
            have zn : ∀ h : j + 1 < asked.length, wr.cell? ⟨bg, og + (j + 1), none⟩ = some (.int .i64 asked[j + 1]) := fun h => by
              have := hx (j + 1) h 0 _ (by decide) rfl
              rw [Nat.mul_one, Nat.add_zero] at this
              exact this
            have q2 : decide ((j : Int) < (asked.length : Int)) = true := decide_eq_true (by omega)
            clear hx ho e1 e2 e3 e4 e5 hM hown hne hro
            by_cases hj1 : j + 1 < asked.length
            · have hd : (asked.drop (j + 1)).headD (-1) = asked[j + 1] := by
                rw [List.drop_eq_getElem_cons hj1]
                rfl
              rw [hd] at hpu
              have z1 := zn hj1
              have q3 : decide ((j : Int) + 1 < (asked.length : Int)) = true := decide_eq_true (by omega)
              clear hd zn
              generalize unW who l asked[j] = who2 at *
              generalize unL who l asked[j] = l2 at *
              generalize asked[j] = t at *
              generalize asked[j + 1] = t2 at *
              go_wp2_with (go_at_call 10; refine hpu.mono ?_; rintro e w2 ⟨rfl, S2, k2, kk2⟩; have b2 := HM.out.below kk2; have y1 := (World.cell?_of_block (kk2.kept bg hbg hgS)).trans z1)
              go_roundw
              case rel => exact ⟨j + 1, who2, l2, S2, by omega, by go_num, k2, own_keep HOW.out (fun g e => kk2.kept g (World.ownsRow.lt HOW.out g e).2 (HNE.out g e)), fun x e h2 => by
                rcases kk2.old x h2 with h | h
                · exact HNE.out x e h
                · have := (World.ownsRow.lt HOW.out x e).2
                  omega, HO2.out, bel.trans b2⟩
              case measure => simp [RowKit.intOf]; omega
            · have hd : (asked.drop (j + 1)).headD (-1) = -1 := by
                rw [List.drop_eq_nil_of_le (by omega)]
                rfl
              rw [hd] at hpu
              have q3 : decide ((j : Int) + 1 < (asked.length : Int)) = false := decide_eq_false (by omega)
              clear hd zn
              generalize unW who l asked[j] = who2 at *
              generalize unL who l asked[j] = l2 at *
              generalize asked[j] = t at *
              go_wp2_with (go_at_call 10; refine hpu.mono ?_; rintro e w2 ⟨rfl, S2, k2, kk2⟩; have b2 := HM.out.below kk2)
              go_roundw
              case rel => exact ⟨j + 1, who2, l2, S2, by omega, by go_num, k2, own_keep HOW.out (fun g e => kk2.kept g (World.ownsRow.lt HOW.out g e).2 (HNE.out g e)), fun x e h2 => by
                rcases kk2.old x h2 with h | h
                · exact HNE.out x e h
                · have := (World.ownsRow.lt HOW.out x e).2
                  omega, HO2.out, bel.trans b2⟩
              case measure => simp [RowKit.intOf]; omega
          · have q2 : decide ((j : Int) < (asked.length : Int)) = false := decide_eq_false (by omega)
            have ho := HO.out
            rw [List.drop_eq_nil_of_le (by omega)] at ho
            have hw : who = -1 := by
              rcases ho with ⟨h, _⟩ | ⟨_, _, h⟩
              · exact h
              · cases h
            have hph := pm_holder hM
            rw [hw] at hph
            clear ho hw hM hown hne HO
            go_wp2_with (first
              | (go_at_call 17; refine (awake_any _).mono ?_; rintro e w9 ⟨rfl, b9⟩)
              | (go_at_call 14; refine hph.mono ?_; rintro e w2 ⟨rfl, rfl⟩))
            go_ret
            exact ⟨rfl, bmm bel hBw b9⟩
end Go.Proofs.Ytlcacjekpdmigaa
