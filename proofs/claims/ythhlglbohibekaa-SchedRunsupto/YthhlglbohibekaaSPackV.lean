/-
  Parts of the proof, laid together: ScRunAll. The conditions stand at each part.
-/
import Derived.Test.YthhlglbohibekaaSPackU
namespace Go.Proofs.Ythhlglbohibekaa
open Go.RowKit

def placeR (n : Nat) (picks : List Int) (i : Nat) : Nat := match picks[i]? with | some p => (p % (n : Int)).toNat | none => 0
def runR (picks : List Int) : Nat → Nat → List Tk → List (Int × Ob) → List Opx × List Tk × List (Int × Ob)
  | 0, _, T, L => ([], T, L)
  | f + 1, i, T, L => match (readyL T)[placeR (readyL T).length picks i]? with
    | none => ([], T, L)
    | some z => ((spR T L z).1 :: (runR picks f (i + 1) (spR T L z).2.2.1 (spR T L z).2.2.2).1, (runR picks f (i + 1) (spR T L z).2.2.1 (spR T L z).2.2.2).2)
theorem placeR_lt (n : Nat) (picks : List Int) (i : Nat) (hn : 0 < n) : placeR n picks i < n := by
  unfold placeR
  split
  · rename_i p _
    have h1 := Int.emod_nonneg p (show (n : Int) ≠ 0 by omega)
    have h2 := Int.emod_lt_of_pos p (show (0 : Int) < (n : Int) by omega)
    omega
  · exact hn
theorem tmod_at (p : Int) (n : Nat) (hn : 0 < n) : (if p.tmod (n : Int) < 0 then p.tmod (n : Int) + (n : Int) else p.tmod (n : Int)) = p % (n : Int) := by
  have h1 := Int.emod_nonneg p (show (n : Int) ≠ 0 by omega)
  have h2 := Int.emod_lt_of_pos p (show (0 : Int) < (n : Int) by omega)
  rw [Int.tmod_eq_emod]
  by_cases h3 : 0 ≤ p ∨ (n : Int) ∣ p
  · rw [if_pos h3]
    split
    · omega
    · omega
  · rw [if_neg h3]
    have h4 : ((n : Int).natAbs : Int) = (n : Int) := by simp
    rw [h4]
    split
    · omega
    · omega
theorem tmod_lo (p : Int) (n : Nat) (hn : 0 < n) : -(n : Int) < p.tmod (n : Int) ∧ p.tmod (n : Int) < (n : Int) := by
  have h1 := Int.emod_nonneg p (show (n : Int) ≠ 0 by omega)
  have h2 := Int.emod_lt_of_pos p (show (0 : Int) < (n : Int) by omega)
  rw [Int.tmod_eq_emod]
  by_cases h3 : 0 ≤ p ∨ (n : Int) ∣ p
  · rw [if_pos h3]
    omega
  · rw [if_neg h3]
    have h4 : ((n : Int).natAbs : Int) = (n : Int) := by simp
    rw [h4]
    have h5 : p % (n : Int) ≠ 0 := fun e => h3 (Or.inr (Int.dvd_of_emod_eq_zero e))
    omega
theorem own_formN {w : World} {base size n : Nat} {e : TypeId} {v : Value} {xs : List Value} (h : w.ownsRow base e size v n xs) : ∃ p c, v = .slice p n c := by
  rcases h.2 with ⟨rfl, rfl⟩ | ⟨g, c, cur, rfl, _⟩
  · exact ⟨_, _, rfl⟩
  · exact ⟨_, _, rfl⟩
theorem infoE3 : (Try.prog.info? 32).map (fun i => (i.zero, i.size, i.bytes)) = some (some (.agg #[.int .i64 0, .int .i64 0, .int .i64 0]), 3, 24) := by kernel_rfl
theorem upto_range (p : Tk → Bool) : ∀ (l : List Tk) (k : Nat), ∀ x ∈ upto p k l, (k : Int) ≤ x ∧ x < ((k + l.length : Nat) : Int)
  | [], k, x, hx => by cases hx
  | t :: l, k, x, hx => by
    unfold upto at hx
    have h2 := fun hx => upto_range p l (k + 1) x hx
    simp only [List.length_cons]
    split at hx
    · rcases List.mem_cons.1 hx with hx | hx
      · omega
      · have := h2 hx
        omega
    · have := h2 hx
      omega
theorem alloc2_new (w : World) (o : Obj) (cs : Array Value) (t : TypeId) : ((w.alloc o).alloc (.cells cs t)).heap[w.heap.size + 1]? = some (.cells cs t (0, 0)) := by
  have := heap_alloc_new (w.alloc o) (.cells cs t)
  simpa using this
section
variable {w : World} {v vp : Value} {ts : List (List Opx)} {picks : List Int}
set_option maxHeartbeats 6400000 in
set_option maxRecDepth 100000 in
theorem rs_run (h : TasksAt w v ts) (hn : ts.length ≤ 65536) (hl : ∀ o ∈ ts, o.length ≤ 65536) (hp : RowAt intC w vp picks) (hpo : ∀ x ∈ picks, okI x) (hpl : picks.length ≤ 65536) : Calls Try.prog 23 #[v, vp] w fun e w' => ∃ u, e = .returned (.tuple #[u, .bool (endedB (runR picks 10000 0 (ts.map tkNew) []).2.1)]) ∧ RowAt opC w' u (runR picks 10000 0 (ts.map tkNew) []).1 ∧ Below w.heap.size w w' := by
  obtain ⟨i0, hi, hz0, hz1, hz2⟩ := info_parts infoE3
  have hn := rs_new h hn hl
  obtain ⟨av, cv, rfl⟩ := h.form
  obtain ⟨ap, cp, rfl⟩ := hp.form
  have HP : Hid (RowAt intC w (.slice ap picks.length cp) picks) := hp
  have HPO : Hid (∀ x ∈ picks, okI x) := hpo
  clear h hl hp hpo
  generalize ts.map tkNew = T0 at *
  go_enter Try.func23, Try.ntmps23
  go_wp2_with (go_at_call 12; refine hn.mono ?_; rintro e w1 ⟨D, S1, rfl, h1', b1⟩; have H1 : Hid _ := h1'; clear h1')
  go_loopw [7, 8] (fun out i wr => ∃ (k : Nat) (S : Nat → Prop) (T : List Tk) (L : List (Int × Ob)) (evs : List Opx), k ≤ 10000 ∧ evs.length = k ∧ i = .int .i64 k ∧ RSk wr w.heap.size D S k T L ∧ Hid (wr.ownsRow w.heap.size 32 3 out evs.length (rowL opC evs)) ∧ (∀ g, out.ownBlock = some g → ¬ S g) ∧ runR picks 10000 0 T0 [] = (evs ++ (runR picks (10000 - k) k T L).1, (runR picks (10000 - k) k T L).2) ∧ Below w.heap.size w wr) (fun _ i _ => 10000 - (RowKit.intOf i).toNat)
  case atStart => exact ⟨0, S1, T0, [], [], Nat.zero_le _, rfl, rfl, H1.out, World.ownsRow_nil _ _ _ _, fun g hg => (by simp [Value.ownBlock] at hg), by simp, b1⟩
  case round =>
    obtain ⟨k, S, T, L, evs, hk, hek, rfl, hR, HO, hOS, hrun, bel⟩ := hrel
    obtain ⟨pg, mg, rfl⟩ := own_formN HO.out
    have hr := rs_Ready hR
    have he := rs_Ended hR
    have HRK : Hid (RSk wr w.heap.size D S k T L) := hR
    have HEK : Hid (evs.length = k) := hek
    have HOSS : Hid _ := hOS
    by_cases hk1 : k < 10000
    · have q0 : decide ((evs.length : Int) < 10000) = true := decide_eq_true (by omega)
      by_cases hne : readyL T = []
      · have HE : Hid (runR picks 10000 0 T0 [] = (evs, T, L)) := by
          show _ = _
          obtain ⟨f, hf⟩ : ∃ f, 10000 - k = f + 1 := ⟨10000 - k - 1, by omega⟩
          rw [hrun, hf, runR, hne]
          simp
        rw [hne] at hr
        have HEND : Hid (∀ w2 : World, Below wr.heap.size wr w2 → Calls Try.prog 21 #[.pointer (some ⟨D, 0, none⟩)] w2 fun e w' => e = .returned (.bool (endedB T)) ∧ Below wr.heap.size wr w') := fun w2 b2 => (rs_Ended (HRK.out.fresh b2)).mono fun _ _ ⟨e1, e2⟩ => ⟨e1, bmm b2 b2.size e2⟩
        clear hR hek hOS hrun hne he
        go_wp2_with (first
          | (go_at_call 21; refine (HEND.out w2 b2).mono ?_; rintro e w3 ⟨rfl, b3⟩)
          | (go_at_call 17; refine hr.mono ?_; rintro e w2 ⟨u, rfl, r2, b2⟩; obtain ⟨bu, cu, rfl⟩ := r2.none0; clear r2))
        go_ret2
        rw [HE.out]
        exact ⟨_, rfl, RowAt.own opC_len (own_below9 HO.out b3), bmm bel bel.size b3⟩
      have hnl : 0 < (readyL T).length := List.length_pos_iff.2 hne
      have HNE : Hid (0 < (readyL T).length) := hnl
      have hpl' := placeR_lt (readyL T).length picks k hnl
      obtain ⟨z, hz⟩ : ∃ z, (readyL T)[placeR (readyL T).length picks k] = z := ⟨_, rfl⟩
      have HZ : Hid (∀ (w2 : World) (bu ou : Nat), (∀ j (hj : j < (readyL T).length) c u, c < 1 → (intC (readyL T)[j])[c]? = some u → w2.cell? ⟨bu, ou + j * 1 + c, none⟩ = some u) → w2.cell? ⟨bu, ou + placeR (readyL T).length picks k, none⟩ = some (.int .i64 z)) := fun w2 bu ou hx => by
        have := hx _ hpl' 0 _ (by decide) rfl
        simpa [hz] using this
      have hle : (readyL T).length ≤ 65536 := Nat.le_trans (upto_le _ _ _) HRK.out.ok.nt
      have HRUN : Hid (runR picks 10000 0 T0 [] = ((evs ++ [(spR T L z).1]) ++ (runR picks (10000 - (k + 1)) (k + 1) (spR T L z).2.2.1 (spR T L z).2.2.2).1, (runR picks (10000 - (k + 1)) (k + 1) (spR T L z).2.2.1 (spR T L z).2.2.2).2)) := by
        show _ = _
        obtain ⟨f, hf⟩ : ∃ f, 10000 - k = f + 1 := ⟨10000 - k - 1, by omega⟩
        have hf2 : 10000 - (k + 1) = f := by omega
        rw [hrun, hf, hf2, runR, List.getElem?_eq_getElem hpl', hz]
        simp
      have HST : Hid (∀ w2 : World, Below wr.heap.size wr w2 → Calls Try.prog 14 #[.pointer (some ⟨D, 0, none⟩), .int .i64 z] w2 fun e w' => e = .returned (.tuple #[.agg #[.int .i64 (spR T L z).1.1, .int .i64 (spR T L z).1.2.1, .int .i64 (spR T L z).1.2.2], .int .i64 (spR T L z).2.1]) ∧ ∃ S', RSk w' w.heap.size D S' (k + 1) (spR T L z).2.2.1 (spR T L z).2.2.2 ∧ Kept wr w' S S') := fun w2 b2 => (rs_step (HRK.out.fresh b2) z (by omega)).mono fun _ _ ⟨e1, S', e2, e3⟩ => ⟨e1, S', e2, (Kept.of b2).trans e3⟩
      have OWN3 : ∀ (w3 : World) {S3 : Nat → Prop}, Kept wr w3 S S3 → w3.ownsRow w.heap.size 32 3 (.slice pg evs.length mg) evs.length (rowL opC evs) := fun w3 S3 kk => own_keep HO.out (fun g hg => kk.kept g (HO.out.lt g hg).2 (HOSS.out g hg))
      have OWA : Hid (∀ (w3 : World) {S3 : Nat → Prop}, Kept wr w3 S S3 → ∀ o1 o2, ((w3.alloc o1).alloc o2).ownsRow w.heap.size 32 3 (.slice pg evs.length mg) evs.length (rowL opC evs)) := fun w3 S3 kk o1 o2 => ((OWN3 w3 kk).alloc o1).alloc o2
      have BSZ : Hid (∀ (w3 : World) {S3 : Nat → Prop}, Kept wr w3 S S3 → ∀ o1 o2, w.heap.size ≤ ((w3.alloc o1).alloc o2).heap.size) := fun w3 S3 kk o1 o2 => by
        have := kk.size
        have := bel.size
        simp
        omega
      have HFIN : Hid (∀ (w3 : World) (S3 : Nat → Prop), RSk w3 w.heap.size D S3 (k + 1) (spR T L z).2.2.1 (spR T L z).2.2.2 → Kept wr w3 S S3 → ∀ (o1 o2 : Obj) (u : Value) (w5 : World), w5.ownsRow w.heap.size 32 3 u (evs.length + 1) (rowL opC evs ++ rowL opC [((spR T L z).1.1, (spR T L z).1.2.1, (spR T L z).1.2.2)]) → Appended w.heap.size ((w3.alloc o1).alloc o2) w5 (.slice pg evs.length mg) u → ∃ S5, RSk w5 w.heap.size D S5 (k + 1) (spR T L z).2.2.1 (spR T L z).2.2.2 ∧ Hid (w5.ownsRow w.heap.size 32 3 u (evs ++ [(spR T L z).1]).length (rowL opC (evs ++ [(spR T L z).1]))) ∧ (∀ g, u.ownBlock = some g → ¬ S5 g) ∧ Below w.heap.size w w5) := fun w3 S3 h3 kk o1 o2 u w5 h5 a5 => by
        have hs3 := kk.size
        have hvg : ∀ g, Value.ownBlock (.slice pg evs.length mg) = some g → ¬ S3 g := fun g hg hs => by
          rcases kk.old g hs with h9 | h9
          · exact HOSS.out g hg h9
          · have := (HO.out.lt g hg).2
            omega
        have ba : Below w3.heap.size w3 ((w3.alloc o1).alloc o2) := ((Below.refl _ w3).alloc (Nat.le_refl _) o1).alloc (by simp) o2
        have hsa : ((w3.alloc o1).alloc o2).heap.size = w3.heap.size + 2 := by simp
        have k3 := h3.fresh ba
        refine ⟨S3, k3.keep a5.below.size (fun b hb => a5.rest b (k3.bd b hb).2 (fun e => hvg b e.symm hb)), ?_, fun g hg => ?_, ?_⟩
        · show World.ownsRow _ _ _ _ _ _ _
          rw [rowL_append, List.length_append]
          exact h5
        · rcases a5.lies with l5 | l5
          · exact hvg g (by rw [← l5]; exact hg)
          · intro hs
            rw [hg] at l5
            have h8 := Option.some.inj l5
            have h9 := (h3.bd g hs).2
            omega
        · have b3 : Below w.heap.size w w3 := bel.trans (HRK.out.below kk)
          exact (b3.trans (ba.mono b3.size)).trans a5.below
      have hel : evs.length ≤ 10000 := by omega
      have q2 : (((readyL T).length : Int) == 0) = false := by rw [beq_eq_false_iff_ne]; omega
      clear hR hek hOS hrun hne he OWN3 hz
      cases hpk : picks[k]? with
      | none =>
        have hkp : ¬ k < picks.length := by have := List.getElem?_eq_none_iff.1 hpk; omega
        have q1 : decide ((k : Int) < (picks.length : Int)) = false := decide_eq_false (by omega)
        have e0 : placeR (readyL T).length picks k = 0 := by unfold placeR; rw [hpk]
        rw [e0] at HZ
        have HZ' : Hid (∀ (w2 : World) (bu ou : Nat), (∀ j (hj : j < (readyL T).length) c u, c < 1 → (intC (readyL T)[j])[c]? = some u → w2.cell? ⟨bu, ou + j * 1 + c, none⟩ = some u) → w2.cell? ⟨bu, ou, none⟩ = some (.int .i64 z)) := HZ.out
        have ZP : Hid (∀ w2 : World, Below wr.heap.size wr w2 → True) := fun _ _ => trivial
        clear hpk hpl'
        go_wp2_with (first
        | (at_builtin; refine wpList_app_row (l := [((spR T L z).1.1, (spR T L z).1.2.1, (spR T L z).1.2.2)]) (enc := opC) (k := 3) rfl (.tmp 51) (.tmp 53) 40 32 rfl i0 _ 24 Try.underlying40 hi hz0 hz1 hz2 rfl (by decide) opC_len opC_one rfl rfl (OWA.out w3 kk3 _ _) (RowAt.built (alloc2_new w3 _ _ _) rfl 1 rfl rfl) (BSZ.out w3 kk3 _ _) (by simp; omega) (by simp; omega) ?_; intro u5 w5 h5 a5; obtain ⟨p5, c5, rfl⟩ := own_formN h5; have H5 : Hid _ := h5; have A5 : Hid _ := a5; clear h5 a5)
        | (go_at_call 14; refine (HST.out w2 b2).mono ?_; rintro e w3 ⟨rfl, S3, h3', kk3⟩; have H3 : Hid _ := h3'; clear h3')
        | (go_at_call 17; refine hr.mono ?_; rintro e w2 ⟨u, rfl, r2, b2⟩; obtain ⟨bu, ou, cu, rfl, _, hbu, hxu⟩ := r2.cells intC_len HNE.out; have yz : w2.cell? ⟨bu, ou, none⟩ = some (.int .i64 z) := HZ'.out w2 bu ou hxu; have zp2 := ZP.out w2 b2; clear r2 hxu))
        obtain ⟨S5, g1, g2, g3, g4⟩ := HFIN.out w3 S3 H3.out kk3 _ _ _ w5 H5.out A5.out
        go_roundw
        case rel => exact ⟨k + 1, S5, _, _, evs ++ [(spR T L z).1], by omega, by rw [List.length_append, HEK.out]; rfl, by go_num, g1, g2, g3, HRUN.out, g4⟩
        case measure => simp [RowKit.intOf]; omega

      | some p =>
        obtain ⟨hkp, hpe⟩ := List.getElem?_eq_some_iff.1 hpk
        have q1 : decide ((k : Int) < (picks.length : Int)) = true := decide_eq_true (by omega)
        have hpo := HPO.out p (List.mem_of_getElem? hpk)
        obtain ⟨bp, op, cp', ep, _, hbp, hxp⟩ := HP.out.cells intC_len (by omega)
        simp only [Value.slice.injEq] at ep
        obtain ⟨rfl, _, rfl⟩ := ep
        have zp : w.cell? ⟨bp, op + k, none⟩ = some (.int .i64 p) := by
          have := hxp k hkp 0 _ (by decide) rfl
          simpa [hpe] using this
        have ZP : Hid (∀ w2 : World, Below wr.heap.size wr w2 → w2.cell? ⟨bp, op + k, none⟩ = some (.int .i64 p)) := fun w2 b2 => (b2.cell (p := ⟨bp, op + k, none⟩) (by have := bel.size; exact Nat.lt_of_lt_of_le hbp this)).trans ((bel.cell (p := ⟨bp, op + k, none⟩) (by exact hbp)).trans zp)
        have e0 : (placeR (readyL T).length picks k : Int) = p % ((readyL T).length : Int) := by
          unfold placeR
          rw [hpk]
          have := Int.emod_nonneg p (show ((readyL T).length : Int) ≠ 0 by omega)
          show (((p % ((readyL T).length : Int)).toNat : Nat) : Int) = _
          omega
        have ht := tmod_at p (readyL T).length hnl
        obtain ⟨hlo, hhi⟩ := tmod_lo p (readyL T).length hnl
        rw [← e0] at ht
        have qz : decide (((readyL T).length : Int) = 0) = false := decide_eq_false (by omega)
        generalize placeR (readyL T).length picks k = pl at *
        clear hxp zp hpk e0 hpo hpe
        by_cases hm : p.tmod ((readyL T).length : Int) < 0
        · rw [if_pos hm] at ht
          have q3 : decide (p.tmod ((readyL T).length : Int) < 0) = true := decide_eq_true hm
          have q4 : IntKind.i64.wrap (p.tmod ((readyL T).length : Int) + ((readyL T).length : Int)) = (pl : Int) := by rw [ht, IntKind.wrap_i64]; omega
          clear hm ht hlo hhi
          go_wp2_with (first
        | (at_builtin; refine wpList_app_row (l := [((spR T L z).1.1, (spR T L z).1.2.1, (spR T L z).1.2.2)]) (enc := opC) (k := 3) rfl (.tmp 51) (.tmp 53) 40 32 rfl i0 _ 24 Try.underlying40 hi hz0 hz1 hz2 rfl (by decide) opC_len opC_one rfl rfl (OWA.out w3 kk3 _ _) (RowAt.built (alloc2_new w3 _ _ _) rfl 1 rfl rfl) (BSZ.out w3 kk3 _ _) (by simp; omega) (by simp; omega) ?_; intro u5 w5 h5 a5; obtain ⟨p5, c5, rfl⟩ := own_formN h5; have H5 : Hid _ := h5; have A5 : Hid _ := a5; clear h5 a5)
        | (go_at_call 14; refine (HST.out w2 b2).mono ?_; rintro e w3 ⟨rfl, S3, h3', kk3⟩; have H3 : Hid _ := h3'; clear h3')
        | (go_at_call 17; refine hr.mono ?_; rintro e w2 ⟨u, rfl, r2, b2⟩; obtain ⟨bu, ou, cu, rfl, _, hbu, hxu⟩ := r2.cells intC_len HNE.out; have yz : w2.cell? ⟨bu, ou + pl, none⟩ = some (.int .i64 z) := HZ.out w2 bu ou hxu; have zp2 := ZP.out w2 b2; clear r2 hxu))
          obtain ⟨S5, g1, g2, g3, g4⟩ := HFIN.out w3 S3 H3.out kk3 _ _ _ w5 H5.out A5.out
          go_roundw
          case rel => exact ⟨k + 1, S5, _, _, evs ++ [(spR T L z).1], by omega, by rw [List.length_append, HEK.out]; rfl, by go_num, g1, g2, g3, HRUN.out, g4⟩
          case measure => simp [RowKit.intOf]; omega

        · rw [if_neg hm] at ht
          have q3 : decide ((pl : Int) < 0) = false := decide_eq_false (by omega)
          clear hm hlo hhi
          go_wp2_with (first
        | (at_builtin; refine wpList_app_row (l := [((spR T L z).1.1, (spR T L z).1.2.1, (spR T L z).1.2.2)]) (enc := opC) (k := 3) rfl (.tmp 51) (.tmp 53) 40 32 rfl i0 _ 24 Try.underlying40 hi hz0 hz1 hz2 rfl (by decide) opC_len opC_one rfl rfl (OWA.out w3 kk3 _ _) (RowAt.built (alloc2_new w3 _ _ _) rfl 1 rfl rfl) (BSZ.out w3 kk3 _ _) (by simp; omega) (by simp; omega) ?_; intro u5 w5 h5 a5; obtain ⟨p5, c5, rfl⟩ := own_formN h5; have H5 : Hid _ := h5; have A5 : Hid _ := a5; clear h5 a5)
        | (go_at_call 14; refine (HST.out w2 b2).mono ?_; rintro e w3 ⟨rfl, S3, h3', kk3⟩; have H3 : Hid _ := h3'; clear h3')
        | (go_at_call 17; refine hr.mono ?_; rintro e w2 ⟨u, rfl, r2, b2⟩; obtain ⟨bu, ou, cu, rfl, _, hbu, hxu⟩ := r2.cells intC_len HNE.out; have yz : w2.cell? ⟨bu, ou + pl, none⟩ = some (.int .i64 z) := HZ.out w2 bu ou hxu; have zp2 := ZP.out w2 b2; clear r2 hxu))
          obtain ⟨S5, g1, g2, g3, g4⟩ := HFIN.out w3 S3 H3.out kk3 _ _ _ w5 H5.out A5.out
          go_roundw
          case rel => exact ⟨k + 1, S5, _, _, evs ++ [(spR T L z).1], by omega, by rw [List.length_append, HEK.out]; rfl, by go_num, g1, g2, g3, HRUN.out, g4⟩
          case measure => simp [RowKit.intOf]; omega

    · have HE : Hid (runR picks 10000 0 T0 [] = (evs, T, L)) := by
        show _ = _
        obtain rfl : k = 10000 := by omega
        rw [hrun, Nat.sub_self, runR]
        simp
      have q0 : decide ((evs.length : Int) < 10000) = false := decide_eq_false (by omega)
      clear hR hek hOS hrun hr
      go_wp2_with (go_at_call 21; refine he.mono ?_; rintro e w3 ⟨rfl, b3⟩)
      go_ret2
      rw [HE.out]
      exact ⟨_, rfl, RowAt.own opC_len (own_below9 HO.out b3), bmm bel bel.size b3⟩
end
end Go.Proofs.Ythhlglbohibekaa
