/-
  SchedWaits of layer 10, walked: tasks that wait for a waitgroup go on just when as many are done as were added. The condition: each pick is an int's.
-/
import Derived.Lib.MinMax
import Derived.Test.YthhlglbohibekaaWPackK
import Derived.Test.YthhlglbohibekaaWPackN
namespace Go.Proofs.Ythhlglbohibekaa
open Go.RowKit

theorem tmod_two (p : Int) (n : Nat) (hn : 0 < n) : (p.tmod (n : Int) + (n : Int)).tmod (n : Int) = p % (n : Int) := by
  obtain ⟨h1, h2⟩ := tmod_lo p n hn
  rw [Int.tmod_eq_emod_of_nonneg (by omega), Int.add_emod_right, ← tmod_at p n hn]
  split
  · rename_i h
    have e : p.tmod (n : Int) % (n : Int) = (p.tmod (n : Int) + (n : Int)) % (n : Int) := by rw [Int.add_emod_right]
    rw [e]
    exact Int.emod_eq_of_lt (by omega) (by omega)
  · exact Int.emod_eq_of_lt (by omega) (by omega)
theorem sum_rep0 : ∀ m : Nat, (List.replicate m 0).sum = 0
  | 0 => rfl
  | m + 1 => by rw [List.replicate_succ, List.sum_cons, sum_rep0 m]
def wtA (m : Nat) : List Opx := [(5, 1, (m : Int)), (6, 1, 0), (9, 0, 0)]
def wtB : List Opx := [(9, 0, 0), (5, 1, -1)]
def wtTs (m k : Nat) : List (List Opx) := wtA m :: List.replicate k wtB
theorem wtTs_len (m k : Nat) : (wtTs m k).length = k + 1 := by simp [wtTs]
theorem wtTs_succ (m k : Nat) : wtTs m (k + 1) = wtTs m k ++ [wtB] := by
  unfold wtTs
  rw [List.replicate_succ', List.cons_append]
theorem wtTs_ok {m : Nat} (hm : m ≤ 8) : (wtTs m m).length ≤ 65536 ∧ (∀ o ∈ wtTs m m, o.length ≤ 65536) ∧ opsOk (wtTs m m) := by
  refine ⟨by rw [wtTs_len]; omega, fun o ho => ?_, fun o ho x hx => ?_⟩
  · unfold wtTs at ho
    rcases List.mem_cons.1 ho with rfl | ho
    · simp [wtA]
    · rw [(List.mem_replicate.1 ho).2]
      decide
  · unfold wtTs at ho
    rcases List.mem_cons.1 ho with rfl | ho
    · simp only [wtA, List.mem_cons, List.not_mem_nil, or_false] at hx
      unfold okI
      rcases hx with rfl | rfl | rfl <;> simp <;> omega
    · rw [(List.mem_replicate.1 ho).2] at hx
      simp only [wtB, List.mem_cons, List.not_mem_nil, or_false] at hx
      unfold okI
      rcases hx with rfl | rfl <;> simp
/-- The first step. -/
theorem wt_start (m : Nat) (h1 : 1 ≤ m) (h8 : m ≤ 8) : ∃ T L, spR ((wtTs m m).map tkNew) [] 0 = ((0, 0, 0), 0, T, L) ∧ WI m 0 0 T L := by
  have e0 : (wtTs m m).map tkNew = twA m 0 false :: (List.replicate m 0).map twB := by
    unfold wtTs
    rw [List.map_cons, List.map_replicate, List.map_replicate]
    rfl
  have eg : obG [] 2 1 = obNew 2 := by simp [obG, obAdd, obFind]
  have ep : ∀ o, obPut [] 2 1 o = [(1, o)] := fun o => by simp [obPut, obAdd, obFind]
  have ez : gAZ 0 (m : Int) = 0 := by
    unfold gAZ
    rw [if_neg (by omega), if_neg (by omega)]
  have ha : acR (twA m 1 false :: (List.replicate m 0).map twB) [] 0 (5, 1, (m : Int)) = (false, 0, twA m 1 false :: (List.replicate m 0).map twB, [(1, wtO m 0 false)]) := by
    unfold acR
    rw [if_neg (show ¬ (5 : Int) = 9 by decide), if_pos rfl]
    simp only [eg, ep]
    have hh : (obNew 2).h = 0 := rfl
    have hz : ¬ ((0 : Int) + (m : Int) = 0) := by omega
    have e1 : grAd (obNew 2) (m : Int) = wtO m 0 false := by
      unfold grAd gAN gAL
      rw [hh, if_pos ez, if_neg (fun e => hz e.2)]
      unfold wtO
      simp [obNew]
    have e2 : gAO (obNew 2).h (obNew 2).l (m : Int) = [] := by
      unfold gAO
      rw [hh, if_neg (fun e => hz e.2)]
    rw [hh, ez, e1]
    rw [hh] at e2
    rw [e2]
    rfl
  refine ⟨_, _, ?_, ⟨1, false, List.replicate m 0, rfl, List.length_replicate, fun p hp => by rw [(List.mem_replicate.1 hp).2]; omega, rfl, by rw [List.count_replicate]; rfl, by rw [sum_rep0], Or.inl ⟨rfl, rfl⟩⟩⟩
  rw [e0]
  exact spR_to (T := twA m 0 false :: (List.replicate m 0).map twB) (T1 := twA m 1 false :: (List.replicate m 0).map twB) (i := 0) (t := twA m 0 false) (o := (5, 1, (m : Int))) rfl rfl rfl rfl ha (setBl_same (t := twA m 1 false) rfl rfl)
theorem readyL_pos {k : Nat} {T : List Tk} {L : List (Int × Ob)} (h : StOk k T L) {z : Int} (hz : z ∈ readyL T) : okI z := (readyL_ok h).1 z hz
theorem spR_pos (T : List Tk) (L : List (Int × Ob)) (z : Int) : 0 ≤ (spR T L z).1.1 := by
  unfold spR
  split
  · show 0 ≤ (stR T L z.toNat).1.1
    unfold stR
    split
    · exact Int.le_refl _
    · split
      · exact Int.le_refl _
      · show 0 ≤ ((z.toNat : Nat) : Int)
        omega
  · exact Int.le_refl _
section
variable {w : World} {vp : Value} {picks : List Int}
set_option maxHeartbeats 12800000 in
set_option maxRecDepth 100000 in
theorem swaits_walk (n : Int) (hp : RowAt intC w vp picks) (hpo : ∀ x ∈ picks, okI x) : Calls Try.prog 7 #[.int .i64 n, vp] w fun e w' => e = .returned (.bool true) ∧ Below w.heap.size w w' := by
  obtain ⟨i1, hi1, hz10, hz11, hz12⟩ := info_parts infoS1
  obtain ⟨ap, cp, rfl⟩ := hp.form
  have HP : Hid (RowAt intC w (.slice ap picks.length cp) picks) := hp
  have HPO : Hid (∀ x ∈ picks, okI x) := hpo
  clear hp hpo
  obtain ⟨m, hm, hm1, hm8⟩ : ∃ m : Nat, max 1 (min n 8) = (m : Int) ∧ 1 ≤ m ∧ m ≤ 8 := ⟨(max 1 (min n 8)).toNat, by omega, by omega, by omega⟩
  have HS0 : Hid (OTs ((w.alloc (.cells #[.int .i64 5, .int .i64 1, .int .i64 (m : Int), .int .i64 6, .int .i64 1, .int .i64 0, .int .i64 9, .int .i64 0, .int .i64 0] OpT)).alloc (.cells #[.slice (some ⟨w.heap.size, 0, none⟩) 3 3] SoT)) w.heap.size (.slice (some ⟨w.heap.size + 1, 0, none⟩) 1 1) [(w.heap.size, 3, 3)] (wtTs m 0)) := by
    refine ⟨rfl, ?_, fun i a b => ?_⟩
    · have := World.ownsRow_lit (base := w.heap.size) (e := SoT) (size := 1) (w.alloc (.cells #[.int .i64 5, .int .i64 1, .int .i64 (m : Int), .int .i64 6, .int .i64 1, .int .i64 0, .int .i64 9, .int .i64 0, .int .i64 0] OpT)) #[.slice (some ⟨w.heap.size, 0, none⟩) 3 3] 1 (by simp) (by unfold maxLen; omega) rfl
      have e : (w.alloc (.cells #[.int .i64 5, .int .i64 1, .int .i64 (m : Int), .int .i64 6, .int .i64 1, .int .i64 0, .int .i64 9, .int .i64 0, .int .i64 0] OpT)).heap.size = w.heap.size + 1 := by simp
      rw [e] at this
      exact this
    · match i, a, b with
      | 0, _, _ => exact (OwnOps.new w (wtA m) _ rfl 3 rfl).fresh ((Below.refl _ _).alloc (Nat.le_refl _) _)
  have HB0 : Hid _ := ((Below.refl _ w).alloc (Nat.le_refl _) (.cells #[.int .i64 5, .int .i64 1, .int .i64 (m : Int), .int .i64 6, .int .i64 1, .int .i64 0, .int .i64 9, .int .i64 0, .int .i64 0] OpT)).alloc (by simp) (.cells #[.slice (some ⟨w.heap.size, 0, none⟩) 3 3] SoT)
  go_enter Try.func7, Try.ntmps7
  go_wp2
  go_loopw [5, 6] (fun v i wr => ∃ (k : Nat) (bs : List (Nat × Nat × Nat)), k ≤ m ∧ i = .int .i64 k ∧ Hid (OTs wr w.heap.size v bs (wtTs m k)) ∧ Below w.heap.size w wr) (fun _ i _ => m - (RowKit.intOf i).toNat)
  case atStart => exact ⟨0, _, Nat.zero_le _, rfl, HS0.out, HB0.out⟩
  case round =>
    obtain ⟨k, bs, hk, rfl, HO', bel⟩ := hrel
    obtain ⟨pv, cv, rfl⟩ := HO'.out.form
    have HO : Hid (OTs wr w.heap.size (.slice pv (wtTs m k).length cv) bs (wtTs m k)) := HO'
    clear HO'
    have hln := wtTs_len m k
    by_cases hkm : k < m
    · have q0 : decide ((k : Int) < (m : Int)) = true := decide_eq_true (by omega)
      have OWA : Hid (∀ o1 o2, ((wr.alloc o1).alloc o2).ownsRow w.heap.size SoT 1 (.slice pv (wtTs m k).length cv) (wtTs m k).length (rowL slC bs)) := fun o1 o2 => (HO.out.own.alloc o1).alloc o2
      have HFIN : Hid (∀ (o2 : Obj) (u : Value) (w5 : World), w5.ownsRow w.heap.size SoT 1 u ((wtTs m k).length + 1) (rowL slC bs ++ rowL slC [(wr.heap.size, 2, 2)]) → Appended w.heap.size ((wr.alloc (.cells #[.int .i64 9, .int .i64 0, .int .i64 0, .int .i64 5, .int .i64 1, .int .i64 (-1)] OpT)).alloc o2) w5 (.slice pv (wtTs m k).length cv) u → OTs w5 w.heap.size u (bs ++ [(wr.heap.size, 2, 2)]) (wtTs m (k + 1)) ∧ Below w.heap.size w w5) := fun o2 u w5 h5 a5 => by
        have b0 : Below wr.heap.size wr ((wr.alloc (.cells #[.int .i64 9, .int .i64 0, .int .i64 0, .int .i64 5, .int .i64 1, .int .i64 (-1)] OpT)).alloc o2) := ((Below.refl _ wr).alloc (Nat.le_refl _) _).alloc (by simp) o2
        rw [wtTs_succ]
        exact ⟨(HO.out.fresh b0).add ((OwnOps.new wr wtB _ rfl 2 rfl).fresh ((Below.refl _ _).alloc (Nat.le_refl _) o2)) h5 a5, (bmm bel bel.size b0).trans a5.below⟩
      have hbs := bel.size
      clear hln
      go_wp2_with (at_builtin; refine wpList_app_row (l := [(wr.heap.size, 2, 2)]) (enc := slC) (k := 1) rfl (.tmp 30) (.tmp 34) 22 SoT rfl i1 _ 24 Try.underlying22 hi1 hz10 hz11 hz12 rfl (by decide) slC_len slC_one rfl rfl (OWA.out _ _) (RowAt.built (alloc2_new wr _ _ _) rfl 1 rfl rfl) (by simp; omega) (by rw [wtTs_len]; simp; omega) (by rw [wtTs_len]; simp; omega) ?_; intro u5 w5 h5 a5; have H5 : Hid _ := h5; have A5 : Hid _ := a5; obtain ⟨p5, c5, rfl⟩ := own_formN h5; clear h5 a5)
      obtain ⟨g1, g2⟩ := HFIN.out _ _ w5 H5.out A5.out
      go_roundw
      case rel => exact ⟨k + 1, _, hkm, by go_num, g1, g2⟩
      case measure => simp [RowKit.intOf]; omega
    · have q0 : decide ((k : Int) < (m : Int)) = false := decide_eq_false (by omega)
      obtain rfl : k = m := by omega
      by_cases hpl : picks.length ≤ 1000
      case neg =>
        have q1 : decide ((1000 : Int) < (picks.length : Int)) = true := decide_eq_true (by omega)
        clear hln hpl
        go_wp2_with (go_at_call 10; refine (awake10_any _).mono ?_; rintro e w9 ⟨rfl, b9⟩)
        go_ret
        exact ⟨rfl, bmm bel bel.size b9⟩
      case pos =>
        have q1 : decide ((1000 : Int) < (picks.length : Int)) = false := decide_eq_false (by omega)
        obtain ⟨s1, s2, s3⟩ := wtTs_ok hm8
        have hx := ps_new HO.out.tasks s1 s2 s3
        obtain ⟨T1, L1, eS, hW1⟩ := wt_start k hm1 hm8
        have HW1 : Hid _ := hW1
        have HST0 : Hid (∀ (w2 : World) (D : Nat) (S : Nat → Prop), PSk w2 wr.heap.size D S 0 ((wtTs k k).map tkNew) [] → Calls Try.prog 13 #[.pointer (some ⟨D, 0, none⟩), .int .i64 0] w2 fun e w' => e = .returned (.tuple #[.agg #[.int .i64 0, .int .i64 0, .int .i64 0], .int .i64 0]) ∧ ∃ S', PSk w' w.heap.size D S' 1 T1 L1 ∧ Below wr.heap.size w2 w') := fun w2 D S h => (ps_step h 0 (by unfold okI; omega) (by omega)).mono fun _ _ ⟨e, S', h1, h2⟩ => by
          rw [eS] at e h1
          exact ⟨e, S', h1.low bel.size, h.below h2⟩
        clear hW1 eS s1 s2 s3 hln
        go_wp2_with (first
          | (go_at_call 13; refine (HST0.out w2 D S2 H2.out).mono ?_; rintro e w3 ⟨rfl, S3, h3', b3⟩; have H3 : Hid _ := h3'; clear h3')
          | (go_at_call 11; refine hx.mono ?_; rintro e w2 ⟨D, S2, rfl, h2', b2⟩; have H2 : Hid _ := h2'; clear h2'))
        have bel3 : Below w.heap.size w w3 := bmm bel bel.size (b2.trans b3)
        go_loopw [10, 11] (fun dn i w4 => ∃ (kk d : Nat) (S : Nat → Prop) (T : List Tk) (L : List (Int × Ob)), dn = .int .i64 d ∧ i = .int .i64 kk ∧ PSk w4 w.heap.size D S (kk + 1) T L ∧ WI k kk d T L ∧ Below w.heap.size w w4) (fun _ i _ => 100 - (RowKit.intOf i).toNat)
        case atStart => exact ⟨0, 0, S3, T1, L1, rfl, rfl, H3.out.fresh ((Below.refl _ w3).alloc (Nat.le_refl _) _), HW1.out, bel3.alloc bel3.size _⟩
        case round =>
          obtain ⟨kk, d, S, T, L, rfl, rfl, hR, hW, bel4⟩ := hrel
          have hfew := hW.few
          have hdle := hW.dle
          have q2 : decide ((kk : Int) < 100) = true := decide_eq_true (by omega)
          have hr := ps_Ready hR
          have HRK : Hid (PSk wr w.heap.size D S (kk + 1) T L) := hR
          by_cases hne : readyL T = []
          · have he := hW.end_ hne
            rw [hne] at hr
            have HEND : Hid (∀ w2 : World, Below wr.heap.size wr w2 → Calls Try.prog 20 #[.pointer (some ⟨D, 0, none⟩)] w2 fun e w' => e = .returned (.bool true) ∧ Below wr.heap.size wr w') := fun w2 b2 => (ps_Ended (HRK.out.fresh b2)).mono fun _ _ ⟨e1, e2⟩ => ⟨by rw [← he]; exact e1, bmm b2 b2.size e2⟩
            clear hR hW hne he
            go_wp2_with (first
              | (go_at_call 10; refine (awake10_any w6).mono ?_; rintro e w7 ⟨rfl, b7⟩)
              | (go_at_call 20; refine (HEND.out w5 b5).mono ?_; rintro e w6 ⟨rfl, b6⟩)
              | (go_at_call 16; refine hr.mono ?_; rintro e w5 ⟨u, rfl, r5, b5⟩; obtain ⟨bu, cu, rfl⟩ := r5.none0; clear r5))
            go_ret
            have f1 := bmm bel4 bel4.size b6
            exact ⟨rfl, bmm f1 f1.size b7⟩
          have hnl : 0 < (readyL T).length := List.length_pos_iff.2 hne
          have HNE : Hid (0 < (readyL T).length) := hnl
          have hpl' := placeR_lt (readyL T).length picks kk hnl
          obtain ⟨z, hz⟩ : ∃ z, (readyL T)[placeR (readyL T).length picks kk] = z := ⟨_, rfl⟩
          have hzm : z ∈ readyL T := by rw [← hz]; exact List.getElem_mem _
          have HZ : Hid (∀ (w2 : World) (bu ou : Nat), (∀ j (hj : j < (readyL T).length) c u, c < 1 → (intC (readyL T)[j])[c]? = some u → w2.cell? ⟨bu, ou + j * 1 + c, none⟩ = some u) → w2.cell? ⟨bu, ou + placeR (readyL T).length picks kk, none⟩ = some (.int .i64 z)) := fun w2 bu ou hx => by
            have := hx _ hpl' 0 _ (by decide) rfl
            simpa [hz] using this
          have hle : (readyL T).length ≤ 65536 := (readyL_ok hR.ok).2
          have hzo := readyL_pos hR.ok hzm
          obtain ⟨er0, ee0, hN, hWn⟩ := hW.step hm8 hzm
          have hge := spR_pos T L z
          have HST : Hid (∀ w2 : World, Below wr.heap.size wr w2 → Calls Try.prog 13 #[.pointer (some ⟨D, 0, none⟩), .int .i64 z] w2 fun e w' => e = .returned (.tuple #[.agg #[.int .i64 (spR T L z).1.1, .int .i64 (spR T L z).1.2.1, .int .i64 (spR T L z).1.2.2], .int .i64 (spR T L z).2.1]) ∧ ∃ S', PSk w' w.heap.size D S' (kk + 1 + 1) (spR T L z).2.2.1 (spR T L z).2.2.2 ∧ Below w.heap.size wr w') := fun w2 b2 => (ps_step (HRK.out.fresh b2) z hzo (by omega)).mono fun _ _ ⟨e1, S', e2, e3⟩ => ⟨e1, S', e2, (b2.mono HRK.out.base_le).trans ((HRK.out.fresh b2).below e3)⟩
          generalize spR T L z = r at *
          obtain ⟨⟨e0, e1, ee⟩, er, T2, L2⟩ := r
          simp only at er0 ee0 hN hWn hge HST
          subst er0 ee0
          have HN : Hid (¬ (e0 = 0 ∧ e1 = 2 ∧ d < k)) := hN
          have HW : Hid (WI k (kk + 1) (if 0 < e0 ∧ e1 = 1 then d + 1 else d) T2 L2) := hWn
          have qn : (((readyL T).length : Int) == 0) = false := by rw [beq_eq_false_iff_ne]; omega
          clear hR hW hne hN hWn hz hzm
          cases hpk : picks[kk]? with
          | none =>
            have hkp : ¬ kk < picks.length := by have := List.getElem?_eq_none_iff.1 hpk; omega
            have q3 : decide ((kk : Int) < (picks.length : Int)) = false := decide_eq_false (by omega)
            have ep0 : placeR (readyL T).length picks kk = 0 := by unfold placeR; rw [hpk]
            rw [ep0] at HZ
            replace HZ : Hid (∀ (w2 : World) (bu ou : Nat), (∀ j (hj : j < (readyL T).length) c u, c < 1 → (intC (readyL T)[j])[c]? = some u → w2.cell? ⟨bu, ou + j * 1 + c, none⟩ = some u) → w2.cell? ⟨bu, ou, none⟩ = some (.int .i64 z)) := HZ.out
            have ZP : Hid (∀ w2 : World, Below wr.heap.size wr w2 → True) := fun _ _ => trivial
            clear hpk hpl' ep0
            by_cases hA : 0 < e0
            · by_cases hB : e1 = 1
              · have qa : (e0 == 0) = false := beq_eq_false_iff_ne.2 (by omega)
                have qd : decide ((0 : Int) < e0) = true := decide_eq_true hA
                have qb : e1 = 1 := hB
                subst qb
                have DN : Hid (WI k (kk + 1) (d + 1) T2 L2) := (by have := HW.out; rw [if_pos ⟨hA, rfl⟩] at this; exact this)
                clear hA hB
                go_wp2_with (first
                  | (go_at_call 13; refine (HST.out w2 b2).mono ?_; rintro e w3 ⟨rfl, S3, h3', bb3⟩; have H3 : Hid _ := h3'; clear h3')
                  | (go_at_call 16; refine hr.mono ?_; rintro e w2 ⟨u, rfl, r2, b2⟩; obtain ⟨bu, ou, cu, rfl, _, hbu, hxu⟩ := r2.cells intC_len HNE.out; have yz : w2.cell? ⟨bu, ou, none⟩ = some (.int .i64 z) := HZ.out w2 bu ou hxu; have zp2 := ZP.out w2 b2; clear r2 hxu))
                have belW : Below w.heap.size w (w3.alloc (.cells #[.int .i64 e0, .int .i64 1, .int .i64 0] 32)) := (bel4.trans bb3).alloc (bel4.trans bb3).size _
                go_roundw
                case rel => exact ⟨kk + 1, d + 1, S3, T2, L2, by go_num, by go_num, H3.out.fresh ((Below.refl _ w3).alloc (Nat.le_refl _) _), DN.out, belW⟩
                case measure => simp [RowKit.intOf]; omega
              · have qa : (e0 == 0) = false := beq_eq_false_iff_ne.2 (by omega)
                have qd : decide ((0 : Int) < e0) = true := decide_eq_true hA
                have qb : (e1 == 1) = false := beq_eq_false_iff_ne.2 hB
                have DN : Hid (WI k (kk + 1) d T2 L2) := (by have := HW.out; rw [if_neg (fun e => hB e.2)] at this; exact this)
                clear hA hB
                go_wp2_with (first
                  | (go_at_call 13; refine (HST.out w2 b2).mono ?_; rintro e w3 ⟨rfl, S3, h3', bb3⟩; have H3 : Hid _ := h3'; clear h3')
                  | (go_at_call 16; refine hr.mono ?_; rintro e w2 ⟨u, rfl, r2, b2⟩; obtain ⟨bu, ou, cu, rfl, _, hbu, hxu⟩ := r2.cells intC_len HNE.out; have yz : w2.cell? ⟨bu, ou, none⟩ = some (.int .i64 z) := HZ.out w2 bu ou hxu; have zp2 := ZP.out w2 b2; clear r2 hxu))
                have belW : Below w.heap.size w (w3.alloc (.cells #[.int .i64 e0, .int .i64 e1, .int .i64 0] 32)) := (bel4.trans bb3).alloc (bel4.trans bb3).size _
                go_roundw
                case rel => exact ⟨kk + 1, d, S3, T2, L2, by go_num, by go_num, H3.out.fresh ((Below.refl _ w3).alloc (Nat.le_refl _) _), DN.out, belW⟩
                case measure => simp [RowKit.intOf]; omega
            · replace hA : e0 = 0 := by omega
              by_cases hB : e1 = 2
              · have qa : e0 = 0 := hA
                subst qa
                have qb : e1 = 2 := hB
                subst qb
                have hdk : ¬ d < k := fun e => HN.out ⟨rfl, rfl, e⟩
                have qc : decide ((d : Int) < (k : Int)) = false := decide_eq_false (by omega)
                have DN : Hid (WI k (kk + 1) d T2 L2) := (by have := HW.out; rw [if_neg (fun e => absurd e.1 (by decide))] at this; exact this)
                clear hA hB
                go_wp2_with (first
                  | (go_at_call 13; refine (HST.out w2 b2).mono ?_; rintro e w3 ⟨rfl, S3, h3', bb3⟩; have H3 : Hid _ := h3'; clear h3')
                  | (go_at_call 16; refine hr.mono ?_; rintro e w2 ⟨u, rfl, r2, b2⟩; obtain ⟨bu, ou, cu, rfl, _, hbu, hxu⟩ := r2.cells intC_len HNE.out; have yz : w2.cell? ⟨bu, ou, none⟩ = some (.int .i64 z) := HZ.out w2 bu ou hxu; have zp2 := ZP.out w2 b2; clear r2 hxu))
                have belW : Below w.heap.size w (w3.alloc (.cells #[.int .i64 0, .int .i64 2, .int .i64 0] 32)) := (bel4.trans bb3).alloc (bel4.trans bb3).size _
                go_roundw
                case rel => exact ⟨kk + 1, d, S3, T2, L2, by go_num, by go_num, H3.out.fresh ((Below.refl _ w3).alloc (Nat.le_refl _) _), DN.out, belW⟩
                case measure => simp [RowKit.intOf]; omega
              · have qa : e0 = 0 := hA
                subst qa
                have qb : (e1 == 2) = false := beq_eq_false_iff_ne.2 hB
                have DN : Hid (WI k (kk + 1) d T2 L2) := (by have := HW.out; rw [if_neg (fun e => absurd e.1 (by decide))] at this; exact this)
                clear hA hB
                go_wp2_with (first
                  | (go_at_call 13; refine (HST.out w2 b2).mono ?_; rintro e w3 ⟨rfl, S3, h3', bb3⟩; have H3 : Hid _ := h3'; clear h3')
                  | (go_at_call 16; refine hr.mono ?_; rintro e w2 ⟨u, rfl, r2, b2⟩; obtain ⟨bu, ou, cu, rfl, _, hbu, hxu⟩ := r2.cells intC_len HNE.out; have yz : w2.cell? ⟨bu, ou, none⟩ = some (.int .i64 z) := HZ.out w2 bu ou hxu; have zp2 := ZP.out w2 b2; clear r2 hxu))
                have belW : Below w.heap.size w (w3.alloc (.cells #[.int .i64 0, .int .i64 e1, .int .i64 0] 32)) := (bel4.trans bb3).alloc (bel4.trans bb3).size _
                go_roundw
                case rel => exact ⟨kk + 1, d, S3, T2, L2, by go_num, by go_num, H3.out.fresh ((Below.refl _ w3).alloc (Nat.le_refl _) _), DN.out, belW⟩
                case measure => simp [RowKit.intOf]; omega
          | some p =>
            obtain ⟨hkp, hpe⟩ := List.getElem?_eq_some_iff.1 hpk
            have q3 : decide ((kk : Int) < (picks.length : Int)) = true := decide_eq_true (by omega)
            obtain ⟨bp, op, cp', ep, _, hbp, hxp⟩ := HP.out.cells intC_len (by omega)
            simp only [Value.slice.injEq] at ep
            obtain ⟨rfl, _, rfl⟩ := ep
            have zp : w.cell? ⟨bp, op + kk, none⟩ = some (.int .i64 p) := by
              have := hxp kk hkp 0 _ (by decide) rfl
              simpa [hpe] using this
            have ZP : Hid (∀ w2 : World, Below wr.heap.size wr w2 → w2.cell? ⟨bp, op + kk, none⟩ = some (.int .i64 p)) := fun w2 b2 => (b2.cell (p := ⟨bp, op + kk, none⟩) (by have := bel4.size; exact Nat.lt_of_lt_of_le hbp this)).trans ((bel4.cell (p := ⟨bp, op + kk, none⟩) (by exact hbp)).trans zp)
            have ep0 : (placeR (readyL T).length picks kk : Int) = p % ((readyL T).length : Int) := by
              unfold placeR
              rw [hpk]
              have := Int.emod_nonneg p (show ((readyL T).length : Int) ≠ 0 by omega)
              show (((p % ((readyL T).length : Int)).toNat : Nat) : Int) = _
              omega
            have ht := tmod_two p (readyL T).length hnl
            obtain ⟨hlo, hhi⟩ := tmod_lo p (readyL T).length hnl
            rw [← ep0] at ht
            have qz : decide (((readyL T).length : Int) = 0) = false := decide_eq_false (by omega)
            have qw : IntKind.i64.wrap (p.tmod ((readyL T).length : Int) + ((readyL T).length : Int)) = p.tmod ((readyL T).length : Int) + ((readyL T).length : Int) := by rw [IntKind.wrap_i64]; omega
            generalize placeR (readyL T).length picks kk = pl at *
            clear hxp zp hpk ep0 hpe hlo hhi
            by_cases hA : 0 < e0
            · by_cases hB : e1 = 1
              · have qa : (e0 == 0) = false := beq_eq_false_iff_ne.2 (by omega)
                have qd : decide ((0 : Int) < e0) = true := decide_eq_true hA
                have qb : e1 = 1 := hB
                subst qb
                have DN : Hid (WI k (kk + 1) (d + 1) T2 L2) := (by have := HW.out; rw [if_pos ⟨hA, rfl⟩] at this; exact this)
                clear hA hB
                go_wp2_with (first
                  | (go_at_call 13; refine (HST.out w2 b2).mono ?_; rintro e w3 ⟨rfl, S3, h3', bb3⟩; have H3 : Hid _ := h3'; clear h3')
                  | (go_at_call 16; refine hr.mono ?_; rintro e w2 ⟨u, rfl, r2, b2⟩; obtain ⟨bu, ou, cu, rfl, _, hbu, hxu⟩ := r2.cells intC_len HNE.out; have yz : w2.cell? ⟨bu, ou + pl, none⟩ = some (.int .i64 z) := HZ.out w2 bu ou hxu; have zp2 := ZP.out w2 b2; clear r2 hxu))
                have belW : Below w.heap.size w (w3.alloc (.cells #[.int .i64 e0, .int .i64 1, .int .i64 0] 32)) := (bel4.trans bb3).alloc (bel4.trans bb3).size _
                go_roundw
                case rel => exact ⟨kk + 1, d + 1, S3, T2, L2, by go_num, by go_num, H3.out.fresh ((Below.refl _ w3).alloc (Nat.le_refl _) _), DN.out, belW⟩
                case measure => simp [RowKit.intOf]; omega
              · have qa : (e0 == 0) = false := beq_eq_false_iff_ne.2 (by omega)
                have qd : decide ((0 : Int) < e0) = true := decide_eq_true hA
                have qb : (e1 == 1) = false := beq_eq_false_iff_ne.2 hB
                have DN : Hid (WI k (kk + 1) d T2 L2) := (by have := HW.out; rw [if_neg (fun e => hB e.2)] at this; exact this)
                clear hA hB
                go_wp2_with (first
                  | (go_at_call 13; refine (HST.out w2 b2).mono ?_; rintro e w3 ⟨rfl, S3, h3', bb3⟩; have H3 : Hid _ := h3'; clear h3')
                  | (go_at_call 16; refine hr.mono ?_; rintro e w2 ⟨u, rfl, r2, b2⟩; obtain ⟨bu, ou, cu, rfl, _, hbu, hxu⟩ := r2.cells intC_len HNE.out; have yz : w2.cell? ⟨bu, ou + pl, none⟩ = some (.int .i64 z) := HZ.out w2 bu ou hxu; have zp2 := ZP.out w2 b2; clear r2 hxu))
                have belW : Below w.heap.size w (w3.alloc (.cells #[.int .i64 e0, .int .i64 e1, .int .i64 0] 32)) := (bel4.trans bb3).alloc (bel4.trans bb3).size _
                go_roundw
                case rel => exact ⟨kk + 1, d, S3, T2, L2, by go_num, by go_num, H3.out.fresh ((Below.refl _ w3).alloc (Nat.le_refl _) _), DN.out, belW⟩
                case measure => simp [RowKit.intOf]; omega
            · replace hA : e0 = 0 := by omega
              by_cases hB : e1 = 2
              · have qa : e0 = 0 := hA
                subst qa
                have qb : e1 = 2 := hB
                subst qb
                have hdk : ¬ d < k := fun e => HN.out ⟨rfl, rfl, e⟩
                have qc : decide ((d : Int) < (k : Int)) = false := decide_eq_false (by omega)
                have DN : Hid (WI k (kk + 1) d T2 L2) := (by have := HW.out; rw [if_neg (fun e => absurd e.1 (by decide))] at this; exact this)
                clear hA hB
                go_wp2_with (first
                  | (go_at_call 13; refine (HST.out w2 b2).mono ?_; rintro e w3 ⟨rfl, S3, h3', bb3⟩; have H3 : Hid _ := h3'; clear h3')
                  | (go_at_call 16; refine hr.mono ?_; rintro e w2 ⟨u, rfl, r2, b2⟩; obtain ⟨bu, ou, cu, rfl, _, hbu, hxu⟩ := r2.cells intC_len HNE.out; have yz : w2.cell? ⟨bu, ou + pl, none⟩ = some (.int .i64 z) := HZ.out w2 bu ou hxu; have zp2 := ZP.out w2 b2; clear r2 hxu))
                have belW : Below w.heap.size w (w3.alloc (.cells #[.int .i64 0, .int .i64 2, .int .i64 0] 32)) := (bel4.trans bb3).alloc (bel4.trans bb3).size _
                go_roundw
                case rel => exact ⟨kk + 1, d, S3, T2, L2, by go_num, by go_num, H3.out.fresh ((Below.refl _ w3).alloc (Nat.le_refl _) _), DN.out, belW⟩
                case measure => simp [RowKit.intOf]; omega
              · have qa : e0 = 0 := hA
                subst qa
                have qb : (e1 == 2) = false := beq_eq_false_iff_ne.2 hB
                have DN : Hid (WI k (kk + 1) d T2 L2) := (by have := HW.out; rw [if_neg (fun e => absurd e.1 (by decide))] at this; exact this)
                clear hA hB
                go_wp2_with (first
                  | (go_at_call 13; refine (HST.out w2 b2).mono ?_; rintro e w3 ⟨rfl, S3, h3', bb3⟩; have H3 : Hid _ := h3'; clear h3')
                  | (go_at_call 16; refine hr.mono ?_; rintro e w2 ⟨u, rfl, r2, b2⟩; obtain ⟨bu, ou, cu, rfl, _, hbu, hxu⟩ := r2.cells intC_len HNE.out; have yz : w2.cell? ⟨bu, ou + pl, none⟩ = some (.int .i64 z) := HZ.out w2 bu ou hxu; have zp2 := ZP.out w2 b2; clear r2 hxu))
                have belW : Below w.heap.size w (w3.alloc (.cells #[.int .i64 0, .int .i64 e1, .int .i64 0] 32)) := (bel4.trans bb3).alloc (bel4.trans bb3).size _
                go_roundw
                case rel => exact ⟨kk + 1, d, S3, T2, L2, by go_num, by go_num, H3.out.fresh ((Below.refl _ w3).alloc (Nat.le_refl _) _), DN.out, belW⟩
                case measure => simp [RowKit.intOf]; omega
end
end Go.Proofs.Ythhlglbohibekaa
