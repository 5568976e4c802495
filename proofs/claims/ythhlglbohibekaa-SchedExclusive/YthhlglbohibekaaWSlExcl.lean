/-
  SchedExclusive of layer 10, walked: tasks that lock a mutex, yield some times, and unlock it: whatever picks, no two are within at once, and all come to their ends. The condition: each number is an int's.
-/
import Derived.Test.YthhlglbohibekaaWSlWaits
import Derived.Test.YthhlglbohibekaaWSpExcl
namespace Go.Proofs.Ythhlglbohibekaa
open Go.RowKit

def clampY (y : Int) : Nat := (max 0 (min y 5)).toNat
theorem clampY_is (y : Int) : max 0 (min y 5) = (clampY y : Int) ∧ clampY y ≤ 5 := by unfold clampY; omega
def ysOf (yields : List Int) (k : Nat) : List Nat := (yields.take k).map clampY
theorem ysOf_succ (yields : List Int) (k : Nat) (hk : k < yields.length) : (ysOf yields (k + 1)).map exOps = (ysOf yields k).map exOps ++ [exOps (clampY yields[k])] := by
  unfold ysOf
  rw [List.take_succ_eq_append_getElem hk, List.map_append, List.map_append]
  rfl
theorem ysOf_len (yields : List Int) (k : Nat) (hk : k ≤ yields.length) : ((ysOf yields k).map exOps).length = k := by
  unfold ysOf
  simp
  omega
theorem ysOf_le (yields : List Int) (k : Nat) : ∀ y ∈ ysOf yields k, y ≤ 5 := fun y hy => by
  unfold ysOf at hy
  obtain ⟨x, _, rfl⟩ := List.mem_map.1 hy
  exact (clampY_is x).2
theorem exTs_ok {ys : List Nat} (h8 : ys.length ≤ 8) (h5 : ∀ y ∈ ys, y ≤ 5) : (ys.map exOps).length ≤ 65536 ∧ (∀ o ∈ ys.map exOps, o.length ≤ 65536) ∧ opsOk (ys.map exOps) := by
  refine ⟨by rw [List.length_map]; omega, fun o ho => ?_, fun o ho x hx => ?_⟩
  · obtain ⟨y, hy, rfl⟩ := List.mem_map.1 ho
    have := h5 y hy
    rw [exOps_len]
    omega
  · obtain ⟨y, hy, rfl⟩ := List.mem_map.1 ho
    unfold exOps at hx
    unfold okI
    rcases List.mem_cons.1 hx with rfl | hx
    · simp
    · rcases List.mem_append.1 hx with hx | hx
      · rw [(List.mem_replicate.1 hx).2]
        simp
      · rw [List.mem_singleton] at hx
        subst hx
        simp
/-- A task under way: its lock, so many yields. -/
def exA (k : Nat) : List Opx := (1, 1, 0) :: List.replicate k (9, 0, 0)
theorem exA_succ (k : Nat) : exA (k + 1) = exA k ++ [(9, 0, 0)] := by
  unfold exA
  rw [List.replicate_succ', List.cons_append]
theorem exA_end (k : Nat) : exOps k = exA k ++ [(2, 1, 0)] := by
  unfold exA exOps
  rw [List.cons_append]
theorem own_formS {w : World} {base size n : Nat} {e : TypeId} {v : Value} {xs : List Value} (h : w.ownsRow base e size v n xs) (hn : 0 < n) : ∃ g cap, v = .slice (some ⟨g, 0, none⟩) n cap := by
  rcases h.2 with ⟨_, h0⟩ | ⟨g, cap, _, hv, _⟩
  · omega
  · exact ⟨g, cap, hv⟩
section
variable {w : World} {vy vp : Value} {yields picks : List Int}
set_option maxHeartbeats 25600000 in
set_option maxRecDepth 100000 in
theorem sexcl_walk (hy : RowAt intC w vy yields) (hym : yields.length ≤ 9223372036854775807) (hp : RowAt intC w vp picks) (hpo : ∀ x ∈ picks, okI x) : Calls Try.prog 5 #[vy, vp] w fun e w' => e = .returned (.bool true) ∧ Below w.heap.size w w' := by
  obtain ⟨i1, hi1, hz10, hz11, hz12⟩ := info_parts infoS1
  obtain ⟨i0, hi0, hz00, hz01, hz02⟩ := info_parts infoP3
  obtain ⟨ap, cp, rfl⟩ := hp.form
  obtain ⟨ay, cy, rfl⟩ := hy.form
  have HP : Hid (RowAt intC w (.slice ap picks.length cp) picks) := hp
  have HPO : Hid (∀ x ∈ picks, okI x) := hpo
  have HY : Hid (RowAt intC w (.slice ay yields.length cy) yields) := hy
  clear hp hpo hy
  go_enter Try.func5, Try.ntmps5
  go_wp2
  go_loopw [5, 6] (fun v i wr => ∃ (k : Nat) (bs : List (Nat × Nat × Nat)), k ≤ yields.length ∧ k ≤ 8 ∧ i = .int .i64 k ∧ Hid (OTs wr w.heap.size v bs ((ysOf yields k).map exOps)) ∧ Below w.heap.size w wr) (fun _ i _ => 8 - (RowKit.intOf i).toNat)
  case atStart => exact ⟨0, _, Nat.zero_le _, Nat.zero_le _, rfl, OTs.nil w _, Below.refl _ _⟩
  case round =>
    obtain ⟨k, bs, hk, hk8, rfl, HO', bel⟩ := hrel
    have HO'' := HO'
    obtain ⟨pv, cv, rfl⟩ := HO'.out.form
    have eL := ysOf_len yields k hk
    rw [eL] at HO''
    have HO : Hid (OTs wr w.heap.size (.slice pv k cv) bs ((ysOf yields k).map exOps)) := HO''
    clear HO' HO''
    rw [eL]
    have hbs := bel.size
    have HEL : Hid _ := eL
    clear eL
    by_cases hky : k < yields.length ∧ k < 8
    · obtain ⟨hkl, hk9⟩ := hky
      have q0 : decide ((k : Int) < (yields.length : Int)) = true := decide_eq_true (by omega)
      have q1 : decide ((k : Int) < (8 : Int)) = true := decide_eq_true (by omega)
      obtain ⟨by', oy, cy', ey, _, hby, hxy⟩ := HY.out.cells intC_len (by omega)
      simp only [Value.slice.injEq] at ey
      obtain ⟨rfl, _, rfl⟩ := ey
      have ZY : Hid (∀ w2 : World, Below w.heap.size w w2 → w2.cell? ⟨by', oy + k, none⟩ = some (.int .i64 yields[k])) := fun w2 b2 => (b2.cell (p := ⟨by', oy + k, none⟩) (by exact hby)).trans (by have := hxy k hkl 0 _ (by decide) rfl; simpa using this)
      obtain ⟨hcl, hcl5⟩ := clampY_is yields[k]
      have HSU : Hid _ := ysOf_succ yields k hkl
      clear hxy
      generalize yields[k] = yv at *
      generalize clampY yv = Y at *
      go_wp2_with (go_at_call 25; refine (op_lock 1 wr).mono ?_; rintro e w1 ⟨rfl, b1⟩)
      have bel1 : Below w.heap.size w w1 := bmm bel bel.size b1
      have HO1 : Hid (OTs w1 w.heap.size (.slice pv k cv) bs ((ysOf yields k).map exOps)) := HO.out.fresh b1
      go_loopw [7, 8] (fun l j w4 => ∃ kk : Nat, kk ≤ Y ∧ j = .int .i64 kk ∧ Hid (w4.ownsRow w1.heap.size OpT 3 l (kk + 1) (rowL opC (exA kk))) ∧ Below w1.heap.size w1 w4) (fun _ j _ => Y - (RowKit.intOf j).toNat)
      case atStart => exact ⟨0, Nat.zero_le _, rfl, World.ownsRow_lit (base := w1.heap.size) (e := OpT) (size := 3) w1 #[.int .i64 1, .int .i64 1, .int .i64 0] 1 (Nat.le_refl _) (by unfold maxLen; omega) rfl, (Below.refl _ w1).alloc (Nat.le_refl _) _⟩
      case round =>
        obtain ⟨kk, hkk, rfl, HA, bel4⟩ := hrel
        obtain ⟨pa, ca, rfl⟩ := own_formN HA.out
        have zy := ZY.out wr (bel1.trans (bel4.mono bel1.size))
        have hb4 := bel4.size
        by_cases hkY : kk < Y
        · have q2 : decide ((kk : Int) < (Y : Int)) = true := decide_eq_true (by omega)
          go_wp2_with (at_builtin; refine wpList_app_row (l := [((9 : Int), (0 : Int), (0 : Int))]) (enc := opC) (k := 3) rfl (.tmp 38) (.tmp 40) 47 OpT rfl i0 _ 24 Try.underlying47 hi0 hz00 hz01 hz02 rfl (by decide) opC_len opC_one rfl rfl (HA.out.alloc _) (RowAt.built (heap_alloc_new wr _) rfl 1 rfl rfl) (by simp; omega) (by simp; omega) (by simp; omega) ?_; intro u5 w5 h5 a5; have H5 : Hid _ := h5; have A5 : Hid _ := a5; obtain ⟨p5, c5, rfl⟩ := own_formN h5; clear h5 a5)
          have g1 : Hid (w5.ownsRow w1.heap.size OpT 3 (.slice p5 (kk + 1 + [((9 : Int), (0 : Int), (0 : Int))].length) c5) (kk + 1 + 1) (rowL opC (exA (kk + 1)))) := by
            show World.ownsRow _ _ _ _ _ _ _
            rw [exA_succ, rowL_append]
            exact H5.out
          have g2 : Below w1.heap.size w1 w5 := (bel4.alloc bel4.size _).trans A5.out.below
          go_roundw
          case rel => exact ⟨kk + 1, hkY, by go_num, g1, g2⟩
          case measure => simp [RowKit.intOf]; omega
        · have q2 : decide ((kk : Int) < (Y : Int)) = false := decide_eq_false (by omega)
          obtain rfl : kk = Y := by omega
          have OWT : Hid (∀ w6 : World, Below w1.heap.size w1 w6 → ∀ o, (w6.alloc o).ownsRow w.heap.size SoT 1 (.slice pv k cv) k (rowL slC bs)) := fun w6 b6 o => by
            have := (HO1.out.fresh b6).own.alloc o
            rw [HEL.out] at this
            exact this
          have HFIN : Hid (∀ (w6 : World) (g6 c6 : Nat), Below w1.heap.size w1 w6 → w6.ownsRow w1.heap.size OpT 3 (.slice (some ⟨g6, 0, none⟩) (kk + 1 + 1) c6) (kk + 1 + 1) (rowL opC (exA kk) ++ rowL opC [((2 : Int), (1 : Int), (0 : Int))]) → ∀ (o : Obj) (u7 : Value) (w7 : World), w7.ownsRow w.heap.size SoT 1 u7 (k + 1) (rowL slC bs ++ rowL slC [(g6, kk + 1 + 1, c6)]) → Appended w.heap.size (w6.alloc o) w7 (.slice pv k cv) u7 → OTs w7 w.heap.size u7 (bs ++ [(g6, kk + 1 + 1, c6)]) ((ysOf yields (k + 1)).map exOps) ∧ Below w.heap.size w w7) := fun w6 g6 c6 b6 h6 o u7 w7 h7 a7 => by
            have b6a := b6.alloc b6.size o
            have ho6 : OwnOps w6 (g6, kk + 1 + 1, c6) (exOps kk) := by
              have e6 : w6.ownsRow w1.heap.size OpT 3 (.slice (some ⟨g6, 0, none⟩) (exOps kk).length c6) (exOps kk).length (rowL opC (exOps kk)) := by
                rw [exOps_len, exA_end, rowL_append]
                exact h6
              refine ⟨?_, ?_⟩
              · have := RowAt.own opC_len e6
                rw [exOps_len] at this
                exact this
              · rcases h6.2 with ⟨e, _⟩ | ⟨g, c, cur, e, _, hb, _⟩
                · simp at e
                · simp only [Value.slice.injEq, Option.some.injEq, Addr.mk.injEq] at e
                  exact ⟨cur, (0, 0), by rw [e.1.1]; exact hb⟩
            rw [HSU.out]
            exact ⟨(HO1.out.fresh b6a).add (ho6.fresh ((Below.refl _ w6).alloc (Nat.le_refl _) o)) (by rw [HEL.out]; exact h7) a7, (bel1.trans (b6a.mono bel1.size)).trans a7.below⟩
          go_wp2_with (first
            | (at_builtin; refine wpList_app_row (l := [(g6, kk + 1 + 1, c6)]) (enc := slC) (k := 1) rfl (.tmp 42) (.tmp 47) 22 SoT rfl i1 _ 24 Try.underlying22 hi1 hz10 hz11 hz12 rfl (by decide) slC_len slC_one rfl rfl (OWT.out w6 bel6 _) (RowAt.built (heap_alloc_new w6 _) rfl 1 rfl rfl) (by have := bel6.size; have := bel1.size; simp; omega) (by simp; omega) (by simp; omega) ?_; intro u7 w7 h7 a7; have H7 : Hid _ := h7; have A7 : Hid _ := a7; obtain ⟨p7, c7, rfl⟩ := own_formN h7; clear h7 a7)
            | (at_builtin; refine wpList_app_row (l := [((2 : Int), (1 : Int), (0 : Int))]) (enc := opC) (k := 3) rfl (.tmp 43) (.tmp 45) 47 OpT rfl i0 _ 24 Try.underlying47 hi0 hz00 hz01 hz02 rfl (by decide) opC_len opC_one rfl rfl ((own_below9 HA.out b5).alloc _) (RowAt.built (heap_alloc_new w5 _) rfl 1 rfl rfl) (by have := b5.size; simp; omega) (by simp; omega) (by simp; omega) ?_; intro u6 w6 h6 a6; obtain ⟨g6, c6, rfl⟩ := own_formS h6 (by simp); have H6 : Hid _ := h6; have bel6 : Below w1.heap.size w1 w6 := ((bmm bel4 bel4.size b5).alloc (bmm bel4 bel4.size b5).size _).trans a6.below; clear h6 a6)
            | (go_at_call 26; refine (op_unlock 1 wr).mono ?_; rintro e w5 ⟨rfl, b5⟩))
          obtain ⟨g1, g2⟩ := HFIN.out w6 g6 c6 bel6 H6.out _ _ w7 H7.out A7.out
          go_roundw
          case rel => exact ⟨k + 1, _, hkl, by omega, by go_num, g1, g2⟩
          case measure => simp [RowKit.intOf]; omega
    · by_cases hkl : k < yields.length
      · have q0 : decide ((k : Int) < (yields.length : Int)) = true := decide_eq_true (by omega)
        have q1 : decide ((k : Int) < (8 : Int)) = false := decide_eq_false (by omega)
        have hk88 : ¬ k < 8 := by omega
        clear hky
        by_cases hpl : picks.length ≤ 1000
        case neg =>
          have q2 : decide ((1000 : Int) < (picks.length : Int)) = true := decide_eq_true (by omega)
          clear hpl
          go_wp2_with (go_at_call 10; refine (awake10_any _).mono ?_; rintro e w9 ⟨rfl, b9⟩)
          go_ret
          exact ⟨rfl, bmm bel bel.size b9⟩
        case pos =>
          have q2 : decide ((1000 : Int) < (picks.length : Int)) = false := decide_eq_false (by omega)
          have h5 := ysOf_le yields k
          have h8 : (ysOf yields k).length ≤ 8 := by have := HEL.out; rw [List.length_map] at this; omega
          obtain ⟨s1, s2, s3⟩ := exTs_ok h8 h5
          have H5Y : Hid (∀ y ∈ ysOf yields k, y ≤ 5) := h5
          have H8Y : Hid ((ysOf yields k).length ≤ 8) := h8
          clear h5 h8
          have hx := ps_new HO.out.tasks s1 s2 s3
          have HE0 : Hid _ := EI.start (ysOf yields k)
          obtain ⟨B, hB⟩ : ∃ B, B = wr.heap.size := ⟨_, rfl⟩
          have HTS : Hid (TasksAt wr (.slice pv k cv) ((ysOf yields k).map exOps)) := HO.out.tasks
          have HBW : Hid (∀ w4 : World, Below B wr w4 → Below w.heap.size w w4) := fun w4 b => bmm bel bel.size (by rw [← hB]; exact b)
          have HBS : Hid (∀ w4 : World, Below B wr w4 → B ≤ w4.heap.size) := fun w4 b => by have := b.size; omega
          have HTL : Hid (∀ bt, bt < wr.heap.size → bt < B) := fun bt h => by omega
          rw [← hB] at hx
          clear hB s1 s2 s3 HO
          generalize ((ysOf yields k).map exOps).map tkNew = T0 at *
          go_wp2_with (go_at_call 11; refine hx.mono ?_; rintro e w2 ⟨D, S2, rfl, h2', b2⟩; have H2 : Hid _ := h2'; clear h2')
          go_loopw [10, 11] (fun inn i w4 => ∃ (kk : Nat) (nn : Int) (S : Nat → Prop) (T : List Tk) (L : List (Int × Ob)), inn = .int .i64 nn ∧ i = .int .i64 kk ∧ PSk w4 B D S kk T L ∧ EI nn kk (ysOf yields k) T L ∧ Below B wr w4) (fun _ i _ => 200 - (RowKit.intOf i).toNat)
          case atStart => exact ⟨0, -1, S2, T0, [], rfl, rfl, H2.out, HE0.out, b2⟩
          case round =>
            obtain ⟨kk, nn, S, T, L, rfl, rfl, hR, hE, bel4⟩ := hrel
            have hfew := hE.few H8Y.out H5Y.out
            have q3 : decide ((kk : Int) < 200) = true := decide_eq_true (by omega)
            have hr := ps_Ready hR
            have HRK : Hid (PSk wr B D S kk T L) := hR
            have HB4 : Hid (Below w.heap.size w wr) := HBW.out wr bel4
            by_cases hne : readyL T = []
            · have he := hE.end_ hne
              rw [hne] at hr
              have HEND : Hid (∀ w2 : World, Below wr.heap.size wr w2 → Calls Try.prog 20 #[.pointer (some ⟨D, 0, none⟩)] w2 fun e w' => e = .returned (.bool true) ∧ Below wr.heap.size wr w') := fun w2 b2 => (ps_Ended (HRK.out.fresh b2)).mono fun _ _ ⟨e1, e2⟩ => ⟨by rw [← he]; exact e1, bmm b2 b2.size e2⟩
              clear hR hE hne he
              go_wp2_with (first
                | (go_at_call 10; refine (awake10_any w6).mono ?_; rintro e w7 ⟨rfl, b7⟩)
                | (go_at_call 20; refine (HEND.out w5 b5).mono ?_; rintro e w6 ⟨rfl, b6⟩)
                | (go_at_call 16; refine hr.mono ?_; rintro e w5 ⟨u, rfl, r5, b5⟩; obtain ⟨bu, cu, rfl⟩ := r5.none0; clear r5))
              go_ret
              have f1 := bmm HB4.out HB4.out.size b6
              exact ⟨rfl, bmm f1 f1.size b7⟩
            have hnl : 0 < (readyL T).length := List.length_pos_iff.2 hne
            have HNE : Hid (0 < (readyL T).length) := hnl
            have hpl' := placeR_lt (readyL T).length picks kk hnl
            obtain ⟨i, y, p, inn', T2, L2, hzi, hyi, hsp, hEI, halt⟩ := hE.step (z := (readyL T)[placeR (readyL T).length picks kk]) (List.getElem_mem _)
            have HZ : Hid (∀ (w2 : World) (bu ou : Nat), (∀ j (hj : j < (readyL T).length) c u, c < 1 → (intC (readyL T)[j])[c]? = some u → w2.cell? ⟨bu, ou + j * 1 + c, none⟩ = some u) → w2.cell? ⟨bu, ou + placeR (readyL T).length picks kk, none⟩ = some (.int .i64 (i : Int))) := fun w2 bu ou hx => by
              have := hx _ hpl' 0 _ (by decide) rfl
              simpa [hzi] using this
            have hle : (readyL T).length ≤ 65536 := (readyL_ok hR.ok).2
            have hzo : okI (i : Int) := by rw [← hzi]; exact readyL_pos hR.ok (List.getElem_mem _)
            rw [hzi] at hsp
            have HST : Hid (∀ w2 : World, Below wr.heap.size wr w2 → Calls Try.prog 13 #[.pointer (some ⟨D, 0, none⟩), .int .i64 (i : Int)] w2 fun e w' => e = .returned (.tuple #[.agg #[.int .i64 (i : Int), .int .i64 (p : Int), .int .i64 0], .int .i64 0]) ∧ ∃ S', PSk w' B D S' (kk + 1) T2 L2 ∧ Below B wr w') := fun w2 b2 => (ps_step (HRK.out.fresh b2) (i : Int) hzo (by omega)).mono fun _ _ ⟨e1, S', e2, e3⟩ => by
              rw [hsp] at e1 e2
              exact ⟨e1, S', e2, (b2.mono HRK.out.base_le).trans ((HRK.out.fresh b2).below e3)⟩
            have hiy := (List.getElem?_eq_some_iff.1 hyi).1
            have hik : i < k := by have := HEL.out; rw [List.length_map] at this; omega
            obtain ⟨bt, ot, ct, et, hbt, hxt⟩ := HTS.out.cells (by rw [HEL.out]; omega)
            obtain ⟨ai, ci, hct, hct2⟩ := hxt i (by rw [HEL.out]; exact hik)
            clear hct2
            simp only [Value.slice.injEq] at et
            obtain ⟨rfl, hkeq, rfl⟩ := et
            clear hkeq
            have hN : ((ysOf yields k).map exOps)[i]'(by rw [HEL.out]; exact hik) = exOps y := by rw [List.getElem_map, (List.getElem?_eq_some_iff.1 hyi).2]
            rw [hN, exOps_len] at hct
            obtain ⟨N, hNy⟩ : ∃ N, N = y + 2 := ⟨_, rfl⟩
            rw [← hNy] at hct
            have HTC : Hid (∀ w4 : World, Below B _ w4 → ∀ o, (w4.alloc o).cell? ⟨bt, ot + i, none⟩ = some (.slice ai N ci)) := fun w4 b4 o => ((b4.alloc (HBS.out w4 b4) o).cell (p := ⟨bt, ot + i, none⟩) (by exact HTL.out bt hbt)).trans hct
            have HSZ : Hid _ := HBS.out
            have qk : decide ((i : Int) < (k : Int)) = true := decide_eq_true (by omega)
            have qw : IntKind.i64.wrap ((N : Int) - 1) = (N : Int) - 1 := by rw [IntKind.wrap_i64]; have := ysOf_le yields k y (List.mem_of_getElem? hyi); omega
            have qn0 : (((readyL T).length : Int) == 0) = false := by rw [beq_eq_false_iff_ne]; omega
            have HEI : Hid (EI inn' (kk + 1) (ysOf yields k) T2 L2) := hEI
            have HALT : Hid _ := halt
            have hlim : True := trivial
            clear hR hE hne hEI halt hzi hsp hxt hN hct hyi hzo hiy HTS hle hbt
            cases hpk : picks[kk]? with
            | none =>
              have hkp : ¬ kk < picks.length := by have := List.getElem?_eq_none_iff.1 hpk; omega
              have q4 : decide ((kk : Int) < (picks.length : Int)) = false := decide_eq_false (by omega)
              have ep0 : placeR (readyL T).length picks kk = 0 := by unfold placeR; rw [hpk]
              rw [ep0] at HZ
              replace HZ : Hid (∀ (w2 : World) (bu ou : Nat), (∀ j (hj : j < (readyL T).length) c u, c < 1 → (intC (readyL T)[j])[c]? = some u → w2.cell? ⟨bu, ou + j * 1 + c, none⟩ = some u) → w2.cell? ⟨bu, ou, none⟩ = some (.int .i64 (i : Int))) := HZ.out
              have ZP : Hid (∀ w2 : World, Below wr.heap.size wr w2 → True) := fun _ _ => trivial
              clear hpk hpl' ep0
              rcases HALT.out with ⟨hp1, hp2, hnn | hnn, hi2⟩ | ⟨hp1, hp2, hnn, hi2⟩ | ⟨hp1, hp2, hnn, hi2⟩ | ⟨hp0, hi2⟩
              · have DN : Hid (EI (i : Int) (kk + 1) (ysOf yields k) T2 L2) := (by have := HEI.out; rw [hi2] at this; exact this)
                clear hi2
                have qp : decide ((0 : Int) < (p : Int)) = true := decide_eq_true (by omega)
                have qn : decide ((p : Int) < (N : Int) - 1) = true := decide_eq_true (by omega)
                subst hnn
                clear hlim hNy
                go_wp2_with (first
                  | (go_at_call 13; refine (HST.out w2 b2).mono ?_; rintro e w3 ⟨rfl, S3, h3', bb3⟩; have H3 : Hid _ := h3'; clear h3'; have x9 := HTC.out w3 (bel4.trans bb3) (.cells #[.int .i64 (i : Int), .int .i64 (p : Int), .int .i64 0] 32))
                  | (go_at_call 16; refine hr.mono ?_; rintro e w2 ⟨u, rfl, r2, b2⟩; obtain ⟨bu, ou, cu, rfl, _, hbu, hxu⟩ := r2.cells intC_len HNE.out; have yz : w2.cell? ⟨bu, ou, none⟩ = some (.int .i64 (i : Int)) := HZ.out w2 bu ou hxu; have zp2 := ZP.out w2 b2; clear r2 hxu))
                go_region_held3 (fun w' : World => w'.cell? ⟨w3.heap.size, 0, none⟩ = some (.int .i64 (i : Int)) ∧ w'.cell? ⟨w3.heap.size, 1, none⟩ = some (.int .i64 (p : Int)) ∧ w'.cell? ⟨bt, ot + i, none⟩ = some (.slice ai N ci)) (go_keep) (fail)
                go_wp2
                have belW := (((bel4.trans bb3).alloc (HSZ.out w3 (bel4.trans bb3)) (.cells #[.int .i64 (i : Int), .int .i64 (p : Int), .int .i64 0] 32))).drew
                go_roundw
                case rel => exact ⟨kk + 1, (i : Int), S3, T2, L2, by go_num, by go_num, H3.out.fresh ((Below.refl _ w3).alloc (Nat.le_refl _) _).drew, DN.out, belW⟩
                case measure => simp [RowKit.intOf]; omega
              · have DN : Hid (EI (i : Int) (kk + 1) (ysOf yields k) T2 L2) := (by have := HEI.out; rw [hi2] at this; exact this)
                clear hi2
                have qp : decide ((0 : Int) < (p : Int)) = true := decide_eq_true (by omega)
                have qn : decide ((p : Int) < (N : Int) - 1) = true := decide_eq_true (by omega)
                subst hnn
                have qi : decide ((0 : Int) ≤ (i : Int)) = true := decide_eq_true (by omega)
                have qs : ((i : Int) != (i : Int)) = false := by rw [bne_eq_false_iff_eq]
                clear hlim hNy
                go_wp2_with (first
                  | (go_at_call 13; refine (HST.out w2 b2).mono ?_; rintro e w3 ⟨rfl, S3, h3', bb3⟩; have H3 : Hid _ := h3'; clear h3'; have x9 := HTC.out w3 (bel4.trans bb3) (.cells #[.int .i64 (i : Int), .int .i64 (p : Int), .int .i64 0] 32))
                  | (go_at_call 16; refine hr.mono ?_; rintro e w2 ⟨u, rfl, r2, b2⟩; obtain ⟨bu, ou, cu, rfl, _, hbu, hxu⟩ := r2.cells intC_len HNE.out; have yz : w2.cell? ⟨bu, ou, none⟩ = some (.int .i64 (i : Int)) := HZ.out w2 bu ou hxu; have zp2 := ZP.out w2 b2; clear r2 hxu))
                go_region_held3 (fun w' : World => w'.cell? ⟨w3.heap.size, 0, none⟩ = some (.int .i64 (i : Int)) ∧ w'.cell? ⟨w3.heap.size, 1, none⟩ = some (.int .i64 (p : Int)) ∧ w'.cell? ⟨bt, ot + i, none⟩ = some (.slice ai N ci)) (go_keep) (fail)
                go_wp2
                have belW := (((bel4.trans bb3).alloc (HSZ.out w3 (bel4.trans bb3)) (.cells #[.int .i64 (i : Int), .int .i64 (p : Int), .int .i64 0] 32))).drew
                go_roundw
                case rel => exact ⟨kk + 1, (i : Int), S3, T2, L2, by go_num, by go_num, H3.out.fresh ((Below.refl _ w3).alloc (Nat.le_refl _) _).drew, DN.out, belW⟩
                case measure => simp [RowKit.intOf]; omega
              · have DN : Hid (EI (-1) (kk + 1) (ysOf yields k) T2 L2) := (by have := HEI.out; rw [hi2] at this; exact this)
                clear hi2
                have qp : decide ((0 : Int) < (p : Int)) = true := decide_eq_true (by omega)
                have qn : decide ((p : Int) < (N : Int) - 1) = false := decide_eq_false (by omega)
                subst hnn
                clear hlim hNy
                go_wp2_with (first
                  | (go_at_call 13; refine (HST.out w2 b2).mono ?_; rintro e w3 ⟨rfl, S3, h3', bb3⟩; have H3 : Hid _ := h3'; clear h3'; have x9 := HTC.out w3 (bel4.trans bb3) (.cells #[.int .i64 (i : Int), .int .i64 (p : Int), .int .i64 0] 32))
                  | (go_at_call 16; refine hr.mono ?_; rintro e w2 ⟨u, rfl, r2, b2⟩; obtain ⟨bu, ou, cu, rfl, _, hbu, hxu⟩ := r2.cells intC_len HNE.out; have yz : w2.cell? ⟨bu, ou, none⟩ = some (.int .i64 (i : Int)) := HZ.out w2 bu ou hxu; have zp2 := ZP.out w2 b2; clear r2 hxu))
                go_region_held3 (fun w' : World => w'.cell? ⟨w3.heap.size, 0, none⟩ = some (.int .i64 (i : Int)) ∧ w'.cell? ⟨w3.heap.size, 1, none⟩ = some (.int .i64 (p : Int)) ∧ w'.cell? ⟨bt, ot + i, none⟩ = some (.slice ai N ci)) (go_keep) (fail)
                go_wp2
                have belW := (((bel4.trans bb3).alloc (HSZ.out w3 (bel4.trans bb3)) (.cells #[.int .i64 (i : Int), .int .i64 (p : Int), .int .i64 0] 32))).drew
                go_roundw
                case rel => exact ⟨kk + 1, (-1), S3, T2, L2, by go_num, by go_num, H3.out.fresh ((Below.refl _ w3).alloc (Nat.le_refl _) _).drew, DN.out, belW⟩
                case measure => simp [RowKit.intOf]; omega
              · have DN : Hid (EI nn (kk + 1) (ysOf yields k) T2 L2) := (by have := HEI.out; rw [hi2] at this; exact this)
                clear hi2
                have qp : decide ((0 : Int) < (p : Int)) = true := decide_eq_true (by omega)
                have qn : decide ((p : Int) < (N : Int) - 1) = false := decide_eq_false (by omega)
                have qs : (nn == (i : Int)) = false := beq_eq_false_iff_ne.2 hnn
                clear hlim hNy
                go_wp2_with (first
                  | (go_at_call 13; refine (HST.out w2 b2).mono ?_; rintro e w3 ⟨rfl, S3, h3', bb3⟩; have H3 : Hid _ := h3'; clear h3'; have x9 := HTC.out w3 (bel4.trans bb3) (.cells #[.int .i64 (i : Int), .int .i64 (p : Int), .int .i64 0] 32))
                  | (go_at_call 16; refine hr.mono ?_; rintro e w2 ⟨u, rfl, r2, b2⟩; obtain ⟨bu, ou, cu, rfl, _, hbu, hxu⟩ := r2.cells intC_len HNE.out; have yz : w2.cell? ⟨bu, ou, none⟩ = some (.int .i64 (i : Int)) := HZ.out w2 bu ou hxu; have zp2 := ZP.out w2 b2; clear r2 hxu))
                go_region_held3 (fun w' : World => w'.cell? ⟨w3.heap.size, 0, none⟩ = some (.int .i64 (i : Int)) ∧ w'.cell? ⟨w3.heap.size, 1, none⟩ = some (.int .i64 (p : Int)) ∧ w'.cell? ⟨bt, ot + i, none⟩ = some (.slice ai N ci)) (go_keep) (fail)
                go_wp2
                have belW := (((bel4.trans bb3).alloc (HSZ.out w3 (bel4.trans bb3)) (.cells #[.int .i64 (i : Int), .int .i64 (p : Int), .int .i64 0] 32))).drew
                go_roundw
                case rel => exact ⟨kk + 1, nn, S3, T2, L2, by go_num, by go_num, H3.out.fresh ((Below.refl _ w3).alloc (Nat.le_refl _) _).drew, DN.out, belW⟩
                case measure => simp [RowKit.intOf]; omega
              · have DN : Hid (EI nn (kk + 1) (ysOf yields k) T2 L2) := (by have := HEI.out; rw [hi2] at this; exact this)
                clear hi2
                subst hp0
                clear hlim hNy
                go_wp2_with (first
                  | (go_at_call 13; refine (HST.out w2 b2).mono ?_; rintro e w3 ⟨rfl, S3, h3', bb3⟩; have H3 : Hid _ := h3'; clear h3'; have x9 := HTC.out w3 (bel4.trans bb3) (.cells #[.int .i64 (i : Int), .int .i64 0, .int .i64 0] 32))
                  | (go_at_call 16; refine hr.mono ?_; rintro e w2 ⟨u, rfl, r2, b2⟩; obtain ⟨bu, ou, cu, rfl, _, hbu, hxu⟩ := r2.cells intC_len HNE.out; have yz : w2.cell? ⟨bu, ou, none⟩ = some (.int .i64 (i : Int)) := HZ.out w2 bu ou hxu; have zp2 := ZP.out w2 b2; clear r2 hxu))
                refine wp_region_held_drew (S := (fun w' : World => w'.cell? ⟨w3.heap.size, 0, none⟩ = some (.int .i64 (i : Int)) ∧ w'.cell? ⟨w3.heap.size, 1, none⟩ = some (.int .i64 0))) (by kernel_rfl) ?_ (fun hHeld0 => ?_)
                · try dsimp only
                  go_keep
                refine tk0 (.pointer (some ⟨w3.heap.size, 1, none⟩)) (by kernel_rfl) (by kernel_rfl) (by kernel_rfl) (fun _ _ _ h => h) rfl (fun w hSw => by (try dsimp only at hSw); obtain ⟨y0, y1⟩ := hSw; go_simp) (by assumption) ?_
                try simp only [Act.put, List.setIfInBounds_toArray, List.set_cons_zero, List.set_cons_succ]
                refine tk1 (.int .i64 0) (by kernel_rfl) (by kernel_rfl) (by kernel_rfl) (fun _ _ _ h => h) rfl (fun w hSw => by (try dsimp only at hSw); obtain ⟨y0, y1⟩ := hSw; go_simp) (by assumption) ?_
                try simp only [Act.put, List.setIfInBounds_toArray, List.set_cons_zero, List.set_cons_succ]
                refine tk2 (.bool false) (by kernel_rfl) (by kernel_rfl) (by kernel_rfl) (fun _ _ _ h => h) rfl (fun w hSw => by (try dsimp only at hSw); obtain ⟨y0, y1⟩ := hSw; go_simp) (by assumption) ?_
                try simp only [Act.put, List.setIfInBounds_toArray, List.set_cons_zero, List.set_cons_succ]
                refine tk3 (.bool false) (by kernel_rfl) (by kernel_rfl) (by kernel_rfl) (fun _ _ _ h => h) rfl (fun w hSw => by (try dsimp only at hSw); obtain ⟨y0, y1⟩ := hSw; go_simp) (by assumption) ?_
                try simp only [Act.put, List.setIfInBounds_toArray, List.set_cons_zero, List.set_cons_succ]
                refine sk4 (by kernel_rfl) (by kernel_rfl) (by kernel_rfl) (fun _ _ _ h => h) rfl (by assumption) ?_
                try simp only [Act.put, List.setIfInBounds_toArray, List.set_cons_zero, List.set_cons_succ]
                refine sk5 (by kernel_rfl) (by kernel_rfl) (by kernel_rfl) (fun _ _ _ h => h) rfl (by assumption) ?_
                try simp only [Act.put, List.setIfInBounds_toArray, List.set_cons_zero, List.set_cons_succ]
                refine sk6 (by kernel_rfl) (by kernel_rfl) (by kernel_rfl) (fun _ _ _ h => h) rfl (by assumption) ?_
                try simp only [Act.put, List.setIfInBounds_toArray, List.set_cons_zero, List.set_cons_succ]
                refine sk7 (by kernel_rfl) (by kernel_rfl) (by kernel_rfl) (fun _ _ _ h => h) rfl (by assumption) ?_
                try simp only [Act.put, List.setIfInBounds_toArray, List.set_cons_zero, List.set_cons_succ]
                refine sk8 (by kernel_rfl) (by kernel_rfl) (by kernel_rfl) (fun _ _ _ h => h) rfl (by assumption) ?_
                try simp only [Act.put, List.setIfInBounds_toArray, List.set_cons_zero, List.set_cons_succ]
                refine sk9 (by kernel_rfl) (by kernel_rfl) (by kernel_rfl) (fun _ _ _ h => h) rfl (by assumption) ?_
                try simp only [Act.put, List.setIfInBounds_toArray, List.set_cons_zero, List.set_cons_succ]
                refine sk10 (by kernel_rfl) (by kernel_rfl) (by kernel_rfl) (fun _ _ _ h => h) rfl (by assumption) ?_
                try simp only [Act.put, List.setIfInBounds_toArray, List.set_cons_zero, List.set_cons_succ]
                refine sk11 (by kernel_rfl) (by kernel_rfl) (by kernel_rfl) (fun _ _ _ h => h) rfl (by assumption) ?_
                try simp only [Act.put, List.setIfInBounds_toArray, List.set_cons_zero, List.set_cons_succ]
                refine sk12 (by kernel_rfl) (by kernel_rfl) (by kernel_rfl) (fun _ _ _ h => h) rfl (by assumption) ?_
                try simp only [Act.put, List.setIfInBounds_toArray, List.set_cons_zero, List.set_cons_succ]
                refine sk13 (by kernel_rfl) (by kernel_rfl) (by kernel_rfl) (fun _ _ _ h => h) rfl (by assumption) ?_
                try simp only [Act.put, List.setIfInBounds_toArray, List.set_cons_zero, List.set_cons_succ]
                refine tk14 (.bool false) (by kernel_rfl) (by kernel_rfl) (by kernel_rfl) (fun _ _ _ h => h) rfl (fun w hSw => by (try dsimp only at hSw); obtain ⟨y0, y1⟩ := hSw; go_simp) (by assumption) ?_
                try simp only [Act.put, List.setIfInBounds_toArray, List.set_cons_zero, List.set_cons_succ]
                refine wpAnyH_done (by kernel_rfl) ?_ _
                clear hHeld0
                go_wp2
                have belW := (((bel4.trans bb3).alloc (HSZ.out w3 (bel4.trans bb3)) (.cells #[.int .i64 (i : Int), .int .i64 0, .int .i64 0] 32))).drew
                go_roundw
                case rel => exact ⟨kk + 1, nn, S3, T2, L2, by go_num, by go_num, H3.out.fresh ((Below.refl _ w3).alloc (Nat.le_refl _) _).drew, DN.out, belW⟩
                case measure => simp [RowKit.intOf]; omega
            | some pk =>
              obtain ⟨hkp, hpe⟩ := List.getElem?_eq_some_iff.1 hpk
              have q4 : decide ((kk : Int) < (picks.length : Int)) = true := decide_eq_true (by omega)
              obtain ⟨bp, op, cp', ep, _, hbp, hxp⟩ := HP.out.cells intC_len (by omega)
              simp only [Value.slice.injEq] at ep
              obtain ⟨rfl, _, rfl⟩ := ep
              have zp : w.cell? ⟨bp, op + kk, none⟩ = some (.int .i64 pk) := by
                have := hxp kk hkp 0 _ (by decide) rfl
                simpa [hpe] using this
              have ZP : Hid (∀ w2 : World, Below wr.heap.size wr w2 → w2.cell? ⟨bp, op + kk, none⟩ = some (.int .i64 pk)) := fun w2 b2 => (b2.cell (p := ⟨bp, op + kk, none⟩) (by have := HB4.out.size; exact Nat.lt_of_lt_of_le hbp this)).trans ((HB4.out.cell (p := ⟨bp, op + kk, none⟩) (by exact hbp)).trans zp)
              have ep0 : (placeR (readyL T).length picks kk : Int) = pk % ((readyL T).length : Int) := by
                unfold placeR
                rw [hpk]
                have := Int.emod_nonneg pk (show ((readyL T).length : Int) ≠ 0 by omega)
                show (((pk % ((readyL T).length : Int)).toNat : Nat) : Int) = _
                omega
              have ht := tmod_two pk (readyL T).length hnl
              obtain ⟨hlo, hhi⟩ := tmod_lo pk (readyL T).length hnl
              rw [← ep0] at ht
              have qz : decide (((readyL T).length : Int) = 0) = false := decide_eq_false (by omega)
              have qww : IntKind.i64.wrap (pk.tmod ((readyL T).length : Int) + ((readyL T).length : Int)) = pk.tmod ((readyL T).length : Int) + ((readyL T).length : Int) := by rw [IntKind.wrap_i64]; have := (readyL_ok HRK.out.ok).2; omega
              generalize placeR (readyL T).length picks kk = pl at *
              clear hxp zp hpk ep0 hpe hlo hhi
              rcases HALT.out with ⟨hp1, hp2, hnn | hnn, hi2⟩ | ⟨hp1, hp2, hnn, hi2⟩ | ⟨hp1, hp2, hnn, hi2⟩ | ⟨hp0, hi2⟩
              · have DN : Hid (EI (i : Int) (kk + 1) (ysOf yields k) T2 L2) := (by have := HEI.out; rw [hi2] at this; exact this)
                clear hi2
                have qp : decide ((0 : Int) < (p : Int)) = true := decide_eq_true (by omega)
                have qn : decide ((p : Int) < (N : Int) - 1) = true := decide_eq_true (by omega)
                subst hnn
                clear hlim hNy
                go_wp2_with (first
                  | (go_at_call 13; refine (HST.out w2 b2).mono ?_; rintro e w3 ⟨rfl, S3, h3', bb3⟩; have H3 : Hid _ := h3'; clear h3'; have x9 := HTC.out w3 (bel4.trans bb3) (.cells #[.int .i64 (i : Int), .int .i64 (p : Int), .int .i64 0] 32))
                  | (go_at_call 16; refine hr.mono ?_; rintro e w2 ⟨u, rfl, r2, b2⟩; obtain ⟨bu, ou, cu, rfl, _, hbu, hxu⟩ := r2.cells intC_len HNE.out; have yz : w2.cell? ⟨bu, ou + pl, none⟩ = some (.int .i64 (i : Int)) := HZ.out w2 bu ou hxu; have zp2 := ZP.out w2 b2; clear r2 hxu))
                go_region_held3 (fun w' : World => w'.cell? ⟨w3.heap.size, 0, none⟩ = some (.int .i64 (i : Int)) ∧ w'.cell? ⟨w3.heap.size, 1, none⟩ = some (.int .i64 (p : Int)) ∧ w'.cell? ⟨bt, ot + i, none⟩ = some (.slice ai N ci)) (go_keep) (fail)
                go_wp2
                have belW := (((bel4.trans bb3).alloc (HSZ.out w3 (bel4.trans bb3)) (.cells #[.int .i64 (i : Int), .int .i64 (p : Int), .int .i64 0] 32))).drew
                go_roundw
                case rel => exact ⟨kk + 1, (i : Int), S3, T2, L2, by go_num, by go_num, H3.out.fresh ((Below.refl _ w3).alloc (Nat.le_refl _) _).drew, DN.out, belW⟩
                case measure => simp [RowKit.intOf]; omega
              · have DN : Hid (EI (i : Int) (kk + 1) (ysOf yields k) T2 L2) := (by have := HEI.out; rw [hi2] at this; exact this)
                clear hi2
                have qp : decide ((0 : Int) < (p : Int)) = true := decide_eq_true (by omega)
                have qn : decide ((p : Int) < (N : Int) - 1) = true := decide_eq_true (by omega)
                subst hnn
                have qi : decide ((0 : Int) ≤ (i : Int)) = true := decide_eq_true (by omega)
                have qs : ((i : Int) != (i : Int)) = false := by rw [bne_eq_false_iff_eq]
                clear hlim hNy
                go_wp2_with (first
                  | (go_at_call 13; refine (HST.out w2 b2).mono ?_; rintro e w3 ⟨rfl, S3, h3', bb3⟩; have H3 : Hid _ := h3'; clear h3'; have x9 := HTC.out w3 (bel4.trans bb3) (.cells #[.int .i64 (i : Int), .int .i64 (p : Int), .int .i64 0] 32))
                  | (go_at_call 16; refine hr.mono ?_; rintro e w2 ⟨u, rfl, r2, b2⟩; obtain ⟨bu, ou, cu, rfl, _, hbu, hxu⟩ := r2.cells intC_len HNE.out; have yz : w2.cell? ⟨bu, ou + pl, none⟩ = some (.int .i64 (i : Int)) := HZ.out w2 bu ou hxu; have zp2 := ZP.out w2 b2; clear r2 hxu))
                go_region_held3 (fun w' : World => w'.cell? ⟨w3.heap.size, 0, none⟩ = some (.int .i64 (i : Int)) ∧ w'.cell? ⟨w3.heap.size, 1, none⟩ = some (.int .i64 (p : Int)) ∧ w'.cell? ⟨bt, ot + i, none⟩ = some (.slice ai N ci)) (go_keep) (fail)
                go_wp2
                have belW := (((bel4.trans bb3).alloc (HSZ.out w3 (bel4.trans bb3)) (.cells #[.int .i64 (i : Int), .int .i64 (p : Int), .int .i64 0] 32))).drew
                go_roundw
                case rel => exact ⟨kk + 1, (i : Int), S3, T2, L2, by go_num, by go_num, H3.out.fresh ((Below.refl _ w3).alloc (Nat.le_refl _) _).drew, DN.out, belW⟩
                case measure => simp [RowKit.intOf]; omega
              · have DN : Hid (EI (-1) (kk + 1) (ysOf yields k) T2 L2) := (by have := HEI.out; rw [hi2] at this; exact this)
                clear hi2
                have qp : decide ((0 : Int) < (p : Int)) = true := decide_eq_true (by omega)
                have qn : decide ((p : Int) < (N : Int) - 1) = false := decide_eq_false (by omega)
                subst hnn
                clear hlim hNy
                go_wp2_with (first
                  | (go_at_call 13; refine (HST.out w2 b2).mono ?_; rintro e w3 ⟨rfl, S3, h3', bb3⟩; have H3 : Hid _ := h3'; clear h3'; have x9 := HTC.out w3 (bel4.trans bb3) (.cells #[.int .i64 (i : Int), .int .i64 (p : Int), .int .i64 0] 32))
                  | (go_at_call 16; refine hr.mono ?_; rintro e w2 ⟨u, rfl, r2, b2⟩; obtain ⟨bu, ou, cu, rfl, _, hbu, hxu⟩ := r2.cells intC_len HNE.out; have yz : w2.cell? ⟨bu, ou + pl, none⟩ = some (.int .i64 (i : Int)) := HZ.out w2 bu ou hxu; have zp2 := ZP.out w2 b2; clear r2 hxu))
                go_region_held3 (fun w' : World => w'.cell? ⟨w3.heap.size, 0, none⟩ = some (.int .i64 (i : Int)) ∧ w'.cell? ⟨w3.heap.size, 1, none⟩ = some (.int .i64 (p : Int)) ∧ w'.cell? ⟨bt, ot + i, none⟩ = some (.slice ai N ci)) (go_keep) (fail)
                go_wp2
                have belW := (((bel4.trans bb3).alloc (HSZ.out w3 (bel4.trans bb3)) (.cells #[.int .i64 (i : Int), .int .i64 (p : Int), .int .i64 0] 32))).drew
                go_roundw
                case rel => exact ⟨kk + 1, (-1), S3, T2, L2, by go_num, by go_num, H3.out.fresh ((Below.refl _ w3).alloc (Nat.le_refl _) _).drew, DN.out, belW⟩
                case measure => simp [RowKit.intOf]; omega
              · have DN : Hid (EI nn (kk + 1) (ysOf yields k) T2 L2) := (by have := HEI.out; rw [hi2] at this; exact this)
                clear hi2
                have qp : decide ((0 : Int) < (p : Int)) = true := decide_eq_true (by omega)
                have qn : decide ((p : Int) < (N : Int) - 1) = false := decide_eq_false (by omega)
                have qs : (nn == (i : Int)) = false := beq_eq_false_iff_ne.2 hnn
                clear hlim hNy
                go_wp2_with (first
                  | (go_at_call 13; refine (HST.out w2 b2).mono ?_; rintro e w3 ⟨rfl, S3, h3', bb3⟩; have H3 : Hid _ := h3'; clear h3'; have x9 := HTC.out w3 (bel4.trans bb3) (.cells #[.int .i64 (i : Int), .int .i64 (p : Int), .int .i64 0] 32))
                  | (go_at_call 16; refine hr.mono ?_; rintro e w2 ⟨u, rfl, r2, b2⟩; obtain ⟨bu, ou, cu, rfl, _, hbu, hxu⟩ := r2.cells intC_len HNE.out; have yz : w2.cell? ⟨bu, ou + pl, none⟩ = some (.int .i64 (i : Int)) := HZ.out w2 bu ou hxu; have zp2 := ZP.out w2 b2; clear r2 hxu))
                go_region_held3 (fun w' : World => w'.cell? ⟨w3.heap.size, 0, none⟩ = some (.int .i64 (i : Int)) ∧ w'.cell? ⟨w3.heap.size, 1, none⟩ = some (.int .i64 (p : Int)) ∧ w'.cell? ⟨bt, ot + i, none⟩ = some (.slice ai N ci)) (go_keep) (fail)
                go_wp2
                have belW := (((bel4.trans bb3).alloc (HSZ.out w3 (bel4.trans bb3)) (.cells #[.int .i64 (i : Int), .int .i64 (p : Int), .int .i64 0] 32))).drew
                go_roundw
                case rel => exact ⟨kk + 1, nn, S3, T2, L2, by go_num, by go_num, H3.out.fresh ((Below.refl _ w3).alloc (Nat.le_refl _) _).drew, DN.out, belW⟩
                case measure => simp [RowKit.intOf]; omega
              · have DN : Hid (EI nn (kk + 1) (ysOf yields k) T2 L2) := (by have := HEI.out; rw [hi2] at this; exact this)
                clear hi2
                subst hp0
                clear hlim hNy
                go_wp2_with (first
                  | (go_at_call 13; refine (HST.out w2 b2).mono ?_; rintro e w3 ⟨rfl, S3, h3', bb3⟩; have H3 : Hid _ := h3'; clear h3'; have x9 := HTC.out w3 (bel4.trans bb3) (.cells #[.int .i64 (i : Int), .int .i64 0, .int .i64 0] 32))
                  | (go_at_call 16; refine hr.mono ?_; rintro e w2 ⟨u, rfl, r2, b2⟩; obtain ⟨bu, ou, cu, rfl, _, hbu, hxu⟩ := r2.cells intC_len HNE.out; have yz : w2.cell? ⟨bu, ou + pl, none⟩ = some (.int .i64 (i : Int)) := HZ.out w2 bu ou hxu; have zp2 := ZP.out w2 b2; clear r2 hxu))
                refine wp_region_held_drew (S := (fun w' : World => w'.cell? ⟨w3.heap.size, 0, none⟩ = some (.int .i64 (i : Int)) ∧ w'.cell? ⟨w3.heap.size, 1, none⟩ = some (.int .i64 0))) (by kernel_rfl) ?_ (fun hHeld0 => ?_)
                · try dsimp only
                  go_keep
                refine tk0 (.pointer (some ⟨w3.heap.size, 1, none⟩)) (by kernel_rfl) (by kernel_rfl) (by kernel_rfl) (fun _ _ _ h => h) rfl (fun w hSw => by (try dsimp only at hSw); obtain ⟨y0, y1⟩ := hSw; go_simp) (by assumption) ?_
                try simp only [Act.put, List.setIfInBounds_toArray, List.set_cons_zero, List.set_cons_succ]
                refine tk1 (.int .i64 0) (by kernel_rfl) (by kernel_rfl) (by kernel_rfl) (fun _ _ _ h => h) rfl (fun w hSw => by (try dsimp only at hSw); obtain ⟨y0, y1⟩ := hSw; go_simp) (by assumption) ?_
                try simp only [Act.put, List.setIfInBounds_toArray, List.set_cons_zero, List.set_cons_succ]
                refine tk2 (.bool false) (by kernel_rfl) (by kernel_rfl) (by kernel_rfl) (fun _ _ _ h => h) rfl (fun w hSw => by (try dsimp only at hSw); obtain ⟨y0, y1⟩ := hSw; go_simp) (by assumption) ?_
                try simp only [Act.put, List.setIfInBounds_toArray, List.set_cons_zero, List.set_cons_succ]
                refine tk3 (.bool false) (by kernel_rfl) (by kernel_rfl) (by kernel_rfl) (fun _ _ _ h => h) rfl (fun w hSw => by (try dsimp only at hSw); obtain ⟨y0, y1⟩ := hSw; go_simp) (by assumption) ?_
                try simp only [Act.put, List.setIfInBounds_toArray, List.set_cons_zero, List.set_cons_succ]
                refine sk4 (by kernel_rfl) (by kernel_rfl) (by kernel_rfl) (fun _ _ _ h => h) rfl (by assumption) ?_
                try simp only [Act.put, List.setIfInBounds_toArray, List.set_cons_zero, List.set_cons_succ]
                refine sk5 (by kernel_rfl) (by kernel_rfl) (by kernel_rfl) (fun _ _ _ h => h) rfl (by assumption) ?_
                try simp only [Act.put, List.setIfInBounds_toArray, List.set_cons_zero, List.set_cons_succ]
                refine sk6 (by kernel_rfl) (by kernel_rfl) (by kernel_rfl) (fun _ _ _ h => h) rfl (by assumption) ?_
                try simp only [Act.put, List.setIfInBounds_toArray, List.set_cons_zero, List.set_cons_succ]
                refine sk7 (by kernel_rfl) (by kernel_rfl) (by kernel_rfl) (fun _ _ _ h => h) rfl (by assumption) ?_
                try simp only [Act.put, List.setIfInBounds_toArray, List.set_cons_zero, List.set_cons_succ]
                refine sk8 (by kernel_rfl) (by kernel_rfl) (by kernel_rfl) (fun _ _ _ h => h) rfl (by assumption) ?_
                try simp only [Act.put, List.setIfInBounds_toArray, List.set_cons_zero, List.set_cons_succ]
                refine sk9 (by kernel_rfl) (by kernel_rfl) (by kernel_rfl) (fun _ _ _ h => h) rfl (by assumption) ?_
                try simp only [Act.put, List.setIfInBounds_toArray, List.set_cons_zero, List.set_cons_succ]
                refine sk10 (by kernel_rfl) (by kernel_rfl) (by kernel_rfl) (fun _ _ _ h => h) rfl (by assumption) ?_
                try simp only [Act.put, List.setIfInBounds_toArray, List.set_cons_zero, List.set_cons_succ]
                refine sk11 (by kernel_rfl) (by kernel_rfl) (by kernel_rfl) (fun _ _ _ h => h) rfl (by assumption) ?_
                try simp only [Act.put, List.setIfInBounds_toArray, List.set_cons_zero, List.set_cons_succ]
                refine sk12 (by kernel_rfl) (by kernel_rfl) (by kernel_rfl) (fun _ _ _ h => h) rfl (by assumption) ?_
                try simp only [Act.put, List.setIfInBounds_toArray, List.set_cons_zero, List.set_cons_succ]
                refine sk13 (by kernel_rfl) (by kernel_rfl) (by kernel_rfl) (fun _ _ _ h => h) rfl (by assumption) ?_
                try simp only [Act.put, List.setIfInBounds_toArray, List.set_cons_zero, List.set_cons_succ]
                refine tk14 (.bool false) (by kernel_rfl) (by kernel_rfl) (by kernel_rfl) (fun _ _ _ h => h) rfl (fun w hSw => by (try dsimp only at hSw); obtain ⟨y0, y1⟩ := hSw; go_simp) (by assumption) ?_
                try simp only [Act.put, List.setIfInBounds_toArray, List.set_cons_zero, List.set_cons_succ]
                refine wpAnyH_done (by kernel_rfl) ?_ _
                clear hHeld0
                go_wp2
                have belW := (((bel4.trans bb3).alloc (HSZ.out w3 (bel4.trans bb3)) (.cells #[.int .i64 (i : Int), .int .i64 0, .int .i64 0] 32))).drew
                go_roundw
                case rel => exact ⟨kk + 1, nn, S3, T2, L2, by go_num, by go_num, H3.out.fresh ((Below.refl _ w3).alloc (Nat.le_refl _) _).drew, DN.out, belW⟩
                case measure => simp [RowKit.intOf]; omega

      · have q0 : decide ((k : Int) < (yields.length : Int)) = false := decide_eq_false (by omega)
        clear hky
        by_cases hpl : picks.length ≤ 1000
        case neg =>
          have q2 : decide ((1000 : Int) < (picks.length : Int)) = true := decide_eq_true (by omega)
          clear hpl
          go_wp2_with (go_at_call 10; refine (awake10_any _).mono ?_; rintro e w9 ⟨rfl, b9⟩)
          go_ret
          exact ⟨rfl, bmm bel bel.size b9⟩
        case pos =>
          have q2 : decide ((1000 : Int) < (picks.length : Int)) = false := decide_eq_false (by omega)
          have h5 := ysOf_le yields k
          have h8 : (ysOf yields k).length ≤ 8 := by have := HEL.out; rw [List.length_map] at this; omega
          obtain ⟨s1, s2, s3⟩ := exTs_ok h8 h5
          have H5Y : Hid (∀ y ∈ ysOf yields k, y ≤ 5) := h5
          have H8Y : Hid ((ysOf yields k).length ≤ 8) := h8
          clear h5 h8
          have hx := ps_new HO.out.tasks s1 s2 s3
          have HE0 : Hid _ := EI.start (ysOf yields k)
          obtain ⟨B, hB⟩ : ∃ B, B = wr.heap.size := ⟨_, rfl⟩
          have HTS : Hid (TasksAt wr (.slice pv k cv) ((ysOf yields k).map exOps)) := HO.out.tasks
          have HBW : Hid (∀ w4 : World, Below B wr w4 → Below w.heap.size w w4) := fun w4 b => bmm bel bel.size (by rw [← hB]; exact b)
          have HBS : Hid (∀ w4 : World, Below B wr w4 → B ≤ w4.heap.size) := fun w4 b => by have := b.size; omega
          have HTL : Hid (∀ bt, bt < wr.heap.size → bt < B) := fun bt h => by omega
          rw [← hB] at hx
          clear hB s1 s2 s3 HO
          generalize ((ysOf yields k).map exOps).map tkNew = T0 at *
          go_wp2_with (go_at_call 11; refine hx.mono ?_; rintro e w2 ⟨D, S2, rfl, h2', b2⟩; have H2 : Hid _ := h2'; clear h2')
          go_loopw [10, 11] (fun inn i w4 => ∃ (kk : Nat) (nn : Int) (S : Nat → Prop) (T : List Tk) (L : List (Int × Ob)), inn = .int .i64 nn ∧ i = .int .i64 kk ∧ PSk w4 B D S kk T L ∧ EI nn kk (ysOf yields k) T L ∧ Below B wr w4) (fun _ i _ => 200 - (RowKit.intOf i).toNat)
          case atStart => exact ⟨0, -1, S2, T0, [], rfl, rfl, H2.out, HE0.out, b2⟩
          case round =>
            obtain ⟨kk, nn, S, T, L, rfl, rfl, hR, hE, bel4⟩ := hrel
            have hfew := hE.few H8Y.out H5Y.out
            have q3 : decide ((kk : Int) < 200) = true := decide_eq_true (by omega)
            have hr := ps_Ready hR
            have HRK : Hid (PSk wr B D S kk T L) := hR
            have HB4 : Hid (Below w.heap.size w wr) := HBW.out wr bel4
            by_cases hne : readyL T = []
            · have he := hE.end_ hne
              rw [hne] at hr
              have HEND : Hid (∀ w2 : World, Below wr.heap.size wr w2 → Calls Try.prog 20 #[.pointer (some ⟨D, 0, none⟩)] w2 fun e w' => e = .returned (.bool true) ∧ Below wr.heap.size wr w') := fun w2 b2 => (ps_Ended (HRK.out.fresh b2)).mono fun _ _ ⟨e1, e2⟩ => ⟨by rw [← he]; exact e1, bmm b2 b2.size e2⟩
              clear hR hE hne he
              go_wp2_with (first
                | (go_at_call 10; refine (awake10_any w6).mono ?_; rintro e w7 ⟨rfl, b7⟩)
                | (go_at_call 20; refine (HEND.out w5 b5).mono ?_; rintro e w6 ⟨rfl, b6⟩)
                | (go_at_call 16; refine hr.mono ?_; rintro e w5 ⟨u, rfl, r5, b5⟩; obtain ⟨bu, cu, rfl⟩ := r5.none0; clear r5))
              go_ret
              have f1 := bmm HB4.out HB4.out.size b6
              exact ⟨rfl, bmm f1 f1.size b7⟩
            have hnl : 0 < (readyL T).length := List.length_pos_iff.2 hne
            have HNE : Hid (0 < (readyL T).length) := hnl
            have hpl' := placeR_lt (readyL T).length picks kk hnl
            obtain ⟨i, y, p, inn', T2, L2, hzi, hyi, hsp, hEI, halt⟩ := hE.step (z := (readyL T)[placeR (readyL T).length picks kk]) (List.getElem_mem _)
            have HZ : Hid (∀ (w2 : World) (bu ou : Nat), (∀ j (hj : j < (readyL T).length) c u, c < 1 → (intC (readyL T)[j])[c]? = some u → w2.cell? ⟨bu, ou + j * 1 + c, none⟩ = some u) → w2.cell? ⟨bu, ou + placeR (readyL T).length picks kk, none⟩ = some (.int .i64 (i : Int))) := fun w2 bu ou hx => by
              have := hx _ hpl' 0 _ (by decide) rfl
              simpa [hzi] using this
            have hle : (readyL T).length ≤ 65536 := (readyL_ok hR.ok).2
            have hzo : okI (i : Int) := by rw [← hzi]; exact readyL_pos hR.ok (List.getElem_mem _)
            rw [hzi] at hsp
            have HST : Hid (∀ w2 : World, Below wr.heap.size wr w2 → Calls Try.prog 13 #[.pointer (some ⟨D, 0, none⟩), .int .i64 (i : Int)] w2 fun e w' => e = .returned (.tuple #[.agg #[.int .i64 (i : Int), .int .i64 (p : Int), .int .i64 0], .int .i64 0]) ∧ ∃ S', PSk w' B D S' (kk + 1) T2 L2 ∧ Below B wr w') := fun w2 b2 => (ps_step (HRK.out.fresh b2) (i : Int) hzo (by omega)).mono fun _ _ ⟨e1, S', e2, e3⟩ => by
              rw [hsp] at e1 e2
              exact ⟨e1, S', e2, (b2.mono HRK.out.base_le).trans ((HRK.out.fresh b2).below e3)⟩
            have hiy := (List.getElem?_eq_some_iff.1 hyi).1
            have hik : i < k := by have := HEL.out; rw [List.length_map] at this; omega
            obtain ⟨bt, ot, ct, et, hbt, hxt⟩ := HTS.out.cells (by rw [HEL.out]; omega)
            obtain ⟨ai, ci, hct, hct2⟩ := hxt i (by rw [HEL.out]; exact hik)
            clear hct2
            simp only [Value.slice.injEq] at et
            obtain ⟨rfl, hkeq, rfl⟩ := et
            clear hkeq
            have hN : ((ysOf yields k).map exOps)[i]'(by rw [HEL.out]; exact hik) = exOps y := by rw [List.getElem_map, (List.getElem?_eq_some_iff.1 hyi).2]
            rw [hN, exOps_len] at hct
            obtain ⟨N, hNy⟩ : ∃ N, N = y + 2 := ⟨_, rfl⟩
            rw [← hNy] at hct
            have HTC : Hid (∀ w4 : World, Below B _ w4 → ∀ o, (w4.alloc o).cell? ⟨bt, ot + i, none⟩ = some (.slice ai N ci)) := fun w4 b4 o => ((b4.alloc (HBS.out w4 b4) o).cell (p := ⟨bt, ot + i, none⟩) (by exact HTL.out bt hbt)).trans hct
            have HSZ : Hid _ := HBS.out
            have qk : decide ((i : Int) < (k : Int)) = true := decide_eq_true (by omega)
            have qw : IntKind.i64.wrap ((N : Int) - 1) = (N : Int) - 1 := by rw [IntKind.wrap_i64]; have := ysOf_le yields k y (List.mem_of_getElem? hyi); omega
            have qn0 : (((readyL T).length : Int) == 0) = false := by rw [beq_eq_false_iff_ne]; omega
            have HEI : Hid (EI inn' (kk + 1) (ysOf yields k) T2 L2) := hEI
            have HALT : Hid _ := halt
            have hlim : True := trivial
            clear hR hE hne hEI halt hzi hsp hxt hN hct hyi hzo hiy HTS hle hbt
            cases hpk : picks[kk]? with
            | none =>
              have hkp : ¬ kk < picks.length := by have := List.getElem?_eq_none_iff.1 hpk; omega
              have q4 : decide ((kk : Int) < (picks.length : Int)) = false := decide_eq_false (by omega)
              have ep0 : placeR (readyL T).length picks kk = 0 := by unfold placeR; rw [hpk]
              rw [ep0] at HZ
              replace HZ : Hid (∀ (w2 : World) (bu ou : Nat), (∀ j (hj : j < (readyL T).length) c u, c < 1 → (intC (readyL T)[j])[c]? = some u → w2.cell? ⟨bu, ou + j * 1 + c, none⟩ = some u) → w2.cell? ⟨bu, ou, none⟩ = some (.int .i64 (i : Int))) := HZ.out
              have ZP : Hid (∀ w2 : World, Below wr.heap.size wr w2 → True) := fun _ _ => trivial
              clear hpk hpl' ep0
              rcases HALT.out with ⟨hp1, hp2, hnn | hnn, hi2⟩ | ⟨hp1, hp2, hnn, hi2⟩ | ⟨hp1, hp2, hnn, hi2⟩ | ⟨hp0, hi2⟩
              · have DN : Hid (EI (i : Int) (kk + 1) (ysOf yields k) T2 L2) := (by have := HEI.out; rw [hi2] at this; exact this)
                clear hi2
                have qp : decide ((0 : Int) < (p : Int)) = true := decide_eq_true (by omega)
                have qn : decide ((p : Int) < (N : Int) - 1) = true := decide_eq_true (by omega)
                subst hnn
                clear hlim hNy
                go_wp2_with (first
                  | (go_at_call 13; refine (HST.out w2 b2).mono ?_; rintro e w3 ⟨rfl, S3, h3', bb3⟩; have H3 : Hid _ := h3'; clear h3'; have x9 := HTC.out w3 (bel4.trans bb3) (.cells #[.int .i64 (i : Int), .int .i64 (p : Int), .int .i64 0] 32))
                  | (go_at_call 16; refine hr.mono ?_; rintro e w2 ⟨u, rfl, r2, b2⟩; obtain ⟨bu, ou, cu, rfl, _, hbu, hxu⟩ := r2.cells intC_len HNE.out; have yz : w2.cell? ⟨bu, ou, none⟩ = some (.int .i64 (i : Int)) := HZ.out w2 bu ou hxu; have zp2 := ZP.out w2 b2; clear r2 hxu))
                go_region_held3 (fun w' : World => w'.cell? ⟨w3.heap.size, 0, none⟩ = some (.int .i64 (i : Int)) ∧ w'.cell? ⟨w3.heap.size, 1, none⟩ = some (.int .i64 (p : Int)) ∧ w'.cell? ⟨bt, ot + i, none⟩ = some (.slice ai N ci)) (go_keep) (fail)
                go_wp2
                have belW := (((bel4.trans bb3).alloc (HSZ.out w3 (bel4.trans bb3)) (.cells #[.int .i64 (i : Int), .int .i64 (p : Int), .int .i64 0] 32))).drew
                go_roundw
                case rel => exact ⟨kk + 1, (i : Int), S3, T2, L2, by go_num, by go_num, H3.out.fresh ((Below.refl _ w3).alloc (Nat.le_refl _) _).drew, DN.out, belW⟩
                case measure => simp [RowKit.intOf]; omega
              · have DN : Hid (EI (i : Int) (kk + 1) (ysOf yields k) T2 L2) := (by have := HEI.out; rw [hi2] at this; exact this)
                clear hi2
                have qp : decide ((0 : Int) < (p : Int)) = true := decide_eq_true (by omega)
                have qn : decide ((p : Int) < (N : Int) - 1) = true := decide_eq_true (by omega)
                subst hnn
                have qi : decide ((0 : Int) ≤ (i : Int)) = true := decide_eq_true (by omega)
                have qs : ((i : Int) != (i : Int)) = false := by rw [bne_eq_false_iff_eq]
                clear hlim hNy
                go_wp2_with (first
                  | (go_at_call 13; refine (HST.out w2 b2).mono ?_; rintro e w3 ⟨rfl, S3, h3', bb3⟩; have H3 : Hid _ := h3'; clear h3'; have x9 := HTC.out w3 (bel4.trans bb3) (.cells #[.int .i64 (i : Int), .int .i64 (p : Int), .int .i64 0] 32))
                  | (go_at_call 16; refine hr.mono ?_; rintro e w2 ⟨u, rfl, r2, b2⟩; obtain ⟨bu, ou, cu, rfl, _, hbu, hxu⟩ := r2.cells intC_len HNE.out; have yz : w2.cell? ⟨bu, ou, none⟩ = some (.int .i64 (i : Int)) := HZ.out w2 bu ou hxu; have zp2 := ZP.out w2 b2; clear r2 hxu))
                go_region_held3 (fun w' : World => w'.cell? ⟨w3.heap.size, 0, none⟩ = some (.int .i64 (i : Int)) ∧ w'.cell? ⟨w3.heap.size, 1, none⟩ = some (.int .i64 (p : Int)) ∧ w'.cell? ⟨bt, ot + i, none⟩ = some (.slice ai N ci)) (go_keep) (fail)
                go_wp2
                have belW := (((bel4.trans bb3).alloc (HSZ.out w3 (bel4.trans bb3)) (.cells #[.int .i64 (i : Int), .int .i64 (p : Int), .int .i64 0] 32))).drew
                go_roundw
                case rel => exact ⟨kk + 1, (i : Int), S3, T2, L2, by go_num, by go_num, H3.out.fresh ((Below.refl _ w3).alloc (Nat.le_refl _) _).drew, DN.out, belW⟩
                case measure => simp [RowKit.intOf]; omega
              · have DN : Hid (EI (-1) (kk + 1) (ysOf yields k) T2 L2) := (by have := HEI.out; rw [hi2] at this; exact this)
                clear hi2
                have qp : decide ((0 : Int) < (p : Int)) = true := decide_eq_true (by omega)
                have qn : decide ((p : Int) < (N : Int) - 1) = false := decide_eq_false (by omega)
                subst hnn
                clear hlim hNy
                go_wp2_with (first
                  | (go_at_call 13; refine (HST.out w2 b2).mono ?_; rintro e w3 ⟨rfl, S3, h3', bb3⟩; have H3 : Hid _ := h3'; clear h3'; have x9 := HTC.out w3 (bel4.trans bb3) (.cells #[.int .i64 (i : Int), .int .i64 (p : Int), .int .i64 0] 32))
                  | (go_at_call 16; refine hr.mono ?_; rintro e w2 ⟨u, rfl, r2, b2⟩; obtain ⟨bu, ou, cu, rfl, _, hbu, hxu⟩ := r2.cells intC_len HNE.out; have yz : w2.cell? ⟨bu, ou, none⟩ = some (.int .i64 (i : Int)) := HZ.out w2 bu ou hxu; have zp2 := ZP.out w2 b2; clear r2 hxu))
                go_region_held3 (fun w' : World => w'.cell? ⟨w3.heap.size, 0, none⟩ = some (.int .i64 (i : Int)) ∧ w'.cell? ⟨w3.heap.size, 1, none⟩ = some (.int .i64 (p : Int)) ∧ w'.cell? ⟨bt, ot + i, none⟩ = some (.slice ai N ci)) (go_keep) (fail)
                go_wp2
                have belW := (((bel4.trans bb3).alloc (HSZ.out w3 (bel4.trans bb3)) (.cells #[.int .i64 (i : Int), .int .i64 (p : Int), .int .i64 0] 32))).drew
                go_roundw
                case rel => exact ⟨kk + 1, (-1), S3, T2, L2, by go_num, by go_num, H3.out.fresh ((Below.refl _ w3).alloc (Nat.le_refl _) _).drew, DN.out, belW⟩
                case measure => simp [RowKit.intOf]; omega
              · have DN : Hid (EI nn (kk + 1) (ysOf yields k) T2 L2) := (by have := HEI.out; rw [hi2] at this; exact this)
                clear hi2
                have qp : decide ((0 : Int) < (p : Int)) = true := decide_eq_true (by omega)
                have qn : decide ((p : Int) < (N : Int) - 1) = false := decide_eq_false (by omega)
                have qs : (nn == (i : Int)) = false := beq_eq_false_iff_ne.2 hnn
                clear hlim hNy
                go_wp2_with (first
                  | (go_at_call 13; refine (HST.out w2 b2).mono ?_; rintro e w3 ⟨rfl, S3, h3', bb3⟩; have H3 : Hid _ := h3'; clear h3'; have x9 := HTC.out w3 (bel4.trans bb3) (.cells #[.int .i64 (i : Int), .int .i64 (p : Int), .int .i64 0] 32))
                  | (go_at_call 16; refine hr.mono ?_; rintro e w2 ⟨u, rfl, r2, b2⟩; obtain ⟨bu, ou, cu, rfl, _, hbu, hxu⟩ := r2.cells intC_len HNE.out; have yz : w2.cell? ⟨bu, ou, none⟩ = some (.int .i64 (i : Int)) := HZ.out w2 bu ou hxu; have zp2 := ZP.out w2 b2; clear r2 hxu))
                go_region_held3 (fun w' : World => w'.cell? ⟨w3.heap.size, 0, none⟩ = some (.int .i64 (i : Int)) ∧ w'.cell? ⟨w3.heap.size, 1, none⟩ = some (.int .i64 (p : Int)) ∧ w'.cell? ⟨bt, ot + i, none⟩ = some (.slice ai N ci)) (go_keep) (fail)
                go_wp2
                have belW := (((bel4.trans bb3).alloc (HSZ.out w3 (bel4.trans bb3)) (.cells #[.int .i64 (i : Int), .int .i64 (p : Int), .int .i64 0] 32))).drew
                go_roundw
                case rel => exact ⟨kk + 1, nn, S3, T2, L2, by go_num, by go_num, H3.out.fresh ((Below.refl _ w3).alloc (Nat.le_refl _) _).drew, DN.out, belW⟩
                case measure => simp [RowKit.intOf]; omega
              · have DN : Hid (EI nn (kk + 1) (ysOf yields k) T2 L2) := (by have := HEI.out; rw [hi2] at this; exact this)
                clear hi2
                subst hp0
                clear hlim hNy
                go_wp2_with (first
                  | (go_at_call 13; refine (HST.out w2 b2).mono ?_; rintro e w3 ⟨rfl, S3, h3', bb3⟩; have H3 : Hid _ := h3'; clear h3'; have x9 := HTC.out w3 (bel4.trans bb3) (.cells #[.int .i64 (i : Int), .int .i64 0, .int .i64 0] 32))
                  | (go_at_call 16; refine hr.mono ?_; rintro e w2 ⟨u, rfl, r2, b2⟩; obtain ⟨bu, ou, cu, rfl, _, hbu, hxu⟩ := r2.cells intC_len HNE.out; have yz : w2.cell? ⟨bu, ou, none⟩ = some (.int .i64 (i : Int)) := HZ.out w2 bu ou hxu; have zp2 := ZP.out w2 b2; clear r2 hxu))
                refine wp_region_held_drew (S := (fun w' : World => w'.cell? ⟨w3.heap.size, 0, none⟩ = some (.int .i64 (i : Int)) ∧ w'.cell? ⟨w3.heap.size, 1, none⟩ = some (.int .i64 0))) (by kernel_rfl) ?_ (fun hHeld0 => ?_)
                · try dsimp only
                  go_keep
                refine tk0 (.pointer (some ⟨w3.heap.size, 1, none⟩)) (by kernel_rfl) (by kernel_rfl) (by kernel_rfl) (fun _ _ _ h => h) rfl (fun w hSw => by (try dsimp only at hSw); obtain ⟨y0, y1⟩ := hSw; go_simp) (by assumption) ?_
                try simp only [Act.put, List.setIfInBounds_toArray, List.set_cons_zero, List.set_cons_succ]
                refine tk1 (.int .i64 0) (by kernel_rfl) (by kernel_rfl) (by kernel_rfl) (fun _ _ _ h => h) rfl (fun w hSw => by (try dsimp only at hSw); obtain ⟨y0, y1⟩ := hSw; go_simp) (by assumption) ?_
                try simp only [Act.put, List.setIfInBounds_toArray, List.set_cons_zero, List.set_cons_succ]
                refine tk2 (.bool false) (by kernel_rfl) (by kernel_rfl) (by kernel_rfl) (fun _ _ _ h => h) rfl (fun w hSw => by (try dsimp only at hSw); obtain ⟨y0, y1⟩ := hSw; go_simp) (by assumption) ?_
                try simp only [Act.put, List.setIfInBounds_toArray, List.set_cons_zero, List.set_cons_succ]
                refine tk3 (.bool false) (by kernel_rfl) (by kernel_rfl) (by kernel_rfl) (fun _ _ _ h => h) rfl (fun w hSw => by (try dsimp only at hSw); obtain ⟨y0, y1⟩ := hSw; go_simp) (by assumption) ?_
                try simp only [Act.put, List.setIfInBounds_toArray, List.set_cons_zero, List.set_cons_succ]
                refine sk4 (by kernel_rfl) (by kernel_rfl) (by kernel_rfl) (fun _ _ _ h => h) rfl (by assumption) ?_
                try simp only [Act.put, List.setIfInBounds_toArray, List.set_cons_zero, List.set_cons_succ]
                refine sk5 (by kernel_rfl) (by kernel_rfl) (by kernel_rfl) (fun _ _ _ h => h) rfl (by assumption) ?_
                try simp only [Act.put, List.setIfInBounds_toArray, List.set_cons_zero, List.set_cons_succ]
                refine sk6 (by kernel_rfl) (by kernel_rfl) (by kernel_rfl) (fun _ _ _ h => h) rfl (by assumption) ?_
                try simp only [Act.put, List.setIfInBounds_toArray, List.set_cons_zero, List.set_cons_succ]
                refine sk7 (by kernel_rfl) (by kernel_rfl) (by kernel_rfl) (fun _ _ _ h => h) rfl (by assumption) ?_
                try simp only [Act.put, List.setIfInBounds_toArray, List.set_cons_zero, List.set_cons_succ]
                refine sk8 (by kernel_rfl) (by kernel_rfl) (by kernel_rfl) (fun _ _ _ h => h) rfl (by assumption) ?_
                try simp only [Act.put, List.setIfInBounds_toArray, List.set_cons_zero, List.set_cons_succ]
                refine sk9 (by kernel_rfl) (by kernel_rfl) (by kernel_rfl) (fun _ _ _ h => h) rfl (by assumption) ?_
                try simp only [Act.put, List.setIfInBounds_toArray, List.set_cons_zero, List.set_cons_succ]
                refine sk10 (by kernel_rfl) (by kernel_rfl) (by kernel_rfl) (fun _ _ _ h => h) rfl (by assumption) ?_
                try simp only [Act.put, List.setIfInBounds_toArray, List.set_cons_zero, List.set_cons_succ]
                refine sk11 (by kernel_rfl) (by kernel_rfl) (by kernel_rfl) (fun _ _ _ h => h) rfl (by assumption) ?_
                try simp only [Act.put, List.setIfInBounds_toArray, List.set_cons_zero, List.set_cons_succ]
                refine sk12 (by kernel_rfl) (by kernel_rfl) (by kernel_rfl) (fun _ _ _ h => h) rfl (by assumption) ?_
                try simp only [Act.put, List.setIfInBounds_toArray, List.set_cons_zero, List.set_cons_succ]
                refine sk13 (by kernel_rfl) (by kernel_rfl) (by kernel_rfl) (fun _ _ _ h => h) rfl (by assumption) ?_
                try simp only [Act.put, List.setIfInBounds_toArray, List.set_cons_zero, List.set_cons_succ]
                refine tk14 (.bool false) (by kernel_rfl) (by kernel_rfl) (by kernel_rfl) (fun _ _ _ h => h) rfl (fun w hSw => by (try dsimp only at hSw); obtain ⟨y0, y1⟩ := hSw; go_simp) (by assumption) ?_
                try simp only [Act.put, List.setIfInBounds_toArray, List.set_cons_zero, List.set_cons_succ]
                refine wpAnyH_done (by kernel_rfl) ?_ _
                clear hHeld0
                go_wp2
                have belW := (((bel4.trans bb3).alloc (HSZ.out w3 (bel4.trans bb3)) (.cells #[.int .i64 (i : Int), .int .i64 0, .int .i64 0] 32))).drew
                go_roundw
                case rel => exact ⟨kk + 1, nn, S3, T2, L2, by go_num, by go_num, H3.out.fresh ((Below.refl _ w3).alloc (Nat.le_refl _) _).drew, DN.out, belW⟩
                case measure => simp [RowKit.intOf]; omega
            | some pk =>
              obtain ⟨hkp, hpe⟩ := List.getElem?_eq_some_iff.1 hpk
              have q4 : decide ((kk : Int) < (picks.length : Int)) = true := decide_eq_true (by omega)
              obtain ⟨bp, op, cp', ep, _, hbp, hxp⟩ := HP.out.cells intC_len (by omega)
              simp only [Value.slice.injEq] at ep
              obtain ⟨rfl, _, rfl⟩ := ep
              have zp : w.cell? ⟨bp, op + kk, none⟩ = some (.int .i64 pk) := by
                have := hxp kk hkp 0 _ (by decide) rfl
                simpa [hpe] using this
              have ZP : Hid (∀ w2 : World, Below wr.heap.size wr w2 → w2.cell? ⟨bp, op + kk, none⟩ = some (.int .i64 pk)) := fun w2 b2 => (b2.cell (p := ⟨bp, op + kk, none⟩) (by have := HB4.out.size; exact Nat.lt_of_lt_of_le hbp this)).trans ((HB4.out.cell (p := ⟨bp, op + kk, none⟩) (by exact hbp)).trans zp)
              have ep0 : (placeR (readyL T).length picks kk : Int) = pk % ((readyL T).length : Int) := by
                unfold placeR
                rw [hpk]
                have := Int.emod_nonneg pk (show ((readyL T).length : Int) ≠ 0 by omega)
                show (((pk % ((readyL T).length : Int)).toNat : Nat) : Int) = _
                omega
              have ht := tmod_two pk (readyL T).length hnl
              obtain ⟨hlo, hhi⟩ := tmod_lo pk (readyL T).length hnl
              rw [← ep0] at ht
              have qz : decide (((readyL T).length : Int) = 0) = false := decide_eq_false (by omega)
              have qww : IntKind.i64.wrap (pk.tmod ((readyL T).length : Int) + ((readyL T).length : Int)) = pk.tmod ((readyL T).length : Int) + ((readyL T).length : Int) := by rw [IntKind.wrap_i64]; have := (readyL_ok HRK.out.ok).2; omega
              generalize placeR (readyL T).length picks kk = pl at *
              clear hxp zp hpk ep0 hpe hlo hhi
              rcases HALT.out with ⟨hp1, hp2, hnn | hnn, hi2⟩ | ⟨hp1, hp2, hnn, hi2⟩ | ⟨hp1, hp2, hnn, hi2⟩ | ⟨hp0, hi2⟩
              · have DN : Hid (EI (i : Int) (kk + 1) (ysOf yields k) T2 L2) := (by have := HEI.out; rw [hi2] at this; exact this)
                clear hi2
                have qp : decide ((0 : Int) < (p : Int)) = true := decide_eq_true (by omega)
                have qn : decide ((p : Int) < (N : Int) - 1) = true := decide_eq_true (by omega)
                subst hnn
                clear hlim hNy
                go_wp2_with (first
                  | (go_at_call 13; refine (HST.out w2 b2).mono ?_; rintro e w3 ⟨rfl, S3, h3', bb3⟩; have H3 : Hid _ := h3'; clear h3'; have x9 := HTC.out w3 (bel4.trans bb3) (.cells #[.int .i64 (i : Int), .int .i64 (p : Int), .int .i64 0] 32))
                  | (go_at_call 16; refine hr.mono ?_; rintro e w2 ⟨u, rfl, r2, b2⟩; obtain ⟨bu, ou, cu, rfl, _, hbu, hxu⟩ := r2.cells intC_len HNE.out; have yz : w2.cell? ⟨bu, ou + pl, none⟩ = some (.int .i64 (i : Int)) := HZ.out w2 bu ou hxu; have zp2 := ZP.out w2 b2; clear r2 hxu))
                go_region_held3 (fun w' : World => w'.cell? ⟨w3.heap.size, 0, none⟩ = some (.int .i64 (i : Int)) ∧ w'.cell? ⟨w3.heap.size, 1, none⟩ = some (.int .i64 (p : Int)) ∧ w'.cell? ⟨bt, ot + i, none⟩ = some (.slice ai N ci)) (go_keep) (fail)
                go_wp2
                have belW := (((bel4.trans bb3).alloc (HSZ.out w3 (bel4.trans bb3)) (.cells #[.int .i64 (i : Int), .int .i64 (p : Int), .int .i64 0] 32))).drew
                go_roundw
                case rel => exact ⟨kk + 1, (i : Int), S3, T2, L2, by go_num, by go_num, H3.out.fresh ((Below.refl _ w3).alloc (Nat.le_refl _) _).drew, DN.out, belW⟩
                case measure => simp [RowKit.intOf]; omega
              · have DN : Hid (EI (i : Int) (kk + 1) (ysOf yields k) T2 L2) := (by have := HEI.out; rw [hi2] at this; exact this)
                clear hi2
                have qp : decide ((0 : Int) < (p : Int)) = true := decide_eq_true (by omega)
                have qn : decide ((p : Int) < (N : Int) - 1) = true := decide_eq_true (by omega)
                subst hnn
                have qi : decide ((0 : Int) ≤ (i : Int)) = true := decide_eq_true (by omega)
                have qs : ((i : Int) != (i : Int)) = false := by rw [bne_eq_false_iff_eq]
                clear hlim hNy
                go_wp2_with (first
                  | (go_at_call 13; refine (HST.out w2 b2).mono ?_; rintro e w3 ⟨rfl, S3, h3', bb3⟩; have H3 : Hid _ := h3'; clear h3'; have x9 := HTC.out w3 (bel4.trans bb3) (.cells #[.int .i64 (i : Int), .int .i64 (p : Int), .int .i64 0] 32))
                  | (go_at_call 16; refine hr.mono ?_; rintro e w2 ⟨u, rfl, r2, b2⟩; obtain ⟨bu, ou, cu, rfl, _, hbu, hxu⟩ := r2.cells intC_len HNE.out; have yz : w2.cell? ⟨bu, ou + pl, none⟩ = some (.int .i64 (i : Int)) := HZ.out w2 bu ou hxu; have zp2 := ZP.out w2 b2; clear r2 hxu))
                go_region_held3 (fun w' : World => w'.cell? ⟨w3.heap.size, 0, none⟩ = some (.int .i64 (i : Int)) ∧ w'.cell? ⟨w3.heap.size, 1, none⟩ = some (.int .i64 (p : Int)) ∧ w'.cell? ⟨bt, ot + i, none⟩ = some (.slice ai N ci)) (go_keep) (fail)
                go_wp2
                have belW := (((bel4.trans bb3).alloc (HSZ.out w3 (bel4.trans bb3)) (.cells #[.int .i64 (i : Int), .int .i64 (p : Int), .int .i64 0] 32))).drew
                go_roundw
                case rel => exact ⟨kk + 1, (i : Int), S3, T2, L2, by go_num, by go_num, H3.out.fresh ((Below.refl _ w3).alloc (Nat.le_refl _) _).drew, DN.out, belW⟩
                case measure => simp [RowKit.intOf]; omega
              · have DN : Hid (EI (-1) (kk + 1) (ysOf yields k) T2 L2) := (by have := HEI.out; rw [hi2] at this; exact this)
                clear hi2
                have qp : decide ((0 : Int) < (p : Int)) = true := decide_eq_true (by omega)
                have qn : decide ((p : Int) < (N : Int) - 1) = false := decide_eq_false (by omega)
                subst hnn
                clear hlim hNy
                go_wp2_with (first
                  | (go_at_call 13; refine (HST.out w2 b2).mono ?_; rintro e w3 ⟨rfl, S3, h3', bb3⟩; have H3 : Hid _ := h3'; clear h3'; have x9 := HTC.out w3 (bel4.trans bb3) (.cells #[.int .i64 (i : Int), .int .i64 (p : Int), .int .i64 0] 32))
                  | (go_at_call 16; refine hr.mono ?_; rintro e w2 ⟨u, rfl, r2, b2⟩; obtain ⟨bu, ou, cu, rfl, _, hbu, hxu⟩ := r2.cells intC_len HNE.out; have yz : w2.cell? ⟨bu, ou + pl, none⟩ = some (.int .i64 (i : Int)) := HZ.out w2 bu ou hxu; have zp2 := ZP.out w2 b2; clear r2 hxu))
                go_region_held3 (fun w' : World => w'.cell? ⟨w3.heap.size, 0, none⟩ = some (.int .i64 (i : Int)) ∧ w'.cell? ⟨w3.heap.size, 1, none⟩ = some (.int .i64 (p : Int)) ∧ w'.cell? ⟨bt, ot + i, none⟩ = some (.slice ai N ci)) (go_keep) (fail)
                go_wp2
                have belW := (((bel4.trans bb3).alloc (HSZ.out w3 (bel4.trans bb3)) (.cells #[.int .i64 (i : Int), .int .i64 (p : Int), .int .i64 0] 32))).drew
                go_roundw
                case rel => exact ⟨kk + 1, (-1), S3, T2, L2, by go_num, by go_num, H3.out.fresh ((Below.refl _ w3).alloc (Nat.le_refl _) _).drew, DN.out, belW⟩
                case measure => simp [RowKit.intOf]; omega
              · have DN : Hid (EI nn (kk + 1) (ysOf yields k) T2 L2) := (by have := HEI.out; rw [hi2] at this; exact this)
                clear hi2
                have qp : decide ((0 : Int) < (p : Int)) = true := decide_eq_true (by omega)
                have qn : decide ((p : Int) < (N : Int) - 1) = false := decide_eq_false (by omega)
                have qs : (nn == (i : Int)) = false := beq_eq_false_iff_ne.2 hnn
                clear hlim hNy
                go_wp2_with (first
                  | (go_at_call 13; refine (HST.out w2 b2).mono ?_; rintro e w3 ⟨rfl, S3, h3', bb3⟩; have H3 : Hid _ := h3'; clear h3'; have x9 := HTC.out w3 (bel4.trans bb3) (.cells #[.int .i64 (i : Int), .int .i64 (p : Int), .int .i64 0] 32))
                  | (go_at_call 16; refine hr.mono ?_; rintro e w2 ⟨u, rfl, r2, b2⟩; obtain ⟨bu, ou, cu, rfl, _, hbu, hxu⟩ := r2.cells intC_len HNE.out; have yz : w2.cell? ⟨bu, ou + pl, none⟩ = some (.int .i64 (i : Int)) := HZ.out w2 bu ou hxu; have zp2 := ZP.out w2 b2; clear r2 hxu))
                go_region_held3 (fun w' : World => w'.cell? ⟨w3.heap.size, 0, none⟩ = some (.int .i64 (i : Int)) ∧ w'.cell? ⟨w3.heap.size, 1, none⟩ = some (.int .i64 (p : Int)) ∧ w'.cell? ⟨bt, ot + i, none⟩ = some (.slice ai N ci)) (go_keep) (fail)
                go_wp2
                have belW := (((bel4.trans bb3).alloc (HSZ.out w3 (bel4.trans bb3)) (.cells #[.int .i64 (i : Int), .int .i64 (p : Int), .int .i64 0] 32))).drew
                go_roundw
                case rel => exact ⟨kk + 1, nn, S3, T2, L2, by go_num, by go_num, H3.out.fresh ((Below.refl _ w3).alloc (Nat.le_refl _) _).drew, DN.out, belW⟩
                case measure => simp [RowKit.intOf]; omega
              · have DN : Hid (EI nn (kk + 1) (ysOf yields k) T2 L2) := (by have := HEI.out; rw [hi2] at this; exact this)
                clear hi2
                subst hp0
                clear hlim hNy
                go_wp2_with (first
                  | (go_at_call 13; refine (HST.out w2 b2).mono ?_; rintro e w3 ⟨rfl, S3, h3', bb3⟩; have H3 : Hid _ := h3'; clear h3'; have x9 := HTC.out w3 (bel4.trans bb3) (.cells #[.int .i64 (i : Int), .int .i64 0, .int .i64 0] 32))
                  | (go_at_call 16; refine hr.mono ?_; rintro e w2 ⟨u, rfl, r2, b2⟩; obtain ⟨bu, ou, cu, rfl, _, hbu, hxu⟩ := r2.cells intC_len HNE.out; have yz : w2.cell? ⟨bu, ou + pl, none⟩ = some (.int .i64 (i : Int)) := HZ.out w2 bu ou hxu; have zp2 := ZP.out w2 b2; clear r2 hxu))
                refine wp_region_held_drew (S := (fun w' : World => w'.cell? ⟨w3.heap.size, 0, none⟩ = some (.int .i64 (i : Int)) ∧ w'.cell? ⟨w3.heap.size, 1, none⟩ = some (.int .i64 0))) (by kernel_rfl) ?_ (fun hHeld0 => ?_)
                · try dsimp only
                  go_keep
                refine tk0 (.pointer (some ⟨w3.heap.size, 1, none⟩)) (by kernel_rfl) (by kernel_rfl) (by kernel_rfl) (fun _ _ _ h => h) rfl (fun w hSw => by (try dsimp only at hSw); obtain ⟨y0, y1⟩ := hSw; go_simp) (by assumption) ?_
                try simp only [Act.put, List.setIfInBounds_toArray, List.set_cons_zero, List.set_cons_succ]
                refine tk1 (.int .i64 0) (by kernel_rfl) (by kernel_rfl) (by kernel_rfl) (fun _ _ _ h => h) rfl (fun w hSw => by (try dsimp only at hSw); obtain ⟨y0, y1⟩ := hSw; go_simp) (by assumption) ?_
                try simp only [Act.put, List.setIfInBounds_toArray, List.set_cons_zero, List.set_cons_succ]
                refine tk2 (.bool false) (by kernel_rfl) (by kernel_rfl) (by kernel_rfl) (fun _ _ _ h => h) rfl (fun w hSw => by (try dsimp only at hSw); obtain ⟨y0, y1⟩ := hSw; go_simp) (by assumption) ?_
                try simp only [Act.put, List.setIfInBounds_toArray, List.set_cons_zero, List.set_cons_succ]
                refine tk3 (.bool false) (by kernel_rfl) (by kernel_rfl) (by kernel_rfl) (fun _ _ _ h => h) rfl (fun w hSw => by (try dsimp only at hSw); obtain ⟨y0, y1⟩ := hSw; go_simp) (by assumption) ?_
                try simp only [Act.put, List.setIfInBounds_toArray, List.set_cons_zero, List.set_cons_succ]
                refine sk4 (by kernel_rfl) (by kernel_rfl) (by kernel_rfl) (fun _ _ _ h => h) rfl (by assumption) ?_
                try simp only [Act.put, List.setIfInBounds_toArray, List.set_cons_zero, List.set_cons_succ]
                refine sk5 (by kernel_rfl) (by kernel_rfl) (by kernel_rfl) (fun _ _ _ h => h) rfl (by assumption) ?_
                try simp only [Act.put, List.setIfInBounds_toArray, List.set_cons_zero, List.set_cons_succ]
                refine sk6 (by kernel_rfl) (by kernel_rfl) (by kernel_rfl) (fun _ _ _ h => h) rfl (by assumption) ?_
                try simp only [Act.put, List.setIfInBounds_toArray, List.set_cons_zero, List.set_cons_succ]
                refine sk7 (by kernel_rfl) (by kernel_rfl) (by kernel_rfl) (fun _ _ _ h => h) rfl (by assumption) ?_
                try simp only [Act.put, List.setIfInBounds_toArray, List.set_cons_zero, List.set_cons_succ]
                refine sk8 (by kernel_rfl) (by kernel_rfl) (by kernel_rfl) (fun _ _ _ h => h) rfl (by assumption) ?_
                try simp only [Act.put, List.setIfInBounds_toArray, List.set_cons_zero, List.set_cons_succ]
                refine sk9 (by kernel_rfl) (by kernel_rfl) (by kernel_rfl) (fun _ _ _ h => h) rfl (by assumption) ?_
                try simp only [Act.put, List.setIfInBounds_toArray, List.set_cons_zero, List.set_cons_succ]
                refine sk10 (by kernel_rfl) (by kernel_rfl) (by kernel_rfl) (fun _ _ _ h => h) rfl (by assumption) ?_
                try simp only [Act.put, List.setIfInBounds_toArray, List.set_cons_zero, List.set_cons_succ]
                refine sk11 (by kernel_rfl) (by kernel_rfl) (by kernel_rfl) (fun _ _ _ h => h) rfl (by assumption) ?_
                try simp only [Act.put, List.setIfInBounds_toArray, List.set_cons_zero, List.set_cons_succ]
                refine sk12 (by kernel_rfl) (by kernel_rfl) (by kernel_rfl) (fun _ _ _ h => h) rfl (by assumption) ?_
                try simp only [Act.put, List.setIfInBounds_toArray, List.set_cons_zero, List.set_cons_succ]
                refine sk13 (by kernel_rfl) (by kernel_rfl) (by kernel_rfl) (fun _ _ _ h => h) rfl (by assumption) ?_
                try simp only [Act.put, List.setIfInBounds_toArray, List.set_cons_zero, List.set_cons_succ]
                refine tk14 (.bool false) (by kernel_rfl) (by kernel_rfl) (by kernel_rfl) (fun _ _ _ h => h) rfl (fun w hSw => by (try dsimp only at hSw); obtain ⟨y0, y1⟩ := hSw; go_simp) (by assumption) ?_
                try simp only [Act.put, List.setIfInBounds_toArray, List.set_cons_zero, List.set_cons_succ]
                refine wpAnyH_done (by kernel_rfl) ?_ _
                clear hHeld0
                go_wp2
                have belW := (((bel4.trans bb3).alloc (HSZ.out w3 (bel4.trans bb3)) (.cells #[.int .i64 (i : Int), .int .i64 0, .int .i64 0] 32))).drew
                go_roundw
                case rel => exact ⟨kk + 1, nn, S3, T2, L2, by go_num, by go_num, H3.out.fresh ((Below.refl _ w3).alloc (Nat.le_refl _) _).drew, DN.out, belW⟩
                case measure => simp [RowKit.intOf]; omega

end
end Go.Proofs.Ythhlglbohibekaa
