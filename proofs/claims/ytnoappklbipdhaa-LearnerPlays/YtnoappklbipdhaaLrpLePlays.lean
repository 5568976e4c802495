/-
  LearnerPlays walked: any deeds on a learner, the program held against the document. The condition: a text has at most 2^48 bytes.
-/
import Derived.Test.YtnoappklbipdhaaLrpLeTwin
import Derived.Test.YtnoappklbipdhaaLrpLeOpen
namespace Go.Proofs.Ytnoappklbipdhaa
open Go.RowKit

theorem lea_len {p : Ln} {n : Nat} (h : LnOk p n) {e : En} (h2 : e.slot ≤ MXi) (h3 : e.cmd.name.size ≤ 281474976710656) : (leaL p e).2.length ≤ n + 1 := by
  unfold leaL
  by_cases hc : e.slot ≤ p.ap ∨ (leF p.l e.slot).isSome = true
  · rw [if_pos hc]; exact Nat.zero_le _
  · rw [if_neg hc]
    have h4 : ¬ e.slot ≤ p.ap := fun x => hc (Or.inl x)
    have h5 := h.ap
    obtain ⟨ys, hF⟩ := fol_row (h.put (by omega) h2 h3)
    rw [hF.eq]
    exact hF.len
theorem jum_len {p : Ln} {n : Nat} (h : LnOk p n) {b : Int} (h2 : b ≤ MXi) : (jumL p b).2.length ≤ n := by
  unfold jumL
  by_cases hc : b ≤ p.ap
  · rw [if_pos hc]; exact Nat.zero_le _
  · rw [if_neg hc]
    have h5 := h.ap
    obtain ⟨ys, hF⟩ := fol_row (h.drop (a := b) (b := b) (by omega) h2)
    rw [hF.eq]
    exact hF.len
theorem sin_len {p : Ln} {n : Nat} (h : LnOk p n) (s most : Int) : (sinL p s most).length ≤ n := by
  unfold sinL
  rw [List.length_take]
  have := (h.row s).2
  omega
set_option maxHeartbeats 25600000 in
set_option maxRecDepth 100000 in
theorem plays_walk (w : World) (n : Int) (v : Value) (l : List Ld) (hn : inI n) (hr : RowAt ldC w v l) (hm : l.length ≤ 9223372036854775807) (hok : ∀ x ∈ l, LdOk x) : Calls Try.prog 3 #[.int .i64 n, v] w fun e w' => e = .returned (.bool true) ∧ Below w.heap.size w w' := by
  obtain ⟨va, vc, rfl⟩ := hr.form
  have HR : Hid (∀ y, Below w.heap.size w y → RowAt ldC y (.slice va l.length vc) l) := fun y b => hr.fresh b
  have HOK : Hid (∀ x ∈ l, LdOk x) := hok
  have HN : Hid (n ≤ MXi) := hn.2
  clear hr hok hn
  go_enter Try.func3, Try.ntmps3
  go_upto_region 2 with (first
    | (go_at_call 8; refine (rnew_any _ n).mono ?_; rintro r w2 ⟨Y, Sy, rfl, h2, b2⟩; have H2 : Hid (RlAt w2 w1.heap.size Y Sy ⟨max n 0, []⟩ ∧ Below w1.heap.size w1 w2) := (show Hid _ from (⟨h2, b2⟩ : _ ∧ _)); clear h2 b2)
    | (go_at_call 7; refine (new_learner _ n HN.out).mono ?_; rintro r w1 ⟨X, S1, rfl, h1, b1⟩; have H1 : Hid (LnAt w1 w.heap.size X S1 ⟨max n 0, []⟩ 0 ∧ Below w.heap.size w w1) := (show Hid _ from (⟨h1, b1⟩ : _ ∧ _)); clear h1 b1))
  have T0 : Hid (Twin w w2 X Y ⟨max n 0, []⟩ 0) := (show Hid _ from (⟨⟨S1, Sy, H1.out.1.fresh H2.out.2, H2.out.1.low H1.out.2.size, fun g hg h3 => by have := (H2.out.1.bd g hg).1; have := (H1.out.1.bd g h3).2; omega⟩, bmm H1.out.2 H1.out.2.size H2.out.2⟩ : Twin w w2 X Y ⟨max n 0, []⟩ 0))
  go_wp2
  go_loopw [7] (fun i wr => ∃ (k : Nat) (q : Ln), k ≤ l.length ∧ k ≤ 200 ∧ i = .int .i64 (k : Int) ∧ Hid (Twin w wr X Y q k)) (fun i _ => l.length - (intOf i).toNat)
  case atStart => exact ⟨0, _, Nat.zero_le _, Nat.zero_le _, rfl, T0⟩
  case round =>
    clear T0 H1 H2
    obtain ⟨k, q, hk, hk200, rfl, I1⟩ := hrel
    by_cases hkl : k < l.length
    · have t0 : decide ((k : Int) < (l.length : Int)) = true := decide_eq_true (by omega)
      by_cases hk2 : k < 200
      · have t1 : decide ((k : Int) < 200) = true := decide_eq_true (by omega)
        obtain ⟨⟨S1, S3, hp, hq, hap⟩, hB⟩ := I1.out
        obtain ⟨bk, off, cap', hvv, hcap, hbk, hc⟩ := (HR.out wr hB).cells ldC_len (by omega)
        injection hvv with e1 e2 e3
        subst e1 e3
        clear e2
        obtain ⟨x, hx⟩ : ∃ x, x = l[k] := ⟨_, rfl⟩
        have hxo : LdOk x := by rw [hx]; exact HOK.out _ (List.getElem_mem hkl)
        have z0 := hc k hkl 0 (.int .i64 x.kind) (by decide) (by rw [hx]; rfl)
        have z1 := hc k hkl 1 (.int .i64 x.n) (by decide) (by rw [hx]; rfl)
        have z2 := hc k hkl 2 (.int .i64 x.most) (by decide) (by rw [hx]; rfl)
        have z3 := hc k hkl 3 (.int .i64 x.e.slot) (by decide) (by rw [hx]; rfl)
        have z4 := hc k hkl 4 (.int .i64 x.e.ballot) (by decide) (by rw [hx]; rfl)
        have z5 := hc k hkl 5 (.int .i64 x.e.cmd.kind) (by decide) (by rw [hx]; rfl)
        have z6 := hc k hkl 6 (.int .i64 x.e.cmd.session) (by decide) (by rw [hx]; rfl)
        have z7 := hc k hkl 7 (.int .i64 x.e.cmd.seq) (by decide) (by rw [hx]; rfl)
        have z8 := hc k hkl 8 (.string x.e.cmd.name) (by decide) (by rw [hx]; rfl)
        have z9 := hc k hkl 9 (.int .i64 x.e.cmd.n) (by decide) (by rw [hx]; rfl)
        rw [Nat.add_zero] at z0
        obtain ⟨y0, hy0⟩ : ∃ y, y = wr.alloc (.cells (ldA x) 32) := ⟨_, rfl⟩
        obtain ⟨DB, hDB⟩ : ∃ DB, DB = wr.heap.size := ⟨_, rfl⟩
        have a0 : Below wr.heap.size wr y0 := by rw [hy0]; exact (Below.refl _ _).alloc (Nat.le_refl _) _
        have d0 : LdAt y0 DB x := by rw [hy0, hDB]; exact heap_alloc_new wr _
        have HY0 : Hid (wr.alloc (.cells #[.int .i64 x.kind, .int .i64 x.n, .int .i64 x.most, .int .i64 x.e.slot, .int .i64 x.e.ballot, .int .i64 x.e.cmd.kind, .int .i64 x.e.cmd.session, .int .i64 x.e.cmd.seq, .string x.e.cmd.name, .int .i64 x.e.cmd.n] 32) = y0) := hy0.symm
        have HDB : Hid (wr.heap.size = DB) := hDB.symm
        have J0 : Hid (TwI w y0 X Y DB S1 S3 q q k x) := (show Hid _ from (⟨hp.fresh a0, hq.keep fun b hb => a0.block b (hq.bd b hb).2, hap, d0, fun e => by have := (hp.bd DB e).2; omega, fun e => by have := (hq.bd DB e).2; omega, bmm hB hB.size a0⟩ : TwI w y0 X Y DB S1 S3 q q k x))
        have HX : Hid (LdOk x) := hxo
        have HKL : Hid (k + 1 ≤ l.length ∧ k + 1 ≤ 200) := (show Hid _ from (⟨hkl, by omega⟩ : _ ∧ _))
        have HMN : Hid (k + 1 ≤ 200) := (by omega : k + 1 ≤ 200)
        clear hc hx hy0 hDB a0 d0 hp hq hap hB hxo hcap hbk I1
        go_upto_region 8 with fail
        rw [HY0.out, HDB.out]
        clear z0 z1 z2 z3 z4 z5 z6 z7 z8 z9 HY0 HDB
        have z0 := J0.out.db.box 0 (.int .i64 x.kind) rfl
        go_upto_region 12 with fail
        by_cases k0 : x.kind = 0
        · have q0 : (x.kind == 0) = true := by simpa using k0
          obtain ⟨QQ, hQQ⟩ : ∃ Q, Q = leaL q x.e := ⟨_, rfl⟩
          obtain ⟨QT, hQT⟩ : ∃ Q, Q = QQ.1 := ⟨_, rfl⟩
          obtain ⟨ET, hET⟩ : ∃ E, E = QQ.2 := ⟨_, rfl⟩
          obtain ⟨NN, hNN⟩ : ∃ N, N = k + 1 := ⟨_, rfl⟩
          have hqq : QQ = (QT, ET) := by rw [hQT, hET]
          have HNN : Hid (NN ≤ k + 1) := (by omega : NN ≤ k + 1)
          have HA : Hid (Calls Try.prog 9 #[.pointer (some ⟨X, 0, none⟩), .agg (enA x.e)] y0.drew (LeaPost y0.drew w.heap.size X S1 (QT, ET) NN)) := by
            rw [← hqq, hQQ, hNN]
            exact learn_any J0.out.drew.lx (by have := HKL.out; omega) x.e HX.out.slot HX.out.name
          have HB : Hid (∀ y S2, TwI w y X Y DB S2 S3 QT q NN x → Calls Try.prog 10 #[.pointer (some ⟨Y, 0, none⟩), .agg (enA x.e)] y (RlPost y w.heap.size Y S3 (QT, ET))) := fun y S2 h => by
            rw [← hqq, hQQ]
            obtain ⟨u, hu⟩ := h.ly.ex
            exact rlearn_any hu J0.out.lx.ok (by have := HKL.out; omega) x.e HX.out.slot.2 HX.out.name
          have HLT : Hid (ET.length ≤ 9223372036854775807) := by
            have := lea_len J0.out.lx.ok HX.out.slot.2 HX.out.name
            rw [← hQQ, ← hET] at this
            exact (Nat.le_trans this (by have := HKL.out; omega) : ET.length ≤ 9223372036854775807)
          clear hQQ hQT hET hNN hqq
          go_upto_region 13 with fail
          refine wp_region_held_drew (S := (fun y : World => LdAt y DB x)) (by kernel_rfl) ?_ (fun hHeld0 => ?_)
          · exact J0.out.db
          refine tk0 (.pointer (some ⟨X, 0, none⟩)) (by kernel_rfl) (by kernel_rfl) (by kernel_rfl) (fun _ _ _ h => h) rfl (fun w hSw => by (try dsimp only at hSw); go_simp) (by assumption) ?_
          try simp only [Act.put, List.setIfInBounds_toArray, List.set_cons_zero, List.set_cons_succ]
          refine tk1 (.pointer (some ⟨DB, 3, none⟩)) (by kernel_rfl) (by kernel_rfl) (by kernel_rfl) (fun _ _ _ h => h) rfl (fun w hSw => by (try dsimp only at hSw); go_simp) (by assumption) ?_
          try simp only [Act.put, List.setIfInBounds_toArray, List.set_cons_zero, List.set_cons_succ]
          refine tk2 (.agg (enA x.e)) (by kernel_rfl) (by kernel_rfl) (by kernel_rfl) (fun _ _ _ h => h) rfl (fun w hSw => by (try dsimp only at hSw); have z3 := hSw.box 3 _ rfl; have z4 := hSw.box 4 _ rfl; have z5 := hSw.box 5 _ rfl; have z6 := hSw.box 6 _ rfl; have z7 := hSw.box 7 _ rfl; have z8 := hSw.box 8 _ rfl; have z9 := hSw.box 9 _ rfl; go_simp) (by assumption) ?_
          try simp only [Act.put, List.setIfInBounds_toArray, List.set_cons_zero, List.set_cons_succ]
          refine tk4 (.pointer (some ⟨Y, 0, none⟩)) (by kernel_rfl) (by kernel_rfl) (by kernel_rfl) (fun _ _ _ h => h) rfl (fun w hSw => by (try dsimp only at hSw); go_simp) (by assumption) ?_
          try simp only [Act.put, List.setIfInBounds_toArray, List.set_cons_zero, List.set_cons_succ]
          refine tk5 (.pointer (some ⟨DB, 3, none⟩)) (by kernel_rfl) (by kernel_rfl) (by kernel_rfl) (fun _ _ _ h => h) rfl (fun w hSw => by (try dsimp only at hSw); go_simp) (by assumption) ?_
          try simp only [Act.put, List.setIfInBounds_toArray, List.set_cons_zero, List.set_cons_succ]
          refine tk6 (.agg (enA x.e)) (by kernel_rfl) (by kernel_rfl) (by kernel_rfl) (fun _ _ _ h => h) rfl (fun w hSw => by (try dsimp only at hSw); have z3 := hSw.box 3 _ rfl; have z4 := hSw.box 4 _ rfl; have z5 := hSw.box 5 _ rfl; have z6 := hSw.box 6 _ rfl; have z7 := hSw.box 7 _ rfl; have z8 := hSw.box 8 _ rfl; have z9 := hSw.box 9 _ rfl; go_simp) (by assumption) ?_
          try simp only [Act.put, List.setIfInBounds_toArray, List.set_cons_zero, List.set_cons_succ]
          refine cl3 (by kernel_rfl) rfl (fun K hK => ?_)
          go_simp
          go_at_call 9
          refine Calls.mono HA.out ?_
          intro r y2 h2
          obtain ⟨S2, u2, e2, p2, k2, a2⟩ := h2.ex
          subst e2
          obtain ⟨qa, qc, hq2⟩ := a2.row.form
          subst hq2
          have J2 : Hid (TwI w y2 X Y DB S2 S3 QT q NN x) := J0.out.drew.stepX p2 k2
          have A2 : Hid (AnsE y0.drew y2 S2 (.slice qa ET.length qc) ET) := a2
          have d2 := J2.out.db
          clear p2 k2 a2 h2
          refine hK.out _ _ ?_ (fun hHeld => ?_)
          · exact d2
          clear hK K
          refine cl7 (by kernel_rfl) rfl (fun K hK => ?_)
          have HB2 : Hid _ := HB.out y2 S2 J2.out
          go_simp
          go_at_call 10
          refine Calls.mono HB2.out ?_
          intro r y4 h4
          obtain ⟨S4, u4, e4, p4, k4, a4⟩ := h4.ex
          subst e4
          obtain ⟨qb, qd, hq4⟩ := a4.row.form
          subst hq4
          have J4 := J2.out.stepY p4 k4
          have JT : Hid (TwI w y4 X Y DB S2 S4 QT QT (k + 1) x) := (show Hid _ from (⟨J4.lx.mono HNN.out, J4.ly, J4.ap, J4.db, J4.nx, J4.ny, J4.b⟩ : TwI w y4 X Y DB S2 S4 QT QT (k + 1) x))
          have RAT : Hid (RowAt enC y4 (.slice qa ET.length qc) ET) := ans_keep A2.out k4 (fun g hg => (J0.out.ly.bd g hg).2)
          have RBT : Hid (RowAt enC y4 (.slice qb ET.length qd) ET) := a4.row
          have d4 := JT.out.db
          clear p4 k4 a4 h4 J4
          refine hK.out _ _ ?_ (fun hHeld => ?_)
          · exact d4
          clear hK K
          refine tk8 (.slice qa ET.length qc) (by kernel_rfl) (by kernel_rfl) (by kernel_rfl) (fun _ _ _ h => h) rfl (fun w hSw => by (try dsimp only at hSw); go_simp) (by assumption) ?_
          try simp only [Act.put, List.setIfInBounds_toArray, List.set_cons_zero, List.set_cons_succ]
          refine tk9 (.slice qb ET.length qd) (by kernel_rfl) (by kernel_rfl) (by kernel_rfl) (fun _ _ _ h => h) rfl (fun w hSw => by (try dsimp only at hSw); go_simp) (by assumption) ?_
          try simp only [Act.put, List.setIfInBounds_toArray, List.set_cons_zero, List.set_cons_succ]
          refine wpAnyH_done (by kernel_rfl) ?_ _
          clear d2 d4 z0 HA HB HB2 J0 J2 A2
          go_upto_region 18 with fail
          have hin : inI x.e.slot := HX.out.slot
          obtain ⟨kc, hkc⟩ : ∃ c, c = (knoL QT x.e.slot).1 := ⟨_, rfl⟩
          obtain ⟨kok, hkok⟩ : ∃ o, o = (knoL QT x.e.slot).2 := ⟨_, rfl⟩
          have hkno : knoL QT x.e.slot = (kc, kok) := by rw [hkc, hkok]
          have HK1 : Hid (Calls Try.prog 17 #[.pointer (some ⟨X, 0, none⟩), .int .i64 x.e.slot] y4 (KnPost y4 (kc, kok))) := by
            have := known_any JT.out.lx hin
            rw [hkno] at this
            exact this
          have HK2 : Hid (∀ y, Below y4.heap.size y4 y → Calls Try.prog 18 #[.pointer (some ⟨Y, 0, none⟩), .int .i64 x.e.slot] y (KnPost y (kc, kok))) := fun y b => by
            have hJ := JT.out.fresh b
            obtain ⟨u, hu⟩ := hJ.ly.ex
            have := rknown_any hu (by have := hJ.lx.ok.ln; have := HMN.out; omega) x.e.slot
            rw [hkno] at this
            exact this
          have m3 := JT.out.db.box 3 (.int .i64 x.e.slot) rfl
          clear hin hkc hkok hkno
          go_upto_region 19 with (go_at_call 17; refine Calls.mono HK1.out ?_; rintro r y5 ⟨⟨rfl, b5⟩⟩; have B5 : Hid _ := b5; clear b5)
          obtain ⟨y6, hy6⟩ : ∃ y, y = y5.alloc (.cells (cmdA kc) 28) := ⟨_, rfl⟩
          obtain ⟨C1, hC1⟩ : ∃ C, C = y5.heap.size := ⟨_, rfl⟩
          have b6 : Below y4.heap.size y4 y6 := by rw [hy6]; exact B5.out.trans (((Below.refl _ y5).alloc (Nat.le_refl _) _).mono B5.out.size)
          have g6 : y6.heap[C1]? = some (.cells (cmdA kc) 28 (0, 0)) := by rw [hy6, hC1]; exact heap_alloc_new y5 _
          have HY6 : Hid (y5.alloc (.cells (cmdA kc) 28) = y6) := hy6.symm
          have HC1 : Hid (y5.heap.size = C1) := hC1.symm
          have B6 : Hid _ := b6
          have G6 : Hid _ := g6
          clear hy6 hC1 b6 g6 m3
          rw [HY6.out, HC1.out]
          have m3 := (JT.out.fresh B6.out).db.box 3 (.int .i64 x.e.slot) rfl
          go_upto_region 20 with (go_at_call 18; refine Calls.mono (HK2.out _ B6.out) ?_; rintro r y7 ⟨⟨rfl, b7⟩⟩; have B7 : Hid _ := b7; clear b7)
          obtain ⟨y8, hy8⟩ : ∃ y, y = y7.alloc (.cells (cmdA kc) 28) := ⟨_, rfl⟩
          obtain ⟨C2, hC2⟩ : ∃ C, C = y7.heap.size := ⟨_, rfl⟩
          have b8 : Below y6.heap.size y6 y8 := by rw [hy8]; exact B7.out.trans (((Below.refl _ y7).alloc (Nat.le_refl _) _).mono B7.out.size)
          have g8 : y8.heap[C2]? = some (.cells (cmdA kc) 28 (0, 0)) := by rw [hy8, hC2]; exact heap_alloc_new y7 _
          have g7 : y8.heap[C1]? = some (.cells (cmdA kc) 28 (0, 0)) := (b8.block _ (lt_of_block G6.out)).trans G6.out
          have B8 : Hid (Below y4.heap.size y4 y8) := bmm B6.out B6.out.size b8
          have HY8 : Hid (y7.alloc (.cells (cmdA kc) 28) = y8) := hy8.symm
          have HC2 : Hid (y7.heap.size = C2) := hC2.symm
          have HS : Hid (∀ y, Below y8.heap.size y8 y → y.cell? ⟨Y, 0, none⟩ = some (.int .i64 QT.ap) ∧ y.heap[C1]? = some (.cells (cmdA kc) 28 (0, 0)) ∧ y.heap[C2]? = some (.cells (cmdA kc) 28 (0, 0))) := fun y b => ⟨by
            obtain ⟨u, hu⟩ := (JT.out.fresh (bmm B8.out B8.out.size b)).ly.ex
            exact hu.c0, (b.block _ (lt_of_block g7)).trans g7, (b.block _ (lt_of_block g8)).trans g8⟩
          clear hy8 hC2 b8 g8 g7 m3
          rw [HY8.out, HC2.out]
          have HEn : Hid (∀ y, Below y4.heap.size y4 y → Calls Try.prog 19 #[.slice qa ET.length qc, .slice qb ET.length qd] y fun e w' => e = .returned (.bool true) ∧ Below y.heap.size y w') := fun y b => ents_same y _ _ ET (RAT.out.fresh b) (RBT.out.fresh b) HLT.out
          have HAp : Hid (∀ y, Below y4.heap.size y4 y → Calls Try.prog 20 #[.pointer (some ⟨X, 0, none⟩)] y fun e w' => e = .returned (.int .i64 QT.ap) ∧ w' = y) := fun y b => applied_any (JT.out.fresh b).lx
          have qn := cmd_ne kc
          obtain ⟨s0, s1, s2⟩ := HS.out y8 (Below.refl _ _)
          obtain ⟨AP, hAP⟩ : ∃ a, a = QT.ap := ⟨_, rfl⟩
          rw [← hAP] at s0 HAp HS
          have t5 : (AP == AP) = true := by simp
          have t6 : (kok == kok) = true := by simp
          clear hAP
          refine wp_region_held_drew (S := (fun y : World => y.cell? ⟨Y, 0, none⟩ = some (.int .i64 AP) ∧ y.heap[C1]? = some (.cells (cmdA kc) 28 (0, 0)) ∧ y.heap[C2]? = some (.cells (cmdA kc) 28 (0, 0)))) (by kernel_rfl) ?_ (fun hHeld0 => ?_)
          · exact HS.out y8 (Below.refl _ _)
          refine tk0 (.slice qa ET.length qc) (by kernel_rfl) (by kernel_rfl) (by kernel_rfl) (fun _ _ _ h => h) rfl (fun w hSw => by (try dsimp only at hSw); obtain ⟨s0, s1, s2⟩ := hSw; go_simp) (by assumption) ?_
          try simp only [Act.put, List.setIfInBounds_toArray, List.set_cons_zero, List.set_cons_succ]
          refine tk1 (.slice qb ET.length qd) (by kernel_rfl) (by kernel_rfl) (by kernel_rfl) (fun _ _ _ h => h) rfl (fun w hSw => by (try dsimp only at hSw); obtain ⟨s0, s1, s2⟩ := hSw; go_simp) (by assumption) ?_
          try simp only [Act.put, List.setIfInBounds_toArray, List.set_cons_zero, List.set_cons_succ]
          refine cl2 (by kernel_rfl) rfl (fun K hK => ?_)
          go_simp
          go_at_call 19
          refine Calls.mono (HEn.out _ B8.out.drew) ?_
          rintro r y9 ⟨rfl, b9⟩
          have v9 := HS.out y9 (undrew b9)
          have B9 : Hid (Below y4.heap.size y4 y9) := bmm B8.out B8.out.size (undrew b9)
          clear b9
          refine hK.out _ _ ?_ (fun hHeld => ?_)
          · exact v9
          clear hK K
          try simp only [Act.put, List.setIfInBounds_toArray, List.set_cons_zero, List.set_cons_succ]
          refine tk3 (.bool false) (by kernel_rfl) (by kernel_rfl) (by kernel_rfl) (fun _ _ _ h => h) rfl (fun w hSw => by (try dsimp only at hSw); obtain ⟨s0, s1, s2⟩ := hSw; go_simp) (by assumption) ?_
          try simp only [Act.put, List.setIfInBounds_toArray, List.set_cons_zero, List.set_cons_succ]
          refine tk4 (.bool false) (by kernel_rfl) (by kernel_rfl) (by kernel_rfl) (fun _ _ _ h => h) rfl (fun w hSw => by (try dsimp only at hSw); obtain ⟨s0, s1, s2⟩ := hSw; go_simp) (by assumption) ?_
          try simp only [Act.put, List.setIfInBounds_toArray, List.set_cons_zero, List.set_cons_succ]
          refine tk5 (.pointer (some ⟨X, 0, none⟩)) (by kernel_rfl) (by kernel_rfl) (by kernel_rfl) (fun _ _ _ h => h) rfl (fun w hSw => by (try dsimp only at hSw); obtain ⟨s0, s1, s2⟩ := hSw; go_simp) (by assumption) ?_
          try simp only [Act.put, List.setIfInBounds_toArray, List.set_cons_zero, List.set_cons_succ]
          refine tk7 (.pointer (some ⟨Y, 0, none⟩)) (by kernel_rfl) (by kernel_rfl) (by kernel_rfl) (fun _ _ _ h => h) rfl (fun w hSw => by (try dsimp only at hSw); obtain ⟨s0, s1, s2⟩ := hSw; go_simp) (by assumption) ?_
          try simp only [Act.put, List.setIfInBounds_toArray, List.set_cons_zero, List.set_cons_succ]
          refine tk8 (.pointer (some ⟨Y, 0, none⟩)) (by kernel_rfl) (by kernel_rfl) (by kernel_rfl) (fun _ _ _ h => h) rfl (fun w hSw => by (try dsimp only at hSw); obtain ⟨s0, s1, s2⟩ := hSw; go_simp) (by assumption) ?_
          try simp only [Act.put, List.setIfInBounds_toArray, List.set_cons_zero, List.set_cons_succ]
          refine tk9 (.pointer (some ⟨Y, 0, none⟩)) (by kernel_rfl) (by kernel_rfl) (by kernel_rfl) (fun _ _ _ h => h) rfl (fun w hSw => by (try dsimp only at hSw); obtain ⟨s0, s1, s2⟩ := hSw; go_simp) (by assumption) ?_
          try simp only [Act.put, List.setIfInBounds_toArray, List.set_cons_zero, List.set_cons_succ]
          refine tk10 (.int .i64 AP) (by kernel_rfl) (by kernel_rfl) (by kernel_rfl) (fun _ _ _ h => h) rfl (fun w hSw => by (try dsimp only at hSw); obtain ⟨s0, s1, s2⟩ := hSw; go_simp) (by assumption) ?_
          try simp only [Act.put, List.setIfInBounds_toArray, List.set_cons_zero, List.set_cons_succ]
          refine cl6 (by kernel_rfl) rfl (fun K hK => ?_)
          go_simp
          go_at_call 20
          refine Calls.mono (HAp.out _ B9.out) ?_
          rintro r y10 ⟨rfl, e10⟩
          rw [e10]
          clear e10
          refine hK.out _ _ ?_ (fun hHeld => ?_)
          · exact v9
          clear hK K
          try simp only [Act.put, List.setIfInBounds_toArray, List.set_cons_zero, List.set_cons_succ]
          refine tk11 (.bool false) (by kernel_rfl) (by kernel_rfl) (by kernel_rfl) (fun _ _ _ h => h) rfl (fun w hSw => by (try dsimp only at hSw); obtain ⟨s0, s1, s2⟩ := hSw; go_simp) (by assumption) ?_
          try simp only [Act.put, List.setIfInBounds_toArray, List.set_cons_zero, List.set_cons_succ]
          refine tk12 (.bool false) (by kernel_rfl) (by kernel_rfl) (by kernel_rfl) (fun _ _ _ h => h) rfl (fun w hSw => by (try dsimp only at hSw); obtain ⟨s0, s1, s2⟩ := hSw; go_simp) (by assumption) ?_
          try simp only [Act.put, List.setIfInBounds_toArray, List.set_cons_zero, List.set_cons_succ]
          refine tk13 (.bool false) (by kernel_rfl) (by kernel_rfl) (by kernel_rfl) (fun _ _ _ h => h) rfl (fun w hSw => by (try dsimp only at hSw); obtain ⟨s0, s1, s2⟩ := hSw; go_simp) (by assumption) ?_
          try simp only [Act.put, List.setIfInBounds_toArray, List.set_cons_zero, List.set_cons_succ]
          refine tk14 (.agg (cmdA kc)) (by kernel_rfl) (by kernel_rfl) (by kernel_rfl) (fun _ _ _ h => h) rfl (fun w hSw => by (try dsimp only at hSw); obtain ⟨s0, s1, s2⟩ := hSw; have d0 : w.cell? ⟨C1, 0, none⟩ = some (.int .i64 kc.kind) := (by simp [World.cell?, s1]); have d1 : w.cell? ⟨C1, 1, none⟩ = some (.int .i64 kc.session) := (by simp [World.cell?, s1]); have d2 : w.cell? ⟨C1, 2, none⟩ = some (.int .i64 kc.seq) := (by simp [World.cell?, s1]); have d3 : w.cell? ⟨C1, 3, none⟩ = some (.string kc.name) := (by simp [World.cell?, s1]); have d4 : w.cell? ⟨C1, 4, none⟩ = some (.int .i64 kc.n) := (by simp [World.cell?, s1]); go_simp) (by assumption) ?_
          try simp only [Act.put, List.setIfInBounds_toArray, List.set_cons_zero, List.set_cons_succ]
          refine tk15 (.agg (cmdA kc)) (by kernel_rfl) (by kernel_rfl) (by kernel_rfl) (fun _ _ _ h => h) rfl (fun w hSw => by (try dsimp only at hSw); obtain ⟨s0, s1, s2⟩ := hSw; have d0 : w.cell? ⟨C2, 0, none⟩ = some (.int .i64 kc.kind) := (by simp [World.cell?, s2]); have d1 : w.cell? ⟨C2, 1, none⟩ = some (.int .i64 kc.session) := (by simp [World.cell?, s2]); have d2 : w.cell? ⟨C2, 2, none⟩ = some (.int .i64 kc.seq) := (by simp [World.cell?, s2]); have d3 : w.cell? ⟨C2, 3, none⟩ = some (.string kc.name) := (by simp [World.cell?, s2]); have d4 : w.cell? ⟨C2, 4, none⟩ = some (.int .i64 kc.n) := (by simp [World.cell?, s2]); go_simp) (by assumption) ?_
          try simp only [Act.put, List.setIfInBounds_toArray, List.set_cons_zero, List.set_cons_succ]
          refine tk16 (.bool false) (by kernel_rfl) (by kernel_rfl) (by kernel_rfl) (fun _ _ _ h => h) rfl (fun w hSw => by (try dsimp only at hSw); obtain ⟨s0, s1, s2⟩ := hSw; go_simp) (by assumption) ?_
          try simp only [Act.put, List.setIfInBounds_toArray, List.set_cons_zero, List.set_cons_succ]
          refine tk17 (.bool false) (by kernel_rfl) (by kernel_rfl) (by kernel_rfl) (fun _ _ _ h => h) rfl (fun w hSw => by (try dsimp only at hSw); obtain ⟨s0, s1, s2⟩ := hSw; go_simp) (by assumption) ?_
          try simp only [Act.put, List.setIfInBounds_toArray, List.set_cons_zero, List.set_cons_succ]
          refine tk18 (.bool false) (by kernel_rfl) (by kernel_rfl) (by kernel_rfl) (fun _ _ _ h => h) rfl (fun w hSw => by (try dsimp only at hSw); obtain ⟨s0, s1, s2⟩ := hSw; go_simp) (by assumption) ?_
          try simp only [Act.put, List.setIfInBounds_toArray, List.set_cons_zero, List.set_cons_succ]
          refine tk19 (.bool kok) (by kernel_rfl) (by kernel_rfl) (by kernel_rfl) (fun _ _ _ h => h) rfl (fun w hSw => by (try dsimp only at hSw); obtain ⟨s0, s1, s2⟩ := hSw; go_simp) (by assumption) ?_
          try simp only [Act.put, List.setIfInBounds_toArray, List.set_cons_zero, List.set_cons_succ]
          refine tk20 (.bool kok) (by kernel_rfl) (by kernel_rfl) (by kernel_rfl) (fun _ _ _ h => h) rfl (fun w hSw => by (try dsimp only at hSw); obtain ⟨s0, s1, s2⟩ := hSw; go_simp) (by assumption) ?_
          try simp only [Act.put, List.setIfInBounds_toArray, List.set_cons_zero, List.set_cons_succ]
          refine tk21 (.bool false) (by kernel_rfl) (by kernel_rfl) (by kernel_rfl) (fun _ _ _ h => h) rfl (fun w hSw => by (try dsimp only at hSw); obtain ⟨s0, s1, s2⟩ := hSw; go_simp) (by assumption) ?_
          try simp only [Act.put, List.setIfInBounds_toArray, List.set_cons_zero, List.set_cons_succ]
          refine tk22 (.bool false) (by kernel_rfl) (by kernel_rfl) (by kernel_rfl) (fun _ _ _ h => h) rfl (fun w hSw => by (try dsimp only at hSw); obtain ⟨s0, s1, s2⟩ := hSw; go_simp) (by assumption) ?_
          try simp only [Act.put, List.setIfInBounds_toArray, List.set_cons_zero, List.set_cons_succ]
          refine wpAnyH_done (by kernel_rfl) ?_ _
          have IX : Hid (Twin w y9 X Y QT (k + 1)) := (JT.out.fresh B9.out).twin (Nat.le_refl _)
          clear s0 s1 s2 v9
          go_wp2
          go_roundw
          case rel => exact ⟨k + 1, QT, HKL.out.1, HKL.out.2, by go_num, IX.out⟩
          case measure => have := HKL.out.1; simp [intOf]; omega
        · have q0 : (x.kind == 0) = false := by simpa using k0
          by_cases k1 : x.kind = 1
          · have q1 : (x.kind == 1) = true := by simpa using k1
            obtain ⟨QQ, hQQ⟩ : ∃ Q, Q = jumL q x.n := ⟨_, rfl⟩
            obtain ⟨QT, hQT⟩ : ∃ Q, Q = QQ.1 := ⟨_, rfl⟩
            obtain ⟨ET, hET⟩ : ∃ E, E = QQ.2 := ⟨_, rfl⟩
            obtain ⟨NN, hNN⟩ : ∃ N, N = k := ⟨_, rfl⟩
            have hqq : QQ = (QT, ET) := by rw [hQT, hET]
            have HNN : Hid (NN ≤ k + 1) := (by omega : NN ≤ k + 1)
            have HA : Hid (Calls Try.prog 11 #[.pointer (some ⟨X, 0, none⟩), .int .i64 x.n] y0.drew (LeaPost y0.drew w.heap.size X S1 (QT, ET) NN)) := by
              rw [← hqq, hQQ, hNN]
              exact jump_any J0.out.drew.lx (by have := HKL.out; omega) HX.out.n.2
            have HB : Hid (∀ y S2, TwI w y X Y DB S2 S3 QT q NN x → Calls Try.prog 12 #[.pointer (some ⟨Y, 0, none⟩), .int .i64 x.n] y (RlPost y w.heap.size Y S3 (QT, ET))) := fun y S2 h => by
              rw [← hqq, hQQ]
              obtain ⟨u, hu⟩ := h.ly.ex
              exact rjump_any hu J0.out.lx.ok (by have := HKL.out; omega) HX.out.n.2
            have HLT : Hid (ET.length ≤ 9223372036854775807) := by
              have := jum_len J0.out.lx.ok HX.out.n.2
              rw [← hQQ, ← hET] at this
              exact (Nat.le_trans this (by have := HKL.out; omega) : ET.length ≤ 9223372036854775807)
            clear hQQ hQT hET hNN hqq
            go_upto_region 15 with fail
            refine wp_region_held_drew (S := (fun y : World => LdAt y DB x)) (by kernel_rfl) ?_ (fun hHeld0 => ?_)
            · exact J0.out.db
            refine tk0 (.pointer (some ⟨X, 0, none⟩)) (by kernel_rfl) (by kernel_rfl) (by kernel_rfl) (fun _ _ _ h => h) rfl (fun w hSw => by (try dsimp only at hSw); go_simp) (by assumption) ?_
            try simp only [Act.put, List.setIfInBounds_toArray, List.set_cons_zero, List.set_cons_succ]
            refine tk1 (.pointer (some ⟨DB, 1, none⟩)) (by kernel_rfl) (by kernel_rfl) (by kernel_rfl) (fun _ _ _ h => h) rfl (fun w hSw => by (try dsimp only at hSw); go_simp) (by assumption) ?_
            try simp only [Act.put, List.setIfInBounds_toArray, List.set_cons_zero, List.set_cons_succ]
            refine tk2 (.int .i64 x.n) (by kernel_rfl) (by kernel_rfl) (by kernel_rfl) (fun _ _ _ h => h) rfl (fun w hSw => by (try dsimp only at hSw); have z1 := hSw.box 1 _ rfl; go_simp) (by assumption) ?_
            try simp only [Act.put, List.setIfInBounds_toArray, List.set_cons_zero, List.set_cons_succ]
            refine tk4 (.pointer (some ⟨Y, 0, none⟩)) (by kernel_rfl) (by kernel_rfl) (by kernel_rfl) (fun _ _ _ h => h) rfl (fun w hSw => by (try dsimp only at hSw); go_simp) (by assumption) ?_
            try simp only [Act.put, List.setIfInBounds_toArray, List.set_cons_zero, List.set_cons_succ]
            refine tk5 (.pointer (some ⟨DB, 1, none⟩)) (by kernel_rfl) (by kernel_rfl) (by kernel_rfl) (fun _ _ _ h => h) rfl (fun w hSw => by (try dsimp only at hSw); go_simp) (by assumption) ?_
            try simp only [Act.put, List.setIfInBounds_toArray, List.set_cons_zero, List.set_cons_succ]
            refine tk6 (.int .i64 x.n) (by kernel_rfl) (by kernel_rfl) (by kernel_rfl) (fun _ _ _ h => h) rfl (fun w hSw => by (try dsimp only at hSw); have z1 := hSw.box 1 _ rfl; go_simp) (by assumption) ?_
            try simp only [Act.put, List.setIfInBounds_toArray, List.set_cons_zero, List.set_cons_succ]
            refine cl3 (by kernel_rfl) rfl (fun K hK => ?_)
            go_simp
            go_at_call 11
            refine Calls.mono HA.out ?_
            intro r y2 h2
            obtain ⟨S2, u2, e2, p2, k2, a2⟩ := h2.ex
            subst e2
            obtain ⟨qa, qc, hq2⟩ := a2.row.form
            subst hq2
            have J2 : Hid (TwI w y2 X Y DB S2 S3 QT q NN x) := J0.out.drew.stepX p2 k2
            have A2 : Hid (AnsE y0.drew y2 S2 (.slice qa ET.length qc) ET) := a2
            have d2 := J2.out.db
            clear p2 k2 a2 h2
            refine hK.out _ _ ?_ (fun hHeld => ?_)
            · exact d2
            clear hK K
            refine cl7 (by kernel_rfl) rfl (fun K hK => ?_)
            have HB2 : Hid _ := HB.out y2 S2 J2.out
            go_simp
            go_at_call 12
            refine Calls.mono HB2.out ?_
            intro r y4 h4
            obtain ⟨S4, u4, e4, p4, k4, a4⟩ := h4.ex
            subst e4
            obtain ⟨qb, qd, hq4⟩ := a4.row.form
            subst hq4
            have J4 := J2.out.stepY p4 k4
            have JT : Hid (TwI w y4 X Y DB S2 S4 QT QT (k + 1) x) := (show Hid _ from (⟨J4.lx.mono HNN.out, J4.ly, J4.ap, J4.db, J4.nx, J4.ny, J4.b⟩ : TwI w y4 X Y DB S2 S4 QT QT (k + 1) x))
            have RAT : Hid (RowAt enC y4 (.slice qa ET.length qc) ET) := ans_keep A2.out k4 (fun g hg => (J0.out.ly.bd g hg).2)
            have RBT : Hid (RowAt enC y4 (.slice qb ET.length qd) ET) := a4.row
            have d4 := JT.out.db
            clear p4 k4 a4 h4 J4
            refine hK.out _ _ ?_ (fun hHeld => ?_)
            · exact d4
            clear hK K
            refine tk8 (.slice qa ET.length qc) (by kernel_rfl) (by kernel_rfl) (by kernel_rfl) (fun _ _ _ h => h) rfl (fun w hSw => by (try dsimp only at hSw); go_simp) (by assumption) ?_
            try simp only [Act.put, List.setIfInBounds_toArray, List.set_cons_zero, List.set_cons_succ]
            refine tk9 (.slice qb ET.length qd) (by kernel_rfl) (by kernel_rfl) (by kernel_rfl) (fun _ _ _ h => h) rfl (fun w hSw => by (try dsimp only at hSw); go_simp) (by assumption) ?_
            try simp only [Act.put, List.setIfInBounds_toArray, List.set_cons_zero, List.set_cons_succ]
            refine wpAnyH_done (by kernel_rfl) ?_ _
            clear d2 d4 z0 HA HB HB2 J0 J2 A2
            go_upto_region 18 with fail
            have hin : inI x.e.slot := HX.out.slot
            obtain ⟨kc, hkc⟩ : ∃ c, c = (knoL QT x.e.slot).1 := ⟨_, rfl⟩
            obtain ⟨kok, hkok⟩ : ∃ o, o = (knoL QT x.e.slot).2 := ⟨_, rfl⟩
            have hkno : knoL QT x.e.slot = (kc, kok) := by rw [hkc, hkok]
            have HK1 : Hid (Calls Try.prog 17 #[.pointer (some ⟨X, 0, none⟩), .int .i64 x.e.slot] y4 (KnPost y4 (kc, kok))) := by
              have := known_any JT.out.lx hin
              rw [hkno] at this
              exact this
            have HK2 : Hid (∀ y, Below y4.heap.size y4 y → Calls Try.prog 18 #[.pointer (some ⟨Y, 0, none⟩), .int .i64 x.e.slot] y (KnPost y (kc, kok))) := fun y b => by
              have hJ := JT.out.fresh b
              obtain ⟨u, hu⟩ := hJ.ly.ex
              have := rknown_any hu (by have := hJ.lx.ok.ln; have := HMN.out; omega) x.e.slot
              rw [hkno] at this
              exact this
            have m3 := JT.out.db.box 3 (.int .i64 x.e.slot) rfl
            clear hin hkc hkok hkno
            go_upto_region 19 with (go_at_call 17; refine Calls.mono HK1.out ?_; rintro r y5 ⟨⟨rfl, b5⟩⟩; have B5 : Hid _ := b5; clear b5)
            obtain ⟨y6, hy6⟩ : ∃ y, y = y5.alloc (.cells (cmdA kc) 28) := ⟨_, rfl⟩
            obtain ⟨C1, hC1⟩ : ∃ C, C = y5.heap.size := ⟨_, rfl⟩
            have b6 : Below y4.heap.size y4 y6 := by rw [hy6]; exact B5.out.trans (((Below.refl _ y5).alloc (Nat.le_refl _) _).mono B5.out.size)
            have g6 : y6.heap[C1]? = some (.cells (cmdA kc) 28 (0, 0)) := by rw [hy6, hC1]; exact heap_alloc_new y5 _
            have HY6 : Hid (y5.alloc (.cells (cmdA kc) 28) = y6) := hy6.symm
            have HC1 : Hid (y5.heap.size = C1) := hC1.symm
            have B6 : Hid _ := b6
            have G6 : Hid _ := g6
            clear hy6 hC1 b6 g6 m3
            rw [HY6.out, HC1.out]
            have m3 := (JT.out.fresh B6.out).db.box 3 (.int .i64 x.e.slot) rfl
            go_upto_region 20 with (go_at_call 18; refine Calls.mono (HK2.out _ B6.out) ?_; rintro r y7 ⟨⟨rfl, b7⟩⟩; have B7 : Hid _ := b7; clear b7)
            obtain ⟨y8, hy8⟩ : ∃ y, y = y7.alloc (.cells (cmdA kc) 28) := ⟨_, rfl⟩
            obtain ⟨C2, hC2⟩ : ∃ C, C = y7.heap.size := ⟨_, rfl⟩
            have b8 : Below y6.heap.size y6 y8 := by rw [hy8]; exact B7.out.trans (((Below.refl _ y7).alloc (Nat.le_refl _) _).mono B7.out.size)
            have g8 : y8.heap[C2]? = some (.cells (cmdA kc) 28 (0, 0)) := by rw [hy8, hC2]; exact heap_alloc_new y7 _
            have g7 : y8.heap[C1]? = some (.cells (cmdA kc) 28 (0, 0)) := (b8.block _ (lt_of_block G6.out)).trans G6.out
            have B8 : Hid (Below y4.heap.size y4 y8) := bmm B6.out B6.out.size b8
            have HY8 : Hid (y7.alloc (.cells (cmdA kc) 28) = y8) := hy8.symm
            have HC2 : Hid (y7.heap.size = C2) := hC2.symm
            have HS : Hid (∀ y, Below y8.heap.size y8 y → y.cell? ⟨Y, 0, none⟩ = some (.int .i64 QT.ap) ∧ y.heap[C1]? = some (.cells (cmdA kc) 28 (0, 0)) ∧ y.heap[C2]? = some (.cells (cmdA kc) 28 (0, 0))) := fun y b => ⟨by
              obtain ⟨u, hu⟩ := (JT.out.fresh (bmm B8.out B8.out.size b)).ly.ex
              exact hu.c0, (b.block _ (lt_of_block g7)).trans g7, (b.block _ (lt_of_block g8)).trans g8⟩
            clear hy8 hC2 b8 g8 g7 m3
            rw [HY8.out, HC2.out]
            have HEn : Hid (∀ y, Below y4.heap.size y4 y → Calls Try.prog 19 #[.slice qa ET.length qc, .slice qb ET.length qd] y fun e w' => e = .returned (.bool true) ∧ Below y.heap.size y w') := fun y b => ents_same y _ _ ET (RAT.out.fresh b) (RBT.out.fresh b) HLT.out
            have HAp : Hid (∀ y, Below y4.heap.size y4 y → Calls Try.prog 20 #[.pointer (some ⟨X, 0, none⟩)] y fun e w' => e = .returned (.int .i64 QT.ap) ∧ w' = y) := fun y b => applied_any (JT.out.fresh b).lx
            have qn := cmd_ne kc
            obtain ⟨s0, s1, s2⟩ := HS.out y8 (Below.refl _ _)
            obtain ⟨AP, hAP⟩ : ∃ a, a = QT.ap := ⟨_, rfl⟩
            rw [← hAP] at s0 HAp HS
            have t5 : (AP == AP) = true := by simp
            have t6 : (kok == kok) = true := by simp
            clear hAP
            refine wp_region_held_drew (S := (fun y : World => y.cell? ⟨Y, 0, none⟩ = some (.int .i64 AP) ∧ y.heap[C1]? = some (.cells (cmdA kc) 28 (0, 0)) ∧ y.heap[C2]? = some (.cells (cmdA kc) 28 (0, 0)))) (by kernel_rfl) ?_ (fun hHeld0 => ?_)
            · exact HS.out y8 (Below.refl _ _)
            refine tk0 (.slice qa ET.length qc) (by kernel_rfl) (by kernel_rfl) (by kernel_rfl) (fun _ _ _ h => h) rfl (fun w hSw => by (try dsimp only at hSw); obtain ⟨s0, s1, s2⟩ := hSw; go_simp) (by assumption) ?_
            try simp only [Act.put, List.setIfInBounds_toArray, List.set_cons_zero, List.set_cons_succ]
            refine tk1 (.slice qb ET.length qd) (by kernel_rfl) (by kernel_rfl) (by kernel_rfl) (fun _ _ _ h => h) rfl (fun w hSw => by (try dsimp only at hSw); obtain ⟨s0, s1, s2⟩ := hSw; go_simp) (by assumption) ?_
            try simp only [Act.put, List.setIfInBounds_toArray, List.set_cons_zero, List.set_cons_succ]
            refine cl2 (by kernel_rfl) rfl (fun K hK => ?_)
            go_simp
            go_at_call 19
            refine Calls.mono (HEn.out _ B8.out.drew) ?_
            rintro r y9 ⟨rfl, b9⟩
            have v9 := HS.out y9 (undrew b9)
            have B9 : Hid (Below y4.heap.size y4 y9) := bmm B8.out B8.out.size (undrew b9)
            clear b9
            refine hK.out _ _ ?_ (fun hHeld => ?_)
            · exact v9
            clear hK K
            try simp only [Act.put, List.setIfInBounds_toArray, List.set_cons_zero, List.set_cons_succ]
            refine tk3 (.bool false) (by kernel_rfl) (by kernel_rfl) (by kernel_rfl) (fun _ _ _ h => h) rfl (fun w hSw => by (try dsimp only at hSw); obtain ⟨s0, s1, s2⟩ := hSw; go_simp) (by assumption) ?_
            try simp only [Act.put, List.setIfInBounds_toArray, List.set_cons_zero, List.set_cons_succ]
            refine tk4 (.bool false) (by kernel_rfl) (by kernel_rfl) (by kernel_rfl) (fun _ _ _ h => h) rfl (fun w hSw => by (try dsimp only at hSw); obtain ⟨s0, s1, s2⟩ := hSw; go_simp) (by assumption) ?_
            try simp only [Act.put, List.setIfInBounds_toArray, List.set_cons_zero, List.set_cons_succ]
            refine tk5 (.pointer (some ⟨X, 0, none⟩)) (by kernel_rfl) (by kernel_rfl) (by kernel_rfl) (fun _ _ _ h => h) rfl (fun w hSw => by (try dsimp only at hSw); obtain ⟨s0, s1, s2⟩ := hSw; go_simp) (by assumption) ?_
            try simp only [Act.put, List.setIfInBounds_toArray, List.set_cons_zero, List.set_cons_succ]
            refine tk7 (.pointer (some ⟨Y, 0, none⟩)) (by kernel_rfl) (by kernel_rfl) (by kernel_rfl) (fun _ _ _ h => h) rfl (fun w hSw => by (try dsimp only at hSw); obtain ⟨s0, s1, s2⟩ := hSw; go_simp) (by assumption) ?_
            try simp only [Act.put, List.setIfInBounds_toArray, List.set_cons_zero, List.set_cons_succ]
            refine tk8 (.pointer (some ⟨Y, 0, none⟩)) (by kernel_rfl) (by kernel_rfl) (by kernel_rfl) (fun _ _ _ h => h) rfl (fun w hSw => by (try dsimp only at hSw); obtain ⟨s0, s1, s2⟩ := hSw; go_simp) (by assumption) ?_
            try simp only [Act.put, List.setIfInBounds_toArray, List.set_cons_zero, List.set_cons_succ]
            refine tk9 (.pointer (some ⟨Y, 0, none⟩)) (by kernel_rfl) (by kernel_rfl) (by kernel_rfl) (fun _ _ _ h => h) rfl (fun w hSw => by (try dsimp only at hSw); obtain ⟨s0, s1, s2⟩ := hSw; go_simp) (by assumption) ?_
            try simp only [Act.put, List.setIfInBounds_toArray, List.set_cons_zero, List.set_cons_succ]
            refine tk10 (.int .i64 AP) (by kernel_rfl) (by kernel_rfl) (by kernel_rfl) (fun _ _ _ h => h) rfl (fun w hSw => by (try dsimp only at hSw); obtain ⟨s0, s1, s2⟩ := hSw; go_simp) (by assumption) ?_
            try simp only [Act.put, List.setIfInBounds_toArray, List.set_cons_zero, List.set_cons_succ]
            refine cl6 (by kernel_rfl) rfl (fun K hK => ?_)
            go_simp
            go_at_call 20
            refine Calls.mono (HAp.out _ B9.out) ?_
            rintro r y10 ⟨rfl, e10⟩
            rw [e10]
            clear e10
            refine hK.out _ _ ?_ (fun hHeld => ?_)
            · exact v9
            clear hK K
            try simp only [Act.put, List.setIfInBounds_toArray, List.set_cons_zero, List.set_cons_succ]
            refine tk11 (.bool false) (by kernel_rfl) (by kernel_rfl) (by kernel_rfl) (fun _ _ _ h => h) rfl (fun w hSw => by (try dsimp only at hSw); obtain ⟨s0, s1, s2⟩ := hSw; go_simp) (by assumption) ?_
            try simp only [Act.put, List.setIfInBounds_toArray, List.set_cons_zero, List.set_cons_succ]
            refine tk12 (.bool false) (by kernel_rfl) (by kernel_rfl) (by kernel_rfl) (fun _ _ _ h => h) rfl (fun w hSw => by (try dsimp only at hSw); obtain ⟨s0, s1, s2⟩ := hSw; go_simp) (by assumption) ?_
            try simp only [Act.put, List.setIfInBounds_toArray, List.set_cons_zero, List.set_cons_succ]
            refine tk13 (.bool false) (by kernel_rfl) (by kernel_rfl) (by kernel_rfl) (fun _ _ _ h => h) rfl (fun w hSw => by (try dsimp only at hSw); obtain ⟨s0, s1, s2⟩ := hSw; go_simp) (by assumption) ?_
            try simp only [Act.put, List.setIfInBounds_toArray, List.set_cons_zero, List.set_cons_succ]
            refine tk14 (.agg (cmdA kc)) (by kernel_rfl) (by kernel_rfl) (by kernel_rfl) (fun _ _ _ h => h) rfl (fun w hSw => by (try dsimp only at hSw); obtain ⟨s0, s1, s2⟩ := hSw; have d0 : w.cell? ⟨C1, 0, none⟩ = some (.int .i64 kc.kind) := (by simp [World.cell?, s1]); have d1 : w.cell? ⟨C1, 1, none⟩ = some (.int .i64 kc.session) := (by simp [World.cell?, s1]); have d2 : w.cell? ⟨C1, 2, none⟩ = some (.int .i64 kc.seq) := (by simp [World.cell?, s1]); have d3 : w.cell? ⟨C1, 3, none⟩ = some (.string kc.name) := (by simp [World.cell?, s1]); have d4 : w.cell? ⟨C1, 4, none⟩ = some (.int .i64 kc.n) := (by simp [World.cell?, s1]); go_simp) (by assumption) ?_
            try simp only [Act.put, List.setIfInBounds_toArray, List.set_cons_zero, List.set_cons_succ]
            refine tk15 (.agg (cmdA kc)) (by kernel_rfl) (by kernel_rfl) (by kernel_rfl) (fun _ _ _ h => h) rfl (fun w hSw => by (try dsimp only at hSw); obtain ⟨s0, s1, s2⟩ := hSw; have d0 : w.cell? ⟨C2, 0, none⟩ = some (.int .i64 kc.kind) := (by simp [World.cell?, s2]); have d1 : w.cell? ⟨C2, 1, none⟩ = some (.int .i64 kc.session) := (by simp [World.cell?, s2]); have d2 : w.cell? ⟨C2, 2, none⟩ = some (.int .i64 kc.seq) := (by simp [World.cell?, s2]); have d3 : w.cell? ⟨C2, 3, none⟩ = some (.string kc.name) := (by simp [World.cell?, s2]); have d4 : w.cell? ⟨C2, 4, none⟩ = some (.int .i64 kc.n) := (by simp [World.cell?, s2]); go_simp) (by assumption) ?_
            try simp only [Act.put, List.setIfInBounds_toArray, List.set_cons_zero, List.set_cons_succ]
            refine tk16 (.bool false) (by kernel_rfl) (by kernel_rfl) (by kernel_rfl) (fun _ _ _ h => h) rfl (fun w hSw => by (try dsimp only at hSw); obtain ⟨s0, s1, s2⟩ := hSw; go_simp) (by assumption) ?_
            try simp only [Act.put, List.setIfInBounds_toArray, List.set_cons_zero, List.set_cons_succ]
            refine tk17 (.bool false) (by kernel_rfl) (by kernel_rfl) (by kernel_rfl) (fun _ _ _ h => h) rfl (fun w hSw => by (try dsimp only at hSw); obtain ⟨s0, s1, s2⟩ := hSw; go_simp) (by assumption) ?_
            try simp only [Act.put, List.setIfInBounds_toArray, List.set_cons_zero, List.set_cons_succ]
            refine tk18 (.bool false) (by kernel_rfl) (by kernel_rfl) (by kernel_rfl) (fun _ _ _ h => h) rfl (fun w hSw => by (try dsimp only at hSw); obtain ⟨s0, s1, s2⟩ := hSw; go_simp) (by assumption) ?_
            try simp only [Act.put, List.setIfInBounds_toArray, List.set_cons_zero, List.set_cons_succ]
            refine tk19 (.bool kok) (by kernel_rfl) (by kernel_rfl) (by kernel_rfl) (fun _ _ _ h => h) rfl (fun w hSw => by (try dsimp only at hSw); obtain ⟨s0, s1, s2⟩ := hSw; go_simp) (by assumption) ?_
            try simp only [Act.put, List.setIfInBounds_toArray, List.set_cons_zero, List.set_cons_succ]
            refine tk20 (.bool kok) (by kernel_rfl) (by kernel_rfl) (by kernel_rfl) (fun _ _ _ h => h) rfl (fun w hSw => by (try dsimp only at hSw); obtain ⟨s0, s1, s2⟩ := hSw; go_simp) (by assumption) ?_
            try simp only [Act.put, List.setIfInBounds_toArray, List.set_cons_zero, List.set_cons_succ]
            refine tk21 (.bool false) (by kernel_rfl) (by kernel_rfl) (by kernel_rfl) (fun _ _ _ h => h) rfl (fun w hSw => by (try dsimp only at hSw); obtain ⟨s0, s1, s2⟩ := hSw; go_simp) (by assumption) ?_
            try simp only [Act.put, List.setIfInBounds_toArray, List.set_cons_zero, List.set_cons_succ]
            refine tk22 (.bool false) (by kernel_rfl) (by kernel_rfl) (by kernel_rfl) (fun _ _ _ h => h) rfl (fun w hSw => by (try dsimp only at hSw); obtain ⟨s0, s1, s2⟩ := hSw; go_simp) (by assumption) ?_
            try simp only [Act.put, List.setIfInBounds_toArray, List.set_cons_zero, List.set_cons_succ]
            refine wpAnyH_done (by kernel_rfl) ?_ _
            have IX : Hid (Twin w y9 X Y QT (k + 1)) := (JT.out.fresh B9.out).twin (Nat.le_refl _)
            clear s0 s1 s2 v9
            go_wp2
            go_roundw
            case rel => exact ⟨k + 1, QT, HKL.out.1, HKL.out.2, by go_num, IX.out⟩
            case measure => have := HKL.out.1; simp [intOf]; omega
          · have q1 : (x.kind == 1) = false := by simpa using k1
            by_cases k2 : x.kind = 2
            · have q2 : (x.kind == 2) = true := by simpa using k2
              obtain ⟨ET, hET⟩ : ∃ E, E = sinL q x.n x.most := ⟨_, rfl⟩
              have HA : Hid (Calls Try.prog 13 #[.pointer (some ⟨X, 0, none⟩), .int .i64 x.n, .int .i64 x.most] y0.drew (SiPost y0.drew S1 ET)) := by
                rw [hET]
                exact since_any J0.out.drew.lx (by have := HKL.out; omega) HX.out.n
              have HB : Hid (∀ y, TwI w y X Y DB S1 S3 q q k x → Calls Try.prog 14 #[.pointer (some ⟨Y, 0, none⟩), .int .i64 x.n, .int .i64 x.most] y (SiPost y S3 ET)) := fun y h => by
                rw [hET]
                obtain ⟨u, hu⟩ := h.ly.ex
                exact rsince_any hu J0.out.lx.ok (by have := HKL.out; omega) HX.out.n.1 x.most
              have HLT : Hid (ET.length ≤ 9223372036854775807) := by
                have := sin_len J0.out.lx.ok x.n x.most
                rw [← hET] at this
                exact (Nat.le_trans this (by have := HKL.out; omega) : ET.length ≤ 9223372036854775807)
              clear hET
              go_upto_region 17 with fail
              refine wp_region_held_drew (S := (fun y : World => LdAt y DB x)) (by kernel_rfl) ?_ (fun hHeld0 => ?_)
              · exact J0.out.db
              refine tk0 (.pointer (some ⟨X, 0, none⟩)) (by kernel_rfl) (by kernel_rfl) (by kernel_rfl) (fun _ _ _ h => h) rfl (fun w hSw => by (try dsimp only at hSw); go_simp) (by assumption) ?_
              try simp only [Act.put, List.setIfInBounds_toArray, List.set_cons_zero, List.set_cons_succ]
              refine tk1 (.pointer (some ⟨DB, 1, none⟩)) (by kernel_rfl) (by kernel_rfl) (by kernel_rfl) (fun _ _ _ h => h) rfl (fun w hSw => by (try dsimp only at hSw); go_simp) (by assumption) ?_
              try simp only [Act.put, List.setIfInBounds_toArray, List.set_cons_zero, List.set_cons_succ]
              refine tk2 (.int .i64 x.n) (by kernel_rfl) (by kernel_rfl) (by kernel_rfl) (fun _ _ _ h => h) rfl (fun w hSw => by (try dsimp only at hSw); have z1 := hSw.box 1 _ rfl; go_simp) (by assumption) ?_
              try simp only [Act.put, List.setIfInBounds_toArray, List.set_cons_zero, List.set_cons_succ]
              refine tk3 (.pointer (some ⟨DB, 2, none⟩)) (by kernel_rfl) (by kernel_rfl) (by kernel_rfl) (fun _ _ _ h => h) rfl (fun w hSw => by (try dsimp only at hSw); go_simp) (by assumption) ?_
              try simp only [Act.put, List.setIfInBounds_toArray, List.set_cons_zero, List.set_cons_succ]
              refine tk4 (.int .i64 x.most) (by kernel_rfl) (by kernel_rfl) (by kernel_rfl) (fun _ _ _ h => h) rfl (fun w hSw => by (try dsimp only at hSw); have z2 := hSw.box 2 _ rfl; go_simp) (by assumption) ?_
              try simp only [Act.put, List.setIfInBounds_toArray, List.set_cons_zero, List.set_cons_succ]
              refine tk6 (.pointer (some ⟨Y, 0, none⟩)) (by kernel_rfl) (by kernel_rfl) (by kernel_rfl) (fun _ _ _ h => h) rfl (fun w hSw => by (try dsimp only at hSw); go_simp) (by assumption) ?_
              try simp only [Act.put, List.setIfInBounds_toArray, List.set_cons_zero, List.set_cons_succ]
              refine tk7 (.pointer (some ⟨DB, 1, none⟩)) (by kernel_rfl) (by kernel_rfl) (by kernel_rfl) (fun _ _ _ h => h) rfl (fun w hSw => by (try dsimp only at hSw); go_simp) (by assumption) ?_
              try simp only [Act.put, List.setIfInBounds_toArray, List.set_cons_zero, List.set_cons_succ]
              refine tk8 (.int .i64 x.n) (by kernel_rfl) (by kernel_rfl) (by kernel_rfl) (fun _ _ _ h => h) rfl (fun w hSw => by (try dsimp only at hSw); have z1 := hSw.box 1 _ rfl; go_simp) (by assumption) ?_
              try simp only [Act.put, List.setIfInBounds_toArray, List.set_cons_zero, List.set_cons_succ]
              refine tk9 (.pointer (some ⟨DB, 2, none⟩)) (by kernel_rfl) (by kernel_rfl) (by kernel_rfl) (fun _ _ _ h => h) rfl (fun w hSw => by (try dsimp only at hSw); go_simp) (by assumption) ?_
              try simp only [Act.put, List.setIfInBounds_toArray, List.set_cons_zero, List.set_cons_succ]
              refine tk10 (.int .i64 x.most) (by kernel_rfl) (by kernel_rfl) (by kernel_rfl) (fun _ _ _ h => h) rfl (fun w hSw => by (try dsimp only at hSw); have z2 := hSw.box 2 _ rfl; go_simp) (by assumption) ?_
              try simp only [Act.put, List.setIfInBounds_toArray, List.set_cons_zero, List.set_cons_succ]
              refine cl5 (by kernel_rfl) rfl (fun K hK => ?_)
              go_simp
              go_at_call 13
              refine Calls.mono HA.out ?_
              rintro r y2 ⟨u2, e2, b2, a2⟩
              subst e2
              obtain ⟨qa, qc, hq2⟩ := a2.row.form
              subst hq2
              have J2 : Hid (TwI w y2 X Y DB S1 S3 q q k x) := J0.out.drew.fresh b2
              have A2 : Hid (RowAt enC y2 (.slice qa ET.length qc) ET) := a2.row
              have d2 := J2.out.db
              clear b2 a2
              refine hK.out _ _ ?_ (fun hHeld => ?_)
              · exact d2
              clear hK K
              refine cl11 (by kernel_rfl) rfl (fun K hK => ?_)
              have HB2 : Hid _ := HB.out y2 J2.out
              go_simp
              go_at_call 14
              refine Calls.mono HB2.out ?_
              rintro r y4 ⟨u4, e4, b4, a4⟩
              subst e4
              obtain ⟨qb, qd, hq4⟩ := a4.row.form
              subst hq4
              have JT : Hid (TwI w y4 X Y DB S1 S3 q q (k + 1) x) := (show Hid _ from (let h := J2.out.fresh b4; ⟨h.lx.mono (Nat.le_succ _), h.ly, h.ap, h.db, h.nx, h.ny, h.b⟩ : TwI w y4 X Y DB S1 S3 q q (k + 1) x))
              have RAT : Hid (RowAt enC y4 (.slice qa ET.length qc) ET) := A2.out.fresh b4
              have RBT : Hid (RowAt enC y4 (.slice qb ET.length qd) ET) := a4.row
              have d4 := JT.out.db
              clear b4 a4
              refine hK.out _ _ ?_ (fun hHeld => ?_)
              · exact d4
              clear hK K
              refine tk12 (.slice qa ET.length qc) (by kernel_rfl) (by kernel_rfl) (by kernel_rfl) (fun _ _ _ h => h) rfl (fun w hSw => by (try dsimp only at hSw); go_simp) (by assumption) ?_
              try simp only [Act.put, List.setIfInBounds_toArray, List.set_cons_zero, List.set_cons_succ]
              refine tk13 (.slice qb ET.length qd) (by kernel_rfl) (by kernel_rfl) (by kernel_rfl) (fun _ _ _ h => h) rfl (fun w hSw => by (try dsimp only at hSw); go_simp) (by assumption) ?_
              try simp only [Act.put, List.setIfInBounds_toArray, List.set_cons_zero, List.set_cons_succ]
              refine wpAnyH_done (by kernel_rfl) ?_ _
              clear d2 d4 z0 HA HB HB2 J0 J2 A2
              go_upto_region 18 with fail
              have hin : inI x.e.slot := HX.out.slot
              obtain ⟨kc, hkc⟩ : ∃ c, c = (knoL q x.e.slot).1 := ⟨_, rfl⟩
              obtain ⟨kok, hkok⟩ : ∃ o, o = (knoL q x.e.slot).2 := ⟨_, rfl⟩
              have hkno : knoL q x.e.slot = (kc, kok) := by rw [hkc, hkok]
              have HK1 : Hid (Calls Try.prog 17 #[.pointer (some ⟨X, 0, none⟩), .int .i64 x.e.slot] y4 (KnPost y4 (kc, kok))) := by
                have := known_any JT.out.lx hin
                rw [hkno] at this
                exact this
              have HK2 : Hid (∀ y, Below y4.heap.size y4 y → Calls Try.prog 18 #[.pointer (some ⟨Y, 0, none⟩), .int .i64 x.e.slot] y (KnPost y (kc, kok))) := fun y b => by
                have hJ := JT.out.fresh b
                obtain ⟨u, hu⟩ := hJ.ly.ex
                have := rknown_any hu (by have := hJ.lx.ok.ln; have := HMN.out; omega) x.e.slot
                rw [hkno] at this
                exact this
              have m3 := JT.out.db.box 3 (.int .i64 x.e.slot) rfl
              clear hin hkc hkok hkno
              go_upto_region 19 with (go_at_call 17; refine Calls.mono HK1.out ?_; rintro r y5 ⟨⟨rfl, b5⟩⟩; have B5 : Hid _ := b5; clear b5)
              obtain ⟨y6, hy6⟩ : ∃ y, y = y5.alloc (.cells (cmdA kc) 28) := ⟨_, rfl⟩
              obtain ⟨C1, hC1⟩ : ∃ C, C = y5.heap.size := ⟨_, rfl⟩
              have b6 : Below y4.heap.size y4 y6 := by rw [hy6]; exact B5.out.trans (((Below.refl _ y5).alloc (Nat.le_refl _) _).mono B5.out.size)
              have g6 : y6.heap[C1]? = some (.cells (cmdA kc) 28 (0, 0)) := by rw [hy6, hC1]; exact heap_alloc_new y5 _
              have HY6 : Hid (y5.alloc (.cells (cmdA kc) 28) = y6) := hy6.symm
              have HC1 : Hid (y5.heap.size = C1) := hC1.symm
              have B6 : Hid _ := b6
              have G6 : Hid _ := g6
              clear hy6 hC1 b6 g6 m3
              rw [HY6.out, HC1.out]
              have m3 := (JT.out.fresh B6.out).db.box 3 (.int .i64 x.e.slot) rfl
              go_upto_region 20 with (go_at_call 18; refine Calls.mono (HK2.out _ B6.out) ?_; rintro r y7 ⟨⟨rfl, b7⟩⟩; have B7 : Hid _ := b7; clear b7)
              obtain ⟨y8, hy8⟩ : ∃ y, y = y7.alloc (.cells (cmdA kc) 28) := ⟨_, rfl⟩
              obtain ⟨C2, hC2⟩ : ∃ C, C = y7.heap.size := ⟨_, rfl⟩
              have b8 : Below y6.heap.size y6 y8 := by rw [hy8]; exact B7.out.trans (((Below.refl _ y7).alloc (Nat.le_refl _) _).mono B7.out.size)
              have g8 : y8.heap[C2]? = some (.cells (cmdA kc) 28 (0, 0)) := by rw [hy8, hC2]; exact heap_alloc_new y7 _
              have g7 : y8.heap[C1]? = some (.cells (cmdA kc) 28 (0, 0)) := (b8.block _ (lt_of_block G6.out)).trans G6.out
              have B8 : Hid (Below y4.heap.size y4 y8) := bmm B6.out B6.out.size b8
              have HY8 : Hid (y7.alloc (.cells (cmdA kc) 28) = y8) := hy8.symm
              have HC2 : Hid (y7.heap.size = C2) := hC2.symm
              have HS : Hid (∀ y, Below y8.heap.size y8 y → y.cell? ⟨Y, 0, none⟩ = some (.int .i64 q.ap) ∧ y.heap[C1]? = some (.cells (cmdA kc) 28 (0, 0)) ∧ y.heap[C2]? = some (.cells (cmdA kc) 28 (0, 0))) := fun y b => ⟨by
                obtain ⟨u, hu⟩ := (JT.out.fresh (bmm B8.out B8.out.size b)).ly.ex
                exact hu.c0, (b.block _ (lt_of_block g7)).trans g7, (b.block _ (lt_of_block g8)).trans g8⟩
              clear hy8 hC2 b8 g8 g7 m3
              rw [HY8.out, HC2.out]
              have HEn : Hid (∀ y, Below y4.heap.size y4 y → Calls Try.prog 19 #[.slice qa ET.length qc, .slice qb ET.length qd] y fun e w' => e = .returned (.bool true) ∧ Below y.heap.size y w') := fun y b => ents_same y _ _ ET (RAT.out.fresh b) (RBT.out.fresh b) HLT.out
              have HAp : Hid (∀ y, Below y4.heap.size y4 y → Calls Try.prog 20 #[.pointer (some ⟨X, 0, none⟩)] y fun e w' => e = .returned (.int .i64 q.ap) ∧ w' = y) := fun y b => applied_any (JT.out.fresh b).lx
              have qn := cmd_ne kc
              obtain ⟨s0, s1, s2⟩ := HS.out y8 (Below.refl _ _)
              obtain ⟨AP, hAP⟩ : ∃ a, a = q.ap := ⟨_, rfl⟩
              rw [← hAP] at s0 HAp HS
              have t5 : (AP == AP) = true := by simp
              have t6 : (kok == kok) = true := by simp
              clear hAP
              refine wp_region_held_drew (S := (fun y : World => y.cell? ⟨Y, 0, none⟩ = some (.int .i64 AP) ∧ y.heap[C1]? = some (.cells (cmdA kc) 28 (0, 0)) ∧ y.heap[C2]? = some (.cells (cmdA kc) 28 (0, 0)))) (by kernel_rfl) ?_ (fun hHeld0 => ?_)
              · exact HS.out y8 (Below.refl _ _)
              refine tk0 (.slice qa ET.length qc) (by kernel_rfl) (by kernel_rfl) (by kernel_rfl) (fun _ _ _ h => h) rfl (fun w hSw => by (try dsimp only at hSw); obtain ⟨s0, s1, s2⟩ := hSw; go_simp) (by assumption) ?_
              try simp only [Act.put, List.setIfInBounds_toArray, List.set_cons_zero, List.set_cons_succ]
              refine tk1 (.slice qb ET.length qd) (by kernel_rfl) (by kernel_rfl) (by kernel_rfl) (fun _ _ _ h => h) rfl (fun w hSw => by (try dsimp only at hSw); obtain ⟨s0, s1, s2⟩ := hSw; go_simp) (by assumption) ?_
              try simp only [Act.put, List.setIfInBounds_toArray, List.set_cons_zero, List.set_cons_succ]
              refine cl2 (by kernel_rfl) rfl (fun K hK => ?_)
              go_simp
              go_at_call 19
              refine Calls.mono (HEn.out _ B8.out.drew) ?_
              rintro r y9 ⟨rfl, b9⟩
              have v9 := HS.out y9 (undrew b9)
              have B9 : Hid (Below y4.heap.size y4 y9) := bmm B8.out B8.out.size (undrew b9)
              clear b9
              refine hK.out _ _ ?_ (fun hHeld => ?_)
              · exact v9
              clear hK K
              try simp only [Act.put, List.setIfInBounds_toArray, List.set_cons_zero, List.set_cons_succ]
              refine tk3 (.bool false) (by kernel_rfl) (by kernel_rfl) (by kernel_rfl) (fun _ _ _ h => h) rfl (fun w hSw => by (try dsimp only at hSw); obtain ⟨s0, s1, s2⟩ := hSw; go_simp) (by assumption) ?_
              try simp only [Act.put, List.setIfInBounds_toArray, List.set_cons_zero, List.set_cons_succ]
              refine tk4 (.bool false) (by kernel_rfl) (by kernel_rfl) (by kernel_rfl) (fun _ _ _ h => h) rfl (fun w hSw => by (try dsimp only at hSw); obtain ⟨s0, s1, s2⟩ := hSw; go_simp) (by assumption) ?_
              try simp only [Act.put, List.setIfInBounds_toArray, List.set_cons_zero, List.set_cons_succ]
              refine tk5 (.pointer (some ⟨X, 0, none⟩)) (by kernel_rfl) (by kernel_rfl) (by kernel_rfl) (fun _ _ _ h => h) rfl (fun w hSw => by (try dsimp only at hSw); obtain ⟨s0, s1, s2⟩ := hSw; go_simp) (by assumption) ?_
              try simp only [Act.put, List.setIfInBounds_toArray, List.set_cons_zero, List.set_cons_succ]
              refine tk7 (.pointer (some ⟨Y, 0, none⟩)) (by kernel_rfl) (by kernel_rfl) (by kernel_rfl) (fun _ _ _ h => h) rfl (fun w hSw => by (try dsimp only at hSw); obtain ⟨s0, s1, s2⟩ := hSw; go_simp) (by assumption) ?_
              try simp only [Act.put, List.setIfInBounds_toArray, List.set_cons_zero, List.set_cons_succ]
              refine tk8 (.pointer (some ⟨Y, 0, none⟩)) (by kernel_rfl) (by kernel_rfl) (by kernel_rfl) (fun _ _ _ h => h) rfl (fun w hSw => by (try dsimp only at hSw); obtain ⟨s0, s1, s2⟩ := hSw; go_simp) (by assumption) ?_
              try simp only [Act.put, List.setIfInBounds_toArray, List.set_cons_zero, List.set_cons_succ]
              refine tk9 (.pointer (some ⟨Y, 0, none⟩)) (by kernel_rfl) (by kernel_rfl) (by kernel_rfl) (fun _ _ _ h => h) rfl (fun w hSw => by (try dsimp only at hSw); obtain ⟨s0, s1, s2⟩ := hSw; go_simp) (by assumption) ?_
              try simp only [Act.put, List.setIfInBounds_toArray, List.set_cons_zero, List.set_cons_succ]
              refine tk10 (.int .i64 AP) (by kernel_rfl) (by kernel_rfl) (by kernel_rfl) (fun _ _ _ h => h) rfl (fun w hSw => by (try dsimp only at hSw); obtain ⟨s0, s1, s2⟩ := hSw; go_simp) (by assumption) ?_
              try simp only [Act.put, List.setIfInBounds_toArray, List.set_cons_zero, List.set_cons_succ]
              refine cl6 (by kernel_rfl) rfl (fun K hK => ?_)
              go_simp
              go_at_call 20
              refine Calls.mono (HAp.out _ B9.out) ?_
              rintro r y10 ⟨rfl, e10⟩
              rw [e10]
              clear e10
              refine hK.out _ _ ?_ (fun hHeld => ?_)
              · exact v9
              clear hK K
              try simp only [Act.put, List.setIfInBounds_toArray, List.set_cons_zero, List.set_cons_succ]
              refine tk11 (.bool false) (by kernel_rfl) (by kernel_rfl) (by kernel_rfl) (fun _ _ _ h => h) rfl (fun w hSw => by (try dsimp only at hSw); obtain ⟨s0, s1, s2⟩ := hSw; go_simp) (by assumption) ?_
              try simp only [Act.put, List.setIfInBounds_toArray, List.set_cons_zero, List.set_cons_succ]
              refine tk12 (.bool false) (by kernel_rfl) (by kernel_rfl) (by kernel_rfl) (fun _ _ _ h => h) rfl (fun w hSw => by (try dsimp only at hSw); obtain ⟨s0, s1, s2⟩ := hSw; go_simp) (by assumption) ?_
              try simp only [Act.put, List.setIfInBounds_toArray, List.set_cons_zero, List.set_cons_succ]
              refine tk13 (.bool false) (by kernel_rfl) (by kernel_rfl) (by kernel_rfl) (fun _ _ _ h => h) rfl (fun w hSw => by (try dsimp only at hSw); obtain ⟨s0, s1, s2⟩ := hSw; go_simp) (by assumption) ?_
              try simp only [Act.put, List.setIfInBounds_toArray, List.set_cons_zero, List.set_cons_succ]
              refine tk14 (.agg (cmdA kc)) (by kernel_rfl) (by kernel_rfl) (by kernel_rfl) (fun _ _ _ h => h) rfl (fun w hSw => by (try dsimp only at hSw); obtain ⟨s0, s1, s2⟩ := hSw; have d0 : w.cell? ⟨C1, 0, none⟩ = some (.int .i64 kc.kind) := (by simp [World.cell?, s1]); have d1 : w.cell? ⟨C1, 1, none⟩ = some (.int .i64 kc.session) := (by simp [World.cell?, s1]); have d2 : w.cell? ⟨C1, 2, none⟩ = some (.int .i64 kc.seq) := (by simp [World.cell?, s1]); have d3 : w.cell? ⟨C1, 3, none⟩ = some (.string kc.name) := (by simp [World.cell?, s1]); have d4 : w.cell? ⟨C1, 4, none⟩ = some (.int .i64 kc.n) := (by simp [World.cell?, s1]); go_simp) (by assumption) ?_
              try simp only [Act.put, List.setIfInBounds_toArray, List.set_cons_zero, List.set_cons_succ]
              refine tk15 (.agg (cmdA kc)) (by kernel_rfl) (by kernel_rfl) (by kernel_rfl) (fun _ _ _ h => h) rfl (fun w hSw => by (try dsimp only at hSw); obtain ⟨s0, s1, s2⟩ := hSw; have d0 : w.cell? ⟨C2, 0, none⟩ = some (.int .i64 kc.kind) := (by simp [World.cell?, s2]); have d1 : w.cell? ⟨C2, 1, none⟩ = some (.int .i64 kc.session) := (by simp [World.cell?, s2]); have d2 : w.cell? ⟨C2, 2, none⟩ = some (.int .i64 kc.seq) := (by simp [World.cell?, s2]); have d3 : w.cell? ⟨C2, 3, none⟩ = some (.string kc.name) := (by simp [World.cell?, s2]); have d4 : w.cell? ⟨C2, 4, none⟩ = some (.int .i64 kc.n) := (by simp [World.cell?, s2]); go_simp) (by assumption) ?_
              try simp only [Act.put, List.setIfInBounds_toArray, List.set_cons_zero, List.set_cons_succ]
              refine tk16 (.bool false) (by kernel_rfl) (by kernel_rfl) (by kernel_rfl) (fun _ _ _ h => h) rfl (fun w hSw => by (try dsimp only at hSw); obtain ⟨s0, s1, s2⟩ := hSw; go_simp) (by assumption) ?_
              try simp only [Act.put, List.setIfInBounds_toArray, List.set_cons_zero, List.set_cons_succ]
              refine tk17 (.bool false) (by kernel_rfl) (by kernel_rfl) (by kernel_rfl) (fun _ _ _ h => h) rfl (fun w hSw => by (try dsimp only at hSw); obtain ⟨s0, s1, s2⟩ := hSw; go_simp) (by assumption) ?_
              try simp only [Act.put, List.setIfInBounds_toArray, List.set_cons_zero, List.set_cons_succ]
              refine tk18 (.bool false) (by kernel_rfl) (by kernel_rfl) (by kernel_rfl) (fun _ _ _ h => h) rfl (fun w hSw => by (try dsimp only at hSw); obtain ⟨s0, s1, s2⟩ := hSw; go_simp) (by assumption) ?_
              try simp only [Act.put, List.setIfInBounds_toArray, List.set_cons_zero, List.set_cons_succ]
              refine tk19 (.bool kok) (by kernel_rfl) (by kernel_rfl) (by kernel_rfl) (fun _ _ _ h => h) rfl (fun w hSw => by (try dsimp only at hSw); obtain ⟨s0, s1, s2⟩ := hSw; go_simp) (by assumption) ?_
              try simp only [Act.put, List.setIfInBounds_toArray, List.set_cons_zero, List.set_cons_succ]
              refine tk20 (.bool kok) (by kernel_rfl) (by kernel_rfl) (by kernel_rfl) (fun _ _ _ h => h) rfl (fun w hSw => by (try dsimp only at hSw); obtain ⟨s0, s1, s2⟩ := hSw; go_simp) (by assumption) ?_
              try simp only [Act.put, List.setIfInBounds_toArray, List.set_cons_zero, List.set_cons_succ]
              refine tk21 (.bool false) (by kernel_rfl) (by kernel_rfl) (by kernel_rfl) (fun _ _ _ h => h) rfl (fun w hSw => by (try dsimp only at hSw); obtain ⟨s0, s1, s2⟩ := hSw; go_simp) (by assumption) ?_
              try simp only [Act.put, List.setIfInBounds_toArray, List.set_cons_zero, List.set_cons_succ]
              refine tk22 (.bool false) (by kernel_rfl) (by kernel_rfl) (by kernel_rfl) (fun _ _ _ h => h) rfl (fun w hSw => by (try dsimp only at hSw); obtain ⟨s0, s1, s2⟩ := hSw; go_simp) (by assumption) ?_
              try simp only [Act.put, List.setIfInBounds_toArray, List.set_cons_zero, List.set_cons_succ]
              refine wpAnyH_done (by kernel_rfl) ?_ _
              have IX : Hid (Twin w y9 X Y q (k + 1)) := (JT.out.fresh B9.out).twin (Nat.le_refl _)
              clear s0 s1 s2 v9
              go_wp2
              go_roundw
              case rel => exact ⟨k + 1, q, HKL.out.1, HKL.out.2, by go_num, IX.out⟩
              case measure => have := HKL.out.1; simp [intOf]; omega
            · have q2 : (x.kind == 2) = false := by simpa using k2
              have HA : Hid (Calls Try.prog 15 #[.pointer (some ⟨X, 0, none⟩), .int .i64 x.n] y0 (ForPost y0 w.heap.size X S1 (forL q x.n) k)) := forget_any J0.out.lx x.n
              obtain ⟨QT, hQT⟩ : ∃ Q, Q = forL q x.n := ⟨_, rfl⟩
              rw [← hQT] at HA
              have HB : Hid (∀ y, TwI w y X Y DB S1 S3 QT q k x → Calls Try.prog 16 #[.pointer (some ⟨Y, 0, none⟩), .int .i64 x.n] y (RdPost y w.heap.size Y S3 QT)) := fun y h => by
                rw [hQT]
                obtain ⟨u, hu⟩ := h.ly.ex
                exact rforget_any hu (by have := J0.out.lx.ok.ln; have := HKL.out; omega) x.n
              clear hQT
              have z1 := J0.out.db.box 1 (.int .i64 x.n) rfl
              go_upto_region 11 with (go_at_call 15; refine Calls.mono HA.out ?_; rintro r y2 ⟨rfl, p2, k2⟩; have J2 : Hid (TwI w y2 X Y DB S1 S3 QT q k x) := J0.out.stepX p2 k2; clear p2 k2)
              clear z1
              have z1 := J2.out.db.box 1 (.int .i64 x.n) rfl
              have HB2 : Hid _ := HB.out y2 J2.out
              go_upto_region 18 with (go_at_call 16; refine Calls.mono HB2.out ?_; rintro r y4 ⟨S4, rfl, p4, k4⟩; have J4 := J2.out.stepY p4 k4; have JT : Hid (TwI w y4 X Y DB S1 S4 QT QT (k + 1) x) := (show Hid _ from (⟨J4.lx.mono (Nat.le_succ _), J4.ly, J4.ap, J4.db, J4.nx, J4.ny, J4.b⟩ : TwI w y4 X Y DB S1 S4 QT QT (k + 1) x)); clear p4 k4 J4)
              have RAT : Hid (RowAt enC y4 (.slice none 0 0) []) := RowAt.nil y4
              have RBT : Hid (RowAt enC y4 (.slice none 0 0) []) := RowAt.nil y4
              have HLT : Hid (([] : List En).length ≤ 9223372036854775807) := (Nat.zero_le _ : ([] : List En).length ≤ 9223372036854775807)
              clear z0 z1 HA HB HB2 J0 J2
              have hin : inI x.e.slot := HX.out.slot
              obtain ⟨kc, hkc⟩ : ∃ c, c = (knoL QT x.e.slot).1 := ⟨_, rfl⟩
              obtain ⟨kok, hkok⟩ : ∃ o, o = (knoL QT x.e.slot).2 := ⟨_, rfl⟩
              have hkno : knoL QT x.e.slot = (kc, kok) := by rw [hkc, hkok]
              have HK1 : Hid (Calls Try.prog 17 #[.pointer (some ⟨X, 0, none⟩), .int .i64 x.e.slot] y4 (KnPost y4 (kc, kok))) := by
                have := known_any JT.out.lx hin
                rw [hkno] at this
                exact this
              have HK2 : Hid (∀ y, Below y4.heap.size y4 y → Calls Try.prog 18 #[.pointer (some ⟨Y, 0, none⟩), .int .i64 x.e.slot] y (KnPost y (kc, kok))) := fun y b => by
                have hJ := JT.out.fresh b
                obtain ⟨u, hu⟩ := hJ.ly.ex
                have := rknown_any hu (by have := hJ.lx.ok.ln; have := HMN.out; omega) x.e.slot
                rw [hkno] at this
                exact this
              have m3 := JT.out.db.box 3 (.int .i64 x.e.slot) rfl
              clear hin hkc hkok hkno
              go_upto_region 19 with (go_at_call 17; refine Calls.mono HK1.out ?_; rintro r y5 ⟨⟨rfl, b5⟩⟩; have B5 : Hid _ := b5; clear b5)
              obtain ⟨y6, hy6⟩ : ∃ y, y = y5.alloc (.cells (cmdA kc) 28) := ⟨_, rfl⟩
              obtain ⟨C1, hC1⟩ : ∃ C, C = y5.heap.size := ⟨_, rfl⟩
              have b6 : Below y4.heap.size y4 y6 := by rw [hy6]; exact B5.out.trans (((Below.refl _ y5).alloc (Nat.le_refl _) _).mono B5.out.size)
              have g6 : y6.heap[C1]? = some (.cells (cmdA kc) 28 (0, 0)) := by rw [hy6, hC1]; exact heap_alloc_new y5 _
              have HY6 : Hid (y5.alloc (.cells (cmdA kc) 28) = y6) := hy6.symm
              have HC1 : Hid (y5.heap.size = C1) := hC1.symm
              have B6 : Hid _ := b6
              have G6 : Hid _ := g6
              clear hy6 hC1 b6 g6 m3
              rw [HY6.out, HC1.out]
              have m3 := (JT.out.fresh B6.out).db.box 3 (.int .i64 x.e.slot) rfl
              go_upto_region 20 with (go_at_call 18; refine Calls.mono (HK2.out _ B6.out) ?_; rintro r y7 ⟨⟨rfl, b7⟩⟩; have B7 : Hid _ := b7; clear b7)
              obtain ⟨y8, hy8⟩ : ∃ y, y = y7.alloc (.cells (cmdA kc) 28) := ⟨_, rfl⟩
              obtain ⟨C2, hC2⟩ : ∃ C, C = y7.heap.size := ⟨_, rfl⟩
              have b8 : Below y6.heap.size y6 y8 := by rw [hy8]; exact B7.out.trans (((Below.refl _ y7).alloc (Nat.le_refl _) _).mono B7.out.size)
              have g8 : y8.heap[C2]? = some (.cells (cmdA kc) 28 (0, 0)) := by rw [hy8, hC2]; exact heap_alloc_new y7 _
              have g7 : y8.heap[C1]? = some (.cells (cmdA kc) 28 (0, 0)) := (b8.block _ (lt_of_block G6.out)).trans G6.out
              have B8 : Hid (Below y4.heap.size y4 y8) := bmm B6.out B6.out.size b8
              have HY8 : Hid (y7.alloc (.cells (cmdA kc) 28) = y8) := hy8.symm
              have HC2 : Hid (y7.heap.size = C2) := hC2.symm
              have HS : Hid (∀ y, Below y8.heap.size y8 y → y.cell? ⟨Y, 0, none⟩ = some (.int .i64 QT.ap) ∧ y.heap[C1]? = some (.cells (cmdA kc) 28 (0, 0)) ∧ y.heap[C2]? = some (.cells (cmdA kc) 28 (0, 0))) := fun y b => ⟨by
                obtain ⟨u, hu⟩ := (JT.out.fresh (bmm B8.out B8.out.size b)).ly.ex
                exact hu.c0, (b.block _ (lt_of_block g7)).trans g7, (b.block _ (lt_of_block g8)).trans g8⟩
              clear hy8 hC2 b8 g8 g7 m3
              rw [HY8.out, HC2.out]
              have HEn : Hid (∀ y, Below y4.heap.size y4 y → Calls Try.prog 19 #[.slice none 0 0, .slice none 0 0] y fun e w' => e = .returned (.bool true) ∧ Below y.heap.size y w') := fun y b => ents_same y _ _ [] (RAT.out.fresh b) (RBT.out.fresh b) HLT.out
              have HAp : Hid (∀ y, Below y4.heap.size y4 y → Calls Try.prog 20 #[.pointer (some ⟨X, 0, none⟩)] y fun e w' => e = .returned (.int .i64 QT.ap) ∧ w' = y) := fun y b => applied_any (JT.out.fresh b).lx
              have qn := cmd_ne kc
              obtain ⟨s0, s1, s2⟩ := HS.out y8 (Below.refl _ _)
              obtain ⟨AP, hAP⟩ : ∃ a, a = QT.ap := ⟨_, rfl⟩
              rw [← hAP] at s0 HAp HS
              have t5 : (AP == AP) = true := by simp
              have t6 : (kok == kok) = true := by simp
              clear hAP
              refine wp_region_held_drew (S := (fun y : World => y.cell? ⟨Y, 0, none⟩ = some (.int .i64 AP) ∧ y.heap[C1]? = some (.cells (cmdA kc) 28 (0, 0)) ∧ y.heap[C2]? = some (.cells (cmdA kc) 28 (0, 0)))) (by kernel_rfl) ?_ (fun hHeld0 => ?_)
              · exact HS.out y8 (Below.refl _ _)
              refine tk0 (.slice none 0 0) (by kernel_rfl) (by kernel_rfl) (by kernel_rfl) (fun _ _ _ h => h) rfl (fun w hSw => by (try dsimp only at hSw); obtain ⟨s0, s1, s2⟩ := hSw; go_simp) (by assumption) ?_
              try simp only [Act.put, List.setIfInBounds_toArray, List.set_cons_zero, List.set_cons_succ]
              refine tk1 (.slice none 0 0) (by kernel_rfl) (by kernel_rfl) (by kernel_rfl) (fun _ _ _ h => h) rfl (fun w hSw => by (try dsimp only at hSw); obtain ⟨s0, s1, s2⟩ := hSw; go_simp) (by assumption) ?_
              try simp only [Act.put, List.setIfInBounds_toArray, List.set_cons_zero, List.set_cons_succ]
              refine cl2 (by kernel_rfl) rfl (fun K hK => ?_)
              go_simp
              go_at_call 19
              refine Calls.mono (HEn.out _ B8.out.drew) ?_
              rintro r y9 ⟨rfl, b9⟩
              have v9 := HS.out y9 (undrew b9)
              have B9 : Hid (Below y4.heap.size y4 y9) := bmm B8.out B8.out.size (undrew b9)
              clear b9
              refine hK.out _ _ ?_ (fun hHeld => ?_)
              · exact v9
              clear hK K
              try simp only [Act.put, List.setIfInBounds_toArray, List.set_cons_zero, List.set_cons_succ]
              refine tk3 (.bool false) (by kernel_rfl) (by kernel_rfl) (by kernel_rfl) (fun _ _ _ h => h) rfl (fun w hSw => by (try dsimp only at hSw); obtain ⟨s0, s1, s2⟩ := hSw; go_simp) (by assumption) ?_
              try simp only [Act.put, List.setIfInBounds_toArray, List.set_cons_zero, List.set_cons_succ]
              refine tk4 (.bool false) (by kernel_rfl) (by kernel_rfl) (by kernel_rfl) (fun _ _ _ h => h) rfl (fun w hSw => by (try dsimp only at hSw); obtain ⟨s0, s1, s2⟩ := hSw; go_simp) (by assumption) ?_
              try simp only [Act.put, List.setIfInBounds_toArray, List.set_cons_zero, List.set_cons_succ]
              refine tk5 (.pointer (some ⟨X, 0, none⟩)) (by kernel_rfl) (by kernel_rfl) (by kernel_rfl) (fun _ _ _ h => h) rfl (fun w hSw => by (try dsimp only at hSw); obtain ⟨s0, s1, s2⟩ := hSw; go_simp) (by assumption) ?_
              try simp only [Act.put, List.setIfInBounds_toArray, List.set_cons_zero, List.set_cons_succ]
              refine tk7 (.pointer (some ⟨Y, 0, none⟩)) (by kernel_rfl) (by kernel_rfl) (by kernel_rfl) (fun _ _ _ h => h) rfl (fun w hSw => by (try dsimp only at hSw); obtain ⟨s0, s1, s2⟩ := hSw; go_simp) (by assumption) ?_
              try simp only [Act.put, List.setIfInBounds_toArray, List.set_cons_zero, List.set_cons_succ]
              refine tk8 (.pointer (some ⟨Y, 0, none⟩)) (by kernel_rfl) (by kernel_rfl) (by kernel_rfl) (fun _ _ _ h => h) rfl (fun w hSw => by (try dsimp only at hSw); obtain ⟨s0, s1, s2⟩ := hSw; go_simp) (by assumption) ?_
              try simp only [Act.put, List.setIfInBounds_toArray, List.set_cons_zero, List.set_cons_succ]
              refine tk9 (.pointer (some ⟨Y, 0, none⟩)) (by kernel_rfl) (by kernel_rfl) (by kernel_rfl) (fun _ _ _ h => h) rfl (fun w hSw => by (try dsimp only at hSw); obtain ⟨s0, s1, s2⟩ := hSw; go_simp) (by assumption) ?_
              try simp only [Act.put, List.setIfInBounds_toArray, List.set_cons_zero, List.set_cons_succ]
              refine tk10 (.int .i64 AP) (by kernel_rfl) (by kernel_rfl) (by kernel_rfl) (fun _ _ _ h => h) rfl (fun w hSw => by (try dsimp only at hSw); obtain ⟨s0, s1, s2⟩ := hSw; go_simp) (by assumption) ?_
              try simp only [Act.put, List.setIfInBounds_toArray, List.set_cons_zero, List.set_cons_succ]
              refine cl6 (by kernel_rfl) rfl (fun K hK => ?_)
              go_simp
              go_at_call 20
              refine Calls.mono (HAp.out _ B9.out) ?_
              rintro r y10 ⟨rfl, e10⟩
              rw [e10]
              clear e10
              refine hK.out _ _ ?_ (fun hHeld => ?_)
              · exact v9
              clear hK K
              try simp only [Act.put, List.setIfInBounds_toArray, List.set_cons_zero, List.set_cons_succ]
              refine tk11 (.bool false) (by kernel_rfl) (by kernel_rfl) (by kernel_rfl) (fun _ _ _ h => h) rfl (fun w hSw => by (try dsimp only at hSw); obtain ⟨s0, s1, s2⟩ := hSw; go_simp) (by assumption) ?_
              try simp only [Act.put, List.setIfInBounds_toArray, List.set_cons_zero, List.set_cons_succ]
              refine tk12 (.bool false) (by kernel_rfl) (by kernel_rfl) (by kernel_rfl) (fun _ _ _ h => h) rfl (fun w hSw => by (try dsimp only at hSw); obtain ⟨s0, s1, s2⟩ := hSw; go_simp) (by assumption) ?_
              try simp only [Act.put, List.setIfInBounds_toArray, List.set_cons_zero, List.set_cons_succ]
              refine tk13 (.bool false) (by kernel_rfl) (by kernel_rfl) (by kernel_rfl) (fun _ _ _ h => h) rfl (fun w hSw => by (try dsimp only at hSw); obtain ⟨s0, s1, s2⟩ := hSw; go_simp) (by assumption) ?_
              try simp only [Act.put, List.setIfInBounds_toArray, List.set_cons_zero, List.set_cons_succ]
              refine tk14 (.agg (cmdA kc)) (by kernel_rfl) (by kernel_rfl) (by kernel_rfl) (fun _ _ _ h => h) rfl (fun w hSw => by (try dsimp only at hSw); obtain ⟨s0, s1, s2⟩ := hSw; have d0 : w.cell? ⟨C1, 0, none⟩ = some (.int .i64 kc.kind) := (by simp [World.cell?, s1]); have d1 : w.cell? ⟨C1, 1, none⟩ = some (.int .i64 kc.session) := (by simp [World.cell?, s1]); have d2 : w.cell? ⟨C1, 2, none⟩ = some (.int .i64 kc.seq) := (by simp [World.cell?, s1]); have d3 : w.cell? ⟨C1, 3, none⟩ = some (.string kc.name) := (by simp [World.cell?, s1]); have d4 : w.cell? ⟨C1, 4, none⟩ = some (.int .i64 kc.n) := (by simp [World.cell?, s1]); go_simp) (by assumption) ?_
              try simp only [Act.put, List.setIfInBounds_toArray, List.set_cons_zero, List.set_cons_succ]
              refine tk15 (.agg (cmdA kc)) (by kernel_rfl) (by kernel_rfl) (by kernel_rfl) (fun _ _ _ h => h) rfl (fun w hSw => by (try dsimp only at hSw); obtain ⟨s0, s1, s2⟩ := hSw; have d0 : w.cell? ⟨C2, 0, none⟩ = some (.int .i64 kc.kind) := (by simp [World.cell?, s2]); have d1 : w.cell? ⟨C2, 1, none⟩ = some (.int .i64 kc.session) := (by simp [World.cell?, s2]); have d2 : w.cell? ⟨C2, 2, none⟩ = some (.int .i64 kc.seq) := (by simp [World.cell?, s2]); have d3 : w.cell? ⟨C2, 3, none⟩ = some (.string kc.name) := (by simp [World.cell?, s2]); have d4 : w.cell? ⟨C2, 4, none⟩ = some (.int .i64 kc.n) := (by simp [World.cell?, s2]); go_simp) (by assumption) ?_
              try simp only [Act.put, List.setIfInBounds_toArray, List.set_cons_zero, List.set_cons_succ]
              refine tk16 (.bool false) (by kernel_rfl) (by kernel_rfl) (by kernel_rfl) (fun _ _ _ h => h) rfl (fun w hSw => by (try dsimp only at hSw); obtain ⟨s0, s1, s2⟩ := hSw; go_simp) (by assumption) ?_
              try simp only [Act.put, List.setIfInBounds_toArray, List.set_cons_zero, List.set_cons_succ]
              refine tk17 (.bool false) (by kernel_rfl) (by kernel_rfl) (by kernel_rfl) (fun _ _ _ h => h) rfl (fun w hSw => by (try dsimp only at hSw); obtain ⟨s0, s1, s2⟩ := hSw; go_simp) (by assumption) ?_
              try simp only [Act.put, List.setIfInBounds_toArray, List.set_cons_zero, List.set_cons_succ]
              refine tk18 (.bool false) (by kernel_rfl) (by kernel_rfl) (by kernel_rfl) (fun _ _ _ h => h) rfl (fun w hSw => by (try dsimp only at hSw); obtain ⟨s0, s1, s2⟩ := hSw; go_simp) (by assumption) ?_
              try simp only [Act.put, List.setIfInBounds_toArray, List.set_cons_zero, List.set_cons_succ]
              refine tk19 (.bool kok) (by kernel_rfl) (by kernel_rfl) (by kernel_rfl) (fun _ _ _ h => h) rfl (fun w hSw => by (try dsimp only at hSw); obtain ⟨s0, s1, s2⟩ := hSw; go_simp) (by assumption) ?_
              try simp only [Act.put, List.setIfInBounds_toArray, List.set_cons_zero, List.set_cons_succ]
              refine tk20 (.bool kok) (by kernel_rfl) (by kernel_rfl) (by kernel_rfl) (fun _ _ _ h => h) rfl (fun w hSw => by (try dsimp only at hSw); obtain ⟨s0, s1, s2⟩ := hSw; go_simp) (by assumption) ?_
              try simp only [Act.put, List.setIfInBounds_toArray, List.set_cons_zero, List.set_cons_succ]
              refine tk21 (.bool false) (by kernel_rfl) (by kernel_rfl) (by kernel_rfl) (fun _ _ _ h => h) rfl (fun w hSw => by (try dsimp only at hSw); obtain ⟨s0, s1, s2⟩ := hSw; go_simp) (by assumption) ?_
              try simp only [Act.put, List.setIfInBounds_toArray, List.set_cons_zero, List.set_cons_succ]
              refine tk22 (.bool false) (by kernel_rfl) (by kernel_rfl) (by kernel_rfl) (fun _ _ _ h => h) rfl (fun w hSw => by (try dsimp only at hSw); obtain ⟨s0, s1, s2⟩ := hSw; go_simp) (by assumption) ?_
              try simp only [Act.put, List.setIfInBounds_toArray, List.set_cons_zero, List.set_cons_succ]
              refine wpAnyH_done (by kernel_rfl) ?_ _
              have IX : Hid (Twin w y9 X Y QT (k + 1)) := (JT.out.fresh B9.out).twin (Nat.le_refl _)
              clear s0 s1 s2 v9
              go_wp2
              go_roundw
              case rel => exact ⟨k + 1, QT, HKL.out.1, HKL.out.2, by go_num, IX.out⟩
              case measure => have := HKL.out.1; simp [intOf]; omega
      · have t1 : decide ((k : Int) < 200) = false := decide_eq_false (by omega)
        have BW : Hid (Below w.heap.size w wr) := I1.out.b
        go_wp2_with (go_at_call 21; refine (awake_any _).mono ?_; rintro xx w3 ⟨rfl, b3⟩; have B3 : Hid _ := b3; clear b3)
        go_ret
        exact ⟨rfl, bmm BW.out BW.out.size B3.out⟩
    · have t0 : decide ((k : Int) < (l.length : Int)) = false := decide_eq_false (by omega)
      have BW : Hid (Below w.heap.size w wr) := I1.out.b
      go_wp2_with (go_at_call 21; refine (awake_any _).mono ?_; rintro xx w3 ⟨rfl, b3⟩; have B3 : Hid _ := b3; clear b3)
      go_ret
      exact ⟨rfl, bmm BW.out BW.out.size B3.out⟩
end Go.Proofs.Ytnoappklbipdhaa
