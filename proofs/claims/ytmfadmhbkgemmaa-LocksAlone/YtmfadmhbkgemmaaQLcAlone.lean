/-
  LocksAlone: who holds for writing holds alone; nobody waits for a lock that nobody holds. No condition.
-/
import Derived.Test.YtmfadmhbkgemmaaQLcAloP
import Derived.Test.YtmfadmhbkgemmaaQLcTwo
import Derived.Deep.CutBlock
namespace Go.Proofs.Ytmfadmhbkgemmaa
open Go.RowKit

theorem sizeLd2 : (Try.prog.info? 33).map (·.size) = some 7 := by kernel_rfl
set_option maxHeartbeats 25600000 in
set_option maxRecDepth 100000 in
theorem lalone_walk (w : World) (a0 : Option Addr) (c0 : Nat) (l0 : List Ld) (r0 : RowAt ldC w (.slice a0 l0.length c0) l0) (_y0 : ∀ v ∈ l0, LdOk v) :
    Calls Try.prog 3 #[.slice a0 l0.length c0] w fun e w' => e = .returned (.bool true) ∧ Below w.heap.size w w' := by
  obtain ⟨L, hL⟩ : ∃ L, L = l0.length := ⟨_, rfl⟩
  rw [← hL] at r0 ⊢
  have HR0 : Hid (∀ y, Below w.heap.size w y → RowAt ldC y (.slice a0 L c0) l0) := fun y b => r0.fresh b
  have HL : Hid (L = l0.length) := hL
  clear r0 hL
  go_enter Try.func3, Try.ntmps3
  go_upto_block 0 with (go_at_call 7; refine Calls.mono (lnew_any w) ?_; rintro r w0 ⟨X, S0, rfl, h0, b0⟩; have H0 : Hid (LcW w0 w.heap.size X S0 0 0 [] ∧ Below w.heap.size w w0) := ⟨h0, b0⟩; clear h0 b0)
  obtain ⟨Y, hY⟩ : ∃ Y, Y = w0.heap.size := ⟨_, rfl⟩
  obtain ⟨w1, hw1⟩ : ∃ w1, w1 = w0.alloc (.cells #[.slice none 0 0, .int .u64 0] 29) := ⟨_, rfl⟩
  have H1 : Hid (AloW w w1 X Y 0 0 []) := (show Hid _ from (by
    have b1 : Below w0.heap.size w0 w1 := by rw [hw1]; exact (Below.refl _ w0).alloc (Nat.le_refl _) _
    have hl := lo_new w0 (base := w.heap.size) H0.out.2.size
    rw [hY]
    exact ⟨⟨S0, _, H0.out.1.fresh b1, by rw [hw1]; exact hl, fun g hg e => by have := (H0.out.1.bd g hg).2; omega⟩, bmm H0.out.2 H0.out.2.size b1⟩))
  rw [← hw1, ← hY]
  clear hw1 hY H0
  go_wp2_with fail
  go_loopw [5] (fun s5 wr => ∃ (i : Nat) (c : Int) (l : List Lk), i ≤ L ∧ i ≤ 200 ∧ s5 = .int .i64 (i : Int) ∧ Hid (AloW w wr X Y i c l ∧ AlnL l)) (fun s5 _ => 200 - (intOf s5).toNat)
  case atStart => exact ⟨0, 0, [], Nat.zero_le _, Nat.zero_le _, rfl, (show Hid _ from (⟨H1.out, fun x hx => (by cases hx)⟩ : _ ∧ _))⟩
  case round =>
    clear H1
    obtain ⟨i, c, l, hi1, hi2, rfl, HI⟩ := hrel
    by_cases hL : i < L
    · have t1 : decide ((i : Int) < (L : Int)) = true := decide_eq_true (by omega)
      by_cases h200 : i < 200
      · have t2 : decide ((i : Int) < 200) = true := decide_eq_true (by omega)
        have HG : Hid (i < L ∧ i < 200) := ⟨hL, h200⟩
        have HAL : Hid (AlnL l) := HI.out.2
        have hil : i < l0.length := by have := HL.out; omega
        obtain ⟨bk, off, cap', hvv, _, hbk, hc⟩ := (HR0.out wr HI.out.1.bel).cells ldC_len (by omega)
        simp only [Value.slice.injEq] at hvv
        obtain ⟨e1, hx1, hx2⟩ := hvv
        clear hx1 hx2 hbk hc
        subst e1
        obtain ⟨x, hx⟩ : ∃ x, x = l0[i] := ⟨_, rfl⟩
        have HY : Hid (∀ y, Below w.heap.size w y → ∀ (c : Nat) (u : Value), c < 7 → (ldC x)[c]? = some u → y.cell? ⟨bk, off + i * 7 + c, none⟩ = some u) := fun y b c u hc8 hu => by
          rw [hx] at hu
          obtain ⟨bk2, off2, cap2, hv2, _, _, hc2⟩ := (HR0.out y b).cells ldC_len (by omega)
          simp only [Value.slice.injEq, Option.some.injEq, Addr.mk.injEq] at hv2
          obtain ⟨⟨rfl, rfl, _⟩, _, _⟩ := hv2
          exact hc2 i hil c u hc8 hu
        clear hx hil
        have z0 := HY.out wr HI.out.1.bel 0 (.int .i64 x.kind) (by decide) rfl
        have z1 := HY.out wr HI.out.1.bel 1 (.int .i64 x.k) (by decide) rfl
        have z2 := HY.out wr HI.out.1.bel 2 (.int .i64 x.s) (by decide) rfl
        have z3 := HY.out wr HI.out.1.bel 3 (.int .i64 x.n) (by decide) rfl
        have z4 := HY.out wr HI.out.1.bel 4 (.string x.nm) (by decide) rfl
        have z5 := HY.out wr HI.out.1.bel 5 (.int .i64 x.m) (by decide) rfl
        have z6 := HY.out wr HI.out.1.bel 6 (.int .u64 x.t) (by decide) rfl
        rw [Nat.add_zero] at z0
        have HV : Hid (Below wr.heap.size wr (wr.alloc (.cells #[.int .i64 0, .int .i64 0, .int .i64 0, .int .i64 0, .string ⟨#[]⟩, .int .i64 0, .int .u64 0] 33)) ∧ (wr.alloc (.cells #[.int .i64 0, .int .i64 0, .int .i64 0, .int .i64 0, .string ⟨#[]⟩, .int .i64 0, .int .u64 0] 33)).heap[wr.heap.size]? = some (.cells #[.int .i64 0, .int .i64 0, .int .i64 0, .int .i64 0, .string ⟨#[]⟩, .int .i64 0, .int .u64 0] 33 (0, 0))) := ⟨(Below.refl _ wr).alloc (Nat.le_refl _) _, heap_alloc_new wr _⟩
        go_upto_region 8 with (show wpList _ _ _ (⟨_, Op.store 33 _ _, _, _, _, _⟩ :: _) _ _; refine store_row_g rfl 33 _ _ rfl wr.heap.size (ldA x) rfl rfl 33 _ HV.out.2 sizeLd2 rfl (by simp [ldA, Value.oneCell']) ?_; intro w4 h4 g4; have B4 : Hid (Below wr.heap.size wr w4) := bel_grown HV.out.1 (Nat.le_refl _) g4; have D4 : Hid (LdAt w4 wr.heap.size x) := h4; clear h4 g4)
        clear z0 z1 z2 z3 z4 z5 z6 HV HY
        have I4 : Hid (AloB w w4 X Y wr.heap.size x i c l i c l) := HI.out.1.boxed B4.out D4.out (Nat.le_refl _)
        clear HI B4 D4
        obtain ⟨BX, hBX⟩ : ∃ BX, BX = wr.heap.size := ⟨_, rfl⟩
        rw [← hBX] at I4 ⊢
        clear hBX
        have z0 := I4.out.box.box 0 _ rfl
        have z1 := I4.out.box.box 1 _ rfl
        have z2 := I4.out.box.box 2 _ rfl
        have z3 := I4.out.box.box 3 _ rfl
        have z4 := I4.out.box.box 4 _ rfl
        have z5 := I4.out.box.box 5 _ rfl
        have HFI : Hid _ := fit_any w4 x.k x.s x.n x.nm x.m
        cases hf : fitL x.s x.n x.nm with
        | false =>
          rw [hf] at HFI
          go_wp2_with (go_at_call 8; refine Calls.mono HFI.out ?_; rintro r w5 ⟨rfl, b5⟩; have I5 : Hid (AloB w w5 X Y BX x i c l i c l) := I4.out.fresh b5; have v0 := I5.out.box.box 0 _ rfl; have v1 := I5.out.box.box 1 _ rfl; have v2 := I5.out.box.box 2 _ rfl; have v3 := I5.out.box.box 3 _ rfl; have v4 := I5.out.box.box 4 _ rfl; have v5 := I5.out.box.box 5 _ rfl; clear b5)
          have hg := HG.out
          go_roundw
          case rel => exact ⟨i + 1, c, l, by omega, by omega, by go_num, (show Hid _ from (⟨I5.out.back.up (Nat.le_succ _), HAL.out⟩ : _ ∧ _))⟩
          case measure => simp [intOf]; omega
        | true =>
          rw [hf] at HFI
          have hok := fitL_yes hf
          have HK : Hid (okI x.s ∧ okI x.n ∧ x.nm.size ≤ 1000) := hok
          clear hok hf
          have hwa : ∀ y, AloB w y X Y BX x i c l i c l → Calls Try.prog 9 #[.pointer (some ⟨Y, 0, none⟩), .int .i64 x.s] y fun e w' => e = .returned (.bool (waitsL l x.s)) ∧ w' = y := fun y h => h.waits (by have := HG.out; omega) x.s
          cases hw : waitsL l x.s with
          | true =>
            rw [hw] at hwa
            have HW : Hid _ := hwa
            clear hwa hw
            cases k0 : (x.kind == 0) with
            | true =>
              go_wp2_with (first
                | (go_at_call 9; refine Calls.mono (HW.out _ I5.out) ?_; rintro r w6 ⟨rfl, hz⟩; obtain rfl : w5 = w6 := hz.symm)
                | (go_at_call 8; refine Calls.mono HFI.out ?_; rintro r w5 ⟨rfl, b5⟩; have I5 : Hid (AloB w w5 X Y BX x i c l i c l) := I4.out.fresh b5; have v0 := I5.out.box.box 0 _ rfl; have v1 := I5.out.box.box 1 _ rfl; have v2 := I5.out.box.box 2 _ rfl; have v3 := I5.out.box.box 3 _ rfl; have v4 := I5.out.box.box 4 _ rfl; have v5 := I5.out.box.box 5 _ rfl; clear b5))
              have hg := HG.out
              go_roundw
              case rel => exact ⟨i + 1, c, l, by omega, by omega, by go_num, (show Hid _ from (⟨I5.out.back.up (Nat.le_succ _), HAL.out⟩ : _ ∧ _))⟩
              case measure => simp [intOf]; omega
            | false =>
              go_upto_region 9 with (first
                | (go_at_call 9; refine Calls.mono (HW.out _ I5.out) ?_; rintro r w6 ⟨rfl, hz⟩; obtain rfl : w5 = w6 := hz.symm)
                | (go_at_call 8; refine Calls.mono HFI.out ?_; rintro r w5 ⟨rfl, b5⟩; have I5 : Hid (AloB w w5 X Y BX x i c l i c l) := I4.out.fresh b5; have v0 := I5.out.box.box 0 _ rfl; have v1 := I5.out.box.box 1 _ rfl; have v2 := I5.out.box.box 2 _ rfl; have v3 := I5.out.box.box 3 _ rfl; have v4 := I5.out.box.box 4 _ rfl; have v5 := I5.out.box.box 5 _ rfl; clear b5))
              clear z0 z1 z2 z3 z4 z5 HFI HW I4
              go_upto_block 2 with fail
              go_cut [5] (fun s5 wc => s5 = .int .i64 (i : Int) ∧ Hid (∃ (c' : Int) (l' : List Lk), AloB w wc X Y BX x (i + 1) c' l' (i + 1) c' l' ∧ AlnL l'))
              case first =>
                have hn : i < 32767 := by have := HG.out; omega
                have HA1 : Hid _ := I5.out.relA hn x.k x.s x.n x.nm x.m HK.out.1 HK.out.2.2
                have HB1 : Hid (∀ y c1 l1, AloB w y X Y BX x i c1 l1 i c l → Calls Try.prog 13 #[.pointer (some ⟨Y, 0, none⟩), .agg (cmA x.k x.s x.n x.nm x.m)] y fun e w' => (∃ v, e = .returned v) ∧ AloB w w' X Y BX x i c1 l1 i (relL c l x.k x.s x.n x.nm).1 (relL c l x.k x.s x.n x.nm).2.1) := fun y c1 l1 h => h.relB hn x.k x.s x.n x.nm x.m HK.out.1
                have HA2 : Hid _ := I5.out.goneA hn HK.out.1
                have HB2 : Hid (∀ y c1 l1, AloB w y X Y BX x i c1 l1 i c l → Calls Try.prog 15 #[.pointer (some ⟨Y, 0, none⟩), .int .i64 x.s] y fun e w' => (∃ v, e = .returned v) ∧ AloB w w' X Y BX x i c1 l1 i (gonL c l x.s).1 (gonL c l x.s).2.1) := fun y c1 l1 h => h.goneB hn x.s
                clear hn
                cases k1 : (x.kind == 1) with
                | true =>
                  go_wp2_with (first
                    | (go_at_call 13; refine Calls.mono (HB1.out _ _ _ J6.out) ?_; rintro r w7 ⟨⟨v7, rfl⟩, j7⟩; have J7 : Hid _ := j7; clear j7)
                    | (go_at_call 12; refine Calls.mono HA1.out ?_; rintro r w6 ⟨⟨v6, rfl⟩, j6⟩; have J6 : Hid _ := j6; have y0 := J6.out.box.box 0 _ rfl; have y1 := J6.out.box.box 1 _ rfl; have y2 := J6.out.box.box 2 _ rfl; have y3 := J6.out.box.box 3 _ rfl; have y4 := J6.out.box.box 4 _ rfl; have y5 := J6.out.box.box 5 _ rfl; clear j6))
                  go_meet
                  exact ⟨rfl, _, _, J7.out.up (Nat.le_succ _) (Nat.le_succ _), aln_rel _ _ _ _ HAL.out⟩
                | false =>
                  cases k2 : (x.kind == 2) with
                  | true =>
                    go_wp2_with (first
                      | (go_at_call 15; refine Calls.mono (HB2.out _ _ _ J6.out) ?_; rintro r w7 ⟨⟨v7, rfl⟩, j7⟩; have J7 : Hid _ := j7; clear j7)
                      | (go_at_call 14; refine Calls.mono HA2.out ?_; rintro r w6 ⟨⟨v6, rfl⟩, j6⟩; have J6 : Hid _ := j6; have y0 := J6.out.box.box 0 _ rfl; have y1 := J6.out.box.box 1 _ rfl; have y2 := J6.out.box.box 2 _ rfl; have y3 := J6.out.box.box 3 _ rfl; have y4 := J6.out.box.box 4 _ rfl; have y5 := J6.out.box.box 5 _ rfl; clear j6))
                    go_meet
                    exact ⟨rfl, _, _, J7.out.up (Nat.le_succ _) (Nat.le_succ _), aln_gon _ HAL.out⟩
                  | false =>
                    go_wp2_with fail
                    go_meet
                    exact ⟨rfl, c, l, I5.out.up (Nat.le_succ _) (Nat.le_succ _), HAL.out⟩
              case rest =>
                clear v0 v1 v2 v3 v4 v5 I5 HAL
                obtain ⟨rfl, HJ⟩ := hcut
                obtain ⟨c', l', hJ, hal⟩ := HJ.out
                have hn : i + 1 < 32767 := by have := HG.out; omega
                have hg := HG.out
                have hC := hJ.hold hn (nm := x.nm) HK.out.2.2
                have hbx := hJ.box
                have y4 := hbx.box 4 _ rfl
                have HJ2 : Hid (AloB w wc X Y BX x (i + 1) c' l' (i + 1) c' l' ∧ AlnL l') := ⟨hJ, hal⟩
                rcases aln_hold hJ.ok hal x.nm with ⟨e1, e2⟩ | ⟨hs, wt, e1, e2, e3⟩
                · rw [e1] at hC
                  have HC : Hid _ := hC
                  have HQ : Hid (∀ y, AloB w y X Y BX x (i + 1) c' l' (i + 1) c' l' → Calls Try.prog 17 #[.pointer (some ⟨X, 0, none⟩), .string x.nm] y (QueP y [])) := fun y h => by
                    obtain ⟨S, T, hA, _⟩ := h.ex
                    have := hA.queue hn (nm := x.nm) HK.out.2.2
                    rw [e2] at this
                    exact this
                  clear hC e1 e2 hJ hal hn hbx HJ
                  go_wp2_with (first
                    | (go_at_call 17; refine Calls.mono (HQ.out _ J8.out) ?_; rintro r w9 ⟨uq, rfl, rq, b9⟩; obtain ⟨pq, cq, rfl⟩ := rq.none0; have J9 : Hid _ := J8.out.fresh b9; clear b9 rq)
                    | (go_at_call 16; refine Calls.mono HC.out ?_; rintro r w8 ⟨uh, rfl, rh, b8⟩; obtain ⟨ph, qh, eh, _⟩ := rh.ex; change uh = .slice ph 0 qh at eh; subst eh; have J8 : Hid (AloB w w8 X Y BX x (i + 1) c' l' (i + 1) c' l') := HJ2.out.1.fresh b8; have x4 := J8.out.box.box 4 _ rfl; clear b8 rh))
                  go_roundw
                  case rel => exact ⟨i + 1, c', l', by omega, by omega, by go_num, (show Hid _ from (⟨J9.out.back, HJ2.out.2⟩ : _ ∧ _))⟩
                  case measure => simp [intOf]; omega
                · rw [e1] at hC
                  have HC : Hid _ := hC
                  obtain ⟨nh, hnh⟩ : ∃ nh, nh = hs.length := ⟨_, rfl⟩
                  have HNH : Hid (nh = hs.length) := hnh
                  rw [← hnh] at e2 e3
                  have t5 : ((nh : Int) == 0) = false := by rw [beq_eq_false_iff_ne]; omega
                  cases wt with
                  | true =>
                    obtain rfl : nh = 1 := e3 rfl
                    clear hC e1 e2 e3 hJ hal hn hbx HJ hnh t5
                    go_wp2_with (go_at_call 16; refine Calls.mono HC.out ?_; rintro r w8 ⟨uh, rfl, rh, b8⟩; obtain ⟨ph, qh, eh, _⟩ := rh.ex; change uh = .slice ph hs.length qh at eh; rw [← HNH.out] at eh; subst eh; have J8 : Hid (AloB w w8 X Y BX x (i + 1) c' l' (i + 1) c' l') := HJ2.out.1.fresh b8; clear b8 rh)
                    go_roundw
                    case rel => exact ⟨i + 1, c', l', by omega, by omega, by go_num, (show Hid _ from (⟨J8.out.back, HJ2.out.2⟩ : _ ∧ _))⟩
                    case measure => simp [intOf]; omega
                  | false =>
                    clear hC e1 e3 hJ hal hn hbx HJ hnh
                    go_wp2_with (go_at_call 16; refine Calls.mono HC.out ?_; rintro r w8 ⟨uh, rfl, rh, b8⟩; obtain ⟨ph, qh, eh, _⟩ := rh.ex; change uh = .slice ph hs.length qh at eh; rw [← HNH.out] at eh; subst eh; have J8 : Hid (AloB w w8 X Y BX x (i + 1) c' l' (i + 1) c' l') := HJ2.out.1.fresh b8; clear b8 rh)
                    go_roundw
                    case rel => exact ⟨i + 1, c', l', by omega, by omega, by go_num, (show Hid _ from (⟨J8.out.back, HJ2.out.2⟩ : _ ∧ _))⟩
                    case measure => simp [intOf]; omega
          | false =>
            rw [hw] at hwa
            have HW : Hid _ := hwa
            clear hwa hw
            go_upto_region 9 with (first
              | (go_at_call 9; refine Calls.mono (HW.out _ I5.out) ?_; rintro r w6 ⟨rfl, hz⟩; obtain rfl : w5 = w6 := hz.symm)
              | (go_at_call 8; refine Calls.mono HFI.out ?_; rintro r w5 ⟨rfl, b5⟩; have I5 : Hid (AloB w w5 X Y BX x i c l i c l) := I4.out.fresh b5; have v0 := I5.out.box.box 0 _ rfl; have v1 := I5.out.box.box 1 _ rfl; have v2 := I5.out.box.box 2 _ rfl; have v3 := I5.out.box.box 3 _ rfl; have v4 := I5.out.box.box 4 _ rfl; have v5 := I5.out.box.box 5 _ rfl; clear b5))
            clear z0 z1 z2 z3 z4 z5 HFI HW I4
            go_upto_block 2 with fail
            go_cut [5] (fun s5 wc => s5 = .int .i64 (i : Int) ∧ Hid (∃ (c' : Int) (l' : List Lk), AloB w wc X Y BX x (i + 1) c' l' (i + 1) c' l' ∧ AlnL l'))
            case first =>
              have hn : i < 32767 := by have := HG.out; omega
              have HA0 : Hid _ := I5.out.askA hn x.k x.s x.n x.nm x.m HK.out.1 HK.out.2.1 HK.out.2.2
              have HB0 : Hid (∀ y c1 l1, AloB w y X Y BX x (i + 1) c1 l1 i c l → Calls Try.prog 11 #[.pointer (some ⟨Y, 0, none⟩), .agg (cmA x.k x.s x.n x.nm x.m)] y fun e w' => (∃ v, e = .returned v) ∧ AloB w w' X Y BX x (i + 1) c1 l1 (i + 1) (askL c l x.k x.s x.n x.nm).1 (askL c l x.k x.s x.n x.nm).2.1) := fun y c1 l1 h => h.askB hn x.k x.s x.n x.nm x.m HK.out.1 HK.out.2.1 HK.out.2.2
              have HA1 : Hid _ := I5.out.relA hn x.k x.s x.n x.nm x.m HK.out.1 HK.out.2.2
              have HB1 : Hid (∀ y c1 l1, AloB w y X Y BX x i c1 l1 i c l → Calls Try.prog 13 #[.pointer (some ⟨Y, 0, none⟩), .agg (cmA x.k x.s x.n x.nm x.m)] y fun e w' => (∃ v, e = .returned v) ∧ AloB w w' X Y BX x i c1 l1 i (relL c l x.k x.s x.n x.nm).1 (relL c l x.k x.s x.n x.nm).2.1) := fun y c1 l1 h => h.relB hn x.k x.s x.n x.nm x.m HK.out.1
              have HA2 : Hid _ := I5.out.goneA hn HK.out.1
              have HB2 : Hid (∀ y c1 l1, AloB w y X Y BX x i c1 l1 i c l → Calls Try.prog 15 #[.pointer (some ⟨Y, 0, none⟩), .int .i64 x.s] y fun e w' => (∃ v, e = .returned v) ∧ AloB w w' X Y BX x i c1 l1 i (gonL c l x.s).1 (gonL c l x.s).2.1) := fun y c1 l1 h => h.goneB hn x.s
              clear hn
              cases k0 : (x.kind == 0) with
              | true =>
                go_wp2_with (first
                  | (go_at_call 11; refine Calls.mono (HB0.out _ _ _ J6.out) ?_; rintro r w7 ⟨⟨v7, rfl⟩, j7⟩; have J7 : Hid _ := j7; clear j7)
                  | (go_at_call 10; refine Calls.mono HA0.out ?_; rintro r w6 ⟨⟨v6, rfl⟩, j6⟩; have J6 : Hid _ := j6; have y0 := J6.out.box.box 0 _ rfl; have y1 := J6.out.box.box 1 _ rfl; have y2 := J6.out.box.box 2 _ rfl; have y3 := J6.out.box.box 3 _ rfl; have y4 := J6.out.box.box 4 _ rfl; have y5 := J6.out.box.box 5 _ rfl; clear j6))
                go_meet
                exact ⟨rfl, _, _, J7.out.up (Nat.le_refl _) (Nat.le_refl _), aln_ask _ _ _ _ HAL.out⟩
              | false =>
                cases k1 : (x.kind == 1) with
                | true =>
                  go_wp2_with (first
                    | (go_at_call 13; refine Calls.mono (HB1.out _ _ _ J6.out) ?_; rintro r w7 ⟨⟨v7, rfl⟩, j7⟩; have J7 : Hid _ := j7; clear j7)
                    | (go_at_call 12; refine Calls.mono HA1.out ?_; rintro r w6 ⟨⟨v6, rfl⟩, j6⟩; have J6 : Hid _ := j6; have y0 := J6.out.box.box 0 _ rfl; have y1 := J6.out.box.box 1 _ rfl; have y2 := J6.out.box.box 2 _ rfl; have y3 := J6.out.box.box 3 _ rfl; have y4 := J6.out.box.box 4 _ rfl; have y5 := J6.out.box.box 5 _ rfl; clear j6))
                  go_meet
                  exact ⟨rfl, _, _, J7.out.up (Nat.le_succ _) (Nat.le_succ _), aln_rel _ _ _ _ HAL.out⟩
                | false =>
                  cases k2 : (x.kind == 2) with
                  | true =>
                    go_wp2_with (first
                      | (go_at_call 15; refine Calls.mono (HB2.out _ _ _ J6.out) ?_; rintro r w7 ⟨⟨v7, rfl⟩, j7⟩; have J7 : Hid _ := j7; clear j7)
                      | (go_at_call 14; refine Calls.mono HA2.out ?_; rintro r w6 ⟨⟨v6, rfl⟩, j6⟩; have J6 : Hid _ := j6; have y0 := J6.out.box.box 0 _ rfl; have y1 := J6.out.box.box 1 _ rfl; have y2 := J6.out.box.box 2 _ rfl; have y3 := J6.out.box.box 3 _ rfl; have y4 := J6.out.box.box 4 _ rfl; have y5 := J6.out.box.box 5 _ rfl; clear j6))
                    go_meet
                    exact ⟨rfl, _, _, J7.out.up (Nat.le_succ _) (Nat.le_succ _), aln_gon _ HAL.out⟩
                  | false =>
                    go_wp2_with fail
                    go_meet
                    exact ⟨rfl, c, l, I5.out.up (Nat.le_succ _) (Nat.le_succ _), HAL.out⟩
            case rest =>
              clear v0 v1 v2 v3 v4 v5 I5 HAL
              obtain ⟨rfl, HJ⟩ := hcut
              obtain ⟨c', l', hJ, hal⟩ := HJ.out
              have hn : i + 1 < 32767 := by have := HG.out; omega
              have hg := HG.out
              have hC := hJ.hold hn (nm := x.nm) HK.out.2.2
              have hbx := hJ.box
              have y4 := hbx.box 4 _ rfl
              have HJ2 : Hid (AloB w wc X Y BX x (i + 1) c' l' (i + 1) c' l' ∧ AlnL l') := ⟨hJ, hal⟩
              rcases aln_hold hJ.ok hal x.nm with ⟨e1, e2⟩ | ⟨hs, wt, e1, e2, e3⟩
              · rw [e1] at hC
                have HC : Hid _ := hC
                have HQ : Hid (∀ y, AloB w y X Y BX x (i + 1) c' l' (i + 1) c' l' → Calls Try.prog 17 #[.pointer (some ⟨X, 0, none⟩), .string x.nm] y (QueP y [])) := fun y h => by
                  obtain ⟨S, T, hA, _⟩ := h.ex
                  have := hA.queue hn (nm := x.nm) HK.out.2.2
                  rw [e2] at this
                  exact this
                clear hC e1 e2 hJ hal hn hbx HJ
                go_wp2_with (first
                  | (go_at_call 17; refine Calls.mono (HQ.out _ J8.out) ?_; rintro r w9 ⟨uq, rfl, rq, b9⟩; obtain ⟨pq, cq, rfl⟩ := rq.none0; have J9 : Hid _ := J8.out.fresh b9; clear b9 rq)
                  | (go_at_call 16; refine Calls.mono HC.out ?_; rintro r w8 ⟨uh, rfl, rh, b8⟩; obtain ⟨ph, qh, eh, _⟩ := rh.ex; change uh = .slice ph 0 qh at eh; subst eh; have J8 : Hid (AloB w w8 X Y BX x (i + 1) c' l' (i + 1) c' l') := HJ2.out.1.fresh b8; have x4 := J8.out.box.box 4 _ rfl; clear b8 rh))
                go_roundw
                case rel => exact ⟨i + 1, c', l', by omega, by omega, by go_num, (show Hid _ from (⟨J9.out.back, HJ2.out.2⟩ : _ ∧ _))⟩
                case measure => simp [intOf]; omega
              · rw [e1] at hC
                have HC : Hid _ := hC
                obtain ⟨nh, hnh⟩ : ∃ nh, nh = hs.length := ⟨_, rfl⟩
                have HNH : Hid (nh = hs.length) := hnh
                rw [← hnh] at e2 e3
                have t5 : ((nh : Int) == 0) = false := by rw [beq_eq_false_iff_ne]; omega
                cases wt with
                | true =>
                  obtain rfl : nh = 1 := e3 rfl
                  clear hC e1 e2 e3 hJ hal hn hbx HJ hnh t5
                  go_wp2_with (go_at_call 16; refine Calls.mono HC.out ?_; rintro r w8 ⟨uh, rfl, rh, b8⟩; obtain ⟨ph, qh, eh, _⟩ := rh.ex; change uh = .slice ph hs.length qh at eh; rw [← HNH.out] at eh; subst eh; have J8 : Hid (AloB w w8 X Y BX x (i + 1) c' l' (i + 1) c' l') := HJ2.out.1.fresh b8; clear b8 rh)
                  go_roundw
                  case rel => exact ⟨i + 1, c', l', by omega, by omega, by go_num, (show Hid _ from (⟨J8.out.back, HJ2.out.2⟩ : _ ∧ _))⟩
                  case measure => simp [intOf]; omega
                | false =>
                  clear hC e1 e3 hJ hal hn hbx HJ hnh
                  go_wp2_with (go_at_call 16; refine Calls.mono HC.out ?_; rintro r w8 ⟨uh, rfl, rh, b8⟩; obtain ⟨ph, qh, eh, _⟩ := rh.ex; change uh = .slice ph hs.length qh at eh; rw [← HNH.out] at eh; subst eh; have J8 : Hid (AloB w w8 X Y BX x (i + 1) c' l' (i + 1) c' l') := HJ2.out.1.fresh b8; clear b8 rh)
                  go_roundw
                  case rel => exact ⟨i + 1, c', l', by omega, by omega, by go_num, (show Hid _ from (⟨J8.out.back, HJ2.out.2⟩ : _ ∧ _))⟩
                  case measure => simp [intOf]; omega
      · have t2 : decide ((i : Int) < 200) = false := decide_eq_false (by omega)
        go_wp2_with (go_at_call 18; refine Calls.mono (awake_any _) ?_; rintro r w9 ⟨rfl, b9⟩; have B9 : Hid _ := b9; clear b9)
        go_ret
        exact ⟨rfl, bmm HI.out.1.bel HI.out.1.bel.size B9.out⟩
    · have t1 : decide ((i : Int) < (L : Int)) = false := decide_eq_false (by omega)
      go_wp2_with (go_at_call 18; refine Calls.mono (awake_any _) ?_; rintro r w9 ⟨rfl, b9⟩; have B9 : Hid _ := b9; clear b9)
      go_ret
      exact ⟨rfl, bmm HI.out.1.bel HI.out.1.bel.size B9.out⟩
end Go.Proofs.Ytmfadmhbkgemmaa
