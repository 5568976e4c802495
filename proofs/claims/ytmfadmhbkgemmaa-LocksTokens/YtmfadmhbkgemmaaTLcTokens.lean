/-
  LocksTokens: tokens rise by one at a time, and each was given. No condition.
-/
import Derived.Test.YtmfadmhbkgemmaaTLcTokP
import Derived.Test.YtmfadmhbkgemmaaTLcNone
import Derived.Test.YtmfadmhbkgemmaaTPackC
import Derived.Deep.CutBlock
namespace Go.Proofs.Ytmfadmhbkgemmaa
open Go.RowKit

theorem sizeLd : (Try.prog.info? 33).map (·.size) = some 7 := by kernel_rfl
/-- Behind a deed. -/
structure TokW (w wc : World) (D N : Nat) (c : Int) (u : Value) : Prop where
  ex : ∃ (gs : List SeR) (c' : Int) (l' : List Lk) (S' : Nat → Prop), LcW wc w.heap.size D S' (N + 1) c' l' ∧ Below w.heap.size w wc ∧ RowAt rpC wc u gs ∧ runT c gs c' ∧ gs.length ≤ 60000
section
variable {w wr w' : World} {D N : Nat} {S : Nat → Prop} {c : Int} {l : List Lk}
theorem TokW.none' (h : LcW wr w.heap.size D S N c l) (B : Below w.heap.size w wr) : TokW w wr D N c (.slice none 0 0) := ⟨[], c, l, S, h.up (Nat.le_succ _), B, RowAt.nil _, rfl, Nat.zero_le _⟩
theorem TokW.rep {q : Int × List Lk × List SeR} {S' : Nat → Prop} {u : Value} (h : LcW wr w.heap.size D S N c l) (B : Below w.heap.size w wr) (r : RowAt rpC w' u q.2.2) (h2 : LcW w' w.heap.size D S' (N + 1) q.1 q.2.1) (k : Kept wr w' S S') (t : runT c q.2.2 q.1) (f : q.2.2.length ≤ 60000) : TokW w w' D N c u :=
  ⟨q.2.2, q.1, q.2.1, S', h2, h.lowk k B (Nat.le_refl _), r, t, f⟩
end
set_option maxHeartbeats 25600000 in
set_option maxRecDepth 100000 in
theorem ltokens_walk (w : World) (a0 : Option Addr) (c0 : Nat) (l0 : List Ld) (r0 : RowAt ldC w (.slice a0 l0.length c0) l0) (_y0 : ∀ v ∈ l0, LdOk v) (from' : Int) (hf0 : 0 ≤ from') (hf1 : from' ≤ 18446744073709551615) :
    Calls Try.prog 4 #[.slice a0 l0.length c0, .int .u64 from'] w fun e w' => e = .returned (.bool true) ∧ Below w.heap.size w w' := by
  obtain ⟨L, hL⟩ : ∃ L, L = l0.length := ⟨_, rfl⟩
  rw [← hL] at r0 ⊢
  have HR0 : Hid (∀ y, Below w.heap.size w y → RowAt ldC y (.slice a0 L c0) l0) := fun y b => r0.fresh b
  have HL : Hid (L = l0.length) := hL
  have HF : Hid (0 ≤ from' ∧ from' ≤ 18446744073709551615) := ⟨hf0, hf1⟩
  clear r0 hL hf0 hf1
  go_enter Try.func4, Try.ntmps4
  go_upto_block 0 with (first
    | (go_at_call 19; refine Calls.mono (H0.out.1.setTok HF.out.1 HF.out.2) ?_; rintro r w1 ⟨⟨v1, rfl⟩, h1, k1⟩; have H1 : Hid (LcW w1 w.heap.size D S0 0 from' [] ∧ Below w.heap.size w w1) := ⟨h1, H0.out.1.lowk k1 H0.out.2 (Nat.le_refl _)⟩; clear h1 k1)
    | (go_at_call 7; refine Calls.mono (lnew_any w) ?_; rintro r w0 ⟨D, S0, rfl, h0, b0⟩; have H0 : Hid (LcW w0 w.heap.size D S0 0 0 [] ∧ Below w.heap.size w w0) := ⟨h0, b0⟩; clear h0 b0))
  clear H0
  go_wp2_with fail
  go_loopw [6] (fun s6 wr => ∃ (i : Nat) (c : Int) (l : List Lk) (S : Nat → Prop), i ≤ L ∧ i ≤ 200 ∧ s6 = .int .i64 (i : Int) ∧ Hid (LcW wr w.heap.size D S i c l ∧ Below w.heap.size w wr)) (fun s6 _ => 200 - (intOf s6).toNat)
  case atStart => exact ⟨0, from', [], S0, Nat.zero_le _, Nat.zero_le _, rfl, H1⟩
  case round =>
    clear H1
    obtain ⟨i, c, l, S, hi1, hi2, rfl, HI⟩ := hrel
    by_cases hL : i < L
    · have t1 : decide ((i : Int) < (L : Int)) = true := decide_eq_true (by omega)
      by_cases h200 : i < 200
      · have t2 : decide ((i : Int) < 200) = true := decide_eq_true (by omega)
        have HG : Hid (i < L ∧ i < 200) := ⟨hL, h200⟩
        have hil : i < l0.length := by have := HL.out; omega
        obtain ⟨bk, off, cap', hvv, _, hbk, hc⟩ := (HR0.out wr HI.out.2).cells ldC_len (by omega)
        simp only [Value.slice.injEq] at hvv
        obtain ⟨e1, hx1, hx2⟩ := hvv
        clear hx1 hx2 hbk hc
        subst e1
        obtain ⟨x, hx⟩ : ∃ x, x = l0[i] := ⟨_, rfl⟩
        have HY : Hid (∀ y, Below w.heap.size w y → ∀ (c : Nat) (u : Value), c < 7 → (ldC x)[c]? = some u → y.cell? ⟨bk, off + i * 7 + c, none⟩ = some u) := fun y b c u hc8 hu => by
          rw [hx] at hu
          obtain ⟨bk2, off2, cap2, hv2, _, _, hc2⟩ := (HR0.out y b).cells ldC_len (by omega)
          simp only [Value.slice.injEq, Option.some.injEq, Addr.mk.injEq] at hv2
          obtain ⟨⟨rfl, rfl, _⟩, _, _⟩ := hv2
          exact hc2 i hil c u hc8 hu
        clear hx
        have z0 := HY.out wr HI.out.2 0 (.int .i64 x.kind) (by decide) rfl
        have z1 := HY.out wr HI.out.2 1 (.int .i64 x.k) (by decide) rfl
        have z2 := HY.out wr HI.out.2 2 (.int .i64 x.s) (by decide) rfl
        have z3 := HY.out wr HI.out.2 3 (.int .i64 x.n) (by decide) rfl
        have z4 := HY.out wr HI.out.2 4 (.string x.nm) (by decide) rfl
        have z5 := HY.out wr HI.out.2 5 (.int .i64 x.m) (by decide) rfl
        have z6 := HY.out wr HI.out.2 6 (.int .u64 x.t) (by decide) rfl
        rw [Nat.add_zero] at z0
        have HV : Hid (Below wr.heap.size wr (wr.alloc (.cells #[.int .i64 0, .int .i64 0, .int .i64 0, .int .i64 0, .string ⟨#[]⟩, .int .i64 0, .int .u64 0] 33)) ∧ (wr.alloc (.cells #[.int .i64 0, .int .i64 0, .int .i64 0, .int .i64 0, .string ⟨#[]⟩, .int .i64 0, .int .u64 0] 33)).heap[wr.heap.size]? = some (.cells #[.int .i64 0, .int .i64 0, .int .i64 0, .int .i64 0, .string ⟨#[]⟩, .int .i64 0, .int .u64 0] 33 (0, 0))) := ⟨(Below.refl _ wr).alloc (Nat.le_refl _) _, heap_alloc_new wr _⟩
        go_upto_region 9 with (show wpList _ _ _ (⟨_, Op.store 33 _ _, _, _, _, _⟩ :: _) _ _; refine store_row_g rfl 33 _ _ rfl wr.heap.size (ldA x) rfl rfl 33 _ HV.out.2 sizeLd rfl (by simp [ldA, Value.oneCell']) ?_; intro w4 h4 g4; have B4 : Hid (Below wr.heap.size wr w4) := bel_grown HV.out.1 (Nat.le_refl _) g4; have D4 : Hid (LdAt w4 wr.heap.size x) := h4; clear h4 g4)
        clear z0 z1 z2 z3 z4 z5 z6 HV HY
        have I4 : Hid (LcW w4 w.heap.size D S i c l ∧ Below w.heap.size w w4) := ⟨HI.out.1.fresh B4.out, bmm HI.out.2 HI.out.2.size B4.out⟩
        have hd := D4.out
        have z1 := hd.box 1 _ rfl
        have z2 := hd.box 2 _ rfl
        have z3 := hd.box 3 _ rfl
        have z4 := hd.box 4 _ rfl
        have z5 := hd.box 5 _ rfl
        have HB : Hid (∀ y, Below w4.heap.size w4 y → LdAt y wr.heap.size x) := fun y b => (b.block _ (lt_of_block D4.out)).trans D4.out
        clear hd HI B4 D4
        obtain ⟨BX, hBX⟩ : ∃ BX, BX = wr.heap.size := ⟨_, rfl⟩
        rw [← hBX] at z1 z2 z3 z4 z5 HB ⊢
        clear hBX
        have HFI : Hid _ := fit_any w4 x.k x.s x.n x.nm x.m
        cases hf : fitL x.s x.n x.nm with
        | false =>
          rw [hf] at HFI
          go_wp2_with (go_at_call 8; refine Calls.mono HFI.out ?_; rintro r w5 ⟨rfl, b5⟩; have B5 : Hid _ := b5; clear b5)
          have hg := HG.out
          go_roundw
          case rel => exact ⟨i + 1, c, l, S, by omega, by omega, by go_num, (show Hid _ from (⟨(I4.out.1.fresh B5.out).up (Nat.le_succ _), bmm I4.out.2 I4.out.2.size B5.out⟩ : _ ∧ _))⟩
          case measure => simp [intOf]; omega
        | true =>
          rw [hf] at HFI
          go_upto_region 10 with (go_at_call 8; refine Calls.mono HFI.out ?_; rintro r w5 ⟨rfl, b5⟩; have I5 : Hid (LcW w5 w.heap.size D S i c l ∧ Below w.heap.size w w5) := ⟨I4.out.1.fresh b5, bmm I4.out.2 I4.out.2.size b5⟩; have D5 : Hid (LdAt w5 BX x) := HB.out w5 b5; clear b5)
          clear z1 z2 z3 z4 z5 HFI
          have hok := fitL_yes hf
          have HK : Hid (okI x.s ∧ okI x.n ∧ x.nm.size ≤ 1000) := hok
          have hd := D5.out
          have z0 := hd.box 0 _ rfl
          have z1 := hd.box 1 _ rfl
          have z2 := hd.box 2 _ rfl
          have z3 := hd.box 3 _ rfl
          have z4 := hd.box 4 _ rfl
          have z5 := hd.box 5 _ rfl
          clear hd hok hf HB I4
          go_upto_block 2 with (go_at_call 20; refine Calls.mono I5.out.1.token ?_; rintro r w6 ⟨rfl, hz⟩; obtain rfl : w5 = w6 := hz.symm)
          go_cut [9] (fun u wc => Hid (TokW w wc D i c u))
          case first =>
            have hn : i < 32767 := by omega
            have HC0 : Hid _ := I5.out.1.ask hn x.k x.s x.n x.nm x.m HK.out.1 HK.out.2.1 HK.out.2.2
            have HC1 : Hid _ := I5.out.1.rel hn x.k x.s x.n x.nm x.m HK.out.1 HK.out.2.2
            have HC2 : Hid _ := I5.out.1.gone hn HK.out.1
            have HS : Hid (∀ y ∈ l, y.h.length + y.q.length ≤ i) := fun y hy => (I5.out.1.fit.each y hy).sum
            have HG2 : Hid ((gonL c l x.s).2.2.length ≤ 60000) := Nat.le_trans (few_gon c l x.s HS.out I5.out.1.ok.each I5.out.1.fit.len) (by have := HG.out; omega)
            have HG1 : Hid ((relL c l x.k x.s x.n x.nm).2.2.length ≤ 60000) := Nat.le_trans (few_rel c l x.k x.s x.n x.nm HS.out) (by have := HG.out; omega)
            have HG0 : Hid ((askL c l x.k x.s x.n x.nm).2.2.1.length ≤ 60000) := Nat.le_trans (few_ask c l x.k x.s x.n x.nm) (by decide)
            clear hn
            cases k0 : (x.kind == 0) with
            | true =>
              go_wp2_with (go_at_call 10; refine Calls.mono HC0.out ?_; rintro r w6 ⟨u6, S6, rfl, r6, h6, k6, s6⟩; have J6 : Hid (TokW w w6 D i c u6) := TokW.rep (q := ((askL c l x.k x.s x.n x.nm).1, (askL c l x.k x.s x.n x.nm).2.1, (askL c l x.k x.s x.n x.nm).2.2.1)) I5.out.1 I5.out.2 r6 h6 k6 (run_ask _ _ _ _ _ _) HG0.out; clear r6 h6 k6 s6)
              go_meet
              exact J6
            | false =>
              cases k1 : (x.kind == 1) with
              | true =>
                go_wp2_with (go_at_call 12; refine Calls.mono HC1.out ?_; rintro r w6 ⟨u6, S6, rfl, r6, h6, k6, s6⟩; have J6 : Hid (TokW w w6 D i c u6) := TokW.rep I5.out.1 I5.out.2 r6 (h6.up (Nat.le_succ _)) k6 (run_rel _ _ _ _ _ _) HG1.out; clear r6 h6 k6 s6)
                go_meet
                exact J6
              | false =>
                cases k2 : (x.kind == 2) with
                | true =>
                  go_wp2_with (go_at_call 14; refine Calls.mono HC2.out ?_; rintro r w6 ⟨u6, S6, rfl, r6, h6, k6, s6⟩; have J6 : Hid (TokW w w6 D i c u6) := TokW.rep I5.out.1 I5.out.2 r6 (h6.up (Nat.le_succ _)) k6 (run_gon _ _ _) HG2.out; clear r6 h6 k6 s6)
                  go_meet
                  exact J6
                | false =>
                  go_wp2_with fail
                  go_meet
                  exact TokW.none' I5.out.1 I5.out.2
          case rest =>
            have hc0 := I5.out.1.fit.c0
            clear z0 z1 z2 z3 z4 z5 I5 D5 HK
            obtain ⟨gs, c', l', S', h6, b6, r6, t6, n6⟩ := hcut.out.ex
            obtain ⟨pg, qg, rfl⟩ := r6.form
            obtain ⟨G, hG⟩ : ∃ G, G = gs.length := ⟨_, rfl⟩
            rw [← hG] at r6 n6 ⊢
            have H6 : Hid (LcW wc w.heap.size D S' (i + 1) c' l' ∧ Below w.heap.size w wc) := ⟨h6, b6⟩
            have R6 : Hid (RowAt rpC wc (.slice pg G qg) gs ∧ G = gs.length ∧ G ≤ 60000) := ⟨r6, hG, n6⟩
            have T6 : Hid (runT c gs c' ∧ 0 ≤ c) := ⟨t6, hc0⟩
            have hle := t6.le
            have tl : decide (c' < c) = false := decide_eq_false (by omega)
            have tln : ¬ c' < c := by omega
            clear h6 b6 r6 t6 n6 hG hle hcut hc0
            go_wp2_with (go_at_call 20; refine Calls.mono H6.out.1.token ?_; rintro r w6 ⟨rfl, hz⟩; obtain rfl : wc = w6 := hz.symm)
            go_loopw [11, 12] (fun s11 s12 wr2 => ∃ (k : Nat) (d : Int), s11 = .int .u64 d ∧ s12 = .int .i64 (k : Int) ∧ k ≤ G ∧ wr2 = wc ∧ Hid (runT d (gs.drop k) c' ∧ 0 ≤ d)) (fun _ s12 _ => G - (intOf s12).toNat)
            case atStart => exact ⟨0, c, rfl, rfl, Nat.zero_le _, rfl, T6⟩
            case round =>
              clear tl tln
              obtain ⟨k, d, rfl, rfl, hk', rfl, HD⟩ := hrel
              by_cases hk : k < G
              · have t3 : decide ((k : Int) < (G : Int)) = true := decide_eq_true (by omega)
                have hkg : k < gs.length := by have := R6.out.2.1; omega
                have hG6 := R6.out.2.2
                obtain ⟨t, ht⟩ : ∃ t, t = gs[k].token := ⟨_, rfl⟩
                obtain ⟨bg, og, kg, eg, _, _, hg⟩ := R6.out.1.cells rpC_len (by omega)
                have cg := hg k hkg 3 (.int .u64 t) (by decide) (by rw [ht]; rfl)
                simp only [Value.slice.injEq] at eg
                obtain ⟨e1, hx1, hx2⟩ := eg
                clear hx1 hx2 hg
                subst e1
                have hrun := HD.out.1
                rw [List.drop_eq_getElem_cons hkg] at hrun
                obtain ⟨d', h1, h2⟩ := hrun
                rw [← ht] at h1
                have h3 := h2.le
                have h4 := HD.out.2
                have HN : Hid (runT d' (gs.drop (k + 1)) c' ∧ 0 ≤ d') := ⟨h2, by omega⟩
                clear ht h2 hkg
                by_cases ht0 : t = 0
                · have e2 : d' = d := by omega
                  subst e2
                  subst ht0
                  have hm : max d' 0 = d' := by omega
                  clear h1 h3 h4 HD
                  go_wp2
                  go_roundw
                  case rel => exact ⟨k + 1, d', by first | rfl | simp [hm], by go_num, hk, (by first | exact trivial | exact rfl), HN⟩
                  case measure => simp [intOf]; omega
                · have t4 : (t != 0) = true := by simpa using ht0
                  have e2 : t = d' := by omega
                  subst e2
                  have t5 : decide (t < d) = false := decide_eq_false (by omega)
                  have t5n : ¬ t < d := by omega
                  have t6 : decide (t > c') = false := decide_eq_false (by omega)
                  have t6n : ¬ c' < t := by omega
                  have hm : max d t = t := by omega
                  clear h1 h3 h4 HD
                  go_wp2
                  go_roundw
                  case rel => exact ⟨k + 1, t, by first | rfl | simp [hm], by go_num, hk, (by first | exact trivial | exact rfl), HN⟩
                  case measure => simp [intOf]; omega
              · have t3 : decide ((k : Int) < (G : Int)) = false := decide_eq_false (by omega)
                have hdc : d = c' := by
                  have h := HD.out.1
                  rw [List.drop_eq_nil_of_le (by have := R6.out.2.1; omega)] at h
                  exact h
                subst hdc
                have hg := HG.out
                have t4 : (d != d) = false := by simp
                by_cases hgt : c < d
                · have t5 : decide (d > c) = true := decide_eq_true hgt
                  go_wp2
                  go_roundw
                  case rel => exact ⟨i + 1, d, l', S', by omega, by omega, by go_num, H6⟩
                  case measure => simp [intOf]; omega
                · have t5 : decide (d > c) = false := decide_eq_false hgt
                  go_wp2
                  go_roundw
                  case rel => exact ⟨i + 1, d, l', S', by omega, by omega, by go_num, H6⟩
                  case measure => simp [intOf]; omega
      · have t2 : decide ((i : Int) < 200) = false := decide_eq_false (by omega)
        go_wp2_with (go_at_call 18; refine Calls.mono (awake_any _) ?_; rintro r w9 ⟨rfl, b9⟩; have B9 : Hid _ := b9; clear b9)
        go_ret
        exact ⟨rfl, bmm HI.out.2 HI.out.2.size B9.out⟩
    · have t1 : decide ((i : Int) < (L : Int)) = false := decide_eq_false (by omega)
      go_wp2_with (go_at_call 18; refine Calls.mono (awake_any _) ?_; rintro r w9 ⟨rfl, b9⟩; have B9 : Hid _ := b9; clear b9)
      go_ret
      exact ⟨rfl, bmm HI.out.2 HI.out.2.size B9.out⟩
end Go.Proofs.Ytmfadmhbkgemmaa
