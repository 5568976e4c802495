/-
  The document's learner: up to a slot all is applied, the known ones from a slot on, the known ones up to a slot forgotten. The conditions: at most 2^29 entries; an int's slot.
-/
import Derived.Test.YtnoappklbipdhaaLrpLxC
namespace Go.Proofs.Ytnoappklbipdhaa
open Go.RowKit

section
variable {w : World} {base X : Nat} {S : Nat → Prop} {p : Ln} {n : Nat} {u : Value}
set_option maxHeartbeats 3200000 in
set_option maxRecDepth 100000 in
theorem rforget_any (h : RlV w base X S p u) (hl : p.l.length ≤ 1073741824) (b : Int) : Calls Try.prog 16 #[.pointer (some ⟨X, 0, none⟩), .int .i64 b] w (RdPost w base X S (forL p b)) := by
  have c0 := h.c0
  obtain ⟨m, hm⟩ : ∃ m, m = min b p.ap := ⟨_, rfl⟩
  have HM : Hid (min b p.ap = m) := hm.symm
  have HD : Hid (Calls Try.prog 28 #[.pointer (some ⟨X, 0, none⟩), .int .i64 m] w (RdPost w base X S ⟨p.ap, dropE p.l m⟩)) := rdrop_any h hl m
  have e1 : forL p b = ⟨p.ap, dropE p.l m⟩ := by unfold forL; rw [hm]
  rw [e1]
  clear hm h e1
  go_enter Try.func16, Try.ntmps16
  go_wp2_with (go_at_call 28; rw [HM.out]; refine Calls.mono HD.out ?_; rintro r w2 ⟨S', rfl, h2⟩; have H2 : Hid _ := h2; clear h2)
  go_returns
  exact ⟨S', rfl, H2.out⟩
set_option maxHeartbeats 3200000 in
set_option maxRecDepth 100000 in
theorem rjump_any (h : RlV w base X S p u) (hok : LnOk p n) (hn : n ≤ 1073741824) {b : Int} (hb : b ≤ MXi) : Calls Try.prog 12 #[.pointer (some ⟨X, 0, none⟩), .int .i64 b] w (RlPost w base X S (jumL p b)) := by
  have c0 := h.c0
  have f0 := h.fz 0
  by_cases hbp : b ≤ p.ap
  · have e1 : jumL p b = (p, []) := by unfold jumL; rw [if_pos hbp]
    rw [e1]
    have t0 : decide (b ≤ p.ap) = true := decide_eq_true hbp
    have HH : Hid _ := h
    clear h hok hbp e1
    go_enter Try.func12, Try.ntmps12
    go_wp2
    go_ret
    exact ⟨S, _, rfl, ⟨_, HH.out⟩, Kept.refl _ _, AnsE.nil _ _ _⟩
  · have e1 : jumL p b = folL ⟨b, dropE p.l b⟩ := by unfold jumL; rw [if_neg hbp]
    rw [e1]
    have t0 : decide (b ≤ p.ap) = false := decide_eq_false hbp
    have ha := hok.ap
    have HOK : Hid (LnOk ⟨b, dropE p.l b⟩ n ∧ n ≤ 1073741824) := (show Hid _ from (⟨hok.drop (by omega) hb, hn⟩ : _ ∧ _))
    obtain ⟨y, hy⟩ : ∃ y, y = w.setCell ⟨X, 0, none⟩ (.int .i64 b) := ⟨_, rfl⟩
    have hA : RlV y base X S ⟨b, p.l⟩ u := by rw [hy]; exact h.set0 b
    have k0 : Kept w y S S := by rw [hy]; exact h.kept0 0 _
    have HD : Hid (Calls Try.prog 28 #[.pointer (some ⟨X, 0, none⟩), .int .i64 b] y (RdPost y base X S ⟨b, dropE p.l b⟩)) := rdrop_any hA (Nat.le_trans hok.ln hn) b
    have K0 : Hid _ := k0
    have HY : Hid (w.setCell ⟨X, 0, none⟩ (.int .i64 b) = y) := hy.symm
    clear h hok hbp e1 hA k0 hy ha hn
    go_enter Try.func12, Try.ntmps12
    go_upto_region 4 with fail
    rw [HY.out]
    clear c0 f0
    go_upto_region 5 with (go_at_call 28; refine Calls.mono HD.out ?_; rintro r w2 ⟨S', rfl, ⟨u2, h2⟩, k2⟩; have H2 : Hid _ := h2; have K2 : Hid (Kept w w2 S S') := K0.out.trans k2; clear h2 k2)
    go_wp2_with (go_at_call 26; refine Calls.mono (rfollow_any H2.out HOK.out.1 HOK.out.2) ?_; intro r wF hF; have HF := hF.back K2.out; obtain ⟨S9, g9, rfl, h9⟩ := HF.ex; have H9 : Hid _ := h9; clear hF HF h9)
    go_ret
    exact ⟨S9, g9, rfl, H9.out⟩
structure SrI (w wr : World) (base X : Nat) (S : Nat → Prop) (p : Ln) (u : Value) (g : Value) (ys : List En) : Prop where
  r : RlV wr base X S p u
  o : OwnEn wr w.heap.size g ys
  b : Below w.heap.size w wr
set_option maxHeartbeats 6400000 in
set_option maxRecDepth 100000 in
theorem rsince_any (h : RlV w base X S p u) (hok : LnOk p n) (hn : n ≤ 1073741824) {s : Int} (hs : -9223372036854775808 ≤ s) (most : Int) : Calls Try.prog 14 #[.pointer (some ⟨X, 0, none⟩), .int .i64 s, .int .i64 most] w (SiPost w S (sinL p s most)) := by
  obtain ⟨i0, hi, hz0, hz1, hz2⟩ := info_parts infoEn
  obtain ⟨xs, hxs⟩ : ∃ xs, xs = leRow p.l s := ⟨_, rfl⟩
  have hrow := hok.row s
  rw [← hxs] at hrow
  obtain ⟨N, hN⟩ : ∃ N, N = (min (p.ap - s + 1) most).toNat := ⟨_, rfl⟩
  have e1 : sinL p s most = xs.take N := by unfold sinL; rw [← hxs, ← hN]
  rw [e1]
  have HX : Hid (RowF (leF p.l) s xs ∧ xs.length ≤ 1073741824 ∧ -9223372036854775808 ≤ s ∧ p.ap ≤ 9223372036854775807 ∧ p.l.length ≤ 1073741824) := (show Hid _ from (⟨hrow.1, Nat.le_trans hrow.2 hn, hs, hok.ap.2, Nat.le_trans hok.ln hn⟩ : _ ∧ _ ∧ _ ∧ _ ∧ _))
  have HN : Hid (N = (min (p.ap - s + 1) most).toNat) := hN
  have HB : Hid (∀ b, S b → b < w.heap.size) := fun b hb => (h.bd b hb).2
  have I0 : Hid (SrI w w base X S p u (.slice none 0 0) []) := (show Hid _ from (⟨h, World.ownsRow_nil _ _ _ _, Below.refl _ _⟩ : SrI w w base X S p u (.slice none 0 0) []))
  clear h hok hn hs hxs hrow hN e1
  go_enter Try.func14, Try.ntmps14
  go_wp2
  go_loopw [1, 7] (fun z g wr => ∃ k : Nat, k ≤ xs.length ∧ k ≤ N ∧ z = .int .i64 (s + (k : Int)) ∧ Hid (SrI w wr base X S p u g (xs.take k))) (fun _ g _ => xs.length - lenS g)
  case atStart => exact ⟨0, Nat.zero_le _, Nat.zero_le _, by simp, by simpa using I0⟩
  case round =>
    clear I0
    obtain ⟨k, hk, hkN, rfl, HI⟩ := hrel
    obtain ⟨pv, cv, hg⟩ := (OwnEn.row HI.out.o).form
    obtain ⟨nv, hnv⟩ : ∃ nv, nv = (xs.take k).length := ⟨_, rfl⟩
    have hnk : nv = k := by rw [hnv, List.length_take]; omega
    rw [← hnv] at hg
    subst hg
    obtain ⟨A, hA⟩ : ∃ A, A = s + (k : Int) := ⟨_, rfl⟩
    rw [← hA]
    have c0 := HI.out.r.c0
    have HA : Hid (A = s + (k : Int) ∧ nv = k ∧ nv = (xs.take k).length ∧ k ≤ xs.length ∧ k ≤ N) := (show Hid _ from (⟨hA, hnk, hnv, hk, hkN⟩ : _ ∧ _ ∧ _ ∧ _ ∧ _))
    have FIN : Hid (xs.take k = xs.take N → SiPost w S (xs.take N) (.returned (.slice pv nv cv)) wr) := (show Hid _ from fun he => by
      rw [← he]
      exact ⟨_, rfl, HI.out.b, ans_own HI.out.o HB.out⟩)
    by_cases hm : (nv : Int) < most
    · have t0 : decide ((nv : Int) < most) = true := decide_eq_true hm
      by_cases ha : A ≤ p.ap
      · have t1 : decide (A ≤ p.ap) = true := decide_eq_true ha
        have HFd : Hid (Calls Try.prog 25 #[.pointer (some ⟨X, 0, none⟩), .int .i64 A] wr (FdPost wr p.l A)) := rfind_any HI.out.r HX.out.2.2.2.2 A
        have HK : Hid (k < N) := (by have := HN.out; omega : k < N)
        have HAP : Hid (A ≤ p.ap) := ha
        clear hm ha hnv hnk hA hk hkN
        go_upto_region 4 with (go_at_call 25; refine Calls.mono HFd.out ?_; rintro r w2 ⟨⟨j, rfl, hj⟩, hw2⟩; rw [hw2]; clear hw2)
        rcases hj with ⟨rfl, hnn⟩ | ⟨j, hj, rfl, hnn⟩
        · have hke : xs.take k = xs.take N := by
            have hA := HA.out
            by_cases hlt : k < xs.length
            · have := HX.out.1.at' k hlt
              rw [← hA.1, hnn] at this
              cases this
            · rw [List.take_of_length_le (by omega), List.take_of_length_le (by have := HK.out; omega)]
          have HE : Hid (xs.take k = xs.take N) := hke
          clear hnn hke
          go_wp2
          go_ret
          exact FIN.out HE.out
        · have hA := HA.out
          have hlt : k < xs.length := by
            by_cases hlt : k < xs.length
            · exact hlt
            · have hke : k = xs.length := by omega
              rcases HX.out.1.stop with h1 | h1
              · rw [← hke, ← hA.1, hnn] at h1
                cases h1
              · have := HAP.out
                have := HX.out.2.2.2.1
                have h2 := h1.2
                rw [← hke, ← hA.1] at h2
                simp only [MXi] at h2
                omega
          have hx1 := HX.out.1.at' k hlt
          rw [← hA.1, hnn] at hx1
          obtain ⟨x, hx⟩ : ∃ x, x = p.l[j] := ⟨_, rfl⟩
          rw [← hx] at hx1
          have HXk : Hid (k < xs.length ∧ xs.take (k + 1) = xs.take k ++ [x]) := (show Hid _ from (⟨hlt, by rw [List.take_add_one, List.getElem?_eq_getElem hlt, Option.some.inj hx1]; rfl⟩ : _ ∧ _))
          have t2 : decide ((j : Int) < 0) = false := decide_eq_false (by omega)
          have q0 : ((j : Nat) : Int) < (p.l.length : Int) := by omega
          clear hA hlt hnn hx1
          go_upto_region 5 with fail
          obtain ⟨va, vc, hu⟩ := HI.out.r.form
          subst hu
          have c1 := HI.out.r.c1
          have hrow : RowAt enC wr (.slice va p.l.length vc) p.l := OwnEn.row HI.out.r.own
          obtain ⟨bk, off, cap', hvv, hcap, hbk, hc⟩ := hrow.cells enC_len (by omega)
          injection hvv with e1 e2 e3
          subst e1 e3
          have z0 := hc j hj 0 (.int .i64 x.slot) (by decide) (by rw [hx]; rfl)
          have z1 := hc j hj 1 (.int .i64 x.ballot) (by decide) (by rw [hx]; rfl)
          have z2 := hc j hj 2 (.int .i64 x.cmd.kind) (by decide) (by rw [hx]; rfl)
          have z3 := hc j hj 3 (.int .i64 x.cmd.session) (by decide) (by rw [hx]; rfl)
          have z4 := hc j hj 4 (.int .i64 x.cmd.seq) (by decide) (by rw [hx]; rfl)
          have z5 := hc j hj 5 (.string x.cmd.name) (by decide) (by rw [hx]; rfl)
          have z6 := hc j hj 6 (.int .i64 x.cmd.n) (by decide) (by rw [hx]; rfl)
          rw [Nat.add_zero] at z0
          have hO : wr.ownsRow w.heap.size 30 7 (.slice pv nv cv) nv (rowL enC (xs.take k)) := by
            have := HI.out.o
            rw [OwnEn, ← HA.out.2.2.1] at this
            exact this
          have HO : Hid _ := hO
          have HSZ : Hid (w.heap.size ≤ wr.heap.size ∧ nv ≤ 1073741824) := (show Hid _ from (⟨HI.out.b.size, by have := HA.out; have := HX.out; omega⟩ : _ ∧ _))
          clear hc hx hrow hO hcap hbk c0
          go_upto_region 6 with (at_builtin; refine wpList_app_row (k := 7) (enc := enC) (l := [x]) rfl (.tmp 26) (.tmp 34) 33 30 rfl i0 _ 64 Try.underlying33 hi hz0 hz1 hz2 rfl (by decide) enC_len enC_one (base := w.heap.size) rfl rfl (World.ownsRow.alloc HO.out _) (RowAt.built (heap_alloc_new _ _) rfl 1 rfl rfl) (by have := HSZ.out; simp; omega) (by have := HSZ.out; simp; omega) (by have := HSZ.out; simp; omega) ?_; intro u6 w6 o6 a6)
          have o6' : OwnEn w6 w.heap.size u6 (xs.take (k + 1)) := by
            rw [HXk.out.2, OwnEn, List.length_append, rowL_append, ← HA.out.2.2.1]
            exact o6
          have hl6 : (xs.take (k + 1)).length = nv + 1 := by
            rw [HXk.out.2, List.length_append, ← HA.out.2.2.1]
            rfl
          obtain ⟨p6, c6, hu6⟩ := (OwnEn.row o6').form
          rw [hl6] at hu6
          subst hu6
          have b6 : Below w.heap.size w w6 := (HI.out.b.alloc HSZ.out.1 _).trans a6.below
          have r6 : RlV w6 base X S p (.slice (some ⟨bk, off, none⟩) p.l.length vc) := HI.out.r.keep fun b hb => (b6.block b (HB.out b hb)).trans (HI.out.b.block b (HB.out b hb)).symm
          have I6 : Hid (SrI w w6 base X S p (.slice (some ⟨bk, off, none⟩) p.l.length vc) (.slice p6 (nv + 1) c6) (xs.take (k + 1))) := (show Hid _ from (⟨r6, o6', b6⟩ : SrI w w6 base X S p (.slice (some ⟨bk, off, none⟩) p.l.length vc) (.slice p6 (nv + 1) c6) (xs.take (k + 1))))
          have c0 := r6.c0
          clear o6 a6 o6' hl6 b6 r6 z0 z1 z2 z3 z4 z5 z6 c1
          by_cases he : A = p.ap
          · have t3 : (A == p.ap) = true := by simpa using he
            have hNk : k + 1 = N := by have := HN.out; have := HA.out; have := HK.out; omega
            have HE : Hid (k + 1 = N) := hNk
            clear he hNk
            go_wp2
            go_ret
            rw [← HE.out]
            exact ⟨_, rfl, I6.out.b, ans_own I6.out.o HB.out⟩
          · have t3 : (A == p.ap) = false := by simpa using he
            have k1 : IntKind.i64.wrap (A + 1) = A + 1 := by rw [IntKind.wrap_i64]; have := HAP.out; have := HX.out; have := HA.out; omega
            clear he
            go_wp2
            go_roundw
            case rel => exact ⟨k + 1, HXk.out.1, HK.out, by rw [show s + ((k + 1 : Nat) : Int) = A + 1 by have := HA.out; omega], I6.out⟩
            case measure =>
              have := HXk.out.1
              have := HA.out
              simp [lenS]
              omega
      · have t1 : decide (A ≤ p.ap) = false := decide_eq_false ha
        have HE : Hid (xs.take k = xs.take N) := (by have := HN.out; rw [show N = k by omega] : xs.take k = xs.take N)
        clear hm ha hnv hnk hA hk hkN
        go_wp2
        go_ret
        exact FIN.out HE.out
    · have t0 : decide ((nv : Int) < most) = false := decide_eq_false hm
      have HE : Hid (xs.take k = xs.take N) := (by have := HN.out; rw [show N = k by omega] : xs.take k = xs.take N)
      clear hm hnv hnk hA hk hkN
      go_wp2
      go_ret
      exact FIN.out HE.out
end
end Go.Proofs.Ytnoappklbipdhaa
