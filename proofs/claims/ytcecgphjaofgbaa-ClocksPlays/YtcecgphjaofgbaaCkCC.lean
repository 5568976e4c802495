/-
  Package clocks: all go on. The condition: the numbers handed in lie in no block of the clocks' own.
-/
import Derived.Test.YtcecgphjaofgbaaCkCB
namespace Go.Proofs.Ytcecgphjaofgbaa
open Go.RowKit

section
variable {w : World} {base D : Nat} {S : Nat → Prop} {l : List Nat} {real : Nat}
set_option maxHeartbeats 1600000 in
theorem pgo_any (h : CkAt PT w base D S l real) (dr : Int) (hd : dr ≤ 9223372036854775807) (v : Value) (bs : List Int) (hv : IntsAt w v bs) (hS : ∀ a bk off n cap, 0 < n → v = .slice a n cap → a = some ⟨bk, off, none⟩ → ¬ S bk) :
    Calls Try.prog 12 #[.pointer (some ⟨D, 0, none⟩), .int .i64 dr, v] w fun e w' => e = .returned (.int .i64 (goZ l real dr bs)) ∧ GoPost PT w w' base D S l real dr bs := by
  have hng := pneg_any w v bs hv
  have hmy := fun hl => pmay_any h dr v bs hv hl
  obtain ⟨av, cv, rfl, _, hx⟩ := hv.ex
  have HX : Hid (bs.length = 0 ∨ ∃ bk off, av = some ⟨bk, off, none⟩ ∧ bk < w.heap.size ∧ ∀ j (hj : j < bs.length), w.cell? ⟨bk, off + j, none⟩ = some (.int .i64 bs[j])) := hx
  have HS : Hid (0 < bs.length → ∀ bk off, av = some ⟨bk, off, none⟩ → ¬ S bk) := fun h0 bk off e => hS av bk off _ _ h0 rfl e
  have hmx : bs.length ≤ 9223372036854775807 := hv.mx
  have HC : Hid _ := h
  have hn2 := h.n2
  have hrl := h.rl
  obtain ⟨g, c, hb, c0, c1, f1, hSg, hgl, hc, hf, hgD⟩ := h.cellsP
  have HB : Hid _ := hb
  clear hv hS hx h hb hc hf
  by_cases h1 : dr < 0
  · have q1 : decide (dr < 0) = true := decide_eq_true h1
    have e : goZ l real dr bs = 1 := by unfold goZ; rw [if_pos (Or.inl h1)]
    rw [e]
    have HP : Hid _ := GoPost.no HC.out e (by decide) (Below.refl _ w)
    clear e hng hmy
    go_enter Try.func12, Try.ntmps12
    go_wp2
    go_ret
    exact ⟨rfl, HP.out⟩
  have q1 : decide (dr < 0) = false := decide_eq_false h1
  by_cases h2n : ¬ bs.length = l.length
  · have q2 : ((bs.length : Int) != (l.length : Int)) = true := by
      rw [bne_iff_ne]
      omega
    have e : goZ l real dr bs = 1 := by unfold goZ; rw [if_pos (Or.inr (Or.inl h2n))]
    rw [e]
    have HP : Hid _ := GoPost.no HC.out e (by decide) (Below.refl _ w)
    clear e hng hmy
    go_enter Try.func12, Try.ntmps12
    go_wp2
    go_ret
    exact ⟨rfl, HP.out⟩
  have HLEN : Hid (bs.length = l.length) := by show _ = _; omega
  have q2 : ((bs.length : Int) != (l.length : Int)) = false := by
    have := HLEN.out
    rw [bne_eq_false_iff_eq]
    omega
  have hbl : bs.length ≤ 13 := by have := HLEN.out; omega
  have hm2 := hmy HLEN.out
  clear h2n hmy
  cases hN : negB bs with
  | true =>
    have e : goZ l real dr bs = 1 := by unfold goZ; rw [if_pos (Or.inr (Or.inr hN))]
    rw [e]
    rw [hN] at hng
    have HP : Hid _ := GoPost.no HC.out e (by decide) (Below.refl _ w)
    clear e hm2 hN
    go_enter Try.func12, Try.ntmps12
    go_wp2_with (go_at_call 24; refine hng.mono ?_; rintro e w1 ⟨rfl, rfl⟩)
    go_ret
    exact ⟨rfl, HP.out⟩
  | false =>
    have hz0 : ¬ (dr < 0 ∨ bs.length ≠ l.length ∨ negB bs = true) := by
      have := HLEN.out
      rw [hN]
      simp
      omega
    have HNN : Hid (∀ j (hj : j < bs.length), 0 ≤ bs[j]) := fun j hj => by
      unfold negB at hN
      rw [List.any_eq_false] at hN
      have := hN bs[j] (List.getElem_mem hj)
      simpa using this
    rw [hN] at hng
    cases hF : farK l real dr bs bs.length with
    | true =>
      have e : goZ l real dr bs = 15 := by unfold goZ; rw [if_neg hz0, if_pos hF]
      rw [e]
      rw [hF] at hm2
      have HP : Hid _ := GoPost.no HC.out e (by decide) (Below.refl _ w)
      clear e hz0 hN hF
      go_enter Try.func12, Try.ntmps12
      go_wp2_with (first
        | (go_at_call 25; refine hm2.mono ?_; rintro e w1 ⟨rfl, rfl⟩)
        | (go_at_call 24; refine hng.mono ?_; rintro e w1 ⟨rfl, rfl⟩))
      go_ret
      exact ⟨rfl, HP.out⟩
    | false =>
      have HZ : Hid (goZ l real dr bs = 0) := by show _ = _; unfold goZ; rw [if_neg hz0, if_neg (by rw [hF]; simp)]
      obtain ⟨hfr, hfa⟩ := farK_at hF
      have HALL : Hid _ := hfa
      rw [hF] at hm2
      clear hz0 hN hF hfa
      obtain ⟨dn, rfl⟩ : ∃ dn : Nat, dr = (dn : Int) := ⟨dr.toNat, by omega⟩
      have hsum : real + dn ≤ 1099511627776 := by omega
      have HG0 := HC.out.goP HB.out hsum
      have e5 : (((real + dn : Nat)) : Int) = (real : Int) + (dn : Int) := by omega
      rw [e5] at HG0
      obtain ⟨G1, G2, G3⟩ := HG0
      have K0 : Hid (Kept w (w.setCell ⟨D, 0, none⟩ (.int .i64 ((real : Int) + (dn : Int)))) S S) := G2
      have G1h : Hid _ := G1
      clear G1 G2 G3 e5
      go_enter Try.func12, Try.ntmps12
      go_wp2_with (first
        | (go_at_call 25; refine hm2.mono ?_; rintro e w1 ⟨rfl, rfl⟩)
        | (go_at_call 24; refine hng.mono ?_; rintro e w1 ⟨rfl, rfl⟩))
      go_loopw [7, 8, 46] (fun _ _ i wr => ∃ k : Nat, k ≤ bs.length ∧ i = .int .i64 k ∧ CkAt PT wr base D S (goL l bs k) (real + dn) ∧ Kept w wr S S) (fun _ _ i _ => bs.length - (intOf i).toNat)
      case atStart => exact ⟨0, Nat.zero_le _, rfl, by rw [goL_zero]; exact G1h.out, K0.out⟩
      case round =>
        clear K0 G1h hng hm2 c0 c1 f1
        obtain ⟨k, hk, rfl, hCk, hK⟩ := hrel
        by_cases hkl : k < bs.length
        · rcases HX.out with h0 | ⟨bk, off, rfl, hbk, hxx⟩
          · omega
          have hkL : k < l.length := by have := HLEN.out; omega
          have hnS := HS.out (by omega) bk off rfl
          have z0 : wr.cell? ⟨bk, off + k, none⟩ = some (.int .i64 bs[k]) := (World.cell?_of_block (hK.kept bk hbk hnS)).trans (hxx k hkl)
          obtain ⟨g2, c2, hb2, a0, _, _, hSg2, hgl2, hcc, hff, hgD2⟩ := hCk.cellsP
          rw [goL_length] at hb2 a0
          have zc := hcc k (by rw [goL_length]; exact hkL)
          rw [goL_at l bs k hkL (by rw [goL_length]; exact hkL)] at zc
          have zf := hff k
          have hbd := HALL.out k hkl
          have hgb : bs.getD k 0 = bs[k] := by simp [List.getD, hkl]
          have hgl3 : l.getD k 0 = l[k] := by simp [List.getD, hkL]
          rw [hgb, hgl3] at hbd
          have hnn := HNN.out k hkl
          have hlk := HC.out.le _ (List.getElem_mem hkL)
          obtain ⟨q, hq⟩ : ∃ q : Nat, bs[k] = (q : Int) := ⟨bs[k].toNat, by omega⟩
          have hP := hCk.putP (n := k) (x := l[k] + q) (by rw [goL_length]; exact hb2) (by omega)
          have e6 : (((l[k] + q : Nat)) : Int) = (l[k] : Int) + (q : Int) := by omega
          have e7 : (goL l bs k).set k (l[k] + q) = goL l bs (k + 1) := by
            rw [← goL_succ l bs k hkL, hgb, hq]
            rfl
          rw [e6, e7, ← hq] at hP
          have HN : Hid (CkAt PT (wr.setCell ⟨g2, k, none⟩ (.int .i64 ((l[k] : Int) + bs[k]))) base D S (goL l bs (k + 1)) (real + dn) ∧ Kept w (wr.setCell ⟨g2, k, none⟩ (.int .i64 ((l[k] : Int) + bs[k]))) S S) := ⟨hP.1, hK.trans hP.2⟩
          have hwr : IntKind.i64.wrap ((l[k] : Int) + bs[k]) = (l[k] : Int) + bs[k] := IntWalk.i64_in _ ⟨by omega, by omega⟩
          clear hxx hb2 hcc hff hP hCk hK e6 e7 hq hgb hgl3 HZ HS HALL
          go_wp2
          go_roundw
          case rel => exact ⟨k + 1, hkl, by go_num, HN.out.1, HN.out.2⟩
          case measure => simp [intOf]; omega
        · have hke : k = bs.length := by omega
          subst hke
          have HP : Hid (GoPost PT w wr base D S l real (dn : Int) bs) := ⟨fun _ => by
            rw [HLEN.out] at hCk
            simpa using hCk, fun e => absurd HZ.out e, hK⟩
          clear hCk hK
          go_wp2
          go_ret
          exact ⟨by rw [HZ.out]; rfl, HP.out⟩
end
end Go.Proofs.Ytcecgphjaofgbaa
