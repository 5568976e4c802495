/-
  WalSure of layer 11, walked. The condition: package frame's table lies in memory.
-/
import Derived.Test.YtdhlbldmdeepiaaGreatDoorWWwSure
namespace Go.Proofs.YtdhlbldmdeepiaaGreatDoor
open Go.RowKit

theorem Tab.at {w w' : World} {B : Nat} (h : Tab w) (b : Below B w w') (h0 : 0 < B) : Tab w' := h.low b h0
theorem row_upto {w : World} {base : Nat} {u : Value} {p : Option Addr} {q n : Nat} {la lb R : List Rc} (h1 : R = (la ++ lb).take R.length) (h2 : R.length ≤ la.length + lb.length) (e : u = .slice p n q) (h : w.ownsRow base 27 9 u (0 + la.length + lb.length) ([] ++ rowL rcC la ++ rowL rcC lb)) : RowAt rcC w (.slice p R.length q) R := by
  have h3 : w.ownsRow base 27 9 u (la ++ lb).length (rowL rcC (la ++ lb)) := by
    rw [List.length_append, rowL_append]
    rw [Nat.zero_add, List.nil_append] at h
    exact h
  have h4 := RowAt.own rcC_len h3
  rw [e] at h4
  have h5 := h4.upto R.length (by rw [List.length_append]; exact h2)
  rw [← h1] at h5
  exact h5
section
variable (w : World) (a0 a1 : Option Addr) (c0 c1 : Nat) (la lb : List Rc) (keep : Int)
set_option maxHeartbeats 6400000 in
set_option maxRecDepth 100000 in
theorem sure_great (hT : Tab w) (hg : 300 < la.length ∨ (la.length ≤ 300 ∧ 300 < lb.length)) :
    Calls Tryz.prog 5 #[.slice a0 la.length c0, .slice a1 lb.length c1, .int .i64 keep] w fun e w' => e = .returned (.bool true) ∧ Below w.heap.size w w' := by
  have hn := dnew_S w
  have HT : Hid (Tab w) := hT
  have hB0 := hT.1
  obtain ⟨B, hB⟩ : ∃ B, B = w.heap.size := ⟨_, rfl⟩
  have HB : Hid (B ≤ w.heap.size) := by rw [hB]; exact Nat.le_refl _
  rw [← hB] at hn hB0 ⊢
  clear hT hB
  rcases hg with hg | ⟨hg1, hg⟩
  · have t1 : decide ((300 : Int) < (la.length : Int)) = true := decide_eq_true (by omega)
    go_enter Tryz.func5, Tryz.ntmps5
    go_wp2_with (first
      | (go_at_call 12; refine (awake_any _ (HT.out.low b2 hB0)).mono ?_; rintro e w9 ⟨rfl, b9⟩)
      | (go_at_call 14; refine (open_zero k1).mono ?_; rintro e w2 ⟨L, rfl, h2, b2'⟩; have b2 := b1.trans (b2'.mono (Nat.le_trans HB.out b1.size)); clear h2 b2' k1)
      | (go_at_call 13; refine hn.mono ?_; rintro e w1 ⟨rfl, ro1, k1, b1⟩))
    go_ret
    exact ⟨rfl, b2.trans (b9.mono (Nat.le_trans HB.out b2.size))⟩
  · have t1 : decide ((300 : Int) < (la.length : Int)) = false := decide_eq_false (by omega)
    have t2 : decide ((300 : Int) < (lb.length : Int)) = true := decide_eq_true (by omega)
    go_enter Tryz.func5, Tryz.ntmps5
    go_wp2_with (first
      | (go_at_call 12; refine (awake_any _ (HT.out.low b2 hB0)).mono ?_; rintro e w9 ⟨rfl, b9⟩)
      | (go_at_call 14; refine (open_zero k1).mono ?_; rintro e w2 ⟨L, rfl, h2, b2'⟩; have b2 := b1.trans (b2'.mono (Nat.le_trans HB.out b1.size)); clear h2 b2' k1)
      | (go_at_call 13; refine hn.mono ?_; rintro e w1 ⟨rfl, ro1, k1, b1⟩))
    go_ret
    exact ⟨rfl, b2.trans (b9.mono (Nat.le_trans HB.out b2.size))⟩
set_option maxHeartbeats 6400000 in
set_option maxRecDepth 100000 in
theorem sure_bad (ha : RowAt rcC w (.slice a0 la.length c0) la) (hb : RowAt rcC w (.slice a1 lb.length c1) lb) (hT : Tab w) (hla : la.length ≤ 300) (hlb : lb.length ≤ 300) (hg : la.all mayR = false ∨ (la.all mayR = true ∧ lb.all mayR = false)) :
    Calls Tryz.prog 5 #[.slice a0 la.length c0, .slice a1 lb.length c1, .int .i64 keep] w fun e w' => e = .returned (.bool true) ∧ Below w.heap.size w w' := by
  have hn := dnew_S w
  have HT : Hid (Tab w) := hT
  have hB0 := hT.1
  have HA : Hid (∀ w', Below w.heap.size w w' → RowAt rcC w' (.slice a0 la.length c0) la) := fun w' b => ha.fresh b
  have HC : Hid (∀ w', Below w.heap.size w w' → RowAt rcC w' (.slice a1 lb.length c1) lb) := fun w' b => hb.fresh b
  clear ha hb
  obtain ⟨B, hB⟩ : ∃ B, B = w.heap.size := ⟨_, rfl⟩
  have HB : Hid (B ≤ w.heap.size) := by rw [hB]; exact Nat.le_refl _
  rw [← hB] at hn hB0 HA HC ⊢
  clear hT hB
  have t1 : decide ((300 : Int) < (la.length : Int)) = false := decide_eq_false (by omega)
  have t2 : decide ((300 : Int) < (lb.length : Int)) = false := decide_eq_false (by omega)
  rcases hg with hg | ⟨hg1, hg⟩
  · have HG : Hid (la.all mayR = false) := hg
    clear hg
    go_enter Tryz.func5, Tryz.ntmps5
    go_wp2_with (first
      | (go_at_call 12; refine (awake_any _ (HT.out.low b3 hB0)).mono ?_; rintro e w9 ⟨rfl, b9⟩)
      | (go_at_call 16; refine (wappend_bad L _ la (HA.out _ b2) (by omega) (HT.out.low b2 hB0) HG.out).mono ?_; rintro e w3 ⟨rfl, b3'⟩; have b3 := b2.trans (b3'.mono (Nat.le_trans HB.out b2.size)))
      | (go_at_call 14; refine (open_zero k1).mono ?_; rintro e w2 ⟨L, rfl, h2, b2'⟩; have b2 := b1.trans (b2'.mono (Nat.le_trans HB.out b1.size)); clear h2 b2' k1)
      | (go_at_call 13; refine hn.mono ?_; rintro e w1 ⟨rfl, ro1, k1, b1⟩))
    go_ret
    exact ⟨rfl, b3.trans (b9.mono (Nat.le_trans HB.out b3.size))⟩
  · have HG : Hid (la.all mayR = true) := hg1
    have HG2 : Hid (lb.all mayR = false) := hg
    clear hg hg1
    go_enter Tryz.func5, Tryz.ntmps5
    go_wp2_with (first
      | (go_at_call 12; refine (awake_any _ (HT.out.low b4 hB0)).mono ?_; rintro e w9 ⟨rfl, b9⟩)
      | (go_at_call 18; refine (write_bad L _ lb (HC.out _ b3) (by omega) (HT.out.low b3 hB0) HG2.out).mono ?_; rintro e w4 ⟨rfl, b4'⟩; have b4 := b3.trans (b4'.mono (Nat.le_trans HB.out b3.size)))
      | (go_at_call 16; refine (appendS h2.out _ la (HA.out _ b2) hla (HT.out.low b2 hB0) HG.out).mono ?_; rintro e w3 ⟨rfl, k3, A3, t3, ro3, h3, s3, b3'⟩; have b3 := b2.trans b3'; clear h3 s3)
      | (go_at_call 14; refine (open_zero k1).mono ?_; rintro e w2 ⟨L, rfl, h2', b2'⟩; have h2 : Hid _ := h2'; have b2 := b1.trans (b2'.mono (Nat.le_trans HB.out b1.size)); clear h2' b2' k1)
      | (go_at_call 13; refine hn.mono ?_; rintro e w1 ⟨rfl, ro1, k1, b1⟩))
    go_ret
    exact ⟨rfl, b4.trans (b9.mono (Nat.le_trans HB.out b4.size))⟩
set_option maxHeartbeats 6400000 in
set_option maxRecDepth 100000 in
theorem sure_good (ha : RowAt rcC w (.slice a0 la.length c0) la) (hb : RowAt rcC w (.slice a1 lb.length c1) lb) (hT : Tab w) (hla : la.length ≤ 300) (hlb : lb.length ≤ 300) (hga : la.all mayR = true) (hgb : lb.all mayR = true) (h1 : -9223372036854775808 ≤ keep) (h2 : keep ≤ 9223372036854775807) :
    Calls Tryz.prog 5 #[.slice a0 la.length c0, .slice a1 lb.length c1, .int .i64 keep] w fun e w' => e = .returned (.bool true) ∧ Below w.heap.size w w' := by
  obtain ⟨i0, hi, hz0, hz1, hz2⟩ := info_parts infoRc
  have hn := dnew_S w
  have HT : Hid (Tab w) := hT
  have hB0 := hT.1
  have HA : Hid (∀ w', Below w.heap.size w w' → RowAt rcC w' (.slice a0 la.length c0) la) := fun w' b => ha.fresh b
  have HC : Hid (∀ w', Below w.heap.size w w' → RowAt rcC w' (.slice a1 lb.length c1) lb) := fun w' b => hb.fresh b
  clear ha hb
  obtain ⟨B, hB⟩ : ∃ B, B = w.heap.size := ⟨_, rfl⟩
  have HB : Hid (B ≤ w.heap.size) := by rw [hB]; exact Nat.le_refl _
  rw [← hB] at hn hB0 HA HC ⊢
  clear hT hB
  have t1 : decide ((300 : Int) < (la.length : Int)) = false := decide_eq_false (by omega)
  have t2 : decide ((300 : Int) < (lb.length : Int)) = false := decide_eq_false (by omega)
  obtain ⟨p1, p2, p3⟩ := crT_take hga hgb keep
  have p4 := crT_all hga hgb keep
  have hfb := frames_300 hgb hlb
  obtain ⟨R, hR⟩ : ∃ R, R = (recs (crT la lb keep)).1 := ⟨_, rfl⟩
  have HR : Hid (R = (recs (crT la lb keep)).1) := hR
  rw [← hR] at p1 p2 p3 p4
  have HP1 : Hid (R = (la ++ lb).take R.length) := p1
  have t3 : (R.length < la.length) = False := eq_false (by omega)
  have t4 : (la.length + lb.length < R.length) = False := eq_false (by omega)
  have t4i : ((la.length : Int) + (lb.length : Int) < (R.length : Int)) = False := eq_false (by omega)
  have t5 : ¬ keep < 1048576 → R.length = la.length + lb.length := fun hk => p4 (by omega)
  have HGA : Hid (la.all mayR = true) := hga
  have HGB : Hid (lb.all mayR = true) := hgb
  have hRl : R.length ≤ 1099511627776 := by omega
  clear hga hgb hR p1 p4 hfb
  by_cases hk : keep < 1048576
  · have t7 : (keep < 1048576) = True := eq_true hk
    clear t5 hk
    go_enter Tryz.func5, Tryz.ntmps5
    go_wp2_with (first
      | (go_at_call 12; refine (awake_any _ (HT.out.low (b8.trans (b9.mono (Nat.le_trans HB.out b8.size))) hB0)).mono ?_; rintro e w10 ⟨rfl, b10⟩)
        | (go_at_call 25; refine (rrecs_same w8 _ _ R r8.out s8.out hRl).mono ?_; rintro e w9 ⟨rfl, b9⟩)
        | (at_builtin; have y := h7; refine wpList_app_row (k := 9) (enc := rcC) (l := lb) rfl (.tmp 78) (.tmp 79) 47 27 rfl i0 _ 80 Tryz.underlying47 hi hz0 hz1 hz2 rfl (by decide) rcC_len rcC_one rfl rfl h7.out (HC.out _ b7) sz7 (by omega) (by omega) ?_; intro u8 w8 h8' a8; have b8 := b7.trans (a8.below.mono (Nat.le_trans HB.out b6.size)); have r8 : Hid (RowAt rcC w8 (.slice pv R.length cv) R) := r7.out.keep a8.below.size (fun bk off n cap h0 e => a8.rest bk (r7.out.lt h0 e) (fun e2 => nr7.out bk off n cap h0 e e2.symm)); obtain ⟨p8, q8, e8, hq8', hsl⟩ := slice_to h8' R.length (by omega); have hq8 : R.length ≤ q8 := (by omega); have s8 : Hid (RowAt rcC w8 (.slice p8 R.length q8) R) := row_upto HP1.out (by omega) e8 h8'; subst e8; clear h8')
        | (at_builtin; refine wpList_app_row (k := 9) (enc := rcC) (l := la) rfl (.const (.slice none 0 0)) (.tmp 77) 47 27 rfl i0 _ 80 Tryz.underlying47 hi hz0 hz1 hz2 rfl (by decide) rcC_len rcC_one (base := w6.heap.size) (n := 0) (xs := []) rfl rfl (World.ownsRow_nil _ _ _ _) (HA.out _ b6) (Nat.le_refl _) (by omega) (by omega) ?_; intro u7 w7 h7' a7; have h7 : Hid _ := h7'; have sz7 := a7.below.size; have b7 := b6.trans (a7.below.mono (Nat.le_trans HB.out b6.size)); have r7 : Hid (RowAt rcC w7 (.slice pv R.length cv) R) := r6.out.fresh a7.below; have nr7 : Hid (∀ bk off n cap, 0 < n → Value.slice pv R.length cv = .slice (some ⟨bk, off, none⟩) n cap → u7.ownBlock ≠ some bk) := (fun bk off n cap h0 e e2 => by have := (h7'.lt bk e2).1; have := r6.out.lt h0 e; omega); clear h7')
        | (go_at_call 14; have y := h5; refine (openS h5.out s5.out ht5 (HT.out.low b5 hB0)).mono ?_; rintro e w6 ⟨L6, v6, rfl, r6', b6'⟩; rw [← HR.out] at r6'; have r6 : Hid _ := r6'; have b6 := b5.trans b6'; obtain ⟨pv, cv, rfl⟩ := r6'.form; clear r6' b6')
        | (go_at_call 21; refine (crashS h4.out.dk s4.out keep h1 h2).mono ?_; rintro e w5 ⟨rfl, A5, h5', s5', b5'⟩; have h5 : Hid _ := h5'; have s5 : Hid _ := s5'; have b5 := b4.trans b5'; have ht5 := s4.out.1; clear h5' s5' b5')
        | (go_at_call 18; refine (writeS h3.out s3.out HGA.out hla _ lb (HC.out _ b3) hlb (HT.out.low b3 hB0) HGB.out).mono ?_; rintro e w4 ⟨rfl, k4, A4, t4', ro4, h4', s4', b4'⟩; have h4 : Hid _ := h4'; have s4 : Hid _ := s4'; have b4 := b3.trans b4'; clear h4' s4' b4')
        | (go_at_call 16; refine (appendS h02.out _ la (HA.out _ b2) hla (HT.out.low b2 hB0) HGA.out).mono ?_; rintro e w3 ⟨rfl, k3, A3, t3', ro3, h3', s3', b3'⟩; have h3 : Hid _ := h3'; have s3 : Hid _ := s3'; have b3 := b2.trans b3'; clear h3' s3' b3')
        | (go_at_call 14; refine (open_zero k1).mono ?_; rintro e w2 ⟨L, rfl, h2', b2'⟩; have h02 : Hid _ := h2'; have b2 := b1.trans (b2'.mono (Nat.le_trans HB.out b1.size)); clear h2' b2' k1)
        | (go_at_call 13; refine hn.mono ?_; rintro e w1 ⟨rfl, ro1, k1, b1⟩))
    go_ret
    exact ⟨rfl, b8.trans ((b9.trans (b10.mono b9.size)).mono (Nat.le_trans HB.out b8.size))⟩
  · have t7 : (keep < 1048576) = False := eq_false hk
    have t6 : ((R.length : Int) == (la.length : Int) + (lb.length : Int)) = true := by
      have := t5 hk
      simp only [beq_iff_eq]
      omega
    clear t5 hk
    go_enter Tryz.func5, Tryz.ntmps5
    go_wp2_with (first
      | (go_at_call 12; refine (awake_any _ (HT.out.low (b8.trans (b9.mono (Nat.le_trans HB.out b8.size))) hB0)).mono ?_; rintro e w10 ⟨rfl, b10⟩)
        | (go_at_call 25; refine (rrecs_same w8 _ _ R r8.out s8.out hRl).mono ?_; rintro e w9 ⟨rfl, b9⟩)
        | (at_builtin; have y := h7; refine wpList_app_row (k := 9) (enc := rcC) (l := lb) rfl (.tmp 78) (.tmp 79) 47 27 rfl i0 _ 80 Tryz.underlying47 hi hz0 hz1 hz2 rfl (by decide) rcC_len rcC_one rfl rfl h7.out (HC.out _ b7) sz7 (by omega) (by omega) ?_; intro u8 w8 h8' a8; have b8 := b7.trans (a8.below.mono (Nat.le_trans HB.out b6.size)); have r8 : Hid (RowAt rcC w8 (.slice pv R.length cv) R) := r7.out.keep a8.below.size (fun bk off n cap h0 e => a8.rest bk (r7.out.lt h0 e) (fun e2 => nr7.out bk off n cap h0 e e2.symm)); obtain ⟨p8, q8, e8, hq8', hsl⟩ := slice_to h8' R.length (by omega); have hq8 : R.length ≤ q8 := (by omega); have s8 : Hid (RowAt rcC w8 (.slice p8 R.length q8) R) := row_upto HP1.out (by omega) e8 h8'; subst e8; clear h8')
        | (at_builtin; refine wpList_app_row (k := 9) (enc := rcC) (l := la) rfl (.const (.slice none 0 0)) (.tmp 77) 47 27 rfl i0 _ 80 Tryz.underlying47 hi hz0 hz1 hz2 rfl (by decide) rcC_len rcC_one (base := w6.heap.size) (n := 0) (xs := []) rfl rfl (World.ownsRow_nil _ _ _ _) (HA.out _ b6) (Nat.le_refl _) (by omega) (by omega) ?_; intro u7 w7 h7' a7; have h7 : Hid _ := h7'; have sz7 := a7.below.size; have b7 := b6.trans (a7.below.mono (Nat.le_trans HB.out b6.size)); have r7 : Hid (RowAt rcC w7 (.slice pv R.length cv) R) := r6.out.fresh a7.below; have nr7 : Hid (∀ bk off n cap, 0 < n → Value.slice pv R.length cv = .slice (some ⟨bk, off, none⟩) n cap → u7.ownBlock ≠ some bk) := (fun bk off n cap h0 e e2 => by have := (h7'.lt bk e2).1; have := r6.out.lt h0 e; omega); clear h7')
        | (go_at_call 14; have y := h5; refine (openS h5.out s5.out ht5 (HT.out.low b5 hB0)).mono ?_; rintro e w6 ⟨L6, v6, rfl, r6', b6'⟩; rw [← HR.out] at r6'; have r6 : Hid _ := r6'; have b6 := b5.trans b6'; obtain ⟨pv, cv, rfl⟩ := r6'.form; clear r6' b6')
        | (go_at_call 21; refine (crashS h4.out.dk s4.out keep h1 h2).mono ?_; rintro e w5 ⟨rfl, A5, h5', s5', b5'⟩; have h5 : Hid _ := h5'; have s5 : Hid _ := s5'; have b5 := b4.trans b5'; have ht5 := s4.out.1; clear h5' s5' b5')
        | (go_at_call 18; refine (writeS h3.out s3.out HGA.out hla _ lb (HC.out _ b3) hlb (HT.out.low b3 hB0) HGB.out).mono ?_; rintro e w4 ⟨rfl, k4, A4, t4', ro4, h4', s4', b4'⟩; have h4 : Hid _ := h4'; have s4 : Hid _ := s4'; have b4 := b3.trans b4'; clear h4' s4' b4')
        | (go_at_call 16; refine (appendS h02.out _ la (HA.out _ b2) hla (HT.out.low b2 hB0) HGA.out).mono ?_; rintro e w3 ⟨rfl, k3, A3, t3', ro3, h3', s3', b3'⟩; have h3 : Hid _ := h3'; have s3 : Hid _ := s3'; have b3 := b2.trans b3'; clear h3' s3' b3')
        | (go_at_call 14; refine (open_zero k1).mono ?_; rintro e w2 ⟨L, rfl, h2', b2'⟩; have h02 : Hid _ := h2'; have b2 := b1.trans (b2'.mono (Nat.le_trans HB.out b1.size)); clear h2' b2' k1)
        | (go_at_call 13; refine hn.mono ?_; rintro e w1 ⟨rfl, ro1, k1, b1⟩))
    go_ret
    exact ⟨rfl, b8.trans ((b9.trans (b10.mono b9.size)).mono (Nat.le_trans HB.out b8.size))⟩
/-- For every two rows of records. -/
theorem sure_walk (ha : RowAt rcC w (.slice a0 la.length c0) la) (hb : RowAt rcC w (.slice a1 lb.length c1) lb) (hT : Tab w) (h1 : -9223372036854775808 ≤ keep) (h2 : keep ≤ 9223372036854775807) :
    Calls Tryz.prog 5 #[.slice a0 la.length c0, .slice a1 lb.length c1, .int .i64 keep] w fun e w' => e = .returned (.bool true) ∧ Below w.heap.size w w' := by
  by_cases hla : la.length ≤ 300
  · by_cases hlb : lb.length ≤ 300
    · cases hga : la.all mayR with
      | false => exact sure_bad w a0 a1 c0 c1 la lb keep ha hb hT hla hlb (Or.inl hga)
      | true =>
        cases hgb : lb.all mayR with
        | false => exact sure_bad w a0 a1 c0 c1 la lb keep ha hb hT hla hlb (Or.inr ⟨hga, hgb⟩)
        | true => exact sure_good w a0 a1 c0 c1 la lb keep ha hb hT hla hlb hga hgb h1 h2
    · exact sure_great w a0 a1 c0 c1 la lb keep hT (Or.inr ⟨hla, by omega⟩)
  · exact sure_great w a0 a1 c0 c1 la lb keep hT (Or.inl (by omega))
end
end Go.Proofs.YtdhlbldmdeepiaaGreatDoor
