/-
  WalTwice of layer 11, walked: what a log's opening reads is read again by the next one, whatever it mended. The conditions: at most 351843720000 records; package frame's table lies in memory.
-/
import Derived.Test.YtdhlbldmdeepiaaGreatDoorWWwAwake
import Derived.Test.YtdhlbldmdeepiaaGreatDoorWPackD
namespace Go.Proofs.YtdhlbldmdeepiaaGreatDoor
open Go.RowKit

/-- A disk with at most the first segment, all of it sure. -/
def TwA (A : List CF) (t : Nat) : Prop := t ≤ 1 ∧ (A = [] ∨ ∃ c bs, A = oneN (segB 1) c bs bs.length [])
def TwB (A : List CF) (t : Nat) : Prop := t ≤ 2 ∧ ∃ c bs sure ps, A = oneN (segB 1) c bs sure ps
section
variable {w : World} {base L D : Nat} {A : List CF} {t : Nat} {ro : Nat → Option Nat}
theorem appendT (h : LgS w base L D 0 [] 0 ro) (v : Value) (la : List Rc) (hv : RowAt rcC w v la) (hl : la.length ≤ 351843720000) (hT : Tab w) :
    Calls Tryz.prog 16 #[.pointer (some ⟨L, 0, none⟩), v] w fun e w' => ∃ z A t ro', e = .returned (.int .i64 z) ∧ DkS w' base D A t ro' ∧ TwA A t ∧ Below base w w' := by
  cases hm : la.all mayR with
  | false => exact (wappend_bad L v la hv hl hT hm).mono fun e w' ⟨h1, h2⟩ => ⟨1, [], 0, ro, h1, (h.fresh h2).dk, ⟨by decide, Or.inl rfl⟩, h2.mono h.base⟩
  | true =>
    by_cases h0 : la = []
    · subst h0
      exact (wappend_none h v hv hT).mono fun e w' ⟨h1, h2⟩ => ⟨0, [], 0, ro, h1, (h.fresh h2).dk, ⟨by decide, Or.inl rfl⟩, h2.mono h.base⟩
    · by_cases hs : (framesOf la).length ≤ 4194304
      · exact (wappend_new h v la hv hl hT hm h0 hs (by decide)).mono fun e w' ⟨h1, c, ro', h2, h3⟩ => ⟨0, _, _, ro', h1, h2.dk, ⟨by decide, Or.inr ⟨c, _, rfl⟩⟩, h3⟩
      · exact (wappend_long h v la hv hl hT hm (by omega)).mono fun e w' ⟨h1, h2, h3⟩ => ⟨15, [], 0, ro, h1, h2.dk, ⟨by decide, Or.inl rfl⟩, h3⟩
theorem dappT (h : DkS w base D A t ro) (hA : TwA A t) (s : ByteArray) (hs : s.size ≤ 1000) :
    Calls Tryz.prog 23 #[.pointer (some ⟨D, 0, none⟩), .string (segB 1), .string s] w fun e w' => ∃ z A' t' ro', e = .returned (.int .i64 z) ∧ DkS w' base D A' t' ro' ∧ TwB A' t' ∧ Below base w w' := by
  have hn := nameB_seg (k := 1) (by decide)
  obtain ⟨ht, hA⟩ := hA
  rcases hA with rfl | ⟨c, bs, rfl⟩
  · exact (o_begin h (segB 1) s hn (by omega) (by omega)).mono fun e w' ⟨h1, c, t', ro', h2, h3, h4⟩ => ⟨0, _, t', ro', h1, h3, ⟨by omega, c, _, _, _, rfl⟩, h.below h4⟩
  · by_cases hl : bs.length + s.size ≤ 4194304
    · exact (o_more h hn s hl (by omega)).mono fun e w' ⟨h1, t', ro', h2, h3, h4⟩ => ⟨0, _, t', ro', h1, h3, ⟨by omega, c, _, _, _, rfl⟩, h.below h4⟩
    · exact (o_long h hn s (by omega)).mono fun e w' ⟨h1, h2⟩ => ⟨15, oneN (segB 1) c bs bs.length [], t, ro, h1, h2 ▸ h, ⟨by omega, c, bs, bs.length, [], rfl⟩, h2 ▸ Below.refl _ _⟩
theorem syncT (h : DkS w base D A t ro) (hB : TwB A t) :
    Calls Tryz.prog 28 #[.pointer (some ⟨D, 0, none⟩), .string (segB 1)] w fun e w' => e = .returned (.int .i64 0) ∧ ∃ c bs, DkS w' base D (oneN (segB 1) c bs bs.length []) t ro ∧ t ≤ 2 ∧ Below base w w' := by
  obtain ⟨ht, c, bs, sure, ps, rfl⟩ := hB
  exact (o_sync h (seg_max (k := 1) (by decide))).mono fun e w' ⟨h1, h2, h3⟩ => ⟨h1, c, bs, h2, ht, h.below h3⟩
/-- What is known of a segment that an opening has seen: all of it is sure, and it reads as R. -/
def SegOk (k : Nat) (c : Nat) (bs : List UInt8) (R : List Rc) (A : List CF) : Prop := 1 ≤ k ∧ k ≤ 2 ∧ A = oneN (segB k) c bs bs.length [] ∧ recs bs = (R, bs.length) ∧ R.length ≤ 4194304
theorem recs_count {bs : List UInt8} (h : bs.length ≤ 4194304) : (recs bs).1.length ≤ 4194304 := by
  obtain ⟨_, h2, _⟩ := recs_only bs
  have hl := congrArg List.length h2
  rw [List.length_append] at hl
  have hcnt : ∀ l : List Rc, l.length ≤ (framesOf l).length := fun l => by
    induction l with
    | nil => exact Nat.zero_le _
    | cons r l ih =>
      show l.length + 1 ≤ (frameOf (encR r) ++ framesOf l).length
      rw [List.length_append, frameOf_len]
      omega
  have := hcnt (recs bs).1
  omega
theorem openT1 {c : Nat} {bs : List UInt8} (h : DkS w base D (oneN (segB 1) c bs bs.length []) t ro) (ht : t ≤ 2) (hT : Tab w) :
    Calls Tryz.prog 14 #[.pointer (some ⟨D, 0, none⟩)] w fun e w' => ∃ L v k' c' bs' A' t' ro' R, e = .returned (.tuple #[.pointer (some ⟨L, 0, none⟩), v, .int .i64 0]) ∧ LgS w' base L D k' A' t' ro' ∧ RowO w' ro' L v R ∧ SegOk k' c' bs' R A' ∧ t' ≤ 3 ∧ Below base w w' := by
  have hbs : bs.length ≤ 4194304 := (h.ok.1 (fileN (segB 1) c bs bs.length []) (List.mem_singleton.mpr rfl)).mx
  have hc := recs_count hbs
  refine (open_one (by decide) (by decide) h (by omega) hT).mono fun e w' ⟨L, v, k', c', bs', sure', ps', t', ro', h1, h2, h3, h4, h5, h6⟩ => ?_
  have hr := h6.reads
  have hk : (k' = 1 ∨ k' = 2) ∧ sure' = bs'.length ∧ ps' = [] := by
    rcases h6 with ⟨_, e1, e2, e3, e4⟩ | ⟨_, e1, _, e3, e4⟩
    · exact ⟨Or.inl e1, by rw [e3, e2], e4⟩
    · exact ⟨Or.inr e1, e3, e4⟩
  obtain ⟨hk1, rfl, rfl⟩ := hk
  exact ⟨L, v, k', c', bs', _, t', ro', _, h1, h3, h4, ⟨by omega, by omega, rfl, hr, hc⟩, by omega, h.below h5⟩
theorem crashT {k c : Nat} {bs : List UInt8} {R : List Rc} (h : DkS w base D A t ro) (hS : SegOk k c bs R A) (keep : Int) (h1 : -9223372036854775808 ≤ keep) (h2 : keep ≤ 9223372036854775807) :
    Calls Tryz.prog 21 #[.pointer (some ⟨D, 0, none⟩), .int .i64 keep] w fun e w' => e = .returned (.tuple #[]) ∧ DkS w' base D A t ro ∧ Ext w w' ro ro := by
  obtain ⟨_, _, rfl, _⟩ := hS
  refine (o_crashN h keep h1 h2).mono fun e w' ⟨h3, h4, h5⟩ => ⟨h3, ?_, h5⟩
  rw [List.take_length] at h4
  exact h4
/-- The next opening reads the same and leaves all as it is. -/
theorem openT2 {k c : Nat} {bs : List UInt8} {R : List Rc} (h : DkS w base D A t ro) (hS : SegOk k c bs R A) (hT : Tab w) :
    Calls Tryz.prog 14 #[.pointer (some ⟨D, 0, none⟩)] w fun e w' => ∃ L v, e = .returned (.tuple #[.pointer (some ⟨L, 0, none⟩), v, .int .i64 0]) ∧ LgS w' base L D k A t ro ∧ RowO w' ro L v R ∧ Below w.heap.size w w' := by
  obtain ⟨k1, k2, rfl, hr, _⟩ := hS
  have r := open_same k1 (by omega) h hT (by rw [hr])
  rw [hr] at r
  exact r
end
theorem RowO.other {w : World} {ro : Nat → Option Nat} {L L' : Nat} {v : Value} {l : List Rc} (h : RowO w ro L v l) (hL : w.heap.size ≤ L') : RowO w ro L' v l :=
  ⟨h.row, fun bk off n cap h0 e => ⟨(h.own bk off n cap h0 e).1, (h.own bk off n cap h0 e).2.1, by have := (h.own bk off n cap h0 e).1; omega⟩⟩
set_option maxHeartbeats 6400000 in
set_option maxRecDepth 100000 in
theorem twice_walk (w : World) (a0 : Option Addr) (c0 : Nat) (la : List Rc) (s : ByteArray) (keep : Int) (ha : RowAt rcC w (.slice a0 la.length c0) la) (hl : la.length ≤ 351843720000) (hT : Tab w) (h1 : -9223372036854775808 ≤ keep) (h2 : keep ≤ 9223372036854775807) :
    Calls Tryz.prog 6 #[.slice a0 la.length c0, .string s, .int .i64 keep] w fun e w' => e = .returned (.bool true) ∧ Below w.heap.size w w' := by
  have hn := dnew_S w
  have HT : Hid (Tab w) := hT
  have hB0 := hT.1
  have HA : Hid (∀ w', Below w.heap.size w w' → RowAt rcC w' (.slice a0 la.length c0) la) := fun w' b => ha.fresh b
  clear ha
  obtain ⟨B, hB⟩ : ∃ B, B = w.heap.size := ⟨_, rfl⟩
  have HB : Hid (B ≤ w.heap.size) := by rw [hB]; exact Nat.le_refl _
  rw [← hB] at hn hB0 HA ⊢
  clear hT hB
  by_cases hs : s.size ≤ 1000
  · have t1 : decide ((1000 : Int) < (s.size : Int)) = false := decide_eq_false (by omega)
    go_enter Tryz.func6, Tryz.ntmps6
    go_wp2_with (first
      | (go_at_call 12; refine (awake_any _ (HT.out.low b12 hB0)).mono ?_; rintro e w13 ⟨rfl, b13'⟩; have b13 := b12.trans (b13'.mono (Nat.le_trans HB.out b12.size)))
      | (go_at_call 25; have y := b11; refine (rrecs_same w11 _ _ R q11.out p11.out hR).mono ?_; rintro e w12 ⟨rfl, b12'⟩; have b12 := b11.trans (b12'.mono (Nat.le_trans HB.out b11.size)); clear b12')
      | (go_at_call 25; refine (rrecs_same w10 _ _ R ra10.out.row rb10.out.row hR).mono ?_; rintro e w11 ⟨rfl, b11'⟩; have q11 : Hid (RowAt rcC w11 (.slice pb R.length cb) R) := rb10.out.row.fresh b11'; have p11 : Hid (RowAt rcC w11 (.slice pc R.length cc) R) := rc10.out.row.fresh b11'; have b11 := b10.trans (b11'.mono (Nat.le_trans HB.out b10.size)); clear b11')
      | (go_at_call 26; have y := h10; refine (segment_any h10.out).mono ?_; rintro e w' ⟨rfl, rfl⟩)
      | (go_at_call 14; have y := h9; refine (openT2 h9.out.dk g7.out (HT.out.low b9 hB0)).mono ?_; rintro e w10 ⟨L10, v10, rfl, h10', rc10', b10'⟩; have h10 : Hid _ := h10'; have rc10 : Hid _ := rc10'; have ra10 : Hid (RowO w10 ro7 L7 (.slice pa R.length ca) R) := ra9.out.fresh b10'; have rb10 : Hid (RowO w10 ro7 L9 (.slice pb R.length cb) R) := rb9.out.fresh b10'; have b10 := b9.trans (b10'.mono (Nat.le_trans HB.out b9.size)); obtain ⟨pc, cc, rfl⟩ := rc10'.row.form; clear h10' rc10' b10')
      | (go_at_call 26; refine (segment_any h9.out).mono ?_; rintro e w' ⟨rfl, rfl⟩)
      | (go_at_call 14; have y := h8; refine (openT2 h8.out g7.out (HT.out.low b8 hB0)).mono ?_; rintro e w9 ⟨L9, v9, rfl, h9', rb9', b9'⟩; have h9 : Hid _ := h9'; have rb9 : Hid _ := rb9'; have ra9 : Hid (RowO w9 ro7 L7 (.slice pa R.length ca) R) := ra8.out.fresh b9'; have b9 := b8.trans (b9'.mono (Nat.le_trans HB.out b8.size)); obtain ⟨pb, cb, rfl⟩ := rb9'.row.form; clear h9' rb9' b9')
      | (go_at_call 21; refine (crashT h7.out.dk g7.out keep h1 h2).mono ?_; rintro e w8 ⟨rfl, h8', x8⟩; have h8 : Hid _ := h8'; have ra8 : Hid (RowO w8 ro7 L7 (.slice pa R.length ca) R) := ra7.out.ext x8; have b8 := b7.trans (h7.out.below x8); clear h8' x8)
      | (go_at_call 14; have y := h6; refine (openT1 h6.out ht6 (HT.out.low b6 hB0)).mono ?_; rintro e w7 ⟨L7, v7, k7, c7, bs7, A7, t7, ro7, R, rfl, h7', ra7', g7', ht7, b7'⟩; have h7 : Hid _ := h7'; have ra7 : Hid _ := ra7'; have g7 : Hid _ := g7'; have b7 := b6.trans b7'; have hR : R.length ≤ 1099511627776 := (by have := g7'.2.2.2.2; omega); obtain ⟨pa, ca, rfl⟩ := ra7'.row.form; clear h7' ra7' g7' b7')
      | (go_at_call 28; refine (syncT h5.out s5.out).mono ?_; rintro e w6 ⟨rfl, c6, bs6, h6', ht6, b6'⟩; have h6 : Hid _ := h6'; have b6 := b5.trans b6'; clear h6' b6')
      | (go_at_call 23; refine (dappT h4.out s4.out s hs).mono ?_; rintro e w5 ⟨z5, A5, t5, ro5, rfl, h5', s5', b5'⟩; have h5 : Hid _ := h5'; have s5 : Hid _ := s5'; have b5 := b4.trans b5'; clear h5' s5' b5')
      | (go_at_call 16; refine (appendT h3.out _ la (HA.out _ b3) hl (HT.out.low b3 hB0)).mono ?_; rintro e w4 ⟨z4, A4, t4, ro4, rfl, h4', s4', b4'⟩; have h4 : Hid _ := h4'; have s4 : Hid _ := s4'; have b4 := b3.trans b4'; clear h4' s4' b4')
      | (go_at_call 14; refine (open_zero k2).mono ?_; rintro e w3 ⟨L, rfl, h3', b3'⟩; have h3 : Hid _ := h3'; have b3 := b2.trans (b3'.mono (Nat.le_trans HB.out b2.size)); clear h3' b3' k2)
      | (go_at_call 13; refine hn.mono ?_; rintro e w2 ⟨rfl, ro2, k2, b2⟩))
    go_ret
    exact ⟨rfl, b13⟩
  · have t1 : decide ((1000 : Int) < (s.size : Int)) = true := decide_eq_true (by omega)
    go_enter Tryz.func6, Tryz.ntmps6
    go_wp2_with (first
      | (go_at_call 12; refine (awake_any _ (HT.out.low b3 hB0)).mono ?_; rintro e w9 ⟨rfl, b9⟩)
      | (go_at_call 14; refine (open_zero k2).mono ?_; rintro e w3 ⟨L, rfl, h3', b3'⟩; have b3 := b2.trans (b3'.mono (Nat.le_trans HB.out b2.size)); clear h3' b3' k2)
      | (go_at_call 13; refine hn.mono ?_; rintro e w2 ⟨rfl, ro2, k2, b2⟩))
    go_ret
    exact ⟨rfl, b3.trans (b9.mono (Nat.le_trans HB.out b3.size))⟩
end Go.Proofs.YtdhlbldmdeepiaaGreatDoor
