/-
  A log's opening (package wal) on a disk with at most one segment, whole. The conditions: the segment's number is from 1 to 97; package frame's table lies in memory; fewer than 2^62 appends.
-/
import Derived.Test.YtdhlbldmdeepiaaGreatDoorWWvOpen
namespace Go.Proofs.YtdhlbldmdeepiaaGreatDoor
open Go.RowKit

/-- What an opening makes of a segment. -/
def Mended (k : Nat) (bs : List UInt8) (sure : Nat) (ps : List (Nat × Nat)) (k' : Nat) (bs' : List UInt8) (sure' : Nat) (ps' : List (Nat × Nat)) : Prop :=
  ((recs bs).2 = bs.length ∧ k' = k ∧ bs' = bs ∧ sure' = sure ∧ ps' = ps) ∨ ((recs bs).2 ≠ bs.length ∧ k' = k + 1 ∧ bs' = framesOf (recs bs).1 ∧ sure' = bs'.length ∧ ps' = [])
theorem Mended.reads {k : Nat} {bs : List UInt8} {sure : Nat} {ps : List (Nat × Nat)} {k' : Nat} {bs' : List UInt8} {sure' : Nat} {ps' : List (Nat × Nat)} (h : Mended k bs sure ps k' bs' sure' ps') : recs bs' = ((recs bs).1, bs'.length) := by
  rcases h with ⟨h1, _, h2, _⟩ | ⟨_, _, h2, _⟩
  · rw [h2, ← h1]
  · rw [h2]
    exact recs_back _ (recs_only bs).1
/-- A new log is not the disk's. -/
theorem lg_new {w w1 : World} {base D : Nat} {A : List CF} {t : Nat} {ro : Nat → Option Nat} (h : DkS w base D A t ro) (b : Below w.heap.size w w1) (k : Nat) : LgS (w1.alloc (.cells #[.pointer (some ⟨D, 0, none⟩), .int .i64 (k : Int)] 87)) base w1.heap.size D k A t ro := by
  have hs := b.size
  have hb := h.base
  refine ⟨h.fresh (b.alloc hs _), heap_alloc_new w1 _, ?_, by omega⟩
  cases hr : ro w1.heap.size with
  | none => rfl
  | some x =>
    have := (h.bd w1.heap.size (by rw [hr]; simp)).2
    omega
section
variable {w : World} {base D k : Nat} {t : Nat} {ro : Nat → Option Nat}
set_option maxHeartbeats 3200000 in
set_option maxRecDepth 100000 in
theorem open_zero (h : DkS w base D [] t ro) : Calls Tryz.prog 14 #[.pointer (some ⟨D, 0, none⟩)] w fun e w' => ∃ L, e = .returned (.tuple #[.pointer (some ⟨L, 0, none⟩), .slice none 0 0, .int .i64 0]) ∧ LgS w' base L D 0 [] t ro ∧ Below w.heap.size w w' := by
  have qf := o_files0 h
  have H : Hid (DkS w base D [] t ro) := h
  clear h
  go_enter Tryz.func14, Tryz.ntmps14
  go_wp2_with (first
    | (go_at_call 41; refine (removeOthers_zero h2.out).mono ?_; rintro e w3 ⟨rfl, b3⟩)
    | (go_at_call 40; have h2 : Hid (LgS (w1.alloc (.cells #[.pointer (some ⟨D, 0, none⟩), .int .i64 ((0 : Nat) : Int)] 87)) base w1.heap.size D 0 [] t ro) := lg_new H.out b1 0; refine (mend_zero h2.out).mono ?_; rintro e w2 ⟨rfl, rfl⟩)
    | (go_at_call 38; refine (greatest_zero p cap _).mono ?_; rintro e w' ⟨rfl, rfl⟩)
    | (go_at_call 39; refine qf.mono ?_; rintro e w1 ⟨p, cap, rfl, b1⟩))
  go_ret3
  have b2 := b1.alloc b1.size (.cells #[.pointer (some ⟨D, 0, none⟩), .int .i64 ((0 : Nat) : Int)] 87)
  exact ⟨_, rfl, h2.out.fresh b3, bmm b2 b2.size b3⟩
set_option maxHeartbeats 6400000 in
set_option maxRecDepth 100000 in
theorem open_same {c sure : Nat} {bs : List UInt8} {ps : List (Nat × Nat)} (h1k : 1 ≤ k) (hk : k < 98) (h : DkS w base D (oneN (segB k) c bs sure ps) t ro) (hT : Tab w) (hr : (recs bs).2 = bs.length) : Calls Tryz.prog 14 #[.pointer (some ⟨D, 0, none⟩)] w fun e w' => ∃ L v, e = .returned (.tuple #[.pointer (some ⟨L, 0, none⟩), v, .int .i64 0]) ∧ LgS w' base L D k (oneN (segB k) c bs sure ps) t ro ∧ RowO w' ro L v (recs bs).1 ∧ Below w.heap.size w w' := by
  have qf := o_files h
  have H : Hid (DkS w base D (oneN (segB k) c bs sure ps) t ro) := h
  have hbs : bs.length ≤ 4194304 := (h.ok.1 (fileN (segB k) c bs sure ps) (List.mem_singleton.mpr rfl)).mx
  have HT : Hid (Tab w) := hT
  have HR : Hid ((recs bs).2 = bs.length) := hr
  have kk : k < 100 := by omega
  clear h hT hr
  go_enter Tryz.func14, Tryz.ntmps14
  go_wp2_with (first
    | (go_at_call 41; refine (removeOthers_one h1k kk h4.out).mono ?_; rintro e w5 ⟨rfl, b5⟩)
    | (go_at_call 40; have h3 : Hid (LgS (w2.alloc (.cells #[.pointer (some ⟨D, 0, none⟩), .int .i64 (k : Int)] 87)) base w2.heap.size D k (oneN (segB k) c bs sure ps) t ro) := lg_new H.out b2 k; have b3 := b2.alloc b2.size (.cells #[.pointer (some ⟨D, 0, none⟩), .int .i64 (k : Int)] 87); refine (mend_same h1k hk h3.out hbs (HT.out.below b3) HR.out).mono ?_; rintro e w4 ⟨v, rfl, r4', b4⟩; have r4 : Hid _ := r4'; have h4 : Hid _ := h3.out.fresh b4; obtain ⟨pv, cv, rfl⟩ := r4'.row.form; clear r4')
    | (go_at_call 38; refine (greatest_one g cap k h1k kk _ cg).mono ?_; rintro e w2 ⟨rfl, b2'⟩; have b2 := bmm b1 b1.size b2')
    | (go_at_call 39; refine qf.mono ?_; rintro e w1 ⟨g, cap, rfl, hg, cg, b1⟩))
  go_ret3
  have b6 := bmm b3 b3.size b4
  exact ⟨_, _, rfl, h4.out.fresh b5, r4.out.fresh b5, bmm b6 b6.size b5⟩
set_option maxHeartbeats 6400000 in
set_option maxRecDepth 100000 in
theorem open_reset {c sure : Nat} {bs : List UInt8} {ps : List (Nat × Nat)} (h1k : 1 ≤ k) (hk : k < 98) (h : DkS w base D (oneN (segB k) c bs sure ps) t ro) (ht : t < 4611686018427387904) (hT : Tab w) (hr : (recs bs).2 ≠ bs.length) : Calls Tryz.prog 14 #[.pointer (some ⟨D, 0, none⟩)] w fun e w' => ∃ L v c' t' ro', e = .returned (.tuple #[.pointer (some ⟨L, 0, none⟩), v, .int .i64 0]) ∧ t' ≤ t + 1 ∧ LgS w' base L D (k + 1) (oneN (segB (k + 1)) c' (framesOf (recs bs).1) (framesOf (recs bs).1).length []) t' ro' ∧ RowO w' ro' L v (recs bs).1 ∧ Ext w w' ro ro' := by
  have qf := o_files h
  have H : Hid (DkS w base D (oneN (segB k) c bs sure ps) t ro) := h
  have hbs : bs.length ≤ 4194304 := (h.ok.1 (fileN (segB k) c bs sure ps) (List.mem_singleton.mpr rfl)).mx
  have HT : Hid (Tab w) := hT
  have HR : Hid ((recs bs).2 ≠ bs.length) := hr
  have kk : k < 100 := by omega
  have kk1 : k + 1 < 100 := by omega
  clear h hT hr
  go_enter Tryz.func14, Tryz.ntmps14
  go_wp2_with (first
    | (go_at_call 41; refine (removeOthers_one (by omega) kk1 h4.out).mono ?_; rintro e w5 ⟨rfl, b5⟩)
    | (go_at_call 40; have h3 : Hid (LgS (w2.alloc (.cells #[.pointer (some ⟨D, 0, none⟩), .int .i64 (k : Int)] 87)) base w2.heap.size D k (oneN (segB k) c bs sure ps) t ro) := lg_new H.out b2 k; have b3 := b2.alloc b2.size (.cells #[.pointer (some ⟨D, 0, none⟩), .int .i64 (k : Int)] 87); refine (mend_reset h1k hk h3.out hbs ht (HT.out.below b3) HR.out).mono ?_; rintro e w4 ⟨v, c', t', ro', rfl, ht', h4', r4', b4, x4'⟩; have r4 : Hid _ := r4'; have h4 : Hid _ := h4'; have x4 : Hid _ := x4'; obtain ⟨pv, cv, rfl⟩ := r4'.row.form; clear r4' h4' x4')
    | (go_at_call 38; refine (greatest_one g cap k h1k kk _ cg).mono ?_; rintro e w2 ⟨rfl, b2'⟩; have b2 := bmm b1 b1.size b2')
    | (go_at_call 39; refine qf.mono ?_; rintro e w1 ⟨g, cap, rfl, hg, cg, b1⟩))
  go_ret3
  have hx : Ext w w4 ro ro' := ExtL.new x4.out b3 (by have := b2.size; omega)
  exact ⟨_, _, c', t', ro', rfl, ht', h4.out.fresh b5, r4.out.fresh b5, hx.trans (Ext.of_below b5)⟩
/-- An opening where there is a segment. -/
theorem open_one {c sure : Nat} {bs : List UInt8} {ps : List (Nat × Nat)} (h1k : 1 ≤ k) (hk : k < 98) (h : DkS w base D (oneN (segB k) c bs sure ps) t ro) (ht : t < 4611686018427387904) (hT : Tab w) : Calls Tryz.prog 14 #[.pointer (some ⟨D, 0, none⟩)] w fun e w' => ∃ L v k' c' bs' sure' ps' t' ro', e = .returned (.tuple #[.pointer (some ⟨L, 0, none⟩), v, .int .i64 0]) ∧ t' ≤ t + 1 ∧ LgS w' base L D k' (oneN (segB k') c' bs' sure' ps') t' ro' ∧ RowO w' ro' L v (recs bs).1 ∧ Ext w w' ro ro' ∧ Mended k bs sure ps k' bs' sure' ps' := by
  by_cases hr : (recs bs).2 = bs.length
  · exact (open_same h1k hk h hT hr).mono fun e w' ⟨L, v, h1, h2, h3, h4⟩ => ⟨L, v, k, c, bs, sure, ps, t, ro, h1, by omega, h2, h3, Ext.of_below h4, Or.inl ⟨hr, rfl, rfl, rfl, rfl⟩⟩
  · exact (open_reset h1k hk h ht hT hr).mono fun e w' ⟨L, v, c', t', ro', h1, h0, h2, h3, h4⟩ => ⟨L, v, k + 1, c', _, _, [], t', ro', h1, h0, h2, h3, h4, Or.inr ⟨hr, rfl, rfl, rfl, rfl⟩⟩
end
end Go.Proofs.YtdhlbldmdeepiaaGreatDoor
