/-
  Parts of the proof, laid together: WvOpen, WvOpenA. The conditions stand at each part.
-/
import Derived.Test.YtdhlbldmdeepiaaGreatDoorRPackK
/-
  A log's opening (package wal) on a disk with at most one segment. The conditions: the segment's number is from 1 to 97; package frame's table lies in memory; fewer than 2^62 appends.
-/
namespace Go.Proofs.YtdhlbldmdeepiaaGreatDoor
open Go.RowKit

set_option maxHeartbeats 3200000 in
set_option maxRecDepth 100000 in
theorem greatest_zero (p : Option Addr) (cap : Nat) (w : World) :
    Calls Tryz.prog 38 #[.slice p 0 cap] w fun e w' => e = .returned (.int .i64 0) ∧ w = w' := by
  go_enter Tryz.func38, Tryz.ntmps38
  go_wp2
  refine wp_loop_rounds 1 ?_
  rw [rounds_succ]
  go_wp2
  go_ret
  exact ⟨rfl, rfl⟩
set_option maxHeartbeats 3200000 in
set_option maxRecDepth 100000 in
theorem greatest_one (g cap k : Nat) (h1 : 1 ≤ k) (hk : k < 100) (w : World) (c : w.cell? ⟨g, 0, none⟩ = some (.string (segB k))) :
    Calls Tryz.prog 38 #[.slice (some ⟨g, 0, none⟩) 1 cap] w fun e w' => e = .returned (.int .i64 (k : Int)) ∧ Below w.heap.size w w' := by
  have q := segNumber_any k h1 hk
  have hx : max (0 : Int) (k : Int) = (k : Int) := by omega
  go_enter Tryz.func38, Tryz.ntmps38
  go_wp2
  refine wp_loop_rounds 2 ?_
  rw [rounds_succ]
  go_wp2_with (go_at_call 82; refine (q _).mono ?_; rintro e w1 ⟨rfl, b1⟩)
  rw [rounds_succ]
  go_wp2
  go_ret
  exact ⟨by first | rfl | (rw [hx]), b1⟩
section
variable {w : World} {base L D k : Nat} {t : Nat} {ro : Nat → Option Nat}
set_option maxHeartbeats 3200000 in
set_option maxRecDepth 100000 in
theorem mend_zero {A : List CF} (h : LgS w base L D 0 A t ro) : Calls Tryz.prog 40 #[.pointer (some ⟨L, 0, none⟩)] w fun e w' => e = .returned (.tuple #[.slice none 0 0, .int .i64 0]) ∧ w = w' := by
  have c1 := h.c1
  clear h
  go_enter Tryz.func40, Tryz.ntmps40
  go_wp2
  go_ret2
  exact ⟨rfl, rfl⟩
/-- The row that was read is not the disk's. -/
theorem row_new {w1 : World} {A : List CF} {v : Value} {l : List Rc} (h : LgS w base L D k A t ro) (ho : w1.ownsRow w.heap.size 27 9 v l.length (rowL rcC l)) : RowO w1 ro L v l :=
  ⟨RowAt.own rcC_len ho, fun bk off n cap h0 e => by
    subst e
    have := ho.lt bk rfl
    have hL := h.lt
    refine ⟨this.2, ?_, by omega⟩
    cases hr : ro bk with
    | none => rfl
    | some x =>
      have := h.dk.bd bk (by rw [hr]; simp)
      omega⟩
theorem textOf_list (bs : List UInt8) : (textOf bs).data.toList = bs := by simp [textOf]
set_option maxHeartbeats 6400000 in
set_option maxRecDepth 100000 in
theorem mend_same {c sure : Nat} {bs : List UInt8} {ps : List (Nat × Nat)} (h1k : 1 ≤ k) (hk : k < 98) (h : LgS w base L D k (oneN (segB k) c bs sure ps) t ro) (hb : bs.length ≤ 4194304) (hT : Tab w) (hr : (recs bs).2 = bs.length) :
    Calls Tryz.prog 40 #[.pointer (some ⟨L, 0, none⟩)] w fun e w' => ∃ v, e = .returned (.tuple #[v, .int .i64 0]) ∧ RowO w' ro L v (recs bs).1 ∧ Below w.heap.size w w' := by
  have c0 := h.c0
  have c1 := h.c1
  have qn := segName_any k (by omega)
  have qd := o_read (dkd h.dk) (seg_max (k := k) (by omega))
  have zt : (textOf bs).size = bs.length := by rw [Lib.size_eq, textOf_list]
  have qr := wread_any (textOf bs) (by rw [zt]; omega) w.drew (hT.below ⟨rfl, rfl, rfl, Nat.le_refl _, fun _ _ => rfl⟩)
  rw [textOf_list, hr] at qr
  have H : Hid (LgS w base L D k (oneN (segB k) c bs sure ps) t ro) := h
  obtain ⟨X, hX⟩ : ∃ X, X = textOf bs := ⟨_, rfl⟩
  rw [← hX] at qd zt qr
  have kz : ((k : Int) == 0) = false := by simpa using (by omega : ¬ (k : Int) = 0)
  clear h hX hT hr
  go_enter Tryz.func40, Tryz.ntmps40
  go_wp2
  go_region_held3 (fun w' => w'.cell? ⟨L, 0, none⟩ = some (.pointer (some ⟨D, 0, none⟩)) ∧ w'.cell? ⟨L, 1, none⟩ = some (.int .i64 (k : Int))) (go_keep)
    (first
      | (go_at_call 37; refine qd.mono ?_; rintro e w3 ⟨rfl, rfl⟩)
      | (go_at_call 48; refine (qn _).mono ?_; rintro e w' ⟨rfl, rfl⟩))
  go_wp2_with (go_at_call 85; refine qr.mono ?_; rintro e w4 ⟨v, rfl, o4, b4⟩; have O4 : Hid _ := o4; obtain ⟨pv, nv, cv, rfl⟩ := own_form o4; clear o4)
  go_ret2
  exact ⟨_, rfl, row_new H.out O4.out, undrew b4⟩
set_option maxHeartbeats 6400000 in
set_option maxRecDepth 100000 in
theorem mend_reset {c sure : Nat} {bs : List UInt8} {ps : List (Nat × Nat)} (h1k : 1 ≤ k) (hk : k < 98) (h : LgS w base L D k (oneN (segB k) c bs sure ps) t ro) (hb : bs.length ≤ 4194304) (ht : t < 4611686018427387904) (hT : Tab w) (hr : (recs bs).2 ≠ bs.length) :
    Calls Tryz.prog 40 #[.pointer (some ⟨L, 0, none⟩)] w fun e w' => ∃ v c' t' ro', e = .returned (.tuple #[v, .int .i64 0]) ∧ t' ≤ t + 1 ∧ LgS w' base L D (k + 1) (oneN (segB (k + 1)) c' (framesOf (recs bs).1) (framesOf (recs bs).1).length []) t' ro' ∧ RowO w' ro' L v (recs bs).1 ∧ Below base w w' ∧ ExtL w w' ro ro' L := by
  have c0 := h.c0
  have c1 := h.c1
  have qn := segName_any k (by omega)
  have qd := o_read (dkd h.dk) (seg_max (k := k) (by omega))
  have zt : (textOf bs).size = bs.length := by rw [Lib.size_eq, textOf_list]
  have hTd : Tab w.drew := hT.below ⟨rfl, rfl, rfl, Nat.le_refl _, fun _ _ => rfl⟩
  have qr := wread_any (textOf bs) (by rw [zt]; omega) w.drew hTd
  rw [textOf_list] at qr
  obtain ⟨hmay, hfr, hlen⟩ := recs_only bs
  have hall : (recs bs).1.all mayR = true := List.all_eq_true.mpr hmay
  have hfl : (framesOf (recs bs).1).length ≤ bs.length := by
    have := congrArg List.length hfr
    rw [List.length_append] at this
    omega
  have hcnt : ∀ l : List Rc, l.length ≤ (framesOf l).length := fun l => by
    induction l with
    | nil => exact Nat.zero_le _
    | cons r l ih =>
      show l.length + 1 ≤ (frameOf (encR r) ++ framesOf l).length
      rw [List.length_append, frameOf_len]
      omega
  have hcn := hcnt (recs bs).1
  obtain ⟨rl, hrl⟩ : ∃ x, x = recs bs := ⟨_, rfl⟩
  rw [← hrl] at qr hr hall hfl hcn hlen ⊢
  have H : Hid (LgS w base L D k (oneN (segB k) c bs sure ps) t ro) := h
  have HT : Hid (Tab w.drew) := hTd
  have HA : Hid (rl.1.all mayR = true) := hall
  have zl : rl.1.length ≤ 351843720000 := by omega
  have zf : (framesOf rl.1).length ≤ 4194304 := by omega
  obtain ⟨X, hX⟩ : ∃ X, X = textOf bs := ⟨_, rfl⟩
  rw [← hX] at qd zt qr
  have kz : ((k : Int) == 0) = false := by simpa using (by omega : ¬ (k : Int) = 0)
  have kr : ((rl.2 : Int) == (X.size : Int)) = false := by simpa using (by omega : ¬ (rl.2 : Int) = (X.size : Int))
  clear h hX hT hTd hr hmay hfr hlen hall hfl hcnt hcn hrl
  go_enter Tryz.func40, Tryz.ntmps40
  go_wp2
  go_region_held3 (fun w' => w'.cell? ⟨L, 0, none⟩ = some (.pointer (some ⟨D, 0, none⟩)) ∧ w'.cell? ⟨L, 1, none⟩ = some (.int .i64 (k : Int))) (go_keep)
    (first
      | (go_at_call 37; refine qd.mono ?_; rintro e w3 ⟨rfl, rfl⟩)
      | (go_at_call 48; refine (qn _).mono ?_; rintro e w' ⟨rfl, rfl⟩))
  go_wp2_with (first
    | (go_at_call 19; refine (reset_any h1k hk h4.out _ rl.1 O4.out zl HA.out zf ht T4.out).mono ?_; rintro e w5 ⟨rfl, c', t', ro', ht', h5', r5', b5, x5'⟩; have h5 : Hid _ := h5'; have r5 : Hid _ := r5'; have x5 : Hid _ := x5'; clear h5' r5' x5')
    | (go_at_call 85; refine qr.mono ?_; rintro e w4 ⟨v, rfl, o4, b4⟩; have O4 : Hid (RowO w4 ro L v rl.1) := row_new H.out o4; have h4 : Hid _ := H.out.fresh (undrew b4); have T4 : Hid (Tab w4) := HT.out.below b4; obtain ⟨pv, nv, cv, rfl⟩ := own_form o4; clear o4))
  go_ret2
  have x6 := x5.out
  have b6 := undrew b4
  exact ⟨_, c', t', ro', rfl, ht', h5.out, r5.out, (b6.mono H.out.base).trans b5, ⟨x6.os.trans b6.os, x6.tape.trans b6.tape, x6.output.trans b6.output, Nat.le_trans b6.size x6.size, fun i hi => x6.old i (Nat.lt_of_lt_of_le hi b6.size), fun i hi hr hl => (x6.kept i (Nat.lt_of_lt_of_le hi b6.size) hr hl).trans (b6.block i hi)⟩⟩
set_option maxHeartbeats 3200000 in
set_option maxRecDepth 100000 in
theorem removeOthers_zero (h : LgS w base L D 0 [] t ro) : Calls Tryz.prog 41 #[.pointer (some ⟨L, 0, none⟩)] w fun e w' => e = .returned (.tuple #[]) ∧ Below w.heap.size w w' := by
  have c0 := h.c0
  have qf := o_files0 h.dk
  clear h
  go_enter Tryz.func41, Tryz.ntmps41
  go_wp2_with (go_at_call 39; refine qf.mono ?_; rintro e w1 ⟨p, cap, rfl, b1⟩)
  refine wp_loop_rounds 1 ?_
  rw [rounds_succ]
  go_wp2
  go_end0
  exact ⟨rfl, b1⟩
set_option maxHeartbeats 3200000 in
set_option maxRecDepth 100000 in
theorem removeOthers_one {c sure : Nat} {bs : List UInt8} {ps : List (Nat × Nat)} (h1k : 1 ≤ k) (hk : k < 100) (h : LgS w base L D k (oneN (segB k) c bs sure ps) t ro) : Calls Tryz.prog 41 #[.pointer (some ⟨L, 0, none⟩)] w fun e w' => e = .returned (.tuple #[]) ∧ Below w.heap.size w w' := by
  have c0 := h.c0
  have c1 := h.c1
  have hL := h.lt
  have qf := o_files h.dk
  have qs := segNumber_any k h1k hk
  have hne := segB_tmp hk
  have hne' : ((segB k).toList == [108, 111, 103, 46, 116, 109, 112]) = false := by
    rw [beq_eq_false_iff_ne]
    intro e
    apply hne
    apply ByteArray.ext
    apply Array.ext'
    rw [← Lib.toList_data, e]
    rfl
  obtain ⟨S0, hS0⟩ : ∃ s, s = segB k := ⟨_, rfl⟩
  rw [← hS0] at qf qs hne'
  have kp : ((0 : Int) < (k : Int)) = True := eq_true (by omega)
  clear h hne hS0
  go_enter Tryz.func41, Tryz.ntmps41
  go_wp2_with (go_at_call 39; refine qf.mono ?_; rintro e w1 ⟨g, cap, rfl, hg, cg, b1⟩; have d1 := (b1.cell (p := ⟨L, 1, none⟩) (by exact hL)).trans c1; have hL1 := Nat.lt_of_lt_of_le hL b1.size)
  refine wp_loop_rounds 2 ?_
  rw [rounds_succ]
  go_wp2_with (go_at_call 82; refine (qs _).mono ?_; rintro e w2 ⟨rfl, b2⟩; have d2 := (b2.cell (p := ⟨L, 1, none⟩) (by exact hL1)).trans d1)
  rw [rounds_succ]
  go_wp2
  go_end0
  exact ⟨rfl, bmm b1 b1.size b2⟩
end
end Go.Proofs.YtdhlbldmdeepiaaGreatDoor
/-
  A log's opening (package wal) on a disk with at most one segment, whole. The conditions: the segment's number is from 1 to 97; package frame's table lies in memory; fewer than 2^62 appends.
-/
namespace Go.Proofs.YtdhlbldmdeepiaaGreatDoor
open Go.RowKit

/-- What an opening makes of a segment. -/
def Mended (k : Nat) (bs : List UInt8) (sure : Nat) (ps : List (Nat × Nat)) (k' : Nat) (bs' : List UInt8) (sure' : Nat) (ps' : List (Nat × Nat)) : Prop :=
  ((recs bs).2 = bs.length ∧ k' = k ∧ bs' = bs ∧ sure' = sure ∧ ps' = ps) ∨ ((recs bs).2 ≠ bs.length ∧ k' = k + 1 ∧ bs' = framesOf (recs bs).1 ∧ sure' = bs'.length ∧ ps' = [])
theorem Mended.reads {k : Nat} {bs : List UInt8} {sure : Nat} {ps : List (Nat × Nat)} {k' : Nat} {bs' : List UInt8} {sure' : Nat} {ps' : List (Nat × Nat)} (h : Mended k bs sure ps k' bs' sure' ps') : recs bs' = ((recs bs).1, bs'.length) := by
  rcases h with ⟨h1, _, h2, _⟩ | ⟨_, _, h2, _⟩
  · rw [h2, ← h1]
  · rw [h2]
    exact recs_back _ (recs_only bs).1
/-- A new log is not the disk's. -/
theorem lg_new {w w1 : World} {base D : Nat} {A : List CF} {t : Nat} {ro : Nat → Option Nat} (h : DkS w base D A t ro) (b : Below w.heap.size w w1) (k : Nat) : LgS (w1.alloc (.cells #[.pointer (some ⟨D, 0, none⟩), .int .i64 (k : Int)] 87)) base w1.heap.size D k A t ro := by
  have hs := b.size
  have hb := h.base
  refine ⟨h.fresh (b.alloc hs _), heap_alloc_new w1 _, ?_, by omega⟩
  cases hr : ro w1.heap.size with
  | none => rfl
  | some x =>
    have := (h.bd w1.heap.size (by rw [hr]; simp)).2
    omega
section
variable {w : World} {base D k : Nat} {t : Nat} {ro : Nat → Option Nat}
set_option maxHeartbeats 3200000 in
set_option maxRecDepth 100000 in
theorem open_zero (h : DkS w base D [] t ro) : Calls Tryz.prog 14 #[.pointer (some ⟨D, 0, none⟩)] w fun e w' => ∃ L, e = .returned (.tuple #[.pointer (some ⟨L, 0, none⟩), .slice none 0 0, .int .i64 0]) ∧ LgS w' base L D 0 [] t ro ∧ Below w.heap.size w w' := by
  have qf := o_files0 h
  have H : Hid (DkS w base D [] t ro) := h
  clear h
  go_enter Tryz.func14, Tryz.ntmps14
  go_wp2_with (first
    | (go_at_call 41; refine (removeOthers_zero h2.out).mono ?_; rintro e w3 ⟨rfl, b3⟩)
    | (go_at_call 40; have h2 : Hid (LgS (w1.alloc (.cells #[.pointer (some ⟨D, 0, none⟩), .int .i64 ((0 : Nat) : Int)] 87)) base w1.heap.size D 0 [] t ro) := lg_new H.out b1 0; refine (mend_zero h2.out).mono ?_; rintro e w2 ⟨rfl, rfl⟩)
    | (go_at_call 38; refine (greatest_zero p cap _).mono ?_; rintro e w' ⟨rfl, rfl⟩)
    | (go_at_call 39; refine qf.mono ?_; rintro e w1 ⟨p, cap, rfl, b1⟩))
  go_ret3
  have b2 := b1.alloc b1.size (.cells #[.pointer (some ⟨D, 0, none⟩), .int .i64 ((0 : Nat) : Int)] 87)
  exact ⟨_, rfl, h2.out.fresh b3, bmm b2 b2.size b3⟩
set_option maxHeartbeats 6400000 in
set_option maxRecDepth 100000 in
theorem open_same {c sure : Nat} {bs : List UInt8} {ps : List (Nat × Nat)} (h1k : 1 ≤ k) (hk : k < 98) (h : DkS w base D (oneN (segB k) c bs sure ps) t ro) (hT : Tab w) (hr : (recs bs).2 = bs.length) : Calls Tryz.prog 14 #[.pointer (some ⟨D, 0, none⟩)] w fun e w' => ∃ L v, e = .returned (.tuple #[.pointer (some ⟨L, 0, none⟩), v, .int .i64 0]) ∧ LgS w' base L D k (oneN (segB k) c bs sure ps) t ro ∧ RowO w' ro L v (recs bs).1 ∧ Below w.heap.size w w' := by
  have qf := o_files h
  have H : Hid (DkS w base D (oneN (segB k) c bs sure ps) t ro) := h
  have hbs : bs.length ≤ 4194304 := (h.ok.1 (fileN (segB k) c bs sure ps) (List.mem_singleton.mpr rfl)).mx
  have HT : Hid (Tab w) := hT
  have HR : Hid ((recs bs).2 = bs.length) := hr
  have kk : k < 100 := by omega
  clear h hT hr
  go_enter Tryz.func14, Tryz.ntmps14
  go_wp2_with (first
    | (go_at_call 41; refine (removeOthers_one h1k kk h4.out).mono ?_; rintro e w5 ⟨rfl, b5⟩)
    | (go_at_call 40; have h3 : Hid (LgS (w2.alloc (.cells #[.pointer (some ⟨D, 0, none⟩), .int .i64 (k : Int)] 87)) base w2.heap.size D k (oneN (segB k) c bs sure ps) t ro) := lg_new H.out b2 k; have b3 := b2.alloc b2.size (.cells #[.pointer (some ⟨D, 0, none⟩), .int .i64 (k : Int)] 87); refine (mend_same h1k hk h3.out hbs (HT.out.below b3) HR.out).mono ?_; rintro e w4 ⟨v, rfl, r4', b4⟩; have r4 : Hid _ := r4'; have h4 : Hid _ := h3.out.fresh b4; obtain ⟨pv, cv, rfl⟩ := r4'.row.form; clear r4')
    | (go_at_call 38; refine (greatest_one g cap k h1k kk _ cg).mono ?_; rintro e w2 ⟨rfl, b2'⟩; have b2 := bmm b1 b1.size b2')
    | (go_at_call 39; refine qf.mono ?_; rintro e w1 ⟨g, cap, rfl, hg, cg, b1⟩))
  go_ret3
  have b6 := bmm b3 b3.size b4
  exact ⟨_, _, rfl, h4.out.fresh b5, r4.out.fresh b5, bmm b6 b6.size b5⟩
set_option maxHeartbeats 6400000 in
set_option maxRecDepth 100000 in
theorem open_reset {c sure : Nat} {bs : List UInt8} {ps : List (Nat × Nat)} (h1k : 1 ≤ k) (hk : k < 98) (h : DkS w base D (oneN (segB k) c bs sure ps) t ro) (ht : t < 4611686018427387904) (hT : Tab w) (hr : (recs bs).2 ≠ bs.length) : Calls Tryz.prog 14 #[.pointer (some ⟨D, 0, none⟩)] w fun e w' => ∃ L v c' t' ro', e = .returned (.tuple #[.pointer (some ⟨L, 0, none⟩), v, .int .i64 0]) ∧ t' ≤ t + 1 ∧ LgS w' base L D (k + 1) (oneN (segB (k + 1)) c' (framesOf (recs bs).1) (framesOf (recs bs).1).length []) t' ro' ∧ RowO w' ro' L v (recs bs).1 ∧ Ext w w' ro ro' := by
  have qf := o_files h
  have H : Hid (DkS w base D (oneN (segB k) c bs sure ps) t ro) := h
  have hbs : bs.length ≤ 4194304 := (h.ok.1 (fileN (segB k) c bs sure ps) (List.mem_singleton.mpr rfl)).mx
  have HT : Hid (Tab w) := hT
  have HR : Hid ((recs bs).2 ≠ bs.length) := hr
  have kk : k < 100 := by omega
  have kk1 : k + 1 < 100 := by omega
  clear h hT hr
  go_enter Tryz.func14, Tryz.ntmps14
  go_wp2_with (first
    | (go_at_call 41; refine (removeOthers_one (by omega) kk1 h4.out).mono ?_; rintro e w5 ⟨rfl, b5⟩)
    | (go_at_call 40; have h3 : Hid (LgS (w2.alloc (.cells #[.pointer (some ⟨D, 0, none⟩), .int .i64 (k : Int)] 87)) base w2.heap.size D k (oneN (segB k) c bs sure ps) t ro) := lg_new H.out b2 k; have b3 := b2.alloc b2.size (.cells #[.pointer (some ⟨D, 0, none⟩), .int .i64 (k : Int)] 87); refine (mend_reset h1k hk h3.out hbs ht (HT.out.below b3) HR.out).mono ?_; rintro e w4 ⟨v, c', t', ro', rfl, ht', h4', r4', b4, x4'⟩; have r4 : Hid _ := r4'; have h4 : Hid _ := h4'; have x4 : Hid _ := x4'; obtain ⟨pv, cv, rfl⟩ := r4'.row.form; clear r4' h4' x4')
    | (go_at_call 38; refine (greatest_one g cap k h1k kk _ cg).mono ?_; rintro e w2 ⟨rfl, b2'⟩; have b2 := bmm b1 b1.size b2')
    | (go_at_call 39; refine qf.mono ?_; rintro e w1 ⟨g, cap, rfl, hg, cg, b1⟩))
  go_ret3
  have hx : Ext w w4 ro ro' := ExtL.new x4.out b3 (by have := b2.size; omega)
  exact ⟨_, _, c', t', ro', rfl, ht', h4.out.fresh b5, r4.out.fresh b5, hx.trans (Ext.of_below b5)⟩
/-- An opening where there is a segment. -/
theorem open_one {c sure : Nat} {bs : List UInt8} {ps : List (Nat × Nat)} (h1k : 1 ≤ k) (hk : k < 98) (h : DkS w base D (oneN (segB k) c bs sure ps) t ro) (ht : t < 4611686018427387904) (hT : Tab w) : Calls Tryz.prog 14 #[.pointer (some ⟨D, 0, none⟩)] w fun e w' => ∃ L v k' c' bs' sure' ps' t' ro', e = .returned (.tuple #[.pointer (some ⟨L, 0, none⟩), v, .int .i64 0]) ∧ t' ≤ t + 1 ∧ LgS w' base L D k' (oneN (segB k') c' bs' sure' ps') t' ro' ∧ RowO w' ro' L v (recs bs).1 ∧ Ext w w' ro ro' ∧ Mended k bs sure ps k' bs' sure' ps' := by
  by_cases hr : (recs bs).2 = bs.length
  · exact (open_same h1k hk h hT hr).mono fun e w' ⟨L, v, h1, h2, h3, h4⟩ => ⟨L, v, k, c, bs, sure, ps, t, ro, h1, by omega, h2, h3, Ext.of_below h4, Or.inl ⟨hr, rfl, rfl, rfl, rfl⟩⟩
  · exact (open_reset h1k hk h ht hT hr).mono fun e w' ⟨L, v, c', t', ro', h1, h0, h2, h3, h4⟩ => ⟨L, v, k + 1, c', _, _, [], t', ro', h1, h0, h2, h3, h4, Or.inr ⟨hr, rfl, rfl, rfl, rfl⟩⟩
end
end Go.Proofs.YtdhlbldmdeepiaaGreatDoor
