/-
  Parts of the proof, laid together: WvLog, WvReset. The conditions stand at each part.
-/
import Derived.Test.YtdhlbldmdeepiaaGreatDoorRWvDisk
import Derived.Test.YtdhlbldmdeepiaaGreatDoorRWvFrames
import Derived.Test.YtdhlbldmdeepiaaGreatDoorRWvRead
/-
  A log in memory (package wal) on a disk with at most one segment: its small functions. The condition: the segment's number is below 98.
-/
namespace Go.Proofs.YtdhlbldmdeepiaaGreatDoor
open Go.RowKit

theorem Tab.low {w w' : World} {B : Nat} (h : Tab w) (b : Below B w w') (h0 : 0 < B) : Tab w' := ⟨Nat.lt_of_lt_of_le h.1 b.size, fun i hi => (b.cell (by exact h0)).trans (h.2 i hi)⟩
/-- The log in block L, on the disk in block D, of number k; the disk's files. -/
structure LgS (w : World) (base L D k : Nat) (A : List CF) (t : Nat) (ro : Nat → Option Nat) : Prop where
  dk : DkS w base D A t ro
  lg : w.heap[L]? = some (.cells #[.pointer (some ⟨D, 0, none⟩), .int .i64 (k : Int)] 87 (0, 0))
  out : ro L = none
  lo : base ≤ L
theorem LgS.lt {w : World} {base L D k : Nat} {A : List CF} {t : Nat} {ro : Nat → Option Nat} (h : LgS w base L D k A t ro) : L < w.heap.size := lt_of_block h.lg
theorem LgS.ext {w w' : World} {base L D k : Nat} {A A' : List CF} {t t' : Nat} {ro ro' : Nat → Option Nat} (h : LgS w base L D k A t ro) (d : DkS w' base D A' t' ro') (x : Ext w w' ro ro') : LgS w' base L D k A' t' ro' :=
  ⟨d, (x.kept L h.lt h.out).trans h.lg, (x.old L h.lt).trans h.out, h.lo⟩
theorem LgS.fresh {w w' : World} {base L D k : Nat} {A : List CF} {t : Nat} {ro : Nat → Option Nat} (h : LgS w base L D k A t ro) (b : Below w.heap.size w w') : LgS w' base L D k A t ro :=
  ⟨h.dk.fresh b, (b.block L h.lt).trans h.lg, h.out, h.lo⟩
theorem LgS.c0 {w : World} {base L D k : Nat} {A : List CF} {t : Nat} {ro : Nat → Option Nat} (h : LgS w base L D k A t ro) : w.cell? ⟨L, 0, none⟩ = some (.pointer (some ⟨D, 0, none⟩)) := by simp [World.cell?, h.lg]
theorem LgS.c1 {w : World} {base L D k : Nat} {A : List CF} {t : Nat} {ro : Nat → Option Nat} (h : LgS w base L D k A t ro) : w.cell? ⟨L, 1, none⟩ = some (.int .i64 (k : Int)) := by simp [World.cell?, h.lg]
theorem LgS.f1 {w : World} {base L D k : Nat} {A : List CF} {t : Nat} {ro : Nat → Option Nat} (h : LgS w base L D k A t ro) : w.frozen? ⟨L, 1, none⟩ = false := by simp [World.frozen?, h.lg]
theorem LgS.set {w : World} {base L D k : Nat} {A : List CF} {t : Nat} {ro : Nat → Option Nat} (h : LgS w base L D k A t ro) (m : Nat) : LgS (w.setCell ⟨L, 1, none⟩ (.int .i64 (m : Int))) base L D m A t ro := by
  refine ⟨h.dk.keep (by simp) (fun b hb => heap_setCell_other _ _ _ _ (by rintro rfl; exact hb h.out)), ?_, h.out, h.lo⟩
  rw [heap_setCell_same w L 1 _ _ _ h.lg]
  rfl
theorem LgS.base {w : World} {base L D k : Nat} {A : List CF} {t : Nat} {ro : Nat → Option Nat} (h : LgS w base L D k A t ro) : base ≤ w.heap.size := h.dk.base
theorem LgS.below {w w' : World} {base L D k : Nat} {A : List CF} {t : Nat} {ro ro' : Nat → Option Nat} (h : LgS w base L D k A t ro) (x : Ext w w' ro ro') : Below base w w' := h.dk.below x
theorem LgS.set_below {w : World} {base L D k : Nat} {A : List CF} {t : Nat} {ro : Nat → Option Nat} (h : LgS w base L D k A t ro) (m : Nat) : Below base w (w.setCell ⟨L, 1, none⟩ (.int .i64 (m : Int))) := (Below.refl base w).setCell (p := ⟨L, 1, none⟩) h.lo _
/-- A row of records that is not the disk's. -/
structure RowO (w : World) (ro : Nat → Option Nat) (L : Nat) (v : Value) (l : List Rc) : Prop where
  row : RowAt rcC w v l
  own : ∀ bk off n cap, 0 < n → v = .slice (some ⟨bk, off, none⟩) n cap → bk < w.heap.size ∧ ro bk = none ∧ bk ≠ L
theorem RowO.ext {w w' : World} {ro ro' : Nat → Option Nat} {L : Nat} {v : Value} {l : List Rc} (h : RowO w ro L v l) (x : Ext w w' ro ro') : RowO w' ro' L v l :=
  ⟨h.row.keep x.size (fun bk off n cap h0 e => x.kept bk (h.own bk off n cap h0 e).1 (h.own bk off n cap h0 e).2.1), fun bk off n cap h0 e => ⟨Nat.lt_of_lt_of_le (h.own bk off n cap h0 e).1 x.size, (x.old bk (h.own bk off n cap h0 e).1).trans (h.own bk off n cap h0 e).2.1, (h.own bk off n cap h0 e).2.2⟩⟩
theorem RowO.fresh {w w' : World} {ro : Nat → Option Nat} {L : Nat} {v : Value} {l : List Rc} (h : RowO w ro L v l) (b : Below w.heap.size w w') : RowO w' ro L v l :=
  ⟨h.row.fresh b, fun bk off n cap h0 e => ⟨Nat.lt_of_lt_of_le (h.own bk off n cap h0 e).1 b.size, (h.own bk off n cap h0 e).2⟩⟩
theorem RowO.set {w : World} {ro : Nat → Option Nat} {L : Nat} {v : Value} {l : List Rc} (h : RowO w ro L v l) (x : Value) : RowO (w.setCell ⟨L, 1, none⟩ x) ro L v l :=
  ⟨h.row.keep (by simp) (fun bk off n cap h0 e => heap_setCell_other _ _ _ _ (by exact (h.own bk off n cap h0 e).2.2)), fun bk off n cap h0 e => by
    have := h.own bk off n cap h0 e
    exact ⟨by simpa using this.1, this.2⟩⟩
section
variable {w : World} {base L D k : Nat} {A : List CF} {t : Nat} {ro : Nat → Option Nat}
set_option maxRecDepth 100000 in
theorem segment_any (h : LgS w base L D k A t ro) : Calls Tryz.prog 26 #[.pointer (some ⟨L, 0, none⟩)] w fun e w' => e = .returned (.int .i64 (k : Int)) ∧ w = w' := by
  have c1 := h.c1
  go_enter Tryz.func26, Tryz.ntmps26
  go_wp2
  go_ret
  exact ⟨rfl, rfl⟩
set_option maxHeartbeats 3200000 in
set_option maxRecDepth 100000 in
theorem layTemp_any {c sure : Nat} {bs : List UInt8} {ps : List (Nat × Nat)} (hk : k < 100) (h : LgS w base L D k (oneN (segB k) c bs sure ps) t ro) (s : ByteArray) (hs : s.size ≤ 4194304) (ht : t < 4611686018427387904) :
    Calls Tryz.prog 52 #[.pointer (some ⟨L, 0, none⟩), .string s] w fun e w' => e = .returned (.int .i64 0) ∧ ∃ c2 t' ro', t' ≤ t + 1 ∧ LgS w' base L D k [fileN (segB k) c bs sure ps, fileN tmpB c2 s.data.toList s.data.toList.length []] t' ro' ∧ Ext w w' ro ro' := by
  have c0 := h.c0
  have hne := segB_tmp hk
  have H : Hid (LgS w base L D k (oneN (segB k) c bs sure ps) t ro) := h
  have q1 := t_none h.dk hne
  have q2 := t_begin h.dk hne s hs ht
  clear h
  go_enter Tryz.func52, Tryz.ntmps52
  go_wp2_with (first
    | (go_at_call 28; refine (t_sync h2.out.dk hne).mono ?_; rintro e w3 ⟨rfl, k3, x3⟩; have h3 : Hid _ := h2.out.ext k3 x3; have y3 := x2.out.trans x3)
    | (go_at_call 23; refine q2.mono ?_; rintro e w2 ⟨rfl, c2, t', ro', ht', k2, y2⟩; have h2 : Hid _ := H.out.ext k2 y2; have x2 : Hid _ := y2; have d0 := h2.out.c0; clear k2 y2)
    | (go_at_call 54; refine q1.mono ?_; rintro e w1 ⟨rfl, rfl⟩))
  go_ret
  exact ⟨rfl, c2, t', ro', ht', h3.out, y3⟩
end
end Go.Proofs.YtdhlbldmdeepiaaGreatDoor
/-
  A log's Reset (package wal) on a disk with one segment. The conditions: the segment's number is from 1 to 97; all records may be, their frames have at most 2^22 bytes; package frame's table lies in memory.
-/
namespace Go.Proofs.YtdhlbldmdeepiaaGreatDoor
open Go.RowKit

theorem unx {w w' : World} {ro ro' : Nat → Option Nat} (x : Ext w.drew w' ro ro') : Ext w w' ro ro' := ⟨x.os, x.tape, x.output, x.size, x.old, x.kept⟩
theorem Ext.of_below {w w' : World} {ro : Nat → Option Nat} (b : Below w.heap.size w w') : Ext w w' ro ro := ⟨b.os, b.tape, b.output, b.size, fun _ _ => rfl, fun i hi _ => b.block i hi⟩
theorem dkd {w : World} {base D : Nat} {A : List CF} {t : Nat} {ro : Nat → Option Nat} (h : DkS w base D A t ro) : DkS w.drew base D A t ro := h.fresh ⟨rfl, rfl, rfl, Nat.le_refl _, fun _ _ => rfl⟩
theorem framesT_all {l : List Rc} (h : l.all mayR = true) : framesT l = (⟨(framesOf l).toArray⟩, 0) := by
  unfold framesT
  rw [if_pos h]
/-- What a log's call leaves: what is neither the disk's nor the log's block has not turned. -/
structure ExtL (w w' : World) (ro ro' : Nat → Option Nat) (L : Nat) : Prop where
  os : w'.os = w.os
  tape : w'.tape = w.tape
  output : w'.output = w.output
  size : w.heap.size ≤ w'.heap.size
  old : ∀ b, b < w.heap.size → ro' b = ro b
  kept : ∀ b, b < w.heap.size → ro b = none → b ≠ L → w'.heap[b]? = w.heap[b]?
theorem ExtL.of {w w' : World} {ro ro' : Nat → Option Nat} {L : Nat} (x : Ext w w' ro ro') : ExtL w w' ro ro' L := ⟨x.os, x.tape, x.output, x.size, x.old, fun b h1 h2 _ => x.kept b h1 h2⟩
theorem ExtL.set {w w' : World} {ro ro' : Nat → Option Nat} {L : Nat} (x : Ext w w' ro ro') (v : Value) : ExtL w (w'.setCell ⟨L, 1, none⟩ v) ro ro' L :=
  ⟨x.os, x.tape, x.output, by simpa using x.size, x.old, fun b h1 h2 h3 => (heap_setCell_other _ _ _ _ h3).trans (x.kept b h1 h2)⟩
/-- A log that was made within. -/
theorem ExtL.new {w w1 w' : World} {ro ro' : Nat → Option Nat} {L : Nat} (x : ExtL w1 w' ro ro' L) (b : Below w.heap.size w w1) (hL : w.heap.size ≤ L) : Ext w w' ro ro' :=
  ⟨x.os.trans b.os, x.tape.trans b.tape, x.output.trans b.output, Nat.le_trans b.size x.size, fun i hi => x.old i (Nat.lt_of_lt_of_le hi b.size), fun i hi hr => (x.kept i (Nat.lt_of_lt_of_le hi b.size) hr (by omega)).trans (b.block i hi)⟩
section
variable {w : World} {base L D k : Nat} {t : Nat} {ro : Nat → Option Nat}
set_option maxHeartbeats 6400000 in
set_option maxRecDepth 100000 in
theorem reset_any {c sure : Nat} {bs : List UInt8} {ps : List (Nat × Nat)} (h1k : 1 ≤ k) (hk : k < 98) (h : LgS w base L D k (oneN (segB k) c bs sure ps) t ro) (v : Value) (l : List Rc) (hv : RowO w ro L v l) (hl : l.length ≤ 351843720000) (hm : l.all mayR = true) (hs : (framesOf l).length ≤ 4194304) (ht : t < 4611686018427387904) (hT : Tab w) :
    Calls Tryz.prog 19 #[.pointer (some ⟨L, 0, none⟩), v] w fun e w' => e = .returned (.int .i64 0) ∧ ∃ c' t' ro', t' ≤ t + 1 ∧ LgS w' base L D (k + 1) (oneN (segB (k + 1)) c' (framesOf l) (framesOf l).length []) t' ro' ∧ RowO w' ro' L v l ∧ Below base w w' ∧ ExtL w w' ro ro' L := by
  have qf := wframes_any w v l hv.row hl hT
  rw [framesT_all hm] at qf
  obtain ⟨F, hF⟩ : ∃ F : ByteArray, F = ⟨(framesOf l).toArray⟩ := ⟨_, rfl⟩
  rw [← hF] at qf
  have HF : Hid (F.data.toList = framesOf l) := by rw [hF]; rfl
  have zF : F.size ≤ 4194304 := by rw [Lib.size_eq, HF.out]; exact hs
  have zF2 : ((4194304 : Int) < (F.size : Int)) = False := eq_false (by omega)
  have kM : ((k : Int) == 9999999999999999) = false := by simpa using (by omega : ¬ (k : Int) = 9999999999999999)
  have kP : ((0 : Int) < (k : Int)) = True := eq_true (by omega)
  have qn0 := segName_any k (by omega)
  have qn1' := segName_any (k + 1) (by omega)
  have qn1 : ∀ w, Calls Tryz.prog 48 #[.int .i64 ((k : Int) + 1)] w fun e w' => e = .returned (.string (segB (k + 1))) ∧ w = w' := fun w => by
    have := qn1' w
    rw [show ((k + 1 : Nat) : Int) = (k : Int) + 1 by omega] at this
    exact this
  have kW : IntKind.i64.wrap ((k : Int) + 1) = (k : Int) + 1 := by rw [IntKind.wrap_i64]; omega
  have hnt := segB_tmp (a := k) (by omega)
  have hnn := segB_ne (a := k) (b := k + 1) (by omega) (by omega) (by omega)
  have hnb := nameB_seg (k := k + 1) (by omega)
  have hmx := seg_max (k := k) (by omega)
  have H : Hid (LgS w base L D k (oneN (segB k) c bs sure ps) t ro) := h
  have HV : Hid (RowO w ro L v l) := hv
  obtain ⟨va, vn, rfl⟩ := hv.row.form
  obtain ⟨S0, hS0⟩ : ∃ s, s = segB k := ⟨_, rfl⟩
  obtain ⟨S1, hS1⟩ : ∃ s, s = segB (k + 1) := ⟨_, rfl⟩
  have qlt := fun w h => @layTemp_any w base L D k t ro c sure bs ps (by omega) h F zF ht
  rw [← hS0] at qn0 hnt hnn hmx H qlt
  rw [← hS1] at qn1 hnn hnb ⊢
  clear h hv hm hs hF hS0 hS1 qn1' hT
  go_enter Tryz.func19, Tryz.ntmps19
  go_wp2_with (first
    | (go_at_call 52; refine (qlt _ h1.out).mono ?_; rintro e w2 ⟨rfl, c2, t', ro', ht', h2', x2'⟩; have h2 : Hid _ := h2'; have x2 : Hid _ := x1.out.trans x2'; have d0 := h2'.c0; have d1 := h2'.c1; clear h2' x2')
    | (go_at_call 51; refine qf.mono ?_; rintro e w1 ⟨rfl, b1⟩; have h1 : Hid _ := H.out.fresh b1; have x1 : Hid (Ext w w1 ro ro) := Ext.of_below b1; have z0 := h1.out.c0; have z1 := h1.out.c1))
  go_region_held3 (fun w' => w'.cell? ⟨L, 0, none⟩ = some (.pointer (some ⟨D, 0, none⟩)) ∧ w'.cell? ⟨L, 1, none⟩ = some (.int .i64 (k : Int))) (go_keep)
    (first
      | (go_at_call 53; refine (t_rename (dkd h2.out.dk) hnt hnn hnb).mono ?_; rintro e w3 ⟨rfl, k3, x3'⟩; have h3 : Hid _ := h2.out.ext k3 (unx x3'); have x3 : Hid _ := x2.out.trans (unx x3'); have e0 := h3.out.c0; have e1 := h3.out.c1; clear k3 x3')
      | (go_at_call 48; refine (qn1 _).mono ?_; rintro e w' ⟨rfl, rfl⟩))
  go_wp2
  go_region_held3 (fun w' => w'.cell? ⟨L, 0, none⟩ = some (.pointer (some ⟨D, 0, none⟩)) ∧ w'.cell? ⟨L, 1, none⟩ = some (.int .i64 (k : Int))) (go_keep)
    (first
      | (go_at_call 54; refine (t_remove (dkd h3.out.dk) hnn hmx).mono ?_; rintro e w4 ⟨rfl, k4, x4'⟩; have h4 : Hid _ := h3.out.ext k4 (unx x4'); have x4 : Hid _ := x3.out.trans (unx x4'); have g0 := h4.out.c0; have g1 := h4.out.c1; have g2 := h4.out.f1; clear k4 x4')
      | (go_at_call 48; refine (qn0 _).mono ?_; rintro e w' ⟨rfl, rfl⟩))
  go_wp2
  go_ret
  have hx := x4.out
  have hS := h4.out.set (k + 1)
  rw [show ((k + 1 : Nat) : Int) = (k : Int) + 1 by omega] at hS
  have hB := h4.out.set_below (k + 1)
  rw [show ((k + 1 : Nat) : Int) = (k : Int) + 1 by omega] at hB
  rw [HF.out] at hS
  exact ⟨rfl, c2, t', ro', ht', hS, (HV.out.ext hx).set _, (H.out.below hx).trans hB, ExtL.set hx _⟩
end
end Go.Proofs.YtdhlbldmdeepiaaGreatDoor
