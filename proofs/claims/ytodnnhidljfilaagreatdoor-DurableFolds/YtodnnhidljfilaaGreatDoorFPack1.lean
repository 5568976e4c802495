/-
  Parts of the proof, laid together: WvLog, WvReset, WvWrite, WvOpen, WvOpenA. The conditions stand at each part.
-/
import Derived.Test.YtodnnhidljfilaaGreatDoorFPackY
import Derived.Test.YtodnnhidljfilaaGreatDoorFPack0
/-
  A log in memory (package wal) on a disk with at most one segment: its small functions. The condition: the segment's number is below 98.
-/
namespace Go.Proofs.YtodnnhidljfilaaGreatDoor
open Go.RowKit

theorem Tab.low {w w' : World} {B : Nat} (h : Tab w) (b : Below B w w') (h0 : 3 < B) : Tab w' := ⟨Nat.lt_of_lt_of_le h.1 b.size, fun i hi => (b.cell (by exact h0)).trans (h.2 i hi)⟩
/-- The log in block L, on the disk in block D, of number k; the disk's files. -/
structure LgS (w : World) (base L D k : Nat) (A : List CF) (t : Nat) (ro : Nat → Option Nat) : Prop where
  dk : DkS w base D A t ro
  lg : w.heap[L]? = some (.cells #[.pointer (some ⟨D, 0, none⟩), .int .i64 (k : Int)] 123 (0, 0))
  out : ro L = none
  lo : base ≤ L
theorem LgS.lt {w : World} {base L D k : Nat} {A : List CF} {t : Nat} {ro : Nat → Option Nat} (h : LgS w base L D k A t ro) : L < w.heap.size := lt_of_block h.lg
theorem LgS.ext {w w' : World} {base L D k : Nat} {A A' : List CF} {t t' : Nat} {ro ro' : Nat → Option Nat} (h : LgS w base L D k A t ro) (d : DkS w' base D A' t' ro') (x : Ext w w' ro ro') : LgS w' base L D k A' t' ro' :=
  ⟨d, (x.kept L h.lt h.out).trans h.lg, (x.old L h.lt).trans h.out, h.lo⟩
theorem LgS.fresh {w w' : World} {base L D k : Nat} {A : List CF} {t : Nat} {ro : Nat → Option Nat} (h : LgS w base L D k A t ro) (b : Below w.heap.size w w') : LgS w' base L D k A t ro :=
  ⟨h.dk.fresh b, (b.block L h.lt).trans h.lg, h.out, h.lo⟩
theorem LgS.c0 {w : World} {base L D k : Nat} {A : List CF} {t : Nat} {ro : Nat → Option Nat} (h : LgS w base L D k A t ro) : w.cell? ⟨L, 0, none⟩ = some (.pointer (some ⟨D, 0, none⟩)) := by simp [World.cell?, h.lg]
theorem LgS.c1 {w : World} {base L D k : Nat} {A : List CF} {t : Nat} {ro : Nat → Option Nat} (h : LgS w base L D k A t ro) : w.cell? ⟨L, 1, none⟩ = some (.int .i64 (k : Int)) := by simp [World.cell?, h.lg]
theorem LgS.f1 {w : World} {base L D k : Nat} {A : List CF} {t : Nat} {ro : Nat → Option Nat} (h : LgS w base L D k A t ro) : w.frozen? ⟨L, 1, none⟩ = false := by simp [World.frozen?, h.lg]
theorem LgS.set {w : World} {base L D k : Nat} {A : List CF} {t : Nat} {ro : Nat → Option Nat} (h : LgS w base L D k A t ro) (m : Nat) : LgS (w.setCell ⟨L, 1, none⟩ (.int .i64 (m : Int))) base L D m A t ro := by
  refine ⟨h.dk.keep (by simp) (fun b hb => heap_setCell_other _ _ _ _ (by rintro rfl; exact hb h.out)), ?_, h.out, h.lo⟩
  rw [heap_setCell_same w L 1 _ _ _ h.lg]
  rfl
theorem LgS.base {w : World} {base L D k : Nat} {A : List CF} {t : Nat} {ro : Nat → Option Nat} (h : LgS w base L D k A t ro) : base ≤ w.heap.size := h.dk.base
theorem LgS.below {w w' : World} {base L D k : Nat} {A : List CF} {t : Nat} {ro ro' : Nat → Option Nat} (h : LgS w base L D k A t ro) (x : Ext w w' ro ro') : Below base w w' := h.dk.below x
theorem LgS.set_below {w : World} {base L D k : Nat} {A : List CF} {t : Nat} {ro : Nat → Option Nat} (h : LgS w base L D k A t ro) (m : Nat) : Below base w (w.setCell ⟨L, 1, none⟩ (.int .i64 (m : Int))) := (Below.refl base w).setCell (p := ⟨L, 1, none⟩) h.lo _
/-- A row of records that is not the disk's. -/
structure RowO (w : World) (ro : Nat → Option Nat) (L : Nat) (v : Value) (l : List Rc) : Prop where
  row : RowAt rcC w v l
  own : ∀ bk off n cap, 0 < n → v = .slice (some ⟨bk, off, none⟩) n cap → bk < w.heap.size ∧ ro bk = none ∧ bk ≠ L
theorem RowO.ext {w w' : World} {ro ro' : Nat → Option Nat} {L : Nat} {v : Value} {l : List Rc} (h : RowO w ro L v l) (x : Ext w w' ro ro') : RowO w' ro' L v l :=
  ⟨h.row.keep x.size (fun bk off n cap h0 e => x.kept bk (h.own bk off n cap h0 e).1 (h.own bk off n cap h0 e).2.1), fun bk off n cap h0 e => ⟨Nat.lt_of_lt_of_le (h.own bk off n cap h0 e).1 x.size, (x.old bk (h.own bk off n cap h0 e).1).trans (h.own bk off n cap h0 e).2.1, (h.own bk off n cap h0 e).2.2⟩⟩
theorem RowO.fresh {w w' : World} {ro : Nat → Option Nat} {L : Nat} {v : Value} {l : List Rc} (h : RowO w ro L v l) (b : Below w.heap.size w w') : RowO w' ro L v l :=
  ⟨h.row.fresh b, fun bk off n cap h0 e => ⟨Nat.lt_of_lt_of_le (h.own bk off n cap h0 e).1 b.size, (h.own bk off n cap h0 e).2⟩⟩
theorem RowO.set {w : World} {ro : Nat → Option Nat} {L : Nat} {v : Value} {l : List Rc} (h : RowO w ro L v l) (x : Value) : RowO (w.setCell ⟨L, 1, none⟩ x) ro L v l :=
  ⟨h.row.keep (by simp) (fun bk off n cap h0 e => heap_setCell_other _ _ _ _ (by exact (h.own bk off n cap h0 e).2.2)), fun bk off n cap h0 e => by
    have := h.own bk off n cap h0 e
    exact ⟨by simpa using this.1, this.2⟩⟩
section
variable {w : World} {base L D k : Nat} {A : List CF} {t : Nat} {ro : Nat → Option Nat}
set_option maxHeartbeats 3200000 in
set_option maxRecDepth 100000 in
theorem layTemp_any {c sure : Nat} {bs : List UInt8} {ps : List (Nat × Nat)} (hk : k < 100) (h : LgS w base L D k (oneN (segB k) c bs sure ps) t ro) (s : ByteArray) (hs : s.size ≤ 4194304) (ht : t < 4611686018427387904) :
    Calls Tryz.prog 86 #[.pointer (some ⟨L, 0, none⟩), .string s] w fun e w' => e = .returned (.int .i64 0) ∧ ∃ c2 t' ro', t' ≤ t + 1 ∧ LgS w' base L D k [fileN (segB k) c bs sure ps, fileN tmpB c2 s.data.toList s.data.toList.length []] t' ro' ∧ Ext w w' ro ro' := by
  have c0 := h.c0
  have hne := segB_tmp hk
  have H : Hid (LgS w base L D k (oneN (segB k) c bs sure ps) t ro) := h
  have q1 := t_none h.dk hne
  have q2 := t_begin h.dk hne s hs ht
  clear h
  go_enter Tryz.func86, Tryz.ntmps86
  go_wp2_with (first
    | (go_at_call 73; refine (t_sync h2.out.dk hne).mono ?_; rintro e w3 ⟨rfl, k3, x3⟩; have h3 : Hid _ := h2.out.ext k3 x3; have y3 := x2.out.trans x3)
    | (go_at_call 76; refine q2.mono ?_; rintro e w2 ⟨rfl, c2, t', ro', ht', k2, y2⟩; have h2 : Hid _ := H.out.ext k2 y2; have x2 : Hid _ := y2; have d0 := h2.out.c0; clear k2 y2)
    | (go_at_call 87; refine q1.mono ?_; rintro e w1 ⟨rfl, rfl⟩))
  go_ret
  exact ⟨rfl, c2, t', ro', ht', h3.out, y3⟩
end
end Go.Proofs.YtodnnhidljfilaaGreatDoor
/-
  A log's Reset (package wal) on a disk with one segment. The conditions: the segment's number is from 1 to 97; all records may be, their frames have at most 2^22 bytes; package frame's table lies in memory.
-/
namespace Go.Proofs.YtodnnhidljfilaaGreatDoor
open Go.RowKit

theorem unx {w w' : World} {ro ro' : Nat → Option Nat} (x : Ext w.drew w' ro ro') : Ext w w' ro ro' := ⟨x.os, x.tape, x.output, x.size, x.old, x.kept⟩
theorem Ext.of_below {w w' : World} {ro : Nat → Option Nat} (b : Below w.heap.size w w') : Ext w w' ro ro := ⟨b.os, b.tape, b.output, b.size, fun _ _ => rfl, fun i hi _ => b.block i hi⟩
theorem dkd {w : World} {base D : Nat} {A : List CF} {t : Nat} {ro : Nat → Option Nat} (h : DkS w base D A t ro) : DkS w.drew base D A t ro := h.fresh ⟨rfl, rfl, rfl, Nat.le_refl _, fun _ _ => rfl⟩
theorem framesT_all {l : List Rc} (h : l.all mayR = true) : framesT l = (⟨(framesOf l).toArray⟩, 0) := by
  unfold framesT
  rw [if_pos h]
theorem framesT_bad {l : List Rc} (h : l.all mayR = false) : framesT l = (⟨#[]⟩, 1) := by
  unfold framesT
  rw [if_neg (by rw [h]; simp)]
/-- What a log's call leaves: what is neither the disk's nor the log's block has not turned. -/
structure ExtL (w w' : World) (ro ro' : Nat → Option Nat) (L : Nat) : Prop where
  os : w'.os = w.os
  tape : w'.tape = w.tape
  output : w'.output = w.output
  size : w.heap.size ≤ w'.heap.size
  old : ∀ b, b < w.heap.size → ro' b = ro b
  kept : ∀ b, b < w.heap.size → ro b = none → b ≠ L → w'.heap[b]? = w.heap[b]?
theorem ExtL.of {w w' : World} {ro ro' : Nat → Option Nat} {L : Nat} (x : Ext w w' ro ro') : ExtL w w' ro ro' L := ⟨x.os, x.tape, x.output, x.size, x.old, fun b h1 h2 _ => x.kept b h1 h2⟩
theorem ExtL.set {w w' : World} {ro ro' : Nat → Option Nat} {L : Nat} (x : Ext w w' ro ro') (v : Value) : ExtL w (w'.setCell ⟨L, 1, none⟩ v) ro ro' L :=
  ⟨x.os, x.tape, x.output, by simpa using x.size, x.old, fun b h1 h2 h3 => (heap_setCell_other _ _ _ _ h3).trans (x.kept b h1 h2)⟩
/-- A log that was made within. -/
theorem ExtL.new {w w1 w' : World} {ro ro' : Nat → Option Nat} {L : Nat} (x : ExtL w1 w' ro ro' L) (b : Below w.heap.size w w1) (hL : w.heap.size ≤ L) : Ext w w' ro ro' :=
  ⟨x.os.trans b.os, x.tape.trans b.tape, x.output.trans b.output, Nat.le_trans b.size x.size, fun i hi => x.old i (Nat.lt_of_lt_of_le hi b.size), fun i hi hr => (x.kept i (Nat.lt_of_lt_of_le hi b.size) hr (by omega)).trans (b.block i hi)⟩
section
variable {w : World} {base L D k : Nat} {t : Nat} {ro : Nat → Option Nat}
set_option maxHeartbeats 6400000 in
set_option maxRecDepth 100000 in
theorem reset_any {c sure : Nat} {bs : List UInt8} {ps : List (Nat × Nat)} (h1k : 1 ≤ k) (hk : k < 98) (h : LgS w base L D k (oneN (segB k) c bs sure ps) t ro) (v : Value) (l : List Rc) (hv : RowO w ro L v l) (hl : l.length ≤ 351843720000) (hm : l.all mayR = true) (hs : (framesOf l).length ≤ 4194304) (ht : t < 4611686018427387904) (hT : Tab w) :
    Calls Tryz.prog 49 #[.pointer (some ⟨L, 0, none⟩), v] w fun e w' => e = .returned (.int .i64 0) ∧ ∃ c' t' ro', t' ≤ t + 1 ∧ LgS w' base L D (k + 1) (oneN (segB (k + 1)) c' (framesOf l) (framesOf l).length []) t' ro' ∧ RowO w' ro' L v l ∧ Below base w w' ∧ ExtL w w' ro ro' L := by
  have qf := wframes_any w v l hv.row hl hT
  rw [framesT_all hm] at qf
  obtain ⟨F, hF⟩ : ∃ F : ByteArray, F = ⟨(framesOf l).toArray⟩ := ⟨_, rfl⟩
  rw [← hF] at qf
  have HF : Hid (F.data.toList = framesOf l) := by rw [hF]; rfl
  have zF : F.size ≤ 4194304 := by rw [Lib.size_eq, HF.out]; exact hs
  have zF2 : ((4194304 : Int) < (F.size : Int)) = False := eq_false (by omega)
  have kM : ((k : Int) == 9999999999999999) = false := by simpa using (by omega : ¬ (k : Int) = 9999999999999999)
  have kP : ((0 : Int) < (k : Int)) = True := eq_true (by omega)
  have qn0 := segName_any k (by omega)
  have qn1' := segName_any (k + 1) (by omega)
  have qn1 : ∀ w, Calls Tryz.prog 74 #[.int .i64 ((k : Int) + 1)] w fun e w' => e = .returned (.string (segB (k + 1))) ∧ w = w' := fun w => by
    have := qn1' w
    rw [show ((k + 1 : Nat) : Int) = (k : Int) + 1 by omega] at this
    exact this
  have kW : IntKind.i64.wrap ((k : Int) + 1) = (k : Int) + 1 := by rw [IntKind.wrap_i64]; omega
  have hnt := segB_tmp (a := k) (by omega)
  have hnn := segB_ne (a := k) (b := k + 1) (by omega) (by omega) (by omega)
  have hnb := nameB_seg (k := k + 1) (by omega)
  have hmx := seg_max (k := k) (by omega)
  have H : Hid (LgS w base L D k (oneN (segB k) c bs sure ps) t ro) := h
  have HV : Hid (RowO w ro L v l) := hv
  obtain ⟨va, vn, rfl⟩ := hv.row.form
  obtain ⟨S0, hS0⟩ : ∃ s, s = segB k := ⟨_, rfl⟩
  obtain ⟨S1, hS1⟩ : ∃ s, s = segB (k + 1) := ⟨_, rfl⟩
  have qlt := fun w h => @layTemp_any w base L D k t ro c sure bs ps (by omega) h F zF ht
  rw [← hS0] at qn0 hnt hnn hmx H qlt
  rw [← hS1] at qn1 hnn hnb ⊢
  clear h hv hm hs hF hS0 hS1 qn1' hT
  go_enter Tryz.func49, Tryz.ntmps49
  go_wp2_with (first
    | (go_at_call 86; refine (qlt _ h1.out).mono ?_; rintro e w2 ⟨rfl, c2, t', ro', ht', h2', x2'⟩; have h2 : Hid _ := h2'; have x2 : Hid _ := x1.out.trans x2'; have d0 := h2'.c0; have d1 := h2'.c1; clear h2' x2')
    | (go_at_call 75; refine qf.mono ?_; rintro e w1 ⟨rfl, b1⟩; have h1 : Hid _ := H.out.fresh b1; have x1 : Hid (Ext w w1 ro ro) := Ext.of_below b1; have z0 := h1.out.c0; have z1 := h1.out.c1))
  go_region_held3 (fun w' => w'.cell? ⟨L, 0, none⟩ = some (.pointer (some ⟨D, 0, none⟩)) ∧ w'.cell? ⟨L, 1, none⟩ = some (.int .i64 (k : Int))) (go_keep)
    (first
      | (go_at_call 85; refine (t_rename (dkd h2.out.dk) hnt hnn hnb).mono ?_; rintro e w3 ⟨rfl, k3, x3'⟩; have h3 : Hid _ := h2.out.ext k3 (unx x3'); have x3 : Hid _ := x2.out.trans (unx x3'); have e0 := h3.out.c0; have e1 := h3.out.c1; clear k3 x3')
      | (go_at_call 74; refine (qn1 _).mono ?_; rintro e w' ⟨rfl, rfl⟩))
  go_wp2
  go_region_held3 (fun w' => w'.cell? ⟨L, 0, none⟩ = some (.pointer (some ⟨D, 0, none⟩)) ∧ w'.cell? ⟨L, 1, none⟩ = some (.int .i64 (k : Int))) (go_keep)
    (first
      | (go_at_call 87; refine (t_remove (dkd h3.out.dk) hnn hmx).mono ?_; rintro e w4 ⟨rfl, k4, x4'⟩; have h4 : Hid _ := h3.out.ext k4 (unx x4'); have x4 : Hid _ := x3.out.trans (unx x4'); have g0 := h4.out.c0; have g1 := h4.out.c1; have g2 := h4.out.f1; clear k4 x4')
      | (go_at_call 74; refine (qn0 _).mono ?_; rintro e w' ⟨rfl, rfl⟩))
  go_wp2
  go_ret
  have hx := x4.out
  have hS := h4.out.set (k + 1)
  rw [show ((k + 1 : Nat) : Int) = (k : Int) + 1 by omega] at hS
  have hB := h4.out.set_below (k + 1)
  rw [show ((k + 1 : Nat) : Int) = (k : Int) + 1 by omega] at hB
  rw [HF.out] at hS
  exact ⟨rfl, c2, t', ro', ht', hS, (HV.out.ext hx).set _, (H.out.below hx).trans hB, ExtL.set hx _⟩
end
end Go.Proofs.YtodnnhidljfilaaGreatDoor
/-
  A log's Write and Append (package wal), and its calls on none. The conditions: the segment's number is below 98; the records are not more than 351843720000; package frame's table lies in memory; fewer than 2^62 appends.
-/
namespace Go.Proofs.YtodnnhidljfilaaGreatDoor
open Go.RowKit

theorem has_bytes {F : ByteArray} (h : 0 < F.size) : F.toList.isEmpty = false := by
  rw [Lib.toList_data]
  cases hl : F.data.toList with
  | nil =>
    have := Lib.size_eq F
    rw [hl] at this
    have h2 : F.size = 0 := this
    omega
  | cons a b => rfl
section
variable {w : World} {base L D k : Nat} {A : List CF} {t : Nat} {ro : Nat → Option Nat}
set_option maxHeartbeats 3200000 in
set_option maxRecDepth 100000 in
theorem write_bad (L : Nat) (v : Value) (l : List Rc) (hv : RowAt rcC w v l) (hl : l.length ≤ 351843720000) (hT : Tab w) (hm : l.all mayR = false) :
    Calls Tryz.prog 44 #[.pointer (some ⟨L, 0, none⟩), v] w fun e w' => e = .returned (.int .i64 1) ∧ Below w.heap.size w w' := by
  have qf := wframes_any w v l hv hl hT
  rw [framesT_bad hm] at qf
  obtain ⟨va, vn, rfl⟩ := hv.form
  clear hm hv
  go_enter Tryz.func44, Tryz.ntmps44
  go_wp2_with (go_at_call 75; refine qf.mono ?_; rintro e w1 ⟨rfl, b1⟩)
  go_ret
  exact ⟨rfl, b1⟩
set_option maxHeartbeats 3200000 in
set_option maxRecDepth 100000 in
theorem write_none (L : Nat) (v : Value) (hv : RowAt rcC w v []) (hT : Tab w) :
    Calls Tryz.prog 44 #[.pointer (some ⟨L, 0, none⟩), v] w fun e w' => e = .returned (.int .i64 0) ∧ Below w.heap.size w w' := by
  have qf := wframes_any w v [] hv (Nat.zero_le _) hT
  rw [show framesT [] = (⟨#[]⟩, 0) from rfl] at qf
  obtain ⟨va, vn, rfl⟩ := hv.form
  clear hv
  go_enter Tryz.func44, Tryz.ntmps44
  go_wp2_with (go_at_call 75; refine qf.mono ?_; rintro e w1 ⟨rfl, b1⟩)
  go_ret
  exact ⟨rfl, b1⟩
/-- The frames of records, as the string that they are. -/
theorem frames_pos {l : List Rc} (h : l ≠ []) : 0 < (framesOf l).length := by
  cases l with
  | nil => exact absurd rfl h
  | cons r l =>
    show 0 < (frameOf (encR r) ++ framesOf l).length
    rw [List.length_append, frameOf_len]
    omega
set_option maxHeartbeats 3200000 in
set_option maxRecDepth 100000 in
theorem wappend_bad (L : Nat) (v : Value) (l : List Rc) (hv : RowAt rcC w v l) (hl : l.length ≤ 351843720000) (hT : Tab w) (hm : l.all mayR = false) :
    Calls Tryz.prog 43 #[.pointer (some ⟨L, 0, none⟩), v] w fun e w' => e = .returned (.int .i64 1) ∧ Below w.heap.size w w' := by
  have q := write_bad L v l hv hl hT hm
  obtain ⟨va, vn, rfl⟩ := hv.form
  go_enter Tryz.func43, Tryz.ntmps43
  go_wp2_with (go_at_call 44; refine q.mono ?_; rintro e w1 ⟨rfl, b1⟩)
  go_ret
  exact ⟨rfl, b1⟩
set_option maxHeartbeats 3200000 in
set_option maxRecDepth 100000 in
theorem wappend_none (h : LgS w base L D 0 A t ro) (v : Value) (hv : RowAt rcC w v []) (hT : Tab w) :
    Calls Tryz.prog 43 #[.pointer (some ⟨L, 0, none⟩), v] w fun e w' => e = .returned (.int .i64 0) ∧ Below w.heap.size w w' := by
  have q := write_none L v hv hT
  obtain ⟨va, vn, rfl⟩ := hv.form
  have H : Hid (LgS w base L D 0 A t ro) := h
  clear h
  go_enter Tryz.func43, Tryz.ntmps43
  go_wp2_with (go_at_call 44; refine q.mono ?_; rintro e w1 ⟨rfl, b1⟩; have c1 := (H.out.fresh b1).c1)
  go_ret
  exact ⟨rfl, b1⟩
end
/-! ### A log that is none, a disk that is none -/
end Go.Proofs.YtodnnhidljfilaaGreatDoor
/-
  A log's opening (package wal) on a disk with at most one segment. The conditions: the segment's number is from 1 to 97; package frame's table lies in memory; fewer than 2^62 appends.
-/
namespace Go.Proofs.YtodnnhidljfilaaGreatDoor
open Go.RowKit

set_option maxHeartbeats 3200000 in
set_option maxRecDepth 100000 in
theorem greatest_zero (p : Option Addr) (cap : Nat) (w : World) :
    Calls Tryz.prog 61 #[.slice p 0 cap] w fun e w' => e = .returned (.int .i64 0) ∧ w = w' := by
  go_enter Tryz.func61, Tryz.ntmps61
  go_wp2
  refine wp_loop_rounds 1 ?_
  rw [rounds_succ]
  go_wp2
  go_ret
  exact ⟨rfl, rfl⟩
set_option maxHeartbeats 3200000 in
set_option maxRecDepth 100000 in
theorem greatest_one (g cap k : Nat) (h1 : 1 ≤ k) (hk : k < 100) (w : World) (c : w.cell? ⟨g, 0, none⟩ = some (.string (segB k))) :
    Calls Tryz.prog 61 #[.slice (some ⟨g, 0, none⟩) 1 cap] w fun e w' => e = .returned (.int .i64 (k : Int)) ∧ Below w.heap.size w w' := by
  have q := segNumber_any k h1 hk
  have hx : max (0 : Int) (k : Int) = (k : Int) := by omega
  go_enter Tryz.func61, Tryz.ntmps61
  go_wp2
  refine wp_loop_rounds 2 ?_
  rw [rounds_succ]
  go_wp2_with (go_at_call 106; refine (q _).mono ?_; rintro e w1 ⟨rfl, b1⟩)
  rw [rounds_succ]
  go_wp2
  go_ret
  exact ⟨by first | rfl | (rw [hx]), b1⟩
section
variable {w : World} {base L D k : Nat} {t : Nat} {ro : Nat → Option Nat}
set_option maxHeartbeats 3200000 in
set_option maxRecDepth 100000 in
theorem mend_zero {A : List CF} (h : LgS w base L D 0 A t ro) : Calls Tryz.prog 62 #[.pointer (some ⟨L, 0, none⟩)] w fun e w' => e = .returned (.tuple #[.slice none 0 0, .int .i64 0]) ∧ w = w' := by
  have c1 := h.c1
  clear h
  go_enter Tryz.func62, Tryz.ntmps62
  go_wp2
  go_ret2
  exact ⟨rfl, rfl⟩
/-- The row that was read is not the disk's. -/
theorem row_new {w1 : World} {A : List CF} {v : Value} {l : List Rc} (h : LgS w base L D k A t ro) (ho : w1.ownsRow w.heap.size 69 9 v l.length (rowL rcC l)) : RowO w1 ro L v l :=
  ⟨RowAt.own rcC_len ho, fun bk off n cap h0 e => by
    subst e
    have := ho.lt bk rfl
    have hL := h.lt
    refine ⟨this.2, ?_, by omega⟩
    cases hr : ro bk with
    | none => rfl
    | some x =>
      have := h.dk.bd bk (by rw [hr]; simp)
      omega⟩
theorem textOf_list (bs : List UInt8) : (textOf bs).data.toList = bs := by simp [textOf]
set_option maxHeartbeats 6400000 in
set_option maxRecDepth 100000 in
theorem mend_same {c sure : Nat} {bs : List UInt8} {ps : List (Nat × Nat)} (h1k : 1 ≤ k) (hk : k < 98) (h : LgS w base L D k (oneN (segB k) c bs sure ps) t ro) (hb : bs.length ≤ 4194304) (hT : Tab w) (hr : (recs bs).2 = bs.length) :
    Calls Tryz.prog 62 #[.pointer (some ⟨L, 0, none⟩)] w fun e w' => ∃ v, e = .returned (.tuple #[v, .int .i64 0]) ∧ RowO w' ro L v (recs bs).1 ∧ Below w.heap.size w w' := by
  have c0 := h.c0
  have c1 := h.c1
  have qn := segName_any k (by omega)
  have qd := o_read (dkd h.dk) (seg_max (k := k) (by omega))
  have zt : (textOf bs).size = bs.length := by rw [Lib.size_eq, textOf_list]
  have qr := wread_any (textOf bs) (by rw [zt]; omega) w.drew (hT.below ⟨rfl, rfl, rfl, Nat.le_refl _, fun _ _ => rfl⟩)
  rw [textOf_list, hr] at qr
  have H : Hid (LgS w base L D k (oneN (segB k) c bs sure ps) t ro) := h
  obtain ⟨X, hX⟩ : ∃ X, X = textOf bs := ⟨_, rfl⟩
  rw [← hX] at qd zt qr
  have kz : ((k : Int) == 0) = false := by simpa using (by omega : ¬ (k : Int) = 0)
  clear h hX hT hr
  go_enter Tryz.func62, Tryz.ntmps62
  go_wp2
  go_region_held3 (fun w' => w'.cell? ⟨L, 0, none⟩ = some (.pointer (some ⟨D, 0, none⟩)) ∧ w'.cell? ⟨L, 1, none⟩ = some (.int .i64 (k : Int))) (go_keep)
    (first
      | (go_at_call 102; refine qd.mono ?_; rintro e w3 ⟨rfl, rfl⟩)
      | (go_at_call 74; refine (qn _).mono ?_; rintro e w' ⟨rfl, rfl⟩))
  go_wp2_with (go_at_call 107; refine qr.mono ?_; rintro e w4 ⟨v, rfl, o4, b4⟩; have O4 : Hid _ := o4; obtain ⟨pv, nv, cv, rfl⟩ := own_form o4; clear o4)
  go_ret2
  exact ⟨_, rfl, row_new H.out O4.out, undrew b4⟩
set_option maxHeartbeats 6400000 in
set_option maxRecDepth 100000 in
theorem mend_reset {c sure : Nat} {bs : List UInt8} {ps : List (Nat × Nat)} (h1k : 1 ≤ k) (hk : k < 98) (h : LgS w base L D k (oneN (segB k) c bs sure ps) t ro) (hb : bs.length ≤ 4194304) (ht : t < 4611686018427387904) (hT : Tab w) (hr : (recs bs).2 ≠ bs.length) :
    Calls Tryz.prog 62 #[.pointer (some ⟨L, 0, none⟩)] w fun e w' => ∃ v c' t' ro', e = .returned (.tuple #[v, .int .i64 0]) ∧ t' ≤ t + 1 ∧ LgS w' base L D (k + 1) (oneN (segB (k + 1)) c' (framesOf (recs bs).1) (framesOf (recs bs).1).length []) t' ro' ∧ RowO w' ro' L v (recs bs).1 ∧ Below base w w' ∧ ExtL w w' ro ro' L := by
  have c0 := h.c0
  have c1 := h.c1
  have qn := segName_any k (by omega)
  have qd := o_read (dkd h.dk) (seg_max (k := k) (by omega))
  have zt : (textOf bs).size = bs.length := by rw [Lib.size_eq, textOf_list]
  have hTd : Tab w.drew := hT.below ⟨rfl, rfl, rfl, Nat.le_refl _, fun _ _ => rfl⟩
  have qr := wread_any (textOf bs) (by rw [zt]; omega) w.drew hTd
  rw [textOf_list] at qr
  obtain ⟨hmay, hfr, hlen⟩ := recs_only bs
  have hall : (recs bs).1.all mayR = true := List.all_eq_true.mpr hmay
  have hfl : (framesOf (recs bs).1).length ≤ bs.length := by
    have := congrArg List.length hfr
    rw [List.length_append] at this
    omega
  have hcnt : ∀ l : List Rc, l.length ≤ (framesOf l).length := fun l => by
    induction l with
    | nil => exact Nat.zero_le _
    | cons r l ih =>
      show l.length + 1 ≤ (frameOf (encR r) ++ framesOf l).length
      rw [List.length_append, frameOf_len]
      omega
  have hcn := hcnt (recs bs).1
  obtain ⟨rl, hrl⟩ : ∃ x, x = recs bs := ⟨_, rfl⟩
  rw [← hrl] at qr hr hall hfl hcn hlen ⊢
  have H : Hid (LgS w base L D k (oneN (segB k) c bs sure ps) t ro) := h
  have HT : Hid (Tab w.drew) := hTd
  have HA : Hid (rl.1.all mayR = true) := hall
  have zl : rl.1.length ≤ 351843720000 := by omega
  have zf : (framesOf rl.1).length ≤ 4194304 := by omega
  obtain ⟨X, hX⟩ : ∃ X, X = textOf bs := ⟨_, rfl⟩
  rw [← hX] at qd zt qr
  have kz : ((k : Int) == 0) = false := by simpa using (by omega : ¬ (k : Int) = 0)
  have kr : ((rl.2 : Int) == (X.size : Int)) = false := by simpa using (by omega : ¬ (rl.2 : Int) = (X.size : Int))
  clear h hX hT hTd hr hmay hfr hlen hall hfl hcnt hcn hrl
  go_enter Tryz.func62, Tryz.ntmps62
  go_wp2
  go_region_held3 (fun w' => w'.cell? ⟨L, 0, none⟩ = some (.pointer (some ⟨D, 0, none⟩)) ∧ w'.cell? ⟨L, 1, none⟩ = some (.int .i64 (k : Int))) (go_keep)
    (first
      | (go_at_call 102; refine qd.mono ?_; rintro e w3 ⟨rfl, rfl⟩)
      | (go_at_call 74; refine (qn _).mono ?_; rintro e w' ⟨rfl, rfl⟩))
  go_wp2_with (first
    | (go_at_call 49; refine (reset_any h1k hk h4.out _ rl.1 O4.out zl HA.out zf ht T4.out).mono ?_; rintro e w5 ⟨rfl, c', t', ro', ht', h5', r5', b5, x5'⟩; have h5 : Hid _ := h5'; have r5 : Hid _ := r5'; have x5 : Hid _ := x5'; clear h5' r5' x5')
    | (go_at_call 107; refine qr.mono ?_; rintro e w4 ⟨v, rfl, o4, b4⟩; have O4 : Hid (RowO w4 ro L v rl.1) := row_new H.out o4; have h4 : Hid _ := H.out.fresh (undrew b4); have T4 : Hid (Tab w4) := HT.out.below b4; obtain ⟨pv, nv, cv, rfl⟩ := own_form o4; clear o4))
  go_ret2
  have x6 := x5.out
  have b6 := undrew b4
  exact ⟨_, c', t', ro', rfl, ht', h5.out, r5.out, (b6.mono H.out.base).trans b5, ⟨x6.os.trans b6.os, x6.tape.trans b6.tape, x6.output.trans b6.output, Nat.le_trans b6.size x6.size, fun i hi => x6.old i (Nat.lt_of_lt_of_le hi b6.size), fun i hi hr hl => (x6.kept i (Nat.lt_of_lt_of_le hi b6.size) hr hl).trans (b6.block i hi)⟩⟩
set_option maxHeartbeats 3200000 in
set_option maxRecDepth 100000 in
theorem removeOthers_zero (h : LgS w base L D 0 [] t ro) : Calls Tryz.prog 63 #[.pointer (some ⟨L, 0, none⟩)] w fun e w' => e = .returned (.tuple #[]) ∧ Below w.heap.size w w' := by
  have c0 := h.c0
  have qf := o_files0 h.dk
  clear h
  go_enter Tryz.func63, Tryz.ntmps63
  go_wp2_with (go_at_call 28; refine qf.mono ?_; rintro e w1 ⟨p, cap, rfl, b1⟩)
  refine wp_loop_rounds 1 ?_
  rw [rounds_succ]
  go_wp2
  go_end0
  exact ⟨rfl, b1⟩
set_option maxHeartbeats 3200000 in
set_option maxRecDepth 100000 in
theorem removeOthers_one {c sure : Nat} {bs : List UInt8} {ps : List (Nat × Nat)} (h1k : 1 ≤ k) (hk : k < 100) (h : LgS w base L D k (oneN (segB k) c bs sure ps) t ro) : Calls Tryz.prog 63 #[.pointer (some ⟨L, 0, none⟩)] w fun e w' => e = .returned (.tuple #[]) ∧ Below w.heap.size w w' := by
  have c0 := h.c0
  have c1 := h.c1
  have hL := h.lt
  have qf := o_files h.dk
  have qs := segNumber_any k h1k hk
  have hne := segB_tmp hk
  have hne' : ((segB k).toList == [108, 111, 103, 46, 116, 109, 112]) = false := by
    rw [beq_eq_false_iff_ne]
    intro e
    apply hne
    apply ByteArray.ext
    apply Array.ext'
    rw [← Lib.toList_data, e]
    rfl
  obtain ⟨S0, hS0⟩ : ∃ s, s = segB k := ⟨_, rfl⟩
  rw [← hS0] at qf qs hne'
  have kp : ((0 : Int) < (k : Int)) = True := eq_true (by omega)
  clear h hne hS0
  go_enter Tryz.func63, Tryz.ntmps63
  go_wp2_with (go_at_call 28; refine qf.mono ?_; rintro e w1 ⟨g, cap, rfl, hg, cg, b1⟩; have d1 := (b1.cell (p := ⟨L, 1, none⟩) (by exact hL)).trans c1; have hL1 := Nat.lt_of_lt_of_le hL b1.size)
  refine wp_loop_rounds 2 ?_
  rw [rounds_succ]
  go_wp2_with (go_at_call 106; refine (qs _).mono ?_; rintro e w2 ⟨rfl, b2⟩; have d2 := (b2.cell (p := ⟨L, 1, none⟩) (by exact hL1)).trans d1)
  rw [rounds_succ]
  go_wp2
  go_end0
  exact ⟨rfl, bmm b1 b1.size b2⟩
end
end Go.Proofs.YtodnnhidljfilaaGreatDoor
/-
  A log's opening (package wal) on a disk with at most one segment, whole. The conditions: the segment's number is from 1 to 97; package frame's table lies in memory; fewer than 2^62 appends.
-/
namespace Go.Proofs.YtodnnhidljfilaaGreatDoor
open Go.RowKit

/-- What an opening makes of a segment. -/
def Mended (k : Nat) (bs : List UInt8) (sure : Nat) (ps : List (Nat × Nat)) (k' : Nat) (bs' : List UInt8) (sure' : Nat) (ps' : List (Nat × Nat)) : Prop :=
  ((recs bs).2 = bs.length ∧ k' = k ∧ bs' = bs ∧ sure' = sure ∧ ps' = ps) ∨ ((recs bs).2 ≠ bs.length ∧ k' = k + 1 ∧ bs' = framesOf (recs bs).1 ∧ sure' = bs'.length ∧ ps' = [])
theorem Mended.reads {k : Nat} {bs : List UInt8} {sure : Nat} {ps : List (Nat × Nat)} {k' : Nat} {bs' : List UInt8} {sure' : Nat} {ps' : List (Nat × Nat)} (h : Mended k bs sure ps k' bs' sure' ps') : recs bs' = ((recs bs).1, bs'.length) := by
  rcases h with ⟨h1, _, h2, _⟩ | ⟨_, _, h2, _⟩
  · rw [h2, ← h1]
  · rw [h2]
    exact recs_back _ (recs_only bs).1
/-- A new log is not the disk's. -/
theorem lg_new {w w1 : World} {base D : Nat} {A : List CF} {t : Nat} {ro : Nat → Option Nat} (h : DkS w base D A t ro) (b : Below w.heap.size w w1) (k : Nat) : LgS (w1.alloc (.cells #[.pointer (some ⟨D, 0, none⟩), .int .i64 (k : Int)] 123)) base w1.heap.size D k A t ro := by
  have hs := b.size
  have hb := h.base
  refine ⟨h.fresh (b.alloc hs _), heap_alloc_new w1 _, ?_, by omega⟩
  cases hr : ro w1.heap.size with
  | none => rfl
  | some x =>
    have := (h.bd w1.heap.size (by rw [hr]; simp)).2
    omega
section
variable {w : World} {base D k : Nat} {t : Nat} {ro : Nat → Option Nat}
set_option maxHeartbeats 3200000 in
set_option maxRecDepth 100000 in
theorem open_zero (h : DkS w base D [] t ro) : Calls Tryz.prog 40 #[.pointer (some ⟨D, 0, none⟩)] w fun e w' => ∃ L, e = .returned (.tuple #[.pointer (some ⟨L, 0, none⟩), .slice none 0 0, .int .i64 0]) ∧ LgS w' base L D 0 [] t ro ∧ Below w.heap.size w w' := by
  have qf := o_files0 h
  have H : Hid (DkS w base D [] t ro) := h
  clear h
  go_enter Tryz.func40, Tryz.ntmps40
  go_wp2_with (first
    | (go_at_call 63; refine (removeOthers_zero h2.out).mono ?_; rintro e w3 ⟨rfl, b3⟩)
    | (go_at_call 62; have h2 : Hid (LgS (w1.alloc (.cells #[.pointer (some ⟨D, 0, none⟩), .int .i64 ((0 : Nat) : Int)] 123)) base w1.heap.size D 0 [] t ro) := lg_new H.out b1 0; refine (mend_zero h2.out).mono ?_; rintro e w2 ⟨rfl, rfl⟩)
    | (go_at_call 61; refine (greatest_zero p cap _).mono ?_; rintro e w' ⟨rfl, rfl⟩)
    | (go_at_call 28; refine qf.mono ?_; rintro e w1 ⟨p, cap, rfl, b1⟩))
  go_ret3
  have b2 := b1.alloc b1.size (.cells #[.pointer (some ⟨D, 0, none⟩), .int .i64 ((0 : Nat) : Int)] 123)
  exact ⟨_, rfl, h2.out.fresh b3, bmm b2 b2.size b3⟩
set_option maxHeartbeats 6400000 in
set_option maxRecDepth 100000 in
theorem open_same {c sure : Nat} {bs : List UInt8} {ps : List (Nat × Nat)} (h1k : 1 ≤ k) (hk : k < 98) (h : DkS w base D (oneN (segB k) c bs sure ps) t ro) (hT : Tab w) (hr : (recs bs).2 = bs.length) : Calls Tryz.prog 40 #[.pointer (some ⟨D, 0, none⟩)] w fun e w' => ∃ L v, e = .returned (.tuple #[.pointer (some ⟨L, 0, none⟩), v, .int .i64 0]) ∧ LgS w' base L D k (oneN (segB k) c bs sure ps) t ro ∧ RowO w' ro L v (recs bs).1 ∧ Below w.heap.size w w' := by
  have qf := o_files h
  have H : Hid (DkS w base D (oneN (segB k) c bs sure ps) t ro) := h
  have hbs : bs.length ≤ 4194304 := (h.ok.1 (fileN (segB k) c bs sure ps) (List.mem_singleton.mpr rfl)).mx
  have HT : Hid (Tab w) := hT
  have HR : Hid ((recs bs).2 = bs.length) := hr
  have kk : k < 100 := by omega
  clear h hT hr
  go_enter Tryz.func40, Tryz.ntmps40
  go_wp2_with (first
    | (go_at_call 63; refine (removeOthers_one h1k kk h4.out).mono ?_; rintro e w5 ⟨rfl, b5⟩)
    | (go_at_call 62; have h3 : Hid (LgS (w2.alloc (.cells #[.pointer (some ⟨D, 0, none⟩), .int .i64 (k : Int)] 123)) base w2.heap.size D k (oneN (segB k) c bs sure ps) t ro) := lg_new H.out b2 k; have b3 := b2.alloc b2.size (.cells #[.pointer (some ⟨D, 0, none⟩), .int .i64 (k : Int)] 123); refine (mend_same h1k hk h3.out hbs (HT.out.below b3) HR.out).mono ?_; rintro e w4 ⟨v, rfl, r4', b4⟩; have r4 : Hid _ := r4'; have h4 : Hid _ := h3.out.fresh b4; obtain ⟨pv, cv, rfl⟩ := r4'.row.form; clear r4')
    | (go_at_call 61; refine (greatest_one g cap k h1k kk _ cg).mono ?_; rintro e w2 ⟨rfl, b2'⟩; have b2 := bmm b1 b1.size b2')
    | (go_at_call 28; refine qf.mono ?_; rintro e w1 ⟨g, cap, rfl, hg, cg, b1⟩))
  go_ret3
  have b6 := bmm b3 b3.size b4
  exact ⟨_, _, rfl, h4.out.fresh b5, r4.out.fresh b5, bmm b6 b6.size b5⟩
set_option maxHeartbeats 6400000 in
set_option maxRecDepth 100000 in
theorem open_reset {c sure : Nat} {bs : List UInt8} {ps : List (Nat × Nat)} (h1k : 1 ≤ k) (hk : k < 98) (h : DkS w base D (oneN (segB k) c bs sure ps) t ro) (ht : t < 4611686018427387904) (hT : Tab w) (hr : (recs bs).2 ≠ bs.length) : Calls Tryz.prog 40 #[.pointer (some ⟨D, 0, none⟩)] w fun e w' => ∃ L v c' t' ro', e = .returned (.tuple #[.pointer (some ⟨L, 0, none⟩), v, .int .i64 0]) ∧ t' ≤ t + 1 ∧ LgS w' base L D (k + 1) (oneN (segB (k + 1)) c' (framesOf (recs bs).1) (framesOf (recs bs).1).length []) t' ro' ∧ RowO w' ro' L v (recs bs).1 ∧ Ext w w' ro ro' := by
  have qf := o_files h
  have H : Hid (DkS w base D (oneN (segB k) c bs sure ps) t ro) := h
  have hbs : bs.length ≤ 4194304 := (h.ok.1 (fileN (segB k) c bs sure ps) (List.mem_singleton.mpr rfl)).mx
  have HT : Hid (Tab w) := hT
  have HR : Hid ((recs bs).2 ≠ bs.length) := hr
  have kk : k < 100 := by omega
  have kk1 : k + 1 < 100 := by omega
  clear h hT hr
  go_enter Tryz.func40, Tryz.ntmps40
  go_wp2_with (first
    | (go_at_call 63; refine (removeOthers_one (by omega) kk1 h4.out).mono ?_; rintro e w5 ⟨rfl, b5⟩)
    | (go_at_call 62; have h3 : Hid (LgS (w2.alloc (.cells #[.pointer (some ⟨D, 0, none⟩), .int .i64 (k : Int)] 123)) base w2.heap.size D k (oneN (segB k) c bs sure ps) t ro) := lg_new H.out b2 k; have b3 := b2.alloc b2.size (.cells #[.pointer (some ⟨D, 0, none⟩), .int .i64 (k : Int)] 123); refine (mend_reset h1k hk h3.out hbs ht (HT.out.below b3) HR.out).mono ?_; rintro e w4 ⟨v, c', t', ro', rfl, ht', h4', r4', b4, x4'⟩; have r4 : Hid _ := r4'; have h4 : Hid _ := h4'; have x4 : Hid _ := x4'; obtain ⟨pv, cv, rfl⟩ := r4'.row.form; clear r4' h4' x4')
    | (go_at_call 61; refine (greatest_one g cap k h1k kk _ cg).mono ?_; rintro e w2 ⟨rfl, b2'⟩; have b2 := bmm b1 b1.size b2')
    | (go_at_call 28; refine qf.mono ?_; rintro e w1 ⟨g, cap, rfl, hg, cg, b1⟩))
  go_ret3
  have hx : Ext w w4 ro ro' := ExtL.new x4.out b3 (by have := b2.size; omega)
  exact ⟨_, _, c', t', ro', rfl, ht', h4.out.fresh b5, r4.out.fresh b5, hx.trans (Ext.of_below b5)⟩
/-- An opening where there is a segment. -/
theorem open_one {c sure : Nat} {bs : List UInt8} {ps : List (Nat × Nat)} (h1k : 1 ≤ k) (hk : k < 98) (h : DkS w base D (oneN (segB k) c bs sure ps) t ro) (ht : t < 4611686018427387904) (hT : Tab w) : Calls Tryz.prog 40 #[.pointer (some ⟨D, 0, none⟩)] w fun e w' => ∃ L v k' c' bs' sure' ps' t' ro', e = .returned (.tuple #[.pointer (some ⟨L, 0, none⟩), v, .int .i64 0]) ∧ t' ≤ t + 1 ∧ LgS w' base L D k' (oneN (segB k') c' bs' sure' ps') t' ro' ∧ RowO w' ro' L v (recs bs).1 ∧ Ext w w' ro ro' ∧ Mended k bs sure ps k' bs' sure' ps' := by
  by_cases hr : (recs bs).2 = bs.length
  · exact (open_same h1k hk h hT hr).mono fun e w' ⟨L, v, h1, h2, h3, h4⟩ => ⟨L, v, k, c, bs, sure, ps, t, ro, h1, by omega, h2, h3, Ext.of_below h4, Or.inl ⟨hr, rfl, rfl, rfl, rfl⟩⟩
  · exact (open_reset h1k hk h ht hT hr).mono fun e w' ⟨L, v, c', t', ro', h1, h0, h2, h3, h4⟩ => ⟨L, v, k + 1, c', _, _, [], t', ro', h1, h0, h2, h3, h4, Or.inr ⟨hr, rfl, rfl, rfl, rfl⟩⟩
end
end Go.Proofs.YtodnnhidljfilaaGreatDoor
