/-
  A log's Reset (package wal) on a disk with one segment. The conditions: the segment's number is from 1 to 97; all records may be, their frames have at most 2^22 bytes; package frame's table lies in memory.
-/
import Derived.Test.YtdhlbldmdeepiaaGreatDoorWWvLog
namespace Go.Proofs.YtdhlbldmdeepiaaGreatDoor
open Go.RowKit

theorem unx {w w' : World} {ro ro' : Nat → Option Nat} (x : Ext w.drew w' ro ro') : Ext w w' ro ro' := ⟨x.os, x.tape, x.output, x.size, x.old, x.kept⟩
theorem Ext.of_below {w w' : World} {ro : Nat → Option Nat} (b : Below w.heap.size w w') : Ext w w' ro ro := ⟨b.os, b.tape, b.output, b.size, fun _ _ => rfl, fun i hi _ => b.block i hi⟩
theorem dkd {w : World} {base D : Nat} {A : List CF} {t : Nat} {ro : Nat → Option Nat} (h : DkS w base D A t ro) : DkS w.drew base D A t ro := h.fresh ⟨rfl, rfl, rfl, Nat.le_refl _, fun _ _ => rfl⟩
theorem framesT_all {l : List Rc} (h : l.all mayR = true) : framesT l = (⟨(framesOf l).toArray⟩, 0) := by
  unfold framesT
  rw [if_pos h]
theorem framesT_bad {l : List Rc} (h : l.all mayR = false) : framesT l = (⟨#[]⟩, 1) := by
  unfold framesT
  rw [if_neg (by rw [h]; simp)]
/-- What a log's call leaves: what is neither the disk's nor the log's block has not turned. -/
structure ExtL (w w' : World) (ro ro' : Nat → Option Nat) (L : Nat) : Prop where
  os : w'.os = w.os
  tape : w'.tape = w.tape
  output : w'.output = w.output
  size : w.heap.size ≤ w'.heap.size
  old : ∀ b, b < w.heap.size → ro' b = ro b
  kept : ∀ b, b < w.heap.size → ro b = none → b ≠ L → w'.heap[b]? = w.heap[b]?
theorem ExtL.of {w w' : World} {ro ro' : Nat → Option Nat} {L : Nat} (x : Ext w w' ro ro') : ExtL w w' ro ro' L := ⟨x.os, x.tape, x.output, x.size, x.old, fun b h1 h2 _ => x.kept b h1 h2⟩
theorem ExtL.set {w w' : World} {ro ro' : Nat → Option Nat} {L : Nat} (x : Ext w w' ro ro') (v : Value) : ExtL w (w'.setCell ⟨L, 1, none⟩ v) ro ro' L :=
  ⟨x.os, x.tape, x.output, by simpa using x.size, x.old, fun b h1 h2 h3 => (heap_setCell_other _ _ _ _ h3).trans (x.kept b h1 h2)⟩
/-- A log that was made within. -/
theorem ExtL.new {w w1 w' : World} {ro ro' : Nat → Option Nat} {L : Nat} (x : ExtL w1 w' ro ro' L) (b : Below w.heap.size w w1) (hL : w.heap.size ≤ L) : Ext w w' ro ro' :=
  ⟨x.os.trans b.os, x.tape.trans b.tape, x.output.trans b.output, Nat.le_trans b.size x.size, fun i hi => x.old i (Nat.lt_of_lt_of_le hi b.size), fun i hi hr => (x.kept i (Nat.lt_of_lt_of_le hi b.size) hr (by omega)).trans (b.block i hi)⟩
section
variable {w : World} {base L D k : Nat} {t : Nat} {ro : Nat → Option Nat}
set_option maxHeartbeats 6400000 in
set_option maxRecDepth 100000 in
theorem reset_any {c sure : Nat} {bs : List UInt8} {ps : List (Nat × Nat)} (h1k : 1 ≤ k) (hk : k < 98) (h : LgS w base L D k (oneN (segB k) c bs sure ps) t ro) (v : Value) (l : List Rc) (hv : RowO w ro L v l) (hl : l.length ≤ 351843720000) (hm : l.all mayR = true) (hs : (framesOf l).length ≤ 4194304) (ht : t < 4611686018427387904) (hT : Tab w) :
    Calls Tryz.prog 19 #[.pointer (some ⟨L, 0, none⟩), v] w fun e w' => e = .returned (.int .i64 0) ∧ ∃ c' t' ro', t' ≤ t + 1 ∧ LgS w' base L D (k + 1) (oneN (segB (k + 1)) c' (framesOf l) (framesOf l).length []) t' ro' ∧ RowO w' ro' L v l ∧ Below base w w' ∧ ExtL w w' ro ro' L := by
  have qf := wframes_any w v l hv.row hl hT
  rw [framesT_all hm] at qf
  obtain ⟨F, hF⟩ : ∃ F : ByteArray, F = ⟨(framesOf l).toArray⟩ := ⟨_, rfl⟩
  rw [← hF] at qf
  have HF : Hid (F.data.toList = framesOf l) := by rw [hF]; rfl
  have zF : F.size ≤ 4194304 := by rw [Lib.size_eq, HF.out]; exact hs
  have zF2 : ((4194304 : Int) < (F.size : Int)) = False := eq_false (by omega)
  have kM : ((k : Int) == 9999999999999999) = false := by simpa using (by omega : ¬ (k : Int) = 9999999999999999)
  have kP : ((0 : Int) < (k : Int)) = True := eq_true (by omega)
  have qn0 := segName_any k (by omega)
  have qn1' := segName_any (k + 1) (by omega)
  have qn1 : ∀ w, Calls Tryz.prog 48 #[.int .i64 ((k : Int) + 1)] w fun e w' => e = .returned (.string (segB (k + 1))) ∧ w = w' := fun w => by
    have := qn1' w
    rw [show ((k + 1 : Nat) : Int) = (k : Int) + 1 by omega] at this
    exact this
  have kW : IntKind.i64.wrap ((k : Int) + 1) = (k : Int) + 1 := by rw [IntKind.wrap_i64]; omega
  have hnt := segB_tmp (a := k) (by omega)
  have hnn := segB_ne (a := k) (b := k + 1) (by omega) (by omega) (by omega)
  have hnb := nameB_seg (k := k + 1) (by omega)
  have hmx := seg_max (k := k) (by omega)
  have H : Hid (LgS w base L D k (oneN (segB k) c bs sure ps) t ro) := h
  have HV : Hid (RowO w ro L v l) := hv
  obtain ⟨va, vn, rfl⟩ := hv.row.form
  obtain ⟨S0, hS0⟩ : ∃ s, s = segB k := ⟨_, rfl⟩
  obtain ⟨S1, hS1⟩ : ∃ s, s = segB (k + 1) := ⟨_, rfl⟩
  have qlt := fun w h => @layTemp_any w base L D k t ro c sure bs ps (by omega) h F zF ht
  rw [← hS0] at qn0 hnt hnn hmx H qlt
  rw [← hS1] at qn1 hnn hnb ⊢
  clear h hv hm hs hF hS0 hS1 qn1' hT
  go_enter Tryz.func19, Tryz.ntmps19
  go_wp2_with (first
    | (go_at_call 52; refine (qlt _ h1.out).mono ?_; rintro e w2 ⟨rfl, c2, t', ro', ht', h2', x2'⟩; have h2 : Hid _ := h2'; have x2 : Hid _ := x1.out.trans x2'; have d0 := h2'.c0; have d1 := h2'.c1; clear h2' x2')
    | (go_at_call 51; refine qf.mono ?_; rintro e w1 ⟨rfl, b1⟩; have h1 : Hid _ := H.out.fresh b1; have x1 : Hid (Ext w w1 ro ro) := Ext.of_below b1; have z0 := h1.out.c0; have z1 := h1.out.c1))
  go_region_held3 (fun w' => w'.cell? ⟨L, 0, none⟩ = some (.pointer (some ⟨D, 0, none⟩)) ∧ w'.cell? ⟨L, 1, none⟩ = some (.int .i64 (k : Int))) (go_keep)
    (first
      | (go_at_call 53; refine (t_rename (dkd h2.out.dk) hnt hnn hnb).mono ?_; rintro e w3 ⟨rfl, k3, x3'⟩; have h3 : Hid _ := h2.out.ext k3 (unx x3'); have x3 : Hid _ := x2.out.trans (unx x3'); have e0 := h3.out.c0; have e1 := h3.out.c1; clear k3 x3')
      | (go_at_call 48; refine (qn1 _).mono ?_; rintro e w' ⟨rfl, rfl⟩))
  go_wp2
  go_region_held3 (fun w' => w'.cell? ⟨L, 0, none⟩ = some (.pointer (some ⟨D, 0, none⟩)) ∧ w'.cell? ⟨L, 1, none⟩ = some (.int .i64 (k : Int))) (go_keep)
    (first
      | (go_at_call 54; refine (t_remove (dkd h3.out.dk) hnn hmx).mono ?_; rintro e w4 ⟨rfl, k4, x4'⟩; have h4 : Hid _ := h3.out.ext k4 (unx x4'); have x4 : Hid _ := x3.out.trans (unx x4'); have g0 := h4.out.c0; have g1 := h4.out.c1; have g2 := h4.out.f1; clear k4 x4')
      | (go_at_call 48; refine (qn0 _).mono ?_; rintro e w' ⟨rfl, rfl⟩))
  go_wp2
  go_ret
  have hx := x4.out
  have hS := h4.out.set (k + 1)
  rw [show ((k + 1 : Nat) : Int) = (k : Int) + 1 by omega] at hS
  have hB := h4.out.set_below (k + 1)
  rw [show ((k + 1 : Nat) : Int) = (k : Int) + 1 by omega] at hB
  rw [HF.out] at hS
  exact ⟨rfl, c2, t', ro', ht', hS, (HV.out.ext hx).set _, (H.out.below hx).trans hB, ExtL.set hx _⟩
end
end Go.Proofs.YtdhlbldmdeepiaaGreatDoor
