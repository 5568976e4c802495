/-
  A log in memory (package wal) on a disk with at most one segment: its small functions. The condition: the segment's number is below 98.
-/
import Derived.Test.YtdhlbldmdeepiaaGreatDoorWWvDisk
import Derived.Test.YtdhlbldmdeepiaaGreatDoorWWvFrames
import Derived.Test.YtdhlbldmdeepiaaGreatDoorWWvRead
namespace Go.Proofs.YtdhlbldmdeepiaaGreatDoor
open Go.RowKit

theorem Tab.low {w w' : World} {B : Nat} (h : Tab w) (b : Below B w w') (h0 : 0 < B) : Tab w' := ⟨Nat.lt_of_lt_of_le h.1 b.size, fun i hi => (b.cell (by exact h0)).trans (h.2 i hi)⟩
/-- The log in block L, on the disk in block D, of number k; the disk's files. -/
structure LgS (w : World) (base L D k : Nat) (A : List CF) (t : Nat) (ro : Nat → Option Nat) : Prop where
  dk : DkS w base D A t ro
  lg : w.heap[L]? = some (.cells #[.pointer (some ⟨D, 0, none⟩), .int .i64 (k : Int)] 87 (0, 0))
  out : ro L = none
  lo : base ≤ L
theorem LgS.lt {w : World} {base L D k : Nat} {A : List CF} {t : Nat} {ro : Nat → Option Nat} (h : LgS w base L D k A t ro) : L < w.heap.size := lt_of_block h.lg
theorem LgS.ext {w w' : World} {base L D k : Nat} {A A' : List CF} {t t' : Nat} {ro ro' : Nat → Option Nat} (h : LgS w base L D k A t ro) (d : DkS w' base D A' t' ro') (x : Ext w w' ro ro') : LgS w' base L D k A' t' ro' :=
  ⟨d, (x.kept L h.lt h.out).trans h.lg, (x.old L h.lt).trans h.out, h.lo⟩
theorem LgS.fresh {w w' : World} {base L D k : Nat} {A : List CF} {t : Nat} {ro : Nat → Option Nat} (h : LgS w base L D k A t ro) (b : Below w.heap.size w w') : LgS w' base L D k A t ro :=
  ⟨h.dk.fresh b, (b.block L h.lt).trans h.lg, h.out, h.lo⟩
theorem LgS.c0 {w : World} {base L D k : Nat} {A : List CF} {t : Nat} {ro : Nat → Option Nat} (h : LgS w base L D k A t ro) : w.cell? ⟨L, 0, none⟩ = some (.pointer (some ⟨D, 0, none⟩)) := by simp [World.cell?, h.lg]
theorem LgS.c1 {w : World} {base L D k : Nat} {A : List CF} {t : Nat} {ro : Nat → Option Nat} (h : LgS w base L D k A t ro) : w.cell? ⟨L, 1, none⟩ = some (.int .i64 (k : Int)) := by simp [World.cell?, h.lg]
theorem LgS.f1 {w : World} {base L D k : Nat} {A : List CF} {t : Nat} {ro : Nat → Option Nat} (h : LgS w base L D k A t ro) : w.frozen? ⟨L, 1, none⟩ = false := by simp [World.frozen?, h.lg]
theorem LgS.set {w : World} {base L D k : Nat} {A : List CF} {t : Nat} {ro : Nat → Option Nat} (h : LgS w base L D k A t ro) (m : Nat) : LgS (w.setCell ⟨L, 1, none⟩ (.int .i64 (m : Int))) base L D m A t ro := by
  refine ⟨h.dk.keep (by simp) (fun b hb => heap_setCell_other _ _ _ _ (by rintro rfl; exact hb h.out)), ?_, h.out, h.lo⟩
  rw [heap_setCell_same w L 1 _ _ _ h.lg]
  rfl
theorem LgS.base {w : World} {base L D k : Nat} {A : List CF} {t : Nat} {ro : Nat → Option Nat} (h : LgS w base L D k A t ro) : base ≤ w.heap.size := h.dk.base
theorem LgS.below {w w' : World} {base L D k : Nat} {A : List CF} {t : Nat} {ro ro' : Nat → Option Nat} (h : LgS w base L D k A t ro) (x : Ext w w' ro ro') : Below base w w' := h.dk.below x
theorem LgS.set_below {w : World} {base L D k : Nat} {A : List CF} {t : Nat} {ro : Nat → Option Nat} (h : LgS w base L D k A t ro) (m : Nat) : Below base w (w.setCell ⟨L, 1, none⟩ (.int .i64 (m : Int))) := (Below.refl base w).setCell (p := ⟨L, 1, none⟩) h.lo _
/-- A row of records that is not the disk's. -/
structure RowO (w : World) (ro : Nat → Option Nat) (L : Nat) (v : Value) (l : List Rc) : Prop where
  row : RowAt rcC w v l
  own : ∀ bk off n cap, 0 < n → v = .slice (some ⟨bk, off, none⟩) n cap → bk < w.heap.size ∧ ro bk = none ∧ bk ≠ L
theorem RowO.ext {w w' : World} {ro ro' : Nat → Option Nat} {L : Nat} {v : Value} {l : List Rc} (h : RowO w ro L v l) (x : Ext w w' ro ro') : RowO w' ro' L v l :=
  ⟨h.row.keep x.size (fun bk off n cap h0 e => x.kept bk (h.own bk off n cap h0 e).1 (h.own bk off n cap h0 e).2.1), fun bk off n cap h0 e => ⟨Nat.lt_of_lt_of_le (h.own bk off n cap h0 e).1 x.size, (x.old bk (h.own bk off n cap h0 e).1).trans (h.own bk off n cap h0 e).2.1, (h.own bk off n cap h0 e).2.2⟩⟩
theorem RowO.fresh {w w' : World} {ro : Nat → Option Nat} {L : Nat} {v : Value} {l : List Rc} (h : RowO w ro L v l) (b : Below w.heap.size w w') : RowO w' ro L v l :=
  ⟨h.row.fresh b, fun bk off n cap h0 e => ⟨Nat.lt_of_lt_of_le (h.own bk off n cap h0 e).1 b.size, (h.own bk off n cap h0 e).2⟩⟩
theorem RowO.set {w : World} {ro : Nat → Option Nat} {L : Nat} {v : Value} {l : List Rc} (h : RowO w ro L v l) (x : Value) : RowO (w.setCell ⟨L, 1, none⟩ x) ro L v l :=
  ⟨h.row.keep (by simp) (fun bk off n cap h0 e => heap_setCell_other _ _ _ _ (by exact (h.own bk off n cap h0 e).2.2)), fun bk off n cap h0 e => by
    have := h.own bk off n cap h0 e
    exact ⟨by simpa using this.1, this.2⟩⟩
section
variable {w : World} {base L D k : Nat} {A : List CF} {t : Nat} {ro : Nat → Option Nat}
set_option maxRecDepth 100000 in
theorem segment_any (h : LgS w base L D k A t ro) : Calls Tryz.prog 26 #[.pointer (some ⟨L, 0, none⟩)] w fun e w' => e = .returned (.int .i64 (k : Int)) ∧ w = w' := by
  have c1 := h.c1
  go_enter Tryz.func26, Tryz.ntmps26
  go_wp2
  go_ret
  exact ⟨rfl, rfl⟩
set_option maxHeartbeats 3200000 in
set_option maxRecDepth 100000 in
theorem layTemp_any {c sure : Nat} {bs : List UInt8} {ps : List (Nat × Nat)} (hk : k < 100) (h : LgS w base L D k (oneN (segB k) c bs sure ps) t ro) (s : ByteArray) (hs : s.size ≤ 4194304) (ht : t < 4611686018427387904) :
    Calls Tryz.prog 52 #[.pointer (some ⟨L, 0, none⟩), .string s] w fun e w' => e = .returned (.int .i64 0) ∧ ∃ c2 t' ro', t' ≤ t + 1 ∧ LgS w' base L D k [fileN (segB k) c bs sure ps, fileN tmpB c2 s.data.toList s.data.toList.length []] t' ro' ∧ Ext w w' ro ro' := by
  have c0 := h.c0
  have hne := segB_tmp hk
  have H : Hid (LgS w base L D k (oneN (segB k) c bs sure ps) t ro) := h
  have q1 := t_none h.dk hne
  have q2 := t_begin h.dk hne s hs ht
  clear h
  go_enter Tryz.func52, Tryz.ntmps52
  go_wp2_with (first
    | (go_at_call 28; refine (t_sync h2.out.dk hne).mono ?_; rintro e w3 ⟨rfl, k3, x3⟩; have h3 : Hid _ := h2.out.ext k3 x3; have y3 := x2.out.trans x3)
    | (go_at_call 23; refine q2.mono ?_; rintro e w2 ⟨rfl, c2, t', ro', ht', k2, y2⟩; have h2 : Hid _ := H.out.ext k2 y2; have x2 : Hid _ := y2; have d0 := h2.out.c0; clear k2 y2)
    | (go_at_call 54; refine q1.mono ?_; rintro e w1 ⟨rfl, rfl⟩))
  go_ret
  exact ⟨rfl, c2, t', ro', ht', h3.out, y3⟩
end
end Go.Proofs.YtdhlbldmdeepiaaGreatDoor
