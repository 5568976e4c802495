/-
  Bytes as a record (package latchkeyref11): bytes that are none. The condition: the text is no longer than a text may be.
-/
import Derived.Test.YtdhlbldmdeepiaaGreatDoorRWlDecP
namespace Go.Proofs.YtdhlbldmdeepiaaGreatDoor
open Go.RowKit

set_option maxHeartbeats 3200000 in
set_option maxRecDepth 100000 in
theorem rdec_none (s : ByteArray) (w : World) (h : s.size = 0) :
    Calls Tryz.prog 11 #[.string s] w fun e w' => e = .returned (.tuple #[.agg rz, .int .i64 2]) ∧ Below w.heap.size w w' := by
  have f9 : ((s.size : Int) == 9) = false := by simpa using (by omega : ¬ (s.size : Int) = 9)
  have qe := rencR_any 0 0 0 0 0 0 0 0 ⟨#[]⟩
  rw [show encRT ⟨0, 0, ⟨0, 0, ⟨0, 0, 0, ⟨#[]⟩, 0⟩⟩⟩ = (⟨#[]⟩, 1) from rfl] at qe
  go_enter Tryz.func11, Tryz.ntmps11
  go_wp2_with (first
    | (show wpList _ _ _ (⟨_, Op.store 27 _ _, _, _, _, _⟩ :: _) _ _; have y0 := hR; refine store_row_g rfl 27 _ _ rfl w.heap.size (rz) rfl rfl 27 rz hR infoR9 rfl (by simp [Value.oneCell']) ?_; intro w9 h9 g9)
    | (go_at_call 9; refine (qe _).mono ?_; rintro e w3 ⟨rfl, b3⟩; have hR := (b3.block w.heap.size (by simp; omega)).trans (two_new w (.cells rz 27) (.cells rz 27)).1))
  refine bodyPost_ret (results_rec Tryz.results11 _ _ rfl h9) rfl ?_
  have f0 : Below w.heap.size w ((w.alloc (.cells rz 27)).alloc (.cells rz 27)) := ((Below.refl _ w).alloc (Nat.le_refl _) _).alloc (by simp) _
  exact ⟨rfl, low_set (bmm f0 f0.size b3) (Nat.le_refl _) g9⟩
set_option maxHeartbeats 3200000 in
set_option maxRecDepth 100000 in
theorem rdec_c1 (s : ByteArray) (w : World) (h : ¬ s.size = 9) (k0 : 0 < s.size) (h2 : ¬ s[0].toNat = 2) :
    Calls Tryz.prog 11 #[.string s] w fun e w' => e = .returned (.tuple #[.agg rz, .int .i64 2]) ∧ Below w.heap.size w w' := by
  have f9 : ((s.size : Int) == 9) = false := by simpa using (by omega : ¬ (s.size : Int) = 9)
  obtain ⟨d0, e0⟩ : ∃ d, s[0].toNat = d := ⟨_, rfl⟩
  rw [e0] at h2
  have f0_2 : ((d0 : Int) == 2) = false := by simpa using (by omega : ¬ (d0 : Int) = 2)
  have qe := rencR_any 0 0 0 0 0 0 0 0 ⟨#[]⟩
  rw [show encRT ⟨0, 0, ⟨0, 0, ⟨0, 0, 0, ⟨#[]⟩, 0⟩⟩⟩ = (⟨#[]⟩, 1) from rfl] at qe
  go_enter Tryz.func11, Tryz.ntmps11
  go_wp2_with (first
    | (show wpList _ _ _ (⟨_, Op.store 27 _ _, _, _, _, _⟩ :: _) _ _; have y0 := hR; refine store_row_g rfl 27 _ _ rfl w.heap.size (rz) rfl rfl 27 rz hR infoR9 rfl (by simp [Value.oneCell']) ?_; intro w9 h9 g9)
    | (go_at_call 9; refine (qe _).mono ?_; rintro e w3 ⟨rfl, b3⟩; have hR := (b3.block w.heap.size (by simp; omega)).trans (two_new w (.cells rz 27) (.cells rz 27)).1))
  refine bodyPost_ret (results_rec Tryz.results11 _ _ rfl h9) rfl ?_
  have f0 : Below w.heap.size w ((w.alloc (.cells rz 27)).alloc (.cells rz 27)) := ((Below.refl _ w).alloc (Nat.le_refl _) _).alloc (by simp) _
  exact ⟨rfl, low_set (bmm f0 f0.size b3) (Nat.le_refl _) g9⟩
set_option maxHeartbeats 3200000 in
set_option maxRecDepth 100000 in
theorem rdec_c2 (s : ByteArray) (w : World) (h : s.size = 9) (k0 : 0 < s.size) (h1 : ¬ s[0].toNat = 1) (h2 : ¬ s[0].toNat = 2) :
    Calls Tryz.prog 11 #[.string s] w fun e w' => e = .returned (.tuple #[.agg rz, .int .i64 2]) ∧ Below w.heap.size w w' := by
  have f9 : ((s.size : Int) == 9) = true := by simpa using (by omega : (s.size : Int) = 9)
  obtain ⟨d0, e0⟩ : ∃ d, s[0].toNat = d := ⟨_, rfl⟩
  rw [e0] at h1 h2
  have f0_1 : ((d0 : Int) == 1) = false := by simpa using (by omega : ¬ (d0 : Int) = 1)
  have f0_2 : ((d0 : Int) == 2) = false := by simpa using (by omega : ¬ (d0 : Int) = 2)
  have qe := rencR_any 0 0 0 0 0 0 0 0 ⟨#[]⟩
  rw [show encRT ⟨0, 0, ⟨0, 0, ⟨0, 0, 0, ⟨#[]⟩, 0⟩⟩⟩ = (⟨#[]⟩, 1) from rfl] at qe
  go_enter Tryz.func11, Tryz.ntmps11
  go_wp2_with (first
    | (show wpList _ _ _ (⟨_, Op.store 27 _ _, _, _, _, _⟩ :: _) _ _; have y0 := hR; refine store_row_g rfl 27 _ _ rfl w.heap.size (rz) rfl rfl 27 rz hR infoR9 rfl (by simp [Value.oneCell']) ?_; intro w9 h9 g9)
    | (go_at_call 9; refine (qe _).mono ?_; rintro e w3 ⟨rfl, b3⟩; have hR := (b3.block w.heap.size (by simp; omega)).trans (two_new w (.cells rz 27) (.cells rz 27)).1))
  refine bodyPost_ret (results_rec Tryz.results11 _ _ rfl h9) rfl ?_
  have f0 : Below w.heap.size w ((w.alloc (.cells rz 27)).alloc (.cells rz 27)) := ((Below.refl _ w).alloc (Nat.le_refl _) _).alloc (by simp) _
  exact ⟨rfl, low_set (bmm f0 f0.size b3) (Nat.le_refl _) g9⟩
set_option maxHeartbeats 3200000 in
set_option maxRecDepth 100000 in
theorem rdec_c3 (s : ByteArray) (w : World) (h : s.size = 9) (k0 : 0 < s.size) (k8 : 8 < s.size) (h1 : s[0].toNat = 1) (h8 : ¬ s[8].toNat = 0) :
    Calls Tryz.prog 11 #[.string s] w fun e w' => e = .returned (.tuple #[.agg rz, .int .i64 2]) ∧ Below w.heap.size w w' := by
  have f9 : ((s.size : Int) == 9) = true := by simpa using (by omega : (s.size : Int) = 9)
  obtain ⟨d0, e0⟩ : ∃ d, s[0].toNat = d := ⟨_, rfl⟩
  obtain ⟨d8, e8⟩ : ∃ d, s[8].toNat = d := ⟨_, rfl⟩
  rw [e0] at h1
  rw [e8] at h8
  have f0_1 : ((d0 : Int) == 1) = true := by simpa using (by omega : (d0 : Int) = 1)
  have f0_2 : ((d0 : Int) == 2) = false := by simpa using (by omega : ¬ (d0 : Int) = 2)
  have f8_0 : ((d8 : Int) == 0) = false := by simpa using (by omega : ¬ (d8 : Int) = 0)
  have qe := rencR_any 0 0 0 0 0 0 0 0 ⟨#[]⟩
  rw [show encRT ⟨0, 0, ⟨0, 0, ⟨0, 0, 0, ⟨#[]⟩, 0⟩⟩⟩ = (⟨#[]⟩, 1) from rfl] at qe
  go_enter Tryz.func11, Tryz.ntmps11
  go_wp2_with (first
    | (show wpList _ _ _ (⟨_, Op.store 27 _ _, _, _, _, _⟩ :: _) _ _; have y0 := hR; refine store_row_g rfl 27 _ _ rfl w.heap.size (rz) rfl rfl 27 rz hR infoR9 rfl (by simp [Value.oneCell']) ?_; intro w9 h9 g9)
    | (go_at_call 9; refine (qe _).mono ?_; rintro e w3 ⟨rfl, b3⟩; have hR := (b3.block w.heap.size (by simp; omega)).trans (two_new w (.cells rz 27) (.cells rz 27)).1))
  refine bodyPost_ret (results_rec Tryz.results11 _ _ rfl h9) rfl ?_
  have f0 : Below w.heap.size w ((w.alloc (.cells rz 27)).alloc (.cells rz 27)) := ((Below.refl _ w).alloc (Nat.le_refl _) _).alloc (by simp) _
  exact ⟨rfl, low_set (bmm f0 f0.size b3) (Nat.le_refl _) g9⟩
set_option maxHeartbeats 3200000 in
set_option maxRecDepth 100000 in
theorem rdec_c4 (s : ByteArray) (w : World) (h : s.size = 9) (k0 : 0 < s.size) (k8 : 8 < s.size) (k7 : 7 < s.size) (h1 : s[0].toNat = 1) (h8 : s[8].toNat = 0) (h7 : ¬ s[7].toNat = 0) :
    Calls Tryz.prog 11 #[.string s] w fun e w' => e = .returned (.tuple #[.agg rz, .int .i64 2]) ∧ Below w.heap.size w w' := by
  have f9 : ((s.size : Int) == 9) = true := by simpa using (by omega : (s.size : Int) = 9)
  obtain ⟨d0, e0⟩ : ∃ d, s[0].toNat = d := ⟨_, rfl⟩
  obtain ⟨d8, e8⟩ : ∃ d, s[8].toNat = d := ⟨_, rfl⟩
  obtain ⟨d7, e7⟩ : ∃ d, s[7].toNat = d := ⟨_, rfl⟩
  rw [e0] at h1
  rw [e8] at h8
  rw [e7] at h7
  have f0_1 : ((d0 : Int) == 1) = true := by simpa using (by omega : (d0 : Int) = 1)
  have f0_2 : ((d0 : Int) == 2) = false := by simpa using (by omega : ¬ (d0 : Int) = 2)
  have f8_0 : ((d8 : Int) == 0) = true := by simpa using (by omega : (d8 : Int) = 0)
  have f7_0 : ((d7 : Int) == 0) = false := by simpa using (by omega : ¬ (d7 : Int) = 0)
  have qe := rencR_any 0 0 0 0 0 0 0 0 ⟨#[]⟩
  rw [show encRT ⟨0, 0, ⟨0, 0, ⟨0, 0, 0, ⟨#[]⟩, 0⟩⟩⟩ = (⟨#[]⟩, 1) from rfl] at qe
  go_enter Tryz.func11, Tryz.ntmps11
  go_wp2_with (first
    | (show wpList _ _ _ (⟨_, Op.store 27 _ _, _, _, _, _⟩ :: _) _ _; have y0 := hR; refine store_row_g rfl 27 _ _ rfl w.heap.size (rz) rfl rfl 27 rz hR infoR9 rfl (by simp [Value.oneCell']) ?_; intro w9 h9 g9)
    | (go_at_call 9; refine (qe _).mono ?_; rintro e w3 ⟨rfl, b3⟩; have hR := (b3.block w.heap.size (by simp; omega)).trans (two_new w (.cells rz 27) (.cells rz 27)).1))
  refine bodyPost_ret (results_rec Tryz.results11 _ _ rfl h9) rfl ?_
  have f0 : Below w.heap.size w ((w.alloc (.cells rz 27)).alloc (.cells rz 27)) := ((Below.refl _ w).alloc (Nat.le_refl _) _).alloc (by simp) _
  exact ⟨rfl, low_set (bmm f0 f0.size b3) (Nat.le_refl _) g9⟩
end Go.Proofs.YtdhlbldmdeepiaaGreatDoor
