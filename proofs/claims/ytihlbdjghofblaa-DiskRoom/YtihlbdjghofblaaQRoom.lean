/-
  DiskRoom of layer 5, walked: the last byte that fits is taken, one more is not. No condition.
-/
import Derived.Test.YtihlbdjghofblaaQSureW
import Derived.Laws.MakeOwn
import Derived.Laws.OwnMore
namespace Go.Proofs.Ytihlbdjghofblaa
open Go.RowKit

/-- So many nought bytes as a text. -/
def zeros (n : Nat) : ByteArray := textOf (List.replicate n 0)
theorem zeros_size (n : Nat) : (zeros n).size = n := by
  unfold zeros textOf
  rw [Lib.size_eq]
  simp
theorem zeros_list (n : Nat) : (zeros n).data.toList = List.replicate n 0 := by
  unfold zeros textOf
  simp
/-- What 'make' lays: so many noughts. -/
def zw (w : World) (n : Nat) : World := w.alloc (.cells (madeCells #[.int .u8 0] n) 5)
theorem make_zeros (n : Nat) (z : Int) (hz : (n : Int) = z) (hn : n ≤ 4194305) (w : World) : (Instr.makeSlice 46 (.int .i64 z) (.int .i64 z)).run Try.prog w = .ok (.slice (some ⟨w.heap.size, 0, none⟩) n n) (zw w n) := by
  obtain ⟨i0, hi, hz0, hz1, hz2⟩ := info_parts infoB
  subst hz
  have h := run_make (P := Try.prog) w 46 5 i0 (.int .u8 0) Try.underlying46 hi hz0 .i64 .i64 (n : Int) (n : Int) (by omega) (by omega) (by rw [hz2]; omega) (by omega)
  rw [hz1] at h
  simpa [zw, Value.cells] using h
theorem conv_zeros (n : Nat) (hn : n ≤ 4194305) (w : World) : (convert 46 9 (.slice (some ⟨w.heap.size, 0, none⟩) n n)).run Try.prog (zw w n) = .ok (.string (zeros n)) (zw w n) := by
  have hl : (List.replicate n (0 : UInt8)).length = n := by simp
  have ho : (zw w n).ownsRow 0 5 1 (.slice (some ⟨w.heap.size, 0, none⟩) n n) (List.replicate n (0 : UInt8)).length (Lib.byteCells (List.replicate n 0)) := by
    rw [hl]
    refine ⟨by simp [Lib.byteCells], Or.inr ⟨w.heap.size, n, madeCells #[.int .u8 0] n, rfl, Nat.zero_le _, heap_alloc_new w _, Nat.le_refl _, by unfold maxLen; omega, by rw [size_madeCells]; omega, ?_⟩⟩
    rw [toList_madeCells_one]
    simp [Lib.byteCells]
  exact own_bytes ho
theorem zw_below (w : World) (n : Nat) : Below w.heap.size w (zw w n) := (Below.refl _ w).alloc (Nat.le_refl _) _
theorem zw_next {B : Nat} {w u : World} {n : Nat} (b : Below B w u) (hB : B ≤ w.heap.size) : Below B w (zw u n) := bel_next b hB (zw_below u n)
set_option maxHeartbeats 3200000 in
set_option maxRecDepth 100000 in
theorem room_walk (z : Int) (w : World) :
    Calls Try.prog 6 #[.int .i64 z] w fun e w' => e = .returned (.bool true) ∧ Below w.heap.size w w' := by
  obtain ⟨m, hm⟩ : ∃ m, m = (min z 4194304).toNat := ⟨_, rfl⟩
  have hmm : max 0 (min z 4194304) = (m : Int) := by omega
  have hle : m ≤ 4194304 := by omega
  clear hm
  obtain ⟨m2, hm2⟩ : ∃ m2, m2 = 4194304 - m + 1 := ⟨_, rfl⟩
  obtain ⟨m3, hm3⟩ : ∃ m3, m3 = 4194304 - m := ⟨_, rfl⟩
  have k1a := make_zeros m (m : Int) rfl (by omega)
  have k1b := conv_zeros m (by omega)
  have k2a := make_zeros m2 ((4194304 : Int) - (m : Int) + 1) (by omega) (by omega)
  have k2b := conv_zeros m2 (by omega)
  have k3a := make_zeros m3 ((4194304 : Int) - (m : Int)) (by omega) (by omega)
  have k3b := conv_zeros m3 (by omega)
  have HZ : Hid (m2 = 4194304 - m + 1 ∧ m3 = 4194304 - m) := ⟨hm2, hm3⟩
  have hi0 : (0 : Int) ≤ (m : Int) := by omega
  have hi1 : (m : Int) ≤ 4194304 := by omega
  clear hm2 hm3
  obtain ⟨U, hU⟩ : ∃ U, U = textOf ((zeros m).data.toList ++ (zeros m3).data.toList) := ⟨_, rfl⟩
  have hUs : U.size = 4194304 := by
    rw [hU]
    unfold textOf
    rw [Lib.size_eq]
    simp only [List.length_append]
    rw [← Lib.size_eq, ← Lib.size_eq, zeros_size, zeros_size, HZ.out.2]
    omega
  have HU : Hid (U = textOf ((zeros m).data.toList ++ (zeros m3).data.toList)) := hU
  have ht : moreT (zeros m) 0 < 4611686018427387904 := by unfold moreT; split <;> omega
  have HA : Hid ((zeros m).size ≤ 4194304) := by show _ ≤ _; rw [zeros_size]; exact hle
  have HB2 : Hid (4194304 < (zeros m).data.toList.length + (zeros m2).size) := by show _ < _; rw [← Lib.size_eq, zeros_size, zeros_size, HZ.out.1]; omega
  have HB3 : Hid ((zeros m).data.toList.length + (zeros m3).size ≤ 4194304) := by show _ ≤ _; rw [← Lib.size_eq, zeros_size, zeros_size, HZ.out.2]; omega
  have HB4 : Hid (4194304 < ((zeros m).data.toList ++ (zeros m3).data.toList).length + (⟨#[120]⟩ : ByteArray).size) := by
    show _ < _
    rw [List.length_append, ← Lib.size_eq, ← Lib.size_eq, zeros_size, zeros_size, HZ.out.2]
    have : (⟨#[120]⟩ : ByteArray).size = 1 := rfl
    omega
  have hn := new_S w
  obtain ⟨B, hBe⟩ : ∃ B, B = w.heap.size := ⟨_, rfl⟩
  rw [← hBe] at hn ⊢
  have HBL : Hid (B ≤ w.heap.size) := by rw [hBe]; exact Nat.le_refl _
  clear hBe hU
  generalize zeros m = Z1 at *
  generalize zeros m2 = Z2 at *
  generalize zeros m3 = Z3 at *
  go_enter Try.func6, Try.ntmps6
  go_wp2_with (first
    | (go_at_call 11; have kz := k7; refine (awake_any _).mono ?_; rintro e w10 ⟨rfl, b10⟩; have bf := bel_next b4 HBL.out b10)
    | (go_at_call 15; refine (one_read k6).mono ?_; rw [← HU.out]; rintro e w7 ⟨rfl, rfl⟩; have k7 := k6; clear k6)
    | (go_at_call 12; refine (one_long k5 ⟨#[120]⟩ HB4.out).mono ?_; rintro e w6 ⟨rfl, rfl⟩; have k6 := k5; clear k5)
    | (go_at_call 12; refine (one_more (k4.fresh (zw_below _ _)) Z3 HB3.out ht).mono ?_; rintro e w5 ⟨rfl, ro5, k5, x5⟩; have b4 := (zw_next (n := m3) b3 HBL.out).trans x5; clear k4 b3 x5)
    | (go_at_call 12; refine (one_long (k2.fresh (zw_below _ m2)) Z2 HB2.out).mono ?_; rintro e w4 ⟨rfl, hw4⟩; rw [← hw4]; have k4 := k2.fresh (zw_below _ m2); have b3 := zw_next (n := m2) b2 HBL.out; rw [hw4] at k4 b3 ⊢; clear k2 b2 hw4)
    | (go_at_call 12; refine (one_first (k1.fresh (zw_below _ m)) Z1 HA.out).mono ?_; rintro e w2 ⟨rfl, c, ro2, k2, x2⟩; have b2 := (zw_next (n := m) b1 HBL.out).trans x2; clear k1 b1 x2)
    | (go_at_call 8; refine hn.mono ?_; rintro e w1 ⟨rfl, ro1, k1, b1⟩))
  go_ret
  exact ⟨rfl, bf⟩
end Go.Proofs.Ytihlbdjghofblaa
