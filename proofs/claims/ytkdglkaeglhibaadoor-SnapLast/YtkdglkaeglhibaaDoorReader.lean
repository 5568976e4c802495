/-
  The contracts of the reader (package codec: Of, Int, U64, Text, Done) and of strings.Clone: what a reader answers and what is left in it, for every text, and what has not turned. No condition but that a text is no longer than a text may be.
-/
import Derived.Test.YtkdglkaeglhibaaDoorRows
import Derived.Test.YtkdglkaeglhibaaDoorPlain
import Derived.Test.YtkdglkaeglhibaaDoorWriter
import Derived.WalkKit
import Derived.WalkSpells
import Derived.Lib.BufferRead
import Derived.Lib.IndexBytes
import Derived.Lib.UnsafeStr
import Derived.Lib.BufferWrite
import Derived.Laws.MakeOwn
import Derived.Handy
namespace Go.Proofs.YtkdglkaeglhibaaDoor
open Go.RowKit

theorem drop_at (s : ByteArray) (k : Nat) (h : k < s.size) : s.data.toList.drop k = s[k] :: s.data.toList.drop (k + 1) := by
  have h1 : k < s.data.toList.length := by rw [← Lib.size_eq]; exact h
  rw [List.drop_eq_getElem_cons h1]
  rfl
theorem drop_past (s : ByteArray) (k : Nat) (h : s.size ≤ k) : s.data.toList.drop k = [] := List.drop_eq_nil_of_le (by rw [← Lib.size_eq]; exact h)

/-- One step of 'num', its byte a number. -/
theorem num_step (s : ByteArray) (X k c Y : Nat) (h : k < s.size) (hc : s[k].toNat = c) (hY : Y = c % 128 * 2 ^ (7 * k)) :
    num X k (s.data.toList.drop k) = if k = 9 ∧ 1 < c then (0, 0) else if 128 ≤ c then num (X + Y) (k + 1) (s.data.toList.drop (k + 1)) else if c = 0 ∧ 0 < k then (0, 0) else (X + Y, k + 1) := by
  rw [drop_at s k h, num, hc, hY]

/-- The shifted digit fits; so does the sum. -/
theorem digit_fits {k c X Y : Nat} (hk : k ≤ 9) (hY : Y = c % 128 * 2 ^ (7 * k)) (hX : X < 2 ^ (7 * k)) (h9 : ¬ (k = 9 ∧ 1 < c)) : IntKind.u64.wrap ((c : Int) % 128 * 2 ^ (7 * k)) = (Y : Int) ∧ X + Y < 18446744073709551616 ∧ (k ≠ 9 → X + Y < 2 ^ (7 * (k + 1))) := by
  have hc : c % 128 < 128 := Nat.mod_lt _ (by omega)
  have hm : c % 128 * 2 ^ (7 * k) ≤ 127 * 2 ^ (7 * k) := Nat.mul_le_mul_right _ (by omega)
  have hb : X + Y < 18446744073709551616 := by
    by_cases hk9 : k = 9
    · subst hk9
      have hc1 : c ≤ 1 := by
        rcases Nat.lt_or_ge 1 c with h | h
        · exact absurd ⟨rfl, h⟩ h9
        · exact h
      have : c % 128 * 2 ^ (7 * 9) ≤ 1 * 2 ^ (7 * 9) := Nat.mul_le_mul_right _ (by omega)
      simp only [Nat.reduceMul, Nat.reducePow] at this hX hY
      omega
    · have hp : 128 * 2 ^ (7 * k) ≤ 2 ^ 63 := by
        rw [← pow7]
        exact Nat.pow_le_pow_right (by omega) (by omega)
      simp only [Nat.reducePow] at hp
      omega
  refine ⟨?_, hb, fun _ => by rw [pow7]; omega⟩
  have e : ((c : Int) % 128 * 2 ^ (7 * k)) = (Y : Int) := by rw [hY]; simp
  rw [e]
  exact IntWalk.u64_in _ ⟨by omega, by omega⟩

set_option maxRecDepth 100000 in
theorem number_any (s : ByteArray) (hs : s.size ≤ 9223372036854775807) (w : World) :
    Calls Tryd.prog 70 #[.string s] w fun e w' => e = .returned (.tuple #[.int .u64 (num 0 0 s.data.toList).1, .int .i64 (num 0 0 s.data.toList).2]) ∧ w = w' := by
  go_enter Tryd.func70, Tryd.ntmps70
  go_wp2
  go_loop [4, 5, 6, 9] (fun x _ _ i => ∃ (k X : Nat), k ≤ s.size ∧ k ≤ 9 ∧ i = .int .i64 k ∧ x = .int .u64 X ∧ X < 2 ^ (7 * k) ∧ num 0 0 s.data.toList = num X k (s.data.toList.drop k)) (fun _ _ _ i => s.size - (intOf i).toNat)
  case atStart => exact ⟨0, 0, by omega, by omega, rfl, rfl, by simp, by simp⟩
  case round =>
    obtain ⟨k, X, hks, hk9, rfl, rfl, hX, hn⟩ := hrel
    by_cases hk : k < s.size
    · obtain ⟨c, hc⟩ : ∃ c, s[k].toNat = c := ⟨_, rfl⟩
      obtain ⟨Y, hY⟩ : ∃ Y, Y = c % 128 * 2 ^ (7 * k) := ⟨_, rfl⟩
      have hc256 : c < 256 := by rw [← hc]; exact UInt8.toNat_lt _
      rw [num_step s X k c Y hk hc hY] at hn
      by_cases h9 : k = 9 ∧ 1 < c
      · have hv : num 0 0 s.data.toList = (0, 0) := by rw [hn, if_pos h9]
        have HV : Hid (num 0 0 s.data.toList = (0, 0)) := hv
        obtain ⟨hk9', hc1⟩ := h9
        clear hn hX hY hv
        have h1 : (1 : Int) < (c : Int) := by omega
        have h2 : ((k : Int) == 9) = true := by simp [hk9']
        clear hk9'
        go_wp2
        go_ret2
        rw [HV.out]
        exact ⟨rfl, rfl⟩
      · obtain ⟨hsh, hb, hb2⟩ := digit_fits hk9 hY hX h9
        rw [if_neg h9] at hn
        clear hX hY
        by_cases h128 : 128 ≤ c
        · rw [if_pos h128] at hn
          have HN : Hid (num 0 0 s.data.toList = num (X + Y) (k + 1) (s.data.toList.drop (k + 1))) := hn
          have hk9' : k ≠ 9 := fun h => h9 ⟨h, by omega⟩
          have HB : Hid (X + Y < 2 ^ (7 * (k + 1))) := hb2 hk9'
          have h1 : (128 : Int) ≤ (c : Int) := by omega
          have h2 : ((k : Int) == 9) = false := by simp; omega
          clear hn hb2 h9
          go_wp2
          go_round
          case rel => exact ⟨k + 1, X + Y, by omega, by omega, by go_num, by go_num, HB.out, HN.out⟩
          case measure => simp [intOf]; omega
        · rw [if_neg h128] at hn
          have h1 : (c : Int) < 128 := by omega
          by_cases h0 : c = 0 ∧ 0 < k
          · rw [if_pos h0] at hn
            have HV : Hid (num 0 0 s.data.toList = (0, 0)) := hn
            have h3 : ((c : Int) == 0) = true := by simp; omega
            have h4 : (0 : Int) < (k : Int) := by omega
            have h5 : (c : Int) ≤ 1 := by omega
            clear hn hb2 h9 h0
            by_cases hk9' : k = 9
            · have h2 : ((k : Int) == 9) = true := by simp; omega
              clear hk9'
              go_wp2
              go_ret2
              rw [HV.out]
              exact ⟨rfl, rfl⟩
            · have h2 : ((k : Int) == 9) = false := by simp; omega
              clear hk9'
              go_wp2
              go_ret2
              rw [HV.out]
              exact ⟨rfl, rfl⟩
          · rw [if_neg h0] at hn
            have HV : Hid (num 0 0 s.data.toList = (X + Y, k + 1)) := hn
            clear hn hb2
            by_cases hc0 : c = 0
            · have h3 : ((c : Int) == 0) = true := by simp; omega
              have h4 : (k : Int) ≤ 0 := by omega
              have h2 : ((k : Int) == 9) = false := by simp; omega
              clear hc0 h0 h9
              go_wp2
              go_ret2
              rw [HV.out]
              exact ⟨rfl, rfl⟩
            · have h3 : ((c : Int) == 0) = false := by simp; omega
              by_cases hk9' : k = 9
              · have h2 : ((k : Int) == 9) = true := by simp; omega
                have h5 : (c : Int) ≤ 1 := by omega
                clear hk9' hc0 h0 h9
                go_wp2
                go_ret2
                rw [HV.out]
                exact ⟨rfl, rfl⟩
              · have h2 : ((k : Int) == 9) = false := by simp; omega
                clear hk9' hc0 h0 h9
                go_wp2
                go_ret2
                rw [HV.out]
                exact ⟨rfl, rfl⟩
    · have hv : num 0 0 s.data.toList = (0, 0) := by rw [hn, drop_past s k (by omega)]; rfl
      clear hn hX
      have HV : Hid (num 0 0 s.data.toList = (0, 0)) := hv
      clear hv
      go_wp2
      go_ret2
      rw [HV.out]
      exact ⟨rfl, rfl⟩

/-- A reader at block R: what is left, and whether it is bad. -/
def Rd (w : World) (R : Nat) (s : ByteArray) (b : Bool) : Prop := w.heap[R]? = some (.cells #[.string s, .bool b] 118 (0, 0))

theorem Rd.cell0 {w : World} {R : Nat} {s : ByteArray} {b : Bool} (h : Rd w R s b) : w.cell? ⟨R, 0, none⟩ = some (.string s) := by
  unfold Rd at h; simp [World.cell?, h]
theorem Rd.cell1 {w : World} {R : Nat} {s : ByteArray} {b : Bool} (h : Rd w R s b) : w.cell? ⟨R, 1, none⟩ = some (.bool b) := by
  unfold Rd at h; simp [World.cell?, h]
theorem Rd.free0 {w : World} {R : Nat} {s : ByteArray} {b : Bool} (h : Rd w R s b) : w.frozen? ⟨R, 0, none⟩ = false := by
  unfold Rd at h; simp [World.frozen?, h]
theorem Rd.free1 {w : World} {R : Nat} {s : ByteArray} {b : Bool} (h : Rd w R s b) : w.frozen? ⟨R, 1, none⟩ = false := by
  unfold Rd at h; simp [World.frozen?, h]

set_option maxRecDepth 100000 in
theorem of_any (s : ByteArray) (w : World) :
    Calls Tryd.prog 45 #[.string s] w fun e w' => e = .returned (.pointer (some ⟨w.heap.size, 0, none⟩)) ∧ w.alloc (.cells #[.string s, .bool false] 118) = w' := by
  go_enter Tryd.func45, Tryd.ntmps45
  go_wp2
  go_ret
  exact ⟨rfl, rfl⟩

set_option maxRecDepth 100000 in
theorem spoil_any (R : Nat) (s : ByteArray) (b : Bool) (w : World) (h : Rd w R s b) :
    Calls Tryd.prog 64 #[.pointer (some ⟨R, 0, none⟩)] w fun e w' => e = .returned (.tuple #[]) ∧ (w.setCell ⟨R, 0, none⟩ (.string ⟨#[]⟩)).setCell ⟨R, 1, none⟩ (.bool true) = w' := by
  have c0 := h.cell0
  have c1 := h.cell1
  have f0 := h.free0
  have f1 := h.free1
  go_enter Tryd.func64, Tryd.ntmps64
  go_wp2
  go_end0
  exact ⟨rfl, rfl⟩

/-- Behind stores into the reader's own two cells. -/
theorem Rd.set0 {w : World} {R : Nat} {s : ByteArray} {b : Bool} (h : Rd w R s b) (s' : ByteArray) : Rd (w.setCell ⟨R, 0, none⟩ (.string s')) R s' b := by
  unfold Rd at h ⊢
  rw [Lib.heap_setCell_same (i := 0) h]
  rfl
theorem Rd.set1 {w : World} {R : Nat} {s : ByteArray} {b : Bool} (h : Rd w R s b) (b' : Bool) : Rd (w.setCell ⟨R, 1, none⟩ (.bool b')) R s b' := by
  unfold Rd at h ⊢
  rw [Lib.heap_setCell_same (i := 1) h]
  rfl

theorem grown_trans {w w1 w2 : World} {row : Option Nat} (h : w.grownBy w1 row) (k : w1.grownBy w2 row) : w.grownBy w2 row :=
  ⟨k.os.trans h.os, k.tape.trans h.tape, k.output.trans h.output, Nat.le_trans h.size k.size, fun i hi hr => (k.block i (Nat.lt_of_lt_of_le hi h.size) hr).trans (h.block i hi hr)⟩
theorem grown_refl (w : World) (row : Option Nat) : w.grownBy w row := ⟨rfl, rfl, rfl, Nat.le_refl _, fun _ _ _ => rfl⟩
theorem grown_below {w w1 : World} (h : Below w.heap.size w w1) (row : Option Nat) : w.grownBy w1 row := ⟨h.os, h.tape, h.output, h.size, fun k hk _ => h.block k hk⟩

/-- What reading a number makes of a reader: the number, what is left, whether it is bad. -/
def rU (s : ByteArray) (b : Bool) : Nat × ByteArray × Bool :=
  if (num 0 0 s.data.toList).2 = 0 then (0, ⟨#[]⟩, true) else ((num 0 0 s.data.toList).1, s.extract (num 0 0 s.data.toList).2 s.size, b)

theorem rU_lt (s : ByteArray) (b : Bool) : (rU s b).1 < 18446744073709551616 := by
  unfold rU
  split
  · simp
  · exact num_lt _ 0 0 (by omega) (by simp)
theorem rU_size (s : ByteArray) (b : Bool) : (rU s b).2.1.size ≤ s.size := by
  unfold rU
  split
  · exact Nat.zero_le _
  · rw [Lib.size_eq, Lib.extract_to_end, Lib.size_eq]
    simp

set_option maxRecDepth 100000 in
theorem ru64_any (R : Nat) (s : ByteArray) (b : Bool) (hs : s.size ≤ 9223372036854775807) (w : World) (h : Rd w R s b) :
    Calls Tryd.prog 63 #[.pointer (some ⟨R, 0, none⟩)] w fun e w' => e = .returned (.int .u64 (rU s b).1) ∧ Rd w' R (rU s b).2.1 (rU s b).2.2 ∧ w.grownBy w' (some R) := by
  have c0 := h.cell0
  have f0 := h.free0
  have hnm := number_any s hs
  have hsp := spoil_any R s b w h
  have hle := num_le s.data.toList 0 0
  rw [← Lib.size_eq] at hle
  by_cases hz : (num 0 0 s.data.toList).2 = 0
  · have hr : rU s b = (0, ⟨#[]⟩, true) := by unfold rU; rw [if_pos hz]
    rw [hr]
    obtain ⟨N, hN⟩ : ∃ N, N = (num 0 0 s.data.toList).1 := ⟨_, rfl⟩
    rw [← hN, hz] at hnm
    clear hr hz hN hle
    go_enter Tryd.func63, Tryd.ntmps63
    go_wp2_with (first | (go_at_call 70; refine (hnm _).mono ?_; rintro e w' ⟨rfl, rfl⟩) | (go_at_call 64; refine hsp.mono ?_; rintro e w' ⟨rfl, rfl⟩))
    go_ret
    exact ⟨rfl, (h.set0 _).set1 _, grown_trans (Lib.grownBy_setCell _ _ _ _) (Lib.grownBy_setCell _ _ _ _)⟩
  · have hr : rU s b = ((num 0 0 s.data.toList).1, s.extract (num 0 0 s.data.toList).2 s.size, b) := by unfold rU; rw [if_neg hz]
    rw [hr]
    obtain ⟨N, hN⟩ : ∃ N, N = (num 0 0 s.data.toList).1 := ⟨_, rfl⟩
    obtain ⟨M, hM⟩ : ∃ M, M = (num 0 0 s.data.toList).2 := ⟨_, rfl⟩
    rw [← hN, ← hM] at hnm ⊢
    rw [← hM] at hle hz
    have hMs : M ≤ s.size := by omega
    have hM0 : ((M : Int) == 0) = false := by simp; omega
    clear hr hz hN hM hle hsp
    go_enter Tryd.func63, Tryd.ntmps63
    go_wp2_with (first | (go_at_call 70; refine (hnm _).mono ?_; rintro e w' ⟨rfl, rfl⟩))
    go_ret
    exact ⟨rfl, h.set0 _, Lib.grownBy_setCell _ _ _ _⟩

set_option maxRecDepth 100000 in
theorem ru64_nil (w : World) : Calls Tryd.prog 63 #[.pointer none] w fun e w' => e = .returned (.int .u64 0) ∧ w = w' := by
  go_enter Tryd.func63, Tryd.ntmps63
  go_wp2
  go_ret
  exact ⟨rfl, rfl⟩

set_option maxRecDepth 100000 in
theorem rint_nil (w : World) : Calls Tryd.prog 46 #[.pointer none] w fun e w' => e = .returned (.int .i64 0) ∧ w = w' := by
  have h0 : ∀ w, Calls Tryd.prog 62 #[.int .u64 0] w fun e w' => e = .returned (.int .i64 0) ∧ w = w' := unfold_any 0 (by omega)
  go_enter Tryd.func46, Tryd.ntmps46
  go_wp2_with (first | (go_at_call 63; refine (ru64_nil _).mono ?_; rintro e w' ⟨rfl, rfl⟩) | (go_at_call 62; refine (h0 _).mono ?_; rintro e w' ⟨rfl, rfl⟩))
  go_ret
  exact ⟨rfl, rfl⟩

set_option maxRecDepth 100000 in
theorem rtext_nil (w : World) : Calls Tryd.prog 47 #[.pointer none] w fun e w' => e = .returned (.string ⟨#[]⟩) ∧ w = w' := by
  go_enter Tryd.func47, Tryd.ntmps47
  go_wp2
  go_ret
  exact ⟨rfl, rfl⟩

set_option maxRecDepth 100000 in
theorem rdone_nil (w : World) : Calls Tryd.prog 48 #[.pointer none] w fun e w' => e = .returned (.int .i64 2) ∧ w = w' := by
  go_enter Tryd.func48, Tryd.ntmps48
  go_wp2
  go_ret
  exact ⟨rfl, rfl⟩

set_option maxRecDepth 100000 in
theorem rint_any (R : Nat) (s : ByteArray) (b : Bool) (hs : s.size ≤ 9223372036854775807) (w : World) (h : Rd w R s b) :
    Calls Tryd.prog 46 #[.pointer (some ⟨R, 0, none⟩)] w fun e w' => e = .returned (.int .i64 (zag (rU s b).1)) ∧ Rd w' R (rU s b).2.1 (rU s b).2.2 ∧ w.grownBy w' (some R) := by
  have hu := ru64_any R s b hs w h
  have hf := unfold_any (rU s b).1 (rU_lt s b)
  go_enter Tryd.func46, Tryd.ntmps46
  go_wp2_with (first | (go_at_call 63; refine hu.mono ?_; rintro e w' ⟨rfl, hr⟩) | (go_at_call 62; refine (hf _).mono ?_; rintro e w' ⟨rfl, rfl⟩))
  go_ret
  exact ⟨rfl, hr⟩

theorem not_empty {s : ByteArray} (h : s.size ≠ 0) : s.toList.isEmpty = false := by
  rw [Lib.toList_data]
  rw [Lib.size_eq] at h
  cases hl : s.data.toList with
  | nil => rw [hl] at h; exact absurd rfl h
  | cons a l => rfl
theorem is_empty {s : ByteArray} (h : s.size = 0) : s = ⟨#[]⟩ := ByteArray.ext (Array.eq_empty_of_size_eq_zero h)

/-- Whether all was read, and well. -/
def rD (s : ByteArray) (b : Bool) : Int := if b = true ∨ s.size ≠ 0 then 2 else 0

set_option maxRecDepth 100000 in
theorem rdone_any (R : Nat) (s : ByteArray) (b : Bool) (w : World) (h : Rd w R s b) :
    Calls Tryd.prog 48 #[.pointer (some ⟨R, 0, none⟩)] w fun e w' => e = .returned (.int .i64 (rD s b)) ∧ w = w' := by
  have c0 := h.cell0
  have c1 := h.cell1
  cases b with
  | true =>
    go_enter Tryd.func48, Tryd.ntmps48
    go_wp2
    go_ret
    exact ⟨rfl, rfl⟩
  | false =>
    by_cases hz : s.size = 0
    · have hs : s = ⟨#[]⟩ := ByteArray.ext (Array.eq_empty_of_size_eq_zero hz)
      subst hs
      go_enter Tryd.func48, Tryd.ntmps48
      go_wp2
      go_ret
      exact ⟨rfl, rfl⟩
    · have hr : rD s false = 2 := by unfold rD; rw [if_pos (Or.inr hz)]
      rw [hr]
      have hne := not_empty hz
      go_enter Tryd.func48, Tryd.ntmps48
      go_wp2
      go_ret
      exact ⟨rfl, rfl⟩

theorem Tryd.cells5 : Tryd.prog.cellsOf 5 = 1 := by kernel_rfl

set_option maxRecDepth 100000 in
/-- internal/stringslite.Clone: the same bytes, in a row of its own. -/
theorem cloneIn_any (s : ByteArray) (hs : s.size ≤ 281474976710656) (w : World) :
    Calls Tryd.prog 40 #[.string s] w fun e w' => e = .returned (.string s) ∧ Below w.heap.size w w' := by
  by_cases h0 : s.size = 0
  · obtain rfl := is_empty h0
    go_enter Tryd.func40, Tryd.ntmps40
    go_wp2
    go_ret
    exact ⟨rfl, Below.refl _ _⟩
  · obtain ⟨i0, hi, hz0, hz1, hz2⟩ := info_parts Tryd.info5
    have hlen : s.data.toList.length = s.size := (Lib.size_eq s).symm
    -- the new row
    obtain ⟨C0, hC0⟩ : ∃ C0, C0 = madeCells (Value.int .u8 0).cells (((s.size : Nat) : Int).toNat * i0.size) := ⟨_, rfl⟩
    have hC0s : C0.size = s.size := by rw [hC0, size_madeCells, hz1]; simp
    have hmake : ∀ W : World, (Instr.makeSlice 36 (.int .i64 (s.size : Int)) (.int .i64 (s.size : Int))).run Tryd.prog W = .ok (.slice (some ⟨W.heap.size, 0, none⟩) s.size s.size) (W.alloc (.cells C0 5)) := by
      intro W
      have := run_make (P := Tryd.prog) W 36 5 i0 (.int .u8 0) Tryd.underlying36 hi hz0 .i64 .i64 (s.size : Int) (s.size : Int) (by omega) (by omega) (by rw [hz2]; omega) (by omega)
      rw [← hC0] at this
      simpa using this
    -- the bytes, copied into it
    have hcopy := Lib.run_copy_row_string (P := Tryd.prog) (w.alloc (.cells C0 5)) 36 9 3 5 w.heap.size 0 s.size s.size s C0 5 Tryd.underlying36 (by rw [hi]; simp [hz1]) (heap_alloc_new w _) (Nat.le_refl _) (by omega)
    obtain ⟨C1, hC1⟩ : ∃ C1, C1 = (C0.toList.take 0 ++ Lib.byteCells s.data.toList ++ C0.toList.drop (0 + s.size)).toArray := ⟨_, rfl⟩
    rw [← hC1] at hcopy
    have hC1l : C1.toList = Lib.byteCells s.data.toList := by
      rw [hC1]
      simp [List.drop_eq_nil_of_le (show C0.toList.length ≤ s.size by rw [Array.length_toList]; omega)]
    have hC1s : C1.size = s.size := by rw [← Array.length_toList, hC1l, Lib.byteCells_length, hlen]
    have hrow : ((w.alloc (.cells C0 5)).setRow w.heap.size C1).heap[w.heap.size]? = some (.cells C1 5 (0, 0)) := setRow_heap _ _ C0 _ 5 (0, 0) (heap_alloc_new w _)
    -- the row as a string
    have hstr := Lib.run_unsafeString_row (P := Tryd.prog) ((w.alloc (.cells C0 5)).setRow w.heap.size C1) 106 3 9 5 Tryd.underlying106 Tryd.cells5 w.heap.size C1.size (by unfold World.shape?; rw [hrow]) s.data.toList (by intro e; rw [e] at hlen; simp at hlen; omega) (by omega) (by omega)
      (fun j x hx => Lib.cells_of_row hrow C1.size j _ (by rw [List.take_of_length_le (by rw [Array.length_toList]; omega), hC1l]; simp [Lib.byteCells, hx]))
    rw [hlen] at hstr
    clear hC0 hC1 hlen
    go_enter Tryd.func40, Tryd.ntmps40
    go_wp2
    go_ret
    refine ⟨rfl, Lib.below_freeze (((Below.refl _ w).alloc (Nat.le_refl _) (.cells C0 5)).trans ?_) (p := ⟨w.heap.size, 0, none⟩) (Nat.le_refl _) _⟩
    exact ⟨rfl, rfl, rfl, by simp, fun k hk => setRow_other _ _ _ _ (by omega)⟩

set_option maxRecDepth 100000 in
theorem clone_any (s : ByteArray) (hs : s.size ≤ 281474976710656) (w : World) :
    Calls Tryd.prog 29 #[.string s] w fun e w' => e = .returned (.string s) ∧ Below w.heap.size w w' := by
  have hc := cloneIn_any s hs
  go_enter Tryd.func29, Tryd.ntmps29
  go_wp2_with (go_at_call 40; refine (hc _).mono ?_; rintro e w' ⟨rfl, hb⟩)
  go_ret
  exact ⟨rfl, hb⟩

/-- What reading a text makes of a reader. -/
def rT (s : ByteArray) (b : Bool) : ByteArray × ByteArray × Bool :=
  if 524288 < (rU s b).1 ∨ (rU s b).2.1.size < (rU s b).1 then (⟨#[]⟩, ⟨#[]⟩, true) else ((rU s b).2.1.extract 0 (rU s b).1, (rU s b).2.1.extract (rU s b).1 (rU s b).2.1.size, (rU s b).2.2)

theorem Rd.below {w w1 : World} {R : Nat} {s : ByteArray} {b : Bool} (h : Rd w R s b) (hb : Below w.heap.size w w1) : Rd w1 R s b := by
  unfold Rd at h ⊢
  rw [hb.block R (lt_of_block h)]
  exact h

set_option maxRecDepth 100000 in
theorem rtext_any (R : Nat) (s : ByteArray) (b : Bool) (hs : s.size ≤ 9223372036854775807) (w : World) (h : Rd w R s b) :
    Calls Tryd.prog 47 #[.pointer (some ⟨R, 0, none⟩)] w fun e w' => e = .returned (.string (rT s b).1) ∧ Rd w' R (rT s b).2.1 (rT s b).2.2 ∧ w.grownBy w' (some R) := by
  have hu := ru64_any R s b hs w h
  have hlt := rU_lt s b
  have hsz := rU_size s b
  unfold rT
  obtain ⟨N, hN⟩ : ∃ N, N = (rU s b).1 := ⟨_, rfl⟩
  obtain ⟨s1, hs1⟩ : ∃ s1, s1 = (rU s b).2.1 := ⟨_, rfl⟩
  obtain ⟨b1, hb1⟩ : ∃ b1, b1 = (rU s b).2.2 := ⟨_, rfl⟩
  rw [← hN, ← hs1, ← hb1] at hu ⊢
  rw [← hN] at hlt
  rw [← hs1] at hsz
  clear hN hs1 hb1
  by_cases hbig : 524288 < N
  · rw [if_pos (Or.inl hbig)]
    have hb' : (524288 : Int) < (N : Int) := by omega
    go_enter Tryd.func47, Tryd.ntmps47
    go_wp2_with (first | (go_at_call 63; refine hu.mono ?_; rintro e w2 ⟨rfl, hr, hg⟩) | (go_at_call 64; refine (spoil_any R s1 b1 _ hr).mono ?_; rintro e w3 ⟨rfl, rfl⟩))
    go_ret
    exact ⟨rfl, (hr.set0 _).set1 _, grown_trans hg (grown_trans (Lib.grownBy_setCell _ _ _ _) (Lib.grownBy_setCell _ _ _ _))⟩
  · have hb' : (N : Int) ≤ 524288 := by omega
    by_cases hl : s1.size < N
    · rw [if_pos (Or.inr hl)]
      have hl' : (s1.size : Int) < (N : Int) := by omega
      go_enter Tryd.func47, Tryd.ntmps47
      go_wp2_with (first | (go_at_call 63; refine hu.mono ?_; rintro e w2 ⟨rfl, hr, hg⟩; have c0 := hr.cell0) | (go_at_call 64; refine (spoil_any R s1 b1 _ hr).mono ?_; rintro e w3 ⟨rfl, rfl⟩))
      go_ret
      exact ⟨rfl, (hr.set0 _).set1 _, grown_trans hg (grown_trans (Lib.grownBy_setCell _ _ _ _) (Lib.grownBy_setCell _ _ _ _))⟩
    · rw [if_neg (by omega)]
      have hl' : (N : Int) ≤ (s1.size : Int) := by omega
      have hcl := clone_any (s1.extract 0 N) (by rw [Lib.size_eq, Lib.extract_data]; simp; omega)
      go_enter Tryd.func47, Tryd.ntmps47
      go_wp2_with (first | (go_at_call 63; refine hu.mono ?_; rintro e w2 ⟨rfl, hr, hg⟩; have c0 := hr.cell0) | (go_at_call 29; refine (hcl _).mono ?_; rintro e w3 ⟨rfl, hb3⟩; have hr3 := hr.below hb3; have c3 := hr3.cell0; have f3 := hr3.free0))
      go_ret
      exact ⟨rfl, hr3.set0 _, grown_trans hg (grown_trans (grown_below hb3 _) (Lib.grownBy_setCell _ _ _ _))⟩
end Go.Proofs.YtkdglkaeglhibaaDoor
