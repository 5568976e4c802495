/-
  The contracts of the reader (package codec: Of, Int, U64, Text, Done) and of strings.Clone: what a reader answers and what is left in it, for every text, and what has not turned. No condition but that a text is no longer than a text may be.
-/
import Derived.Test.YthokbififjhflaaRows
import Derived.Test.YthokbififjhflaaPlain
import Derived.Test.YthokbififjhflaaWriter
import Derived.WalkKit
import Derived.WalkSpells
import Derived.Lib.BufferRead
import Derived.Lib.IndexBytes
import Derived.Lib.UnsafeStr
import Derived.Lib.BufferWrite
import Derived.Laws.MakeOwn
import Derived.Handy
namespace Go.Proofs.Ythokbififjhflaa
open Go.RowKit

theorem drop_at (s : ByteArray) (k : Nat) (h : k < s.size) : s.data.toList.drop k = s[k] :: s.data.toList.drop (k + 1) := by
  have h1 : k < s.data.toList.length := by rw [← Lib.size_eq]; exact h
  rw [List.drop_eq_getElem_cons h1]
  rfl
theorem drop_past (s : ByteArray) (k : Nat) (h : s.size ≤ k) : s.data.toList.drop k = [] := List.drop_eq_nil_of_le (by rw [← Lib.size_eq]; exact h)

/-- One step of 'num', its byte a number. -/
theorem num_step (s : ByteArray) (X k c Y : Nat) (h : k < s.size) (hc : s[k].toNat = c) (hY : Y = c % 128 * 2 ^ (7 * k)) :
    num X k (s.data.toList.drop k) = if k = 9 ∧ 1 < c then (0, 0) else if 128 ≤ c then num (X + Y) (k + 1) (s.data.toList.drop (k + 1)) else if c = 0 ∧ 0 < k then (0, 0) else (X + Y, k + 1) := by
  rw [drop_at s k h, num, hc, hY]

/-- The shifted digit fits; so does the sum. -/
theorem digit_fits {k c X Y : Nat} (hk : k ≤ 9) (hY : Y = c % 128 * 2 ^ (7 * k)) (hX : X < 2 ^ (7 * k)) (h9 : ¬ (k = 9 ∧ 1 < c)) : IntKind.u64.wrap ((c : Int) % 128 * 2 ^ (7 * k)) = (Y : Int) ∧ X + Y < 18446744073709551616 ∧ (k ≠ 9 → X + Y < 2 ^ (7 * (k + 1))) := by
  have hc : c % 128 < 128 := Nat.mod_lt _ (by omega)
  have hm : c % 128 * 2 ^ (7 * k) ≤ 127 * 2 ^ (7 * k) := Nat.mul_le_mul_right _ (by omega)
  have hb : X + Y < 18446744073709551616 := by
    by_cases hk9 : k = 9
    · subst hk9
      have hc1 : c ≤ 1 := by
        rcases Nat.lt_or_ge 1 c with h | h
        · exact absurd ⟨rfl, h⟩ h9
        · exact h
      have : c % 128 * 2 ^ (7 * 9) ≤ 1 * 2 ^ (7 * 9) := Nat.mul_le_mul_right _ (by omega)
      simp only [Nat.reduceMul, Nat.reducePow] at this hX hY
      omega
    · have hp : 128 * 2 ^ (7 * k) ≤ 2 ^ 63 := by
        rw [← pow7]
        exact Nat.pow_le_pow_right (by omega) (by omega)
      simp only [Nat.reducePow] at hp
      omega
  refine ⟨?_, hb, fun _ => by rw [pow7]; omega⟩
  have e : ((c : Int) % 128 * 2 ^ (7 * k)) = (Y : Int) := by rw [hY]; simp
  rw [e]
  exact IntWalk.u64_in _ ⟨by omega, by omega⟩

set_option maxRecDepth 100000 in
theorem number_any (s : ByteArray) (hs : s.size ≤ 9223372036854775807) (w : World) :
    Calls Try.prog 72 #[.string s] w fun e w' => e = .returned (.tuple #[.int .u64 (num 0 0 s.data.toList).1, .int .i64 (num 0 0 s.data.toList).2]) ∧ w = w' := by
  go_enter Try.func72, Try.ntmps72
  go_wp2
  go_loop [4, 5, 6, 9] (fun x _ _ i => ∃ (k X : Nat), k ≤ s.size ∧ k ≤ 9 ∧ i = .int .i64 k ∧ x = .int .u64 X ∧ X < 2 ^ (7 * k) ∧ num 0 0 s.data.toList = num X k (s.data.toList.drop k)) (fun _ _ _ i => s.size - (intOf i).toNat)
  case atStart => exact ⟨0, 0, by omega, by omega, rfl, rfl, by simp, by simp⟩
  case round =>
    obtain ⟨k, X, hks, hk9, rfl, rfl, hX, hn⟩ := hrel
    by_cases hk : k < s.size
    · obtain ⟨c, hc⟩ : ∃ c, s[k].toNat = c := ⟨_, rfl⟩
      obtain ⟨Y, hY⟩ : ∃ Y, Y = c % 128 * 2 ^ (7 * k) := ⟨_, rfl⟩
      have hc256 : c < 256 := by rw [← hc]; exact UInt8.toNat_lt _
      rw [num_step s X k c Y hk hc hY] at hn
      by_cases h9 : k = 9 ∧ 1 < c
      · have hv : num 0 0 s.data.toList = (0, 0) := by rw [hn, if_pos h9]
        have HV : Hid (num 0 0 s.data.toList = (0, 0)) := hv
        obtain ⟨hk9', hc1⟩ := h9
        clear hn hX hY hv
        have h1 : (1 : Int) < (c : Int) := by omega
        have h2 : ((k : Int) == 9) = true := by simp [hk9']
        clear hk9'
        go_wp2
        go_ret2
        rw [HV.out]
        exact ⟨rfl, rfl⟩
      · obtain ⟨hsh, hb, hb2⟩ := digit_fits hk9 hY hX h9
        rw [if_neg h9] at hn
        clear hX hY
        by_cases h128 : 128 ≤ c
        · rw [if_pos h128] at hn
          have HN : Hid (num 0 0 s.data.toList = num (X + Y) (k + 1) (s.data.toList.drop (k + 1))) := hn
          have hk9' : k ≠ 9 := fun h => h9 ⟨h, by omega⟩
          have HB : Hid (X + Y < 2 ^ (7 * (k + 1))) := hb2 hk9'
          have h1 : (128 : Int) ≤ (c : Int) := by omega
          have h2 : ((k : Int) == 9) = false := by simp; omega
          clear hn hb2 h9
          go_wp2
          go_round
          case rel => exact ⟨k + 1, X + Y, by omega, by omega, by go_num, by go_num, HB.out, HN.out⟩
          case measure => simp [intOf]; omega
        · rw [if_neg h128] at hn
          have h1 : (c : Int) < 128 := by omega
          by_cases h0 : c = 0 ∧ 0 < k
          · rw [if_pos h0] at hn
            have HV : Hid (num 0 0 s.data.toList = (0, 0)) := hn
            have h3 : ((c : Int) == 0) = true := by simp; omega
            have h4 : (0 : Int) < (k : Int) := by omega
            have h5 : (c : Int) ≤ 1 := by omega
            clear hn hb2 h9 h0
            by_cases hk9' : k = 9
            · have h2 : ((k : Int) == 9) = true := by simp; omega
              clear hk9'
              go_wp2
              go_ret2
              rw [HV.out]
              exact ⟨rfl, rfl⟩
            · have h2 : ((k : Int) == 9) = false := by simp; omega
              clear hk9'
              go_wp2
              go_ret2
              rw [HV.out]
              exact ⟨rfl, rfl⟩
          · rw [if_neg h0] at hn
            have HV : Hid (num 0 0 s.data.toList = (X + Y, k + 1)) := hn
            clear hn hb2
            by_cases hc0 : c = 0
            · have h3 : ((c : Int) == 0) = true := by simp; omega
              have h4 : (k : Int) ≤ 0 := by omega
              have h2 : ((k : Int) == 9) = false := by simp; omega
              clear hc0 h0 h9
              go_wp2
              go_ret2
              rw [HV.out]
              exact ⟨rfl, rfl⟩
            · have h3 : ((c : Int) == 0) = false := by simp; omega
              by_cases hk9' : k = 9
              · have h2 : ((k : Int) == 9) = true := by simp; omega
                have h5 : (c : Int) ≤ 1 := by omega
                clear hk9' hc0 h0 h9
                go_wp2
                go_ret2
                rw [HV.out]
                exact ⟨rfl, rfl⟩
              · have h2 : ((k : Int) == 9) = false := by simp; omega
                clear hk9' hc0 h0 h9
                go_wp2
                go_ret2
                rw [HV.out]
                exact ⟨rfl, rfl⟩
    · have hv : num 0 0 s.data.toList = (0, 0) := by rw [hn, drop_past s k (by omega)]; rfl
      clear hn hX
      have HV : Hid (num 0 0 s.data.toList = (0, 0)) := hv
      clear hv
      go_wp2
      go_ret2
      rw [HV.out]
      exact ⟨rfl, rfl⟩

/-- A reader at block R: what is left, and whether it is bad. -/
def Rd (w : World) (R : Nat) (s : ByteArray) (b : Bool) : Prop := w.heap[R]? = some (.cells #[.string s, .bool b] 106 (0, 0))

theorem Rd.cell0 {w : World} {R : Nat} {s : ByteArray} {b : Bool} (h : Rd w R s b) : w.cell? ⟨R, 0, none⟩ = some (.string s) := by
  unfold Rd at h; simp [World.cell?, h]
theorem Rd.cell1 {w : World} {R : Nat} {s : ByteArray} {b : Bool} (h : Rd w R s b) : w.cell? ⟨R, 1, none⟩ = some (.bool b) := by
  unfold Rd at h; simp [World.cell?, h]
theorem Rd.free0 {w : World} {R : Nat} {s : ByteArray} {b : Bool} (h : Rd w R s b) : w.frozen? ⟨R, 0, none⟩ = false := by
  unfold Rd at h; simp [World.frozen?, h]
theorem Rd.free1 {w : World} {R : Nat} {s : ByteArray} {b : Bool} (h : Rd w R s b) : w.frozen? ⟨R, 1, none⟩ = false := by
  unfold Rd at h; simp [World.frozen?, h]

set_option maxRecDepth 100000 in
theorem of_any (s : ByteArray) (w : World) :
    Calls Try.prog 40 #[.string s] w fun e w' => e = .returned (.pointer (some ⟨w.heap.size, 0, none⟩)) ∧ w.alloc (.cells #[.string s, .bool false] 106) = w' := by
  go_enter Try.func40, Try.ntmps40
  go_wp2
  go_ret
  exact ⟨rfl, rfl⟩

set_option maxRecDepth 100000 in
theorem spoil_any (R : Nat) (s : ByteArray) (b : Bool) (w : World) (h : Rd w R s b) :
    Calls Try.prog 73 #[.pointer (some ⟨R, 0, none⟩)] w fun e w' => e = .returned (.tuple #[]) ∧ (w.setCell ⟨R, 0, none⟩ (.string ⟨#[]⟩)).setCell ⟨R, 1, none⟩ (.bool true) = w' := by
  have c0 := h.cell0
  have c1 := h.cell1
  have f0 := h.free0
  have f1 := h.free1
  go_enter Try.func73, Try.ntmps73
  go_wp2
  go_end0
  exact ⟨rfl, rfl⟩

/-- Behind stores into the reader's own two cells. -/
theorem Rd.set0 {w : World} {R : Nat} {s : ByteArray} {b : Bool} (h : Rd w R s b) (s' : ByteArray) : Rd (w.setCell ⟨R, 0, none⟩ (.string s')) R s' b := by
  unfold Rd at h ⊢
  rw [Lib.heap_setCell_same (i := 0) h]
  rfl
theorem Rd.set1 {w : World} {R : Nat} {s : ByteArray} {b : Bool} (h : Rd w R s b) (b' : Bool) : Rd (w.setCell ⟨R, 1, none⟩ (.bool b')) R s b' := by
  unfold Rd at h ⊢
  rw [Lib.heap_setCell_same (i := 1) h]
  rfl

theorem grown_trans {w w1 w2 : World} {row : Option Nat} (h : w.grownBy w1 row) (k : w1.grownBy w2 row) : w.grownBy w2 row :=
  ⟨k.os.trans h.os, k.tape.trans h.tape, k.output.trans h.output, Nat.le_trans h.size k.size, fun i hi hr => (k.block i (Nat.lt_of_lt_of_le hi h.size) hr).trans (h.block i hi hr)⟩
theorem grown_refl (w : World) (row : Option Nat) : w.grownBy w row := ⟨rfl, rfl, rfl, Nat.le_refl _, fun _ _ _ => rfl⟩
theorem grown_below {w w1 : World} (h : Below w.heap.size w w1) (row : Option Nat) : w.grownBy w1 row := ⟨h.os, h.tape, h.output, h.size, fun k hk _ => h.block k hk⟩

/-- What reading a number makes of a reader: the number, what is left, whether it is bad. -/
def rU (s : ByteArray) (b : Bool) : Nat × ByteArray × Bool :=
  if (num 0 0 s.data.toList).2 = 0 then (0, ⟨#[]⟩, true) else ((num 0 0 s.data.toList).1, s.extract (num 0 0 s.data.toList).2 s.size, b)

theorem rU_lt (s : ByteArray) (b : Bool) : (rU s b).1 < 18446744073709551616 := by
  unfold rU
  split
  · simp
  · exact num_lt _ 0 0 (by omega) (by simp)
theorem rU_size (s : ByteArray) (b : Bool) : (rU s b).2.1.size ≤ s.size := by
  unfold rU
  split
  · exact Nat.zero_le _
  · rw [Lib.size_eq, Lib.extract_to_end, Lib.size_eq]
    simp

set_option maxRecDepth 100000 in
theorem ru64_any (R : Nat) (s : ByteArray) (b : Bool) (hs : s.size ≤ 9223372036854775807) (w : World) (h : Rd w R s b) :
    Calls Try.prog 58 #[.pointer (some ⟨R, 0, none⟩)] w fun e w' => e = .returned (.int .u64 (rU s b).1) ∧ Rd w' R (rU s b).2.1 (rU s b).2.2 ∧ w.grownBy w' (some R) := by
  have c0 := h.cell0
  have f0 := h.free0
  have hnm := number_any s hs
  have hsp := spoil_any R s b w h
  have hle := num_le s.data.toList 0 0
  rw [← Lib.size_eq] at hle
  by_cases hz : (num 0 0 s.data.toList).2 = 0
  · have hr : rU s b = (0, ⟨#[]⟩, true) := by unfold rU; rw [if_pos hz]
    rw [hr]
    obtain ⟨N, hN⟩ : ∃ N, N = (num 0 0 s.data.toList).1 := ⟨_, rfl⟩
    rw [← hN, hz] at hnm
    clear hr hz hN hle
    go_enter Try.func58, Try.ntmps58
    go_wp2_with (first | (go_at_call 72; refine (hnm _).mono ?_; rintro e w' ⟨rfl, rfl⟩) | (go_at_call 73; refine hsp.mono ?_; rintro e w' ⟨rfl, rfl⟩))
    go_ret
    exact ⟨rfl, (h.set0 _).set1 _, grown_trans (Lib.grownBy_setCell _ _ _ _) (Lib.grownBy_setCell _ _ _ _)⟩
  · have hr : rU s b = ((num 0 0 s.data.toList).1, s.extract (num 0 0 s.data.toList).2 s.size, b) := by unfold rU; rw [if_neg hz]
    rw [hr]
    obtain ⟨N, hN⟩ : ∃ N, N = (num 0 0 s.data.toList).1 := ⟨_, rfl⟩
    obtain ⟨M, hM⟩ : ∃ M, M = (num 0 0 s.data.toList).2 := ⟨_, rfl⟩
    rw [← hN, ← hM] at hnm ⊢
    rw [← hM] at hle hz
    have hMs : M ≤ s.size := by omega
    have hM0 : ((M : Int) == 0) = false := by simp; omega
    clear hr hz hN hM hle hsp
    go_enter Try.func58, Try.ntmps58
    go_wp2_with (first | (go_at_call 72; refine (hnm _).mono ?_; rintro e w' ⟨rfl, rfl⟩))
    go_ret
    exact ⟨rfl, h.set0 _, Lib.grownBy_setCell _ _ _ _⟩

set_option maxRecDepth 100000 in
theorem ru64_nil (w : World) : Calls Try.prog 58 #[.pointer none] w fun e w' => e = .returned (.int .u64 0) ∧ w = w' := by
  go_enter Try.func58, Try.ntmps58
  go_wp2
  go_ret
  exact ⟨rfl, rfl⟩

set_option maxRecDepth 100000 in
theorem rint_nil (w : World) : Calls Try.prog 41 #[.pointer none] w fun e w' => e = .returned (.int .i64 0) ∧ w = w' := by
  have h0 : ∀ w, Calls Try.prog 57 #[.int .u64 0] w fun e w' => e = .returned (.int .i64 0) ∧ w = w' := unfold_any 0 (by omega)
  go_enter Try.func41, Try.ntmps41
  go_wp2_with (first | (go_at_call 58; refine (ru64_nil _).mono ?_; rintro e w' ⟨rfl, rfl⟩) | (go_at_call 57; refine (h0 _).mono ?_; rintro e w' ⟨rfl, rfl⟩))
  go_ret
  exact ⟨rfl, rfl⟩

set_option maxRecDepth 100000 in
theorem rint_any (R : Nat) (s : ByteArray) (b : Bool) (hs : s.size ≤ 9223372036854775807) (w : World) (h : Rd w R s b) :
    Calls Try.prog 41 #[.pointer (some ⟨R, 0, none⟩)] w fun e w' => e = .returned (.int .i64 (zag (rU s b).1)) ∧ Rd w' R (rU s b).2.1 (rU s b).2.2 ∧ w.grownBy w' (some R) := by
  have hu := ru64_any R s b hs w h
  have hf := unfold_any (rU s b).1 (rU_lt s b)
  go_enter Try.func41, Try.ntmps41
  go_wp2_with (first | (go_at_call 58; refine hu.mono ?_; rintro e w' ⟨rfl, hr⟩) | (go_at_call 57; refine (hf _).mono ?_; rintro e w' ⟨rfl, rfl⟩))
  go_ret
  exact ⟨rfl, hr⟩

theorem not_empty {s : ByteArray} (h : s.size ≠ 0) : s.toList.isEmpty = false := by
  rw [Lib.toList_data]
  rw [Lib.size_eq] at h
  cases hl : s.data.toList with
  | nil => rw [hl] at h; exact absurd rfl h
  | cons a l => rfl
theorem is_empty {s : ByteArray} (h : s.size = 0) : s = ⟨#[]⟩ := ByteArray.ext (Array.eq_empty_of_size_eq_zero h)

/-- Whether all was read, and well. -/
def rD (s : ByteArray) (b : Bool) : Int := if b = true ∨ s.size ≠ 0 then 2 else 0

theorem Try.cells5 : Try.prog.cellsOf 5 = 1 := by kernel_rfl

/-- What reading a text makes of a reader. -/
def rT (s : ByteArray) (b : Bool) : ByteArray × ByteArray × Bool :=
  if 524288 < (rU s b).1 ∨ (rU s b).2.1.size < (rU s b).1 then (⟨#[]⟩, ⟨#[]⟩, true) else ((rU s b).2.1.extract 0 (rU s b).1, (rU s b).2.1.extract (rU s b).1 (rU s b).2.1.size, (rU s b).2.2)

theorem Rd.below {w w1 : World} {R : Nat} {s : ByteArray} {b : Bool} (h : Rd w R s b) (hb : Below w.heap.size w w1) : Rd w1 R s b := by
  unfold Rd at h ⊢
  rw [hb.block R (lt_of_block h)]
  exact h

end Go.Proofs.Ythokbififjhflaa
