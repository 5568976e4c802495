/-
  The contracts of the document's own reader and writer (package latchkeyref01): what they answer, for every number and every text, and what has not turned. No condition but on sizes.
-/
import Derived.Test.YthokbififjhflaaReader
namespace Go.Proofs.Ythokbififjhflaa
open Go.RowKit

theorem u64_not {a : Int} (h0 : 0 ≤ a) (h1 : a < 18446744073709551616) : bits .xor .u64 18446744073709551615 a = 18446744073709551615 - a := by
  obtain ⟨n, rfl⟩ := Int.eq_ofNat_of_zero_le h0
  show IntKind.u64.wrap ((BitVec.ofInt 64 18446744073709551615 ^^^ BitVec.ofInt 64 (n : Int)).toNat : Int) = _
  have e : BitVec.ofInt 64 18446744073709551615 = BitVec.allOnes 64 := by decide
  rw [e, BitVec.allOnes_xor, BitVec.toNat_not, ofInt_u64 n (by omega), IntKind.wrap_u64]
  omega

theorem mask127 {c : Nat} (h : c < 18446744073709551616) : bits .and .u64 (c : Int) 127 = (c : Int) % 128 := by
  have := u64_and_nat c 127 h (by decide)
  rw [show (127 : Nat) = 2 ^ 7 - 1 from rfl, Nat.and_two_pow_sub_one_eq_mod] at this
  simpa using this
theorem mask1 {c : Nat} (h : c < 18446744073709551616) : bits .and .u64 (c : Int) 1 = (c : Int) % 2 := by
  have := u64_and_nat c 1 h (by decide)
  rw [show (1 : Nat) = 2 ^ 1 - 1 from rfl, Nat.and_two_pow_sub_one_eq_mod] at this
  simpa using this

/-- The document's reader at block R. -/
def Rx (w : World) (R : Nat) (s : ByteArray) (b : Bool) : Prop := w.heap[R]? = some (.cells #[.string s, .bool b] 91 (0, 0))
theorem Rx.cell0 {w : World} {R : Nat} {s : ByteArray} {b : Bool} (h : Rx w R s b) : w.cell? ⟨R, 0, none⟩ = some (.string s) := by
  unfold Rx at h; simp [World.cell?, h]
theorem Rx.cell1 {w : World} {R : Nat} {s : ByteArray} {b : Bool} (h : Rx w R s b) : w.cell? ⟨R, 1, none⟩ = some (.bool b) := by
  unfold Rx at h; simp [World.cell?, h]
theorem Rx.free0 {w : World} {R : Nat} {s : ByteArray} {b : Bool} (h : Rx w R s b) : w.frozen? ⟨R, 0, none⟩ = false := by
  unfold Rx at h; simp [World.frozen?, h]
theorem Rx.free1 {w : World} {R : Nat} {s : ByteArray} {b : Bool} (h : Rx w R s b) : w.frozen? ⟨R, 1, none⟩ = false := by
  unfold Rx at h; simp [World.frozen?, h]
theorem Rx.set0 {w : World} {R : Nat} {s : ByteArray} {b : Bool} (h : Rx w R s b) (s' : ByteArray) : Rx (w.setCell ⟨R, 0, none⟩ (.string s')) R s' b := by
  unfold Rx at h ⊢
  rw [Lib.heap_setCell_same (i := 0) h]
  rfl
theorem Rx.set1 {w : World} {R : Nat} {s : ByteArray} {b : Bool} (h : Rx w R s b) (b' : Bool) : Rx (w.setCell ⟨R, 1, none⟩ (.bool b')) R s b' := by
  unfold Rx at h ⊢
  rw [Lib.heap_setCell_same (i := 1) h]
  rfl
theorem Rx.far {w w' : World} {R R' : Nat} {s : ByteArray} {b : Bool} (h : Rx w R s b) (hg : w.grownBy w' (some R')) (hR : R ≠ R') : Rx w' R s b := by
  unfold Rx at h ⊢
  rw [hg.block R (lt_of_block h) (by intro e; exact hR (Option.some.inj e))]
  exact h

/-- What reading a number makes of the document's reader. -/
def xU (s : ByteArray) (b : Bool) : Nat × ByteArray × Bool :=
  if b = true ∨ (num 0 0 s.data.toList).2 = 0 then (0, s, true) else ((num 0 0 s.data.toList).1, s.extract (num 0 0 s.data.toList).2 s.size, false)

theorem or_low {X c k : Nat} (h : X < 2 ^ (7 * k)) : X ||| c * 2 ^ (7 * k) = X + c * 2 ^ (7 * k) := by
  rw [Nat.or_comm, Nat.mul_comm, ← Nat.two_pow_add_eq_or_of_lt h, Nat.add_comm]

/-- A digit laid over what was read. -/
theorem or_digit {X Y c k : Nat} (hX : X < 2 ^ (7 * k)) (hY : Y = c % 128 * 2 ^ (7 * k)) (hb : X + Y < 18446744073709551616) : bits .or .u64 (X : Int) (Y : Int) = ((X + Y : Nat) : Int) := by
  rw [u64_or_nat X Y (by omega) (by omega), hY, or_low hX]

set_option maxRecDepth 100000 in
theorem xu64_bad (R : Nat) (s : ByteArray) (w : World) (h : Rx w R s true) :
    Calls Try.prog 44 #[.pointer (some ⟨R, 0, none⟩)] w fun e w' => e = .returned (.int .u64 0) ∧ Rx w' R s true ∧ w.grownBy w' (some R) := by
  have c0 := h.cell0
  have c1 := h.cell1
  have f1 := h.free1
  by_cases hz : (0 : Int) < (s.size : Int)
  · go_enter Try.func44, Try.ntmps44
    go_wp2
    refine wp_loop_rounds 1 ?_
    rw [rounds_succ]
    go_wp2
    go_ret
    exact ⟨rfl, h.set1 true, Lib.grownBy_setCell _ _ _ _⟩
  · go_enter Try.func44, Try.ntmps44
    go_wp2
    refine wp_loop_rounds 1 ?_
    rw [rounds_succ]
    go_wp2
    go_ret
    exact ⟨rfl, h.set1 true, Lib.grownBy_setCell _ _ _ _⟩

set_option maxHeartbeats 1600000 in
set_option maxRecDepth 100000 in
theorem xu64_good (R : Nat) (s : ByteArray) (hs : s.size ≤ 9223372036854775807) (w : World) (h : Rx w R s false) :
    Calls Try.prog 44 #[.pointer (some ⟨R, 0, none⟩)] w fun e w' => e = .returned (.int .u64 (xU s false).1) ∧ Rx w' R (xU s false).2.1 (xU s false).2.2 ∧ w.grownBy w' (some R) := by
  have c0 := h.cell0
  have c1 := h.cell1
  have f0 := h.free0
  have f1 := h.free1
  have fin0 : (num 0 0 s.data.toList) = (0, 0) → xU s false = (0, s, true) := fun e => by unfold xU; rw [e]; rfl
  have fin1 : ∀ n k, k ≠ 0 → (num 0 0 s.data.toList) = (n, k) → xU s false = (n, s.extract k s.size, false) := fun n k hk e => by unfold xU; rw [e, if_neg (by simp; exact hk)]
  go_enter Try.func44, Try.ntmps44
  go_wp2
  go_loop [3, 4, 5] (fun x i _ => ∃ (k X : Nat), k ≤ s.size ∧ k ≤ 9 ∧ i = .int .i64 k ∧ x = .int .u64 X ∧ X < 2 ^ (7 * k) ∧ num 0 0 s.data.toList = num X k (s.data.toList.drop k)) (fun _ i _ => s.size - (intOf i).toNat)
  case atStart => exact ⟨0, 0, by omega, by omega, rfl, rfl, by simp, by simp⟩
  case round =>
    obtain ⟨k, X, hks, hk9, rfl, rfl, hX, hn⟩ := hrel
    have h10 : (k : Int) < 10 := by omega
    by_cases hk : k < s.size
    · obtain ⟨c, hc⟩ : ∃ c, s[k].toNat = c := ⟨_, rfl⟩
      obtain ⟨Y, hY⟩ : ∃ Y, Y = c % 128 * 2 ^ (7 * k) := ⟨_, rfl⟩
      have hc256 : c < 256 := by rw [← hc]; exact UInt8.toNat_lt _
      have hmask := mask127 (c := c) (by omega)
      rw [num_step s X k c Y hk hc hY] at hn
      by_cases h9 : k = 9 ∧ 1 < c
      · have hv := fin0 (by rw [hn, if_pos h9])
        have HV : Hid (xU s false = (0, s, true)) := hv
        obtain ⟨hk9', hc1⟩ := h9
        clear hn hX hY hv fin0 fin1
        have h1 : (1 : Int) < (c : Int) := by omega
        have h2 : ((k : Int) == 9) = true := by simp [hk9']
        clear hk9'
        go_wp2
        go_ret
        rw [HV.out]
        exact ⟨rfl, h.set1 true, Lib.grownBy_setCell _ _ _ _⟩
      · obtain ⟨hsh, hb, hb2⟩ := digit_fits hk9 hY hX h9
        have hor := or_digit hX hY hb
        rw [if_neg h9] at hn
        clear hX hY
        by_cases h128 : 128 ≤ c
        · rw [if_pos h128] at hn
          have HN : Hid (num 0 0 s.data.toList = num (X + Y) (k + 1) (s.data.toList.drop (k + 1))) := hn
          have hk9' : k ≠ 9 := fun h => h9 ⟨h, by omega⟩
          have HB : Hid (X + Y < 2 ^ (7 * (k + 1))) := hb2 hk9'
          have h1 : (128 : Int) ≤ (c : Int) := by omega
          have h2 : ((k : Int) == 9) = false := by simp; omega
          have h3 : ((c : Int) == 0) = false := by simp; omega
          clear hn hb2 h9 fin0 fin1
          go_wp2
          go_round
          case rel => exact ⟨k + 1, X + Y, by omega, by omega, by go_num, by go_num, HB.out, HN.out⟩
          case measure => simp [intOf]; omega
        · rw [if_neg h128] at hn
          have h1 : (c : Int) < 128 := by omega
          by_cases h0 : c = 0 ∧ 0 < k
          · rw [if_pos h0] at hn
            have HV : Hid (xU s false = (0, s, true)) := fin0 hn
            have h3 : ((c : Int) == 0) = true := by simp; omega
            have h4 : (0 : Int) < (k : Int) := by omega
            have h5 : (c : Int) ≤ 1 := by omega
            clear hn hb2 h9 h0 fin0 fin1
            by_cases hk9' : k = 9
            · have h2 : ((k : Int) == 9) = true := by simp; omega
              clear hk9'
              go_wp2
              go_ret
              rw [HV.out]
              exact ⟨rfl, h.set1 true, Lib.grownBy_setCell _ _ _ _⟩
            · have h2 : ((k : Int) == 9) = false := by simp; omega
              clear hk9'
              go_wp2
              go_ret
              rw [HV.out]
              exact ⟨rfl, h.set1 true, Lib.grownBy_setCell _ _ _ _⟩
          · rw [if_neg h0] at hn
            have HV : Hid (xU s false = (X + Y, s.extract (k + 1) s.size, false)) := fin1 _ _ (by omega) hn
            clear hn hb2 fin0 fin1
            by_cases hc0 : c = 0
            · have h3 : ((c : Int) == 0) = true := by simp; omega
              have h4 : (k : Int) ≤ 0 := by omega
              have h2 : ((k : Int) == 9) = false := by simp; omega
              clear hc0 h0 h9
              go_wp2
              go_ret
              rw [HV.out]
              exact ⟨rfl, h.set0 _, Lib.grownBy_setCell _ _ _ _⟩
            · have h3 : ((c : Int) == 0) = false := by simp; omega
              by_cases hk9' : k = 9
              · have h2 : ((k : Int) == 9) = true := by simp; omega
                have h5 : (c : Int) ≤ 1 := by omega
                clear hk9' hc0 h0 h9
                go_wp2
                go_ret
                rw [HV.out]
                exact ⟨rfl, h.set0 _, Lib.grownBy_setCell _ _ _ _⟩
              · have h2 : ((k : Int) == 9) = false := by simp; omega
                clear hk9' hc0 h0 h9
                go_wp2
                go_ret
                rw [HV.out]
                exact ⟨rfl, h.set0 _, Lib.grownBy_setCell _ _ _ _⟩
    · have hv := fin0 (by rw [hn, drop_past s k (by omega)]; rfl)
      have HV : Hid (xU s false = (0, s, true)) := hv
      clear hn hX hv fin0 fin1
      go_wp2
      go_ret
      rw [HV.out]
      exact ⟨rfl, h.set1 true, Lib.grownBy_setCell _ _ _ _⟩
end Go.Proofs.Ythokbififjhflaa
