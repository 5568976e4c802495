/-
  SessionPlays walked: any deeds, the program held against the document. The conditions: numbers are ints.
-/
import Derived.Test.YthokbififjhflaaSdPl
import Derived.Deep.CutBlock
namespace Go.Proofs.Ythokbififjhflaa
open Go.RowKit

set_option maxHeartbeats 25600000 in
set_option maxRecDepth 100000 in
theorem plays_walk (w : World) (a0 : Option Addr) (c0 : Nat) (l0 : List Sd) (r0 : RowAt sdC w (.slice a0 l0.length c0) l0) (y0 : ∀ v ∈ l0, SdOk v) (m0 : l0.length ≤ 9223372036854775807) :
    Calls Try.prog 3 #[.slice a0 l0.length c0] w fun e w' => e = .returned (.bool true) ∧ Below w.heap.size w w' := by
  have HR0 : Hid (∀ y, Below w.heap.size w y → RowAt sdC y (.slice a0 l0.length c0) l0) := fun y b => r0.fresh b
  have HOK0 : Hid (∀ x ∈ l0, SdOk x) := y0
  have HN : Hid (Calls Try.prog 9 #[] w (SeNew w)) := snew_any w
  clear r0 y0
  go_enter Try.func3, Try.ntmps3
  go_upto_block 0 with (go_at_call 9; refine Calls.mono HN.out ?_; rintro r w1 ⟨⟨X, S1, rfl, h1, b1⟩⟩; have I0 : Hid (PlT w (w1.alloc (.cells #[.slice none 0 0, .int .i64 0, .int .i64 0, .int .i64 0, .int .i64 0, .int .i64 0, .int .i64 0, .int .i64 0, .int .i64 0, .int .i64 0, .int .i64 0, .int .i64 0, .int .i64 0, .int .i64 0, .int .i64 0, .int .i64 0, .int .i64 0] 31)) X w1.heap.size []) := PlT.new h1 b1; clear h1 b1)
  clear HN
  obtain ⟨Y, hY⟩ : ∃ Y, Y = w1.heap.size := ⟨_, rfl⟩
  obtain ⟨w2, hw2⟩ : ∃ w2, w2 = w1.alloc (.cells #[.slice none 0 0, .int .i64 0, .int .i64 0, .int .i64 0, .int .i64 0, .int .i64 0, .int .i64 0, .int .i64 0, .int .i64 0, .int .i64 0, .int .i64 0, .int .i64 0, .int .i64 0, .int .i64 0, .int .i64 0, .int .i64 0, .int .i64 0] 31) := ⟨_, rfl⟩
  rw [← hw2, ← hY] at I0
  rw [← hw2, ← hY]
  clear hw2 hY
  go_wp2_with fail
  go_loopw [5] (fun i wr => ∃ (k : Nat) (l : List SeX), k ≤ l0.length ∧ k ≤ 200 ∧ l.length ≤ k ∧ i = .int .i64 (k : Int) ∧ Hid (PlT w wr X Y l)) (fun i _ => l0.length - (intOf i).toNat)
  case atStart => exact ⟨0, [], Nat.zero_le _, Nat.zero_le _, Nat.le_refl _, rfl, I0⟩
  case round =>
    clear I0
    obtain ⟨k, l, hk, hk200, hlk, rfl, I⟩ := hrel
    by_cases hkl : k < l0.length
    · have t0 : decide ((k : Int) < (l0.length : Int)) = true := decide_eq_true (by omega)
      have t0' : decide (k < l0.length) = true := decide_eq_true hkl
      by_cases hk2 : k < 200
      · have t1 : decide ((k : Int) < 200) = true := decide_eq_true (by omega)
        obtain ⟨bk, off, cap', hvv, _, hbk, hc⟩ := (HR0.out wr I.out.bel).cells sdC_len (by omega)
        injection hvv with e1 e2 e3
        subst e1 e3
        clear e2
        obtain ⟨x, hx⟩ : ∃ x, x = l0[k] := ⟨_, rfl⟩
        have HX : Hid (SdOk x) := by have h : SdOk l0[k] := HOK0.out _ (List.getElem_mem hkl); rw [← hx] at h; exact h
        have HY : Hid (∀ y, Below w.heap.size w y → ∀ (c : Nat) (u : Value), c < 8 → (sdC x)[c]? = some u → y.cell? ⟨bk, off + k * 8 + c, none⟩ = some u) := fun y b c u hc8 hu => by
          rw [hx] at hu
          obtain ⟨bk2, off2, cap2, hv2, _, _, hc2⟩ := (HR0.out y b).cells sdC_len (by omega)
          injection hv2 with e1 e2 e3
          simp only [Option.some.injEq, Addr.mk.injEq, and_true] at e1
          obtain ⟨rfl, rfl⟩ := e1
          exact hc2 k hkl c u hc8 hu
        clear hc hx hbk
        have HP : Hid (Calls Try.prog 10 #[.agg (sdA x)] wr fun e w' => e = .returned (.bool (sdP x)) ∧ Below wr.heap.size wr w') := plain_any wr x
        have z0 := HY.out wr I.out.bel 0 (.int .i64 x.kind) (by decide) rfl
        have z1 := HY.out wr I.out.bel 1 (.int .i64 x.n) (by decide) rfl
        have z2 := HY.out wr I.out.bel 2 (.int .i64 x.seq) (by decide) rfl
        have z3 := HY.out wr I.out.bel 3 (.int .i64 x.r.session) (by decide) rfl
        have z4 := HY.out wr I.out.bel 4 (.int .i64 x.r.seq) (by decide) rfl
        have z5 := HY.out wr I.out.bel 5 (.int .i64 x.r.err) (by decide) rfl
        have z6 := HY.out wr I.out.bel 6 (.int .u64 x.r.token) (by decide) rfl
        have z7 := HY.out wr I.out.bel 7 (.int .i64 x.r.n) (by decide) rfl
        rw [Nat.add_zero] at z0
        cases hp : sdP x with
        | false =>
          rw [hp] at HP
          go_wp2_with (go_at_call 10; refine Calls.mono HP.out ?_; rintro e w2 ⟨rfl, b2⟩; have B2 : Hid _ := b2; clear b2)
          exact ⟨⟨k + 1, l, by omega, by omega, by omega, by simp, I.out.fresh B2.out⟩, by simp [intOf]; omega⟩
        | true =>
          rw [hp] at HP
          go_upto_region 8 with (go_at_call 10; refine Calls.mono HP.out ?_; rintro e w2 ⟨rfl, b2⟩; have B2 : Hid _ := b2; clear b2)
          have I2 : Hid (PlT w w2 X Y l) := I.out.fresh B2.out
          obtain ⟨l2, hl2⟩ : ∃ l2, l2 = doL l x := ⟨_, rfl⟩
          have HD : Hid (Calls Try.prog 11 #[.pointer (some ⟨X, 0, none⟩), .pointer (some ⟨Y, 0, none⟩), .agg (sdA x)] w2 fun e w' => e = .returned (.bool true) ∧ PlT w w' X Y l2) := by rw [hl2]; exact I2.out.step x HX.out hp (by omega)
          have HL : Hid (l2.length ≤ k + 1) := by have := doL_len l x; rw [← hl2] at this; exact Nat.le_trans this (by omega)
          obtain ⟨T, hT⟩ : ∃ T : ByteArray, T = ⟨(seEnc l2).toArray⟩ := ⟨_, rfl⟩
          have HE1 : Hid (∀ y, PlT w y X Y l2 → Calls Try.prog 15 #[.pointer (some ⟨X, 0, none⟩)] y fun e w' => e = .returned (.string T) ∧ Below y.heap.size y w') := fun y i => by rw [hT]; exact i.encX (Nat.le_trans HL.out (by omega))
          have HE2 : Hid (∀ y, PlT w y X Y l2 → Calls Try.prog 16 #[.pointer (some ⟨Y, 0, none⟩)] y fun e w' => e = .returned (.string T) ∧ Below y.heap.size y w') := fun y i => by rw [hT]; exact i.encY (Nat.le_trans HL.out (by omega))
          have HS : Hid (sameB (seAll l2) (seAll l2) = true) := decide_eq_true rfl
          clear HP I hp hlk hl2 hT z0 z1 z2 z3 z4 z5 z6 z7
          have z0 := HY.out w2 I2.out.bel 0 (.int .i64 x.kind) (by decide) rfl
          have z1 := HY.out w2 I2.out.bel 1 (.int .i64 x.n) (by decide) rfl
          have z2 := HY.out w2 I2.out.bel 2 (.int .i64 x.seq) (by decide) rfl
          have z3 := HY.out w2 I2.out.bel 3 (.int .i64 x.r.session) (by decide) rfl
          have z4 := HY.out w2 I2.out.bel 4 (.int .i64 x.r.seq) (by decide) rfl
          have z5 := HY.out w2 I2.out.bel 5 (.int .i64 x.r.err) (by decide) rfl
          have z6 := HY.out w2 I2.out.bel 6 (.int .u64 x.r.token) (by decide) rfl
          have z7 := HY.out w2 I2.out.bel 7 (.int .i64 x.r.n) (by decide) rfl
          rw [Nat.add_zero] at z0
          go_upto_region 10 with (first
            | (go_at_call 16; refine Calls.mono (HE2.out _ I7.out) ?_; rintro e w8 ⟨rfl, b8⟩; have I8 : Hid (PlT w w8 X Y l2) := I7.out.fresh b8; clear b8)
            | (go_at_call 15; refine Calls.mono (HE1.out _ I6.out) ?_; rintro e w7 ⟨rfl, b7⟩; have I7 : Hid (PlT w w7 X Y l2) := I6.out.fresh b7; clear b7)
            | (go_at_call 12; refine (ints_same _ _ _ _ _ (ints_fresh A4.out B5.out) A5.out).mono ?_; rw [HS.out]; rintro e w6 ⟨rfl, b6⟩; have I6 : Hid (PlT w w6 X Y l2) := I5.out.fresh b6; clear b6)
            | (go_at_call 14; refine Calls.mono I4.out.allY ?_; rintro e w5 ⟨v5, rfl, a5, b5⟩; have A5 : Hid _ := a5; have B5 : Hid _ := b5; have I5 : Hid (PlT w w5 X Y l2) := I4.out.fresh b5; clear a5 b5)
            | (go_at_call 13; refine Calls.mono I3.out.allX ?_; rintro e w4 ⟨v4, rfl, a4, b4⟩; have A4 : Hid _ := a4; have I4 : Hid (PlT w w4 X Y l2) := I3.out.fresh b4; clear a4 b4)
            | (go_at_call 11; refine Calls.mono HD.out ?_; rintro e w3 ⟨rfl, i3⟩; have I3 : Hid (PlT w w3 X Y l2) := i3; clear i3))
          clear z0 z1 z2 z3 z4 z5 z6 z7 HD HE1 HE2 I3 I4 I5 I6 I7 A4 A5 B5 I2
          obtain ⟨q1, h1⟩ : ∃ q, q = (seCli l2 x.n).1 := ⟨_, rfl⟩
          obtain ⟨q2, h2⟩ : ∃ q, q = (seCli l2 x.n).2.1 := ⟨_, rfl⟩
          obtain ⟨q3, h3⟩ : ∃ q, q = (seCli l2 x.n).2.2 := ⟨_, rfl⟩
          have HC1 : Hid (Calls Try.prog 17 #[.pointer (some ⟨X, 0, none⟩), .int .i64 x.n] w8 fun e w' => e = .returned (.tuple #[.int .i64 q1, .int .i64 q2, .bool q3]) ∧ Below w8.heap.size w8 w') := by rw [h1, h2, h3]; exact I8.out.cliX HX.out.n
          have HC2 : Hid (∀ y, PlT w y X Y l2 → Calls Try.prog 18 #[.pointer (some ⟨Y, 0, none⟩), .int .i64 x.n] y fun e w' => e = .returned (.tuple #[.int .i64 q1, .int .i64 q2, .bool q3]) ∧ Below y.heap.size y w') := fun y i => by rw [h1, h2, h3]; exact i.cliY HX.out.n
          clear h1 h2 h3
          have z1 := HY.out w8 I8.out.bel 1 (.int .i64 x.n) (by decide) rfl
          go_upto_region 11 with (go_at_call 17; refine Calls.mono HC1.out ?_; rintro e w9 ⟨rfl, b9⟩; have I9 : Hid (PlT w w9 X Y l2) := I8.out.fresh b9; clear b9)
          clear z1
          have z1 := HY.out w9 I9.out.bel 1 (.int .i64 x.n) (by decide) rfl
          go_wp2_with (go_at_call 18; refine Calls.mono (HC2.out _ I9.out) ?_; rintro e w10 ⟨rfl, b10⟩; have I10 : Hid (PlT w w10 X Y l2) := I9.out.fresh b10; clear b10)
          exact ⟨⟨k + 1, l2, by omega, by omega, HL.out, by simp, I10⟩, by simp [intOf]; omega⟩
      · have t1 : decide ((k : Int) < 200) = false := decide_eq_false (by omega)
        go_wp2_with (go_at_call 19; refine (awake_any _).mono ?_; rintro r w9 ⟨rfl, b9⟩; have B9 : Hid _ := b9; clear b9)
        go_ret
        exact ⟨rfl, bmm I.out.bel I.out.bel.size B9.out⟩
    · have t0 : decide ((k : Int) < (l0.length : Int)) = false := decide_eq_false (by omega)
      have t0' : decide (k < l0.length) = false := decide_eq_false hkl
      go_wp2_with (go_at_call 19; refine (awake_any _).mono ?_; rintro r w9 ⟨rfl, b9⟩; have B9 : Hid _ := b9; clear b9)
      go_ret
      exact ⟨rfl, bmm I.out.bel I.out.bel.size B9.out⟩
end Go.Proofs.Ythokbififjhflaa
