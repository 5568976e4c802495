/-
  SessionGoesOn walked: sessions that were read go on as those that were written. The conditions: numbers are ints.
-/
import Derived.Test.YthokbififjhflaaSdGo
import Derived.Deep.CutBlock
namespace Go.Proofs.Ythokbififjhflaa
open Go.RowKit

set_option maxHeartbeats 25600000 in
set_option maxRecDepth 100000 in
theorem goeson_walk (w : World) (a0 a1 : Option Addr) (c0 c1 : Nat) (l0 l1 : List Sd) (r0 : RowAt sdC w (.slice a0 l0.length c0) l0) (r1 : RowAt sdC w (.slice a1 l1.length c1) l1) (y0 : ∀ v ∈ l0, SdOk v) (y1 : ∀ v ∈ l1, SdOk v) (m0 : l0.length ≤ 9223372036854775807) (m1 : l1.length ≤ 9223372036854775807) :
    Calls Try.prog 5 #[.slice a0 l0.length c0, .slice a1 l1.length c1] w fun e w' => e = .returned (.bool true) ∧ Below w.heap.size w w' := by
  have HR0 : Hid (∀ y, Below w.heap.size w y → RowAt sdC y (.slice a0 l0.length c0) l0) := fun y b => r0.fresh b
  have HR1 : Hid (∀ y, Below w.heap.size w y → RowAt sdC y (.slice a1 l1.length c1) l1) := fun y b => r1.fresh b
  have HOK0 : Hid (∀ x ∈ l0, SdOk x) := y0
  have HOK1 : Hid (∀ x ∈ l1, SdOk x) := y1
  have HN : Hid (Calls Try.prog 9 #[] w (SeNew w)) := snew_any w
  clear r0 r1 y0 y1
  go_enter Try.func5, Try.ntmps5
  go_upto_block 0 with (go_at_call 9; refine Calls.mono HN.out ?_; rintro r w1 ⟨⟨X, S1, rfl, h1, b1⟩⟩; have I0 : Hid (GoS w w1 X []) := (show Hid _ from (⟨⟨S1, h1⟩, b1⟩ : GoS w w1 X [])); clear h1 b1)
  clear HN
  go_cut [6] (fun i wc => ∃ l : List SeX, l.length ≤ 200 ∧ Hid (GoS w wc X l))
  case first =>
    go_wp2_with fail
    go_loopw [6] (fun i wr => ∃ (k : Nat) (l : List SeX), k ≤ l0.length ∧ k ≤ 200 ∧ l.length ≤ k ∧ i = .int .i64 (k : Int) ∧ Hid (GoS w wr X l)) (fun i _ => l0.length - (intOf i).toNat)
    case atStart => exact ⟨0, [], Nat.zero_le _, Nat.zero_le _, Nat.le_refl _, rfl, I0⟩
    case round =>
      clear I0
      obtain ⟨k, l, hk, hk200, hlk, rfl, I⟩ := hrel
      by_cases hkl : k < l0.length
      · have t0 : decide ((k : Int) < (l0.length : Int)) = true := decide_eq_true (by omega)
        have t0' : decide (k < l0.length) = true := decide_eq_true hkl
        by_cases hk2 : k < 200
        · have t1 : decide ((k : Int) < 200) = true := decide_eq_true (by omega)
          obtain ⟨bk, off, cap', hvv, _, hbk, hc⟩ := (HR0.out wr I.out.bel).cells sdC_len (by omega)
          injection hvv with e1 e2 e3
          subst e1 e3
          clear e2
          obtain ⟨x, hx⟩ : ∃ x, x = l0[k] := ⟨_, rfl⟩
          have HX : Hid (SdOk x) := by have h : SdOk l0[k] := HOK0.out _ (List.getElem_mem hkl); rw [← hx] at h; exact h
          have HZ : Hid (∀ y, Below wr.heap.size wr y → ∀ (c : Nat) (u : Value), c < 8 → (sdC x)[c]? = some u → y.cell? ⟨bk, off + k * 8 + c, none⟩ = some u) := fun y b c u hc8 hu => by rw [hx] at hu; exact (b.cell (p := ⟨bk, off + k * 8 + c, none⟩) (by exact hbk)).trans (hc k hkl c u hc8 hu)
          clear hc hx hbk
          have HP : Hid (Calls Try.prog 10 #[.agg (sdA x)] wr fun e w' => e = .returned (.bool (sdP x)) ∧ Below wr.heap.size wr w') := plain_any wr x
          have z0 := HZ.out wr (Below.refl _ _) 0 (.int .i64 x.kind) (by decide) rfl
          have z1 := HZ.out wr (Below.refl _ _) 1 (.int .i64 x.n) (by decide) rfl
          have z2 := HZ.out wr (Below.refl _ _) 2 (.int .i64 x.seq) (by decide) rfl
          have z3 := HZ.out wr (Below.refl _ _) 3 (.int .i64 x.r.session) (by decide) rfl
          have z4 := HZ.out wr (Below.refl _ _) 4 (.int .i64 x.r.seq) (by decide) rfl
          have z5 := HZ.out wr (Below.refl _ _) 5 (.int .i64 x.r.err) (by decide) rfl
          have z6 := HZ.out wr (Below.refl _ _) 6 (.int .u64 x.r.token) (by decide) rfl
          have z7 := HZ.out wr (Below.refl _ _) 7 (.int .i64 x.r.n) (by decide) rfl
          rw [Nat.add_zero] at z0
          cases hp : sdP x with
          | false =>
            rw [hp] at HP
            go_wp2_with (go_at_call 10; refine Calls.mono HP.out ?_; rintro e w2 ⟨rfl, b2⟩; have B2 : Hid _ := b2; clear b2)
            exact ⟨⟨k + 1, l, by omega, by omega, by omega, by simp, I.out.fresh B2.out⟩, by simp [intOf]; omega⟩
          | true =>
            rw [hp] at HP
            go_upto_region 8 with (go_at_call 10; refine Calls.mono HP.out ?_; rintro e w2 ⟨rfl, b2⟩; have B2 : Hid _ := b2; clear b2)
            have I2 : Hid (GoS w w2 X l) := I.out.fresh B2.out
            have HD : Hid (Calls Try.prog 11 #[.pointer (some ⟨X, 0, none⟩), .pointer (some ⟨w2.heap.size, 0, none⟩), .agg (sdA x)] (w2.alloc (.cells #[.slice none 0 0, .int .i64 0, .int .i64 0, .int .i64 0, .int .i64 0, .int .i64 0, .int .i64 0, .int .i64 0, .int .i64 0, .int .i64 0, .int .i64 0, .int .i64 0, .int .i64 0, .int .i64 0, .int .i64 0, .int .i64 0, .int .i64 0] 31)) (GoQ fun w' => GoS w w' X (doL l x))) := I2.out.step x HX.out hp (by omega)
            have HL : Hid ((doL l x).length ≤ k + 1) := Nat.le_trans (doL_len l x) (by omega)
            have HB : Hid (Below wr.heap.size wr (w2.alloc (.cells #[.slice none 0 0, .int .i64 0, .int .i64 0, .int .i64 0, .int .i64 0, .int .i64 0, .int .i64 0, .int .i64 0, .int .i64 0, .int .i64 0, .int .i64 0, .int .i64 0, .int .i64 0, .int .i64 0, .int .i64 0, .int .i64 0, .int .i64 0] 31))) := bmm B2.out B2.out.size ((Below.refl _ w2).alloc (Nat.le_refl _) _)
            clear z0 z1 z2 z3 z4 z5 z6 z7
            have z0 := HZ.out (w2.alloc (.cells #[.slice none 0 0, .int .i64 0, .int .i64 0, .int .i64 0, .int .i64 0, .int .i64 0, .int .i64 0, .int .i64 0, .int .i64 0, .int .i64 0, .int .i64 0, .int .i64 0, .int .i64 0, .int .i64 0, .int .i64 0, .int .i64 0, .int .i64 0] 31)) HB.out 0 (.int .i64 x.kind) (by decide) rfl
            have z1 := HZ.out (w2.alloc (.cells #[.slice none 0 0, .int .i64 0, .int .i64 0, .int .i64 0, .int .i64 0, .int .i64 0, .int .i64 0, .int .i64 0, .int .i64 0, .int .i64 0, .int .i64 0, .int .i64 0, .int .i64 0, .int .i64 0, .int .i64 0, .int .i64 0, .int .i64 0] 31)) HB.out 1 (.int .i64 x.n) (by decide) rfl
            have z2 := HZ.out (w2.alloc (.cells #[.slice none 0 0, .int .i64 0, .int .i64 0, .int .i64 0, .int .i64 0, .int .i64 0, .int .i64 0, .int .i64 0, .int .i64 0, .int .i64 0, .int .i64 0, .int .i64 0, .int .i64 0, .int .i64 0, .int .i64 0, .int .i64 0, .int .i64 0] 31)) HB.out 2 (.int .i64 x.seq) (by decide) rfl
            have z3 := HZ.out (w2.alloc (.cells #[.slice none 0 0, .int .i64 0, .int .i64 0, .int .i64 0, .int .i64 0, .int .i64 0, .int .i64 0, .int .i64 0, .int .i64 0, .int .i64 0, .int .i64 0, .int .i64 0, .int .i64 0, .int .i64 0, .int .i64 0, .int .i64 0, .int .i64 0] 31)) HB.out 3 (.int .i64 x.r.session) (by decide) rfl
            have z4 := HZ.out (w2.alloc (.cells #[.slice none 0 0, .int .i64 0, .int .i64 0, .int .i64 0, .int .i64 0, .int .i64 0, .int .i64 0, .int .i64 0, .int .i64 0, .int .i64 0, .int .i64 0, .int .i64 0, .int .i64 0, .int .i64 0, .int .i64 0, .int .i64 0, .int .i64 0] 31)) HB.out 4 (.int .i64 x.r.seq) (by decide) rfl
            have z5 := HZ.out (w2.alloc (.cells #[.slice none 0 0, .int .i64 0, .int .i64 0, .int .i64 0, .int .i64 0, .int .i64 0, .int .i64 0, .int .i64 0, .int .i64 0, .int .i64 0, .int .i64 0, .int .i64 0, .int .i64 0, .int .i64 0, .int .i64 0, .int .i64 0, .int .i64 0] 31)) HB.out 5 (.int .i64 x.r.err) (by decide) rfl
            have z6 := HZ.out (w2.alloc (.cells #[.slice none 0 0, .int .i64 0, .int .i64 0, .int .i64 0, .int .i64 0, .int .i64 0, .int .i64 0, .int .i64 0, .int .i64 0, .int .i64 0, .int .i64 0, .int .i64 0, .int .i64 0, .int .i64 0, .int .i64 0, .int .i64 0, .int .i64 0] 31)) HB.out 6 (.int .u64 x.r.token) (by decide) rfl
            have z7 := HZ.out (w2.alloc (.cells #[.slice none 0 0, .int .i64 0, .int .i64 0, .int .i64 0, .int .i64 0, .int .i64 0, .int .i64 0, .int .i64 0, .int .i64 0, .int .i64 0, .int .i64 0, .int .i64 0, .int .i64 0, .int .i64 0, .int .i64 0, .int .i64 0, .int .i64 0] 31)) HB.out 7 (.int .i64 x.r.n) (by decide) rfl
            rw [Nat.add_zero] at z0
            clear HP I hp hlk
            go_wp2_with (go_at_call 11; refine Calls.mono HD.out ?_; rintro e w3 ⟨⟨b, rfl, i3⟩⟩; have I3 : Hid (GoS w w3 X (doL l x)) := i3; clear i3)
            exact ⟨⟨k + 1, doL l x, by omega, by omega, HL.out, by simp, I3⟩, by simp [intOf]; omega⟩
        · have t1 : decide ((k : Int) < 200) = false := decide_eq_false (by omega)
          go_wp2_with fail
          go_meet
          exact ⟨l, by omega, I⟩
      · have t0 : decide ((k : Int) < (l0.length : Int)) = false := decide_eq_false (by omega)
        have t0' : decide (k < l0.length) = false := decide_eq_false hkl
        go_wp2_with fail
        go_meet
        exact ⟨l, by omega, I⟩
  case rest =>
    clear I0
    obtain ⟨l, hl, I⟩ := hcut
    obtain ⟨T, hT⟩ : ∃ T : ByteArray, T = ⟨(seEnc l).toArray⟩ := ⟨_, rfl⟩
    have HE : Hid (Calls Try.prog 15 #[.pointer (some ⟨X, 0, none⟩)] wc fun e w' => e = .returned (.string T) ∧ GoS w w' X l) := by rw [hT]; exact I.out.enc (by omega)
    have HD : Hid (∀ y, GoS w y X l → Calls Try.prog 20 #[.string T] y (GoD w X l)) := fun y i => by rw [hT]; exact i.dec (by omega)
    clear hT
    go_wp2_with (first
      | (go_at_call 20; refine Calls.mono (HD.out _ I4.out) ?_; rintro e w5 ⟨⟨Y, rfl, i5⟩⟩; have I5 : Hid (GoH w w5 X Y l l) := i5; clear i5)
      | (go_at_call 15; refine Calls.mono HE.out ?_; rintro e w4 ⟨rfl, i4⟩; have I4 : Hid (GoS w w4 X l) := i4; clear i4))
    clear HE HD I4 I
    go_loopw [9] (fun i wr => ∃ (k : Nat) (m : List SeX), k ≤ l1.length ∧ k ≤ 200 ∧ m.length ≤ 200 + k ∧ i = .int .i64 (k : Int) ∧ Hid (GoH w wr X Y m m)) (fun i _ => l1.length - (intOf i).toNat)
    case atStart => exact ⟨0, l, Nat.zero_le _, Nat.zero_le _, by omega, rfl, I5⟩
    case round =>
      clear I5 hl
      clear l
      obtain ⟨k, l, hk, hk200, hlk, rfl, I⟩ := hrel
      by_cases hkl : k < l1.length
      · have t0 : decide ((k : Int) < (l1.length : Int)) = true := decide_eq_true (by omega)
        have t0' : decide (k < l1.length) = true := decide_eq_true hkl
        by_cases hk2 : k < 200
        · have t1 : decide ((k : Int) < 200) = true := decide_eq_true (by omega)
          obtain ⟨bk, off, cap', hvv, _, hbk, hc⟩ := (HR1.out wr I.out.bel).cells sdC_len (by omega)
          injection hvv with e1 e2 e3
          subst e1 e3
          clear e2
          obtain ⟨x, hx⟩ : ∃ x, x = l1[k] := ⟨_, rfl⟩
          have HX : Hid (SdOk x) := by have h : SdOk l1[k] := HOK1.out _ (List.getElem_mem hkl); rw [← hx] at h; exact h
          have HZ : Hid (∀ y, Below wr.heap.size wr y → ∀ (c : Nat) (u : Value), c < 8 → (sdC x)[c]? = some u → y.cell? ⟨bk, off + k * 8 + c, none⟩ = some u) := fun y b c u hc8 hu => by rw [hx] at hu; exact (b.cell (p := ⟨bk, off + k * 8 + c, none⟩) (by exact hbk)).trans (hc k hkl c u hc8 hu)
          have HY : Hid (∀ y, Below w.heap.size w y → ∀ (c : Nat) (u : Value), c < 8 → (sdC x)[c]? = some u → y.cell? ⟨bk, off + k * 8 + c, none⟩ = some u) := fun y b c u hc8 hu => by
            rw [hx] at hu
            obtain ⟨bk2, off2, cap2, hv2, _, _, hc2⟩ := (HR1.out y b).cells sdC_len (by omega)
            injection hv2 with e1 e2 e3
            simp only [Option.some.injEq, Addr.mk.injEq, and_true] at e1
            obtain ⟨rfl, rfl⟩ := e1
            exact hc2 k hkl c u hc8 hu
          clear hc hx hbk
          have HP : Hid (Calls Try.prog 10 #[.agg (sdA x)] wr fun e w' => e = .returned (.bool (sdP x)) ∧ Below wr.heap.size wr w') := plain_any wr x
          have z0 := HZ.out wr (Below.refl _ _) 0 (.int .i64 x.kind) (by decide) rfl
          have z1 := HZ.out wr (Below.refl _ _) 1 (.int .i64 x.n) (by decide) rfl
          have z2 := HZ.out wr (Below.refl _ _) 2 (.int .i64 x.seq) (by decide) rfl
          have z3 := HZ.out wr (Below.refl _ _) 3 (.int .i64 x.r.session) (by decide) rfl
          have z4 := HZ.out wr (Below.refl _ _) 4 (.int .i64 x.r.seq) (by decide) rfl
          have z5 := HZ.out wr (Below.refl _ _) 5 (.int .i64 x.r.err) (by decide) rfl
          have z6 := HZ.out wr (Below.refl _ _) 6 (.int .u64 x.r.token) (by decide) rfl
          have z7 := HZ.out wr (Below.refl _ _) 7 (.int .i64 x.r.n) (by decide) rfl
          rw [Nat.add_zero] at z0
          cases hp : sdP x with
          | false =>
            rw [hp] at HP
            go_upto_region 18 with (go_at_call 10; refine Calls.mono HP.out ?_; rintro e w2 ⟨rfl, b2⟩; have B2 : Hid _ := b2; clear b2)
            have I2 : Hid (GoH w w2 X Y l l) := I.out.fresh B2.out
            obtain ⟨T, hT⟩ : ∃ T : ByteArray, T = ⟨(seEnc l).toArray⟩ := ⟨_, rfl⟩
            have HE1 : Hid (Calls Try.prog 15 #[.pointer (some ⟨X, 0, none⟩)] w2 fun e w' => e = .returned (.string T) ∧ GoH w w' X Y l l) := by rw [hT]; exact I2.out.encX (by omega)
            have HE2 : Hid (∀ y, GoH w y X Y l l → Calls Try.prog 15 #[.pointer (some ⟨Y, 0, none⟩)] y fun e w' => e = .returned (.string T) ∧ GoH w w' X Y l l) := fun y i => by rw [hT]; exact i.encY (by omega)
            clear hT
            clear HP I hp B2 z0 z1 z2 z3 z4 z5 z6 z7
            go_wp2_with (first
              | (go_at_call 15; have d2 := d1; refine Calls.mono (HE2.out _ I8.out) ?_; rintro e w9 ⟨rfl, i9⟩; have I9 : Hid (GoH w w9 X Y l l) := i9; clear i9)
              | (go_at_call 15; refine Calls.mono HE1.out ?_; rintro e w8 ⟨rfl, i8⟩; have I8 : Hid (GoH w w8 X Y l l) := i8; have d1 : True := trivial; clear i8))
            exact ⟨⟨k + 1, l, by omega, by omega, by omega, by simp, I9⟩, by simp [intOf]; omega⟩
          | true =>
            rw [hp] at HP
            go_upto_region 16 with (go_at_call 10; refine Calls.mono HP.out ?_; rintro e w2 ⟨rfl, b2⟩; have B2 : Hid _ := b2; clear b2)
            have I2 : Hid (GoH w w2 X Y l l) := I.out.fresh B2.out
            obtain ⟨l2, hl2⟩ : ∃ l2, l2 = doL l x := ⟨_, rfl⟩
            have HD : Hid (Calls Try.prog 11 #[.pointer (some ⟨X, 0, none⟩), .pointer (some ⟨w2.heap.size, 0, none⟩), .agg (sdA x)] (w2.alloc (.cells #[.slice none 0 0, .int .i64 0, .int .i64 0, .int .i64 0, .int .i64 0, .int .i64 0, .int .i64 0, .int .i64 0, .int .i64 0, .int .i64 0, .int .i64 0, .int .i64 0, .int .i64 0, .int .i64 0, .int .i64 0, .int .i64 0, .int .i64 0] 31)) (GoQ fun w' => GoH w w' X Y l2 l)) := by rw [hl2]; exact I2.out.stepX x HX.out hp (by omega)
            have HD2 : Hid (∀ y, GoH w y X Y l2 l → Calls Try.prog 11 #[.pointer (some ⟨Y, 0, none⟩), .pointer (some ⟨y.heap.size, 0, none⟩), .agg (sdA x)] (y.alloc (.cells #[.slice none 0 0, .int .i64 0, .int .i64 0, .int .i64 0, .int .i64 0, .int .i64 0, .int .i64 0, .int .i64 0, .int .i64 0, .int .i64 0, .int .i64 0, .int .i64 0, .int .i64 0, .int .i64 0, .int .i64 0, .int .i64 0, .int .i64 0] 31)) (GoQ fun w' => GoH w w' X Y l2 l2)) := fun y i => by have := i.stepY x HX.out hp (by omega); rw [← hl2] at this; exact this
            have HL : Hid (l2.length ≤ 200 + (k + 1)) := by have := doL_len l x; rw [← hl2] at this; exact Nat.le_trans this (by omega)
            have HB : Hid (Below wr.heap.size wr (w2.alloc (.cells #[.slice none 0 0, .int .i64 0, .int .i64 0, .int .i64 0, .int .i64 0, .int .i64 0, .int .i64 0, .int .i64 0, .int .i64 0, .int .i64 0, .int .i64 0, .int .i64 0, .int .i64 0, .int .i64 0, .int .i64 0, .int .i64 0, .int .i64 0] 31))) := bmm B2.out B2.out.size ((Below.refl _ w2).alloc (Nat.le_refl _) _)
            clear z0 z1 z2 z3 z4 z5 z6 z7
            have HW : Hid (∀ y, Below w.heap.size w y → ∀ (c : Nat) (u : Value), c < 8 → (sdC x)[c]? = some u → y.cell? ⟨bk, off + k * 8 + c, none⟩ = some u) := HY
            have z0 := HZ.out (w2.alloc (.cells #[.slice none 0 0, .int .i64 0, .int .i64 0, .int .i64 0, .int .i64 0, .int .i64 0, .int .i64 0, .int .i64 0, .int .i64 0, .int .i64 0, .int .i64 0, .int .i64 0, .int .i64 0, .int .i64 0, .int .i64 0, .int .i64 0, .int .i64 0] 31)) HB.out 0 (.int .i64 x.kind) (by decide) rfl
            have z1 := HZ.out (w2.alloc (.cells #[.slice none 0 0, .int .i64 0, .int .i64 0, .int .i64 0, .int .i64 0, .int .i64 0, .int .i64 0, .int .i64 0, .int .i64 0, .int .i64 0, .int .i64 0, .int .i64 0, .int .i64 0, .int .i64 0, .int .i64 0, .int .i64 0, .int .i64 0] 31)) HB.out 1 (.int .i64 x.n) (by decide) rfl
            have z2 := HZ.out (w2.alloc (.cells #[.slice none 0 0, .int .i64 0, .int .i64 0, .int .i64 0, .int .i64 0, .int .i64 0, .int .i64 0, .int .i64 0, .int .i64 0, .int .i64 0, .int .i64 0, .int .i64 0, .int .i64 0, .int .i64 0, .int .i64 0, .int .i64 0, .int .i64 0] 31)) HB.out 2 (.int .i64 x.seq) (by decide) rfl
            have z3 := HZ.out (w2.alloc (.cells #[.slice none 0 0, .int .i64 0, .int .i64 0, .int .i64 0, .int .i64 0, .int .i64 0, .int .i64 0, .int .i64 0, .int .i64 0, .int .i64 0, .int .i64 0, .int .i64 0, .int .i64 0, .int .i64 0, .int .i64 0, .int .i64 0, .int .i64 0] 31)) HB.out 3 (.int .i64 x.r.session) (by decide) rfl
            have z4 := HZ.out (w2.alloc (.cells #[.slice none 0 0, .int .i64 0, .int .i64 0, .int .i64 0, .int .i64 0, .int .i64 0, .int .i64 0, .int .i64 0, .int .i64 0, .int .i64 0, .int .i64 0, .int .i64 0, .int .i64 0, .int .i64 0, .int .i64 0, .int .i64 0, .int .i64 0] 31)) HB.out 4 (.int .i64 x.r.seq) (by decide) rfl
            have z5 := HZ.out (w2.alloc (.cells #[.slice none 0 0, .int .i64 0, .int .i64 0, .int .i64 0, .int .i64 0, .int .i64 0, .int .i64 0, .int .i64 0, .int .i64 0, .int .i64 0, .int .i64 0, .int .i64 0, .int .i64 0, .int .i64 0, .int .i64 0, .int .i64 0, .int .i64 0] 31)) HB.out 5 (.int .i64 x.r.err) (by decide) rfl
            have z6 := HZ.out (w2.alloc (.cells #[.slice none 0 0, .int .i64 0, .int .i64 0, .int .i64 0, .int .i64 0, .int .i64 0, .int .i64 0, .int .i64 0, .int .i64 0, .int .i64 0, .int .i64 0, .int .i64 0, .int .i64 0, .int .i64 0, .int .i64 0, .int .i64 0, .int .i64 0] 31)) HB.out 6 (.int .u64 x.r.token) (by decide) rfl
            have z7 := HZ.out (w2.alloc (.cells #[.slice none 0 0, .int .i64 0, .int .i64 0, .int .i64 0, .int .i64 0, .int .i64 0, .int .i64 0, .int .i64 0, .int .i64 0, .int .i64 0, .int .i64 0, .int .i64 0, .int .i64 0, .int .i64 0, .int .i64 0, .int .i64 0, .int .i64 0] 31)) HB.out 7 (.int .i64 x.r.n) (by decide) rfl
            rw [Nat.add_zero] at z0
            clear HP I hp hlk hl2
            go_upto_region 17 with (go_at_call 11; refine Calls.mono HD.out ?_; rintro e w3 ⟨⟨b, rfl, i3⟩⟩; have I3 : Hid (GoH w w3 X Y l2 l) := i3; clear i3)
            clear z0 z1 z2 z3 z4 z5 z6 z7 HD
            have HB3 : Hid (Below w.heap.size w (w3.alloc (.cells #[.slice none 0 0, .int .i64 0, .int .i64 0, .int .i64 0, .int .i64 0, .int .i64 0, .int .i64 0, .int .i64 0, .int .i64 0, .int .i64 0, .int .i64 0, .int .i64 0, .int .i64 0, .int .i64 0, .int .i64 0, .int .i64 0, .int .i64 0] 31))) := bmm I3.out.bel I3.out.bel.size ((Below.refl _ w3).alloc (Nat.le_refl _) _)
            have HD3 := HD2.out _ I3.out
            have HD4 : Hid _ := HD3
            clear HD2 HD3
            have z0 := HW.out (w3.alloc (.cells #[.slice none 0 0, .int .i64 0, .int .i64 0, .int .i64 0, .int .i64 0, .int .i64 0, .int .i64 0, .int .i64 0, .int .i64 0, .int .i64 0, .int .i64 0, .int .i64 0, .int .i64 0, .int .i64 0, .int .i64 0, .int .i64 0, .int .i64 0] 31)) HB3.out 0 (.int .i64 x.kind) (by decide) rfl
            have z1 := HW.out (w3.alloc (.cells #[.slice none 0 0, .int .i64 0, .int .i64 0, .int .i64 0, .int .i64 0, .int .i64 0, .int .i64 0, .int .i64 0, .int .i64 0, .int .i64 0, .int .i64 0, .int .i64 0, .int .i64 0, .int .i64 0, .int .i64 0, .int .i64 0, .int .i64 0] 31)) HB3.out 1 (.int .i64 x.n) (by decide) rfl
            have z2 := HW.out (w3.alloc (.cells #[.slice none 0 0, .int .i64 0, .int .i64 0, .int .i64 0, .int .i64 0, .int .i64 0, .int .i64 0, .int .i64 0, .int .i64 0, .int .i64 0, .int .i64 0, .int .i64 0, .int .i64 0, .int .i64 0, .int .i64 0, .int .i64 0, .int .i64 0] 31)) HB3.out 2 (.int .i64 x.seq) (by decide) rfl
            have z3 := HW.out (w3.alloc (.cells #[.slice none 0 0, .int .i64 0, .int .i64 0, .int .i64 0, .int .i64 0, .int .i64 0, .int .i64 0, .int .i64 0, .int .i64 0, .int .i64 0, .int .i64 0, .int .i64 0, .int .i64 0, .int .i64 0, .int .i64 0, .int .i64 0, .int .i64 0] 31)) HB3.out 3 (.int .i64 x.r.session) (by decide) rfl
            have z4 := HW.out (w3.alloc (.cells #[.slice none 0 0, .int .i64 0, .int .i64 0, .int .i64 0, .int .i64 0, .int .i64 0, .int .i64 0, .int .i64 0, .int .i64 0, .int .i64 0, .int .i64 0, .int .i64 0, .int .i64 0, .int .i64 0, .int .i64 0, .int .i64 0, .int .i64 0] 31)) HB3.out 4 (.int .i64 x.r.seq) (by decide) rfl
            have z5 := HW.out (w3.alloc (.cells #[.slice none 0 0, .int .i64 0, .int .i64 0, .int .i64 0, .int .i64 0, .int .i64 0, .int .i64 0, .int .i64 0, .int .i64 0, .int .i64 0, .int .i64 0, .int .i64 0, .int .i64 0, .int .i64 0, .int .i64 0, .int .i64 0, .int .i64 0] 31)) HB3.out 5 (.int .i64 x.r.err) (by decide) rfl
            have z6 := HW.out (w3.alloc (.cells #[.slice none 0 0, .int .i64 0, .int .i64 0, .int .i64 0, .int .i64 0, .int .i64 0, .int .i64 0, .int .i64 0, .int .i64 0, .int .i64 0, .int .i64 0, .int .i64 0, .int .i64 0, .int .i64 0, .int .i64 0, .int .i64 0, .int .i64 0] 31)) HB3.out 6 (.int .u64 x.r.token) (by decide) rfl
            have z7 := HW.out (w3.alloc (.cells #[.slice none 0 0, .int .i64 0, .int .i64 0, .int .i64 0, .int .i64 0, .int .i64 0, .int .i64 0, .int .i64 0, .int .i64 0, .int .i64 0, .int .i64 0, .int .i64 0, .int .i64 0, .int .i64 0, .int .i64 0, .int .i64 0, .int .i64 0] 31)) HB3.out 7 (.int .i64 x.r.n) (by decide) rfl
            rw [Nat.add_zero] at z0
            go_upto_region 18 with (go_at_call 11; refine Calls.mono HD4.out ?_; rintro e w4 ⟨⟨b2, rfl, i4⟩⟩; have I4 : Hid (GoH w w4 X Y l2 l2) := i4; clear i4)
            clear z0 z1 z2 z3 z4 z5 z6 z7 HD4 HB3 I3
            have hl3 := HL.out
            obtain ⟨T, hT⟩ : ∃ T : ByteArray, T = ⟨(seEnc l2).toArray⟩ := ⟨_, rfl⟩
            have HE1 : Hid (Calls Try.prog 15 #[.pointer (some ⟨X, 0, none⟩)] w4 fun e w' => e = .returned (.string T) ∧ GoH w w' X Y l2 l2) := by rw [hT]; exact I4.out.encX (by omega)
            have HE2 : Hid (∀ y, GoH w y X Y l2 l2 → Calls Try.prog 15 #[.pointer (some ⟨Y, 0, none⟩)] y fun e w' => e = .returned (.string T) ∧ GoH w w' X Y l2 l2) := fun y i => by rw [hT]; exact i.encY (by omega)
            clear hT
            clear hl3
            go_wp2_with (first
              | (go_at_call 15; have d2 := d1; refine Calls.mono (HE2.out _ I8.out) ?_; rintro e w9 ⟨rfl, i9⟩; have I9 : Hid (GoH w w9 X Y l2 l2) := i9; clear i9)
              | (go_at_call 15; refine Calls.mono HE1.out ?_; rintro e w8 ⟨rfl, i8⟩; have I8 : Hid (GoH w w8 X Y l2 l2) := i8; have d1 : True := trivial; clear i8))
            exact ⟨⟨k + 1, l2, by omega, by omega, HL.out, by simp, I9⟩, by simp [intOf]; omega⟩
        · have t1 : decide ((k : Int) < 200) = false := decide_eq_false (by omega)
          go_wp2_with (go_at_call 19; refine (awake_any _).mono ?_; rintro r w9 ⟨rfl, b9⟩; have B9 : Hid _ := b9; clear b9)
          go_ret
          exact ⟨rfl, bmm I.out.bel I.out.bel.size B9.out⟩
      · have t0 : decide ((k : Int) < (l1.length : Int)) = false := decide_eq_false (by omega)
        have t0' : decide (k < l1.length) = false := decide_eq_false hkl
        go_wp2_with (go_at_call 19; refine (awake_any _).mono ?_; rintro r w9 ⟨rfl, b9⟩; have B9 : Hid _ := b9; clear b9)
        go_ret
        exact ⟨rfl, bmm I.out.bel I.out.bel.size B9.out⟩
end Go.Proofs.Ythokbififjhflaa
