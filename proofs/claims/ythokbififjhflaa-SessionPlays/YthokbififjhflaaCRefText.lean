/-
  The contracts of the document's own reader (numbers, texts, the end) and writer (numbers, texts), for every number and every text. No condition but on sizes.
-/
import Derived.Test.YthokbififjhflaaCRef
namespace Go.Proofs.Ythokbififjhflaa
open Go.RowKit

theorem xu64_any (R : Nat) (s : ByteArray) (b : Bool) (hs : s.size ≤ 9223372036854775807) (w : World) (h : Rx w R s b) :
    Calls Try.prog 44 #[.pointer (some ⟨R, 0, none⟩)] w fun e w' => e = .returned (.int .u64 (xU s b).1) ∧ Rx w' R (xU s b).2.1 (xU s b).2.2 ∧ w.grownBy w' (some R) := by
  cases b with
  | true =>
    have e : xU s true = (0, s, true) := by unfold xU; rw [if_pos (Or.inl rfl)]
    rw [e]
    exact xu64_bad R s w h
  | false => exact xu64_good R s hs w h

theorem xU_lt (s : ByteArray) (b : Bool) : (xU s b).1 < 18446744073709551616 := by
  unfold xU
  split
  · simp
  · exact num_lt _ 0 0 (by omega) (by simp)
theorem xU_size (s : ByteArray) (b : Bool) : (xU s b).2.1.size ≤ s.size := by
  unfold xU
  split
  · exact Nat.le_refl _
  · rw [Lib.size_eq, Lib.extract_to_end, Lib.size_eq]
    simp

theorem back_not {N : Nat} (h : N < 18446744073709551616) : wrap64 (bits .xor .u64 IntKind.u64.max ((N : Int) / 2)) = -((N : Int) / 2) - 1 := by
  rw [show IntKind.u64.max = 18446744073709551615 from rfl, u64_not (by omega) (by omega)]
  unfold wrap64
  omega

set_option maxRecDepth 100000 in
theorem xint_any (R : Nat) (s : ByteArray) (b : Bool) (hs : s.size ≤ 9223372036854775807) (w : World) (h : Rx w R s b) :
    Calls Try.prog 43 #[.pointer (some ⟨R, 0, none⟩)] w fun e w' => e = .returned (.int .i64 (zag (xU s b).1)) ∧ Rx w' R (xU s b).2.1 (xU s b).2.2 ∧ w.grownBy w' (some R) := by
  have hu := xu64_any R s b hs w h
  have hlt := xU_lt s b
  obtain ⟨N, hN⟩ : ∃ N, N = (xU s b).1 := ⟨_, rfl⟩
  rw [← hN] at hu hlt ⊢
  clear hN
  have hm := mask1 hlt
  have hnot : Hid (wrap64 (bits .xor .u64 IntKind.u64.max ((N : Int) / 2)) = -((N : Int) / 2) - 1) := back_not hlt
  by_cases hp : N % 2 = 1
  · have h1 : (N : Int) % 2 = 1 := by omega
    have HZ : Hid (zag N = -((N : Int) / 2) - 1) := zag_odd hp
    go_enter Try.func43, Try.ntmps43
    go_wp2_with (go_at_call 44; refine hu.mono ?_; rintro e w' ⟨rfl, hr⟩)
    go_ret
    rw [HZ.out, ← hnot.out]
    exact ⟨rfl, hr⟩
  · have h1 : (N : Int) % 2 = 0 := by omega
    have HZ : Hid (zag N = (N : Int) / 2) := zag_even hp
    go_enter Try.func43, Try.ntmps43
    go_wp2_with (go_at_call 44; refine hu.mono ?_; rintro e w' ⟨rfl, hr⟩)
    go_ret
    rw [HZ.out]
    exact ⟨rfl, hr⟩

set_option maxRecDepth 100000 in
theorem xdone_any (R : Nat) (s : ByteArray) (b : Bool) (w : World) (h : Rx w R s b) :
    Calls Try.prog 46 #[.pointer (some ⟨R, 0, none⟩)] w fun e w' => e = .returned (.int .i64 (rD s b)) ∧ w = w' := by
  have c0 := h.cell0
  have c1 := h.cell1
  cases b with
  | true =>
    go_enter Try.func46, Try.ntmps46
    go_wp2
    go_ret
    exact ⟨rfl, rfl⟩
  | false =>
    by_cases hz : s.size = 0
    · obtain rfl := is_empty hz
      go_enter Try.func46, Try.ntmps46
      go_wp2
      go_ret
      exact ⟨rfl, rfl⟩
    · have hr : rD s false = 2 := by unfold rD; rw [if_pos (Or.inr hz)]
      rw [hr]
      have hne := not_empty hz
      go_enter Try.func46, Try.ntmps46
      go_wp2
      go_ret
      exact ⟨rfl, rfl⟩

/-- What reading a text makes of the document's reader. -/
def xT (s : ByteArray) (b : Bool) : ByteArray × ByteArray × Bool :=
  if (xU s b).2.2 = true ∨ 524288 < (xU s b).1 ∨ (xU s b).2.1.size < (xU s b).1 then (⟨#[]⟩, (xU s b).2.1, true) else ((xU s b).2.1.extract 0 (xU s b).1, (xU s b).2.1.extract (xU s b).1 (xU s b).2.1.size, (xU s b).2.2)

theorem own_text {base : Nat} {w : World} {v : Value} {bs : List UInt8} (hown : w.ownsRow base 5 1 v bs.length (Lib.byteCells bs)) : (convert 100 9 v).run Try.prog w = .ok (.string ⟨bs.toArray⟩) w := by
  rcases hown.2 with ⟨rfl, h0⟩ | ⟨g, cap, cur, rfl, _, hg, _, _, _, htk⟩
  · have : bs = [] := List.eq_nil_of_length_eq_zero h0
    subst this
    exact Lib.run_convert_nil_bytes w 100 9 5 0 Try.underlying100 Try.underlying5 Try.underlying9
  · exact run_convert_bytes_back w 100 9 5 ⟨g, 0, none⟩ cap bs Try.underlying100 Try.underlying5 Try.underlying9 (Lib.bytes_of_row hg (by simpa using htk))

set_option maxHeartbeats 800000 in
set_option maxRecDepth 100000 in
theorem fu64_any (n : Nat) (h2 : n < 18446744073709551616) (w : World) :
    Calls Try.prog 38 #[.int .u64 n] w fun e w' => e = .returned (.string ⟨(enc n).toArray⟩) ∧ Below w.heap.size w w' := by
  obtain ⟨i0, hi, hz0, hz1, hz2⟩ := info_parts Try.info5
  have ht := enc_len_ten h2
  go_enter Try.func38, Try.ntmps38
  go_wp2
  go_loopw [0, 3] (fun x v wr => ∃ (m : Nat) (bs : List UInt8), x = .int .u64 m ∧ m < 18446744073709551616 ∧ wr.ownsRow w.heap.size 5 1 v bs.length (Lib.byteCells bs) ∧ Below w.heap.size w wr ∧ bs ++ enc m = enc n) (fun x _ _ => (intOf x).toNat)
  case atStart => exact ⟨n, [], rfl, h2, World.ownsRow_nil _ _ _ _, Below.refl _ _, rfl⟩
  case round =>
    obtain ⟨m, bs, rfl, hm, hown, hbel, hbs⟩ := hrel
    have hpm := enc_pos m
    have hbl : bs.length + (enc m).length ≤ 10 := by rw [← List.length_append, hbs]; exact ht
    have hb10 : bs.length + 1 ≤ 10 := by omega
    have HB : Hid (bs ++ enc m = enc n) := hbs
    have hmask := mask127 hm
    have hor := or128 (a := (m : Int) % 128) (by omega) (by omega)
    have hsz := hbel.size
    clear hpm hbl hbs ht
    go_wp2_with (first
      | (at_builtin; refine wpList_append_lies _ rfl (.tmp 6) (.tmp 11) 100 rfl w.heap.size 5 i0 (.int .u8 0) 1 1 Try.underlying100 hi hz0 hz1 hz2 rfl (by decide) _ bs.length _ rfl (hown.alloc _) ⟨wr.heap.size, 0, none⟩ 1 1 [.int .u8 ((m : Int) % 128 + 128)] rfl rfl ?c1 ?c2 (by decide) (by unfold maxLen; omega) (by omega) (by simp; omega) (wr.heap.size + 1) (by simp) ?_)
      | (at_builtin; refine wpList_append_lies _ rfl (.tmp 15) (.tmp 18) 100 rfl w.heap.size 5 i0 (.int .u8 0) 1 1 Try.underlying100 hi hz0 hz1 hz2 rfl (by decide) _ bs.length _ rfl (hown.alloc _) ⟨wr.heap.size, 0, none⟩ 1 1 [.int .u8 (m : Int)] rfl rfl ?d1 ?d2 (by decide) (by unfold maxLen; omega) (by omega) (by simp; omega) (wr.heap.size + 1) (by simp) ?_))
    case c1 =>
      intro j u hj
      match j, hj with
      | 0, hj => simp at hj; subst hj; simp [Addr.add]
    case c2 => intro u hu; simp at hu; subst hu; rfl
    case d1 =>
      intro j u hj
      match j, hj with
      | 0, hj => simp at hj; subst hj; simp [Addr.add]
    case d2 => intro u hu; simp at hu; subst hu; rfl
    · intro g cap w1 hown' hgrow _ _
      have hm128 : (128 : Int) ≤ (m : Int) := by assumption
      have eb : ((UInt8.ofNat (m % 128 + 128)).toNat : Int) = (m : Int) % 128 + 128 := by rw [byte_ofNat (by omega)]; omega
      rw [← eb, byteCells_push] at hown'
      have R1 : w1.ownsRow w.heap.size 5 1 (.slice (some ⟨g, 0, none⟩) (bs.length + 1) cap) (bs ++ [UInt8.ofNat (m % 128 + 128)]).length (Lib.byteCells (bs ++ [UInt8.ofNat (m % 128 + 128)])) := by simpa using hown'
      have R2 : Below w.heap.size w w1 := (hbel.alloc hsz _).grown hgrow (by simp; omega) (fun k hk => (hown.lt k hk).1)
      clear hown' hgrow eb
      go_wp2
      go_roundw
      case rel =>
        have hb' := HB.out
        rw [enc_ge (by omega)] at hb'
        exact ⟨m / 128, _, by go_num, by omega, R1, R2, by rw [List.append_assoc]; exact hb'⟩
      case measure => simp [intOf]; omega
    · intro g cap w1 hown' hgrow _ _
      have hm128 : (m : Int) < 128 := by assumption
      have eb : ((UInt8.ofNat m).toNat : Int) = (m : Int) := by rw [byte_ofNat (by omega)]
      rw [← eb, byteCells_push] at hown'
      have R1 : w1.ownsRow w.heap.size 5 1 (.slice (some ⟨g, 0, none⟩) (bs.length + 1) cap) (bs ++ [UInt8.ofNat m]).length (Lib.byteCells (bs ++ [UInt8.ofNat m])) := by simpa using hown'
      have R2 : Below w.heap.size w w1 := (hbel.alloc hsz _).grown hgrow (by simp; omega) (fun k hk => (hown.lt k hk).1)
      have hb' := HB.out
      rw [enc_lt (by omega)] at hb'
      rw [hb'] at R1
      have ht := own_text R1
      clear hown' hgrow eb R1 hb'
      go_wp2
      go_ret
      exact ⟨rfl, R2⟩

theorem fold_ref (n : Int) (h1 : -9223372036854775808 ≤ n) (h2 : n < 0) : bits .xor .u64 IntKind.u64.max (IntKind.u64.wrap (IntKind.u64.wrap n * 2)) = ((zig n : Nat) : Int) := by
  have e : IntKind.u64.wrap (IntKind.u64.wrap n * 2) = 2 * n + 18446744073709551616 := by
    rw [IntKind.wrap_u64, IntKind.wrap_u64]
    omega
  rw [e, show IntKind.u64.max = 18446744073709551615 from rfl, u64_not (by omega) (by omega), zig_neg h2]
  omega

set_option maxRecDepth 100000 in
theorem fint_any (n : Int) (h1 : -9223372036854775808 ≤ n) (h2 : n ≤ 9223372036854775807) (w : World) :
    Calls Try.prog 36 #[.int .i64 n] w fun e w' => e = .returned (.string ⟨(enc (zig n)).toArray⟩) ∧ Below w.heap.size w w' := by
  have hu : ∀ x : Int, x = (zig n : Nat) → ∀ w, Calls Try.prog 38 #[.int .u64 x] w fun e w' => e = .returned (.string ⟨(enc (zig n)).toArray⟩) ∧ Below w.heap.size w w' := fun x hx w => by
    rw [hx]
    exact fu64_any (zig n) (zig_bound h1 h2) w
  by_cases h : n < 0
  · have hf : Hid (bits .xor .u64 (if IntKind.u64.signed = true then -1 else IntKind.u64.max) (IntKind.u64.wrap (IntKind.u64.wrap n * 2)) = ((zig n : Nat) : Int)) := fold_ref n h1 h
    go_enter Try.func36, Try.ntmps36
    go_wp2_with (go_at_call 38; refine (hu _ hf.out _).mono ?_; rintro e w' ⟨rfl, hb⟩)
    go_ret
    exact ⟨rfl, hb⟩
  · have hf : Hid (((zig n : Nat) : Int) = 2 * n) := zig_pos (n := n) (by omega)
    go_enter Try.func36, Try.ntmps36
    go_wp2_with (go_at_call 38; refine (hu _ (by rw [hf.out]; omega) _).mono ?_; rintro e w' ⟨rfl, hb⟩)
    go_ret
    exact ⟨rfl, hb⟩

/-- A text as bytes: its length, and it. -/
def lenText (s : ByteArray) : List UInt8 := enc s.size ++ s.data.toList

theorem append_lists (xs ys : List UInt8) : (⟨xs.toArray⟩ : ByteArray) ++ (⟨ys.toArray⟩ : ByteArray) = ⟨(xs ++ ys).toArray⟩ := by
  apply ByteArray.ext
  rw [ByteArray.data_append]
  simp
theorem size_list (xs : List UInt8) : (⟨xs.toArray⟩ : ByteArray).size = xs.length := by rw [Lib.size_eq]

end Go.Proofs.Ythokbififjhflaa
