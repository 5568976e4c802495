/-
  The contracts of the writer (package codec: New, Int, U64, Text, String): what a writer holds behind each call, for every number and every text, and what has not turned. The condition: what was written and what is to be written take no more bytes than a slice may.
-/
import Derived.Test.YthokbififjhflaaRows
import Derived.Test.YthokbififjhflaaPlain
import Derived.WalkKit
import Derived.WalkSpells
import Derived.Deep.AppendLies
import Derived.Lib.AppendStr
import Derived.Lib.BufferRead
import Derived.Handy
namespace Go.Proofs.Ythokbififjhflaa
open Go.RowKit

theorem Try.info5 : (Try.prog.info? 5).map (fun i => (i.zero, i.size, i.bytes)) = some (some (.int .u8 0), 1, 1) := by kernel_rfl

set_option maxRecDepth 100000 in
theorem fold_any (n : Int) (h1 : -9223372036854775808 ≤ n) (h2 : n ≤ 9223372036854775807) (w : World) :
    Calls Try.prog 55 #[.int .i64 n] w fun e w' => e = .returned (.int .u64 (zig n)) ∧ w = w' := by
  by_cases h : n < 0
  · go_enter Try.func55, Try.ntmps55
    go_wp2
    go_ret
    exact ⟨by rw [zig_neg h]; rfl, rfl⟩
  · go_enter Try.func55, Try.ntmps55
    go_wp2
    go_ret
    exact ⟨by rw [zig_pos h]; rfl, rfl⟩

set_option maxRecDepth 100000 in
theorem new_any (w : World) :
    Calls Try.prog 31 #[] w fun e w' => e = .returned (.pointer (some ⟨w.heap.size, 0, none⟩)) ∧ w.alloc (.cells #[.slice none 0 0] 102) = w' := by
  go_enter Try.func31, Try.ntmps31
  go_wp2
  go_ret
  exact ⟨rfl, rfl⟩

set_option maxRecDepth 100000 in
theorem unfold_any (n : Nat) (h2 : n < 18446744073709551616) (w : World) :
    Calls Try.prog 57 #[.int .u64 n] w fun e w' => e = .returned (.int .i64 (zag n)) ∧ w = w' := by
  by_cases h : n % 2 = 1
  · have hm : (n : Int) % 2 = 1 := by omega
    go_enter Try.func57, Try.ntmps57
    go_wp2
    go_ret
    exact ⟨by rw [zag_odd h]; rfl, rfl⟩
  · have hm : (n : Int) % 2 = 0 := by omega
    go_enter Try.func57, Try.ntmps57
    go_wp2
    go_ret
    exact ⟨by rw [zag_even h]; rfl, rfl⟩

set_option maxRecDepth 100000 in
theorem digits_any (n : Nat) (h2 : n < 18446744073709551616) (w : World) :
    Calls Try.prog 71 #[.int .u64 n] w fun e w' => e = .returned (.int .i64 ((enc n).length : Nat)) ∧ w = w' := by
  go_enter Try.func71, Try.ntmps71
  go_wp2
  go_loop [0, 3, 4] (fun x _ i => ∃ (k m : Nat), k ≤ 9 ∧ i = .int .i64 k ∧ x = .int .u64 m ∧ m = n / 128 ^ k ∧ (enc m).length + k = (enc n).length) (fun _ _ i => 9 - (intOf i).toNat)
  case atStart => exact ⟨0, n, by omega, rfl, rfl, by simp, rfl⟩
  case round =>
    obtain ⟨k, m, hk, rfl, rfl, hm, hl⟩ := hrel
    have hmb : m < 18446744073709551616 := by rw [hm]; exact Nat.lt_of_le_of_lt (Nat.div_le_self _ _) h2
    have HM : Hid (m = n / 128 ^ k) := hm
    have HL : Hid ((enc m).length + k = (enc n).length) := hl
    clear hm hl
    go_wp2
    · have hlt : (m : Int) < 128 := by assumption
      have hL := HL.out
      rw [enc_len_lt (by omega)] at hL
      go_ret
      exact ⟨by rw [← hL, Nat.add_comm]; rfl, rfl⟩
    · have hge : (128 : Int) ≤ (m : Int) := by assumption
      have hk9 : (k : Int) < 9 := by assumption
      go_round
      case rel => exact ⟨k + 1, m / 128, by omega, by go_num, by go_num, by rw [HM.out, Nat.div_div_eq_div_mul, Nat.pow_succ], by have := HL.out; rw [enc_len_ge (by omega)] at this; omega⟩
      case measure => simp [intOf]; omega
    · have hk9 : (9 : Int) ≤ (k : Int) := by assumption
      have hk : k = 9 := by omega
      have hL := HL.out
      have hM := HM.out
      subst hk
      have hm2 : m < 2 := by rw [hM]; exact Nat.div_lt_of_lt_mul (by simpa using h2)
      rw [enc_len_lt (by omega)] at hL
      go_ret
      exact ⟨by rw [← hL]; rfl, rfl⟩

/-- A writer at block B, its field v, and the bytes that were written. -/
def Wr (base : Nat) (w : World) (B : Nat) (v : Value) (bs : List UInt8) : Prop :=
  base ≤ B ∧ w.heap[B]? = some (.cells #[v] 102 (0, 0)) ∧ w.ownsRow base 5 1 v bs.length (Lib.byteCells bs)

/-- Nothing has turned but block B, v's own row, and what is new. -/
structure Keep2 (B : Nat) (v : Value) (w w' : World) : Prop where
  os : w'.os = w.os
  tape : w'.tape = w.tape
  output : w'.output = w.output
  size : w.heap.size ≤ w'.heap.size
  block : ∀ k, k < w.heap.size → k ≠ B → v.ownBlock ≠ some k → w'.heap[k]? = w.heap[k]?

/-- Where the row lies: where it lay, or in a new block. -/
def After (w : World) (v v' : Value) : Prop := v'.ownBlock = v.ownBlock ∨ ∃ g, v'.ownBlock = some g ∧ w.heap.size ≤ g

theorem Keep2.refl (B : Nat) (v : Value) (w : World) : Keep2 B v w w := ⟨rfl, rfl, rfl, Nat.le_refl _, fun _ _ _ _ => rfl⟩
theorem Keep2.trans {B : Nat} {v v1 : Value} {w w1 w2 : World} (h : Keep2 B v w w1) (ha : After w v v1) (k : Keep2 B v1 w1 w2) : Keep2 B v w w2 :=
  ⟨k.os.trans h.os, k.tape.trans h.tape, k.output.trans h.output, Nat.le_trans h.size k.size, fun i hi hB hv => by
    have hs := h.size
    refine (k.block i (by omega) hB ?_).trans (h.block i hi hB hv)
    rcases ha with ha | ⟨g, ha, hg⟩
    · rw [ha]; exact hv
    · rw [ha]; intro e; have := Option.some.inj e; omega⟩
theorem After.refl (w : World) (v : Value) : After w v v := Or.inl rfl
theorem After.trans {w w1 : World} {v v1 v2 : Value} (h : After w v v1) (hs : w.heap.size ≤ w1.heap.size) (k : After w1 v1 v2) : After w v v2 := by
  rcases k with k | ⟨g, k, hg⟩
  · rcases h with h | ⟨g, h, hg⟩
    · exact Or.inl (k.trans h)
    · exact Or.inr ⟨g, k.trans h, hg⟩
  · exact Or.inr ⟨g, k, by omega⟩
theorem Keep2.below {base B : Nat} {v : Value} {w w' : World} (h : Keep2 B v w w') (hs : base ≤ w.heap.size) (hB : base ≤ B) (hv : ∀ k, v.ownBlock = some k → base ≤ k) : Below base w w' :=
  ⟨h.os, h.tape, h.output, h.size, fun k hk => h.block k (by omega) (by omega) (fun e => by have := hv k e; omega)⟩

theorem Wr.ne {base B : Nat} {w : World} {v : Value} {bs : List UInt8} (h : Wr base w B v bs) : v.ownBlock ≠ some B := by
  obtain ⟨_, hb, hown⟩ := h
  rcases hown.2 with ⟨rfl, _⟩ | ⟨g, cap, cur, rfl, _, hg, _⟩
  · simp [Value.ownBlock]
  · intro e
    simp [Value.ownBlock] at e
    subst e
    rw [hb] at hg
    simp at hg
theorem Wr.lt {base B : Nat} {w : World} {v : Value} {bs : List UInt8} (h : Wr base w B v bs) : B < w.heap.size := lt_of_block h.2.1
theorem Wr.cell {base B : Nat} {w : World} {v : Value} {bs : List UInt8} (h : Wr base w B v bs) : w.cell? ⟨B, 0, none⟩ = some v := cell_of_one h.2.1

theorem byteCells_push (bs : List UInt8) (b : UInt8) : Lib.byteCells bs ++ [.int .u8 b.toNat] = Lib.byteCells (bs ++ [b]) := by simp [Lib.byteCells]

theorem Wr.field {base B : Nat} {w w1 : World} {v : Value} {bs : List UInt8} (h : Wr base w B v bs) {o : Obj} (hgrow : (w.alloc o).grownBy w1 v.ownBlock) : w1.heap[B]? = some (.cells #[v] 102 (0, 0)) := by
  have hl := h.lt
  rw [hgrow.block B (by simp; omega) (fun e => h.ne e.symm), Below.heap_alloc w o B hl]
  exact h.2.1

theorem Wr.push {base B : Nat} {w w1 : World} {v : Value} {bs : List UInt8} (h : Wr base w B v bs) {o : Obj} {g cap : Nat} (hgrow : (w.alloc o).grownBy w1 v.ownBlock) (b : UInt8)
    (hown : w1.ownsRow base 5 1 (.slice (some ⟨g, 0, none⟩) (bs.length + 1) cap) (bs.length + 1) (Lib.byteCells bs ++ [.int .u8 b.toNat])) (hat : v.ownBlock = some g ∨ g = w.heap.size + 1) :
    Wr base (w1.setCell ⟨B, 0, none⟩ (.slice (some ⟨g, 0, none⟩) (bs.length + 1) cap)) B (.slice (some ⟨g, 0, none⟩) (bs.length + 1) cap) (bs ++ [b]) ∧
      Keep2 B v w (w1.setCell ⟨B, 0, none⟩ (.slice (some ⟨g, 0, none⟩) (bs.length + 1) cap)) ∧ After w v (.slice (some ⟨g, 0, none⟩) (bs.length + 1) cap) := by
  have hl := h.lt
  have hf := h.field hgrow
  have hne := h.ne
  have hgB : g ≠ B := fun e => by
    rcases hat with h' | h'
    · exact hne (by rw [h', e])
    · omega
  refine ⟨⟨h.1, one_setCell hf, ?_⟩, ⟨hgrow.os, hgrow.tape, hgrow.output, ?_, fun k hk hkB hkv => ?_⟩, ?_⟩
  · have := ownsRow_setCell_other hown (a := ⟨B, 0, none⟩) (by simpa [Value.ownBlock] using hgB) (.slice (some ⟨g, 0, none⟩) (bs.length + 1) cap)
    rw [byteCells_push] at this
    simpa using this
  · have := hgrow.size
    simp [World.setCell] at this ⊢
    omega
  · rw [Below.heap_setCell _ _ _ _ hkB, hgrow.block k (by simp; omega) (fun e => hkv e.symm), Below.heap_alloc w o k hk]
  · rcases hat with h' | h'
    · exact Or.inl (by rw [h']; rfl)
    · exact Or.inr ⟨g, rfl, by omega⟩

set_option maxHeartbeats 800000 in
set_option maxRecDepth 100000 in
theorem wu64_any (base B : Nat) (v : Value) (bs : List UInt8) (n : Nat) (h2 : n < 18446744073709551616) (w : World) (h : Wr base w B v bs) (hb : bs.length + 10 ≤ 140737488355328) :
    Calls Try.prog 54 #[.pointer (some ⟨B, 0, none⟩), .int .u64 n] w fun e w' => e = .returned (.tuple #[]) ∧ ∃ v', Wr base w' B v' (bs ++ enc n) ∧ Keep2 B v w w' ∧ After w v v' := by
  obtain ⟨i0, hi, hz0, hz1, hz2⟩ := info_parts Try.info5
  have hp := enc_pos n
  have ht := enc_len_ten h2
  obtain ⟨D, hD⟩ : ∃ D, D = (enc n).length := ⟨_, rfl⟩
  have hdig : ∀ w, Calls Try.prog 71 #[.int .u64 n] w fun e w' => e = .returned (.int .i64 (D : Nat)) ∧ w = w' := by rw [hD]; exact digits_any n h2
  have HD : Hid (D = (enc n).length) := hD
  have hD1 : 1 ≤ D := by omega
  have hD10 : D ≤ 10 := by omega
  clear hD hp ht
  go_enter Try.func54, Try.ntmps54
  go_wp2_with (go_at_call 71; refine (hdig _).mono ?_; rintro e w' ⟨rfl, rfl⟩)
  go_loopw [1, 9] (fun x i wr => ∃ (k m : Nat) (v1 : Value) (bs1 : List UInt8), k + (enc m).length = D ∧ i = .int .i64 k ∧ x = .int .u64 m ∧ m < 18446744073709551616 ∧ Wr base wr B v1 bs1 ∧ Keep2 B v w wr ∧ After w v v1 ∧ bs1 ++ enc m = bs ++ enc n) (fun _ i _ => D - (intOf i).toNat)
  case atStart => exact ⟨0, n, v, bs, by rw [HD.out, Nat.zero_add], rfl, rfl, h2, h, Keep2.refl _ _ _, After.refl _ _, rfl⟩
  case round =>
    obtain ⟨k, m, v1, bs1, hkD, rfl, rfl, hm, hw1, hk2, haf, hbs⟩ := hrel
    have hpm := enc_pos m
    have hbl : bs1.length + (enc m).length = bs.length + D := by rw [HD.out, ← List.length_append, hbs, List.length_append]
    have hbb : bs1.length + 1 ≤ 140737488355328 := by omega
    have hcell := hw1.cell
    have hfr := free_of_one hw1.2.1
    have hor := or128 (a := (m : Int) % 128) (by omega) (by omega)
    have hlt := hw1.lt
    by_cases hk : k + 1 < D
    · have hm128 : 128 ≤ m := enc_len_two (by omega)
      have HK : Hid (k + (enc m).length = D) := hkD
      have HB : Hid (bs1 ++ enc m = bs ++ enc n) := hbs
      have HL : Hid (bs1.length + (enc m).length = bs.length + D) := hbl
      clear hkD hbs hbl hpm
      go_wp2_with (at_builtin; refine wpList_append_lies _ rfl (.tmp 15) (.tmp 20) 100 rfl base 5 i0 (.int .u8 0) 1 1 Try.underlying100 hi hz0 hz1 hz2 rfl (by decide) v1 bs1.length _ rfl (hw1.2.2.alloc _) ⟨wr.heap.size, 0, none⟩ 1 1 [.int .u8 ((m : Int) % 128 + 128)] rfl rfl ?c1 ?c2 (by decide) (by unfold maxLen; omega) (by omega) (by have := hw1.1; simp; omega) (wr.heap.size + 1) (by simp) ?_)
      case c1 =>
        intro j u hj
        match j, hj with
        | 0, hj => simp at hj; subst hj; simp [Addr.add]
      case c2 => intro u hu; simp at hu; subst hu; rfl
      intro g cap w1 hown hgrow hat _
      have hfield := hw1.field hgrow
      have hc1 := cell_of_one hfield
      have hf1 := free_of_one hfield
      have eb : ((UInt8.ofNat (m % 128 + 128)).toNat : Int) = (m : Int) % 128 + 128 := by rw [byte_ofNat (by omega)]; omega
      rw [← eb] at hown
      have R := hw1.push hgrow (UInt8.ofNat (m % 128 + 128)) hown hat
      clear hown hgrow hat hfield eb
      go_wp2
      go_roundw
      case rel =>
        have hk' := HK.out
        have hb' := HB.out
        rw [enc_ge hm128] at hk' hb'
        simp only [List.length_cons] at hk'
        exact ⟨k + 1, m / 128, _, _, by omega, by go_num, by go_num, by omega, R.1, hk2.trans haf R.2.1, haf.trans hk2.size R.2.2, by rw [List.append_assoc]; exact hb'⟩
      case measure => simp [intOf]; omega
    · have hk' : k + 1 = D := by omega
      have hm128 : m < 128 := enc_len_one (by omega)
      have HB : Hid (bs1 ++ enc m = bs ++ enc n) := hbs
      clear hkD hbs hbl hpm
      go_wp2_with (at_builtin; refine wpList_append_lies _ rfl (.tmp 31) (.tmp 34) 100 rfl base 5 i0 (.int .u8 0) 1 1 Try.underlying100 hi hz0 hz1 hz2 rfl (by decide) v1 bs1.length _ rfl (hw1.2.2.alloc _) ⟨wr.heap.size, 0, none⟩ 1 1 [.int .u8 (m : Int)] rfl rfl ?d1 ?d2 (by decide) (by unfold maxLen; omega) (by omega) (by have := hw1.1; simp; omega) (wr.heap.size + 1) (by simp) ?_)
      case d1 =>
        intro j u hj
        match j, hj with
        | 0, hj => simp at hj; subst hj; simp [Addr.add]
      case d2 => intro u hu; simp at hu; subst hu; rfl
      intro g cap w1 hown hgrow hat _
      have hfield := hw1.field hgrow
      have hc1 := cell_of_one hfield
      have hf1 := free_of_one hfield
      have eb : ((UInt8.ofNat m).toNat : Int) = (m : Int) := by rw [byte_ofNat (by omega)]
      rw [← eb] at hown
      have R := hw1.push hgrow (UInt8.ofNat m) hown hat
      clear hown hgrow hat hfield eb
      go_wp2
      go_end0
      have hb' := HB.out
      rw [enc_lt hm128] at hb'
      exact ⟨rfl, _, by rw [← hb']; exact R.1, hk2.trans haf R.2.1, haf.trans hk2.size R.2.2⟩

set_option maxRecDepth 100000 in
/-- A writer that is none. -/
theorem wu64_nil (n : Int) (w : World) :
    Calls Try.prog 54 #[.pointer none, .int .u64 n] w fun e w' => e = .returned (.tuple #[]) ∧ w = w' := by
  go_enter Try.func54, Try.ntmps54
  go_wp2
  go_returns
  exact ⟨rfl, rfl⟩

set_option maxRecDepth 100000 in
theorem wint_nil (n : Int) (h1 : -9223372036854775808 ≤ n) (h2 : n ≤ 9223372036854775807) (w : World) :
    Calls Try.prog 32 #[.pointer none, .int .i64 n] w fun e w' => e = .returned (.tuple #[]) ∧ w = w' := by
  have hf := fold_any n h1 h2
  go_enter Try.func32, Try.ntmps32
  go_wp2_with (first | (go_at_call 55; refine (hf _).mono ?_; rintro e w' ⟨rfl, rfl⟩) | (go_at_call 54; refine (wu64_nil _ _).mono ?_; rintro e w' ⟨rfl, rfl⟩))
  go_end0
  exact ⟨rfl, rfl⟩

set_option maxRecDepth 100000 in
theorem wint_any (base B : Nat) (v : Value) (bs : List UInt8) (n : Int) (h1 : -9223372036854775808 ≤ n) (h2 : n ≤ 9223372036854775807) (w : World) (h : Wr base w B v bs) (hb : bs.length + 10 ≤ 140737488355328) :
    Calls Try.prog 32 #[.pointer (some ⟨B, 0, none⟩), .int .i64 n] w fun e w' => e = .returned (.tuple #[]) ∧ ∃ v', Wr base w' B v' (bs ++ enc (zig n)) ∧ Keep2 B v w w' ∧ After w v v' := by
  have hf := fold_any n h1 h2
  have hz := zig_bound h1 h2
  have hu := wu64_any base B v bs (zig n) hz w h hb
  go_enter Try.func32, Try.ntmps32
  go_wp2_with (first | (go_at_call 55; refine (hf _).mono ?_; rintro e w' ⟨rfl, rfl⟩) | (go_at_call 54; refine hu.mono ?_; rintro e w' ⟨rfl, hr⟩))
  go_end0
  exact ⟨rfl, hr⟩

set_option maxRecDepth 100000 in
theorem wstring_nil (w : World) :
    Calls Try.prog 35 #[.pointer none] w fun e w' => e = .returned (.string ⟨#[]⟩) ∧ w = w' := by
  go_enter Try.func35, Try.ntmps35
  go_wp2
  go_ret
  exact ⟨rfl, rfl⟩

/-- What 'string(w.written)' makes of the writer's row. -/
theorem Wr.text {base B : Nat} {w : World} {v : Value} {bs : List UInt8} (h : Wr base w B v bs) : (convert 100 9 v).run Try.prog w = .ok (.string ⟨bs.toArray⟩) w := by
  obtain ⟨_, _, hown⟩ := h
  rcases hown.2 with ⟨rfl, h0⟩ | ⟨g, cap, cur, rfl, _, hg, _, _, _, htk⟩
  · have : bs = [] := List.eq_nil_of_length_eq_zero h0
    subst this
    exact Lib.run_convert_nil_bytes w 100 9 5 0 Try.underlying100 Try.underlying5 Try.underlying9
  · exact run_convert_bytes_back w 100 9 5 ⟨g, 0, none⟩ cap bs Try.underlying100 Try.underlying5 Try.underlying9 (Lib.bytes_of_row hg (by simpa using htk))

set_option maxRecDepth 100000 in
theorem wstring_any (base B : Nat) (v : Value) (bs : List UInt8) (w : World) (h : Wr base w B v bs) :
    Calls Try.prog 35 #[.pointer (some ⟨B, 0, none⟩)] w fun e w' => e = .returned (.string ⟨bs.toArray⟩) ∧ w = w' := by
  have hc := h.cell
  have ht := h.text
  go_enter Try.func35, Try.ntmps35
  go_wp2
  go_ret
  exact ⟨rfl, rfl⟩

theorem Wr.size {base B : Nat} {w : World} {v : Value} {bs : List UInt8} (h : Wr base w B v bs) : base ≤ w.heap.size := by
  have := h.lt
  have := h.1
  omega
theorem Wr.below {base B : Nat} {w w' : World} {v : Value} {bs : List UInt8} (h : Wr base w B v bs) (hk : Keep2 B v w w') : Below base w w' :=
  hk.below h.size h.1 (fun k hk => (h.2.2.lt k hk).1)

theorem Wr.more {base B : Nat} {w w1 : World} {v v1 : Value} {bs : List UInt8} (s : ByteArray) (h : Wr base w B v bs) (hgrow : w.grownBy w1 v.ownBlock)
    (hown : w1.ownsRow base 5 1 v1 (bs.length + s.size) (Lib.byteCells bs ++ Lib.strCells s)) :
    Wr base (w1.setCell ⟨B, 0, none⟩ v1) B v1 (bs ++ s.data.toList) ∧ Below base w (w1.setCell ⟨B, 0, none⟩ v1) ∧ w1.heap[B]? = some (.cells #[v] 102 (0, 0)) := by
  have hl := h.lt
  have hne := h.ne
  have hf : w1.heap[B]? = some (.cells #[v] 102 (0, 0)) := by
    rw [hgrow.block B hl (fun e => hne e.symm)]
    exact h.2.1
  have hgB : v1.ownBlock ≠ some B := by
    rcases hown.2 with ⟨rfl, _⟩ | ⟨g, cap, cur, rfl, _, hg, _⟩
    · simp [Value.ownBlock]
    · intro e
      simp [Value.ownBlock] at e
      subst e
      rw [hf] at hg
      simp at hg
  refine ⟨⟨h.1, one_setCell hf, ?_⟩, ?_, hf⟩
  · have := ownsRow_setCell_other hown (a := ⟨B, 0, none⟩) hgB v1
    have e1 : Lib.byteCells bs ++ Lib.strCells s = Lib.byteCells (bs ++ s.data.toList) := by simp [Lib.byteCells, Lib.strCells]
    have e2 : (bs ++ s.data.toList).length = bs.length + s.size := by rw [List.length_append, Lib.size_eq]
    rw [e1] at this
    rw [e2]
    exact this
  · exact ((Below.refl base w).grown hgrow h.size (fun k hk => (h.2.2.lt k hk).1)).setCell (p := ⟨B, 0, none⟩) h.1 v1

end Go.Proofs.Ythokbififjhflaa
