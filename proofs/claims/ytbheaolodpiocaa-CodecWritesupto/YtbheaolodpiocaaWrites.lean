/-
  CodecWrites, for every row of items of bulk at most 1048576: the writer's bytes behind each of the first hundred items are the document's; the call answers true and the argument reads behind it as it did. The condition: what comes in holds at most 1048576 values and letters.
-/
import Derived.Test.YtbheaolodpiocaaItems
import Derived.JoinedCond
namespace Go.Proofs.Ytbheaolodpiocaa.codecWrites
open Go.ChangeShapes Go.WideShapes Go.ChangeAt Go.RowKit

theorem own : ownKnob Try.prog.godebug = none := by kernel_rfl
theorem laidOut : laidOutB Try.prog = true := by kernel_rfl

theorem cellsB {base : Nat} {w wr : World} {bk o : Nat} {x : It} (h : IsItem w bk o x) (hb : Below base w wr) (hbk : bk < base) : IsItem wr bk o x :=
  ⟨(hb.cell (by exact hbk)).trans h.c0, (hb.cell (by exact hbk)).trans h.c1, (hb.cell (by exact hbk)).trans h.c2, (hb.cell (by exact hbk)).trans h.c3, h.lo, h.hi, h.u, h.s⟩

theorem item_len {K N : Int} {U : Nat} {S : ByteArray} (hi : N ≤ 9223372036854775807) (lo : -9223372036854775808 ≤ N) (hu : U < 18446744073709551616) (hs : S.size ≤ 1048576) : (itemText K N U S).length ≤ 1048586 := by
  have h1 := enc_len_ten (zig_bound lo hi)
  have h2 := enc_len_ten hu
  have h3 := enc_len_ten (n := S.size) (by omega)
  have h4 := Lib.size_eq S
  unfold itemText lenText
  split
  · omega
  · split
    · omega
    · rw [List.length_append]; omega

set_option maxHeartbeats 3200000 in
set_option maxRecDepth 100000 in
theorem walk_some (bk off len cap : Nat) (X : Nat → It) (w : World) (hl : 0 < len) (hlm : len ≤ 9223372036854775807) (hbk : bk < w.heap.size) (hX : ∀ j, j < len → IsItem w bk (off + j * 4) (X j)) (hsm : ∀ j, j < len → (X j).2.2.2.size ≤ 1048576) :
    Calls Try.prog 3 #[.slice (some ⟨bk, off, none⟩) len cap] w fun e w' => e = .returned (.bool true) ∧ Below w.heap.size w w' := by
  obtain ⟨base, hbase⟩ : ∃ base, w.heap.size = base := ⟨_, rfl⟩
  have hnew := new_any w
  have hw0 := Wr.new w
  have hb0 : Below base w (w.alloc (.cells #[.slice none 0 0] 53)) := (Below.refl base w).alloc (by omega) _
  rw [hbase] at hnew hbk hw0 ⊢
  go_enter Try.func3, Try.ntmps3
  go_wp2_with (go_at_call 8; refine hnew.mono ?_; rintro e w1 ⟨rfl, rfl⟩)
  go_loopw [4, 5] (fun t i wr => ∃ (k : Nat) (v : Value) (bs : List UInt8), k ≤ len ∧ k ≤ 100 ∧ i = .int .i64 k ∧ t = .string ⟨bs.toArray⟩ ∧ Wr base wr base v bs ∧ bs.length ≤ k * 1048586 ∧ Below base w wr) (fun _ i _ => len - (intOf i).toNat)
  case atStart => exact ⟨0, _, [], by omega, by omega, rfl, rfl, hw0, by simp, hb0⟩
  case round =>
    clear hw0 hb0
    obtain ⟨k, v, bs, hk, hk100, rfl, rfl, hw, hlen, hbel⟩ := hrel
    have hsz := hw.size
    by_cases hlt : k < len ∧ k < 100
    · obtain ⟨hkl, hk1⟩ := hlt
      have hkl' : (k : Int) < (len : Int) := by omega
      have hk1' : (k : Int) < 100 := by omega
      obtain ⟨x, hx⟩ : ∃ x, X k = x := ⟨_, rfl⟩
      have hit0 := hX k hkl
      have hS := hsm k hkl
      rw [hx] at hit0 hS
      obtain ⟨K, N, U, S⟩ := x
      have hit := cellsB hit0 hbel hbk
      have c0 := hit.c0
      have c1 := hit.c1
      have c2 := hit.c2
      have c3 := hit.c3
      have lo := hit.lo
      have hi := hit.hi
      have hu := hit.u
      simp only at c0 c1 c2 c3 lo hi hu hS
      have later : Hid (∀ w1, Below base w w1 → IsItem w1 bk (off + k * 4) (K, N, U, S)) := fun w1 h1 => cellsB hit0 h1 hbk
      have hlay := lay_any K N U S lo hi hu (by omega)
      have hil := item_len (K := K) hi lo hu hS
      clear hX hsm hit hit0 hx
      obtain ⟨E, hE⟩ : ∃ E : ByteArray, E = ⟨(itemText K N U S).toArray⟩ := ⟨_, rfl⟩
      obtain ⟨T, hT⟩ : ∃ T : ByteArray, T = ⟨bs.toArray⟩ := ⟨_, rfl⟩
      obtain ⟨Z, hZ⟩ : ∃ Z : ByteArray, Z = ⟨(bs ++ itemText K N U S).toArray⟩ := ⟨_, rfl⟩
      have hcat : T ++ E = Z := by rw [hT, hE, hZ, append_lists]
      have hsum : T.size + E.size ≤ 9223372036854775807 := by rw [hT, hE, size_list, size_list]; omega
      have fin : Hid (∀ w2 v1, Wr base w2 base v1 (bs ++ itemText K N U S) → Below base w w2 → ∃ v bs', Z = ⟨bs'.toArray⟩ ∧ Wr base w2 base v bs' ∧ bs'.length ≤ (k + 1) * 1048586 ∧ Below base w w2) := fun w2 v1 h1 h2 => ⟨v1, _, hZ, h1, by rw [List.length_append]; omega, h2⟩
      have hstr : Hid (∀ w2 v1, Wr base w2 base v1 (bs ++ itemText K N U S) → Calls Try.prog 13 #[.pointer (some ⟨base, 0, none⟩)] w2 fun e w' => e = .returned (.string Z) ∧ w2 = w') := fun w2 v1 h1 => by
        rw [hZ]
        exact wstring_any base base v1 _ w2 h1
      rw [← hT]
      rw [← hE] at hlay
      clear hE hT hZ
      by_cases k0 : K = 0
      · have hk0 : (K == 0) = true := by simp [k0]
        have q1 := wint_any base base v bs N lo hi wr hw (by omega)
        have HI : Hid (itemText K N U S = enc (zig N)) := by show itemText K N U S = _; unfold itemText; rw [if_pos k0]
        clear k0
        go_wp2_with (first
          | (go_at_call 13; refine (hstr.out w2 v1 y1).mono ?_; rintro e w3 ⟨rfl, rfl⟩)
          | (go_at_call 12; refine (hlay w1).mono ?_; rintro e w2 ⟨rfl, b2⟩; have y1 : Wr base w2 base v1 (bs ++ itemText K N U S) := (by rw [HI.out]; exact x1.new0 (grown_below b2 _)))
          | (go_at_call 9; refine q1.mono ?_; rintro e w1 ⟨rfl, v1, x1, k1, _⟩; have b1 := hbel.trans (hw.below k1); have i1 := later.out w1 b1; have d0 := i1.c0; have d1 := i1.c1; have d2 := i1.c2; have d3 := i1.c3; simp only at d0 d1 d2 d3))
        obtain ⟨v4, bs4, y2, y3, y4, y5⟩ := fin.out w2 v1 y1 (b1.trans (b2.mono x1.size))
        go_roundw
        case rel => exact ⟨k + 1, v4, bs4, by omega, by omega, by go_num, by rw [y2], y3, y4, y5⟩
        case measure => simp [intOf]; omega
      · have hk0 : (K == 0) = false := by simp [k0]
        by_cases k1 : K = 1
        · have hk1 : (K == 1) = true := by simp [k1]
          have q1 := wu64_any base base v bs U hu wr hw (by omega)
          have HI : Hid (itemText K N U S = enc U) := by show itemText K N U S = _; unfold itemText; rw [if_neg k0, if_pos k1]
          clear k0 k1
          go_wp2_with (first
            | (go_at_call 13; refine (hstr.out w2 v1 y1).mono ?_; rintro e w3 ⟨rfl, rfl⟩)
            | (go_at_call 12; refine (hlay w1).mono ?_; rintro e w2 ⟨rfl, b2⟩; have y1 : Wr base w2 base v1 (bs ++ itemText K N U S) := (by rw [HI.out]; exact x1.new0 (grown_below b2 _)))
            | (go_at_call 10; refine q1.mono ?_; rintro e w1 ⟨rfl, v1, x1, k2, _⟩; have b1 := hbel.trans (hw.below k2); have i1 := later.out w1 b1; have d0 := i1.c0; have d1 := i1.c1; have d2 := i1.c2; have d3 := i1.c3; simp only at d0 d1 d2 d3))
          obtain ⟨v4, bs4, y2, y3, y4, y5⟩ := fin.out w2 v1 y1 (b1.trans (b2.mono x1.size))
          go_roundw
          case rel => exact ⟨k + 1, v4, bs4, by omega, by omega, by go_num, by rw [y2], y3, y4, y5⟩
          case measure => simp [intOf]; omega
        · have hk1 : (K == 1) = false := by simp [k1]
          have q1 := wtext_any base base v bs S wr hw (by omega)
          have HI : Hid (itemText K N U S = enc S.size ++ S.data.toList) := by show itemText K N U S = _; unfold itemText; rw [if_neg k0, if_neg k1, lenText]
          clear k0 k1
          go_wp2_with (first
            | (go_at_call 13; refine (hstr.out w2 v1 y1).mono ?_; rintro e w3 ⟨rfl, rfl⟩)
            | (go_at_call 12; refine (hlay w1).mono ?_; rintro e w2 ⟨rfl, b2⟩; have y1 : Wr base w2 base v1 (bs ++ itemText K N U S) := (by rw [HI.out]; exact x1.new0 (grown_below b2 _)))
            | (go_at_call 11; refine q1.mono ?_; rintro e w1 ⟨rfl, v1, x1, b0⟩; have b1 := hbel.trans b0; have i1 := later.out w1 b1; have d0 := i1.c0; have d1 := i1.c1; have d2 := i1.c2; have d3 := i1.c3; simp only at d0 d1 d2 d3))
          obtain ⟨v4, bs4, y2, y3, y4, y5⟩ := fin.out w2 v1 y1 (b1.trans (b2.mono x1.size))
          go_roundw
          case rel => exact ⟨k + 1, v4, bs4, by omega, by omega, by go_num, by rw [y2], y3, y4, y5⟩
          case measure => simp [intOf]; omega
    · by_cases hkl : k < len
      · have hkl' : (k : Int) < (len : Int) := by omega
        have hk1' : (100 : Int) ≤ (k : Int) := by omega
        clear hlt hX hsm
        go_wp2_with (go_at_call 14; refine (awake_any _).mono ?_; rintro e w2 ⟨rfl, ha⟩)
        go_ret
        exact ⟨rfl, hbel.trans (ha.mono hsz)⟩
      · have hkl' : (len : Int) ≤ (k : Int) := by omega
        clear hlt hX hsm
        go_wp2_with (go_at_call 14; refine (awake_any _).mono ?_; rintro e w2 ⟨rfl, ha⟩)
        go_ret
        exact ⟨rfl, hbel.trans (ha.mono hsz)⟩

set_option maxRecDepth 100000 in
theorem walk_none (a : Option Addr) (cap : Nat) (w : World) : Calls Try.prog 3 #[.slice a 0 cap] w fun e w' => e = .returned (.bool true) ∧ Below w.heap.size w w' := by
  obtain ⟨base, hbase⟩ : ∃ base, w.heap.size = base := ⟨_, rfl⟩
  have hnew := new_any w
  have hb0 : Below base w (w.alloc (.cells #[.slice none 0 0] 53)) := (Below.refl base w).alloc (by omega) _
  have hs2 : base ≤ (w.alloc (.cells #[.slice none 0 0] 53)).heap.size := by simp; omega
  rw [hbase] at hnew ⊢
  go_enter Try.func3, Try.ntmps3
  go_wp2_with (go_at_call 8; refine hnew.mono ?_; rintro e w1 ⟨rfl, rfl⟩)
  refine wp_loop_rounds 1 ?_
  rw [rounds_succ]
  go_wp2_with (go_at_call 14; refine (awake_any _).mono ?_; rintro e w2 ⟨rfl, ha⟩)
  go_ret
  exact ⟨rfl, hb0.trans (ha.mono hs2)⟩
end Go.Proofs.Ytbheaolodpiocaa.codecWrites
