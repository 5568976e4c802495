/-
  CodecBack, for every row of items: what was written of the first hundred is read, one behind the other, and nothing is left (or a text among them is longer than a text may be); the call answers true and the argument reads behind it as it did. No condition.
-/
import Derived.Test.YtbheaolodpiocaaItems
import Derived.Deep.RegionHeld3
namespace Go.Proofs.Ytbheaolodpiocaa.codecBack
open Go.ChangeShapes Go.WideShapes Go.ChangeAt Go.RowKit

theorem own : ownKnob Try.prog.godebug = none := by kernel_rfl
theorem laidOut : laidOutB Try.prog = true := by kernel_rfl

/-- An item as bytes: the three, one behind the other. -/
def trio (x : It) : List UInt8 := enc (zig x.2.1) ++ (enc x.2.2.1 ++ lenText x.2.2.2)
/-- The items from place i on, n of them. -/
def rows (X : Nat → It) : Nat → Nat → List UInt8
  | _, 0 => []
  | i, n + 1 => trio (X i) ++ rows X (i + 1) n

theorem rows_snoc (X : Nat → It) : ∀ (n i : Nat), rows X i (n + 1) = rows X i n ++ trio (X (i + n))
  | 0, i => by simp [rows]
  | n + 1, i => by
    rw [rows, rows_snoc X n (i + 1), rows, List.append_assoc, show i + 1 + n = i + (n + 1) by omega]

theorem trio_len {x : It} (hi : x.2.1 ≤ 9223372036854775807) (lo : -9223372036854775808 ≤ x.2.1) (hu : x.2.2.1 < 18446744073709551616) (hs : x.2.2.2.size ≤ 524288) : (trio x).length ≤ 524318 := by
  have h1 := enc_len_ten (zig_bound lo hi)
  have h2 := enc_len_ten hu
  have h3 := enc_len_ten (n := x.2.2.2.size) (by omega)
  have h4 := Lib.size_eq x.2.2.2
  unfold trio lenText
  simp only [List.length_append]
  omega

theorem cellsB {base : Nat} {w wr : World} {bk o : Nat} {x : It} (h : IsItem w bk o x) (hb : Below base w wr) (hbk : bk < base) : IsItem wr bk o x :=
  ⟨(hb.cell (by exact hbk)).trans h.c0, (hb.cell (by exact hbk)).trans h.c1, (hb.cell (by exact hbk)).trans h.c2, (hb.cell (by exact hbk)).trans h.c3, h.lo, h.hi, h.u, h.s⟩

theorem itemG {w w' : World} {bk o R : Nat} {x : It} (h : IsItem w bk o x) (hg : w.grownBy w' (some R)) (hne : bk ≠ R) : IsItem w' bk o x := by
  have hs : (some bk : Option Nat) ≠ some R := by intro e; exact hne (Option.some.inj e)
  exact ⟨hg.cell h.c0 hs, hg.cell h.c1 hs, hg.cell h.c2 hs, hg.cell h.c3 hs, h.lo, h.hi, h.u, h.s⟩

theorem rows_len {X : Nat → It} {w : World} {bk off len k : Nat} (hX : ∀ j, j < len → IsItem w bk (off + j * 4) (X j)) (hsm : ∀ j, j < k → (X j).2.2.2.size ≤ 524288) (hk : k ≤ len) :
    ∀ (n i : Nat), i + n ≤ k → (rows X i n).length ≤ n * 524318
  | 0, _, _ => by simp [rows]
  | n + 1, i, h => by
    have h1 := rows_len hX hsm hk n (i + 1) (by omega)
    have hi := hX i (by omega)
    have h2 := trio_len hi.hi hi.lo hi.u (hsm i (by omega))
    rw [rows, List.length_append]
    omega

theorem rU_enc (n : Nat) (hn : n < 18446744073709551616) (rest : List UInt8) : rU ⟨(enc n ++ rest).toArray⟩ false = (n, ⟨rest.toArray⟩, false) := by
  have h := num_enc0 n hn rest
  have hp := enc_pos n
  have e : num 0 0 (⟨(enc n ++ rest).toArray⟩ : ByteArray).data.toList = (n, (enc n).length) := by simpa using h
  unfold rU
  rw [e, if_neg (by simp; intro h; rw [h] at hp; simp at hp)]
  have e2 : (⟨(enc n ++ rest).toArray⟩ : ByteArray).extract (enc n).length (⟨(enc n ++ rest).toArray⟩ : ByteArray).size = ⟨rest.toArray⟩ := by
    rw [Lib.extract_eq, size_list]
    simp
  simp only [e2]

theorem rT_text (S : ByteArray) (hS : S.size ≤ 524288) (rest : List UInt8) : rT ⟨(lenText S ++ rest).toArray⟩ false = (S, ⟨rest.toArray⟩, false) := by
  have h : rU ⟨(lenText S ++ rest).toArray⟩ false = (S.size, ⟨(S.data.toList ++ rest).toArray⟩, false) := by
    unfold lenText
    rw [List.append_assoc]
    exact rU_enc S.size (by omega) _
  have hl := Lib.size_eq S
  have hsz : (⟨(S.data.toList ++ rest).toArray⟩ : ByteArray).size = S.size + rest.length := by rw [size_list, List.length_append, ← hl]
  have x0 : (⟨(S.data.toList ++ rest).toArray⟩ : ByteArray).extract 0 S.size = S := by
    rw [Lib.extract_eq, hl]
    simp
  have x1 : (⟨(S.data.toList ++ rest).toArray⟩ : ByteArray).extract S.size (⟨(S.data.toList ++ rest).toArray⟩ : ByteArray).size = ⟨rest.toArray⟩ := by
    rw [hsz, Lib.extract_eq, hl]
    simp
  unfold rT
  rw [h]
  show (if 524288 < S.size ∨ (⟨(S.data.toList ++ rest).toArray⟩ : ByteArray).size < S.size then _ else ((⟨(S.data.toList ++ rest).toArray⟩ : ByteArray).extract 0 S.size, (⟨(S.data.toList ++ rest).toArray⟩ : ByteArray).extract S.size (⟨(S.data.toList ++ rest).toArray⟩ : ByteArray).size, false)) = _
  rw [if_neg (by rw [hsz]; omega), x0, x1]

theorem readI (R : Nat) (N : Int) (lo : -9223372036854775808 ≤ N) (hi : N ≤ 9223372036854775807) (rest : List UInt8) (hl : (enc (zig N) ++ rest).length ≤ 9223372036854775807) (w : World) (h : Rd w R ⟨(enc (zig N) ++ rest).toArray⟩ false) :
    Calls Try.prog 16 #[.pointer (some ⟨R, 0, none⟩)] w fun e w' => e = .returned (.int .i64 N) ∧ Rd w' R ⟨rest.toArray⟩ false ∧ w.grownBy w' (some R) := by
  have := rint_any R _ false (by rw [size_list]; exact hl) w h
  rw [rU_enc (zig N) (zig_bound lo hi) rest, zag_zig] at this
  exact this
theorem readU (R : Nat) (U : Nat) (hu : U < 18446744073709551616) (rest : List UInt8) (hl : (enc U ++ rest).length ≤ 9223372036854775807) (w : World) (h : Rd w R ⟨(enc U ++ rest).toArray⟩ false) :
    Calls Try.prog 18 #[.pointer (some ⟨R, 0, none⟩)] w fun e w' => e = .returned (.int .u64 U) ∧ Rd w' R ⟨rest.toArray⟩ false ∧ w.grownBy w' (some R) := by
  have := ru64_any R _ false (by rw [size_list]; exact hl) w h
  rw [rU_enc U hu rest] at this
  exact this
theorem readT (R : Nat) (S : ByteArray) (hS : S.size ≤ 524288) (rest : List UInt8) (hl : (lenText S ++ rest).length ≤ 9223372036854775807) (w : World) (h : Rd w R ⟨(lenText S ++ rest).toArray⟩ false) :
    Calls Try.prog 20 #[.pointer (some ⟨R, 0, none⟩)] w fun e w' => e = .returned (.string S) ∧ Rd w' R ⟨rest.toArray⟩ false ∧ w.grownBy w' (some R) := by
  have := rtext_any R _ false (by rw [size_list]; exact hl) w h
  rw [rT_text S hS rest] at this
  exact this

set_option maxHeartbeats 3200000 in
set_option maxRecDepth 100000 in
theorem walk_some (bk off len cap : Nat) (X : Nat → It) (w : World) (hl : 0 < len) (hlm : len ≤ 9223372036854775807) (hbk : bk < w.heap.size) (hX : ∀ j, j < len → IsItem w bk (off + j * 4) (X j)) :
    Calls Try.prog 5 #[.slice (some ⟨bk, off, none⟩) len cap] w fun e w' => e = .returned (.bool true) ∧ Below w.heap.size w w' := by
  obtain ⟨base, hbase⟩ : ∃ base, w.heap.size = base := ⟨_, rfl⟩
  have hnew := new_any w
  have hw0 := Wr.new w
  have hb0 : Below base w (w.alloc (.cells #[.slice none 0 0] 53)) := (Below.refl base w).alloc (by omega) _
  rw [hbase] at hnew hbk hw0 ⊢
  go_enter Try.func5, Try.ntmps5
  go_wp2_with (go_at_call 8; refine hnew.mono ?_; rintro e w1 ⟨rfl, rfl⟩)
  go_loopw [4] (fun i wr => ∃ (k : Nat) (v : Value), k ≤ len ∧ k ≤ 100 ∧ i = .int .i64 k ∧ Wr base wr base v (rows X 0 k) ∧ (rows X 0 k).length ≤ k * 524318 ∧ (∀ j, j < k → (X j).2.2.2.size ≤ 524288) ∧ Below base w wr) (fun i _ => len - (intOf i).toNat)
  case atStart => exact ⟨0, _, by omega, by omega, rfl, hw0, by simp [rows], fun j hj => by omega, hb0⟩
  case round =>
    clear hw0 hb0
    obtain ⟨k, v, hk, hk100, rfl, hw, hlen, hsm, hbel⟩ := hrel
    have hsz := hw.size
    by_cases hlt : k < len ∧ k < 100
    · obtain ⟨hkl, hk1⟩ := hlt
      have hkl' : (k : Int) < (len : Int) := by omega
      have hk1' : (k : Int) < 100 := by omega
      obtain ⟨x, hx⟩ : ∃ x, X k = x := ⟨_, rfl⟩
      have hit := cellsB (hX k hkl) hbel hbk
      rw [hx] at hit
      obtain ⟨K, N, U, S⟩ := x
      obtain ⟨c0, c1, c2, c3, lo, hi, hu, hs⟩ := hit
      simp only at c0 c1 c2 c3 lo hi hu hs
      by_cases hbig : 524288 < S.size
      · have hbig' : (524288 : Int) < (S.size : Int) := by omega
        clear hsm hlen hX hx
        go_wp2_with (go_at_call 14; refine (awake_any _).mono ?_; rintro e w2 ⟨rfl, ha⟩)
        go_ret
        exact ⟨rfl, hbel.trans (ha.mono hsz)⟩
      · have hbig' : (S.size : Int) ≤ 524288 := by omega
        have z1 := enc_len_ten (zig_bound lo hi)
        have z2 := enc_len_ten hu
        have q1 := wint_any base base v (rows X 0 k) N lo hi wr hw (by omega)
        have later : Hid (∀ w1, Below base wr w1 → IsItem w1 bk (off + k * 4) (K, N, U, S)) := fun w1 h1 => by
          have := cellsB (hX k hkl) (hbel.trans h1) hbk
          rw [hx] at this
          exact this
        have fin : Hid (∀ w3 v3, Wr base w3 base v3 (((rows X 0 k ++ enc (zig N)) ++ enc U) ++ (enc S.size ++ S.data.toList)) → Below base wr w3 → ∃ v, Wr base w3 base v (rows X 0 (k + 1)) ∧ (rows X 0 (k + 1)).length ≤ (k + 1) * 524318 ∧ (∀ j, j < k + 1 → (X j).2.2.2.size ≤ 524288) ∧ Below base w w3) := fun w3 v3 h3 b3 => by
          have e : rows X 0 (k + 1) = ((rows X 0 k ++ enc (zig N)) ++ enc U) ++ (enc S.size ++ S.data.toList) := by
            rw [rows_snoc, Nat.zero_add, hx]
            simp [trio, lenText]
          have hl : (trio (X k)).length ≤ 524318 := by rw [hx]; exact trio_len hi lo hu (show S.size ≤ 524288 by omega)
          refine ⟨v3, by rw [e]; exact h3, ?_, fun j hj => ?_, hbel.trans b3⟩
          · rw [rows_snoc, List.length_append, Nat.zero_add]
            omega
          · by_cases hjk : j = k
            · rw [hjk, hx]; show S.size ≤ 524288; omega
            · exact hsm j (by omega)
        have l1 : (rows X 0 k ++ enc (zig N)).length ≤ 100 * 524318 + 10 := by rw [List.length_append]; omega
        have l2 : ((rows X 0 k ++ enc (zig N)) ++ enc U).length ≤ 100 * 524318 + 20 := by rw [List.length_append]; omega
        obtain ⟨T0, hT0⟩ : ∃ T0, T0 = rows X 0 k := ⟨_, rfl⟩
        rw [← hT0] at q1 l1 l2
        have hw' := hw
        rw [← hT0] at hw'
        have FN : Hid (T0 = rows X 0 k) := hT0
        clear hT0 hlen hsm hX hx hw z1 z2
        go_wp2_with (first
          | (go_at_call 11; refine (wtext_any base base v2 _ S w2 x2 (by omega)).mono ?_; rintro e w3 ⟨rfl, v3, x3, b3⟩)
          | (go_at_call 10; refine (wu64_any base base v1 _ U hu w1 x1 (by omega)).mono ?_; rintro e w2 ⟨rfl, v2, x2, k2, _⟩; have b2 := b1.trans (x1.below k2); have d3 := (later.out w2 b2).c3; simp only at d3)
          | (go_at_call 9; refine q1.mono ?_; rintro e w1 ⟨rfl, v1, x1, k1, _⟩; have b1 := hw'.below k1; have d2 := (later.out w1 b1).c2; simp only at d2))
        rw [FN.out] at x3
        obtain ⟨v4, y1, y2, y3, y4⟩ := fin.out w3 v3 x3 (b2.trans b3)
        clear x3 fin
        go_roundw
        case rel => exact ⟨k + 1, v4, by omega, by omega, by go_num, y1, y2, y3, y4⟩
        case measure => simp [intOf]; omega
    · -- all is written: the text, and its reader
      have hstr := wstring_any base base v (rows X 0 k) wr hw
      have hof := of_any ⟨(rows X 0 k).toArray⟩ wr
      obtain ⟨R, hR⟩ : ∃ R, wr.heap.size = R := ⟨_, rfl⟩
      have hrd := Rd.new wr ⟨(rows X 0 k).toArray⟩
      have hb2 : Below base w (wr.alloc (.cells #[.string ⟨(rows X 0 k).toArray⟩, .bool false] 61)) := hbel.alloc hsz _
      have hbR : base < R := by have := hw.lt; omega
      have hkl0 : k ≤ len := hk
      rw [hR] at hof hrd
      clear hw
      by_cases hkl : k < len
      · have hkl' : (k : Int) < (len : Int) := by omega
        have hk1' : (100 : Int) ≤ (k : Int) := by omega
        clear hlt
        go_wp2_with (first | (go_at_call 13; refine hstr.mono ?_; rintro e w2 ⟨rfl, rfl⟩) | (go_at_call 15; refine hof.mono ?_; rintro e w2 ⟨rfl, rfl⟩))
        go_loopw [6] (fun i wx => ∃ j : Nat, j ≤ k ∧ i = .int .i64 j ∧ Rd wx R ⟨(rows X j (k - j)).toArray⟩ false ∧ Below base w wx) (fun i _ => len - (intOf i).toNat)
        case atStart => exact ⟨0, by omega, rfl, hrd, hb2⟩
        case round =>
          clear hrd hb2 hstr hof
          obtain ⟨j, hjk, rfl, hrd, hb2⟩ := hrel
          have hsz2 : base ≤ wr.heap.size := by have := lt_of_block hrd; omega
          by_cases hj : j < k
          · have hjl : (j : Int) < (len : Int) := by omega
            have hj1 : (j : Int) < 100 := by omega
            obtain ⟨rest, hrest⟩ : ∃ rest, rest = rows X (j + 1) (k - (j + 1)) := ⟨_, rfl⟩
            have hcut : rows X j (k - j) = trio (X j) ++ rest := by rw [hrest, show k - j = (k - (j + 1)) + 1 by omega]; rfl
            have hlr := rows_len hX hsm hkl0 (k - (j + 1)) (j + 1) (by omega)
            rw [← hrest] at hlr
            have hS := hsm j hj
            have hit := cellsB (hX j (by omega)) hb2 hbk
            obtain ⟨x, hx⟩ : ∃ x, X j = x := ⟨_, rfl⟩
            rw [hcut] at hrd
            rw [hx] at hit hS hrd
            obtain ⟨K, N, U, S⟩ := x
            have c1 := hit.c1
            have c2 := hit.c2
            have c3 := hit.c3
            have lo := hit.lo
            have hi := hit.hi
            have hu := hit.u
            simp only at c1 c2 c3 lo hi hu hS
            have z1 := enc_len_ten (zig_bound lo hi)
            have z2 := enc_len_ten hu
            have z3 := enc_len_ten (n := S.size) (by omega)
            have z4 := Lib.size_eq S
            have m3 : (lenText S ++ rest).length ≤ 9223372036854775807 := by unfold lenText; simp only [List.length_append]; omega
            have m2 : (enc U ++ (lenText S ++ rest)).length ≤ 9223372036854775807 := by unfold lenText; simp only [List.length_append]; omega
            have m1 : (enc (zig N) ++ (enc U ++ (lenText S ++ rest))).length ≤ 9223372036854775807 := by unfold lenText; simp only [List.length_append]; omega
            have e0 : trio (K, N, U, S) ++ rest = enc (zig N) ++ (enc U ++ (lenText S ++ rest)) := by simp [trio]
            rw [e0] at hrd
            have hne : bk ≠ R := by omega
            have HR : Hid (rest = rows X (j + 1) (k - (j + 1))) := hrest
            clear hrest hcut hlr hx e0 z1 z2 z3 z4 hX hsm
            go_wp2_with fail
            go_region_held3 (fun w' => w'.cell? ⟨bk, off + j * 4 + 1, none⟩ = some (.int .i64 N) ∧ w'.cell? ⟨bk, off + j * 4 + 2, none⟩ = some (.int .u64 U) ∧ w'.cell? ⟨bk, off + j * 4 + 3, none⟩ = some (.string S)) (go_keep)
              (first
                | (go_at_call 20; refine (readT R S hS rest m3 _ ?_).mono ?_; exact x2; rintro e w3 ⟨rfl, x3, g3⟩; have i3 := itemG i2 g3 hne; have f1 := i3.c1; have f2 := i3.c2; have f3 := i3.c3; simp only at f1 f2 f3)
                | (go_at_call 18; refine (readU R U hu _ m2 _ ?_).mono ?_; exact x1; rintro e w2 ⟨rfl, x2, g2⟩; have i2 := itemG i1 g2 hne; have e1 := i2.c1; have e2 := i2.c2; have e3 := i2.c3; simp only at e1 e2 e3)
                | (go_at_call 16; refine (readI R N lo hi _ m1 _ ?_).mono ?_; exact hrd; rintro e w1 ⟨rfl, x1, g1⟩; have i1 := itemG hit ⟨g1.os, g1.tape, g1.output, g1.size, g1.block⟩ hne; have d1 := i1.c1; have d2 := i1.c2; have d3 := i1.c3; simp only at d1 d2 d3))
            go_wp2
            rw [HR.out] at x3
            have b3 : Below base w w3 := below_far (below_far (below_far hb2 ⟨g1.os, g1.tape, g1.output, g1.size, g1.block⟩ hsz2 (by omega)) g2 (Nat.le_trans hsz2 g1.size) (by omega)) g3 (Nat.le_trans (Nat.le_trans hsz2 g1.size) g2.size) (by omega)
            go_roundw
            case rel => exact ⟨j + 1, by omega, by go_num, x3, b3⟩
            case measure => simp [intOf]; omega
          · have hjk' : j = k := by omega
            have e0 : rows X j (k - j) = [] := by rw [show k - j = 0 by omega]; rfl
            rw [e0] at hrd
            have hd : Calls Try.prog 22 #[.pointer (some ⟨R, 0, none⟩)] wr fun e w' => e = .returned (.int .i64 0) ∧ wr = w' := rdone_any R ⟨[].toArray⟩ false wr hrd
            have hj100 : (100 : Int) ≤ (j : Int) := by omega
            have hjl : (j : Int) < (len : Int) := by omega
            clear hX hsm e0 hjk' hkl0
            go_wp2_with (first | (go_at_call 22; refine hd.mono ?_; rintro e w2 ⟨rfl, rfl⟩) | (go_at_call 14; refine (awake_any _).mono ?_; rintro e w2 ⟨rfl, ha⟩))
            go_ret
            exact ⟨rfl, hb2.trans (ha.mono hsz2)⟩
      · have hkl' : (len : Int) ≤ (k : Int) := by omega
        clear hlt
        go_wp2_with (first | (go_at_call 13; refine hstr.mono ?_; rintro e w2 ⟨rfl, rfl⟩) | (go_at_call 15; refine hof.mono ?_; rintro e w2 ⟨rfl, rfl⟩))
        go_loopw [6] (fun i wx => ∃ j : Nat, j ≤ k ∧ i = .int .i64 j ∧ Rd wx R ⟨(rows X j (k - j)).toArray⟩ false ∧ Below base w wx) (fun i _ => len - (intOf i).toNat)
        case atStart => exact ⟨0, by omega, rfl, hrd, hb2⟩
        case round =>
          clear hrd hb2 hstr hof
          obtain ⟨j, hjk, rfl, hrd, hb2⟩ := hrel
          have hsz2 : base ≤ wr.heap.size := by have := lt_of_block hrd; omega
          by_cases hj : j < k
          · have hjl : (j : Int) < (len : Int) := by omega
            have hj1 : (j : Int) < 100 := by omega
            obtain ⟨rest, hrest⟩ : ∃ rest, rest = rows X (j + 1) (k - (j + 1)) := ⟨_, rfl⟩
            have hcut : rows X j (k - j) = trio (X j) ++ rest := by rw [hrest, show k - j = (k - (j + 1)) + 1 by omega]; rfl
            have hlr := rows_len hX hsm hkl0 (k - (j + 1)) (j + 1) (by omega)
            rw [← hrest] at hlr
            have hS := hsm j hj
            have hit := cellsB (hX j (by omega)) hb2 hbk
            obtain ⟨x, hx⟩ : ∃ x, X j = x := ⟨_, rfl⟩
            rw [hcut] at hrd
            rw [hx] at hit hS hrd
            obtain ⟨K, N, U, S⟩ := x
            have c1 := hit.c1
            have c2 := hit.c2
            have c3 := hit.c3
            have lo := hit.lo
            have hi := hit.hi
            have hu := hit.u
            simp only at c1 c2 c3 lo hi hu hS
            have z1 := enc_len_ten (zig_bound lo hi)
            have z2 := enc_len_ten hu
            have z3 := enc_len_ten (n := S.size) (by omega)
            have z4 := Lib.size_eq S
            have m3 : (lenText S ++ rest).length ≤ 9223372036854775807 := by unfold lenText; simp only [List.length_append]; omega
            have m2 : (enc U ++ (lenText S ++ rest)).length ≤ 9223372036854775807 := by unfold lenText; simp only [List.length_append]; omega
            have m1 : (enc (zig N) ++ (enc U ++ (lenText S ++ rest))).length ≤ 9223372036854775807 := by unfold lenText; simp only [List.length_append]; omega
            have e0 : trio (K, N, U, S) ++ rest = enc (zig N) ++ (enc U ++ (lenText S ++ rest)) := by simp [trio]
            rw [e0] at hrd
            have hne : bk ≠ R := by omega
            have HR : Hid (rest = rows X (j + 1) (k - (j + 1))) := hrest
            clear hrest hcut hlr hx e0 z1 z2 z3 z4 hX hsm
            go_wp2_with fail
            go_region_held3 (fun w' => w'.cell? ⟨bk, off + j * 4 + 1, none⟩ = some (.int .i64 N) ∧ w'.cell? ⟨bk, off + j * 4 + 2, none⟩ = some (.int .u64 U) ∧ w'.cell? ⟨bk, off + j * 4 + 3, none⟩ = some (.string S)) (go_keep)
              (first
                | (go_at_call 20; refine (readT R S hS rest m3 _ ?_).mono ?_; exact x2; rintro e w3 ⟨rfl, x3, g3⟩; have i3 := itemG i2 g3 hne; have f1 := i3.c1; have f2 := i3.c2; have f3 := i3.c3; simp only at f1 f2 f3)
                | (go_at_call 18; refine (readU R U hu _ m2 _ ?_).mono ?_; exact x1; rintro e w2 ⟨rfl, x2, g2⟩; have i2 := itemG i1 g2 hne; have e1 := i2.c1; have e2 := i2.c2; have e3 := i2.c3; simp only at e1 e2 e3)
                | (go_at_call 16; refine (readI R N lo hi _ m1 _ ?_).mono ?_; exact hrd; rintro e w1 ⟨rfl, x1, g1⟩; have i1 := itemG hit ⟨g1.os, g1.tape, g1.output, g1.size, g1.block⟩ hne; have d1 := i1.c1; have d2 := i1.c2; have d3 := i1.c3; simp only at d1 d2 d3))
            go_wp2
            rw [HR.out] at x3
            have b3 : Below base w w3 := below_far (below_far (below_far hb2 ⟨g1.os, g1.tape, g1.output, g1.size, g1.block⟩ hsz2 (by omega)) g2 (Nat.le_trans hsz2 g1.size) (by omega)) g3 (Nat.le_trans (Nat.le_trans hsz2 g1.size) g2.size) (by omega)
            go_roundw
            case rel => exact ⟨j + 1, by omega, by go_num, x3, b3⟩
            case measure => simp [intOf]; omega
          · have hjk' : j = k := by omega
            have e0 : rows X j (k - j) = [] := by rw [show k - j = 0 by omega]; rfl
            rw [e0] at hrd
            have hd : Calls Try.prog 22 #[.pointer (some ⟨R, 0, none⟩)] wr fun e w' => e = .returned (.int .i64 0) ∧ wr = w' := rdone_any R ⟨[].toArray⟩ false wr hrd
            have hjl : (len : Int) ≤ (j : Int) := by omega
            clear hX hsm e0 hjk' hkl0
            go_wp2_with (first | (go_at_call 22; refine hd.mono ?_; rintro e w2 ⟨rfl, rfl⟩) | (go_at_call 14; refine (awake_any _).mono ?_; rintro e w2 ⟨rfl, ha⟩))
            go_ret
            exact ⟨rfl, hb2.trans (ha.mono hsz2)⟩

set_option maxRecDepth 100000 in
theorem walk_none (a : Option Addr) (cap : Nat) (w : World) : Calls Try.prog 5 #[.slice a 0 cap] w fun e w' => e = .returned (.bool true) ∧ Below w.heap.size w w' := by
  obtain ⟨base, hbase⟩ : ∃ base, w.heap.size = base := ⟨_, rfl⟩
  have hnew := new_any w
  have hw0 := Wr.new w
  have hstr := wstring_any _ _ _ _ _ hw0
  have hof := of_any ⟨[].toArray⟩ (w.alloc (.cells #[.slice Option.none 0 0] 53))
  have hrd := Rd.new (w.alloc (.cells #[.slice Option.none 0 0] 53)) ⟨[].toArray⟩
  have hd := rdone_any _ _ _ _ hrd
  have e2 : (w.alloc (.cells #[.slice Option.none 0 0] 53)).heap.size = base + 1 := by simp; omega
  have hb2 : Below base w ((w.alloc (.cells #[.slice Option.none 0 0] 53)).alloc (.cells #[.string ⟨[].toArray⟩, .bool false] 61)) := ((Below.refl base w).alloc (by omega) _).alloc (by omega) _
  have hs2 : base ≤ ((w.alloc (.cells #[.slice Option.none 0 0] 53)).alloc (.cells #[.string ⟨[].toArray⟩, .bool false] 61)).heap.size := by simp; omega
  rw [hbase] at hnew hstr ⊢
  rw [e2] at hof hd
  clear hw0 hrd e2
  go_enter Try.func5, Try.ntmps5
  go_wp2_with (go_at_call 8; refine hnew.mono ?_; rintro e w1 ⟨rfl, rfl⟩)
  refine wp_loop_rounds 1 ?_
  rw [rounds_succ]
  go_wp2_with (first | (go_at_call 13; refine hstr.mono ?_; rintro e w2 ⟨rfl, rfl⟩) | (go_at_call 15; refine hof.mono ?_; rintro e w2 ⟨rfl, rfl⟩))
  refine wp_loop_rounds 1 ?_
  rw [rounds_succ]
  go_wp2_with (first | (go_at_call 22; refine hd.mono ?_; rintro e w2 ⟨rfl, rfl⟩) | (go_at_call 14; refine (awake_any _).mono ?_; rintro e w2 ⟨rfl, ha⟩))
  go_ret
  exact ⟨rfl, hb2.trans (ha.mono hs2)⟩
end Go.Proofs.Ytbheaolodpiocaa.codecBack
