/-
  Snapshots in the document's words (package latchkeyref12), over its disk as a look-up of names. The conditions: at most 99998 files, each with at most 4194304 bytes.
-/
import Derived.Test.YtkdglkaeglhibaaGreatDoorPPackB
import Derived.Test.YtkdglkaeglhibaaGreatDoorPPackC
import Derived.Test.YtkdglkaeglhibaaGreatDoorPPlC
import Derived.Test.YtkdglkaeglhibaaGreatDoorPSnPlain
namespace Go.Proofs.YtkdglkaeglhibaaGreatDoor
open Go.RowKit

theorem new_reader (w : World) (t : ByteArray) : Rp (w.alloc (.cells #[.string t, .bool false] 83)) w.heap.size t.size t false := ⟨t, ⟨fun _ => rfl, fun h => by cases h⟩, Nat.le_refl _, heap_alloc_new w _⟩
section
variable {w : World} {base D : Nat} {S : Nat → Prop} {L : Look} {clock cnt : Nat}
set_option maxHeartbeats 1600000 in
set_option maxRecDepth 100000 in
theorem rload_no (h : RD w base D S L clock cnt) (hc : cnt ≤ 99999) (hn : L snapB = none) :
    Calls Tryz.prog 12 #[.pointer (some ⟨D, 0, none⟩)] w fun e w' => e = .returned (.tuple #[.int .i64 0, .string ⟨#[]⟩, .int .i64 5]) ∧ Below w.heap.size w w' := by
  have q1 := rd_read_no h hc snapB hn
  unfold snapB at q1
  go_enter Tryz.func12, Tryz.ntmps12
  go_wp2_with (go_at_call 35; refine q1.mono ?_; rintro e w1 ⟨rfl, rfl⟩)
  go_ret3
  exact ⟨rfl, Below.refl _ _⟩
set_option maxHeartbeats 1600000 in
set_option maxRecDepth 100000 in
theorem rload_f (s t : ByteArray) (a c : Nat) (q1 : Calls Tryz.prog 35 #[.pointer (some ⟨D, 0, none⟩), .string ⟨#[115, 110, 97, 112]⟩] w fun e w' => e = .returned (.tuple #[.string s, .int .i64 0]) ∧ Below w.heap.size w w') (q2 : ∀ w, Calls Tryz.prog 36 #[.string s] w fun e w' => e = .returned (.tuple #[.string t, .int .i64 (a : Int), .int .i64 (c : Int)]) ∧ Below w.heap.size w w') (hc : ¬ c = 0) :
    Calls Tryz.prog 12 #[.pointer (some ⟨D, 0, none⟩)] w fun e w' => e = .returned (.tuple #[.int .i64 0, .string ⟨#[]⟩, .int .i64 2]) ∧ Below w.heap.size w w' := by
  have f1 : ((c : Int) != 0) = true := by simp; omega
  go_enter Tryz.func12, Tryz.ntmps12
  go_wp2_with (first
    | (go_at_call 36; refine (q2 _).mono ?_; rintro e w2 ⟨rfl, b2⟩; have r2 := new_reader w2 t)
    | (go_at_call 35; refine q1.mono ?_; rintro e w1 ⟨rfl, b1⟩))
  go_ret3
  exact ⟨rfl, bmm b1 b1.size b2⟩
set_option maxHeartbeats 1600000 in
set_option maxRecDepth 100000 in
theorem rload_l (s t : ByteArray) (a c : Nat) (q1 : Calls Tryz.prog 35 #[.pointer (some ⟨D, 0, none⟩), .string ⟨#[115, 110, 97, 112]⟩] w fun e w' => e = .returned (.tuple #[.string s, .int .i64 0]) ∧ Below w.heap.size w w') (q2 : ∀ w, Calls Tryz.prog 36 #[.string s] w fun e w' => e = .returned (.tuple #[.string t, .int .i64 (a : Int), .int .i64 (c : Int)]) ∧ Below w.heap.size w w') (hc : c = 0) (ha : ¬ a = s.size) :
    Calls Tryz.prog 12 #[.pointer (some ⟨D, 0, none⟩)] w fun e w' => e = .returned (.tuple #[.int .i64 0, .string ⟨#[]⟩, .int .i64 2]) ∧ Below w.heap.size w w' := by
  have f1 : ((c : Int) != 0) = false := by simp; omega
  have f2 : ((a : Int) != (s.size : Int)) = true := by simp; omega
  go_enter Tryz.func12, Tryz.ntmps12
  go_wp2_with (first
    | (go_at_call 36; refine (q2 _).mono ?_; rintro e w2 ⟨rfl, b2⟩; have r2 := new_reader w2 t)
    | (go_at_call 35; refine q1.mono ?_; rintro e w1 ⟨rfl, b1⟩))
  go_ret3
  exact ⟨rfl, bmm b1 b1.size b2⟩
set_option maxHeartbeats 1600000 in
set_option maxRecDepth 100000 in
theorem rload_d (s t : ByteArray) (a c : Nat) (q1 : Calls Tryz.prog 35 #[.pointer (some ⟨D, 0, none⟩), .string ⟨#[115, 110, 97, 112]⟩] w fun e w' => e = .returned (.tuple #[.string s, .int .i64 0]) ∧ Below w.heap.size w w') (q2 : ∀ w, Calls Tryz.prog 36 #[.string s] w fun e w' => e = .returned (.tuple #[.string t, .int .i64 (a : Int), .int .i64 (c : Int)]) ∧ Below w.heap.size w w') (hc : c = 0) (ha : a = s.size) (htl : t.size ≤ 9223372036854775807) {N1 : Nat} {s1 s2 T1 : ByteArray} {b1' b2' : Bool} (hU : rU t false = (N1, s1, b1')) (hT : rT s1 b1' = (T1, s2, b2')) (hd : ¬ rD s2 b2' = 0) :
    Calls Tryz.prog 12 #[.pointer (some ⟨D, 0, none⟩)] w fun e w' => e = .returned (.tuple #[.int .i64 0, .string ⟨#[]⟩, .int .i64 2]) ∧ Below w.heap.size w w' := by
  have f1 : ((c : Int) != 0) = false := by simp; omega
  have f2 : ((a : Int) != (s.size : Int)) = false := by simp; omega
  have f3 : (rD s2 b2' != 0) = true := by simpa using hd
  clear hc ha
  go_enter Tryz.func12, Tryz.ntmps12
  go_wp2_with (first
    | (go_at_call 39; refine (pdone r4).mono ?_; rintro e w5 ⟨rfl, rfl⟩)
    | (go_at_call 38; refine (ptext' htl r3 hT).mono ?_; rintro e w4 ⟨rfl, r4, g4⟩)
    | (go_at_call 37; refine (pint' htl r2 hU).mono ?_; rintro e w3 ⟨rfl, r3, g3⟩)
    | (go_at_call 36; refine (q2 _).mono ?_; rintro e w2 ⟨rfl, b2⟩; have r2 := new_reader w2 t)
    | (go_at_call 35; refine q1.mono ?_; rintro e w1 ⟨rfl, b1⟩))
  go_ret3
  have c2 := bmm b1 b1.size b2
  have c2a := c2.alloc c2.size (.cells #[.string t, .bool false] 83)
  have c3 := c2a.grown g3 c2a.size (fun k hk => by have := Option.some.inj hk; have := c2.size; omega)
  have c4 := c3.grown g4 c3.size (fun k hk => by have := Option.some.inj hk; have := c2.size; omega)
  exact ⟨rfl, c4⟩
set_option maxHeartbeats 1600000 in
set_option maxRecDepth 100000 in
theorem rload_n1 (s t : ByteArray) (a c : Nat) (q1 : Calls Tryz.prog 35 #[.pointer (some ⟨D, 0, none⟩), .string ⟨#[115, 110, 97, 112]⟩] w fun e w' => e = .returned (.tuple #[.string s, .int .i64 0]) ∧ Below w.heap.size w w') (q2 : ∀ w, Calls Tryz.prog 36 #[.string s] w fun e w' => e = .returned (.tuple #[.string t, .int .i64 (a : Int), .int .i64 (c : Int)]) ∧ Below w.heap.size w w') (hc : c = 0) (ha : a = s.size) (htl : t.size ≤ 9223372036854775807) {N1 : Nat} {s1 s2 T1 : ByteArray} {b1' b2' : Bool} (hU : rU t false = (N1, s1, b1')) (hT : rT s1 b1' = (T1, s2, b2')) (hd : rD s2 b2' = 0) (h1 : zag N1 < 1) :
    Calls Tryz.prog 12 #[.pointer (some ⟨D, 0, none⟩)] w fun e w' => e = .returned (.tuple #[.int .i64 0, .string ⟨#[]⟩, .int .i64 2]) ∧ Below w.heap.size w w' := by
  have f1 : ((c : Int) != 0) = false := by simp; omega
  have f2 : ((a : Int) != (s.size : Int)) = false := by simp; omega
  have f3 : (rD s2 b2' != 0) = false := by rw [hd]; rfl
  have f4 : decide (zag N1 < 1) = true := decide_eq_true (by omega)
  clear hc ha
  go_enter Tryz.func12, Tryz.ntmps12
  go_wp2_with (first
    | (go_at_call 39; refine (pdone r4).mono ?_; rintro e w5 ⟨rfl, rfl⟩)
    | (go_at_call 38; refine (ptext' htl r3 hT).mono ?_; rintro e w4 ⟨rfl, r4, g4⟩)
    | (go_at_call 37; refine (pint' htl r2 hU).mono ?_; rintro e w3 ⟨rfl, r3, g3⟩)
    | (go_at_call 36; refine (q2 _).mono ?_; rintro e w2 ⟨rfl, b2⟩; have r2 := new_reader w2 t)
    | (go_at_call 35; refine q1.mono ?_; rintro e w1 ⟨rfl, b1⟩))
  go_ret3
  have c2 := bmm b1 b1.size b2
  have c2a := c2.alloc c2.size (.cells #[.string t, .bool false] 83)
  have c3 := c2a.grown g3 c2a.size (fun k hk => by have := Option.some.inj hk; have := c2.size; omega)
  have c4 := c3.grown g4 c3.size (fun k hk => by have := Option.some.inj hk; have := c2.size; omega)
  exact ⟨rfl, c4⟩
set_option maxHeartbeats 1600000 in
set_option maxRecDepth 100000 in
theorem rload_n2 (s t : ByteArray) (a c : Nat) (q1 : Calls Tryz.prog 35 #[.pointer (some ⟨D, 0, none⟩), .string ⟨#[115, 110, 97, 112]⟩] w fun e w' => e = .returned (.tuple #[.string s, .int .i64 0]) ∧ Below w.heap.size w w') (q2 : ∀ w, Calls Tryz.prog 36 #[.string s] w fun e w' => e = .returned (.tuple #[.string t, .int .i64 (a : Int), .int .i64 (c : Int)]) ∧ Below w.heap.size w w') (hc : c = 0) (ha : a = s.size) (htl : t.size ≤ 9223372036854775807) {N1 : Nat} {s1 s2 T1 : ByteArray} {b1' b2' : Bool} (hU : rU t false = (N1, s1, b1')) (hT : rT s1 b1' = (T1, s2, b2')) (hd : rD s2 b2' = 0) (h2 : 1099511627776 < zag N1) :
    Calls Tryz.prog 12 #[.pointer (some ⟨D, 0, none⟩)] w fun e w' => e = .returned (.tuple #[.int .i64 0, .string ⟨#[]⟩, .int .i64 2]) ∧ Below w.heap.size w w' := by
  have f1 : ((c : Int) != 0) = false := by simp; omega
  have f2 : ((a : Int) != (s.size : Int)) = false := by simp; omega
  have f3 : (rD s2 b2' != 0) = false := by rw [hd]; rfl
  have f4 : decide (zag N1 < 1) = false := decide_eq_false (by omega)
  have f5 : decide ((1099511627776 : Int) < zag N1) = true := decide_eq_true (by omega)
  clear hc ha
  go_enter Tryz.func12, Tryz.ntmps12
  go_wp2_with (first
    | (go_at_call 39; refine (pdone r4).mono ?_; rintro e w5 ⟨rfl, rfl⟩)
    | (go_at_call 38; refine (ptext' htl r3 hT).mono ?_; rintro e w4 ⟨rfl, r4, g4⟩)
    | (go_at_call 37; refine (pint' htl r2 hU).mono ?_; rintro e w3 ⟨rfl, r3, g3⟩)
    | (go_at_call 36; refine (q2 _).mono ?_; rintro e w2 ⟨rfl, b2⟩; have r2 := new_reader w2 t)
    | (go_at_call 35; refine q1.mono ?_; rintro e w1 ⟨rfl, b1⟩))
  go_ret3
  have c2 := bmm b1 b1.size b2
  have c2a := c2.alloc c2.size (.cells #[.string t, .bool false] 83)
  have c3 := c2a.grown g3 c2a.size (fun k hk => by have := Option.some.inj hk; have := c2.size; omega)
  have c4 := c3.grown g4 c3.size (fun k hk => by have := Option.some.inj hk; have := c2.size; omega)
  exact ⟨rfl, c4⟩
set_option maxHeartbeats 1600000 in
set_option maxRecDepth 100000 in
theorem rload_t (s t : ByteArray) (a c : Nat) (q1 : Calls Tryz.prog 35 #[.pointer (some ⟨D, 0, none⟩), .string ⟨#[115, 110, 97, 112]⟩] w fun e w' => e = .returned (.tuple #[.string s, .int .i64 0]) ∧ Below w.heap.size w w') (q2 : ∀ w, Calls Tryz.prog 36 #[.string s] w fun e w' => e = .returned (.tuple #[.string t, .int .i64 (a : Int), .int .i64 (c : Int)]) ∧ Below w.heap.size w w') (hc : c = 0) (ha : a = s.size) (htl : t.size ≤ 9223372036854775807) {N1 : Nat} {s1 s2 T1 : ByteArray} {b1' b2' : Bool} (hU : rU t false = (N1, s1, b1')) (hT : rT s1 b1' = (T1, s2, b2')) (hd : rD s2 b2' = 0) (h1 : 1 ≤ zag N1) (h2 : zag N1 ≤ 1099511627776) (h3 : 524224 < T1.size) :
    Calls Tryz.prog 12 #[.pointer (some ⟨D, 0, none⟩)] w fun e w' => e = .returned (.tuple #[.int .i64 0, .string ⟨#[]⟩, .int .i64 2]) ∧ Below w.heap.size w w' := by
  have f1 : ((c : Int) != 0) = false := by simp; omega
  have f2 : ((a : Int) != (s.size : Int)) = false := by simp; omega
  have f3 : (rD s2 b2' != 0) = false := by rw [hd]; rfl
  have f4 : decide (zag N1 < 1) = false := decide_eq_false (by omega)
  have f5 : decide ((1099511627776 : Int) < zag N1) = false := decide_eq_false (by omega)
  have f6 : decide ((524224 : Int) < (T1.size : Int)) = true := decide_eq_true (by omega)
  clear hc ha
  go_enter Tryz.func12, Tryz.ntmps12
  go_wp2_with (first
    | (go_at_call 39; refine (pdone r4).mono ?_; rintro e w5 ⟨rfl, rfl⟩)
    | (go_at_call 38; refine (ptext' htl r3 hT).mono ?_; rintro e w4 ⟨rfl, r4, g4⟩)
    | (go_at_call 37; refine (pint' htl r2 hU).mono ?_; rintro e w3 ⟨rfl, r3, g3⟩)
    | (go_at_call 36; refine (q2 _).mono ?_; rintro e w2 ⟨rfl, b2⟩; have r2 := new_reader w2 t)
    | (go_at_call 35; refine q1.mono ?_; rintro e w1 ⟨rfl, b1⟩))
  go_ret3
  have c2 := bmm b1 b1.size b2
  have c2a := c2.alloc c2.size (.cells #[.string t, .bool false] 83)
  have c3 := c2a.grown g3 c2a.size (fun k hk => by have := Option.some.inj hk; have := c2.size; omega)
  have c4 := c3.grown g4 c3.size (fun k hk => by have := Option.some.inj hk; have := c2.size; omega)
  exact ⟨rfl, c4⟩
set_option maxHeartbeats 1600000 in
set_option maxRecDepth 100000 in
theorem rload_y (s t : ByteArray) (a c : Nat) (q1 : Calls Tryz.prog 35 #[.pointer (some ⟨D, 0, none⟩), .string ⟨#[115, 110, 97, 112]⟩] w fun e w' => e = .returned (.tuple #[.string s, .int .i64 0]) ∧ Below w.heap.size w w') (q2 : ∀ w, Calls Tryz.prog 36 #[.string s] w fun e w' => e = .returned (.tuple #[.string t, .int .i64 (a : Int), .int .i64 (c : Int)]) ∧ Below w.heap.size w w') (hc : c = 0) (ha : a = s.size) (htl : t.size ≤ 9223372036854775807) {N1 : Nat} {s1 s2 T1 : ByteArray} {b1' b2' : Bool} (hU : rU t false = (N1, s1, b1')) (hT : rT s1 b1' = (T1, s2, b2')) (hd : rD s2 b2' = 0) (h1 : 1 ≤ zag N1) (h2 : zag N1 ≤ 1099511627776) (h3 : T1.size ≤ 524224) :
    Calls Tryz.prog 12 #[.pointer (some ⟨D, 0, none⟩)] w fun e w' => e = .returned (.tuple #[.int .i64 (zag N1), .string T1, .int .i64 0]) ∧ Below w.heap.size w w' := by
  have f1 : ((c : Int) != 0) = false := by simp; omega
  have f2 : ((a : Int) != (s.size : Int)) = false := by simp; omega
  have f3 : (rD s2 b2' != 0) = false := by rw [hd]; rfl
  have f4 : decide (zag N1 < 1) = false := decide_eq_false (by omega)
  have f5 : decide ((1099511627776 : Int) < zag N1) = false := decide_eq_false (by omega)
  have f6 : decide ((524224 : Int) < (T1.size : Int)) = false := decide_eq_false (by omega)
  clear hc ha
  go_enter Tryz.func12, Tryz.ntmps12
  go_wp2_with (first
    | (go_at_call 39; refine (pdone r4).mono ?_; rintro e w5 ⟨rfl, rfl⟩)
    | (go_at_call 38; refine (ptext' htl r3 hT).mono ?_; rintro e w4 ⟨rfl, r4, g4⟩)
    | (go_at_call 37; refine (pint' htl r2 hU).mono ?_; rintro e w3 ⟨rfl, r3, g3⟩)
    | (go_at_call 36; refine (q2 _).mono ?_; rintro e w2 ⟨rfl, b2⟩; have r2 := new_reader w2 t)
    | (go_at_call 35; refine q1.mono ?_; rintro e w1 ⟨rfl, b1⟩))
  go_ret3
  have c2 := bmm b1 b1.size b2
  have c2a := c2.alloc c2.size (.cells #[.string t, .bool false] 83)
  have c3 := c2a.grown g3 c2a.size (fun k hk => by have := Option.some.inj hk; have := c2.size; omega)
  have c4 := c3.grown g4 c3.size (fun k hk => by have := Option.some.inj hk; have := c2.size; omega)
  exact ⟨rfl, c4⟩
/-- Load, of a file that is there. -/
theorem rload_some (h : RD w base D S L clock cnt) (hc : cnt ≤ 99999) {bs : List BB} (hn : L snapB = some bs) (hb : bs.length ≤ 4194304) :
    Calls Tryz.prog 12 #[.pointer (some ⟨D, 0, none⟩)] w fun e w' => e = .returned (.tuple #[.int .i64 (loadS (bytesR bs)).1, .string (loadS (bytesR bs)).2.1, .int .i64 (loadS (bytesR bs)).2.2]) ∧ Below w.heap.size w w' := by
  have q1 := rd_read h hc snapB bs hn hb
  have hl : (bytesR bs).length = bs.length := by unfold bytesR; rw [List.length_map]
  obtain ⟨s, hs⟩ : ∃ s, s = textOf (bytesR bs) := ⟨_, rfl⟩
  have hsl : s.data.toList = bytesR bs := by rw [hs]; rfl
  have hsz : s.size = (bytesR bs).length := by rw [Lib.size_eq, hsl]
  rw [← hs] at q1
  have q2 := fun w => rfirst_any s (by omega) w
  unfold firstT at q2
  rw [hsl] at q2
  by_cases hf : (firstOf (bytesR bs)).2.2 = 0 ∧ (firstOf (bytesR bs)).2.1 = (bytesR bs).length
  · have hok := firstOf_ok hf.1
    obtain ⟨t, ht⟩ : ∃ t : ByteArray, t = ⟨(firstOf (bytesR bs)).1.toArray⟩ := ⟨_, rfl⟩
    have htl : t.size ≤ 9223372036854775807 := by rw [ht, Lib.size_eq]; simp only; omega
    rw [← ht] at q2
    obtain ⟨⟨N1, s1, b1⟩, hU⟩ : ∃ x, rU t false = x := ⟨_, rfl⟩
    obtain ⟨⟨T1, s2, b2⟩, hT⟩ : ∃ x, rT s1 b1 = x := ⟨_, rfl⟩
    have hr : readS t = (zag N1, T1, rD s2 b2) := by
      unfold readS
      rw [hU]
      simp only
      rw [hT]
    have hload : loadS (bytesR bs) = if rD s2 b2 = 0 ∧ mayS (zag N1) T1 = true then (zag N1, T1, 0) else (0, ⟨#[]⟩, 2) := by
      unfold loadS
      rw [← ht, hr]
      by_cases hx : rD s2 b2 = 0 ∧ mayS (zag N1) T1 = true
      · rw [if_pos ⟨hf, hx⟩, if_pos hx]
      · rw [if_neg (fun y => hx y.2), if_neg hx]
    rw [hload]
    have ha : (firstOf (bytesR bs)).2.1 = s.size := hf.2.trans hsz.symm
    by_cases hd : rD s2 b2 = 0
    · by_cases h1 : 1 ≤ zag N1
      · by_cases h2 : zag N1 ≤ 1099511627776
        · by_cases h3 : T1.size ≤ 524224
          · rw [if_pos ⟨hd, by unfold mayS; simp only [h1, h2, h3, decide_true, Bool.and_self]⟩]
            exact rload_y s t _ _ q1 q2 hf.1 ha htl hU hT hd h1 h2 h3
          · rw [if_neg (fun y => h3 (mayS_parts y.2).2.2)]
            exact rload_t s t _ _ q1 q2 hf.1 ha htl hU hT hd h1 h2 (by omega)
        · rw [if_neg (fun y => h2 (mayS_parts y.2).2.1)]
          exact rload_n2 s t _ _ q1 q2 hf.1 ha htl hU hT hd (by omega)
      · rw [if_neg (fun y => h1 (mayS_parts y.2).1)]
        exact rload_n1 s t _ _ q1 q2 hf.1 ha htl hU hT hd (by omega)
    · rw [if_neg (fun y => hd y.1)]
      exact rload_d s t _ _ q1 q2 hf.1 ha htl hU hT hd
  · rw [loadS_none hf]
    by_cases h0 : (firstOf (bytesR bs)).2.2 = 0
    · exact rload_l s _ _ _ q1 q2 h0 (fun y => hf ⟨h0, y.trans hsz⟩)
    · exact rload_f s _ _ _ q1 q2 h0
set_option maxHeartbeats 1600000 in
set_option maxRecDepth 100000 in
theorem rsave_1 (n : Int) (t : ByteArray) (w : World) (D : Nat) (h1 : n < 1) :
    Calls Tryz.prog 6 #[.pointer (some ⟨D, 0, none⟩), .int .i64 n, .string t] w fun e w' => e = .returned (.int .i64 1) ∧ w = w' := by
  have f1 : decide (n < 1) = true := decide_eq_true (by omega)
  go_enter Tryz.func6, Tryz.ntmps6
  go_wp2
  go_ret
  exact ⟨rfl, rfl⟩
set_option maxHeartbeats 1600000 in
set_option maxRecDepth 100000 in
theorem rsave_2 (n : Int) (t : ByteArray) (w : World) (D : Nat) (h2 : 1099511627776 < n) :
    Calls Tryz.prog 6 #[.pointer (some ⟨D, 0, none⟩), .int .i64 n, .string t] w fun e w' => e = .returned (.int .i64 1) ∧ w = w' := by
  have f1 : decide (n < 1) = false := decide_eq_false (by omega)
  have f2 : decide ((1099511627776 : Int) < n) = true := decide_eq_true (by omega)
  go_enter Tryz.func6, Tryz.ntmps6
  go_wp2
  go_ret
  exact ⟨rfl, rfl⟩
set_option maxHeartbeats 1600000 in
set_option maxRecDepth 100000 in
theorem rsave_3 (n : Int) (t : ByteArray) (w : World) (D : Nat) (h1 : 1 ≤ n) (h2 : n ≤ 1099511627776) (h3 : 524224 < t.size) :
    Calls Tryz.prog 6 #[.pointer (some ⟨D, 0, none⟩), .int .i64 n, .string t] w fun e w' => e = .returned (.int .i64 1) ∧ w = w' := by
  have f1 : decide (n < 1) = false := decide_eq_false (by omega)
  have f2 : decide ((1099511627776 : Int) < n) = false := decide_eq_false (by omega)
  have f3 : decide ((524224 : Int) < (t.size : Int)) = true := decide_eq_true (by omega)
  go_enter Tryz.func6, Tryz.ntmps6
  go_wp2
  go_ret
  exact ⟨rfl, rfl⟩
/-- Save, of what may not be saved. -/
theorem rsave_no (n : Int) (t : ByteArray) (w : World) (D : Nat) (h : ¬ mayS n t = true) : Calls Tryz.prog 6 #[.pointer (some ⟨D, 0, none⟩), .int .i64 n, .string t] w fun e w' => e = .returned (.int .i64 1) ∧ w = w' := by
  by_cases h1 : 1 ≤ n
  · by_cases h2 : n ≤ 1099511627776
    · by_cases h3 : t.size ≤ 524224
      · exact absurd (by unfold mayS; simp only [h1, h2, h3, decide_true, Bool.and_self]) h
      · exact rsave_3 n t w D h1 h2 (by omega)
    · exact rsave_2 n t w D (by omega)
  · exact rsave_1 n t w D (by omega)
theorem updL_none {n : ByteArray} (hn : L n = none) : updL L n none = L := by
  funext m
  unfold updL
  split
  · rename_i e; rw [e, hn]
  · rfl
theorem updL_same (n : ByteArray) (x : Option (List BB)) : updL L n x n = x := by unfold updL; rw [if_pos rfl]
theorem updL_twice (n : ByteArray) (x y : Option (List BB)) : updL (updL L n x) n y = updL L n y := by
  funext m
  unfold updL
  split <;> rfl
theorem rremove (w : World) (h : RD w base D S L clock cnt) (hc : cnt ≤ 99999) (n : ByteArray) : Calls Tryz.prog 24 #[.pointer (some ⟨D, 0, none⟩), .string n] w fun e w' => ∃ z : Int, e = .returned (.int .i64 z) ∧ ∃ S', RD w' base D S' (updL L n none) clock cnt ∧ Kept w w' S S' := by
  cases hn : L n with
  | none => exact (rd_remove_no h hc n hn).mono fun e w' ⟨h1, h2⟩ => ⟨5, h1, S, by rw [updL_none hn, ← h2]; exact h, by rw [← h2]; exact Kept.refl w S⟩
  | some bs => exact (rd_remove h hc n bs hn).mono fun e w' ⟨h1, h2⟩ => ⟨0, h1, h2⟩
set_option maxHeartbeats 1600000 in
set_option maxRecDepth 100000 in
theorem rsave_walk (h : RD w base D S L clock cnt) (hc : cnt ≤ 99998) (n : Int) (t A B F : ByteArray) (h1 : 1 ≤ n) (h2 : n ≤ 1099511627776) (h3 : t.size ≤ 524224)
    (q1 : ∀ w, Calls Tryz.prog 22 #[.int .i64 n] w fun e w' => e = .returned (.string A) ∧ Below w.heap.size w w') (q2 : ∀ w, Calls Tryz.prog 23 #[.string t] w fun e w' => e = .returned (.string B) ∧ Below w.heap.size w w') (q3 : ∀ w, Calls Tryz.prog 21 #[.string (A ++ B)] w fun e w' => e = .returned (.tuple #[.string F, .int .i64 0]) ∧ Below w.heap.size w w')
    (hAB : A.size + B.size ≤ 9223372036854775807) (hF1 : F.size ≤ 4194304) (hck : clock + F.size < 4611686018427387904) (hst : (stR F.data.toList clock).length ≤ 4194304) :
    Calls Tryz.prog 6 #[.pointer (some ⟨D, 0, none⟩), .int .i64 n, .string t] w fun e w' => e = .returned (.int .i64 0) ∧ ∃ S', RD w' base D S' (updL (updL L begunB none) snapB (some ((stR F.data.toList clock).map sureB))) (clock + F.size) (cnt + 1) ∧ Kept w w' S S' := by
  have f1 : decide (n < 1) = false := decide_eq_false (by omega)
  have f2 : decide ((1099511627776 : Int) < n) = false := decide_eq_false (by omega)
  have f3 : decide ((524224 : Int) < (t.size : Int)) = false := decide_eq_false (by omega)
  clear h1 h2 h3
  go_enter Tryz.func6, Tryz.ntmps6
  go_wp2_with (first
    | (go_at_call 26; refine (rd_rename h6 (by omega) begunB snapB (by decide) (by decide) _ (updL_same _ _)).mono ?_; rintro e w7 ⟨rfl, S7, h7, k7⟩)
    | (go_at_call 25; refine (rd_sync h5 (by omega) begunB _ (updL_same _ _) hst).mono ?_; rintro e w6 ⟨rfl, S6, h6, k6⟩)
    | (go_at_call 10; refine (rd_append_new h4 hc begunB F (by decide) (updL_same _ _) hF1 hck).mono ?_; rintro e w5 ⟨rfl, S5, h5, k5⟩)
    | (go_at_call 24; refine (rremove w3 (h.fresh c3) (by omega) begunB).mono ?_; rintro e w4 ⟨z, rfl, S4, h4, k4⟩)
    | (go_at_call 21; refine (q3 _).mono ?_; rintro e w3 ⟨rfl, b3⟩; have c3 := bmm c2 c2.size b3)
    | (go_at_call 23; refine (q2 _).mono ?_; rintro e w2 ⟨rfl, b2⟩; have c2 := bmm b1 b1.size b2)
    | (go_at_call 22; refine (q1 _).mono ?_; rintro e w1 ⟨rfl, b1⟩))
  go_ret
  rw [updL_twice, updL_twice, updL_twice] at h7
  exact ⟨rfl, S7, h7, ((((Kept.of c3).trans k4).trans k5).trans k6).trans k7⟩
/-- Save, of what may be saved. -/
theorem rsave_yes (h : RD w base D S L clock cnt) (hc : cnt ≤ 99998) (n : Int) (t : ByteArray) (hm : mayS n t = true) (hck : clock + 600000 < 4611686018427387904) :
    Calls Tryz.prog 6 #[.pointer (some ⟨D, 0, none⟩), .int .i64 n, .string t] w fun e w' => e = .returned (.int .i64 0) ∧ ∃ S', RD w' base D S' (updL (updL L begunB none) snapB (some ((stR (fileS n t) clock).map sureB))) (clock + (fileS n t).length) (cnt + 1) ∧ Kept w w' S S' := by
  obtain ⟨h1, h2, h3⟩ := mayS_parts hm
  have hl := encS_len hm
  have hfl : (fileS n t).length = (encS n t).length + 8 := frameOf_len _
  have hadd : (⟨(enc (zig n)).toArray⟩ : ByteArray) ++ ⟨(lenText t).toArray⟩ = ⟨(encS n t).toArray⟩ := append_lists _ _
  have hw : wrapOf ⟨(encS n t).toArray⟩ = (⟨(fileS n t).toArray⟩, 0) := by
    unfold wrapOf
    rw [if_neg (by rw [size_list]; omega)]
    rfl
  have q3 := fun w => rwrap_any ⟨(encS n t).toArray⟩ w
  rw [hw, ← hadd] at q3
  have hst : (stR (fileS n t) clock).length = (fileS n t).length := stR_length _ _
  have := rsave_walk h hc n t _ _ ⟨(fileS n t).toArray⟩ h1 h2 h3 (fint_any n (by omega) (by omega)) (ftext_any t (by omega)) q3 (by rw [size_list, size_list]; unfold encS at hl; rw [List.length_append] at hl; omega) (by rw [size_list]; omega) (by rw [size_list]; omega) (by show (stR (fileS n t) clock).length ≤ _; omega)
  rw [size_list] at this
  exact this
end
end Go.Proofs.YtkdglkaeglhibaaGreatDoor
