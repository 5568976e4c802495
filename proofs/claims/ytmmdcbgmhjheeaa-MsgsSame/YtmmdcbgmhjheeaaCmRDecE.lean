/-
  The contract of the document's own decoding of entries (package latchkeyref03). The condition: the text is no longer than a text of 64 bits' length.
-/
import Derived.Test.YtmmdcbgmhjheeaaCmRDec
namespace Go.Proofs.Ytmmdcbgmhjheeaa
open Go.RowKit

/-- An entry laid in a block of its own. -/
def LiesE (w : World) (X : Nat) (A B K S Q : Int) (T : ByteArray) (N : Int) : Prop := w.heap[X]? = some (.cells #[.int .i64 A, .int .i64 B, .int .i64 K, .int .i64 S, .int .i64 Q, .string T, .int .i64 N] 57 (0, 0))
/-- Its cells. -/
structure BoxE (w : World) (X : Nat) (A B K S Q : Int) (T : ByteArray) (N : Int) : Prop where
  lt : X < w.heap.size
  c0 : w.cell? ⟨X, 0, none⟩ = some (.int .i64 A)
  c1 : w.cell? ⟨X, 1, none⟩ = some (.int .i64 B)
  c2 : w.cell? ⟨X, 2, none⟩ = some (.int .i64 K)
  c3 : w.cell? ⟨X, 3, none⟩ = some (.int .i64 S)
  c4 : w.cell? ⟨X, 4, none⟩ = some (.int .i64 Q)
  c5 : w.cell? ⟨X, 5, none⟩ = some (.string T)
  c6 : w.cell? ⟨X, 6, none⟩ = some (.int .i64 N)
theorem LiesE.box {w : World} {X : Nat} {A B K S Q N : Int} {T : ByteArray} (h : LiesE w X A B K S Q T N) : BoxE w X A B K S Q T N := by
  unfold LiesE at h
  exact ⟨lt_of_block h, by simp [World.cell?, h], by simp [World.cell?, h], by simp [World.cell?, h], by simp [World.cell?, h], by simp [World.cell?, h], by simp [World.cell?, h], by simp [World.cell?, h]⟩
theorem LiesE.free {w : World} {X : Nat} {A B K S Q N : Int} {T : ByteArray} (h : LiesE w X A B K S Q T N) (i : Nat) : w.frozen? ⟨X, i, none⟩ = false := by
  unfold LiesE at h
  simp [World.frozen?, h]
theorem LiesE.set0 {w : World} {X : Nat} {A B K S Q N : Int} {T : ByteArray} (h : LiesE w X A B K S Q T N) (x : Int) : LiesE (w.setCell ⟨X, 0, none⟩ (.int .i64 x)) X x B K S Q T N := Lib.heap_setCell_same (i := 0) h _
theorem LiesE.set1 {w : World} {X : Nat} {A B K S Q N : Int} {T : ByteArray} (h : LiesE w X A B K S Q T N) (x : Int) : LiesE (w.setCell ⟨X, 1, none⟩ (.int .i64 x)) X A x K S Q T N := Lib.heap_setCell_same (i := 1) h _
theorem LiesE.set2 {w : World} {X : Nat} {A B K S Q N : Int} {T : ByteArray} (h : LiesE w X A B K S Q T N) (x : Int) : LiesE (w.setCell ⟨X, 2, none⟩ (.int .i64 x)) X A B x S Q T N := Lib.heap_setCell_same (i := 2) h _
theorem LiesE.set3 {w : World} {X : Nat} {A B K S Q N : Int} {T : ByteArray} (h : LiesE w X A B K S Q T N) (x : Int) : LiesE (w.setCell ⟨X, 3, none⟩ (.int .i64 x)) X A B K x Q T N := Lib.heap_setCell_same (i := 3) h _
theorem LiesE.set4 {w : World} {X : Nat} {A B K S Q N : Int} {T : ByteArray} (h : LiesE w X A B K S Q T N) (x : Int) : LiesE (w.setCell ⟨X, 4, none⟩ (.int .i64 x)) X A B K S x T N := Lib.heap_setCell_same (i := 4) h _
theorem LiesE.set5 {w : World} {X : Nat} {A B K S Q N : Int} {T : ByteArray} (h : LiesE w X A B K S Q T N) (x : ByteArray) : LiesE (w.setCell ⟨X, 5, none⟩ (.string x)) X A B K S Q x N := Lib.heap_setCell_same (i := 5) h _
theorem LiesE.set6 {w : World} {X : Nat} {A B K S Q N : Int} {T : ByteArray} (h : LiesE w X A B K S Q T N) (x : Int) : LiesE (w.setCell ⟨X, 6, none⟩ (.int .i64 x)) X A B K S Q T x := Lib.heap_setCell_same (i := 6) h _
theorem LiesE.far {w w' : World} {X : Nat} {A B K S Q N : Int} {T : ByteArray} (h : LiesE w X A B K S Q T N) (hb : w'.heap[X]? = w.heap[X]?) : LiesE w' X A B K S Q T N := by
  unfold LiesE at h ⊢
  rw [hb]
  exact h

/-- Where a decoding stands: the reader, the entry so far, the result, nothing else turned. -/
structure De (w0 : World) (base m : Nat) (w : World) (s : ByteArray) (b : Bool) (A B K S Q : Int) (T : ByteArray) (N : Int) : Prop where
  rd : Rp w (base + 1) m s b
  en : LiesE w (base + 1 + 1) A B K S Q T N
  rs : LiesE w base 0 0 0 0 0 ⟨#[]⟩ 0
  bel : Below base w0 w
theorem De.call {w0 w w' : World} {base m : Nat} {s s' : ByteArray} {b b' : Bool} {A B K S Q N : Int} {T : ByteArray} (h : De w0 base m w s b A B K S Q T N) (hr : Rp w' (base + 1) m s' b') (hg : w.grownBy w' (some (base + 1))) : De w0 base m w' s' b' A B K S Q T N :=
  ⟨hr, h.en.far (hg.block _ h.en.box.lt (by simp)), h.rs.far (hg.block _ h.rs.box.lt (by simp)), h.bel.grown hg (Nat.le_of_lt h.rs.box.lt) (fun k hk => by have := Option.some.inj hk; omega)⟩
theorem De.set {w0 w : World} {base m i : Nat} {v : Value} {s : ByteArray} {b : Bool} {A B K S Q N A' B' K' S' Q' N' : Int} {T T' : ByteArray} (h : De w0 base m w s b A B K S Q T N) (hc : LiesE (w.setCell ⟨base + 1 + 1, i, none⟩ v) (base + 1 + 1) A' B' K' S' Q' T' N') : De w0 base m (w.setCell ⟨base + 1 + 1, i, none⟩ v) s b A' B' K' S' Q' T' N' :=
  ⟨h.rd.far (heap_setCell_other _ _ _ _ (by simp)), hc, h.rs.far (heap_setCell_other _ _ _ _ (by simp; omega)), h.bel.setCell (p := ⟨base + 1 + 1, i, none⟩) (by simp; omega) _⟩
theorem De.below {w0 w w' : World} {base m : Nat} {s : ByteArray} {b : Bool} {A B K S Q N : Int} {T : ByteArray} (h : De w0 base m w s b A B K S Q T N) (hb : Below w.heap.size w w') : De w0 base m w' s b A B K S Q T N :=
  ⟨h.rd.far (hb.block _ h.rd.lt), h.en.far (hb.block _ h.en.box.lt), h.rs.far (hb.block _ h.rs.box.lt), bmm h.bel (Nat.le_of_lt h.rs.box.lt) hb⟩
theorem De.alloc {w0 w : World} {base m : Nat} {s : ByteArray} {b : Bool} {A B K S Q N : Int} {T : ByteArray} (h : De w0 base m w s b A B K S Q T N) (o : Obj) : De w0 base m (w.alloc o) s b A B K S Q T N := h.below ((Below.refl _ w).alloc (Nat.le_refl _) o)

/-- DecodeEntry's two answers. -/
def decET (s : ByteArray) : En × Int := match decE s with | some e => (e, 0) | none => (En.zero, 2)
theorem decET_ok {s : ByteArray} {c : Cm} (h0 : decC (readE s).2.2.1 = some c) (h1 : (readE s).2.2.2 = 0) (h2 : mayE ⟨(readE s).1, (readE s).2.1, c⟩ = true) : decET s = (⟨(readE s).1, (readE s).2.1, c⟩, 0) := by
  unfold decET decE
  rw [h0]
  simp only
  rw [if_pos ⟨h1, h2⟩]
theorem decET_no0 {s : ByteArray} (h0 : decC (readE s).2.2.1 = none) : decET s = (En.zero, 2) := by
  unfold decET decE
  rw [h0]
theorem decET_no {s : ByteArray} {c : Cm} (h0 : decC (readE s).2.2.1 = some c) (h : ¬ ((readE s).2.2.2 = 0 ∧ mayE ⟨(readE s).1, (readE s).2.1, c⟩ = true)) : decET s = (En.zero, 2) := by
  unfold decET decE
  rw [h0]
  simp only
  rw [if_neg h]
theorem decET_no1 {s : ByteArray} (h : ¬ (readE s).2.2.2 = 0) : decET s = (En.zero, 2) := by
  cases h0 : decC (readE s).2.2.1 with
  | none => exact decET_no0 h0
  | some c => exact decET_no h0 (fun x => h x.1)

set_option maxHeartbeats 3200000 in
set_option maxRecDepth 100000 in
theorem rdecodeE_any (s : ByteArray) (hs : s.size ≤ 9223372036854775807) (w : World) :
    Calls Try.prog 38 #[.string s] w fun e w' => e = .returned (.tuple #[.agg #[.int .i64 (decET s).1.slot, .int .i64 (decET s).1.ballot, .int .i64 (decET s).1.cmd.kind, .int .i64 (decET s).1.cmd.session, .int .i64 (decET s).1.cmd.seq, .string (decET s).1.cmd.name, .int .i64 (decET s).1.cmd.n], .int .i64 (decET s).2]) ∧ Below w.heap.size w w' := by
  obtain ⟨N1, s1, b1, h1⟩ : ∃ N s' b', rU s false = (N, s', b') := ⟨_, _, _, rfl⟩
  obtain ⟨N2, s2, b2, h2⟩ : ∃ N s' b', rU s1 b1 = (N, s', b') := ⟨_, _, _, rfl⟩
  obtain ⟨T3, s3, b3, h3⟩ : ∃ N s' b', rT s2 b2 = (N, s', b') := ⟨_, _, _, rfl⟩
  have hread : readE s = (zag N1, zag N2, T3, rD s3 b3) := by
    unfold readE
    simp only [h1, h2, h3]
  have hT3 : T3.size ≤ 9223372036854775807 := by
    have : T3 = (rT s2 b2).1 := by rw [h3]
    rw [this]
    unfold rT
    split
    · exact Nat.zero_le _
    · rename_i hz
      rw [Lib.size_eq, Lib.extract_data, List.length_take]
      omega
  obtain ⟨base, hbase⟩ : ∃ base, w.heap.size = base := ⟨_, rfl⟩
  have st0 : De w base s.size (((w.alloc (.cells #[.int .i64 0, .int .i64 0, .int .i64 0, .int .i64 0, .int .i64 0, .string ⟨#[]⟩, .int .i64 0] 57)).alloc (.cells #[.string s, .bool false] 72)).alloc (.cells #[.int .i64 0, .int .i64 0, .int .i64 0, .int .i64 0, .int .i64 0, .string ⟨#[]⟩, .int .i64 0] 57)) s false 0 0 0 0 0 ⟨#[]⟩ 0 := by
    obtain ⟨n1, n2, n3⟩ := three_new w (.cells #[.int .i64 0, .int .i64 0, .int .i64 0, .int .i64 0, .int .i64 0, .string ⟨#[]⟩, .int .i64 0] 57) (.cells #[.string s, .bool false] 72) (.cells #[.int .i64 0, .int .i64 0, .int .i64 0, .int .i64 0, .int .i64 0, .string ⟨#[]⟩, .int .i64 0] 57) hbase
    exact ⟨⟨s, ⟨fun _ => rfl, fun h => by cases h⟩, Nat.le_refl _, n2⟩, n3, n1, (((Below.refl base w).alloc (by omega) _).alloc (by simp; omega) _).alloc (by simp; omega) _⟩
  have qd := rdecode_any T3 hT3
  rw [hbase]
  cases hc : decC T3 with
  | none =>
    have eT : decT T3 = (Cm.zero, 2) := by unfold decT; rw [hc]
    rw [eT] at qd
    have qd' : ∀ w, Calls Try.prog 40 #[.string T3] w fun e w' => e = .returned (.tuple #[.agg #[.int .i64 0, .int .i64 0, .int .i64 0, .string ⟨#[]⟩, .int .i64 0], .int .i64 2]) ∧ Below w.heap.size w w' := qd
    have hE : decET s = (En.zero, 2) := decET_no0 (by rw [hread]; exact hc)
    rw [hE]
    clear qd eT hE hread hc
    by_cases hD : rD s3 b3 = 0
    · go_enter Try.func38, Try.ntmps38
      go_wp2_with (first
        | (go_at_call 42; refine (pdone sv5.rd).mono ?_; rintro e w5 ⟨rfl, hw⟩; rw [hw] at sv5; clear hw; have y0 := sv5.en.box.c0; have y1 := sv5.en.box.c1; have y2 := sv5.en.box.c2; have y3 := sv5.en.box.c3; have y4 := sv5.en.box.c4; have y5 := sv5.en.box.c5; have y6 := sv5.en.box.c6; have u0 := sv5.rs.box.c0; have u1 := sv5.rs.box.c1; have u2 := sv5.rs.box.c2; have u3 := sv5.rs.box.c3; have u4 := sv5.rs.box.c4; have u5 := sv5.rs.box.c5; have u6 := sv5.rs.box.c6; have v0 := sv5.rs.free 0; have v1 := sv5.rs.free 1; have v2 := sv5.rs.free 2; have v3 := sv5.rs.free 3; have v4 := sv5.rs.free 4; have v5 := sv5.rs.free 5; have v6 := sv5.rs.free 6; have st7 := sv5)
        | (go_at_call 40; refine (qd' _).mono ?_; rintro e w4 ⟨rfl, b4⟩; have st4 := st3.below b4; have lt4 := st4.en.box.lt; have ne4 : base + 1 + 1 ≠ w4.heap.size := Nat.ne_of_lt lt4; have p0 := st4.en.box.c0; have p1 := st4.en.box.c1; have p2 := st4.en.box.c2; have p3 := st4.en.box.c3; have p4 := st4.en.box.c4; have p5 := st4.en.box.c5; have p6 := st4.en.box.c6; have f0 := st4.en.free 0; have f1 := st4.en.free 1; have f2 := st4.en.free 2; have f3 := st4.en.free 3; have f4 := st4.en.free 4; have f5 := st4.en.free 5; have f6 := st4.en.free 6; have sv5 := ((((((st4.set (st4.en.set2 0)).set ((st4.en.set2 0).set3 0)).set (((st4.en.set2 0).set3 0).set4 0)).set ((((st4.en.set2 0).set3 0).set4 0).set5 ⟨#[]⟩)).set (((((st4.en.set2 0).set3 0).set4 0).set5 ⟨#[]⟩).set6 0)).alloc (.cells #[.int .i64 0, .int .i64 0, .int .i64 0, .string ⟨#[]⟩, .int .i64 0] 25)))
        | (go_at_call 39; refine (ptext' hs sv2.rd h3).mono ?_; rintro e w3 ⟨rfl, r3, g3⟩; have st3 := sv2.call r3 g3)
        | (go_at_call 36; have d2 := d1; refine (pint' hs sv1.rd h2).mono ?_; rintro e w2 ⟨rfl, r2, g2⟩; have st2 := sv1.call r2 g2; have f2 := st2.en.free 1; have x2 := st2.en.box.c1; have sv2 := st2.set (st2.en.set1 (zag N2)))
        | (go_at_call 36; refine (pint' hs st0.rd h1).mono ?_; rintro e w1 ⟨rfl, r1, g1⟩; have st1 := st0.call r1 g1; have f1 := st1.en.free 0; have x1 := st1.en.box.c0; have sv1 := st1.set (st1.en.set0 (zag N1)); have d1 : True := trivial))
      have F := (((((((st7.rs.set0 0).set1 0).set2 0).set3 0).set4 0).set5 ⟨#[]⟩).set6 0)
      have FB := (((((((st7.bel.setCell (p := ⟨base, 0, none⟩) (Nat.le_refl base) (.int .i64 0)).setCell (p := ⟨base, 1, none⟩) (Nat.le_refl base) (.int .i64 0)).setCell (p := ⟨base, 2, none⟩) (Nat.le_refl base) (.int .i64 0)).setCell (p := ⟨base, 3, none⟩) (Nat.le_refl base) (.int .i64 0)).setCell (p := ⟨base, 4, none⟩) (Nat.le_refl base) (.int .i64 0)).setCell (p := ⟨base, 5, none⟩) (Nat.le_refl base) (.string ⟨#[]⟩)).setCell (p := ⟨base, 6, none⟩) (Nat.le_refl base) (.int .i64 0))
      have k0 := F.box.c0
      have k1 := F.box.c1
      have k2 := F.box.c2
      have k3 := F.box.c3
      have k4 := F.box.c4
      have k5 := F.box.c5
      have k6 := F.box.c6
      refine bodyPost_ret (v := .tuple #[.agg #[.int .i64 0, .int .i64 0, .int .i64 0, .int .i64 0, .int .i64 0, .string ⟨#[]⟩, .int .i64 0], .int .i64 2]) (by simp [results, Try.results38, go_sem, k0, k1, k2, k3, k4, k5, k6]) rfl ⟨rfl, FB⟩
    · have hD' : (rD s3 b3 != 0) = true := by simpa using hD
      clear hD
      go_enter Try.func38, Try.ntmps38
      go_wp2_with (first
        | (go_at_call 42; refine (pdone sv5.rd).mono ?_; rintro e w5 ⟨rfl, hw⟩; rw [hw] at sv5; clear hw; have y0 := sv5.en.box.c0; have y1 := sv5.en.box.c1; have y2 := sv5.en.box.c2; have y3 := sv5.en.box.c3; have y4 := sv5.en.box.c4; have y5 := sv5.en.box.c5; have y6 := sv5.en.box.c6; have u0 := sv5.rs.box.c0; have u1 := sv5.rs.box.c1; have u2 := sv5.rs.box.c2; have u3 := sv5.rs.box.c3; have u4 := sv5.rs.box.c4; have u5 := sv5.rs.box.c5; have u6 := sv5.rs.box.c6; have v0 := sv5.rs.free 0; have v1 := sv5.rs.free 1; have v2 := sv5.rs.free 2; have v3 := sv5.rs.free 3; have v4 := sv5.rs.free 4; have v5 := sv5.rs.free 5; have v6 := sv5.rs.free 6; have st7 := sv5)
        | (go_at_call 40; refine (qd' _).mono ?_; rintro e w4 ⟨rfl, b4⟩; have st4 := st3.below b4; have lt4 := st4.en.box.lt; have ne4 : base + 1 + 1 ≠ w4.heap.size := Nat.ne_of_lt lt4; have p0 := st4.en.box.c0; have p1 := st4.en.box.c1; have p2 := st4.en.box.c2; have p3 := st4.en.box.c3; have p4 := st4.en.box.c4; have p5 := st4.en.box.c5; have p6 := st4.en.box.c6; have f0 := st4.en.free 0; have f1 := st4.en.free 1; have f2 := st4.en.free 2; have f3 := st4.en.free 3; have f4 := st4.en.free 4; have f5 := st4.en.free 5; have f6 := st4.en.free 6; have sv5 := ((((((st4.set (st4.en.set2 0)).set ((st4.en.set2 0).set3 0)).set (((st4.en.set2 0).set3 0).set4 0)).set ((((st4.en.set2 0).set3 0).set4 0).set5 ⟨#[]⟩)).set (((((st4.en.set2 0).set3 0).set4 0).set5 ⟨#[]⟩).set6 0)).alloc (.cells #[.int .i64 0, .int .i64 0, .int .i64 0, .string ⟨#[]⟩, .int .i64 0] 25)))
        | (go_at_call 39; refine (ptext' hs sv2.rd h3).mono ?_; rintro e w3 ⟨rfl, r3, g3⟩; have st3 := sv2.call r3 g3)
        | (go_at_call 36; have d2 := d1; refine (pint' hs sv1.rd h2).mono ?_; rintro e w2 ⟨rfl, r2, g2⟩; have st2 := sv1.call r2 g2; have f2 := st2.en.free 1; have x2 := st2.en.box.c1; have sv2 := st2.set (st2.en.set1 (zag N2)))
        | (go_at_call 36; refine (pint' hs st0.rd h1).mono ?_; rintro e w1 ⟨rfl, r1, g1⟩; have st1 := st0.call r1 g1; have f1 := st1.en.free 0; have x1 := st1.en.box.c0; have sv1 := st1.set (st1.en.set0 (zag N1)); have d1 : True := trivial))
      have F := (((((((st7.rs.set0 0).set1 0).set2 0).set3 0).set4 0).set5 ⟨#[]⟩).set6 0)
      have FB := (((((((st7.bel.setCell (p := ⟨base, 0, none⟩) (Nat.le_refl base) (.int .i64 0)).setCell (p := ⟨base, 1, none⟩) (Nat.le_refl base) (.int .i64 0)).setCell (p := ⟨base, 2, none⟩) (Nat.le_refl base) (.int .i64 0)).setCell (p := ⟨base, 3, none⟩) (Nat.le_refl base) (.int .i64 0)).setCell (p := ⟨base, 4, none⟩) (Nat.le_refl base) (.int .i64 0)).setCell (p := ⟨base, 5, none⟩) (Nat.le_refl base) (.string ⟨#[]⟩)).setCell (p := ⟨base, 6, none⟩) (Nat.le_refl base) (.int .i64 0))
      have k0 := F.box.c0
      have k1 := F.box.c1
      have k2 := F.box.c2
      have k3 := F.box.c3
      have k4 := F.box.c4
      have k5 := F.box.c5
      have k6 := F.box.c6
      refine bodyPost_ret (v := .tuple #[.agg #[.int .i64 0, .int .i64 0, .int .i64 0, .int .i64 0, .int .i64 0, .string ⟨#[]⟩, .int .i64 0], .int .i64 2]) (by simp [results, Try.results38, go_sem, k0, k1, k2, k3, k4, k5, k6]) rfl ⟨rfl, FB⟩
  | some c =>
    obtain ⟨K, S, Q, T, N⟩ := c
    have eT : decT T3 = (⟨K, S, Q, T, N⟩, 0) := by unfold decT; rw [hc]
    rw [eT] at qd
    have qd' : ∀ w, Calls Try.prog 40 #[.string T3] w fun e w' => e = .returned (.tuple #[.agg #[.int .i64 K, .int .i64 S, .int .i64 Q, .string T, .int .i64 N], .int .i64 0]) ∧ Below w.heap.size w w' := qd
    have qm := rmayE_any (zag N1) (zag N2) K S Q N T
    clear qd eT
    by_cases hD : rD s3 b3 = 0
    · by_cases hm : mayE ⟨zag N1, zag N2, ⟨K, S, Q, T, N⟩⟩ = true
      · have hE : decET s = (⟨zag N1, zag N2, ⟨K, S, Q, T, N⟩⟩, 0) := by
          have := decET_ok (s := s) (c := ⟨K, S, Q, T, N⟩) (by rw [hread]; exact hc) (by rw [hread]; exact hD) (by rw [hread]; exact hm)
          rw [hread] at this
          exact this
        rw [hE]
        rw [hm] at qm
        clear hE hread hc hm
        go_enter Try.func38, Try.ntmps38
        go_wp2_with (first
          | (go_at_call 52; refine (qm _).mono ?_; rintro e w7 ⟨rfl, b7⟩; have st7 := sv5.below b7; have z0 := st7.en.box.c0; have z1 := st7.en.box.c1; have z2 := st7.en.box.c2; have z3 := st7.en.box.c3; have z4 := st7.en.box.c4; have z5 := st7.en.box.c5; have z6 := st7.en.box.c6; have u0 := st7.rs.box.c0; have u1 := st7.rs.box.c1; have u2 := st7.rs.box.c2; have u3 := st7.rs.box.c3; have u4 := st7.rs.box.c4; have u5 := st7.rs.box.c5; have u6 := st7.rs.box.c6; have v0 := st7.rs.free 0; have v1 := st7.rs.free 1; have v2 := st7.rs.free 2; have v3 := st7.rs.free 3; have v4 := st7.rs.free 4; have v5 := st7.rs.free 5; have v6 := st7.rs.free 6)
          | (go_at_call 42; refine (pdone sv5.rd).mono ?_; rintro e w5 ⟨rfl, hw⟩; rw [hw] at sv5; clear hw; have y0 := sv5.en.box.c0; have y1 := sv5.en.box.c1; have y2 := sv5.en.box.c2; have y3 := sv5.en.box.c3; have y4 := sv5.en.box.c4; have y5 := sv5.en.box.c5; have y6 := sv5.en.box.c6)
          | (go_at_call 40; refine (qd' _).mono ?_; rintro e w4 ⟨rfl, b4⟩; have st4 := st3.below b4; have lt4 := st4.en.box.lt; have ne4 : base + 1 + 1 ≠ w4.heap.size := Nat.ne_of_lt lt4; have p0 := st4.en.box.c0; have p1 := st4.en.box.c1; have p2 := st4.en.box.c2; have p3 := st4.en.box.c3; have p4 := st4.en.box.c4; have p5 := st4.en.box.c5; have p6 := st4.en.box.c6; have f0 := st4.en.free 0; have f1 := st4.en.free 1; have f2 := st4.en.free 2; have f3 := st4.en.free 3; have f4 := st4.en.free 4; have f5 := st4.en.free 5; have f6 := st4.en.free 6; have sv5 := ((((((st4.set (st4.en.set2 K)).set ((st4.en.set2 K).set3 S)).set (((st4.en.set2 K).set3 S).set4 Q)).set ((((st4.en.set2 K).set3 S).set4 Q).set5 T)).set (((((st4.en.set2 K).set3 S).set4 Q).set5 T).set6 N)).alloc (.cells #[.int .i64 K, .int .i64 S, .int .i64 Q, .string T, .int .i64 N] 25)))
          | (go_at_call 39; refine (ptext' hs sv2.rd h3).mono ?_; rintro e w3 ⟨rfl, r3, g3⟩; have st3 := sv2.call r3 g3)
          | (go_at_call 36; have d2 := d1; refine (pint' hs sv1.rd h2).mono ?_; rintro e w2 ⟨rfl, r2, g2⟩; have st2 := sv1.call r2 g2; have f2 := st2.en.free 1; have x2 := st2.en.box.c1; have sv2 := st2.set (st2.en.set1 (zag N2)))
          | (go_at_call 36; refine (pint' hs st0.rd h1).mono ?_; rintro e w1 ⟨rfl, r1, g1⟩; have st1 := st0.call r1 g1; have f1 := st1.en.free 0; have x1 := st1.en.box.c0; have sv1 := st1.set (st1.en.set0 (zag N1)); have d1 : True := trivial))
        have F := (((((((st7.rs.set0 (zag N1)).set1 (zag N2)).set2 K).set3 S).set4 Q).set5 T).set6 N)
        have FB := (((((((st7.bel.setCell (p := ⟨base, 0, none⟩) (Nat.le_refl base) (.int .i64 (zag N1))).setCell (p := ⟨base, 1, none⟩) (Nat.le_refl base) (.int .i64 (zag N2))).setCell (p := ⟨base, 2, none⟩) (Nat.le_refl base) (.int .i64 K)).setCell (p := ⟨base, 3, none⟩) (Nat.le_refl base) (.int .i64 S)).setCell (p := ⟨base, 4, none⟩) (Nat.le_refl base) (.int .i64 Q)).setCell (p := ⟨base, 5, none⟩) (Nat.le_refl base) (.string T)).setCell (p := ⟨base, 6, none⟩) (Nat.le_refl base) (.int .i64 N))
        have k0 := F.box.c0
        have k1 := F.box.c1
        have k2 := F.box.c2
        have k3 := F.box.c3
        have k4 := F.box.c4
        have k5 := F.box.c5
        have k6 := F.box.c6
        refine bodyPost_ret (v := .tuple #[.agg #[.int .i64 (zag N1), .int .i64 (zag N2), .int .i64 K, .int .i64 S, .int .i64 Q, .string T, .int .i64 N], .int .i64 0]) (by simp [results, Try.results38, go_sem, k0, k1, k2, k3, k4, k5, k6]) rfl ⟨rfl, FB⟩
      · have hE : decET s = (En.zero, 2) := decET_no (c := ⟨K, S, Q, T, N⟩) (by rw [hread]; exact hc) (by rw [hread]; exact fun h => hm h.2)
        rw [hE]
        rw [show mayE ⟨zag N1, zag N2, ⟨K, S, Q, T, N⟩⟩ = false by simpa using hm] at qm
        clear hE hread hc hm
        go_enter Try.func38, Try.ntmps38
        go_wp2_with (first
          | (go_at_call 52; refine (qm _).mono ?_; rintro e w7 ⟨rfl, b7⟩; have st7 := sv5.below b7; have z0 := st7.en.box.c0; have z1 := st7.en.box.c1; have z2 := st7.en.box.c2; have z3 := st7.en.box.c3; have z4 := st7.en.box.c4; have z5 := st7.en.box.c5; have z6 := st7.en.box.c6; have u0 := st7.rs.box.c0; have u1 := st7.rs.box.c1; have u2 := st7.rs.box.c2; have u3 := st7.rs.box.c3; have u4 := st7.rs.box.c4; have u5 := st7.rs.box.c5; have u6 := st7.rs.box.c6; have v0 := st7.rs.free 0; have v1 := st7.rs.free 1; have v2 := st7.rs.free 2; have v3 := st7.rs.free 3; have v4 := st7.rs.free 4; have v5 := st7.rs.free 5; have v6 := st7.rs.free 6)
          | (go_at_call 42; refine (pdone sv5.rd).mono ?_; rintro e w5 ⟨rfl, hw⟩; rw [hw] at sv5; clear hw; have y0 := sv5.en.box.c0; have y1 := sv5.en.box.c1; have y2 := sv5.en.box.c2; have y3 := sv5.en.box.c3; have y4 := sv5.en.box.c4; have y5 := sv5.en.box.c5; have y6 := sv5.en.box.c6)
          | (go_at_call 40; refine (qd' _).mono ?_; rintro e w4 ⟨rfl, b4⟩; have st4 := st3.below b4; have lt4 := st4.en.box.lt; have ne4 : base + 1 + 1 ≠ w4.heap.size := Nat.ne_of_lt lt4; have p0 := st4.en.box.c0; have p1 := st4.en.box.c1; have p2 := st4.en.box.c2; have p3 := st4.en.box.c3; have p4 := st4.en.box.c4; have p5 := st4.en.box.c5; have p6 := st4.en.box.c6; have f0 := st4.en.free 0; have f1 := st4.en.free 1; have f2 := st4.en.free 2; have f3 := st4.en.free 3; have f4 := st4.en.free 4; have f5 := st4.en.free 5; have f6 := st4.en.free 6; have sv5 := ((((((st4.set (st4.en.set2 K)).set ((st4.en.set2 K).set3 S)).set (((st4.en.set2 K).set3 S).set4 Q)).set ((((st4.en.set2 K).set3 S).set4 Q).set5 T)).set (((((st4.en.set2 K).set3 S).set4 Q).set5 T).set6 N)).alloc (.cells #[.int .i64 K, .int .i64 S, .int .i64 Q, .string T, .int .i64 N] 25)))
          | (go_at_call 39; refine (ptext' hs sv2.rd h3).mono ?_; rintro e w3 ⟨rfl, r3, g3⟩; have st3 := sv2.call r3 g3)
          | (go_at_call 36; have d2 := d1; refine (pint' hs sv1.rd h2).mono ?_; rintro e w2 ⟨rfl, r2, g2⟩; have st2 := sv1.call r2 g2; have f2 := st2.en.free 1; have x2 := st2.en.box.c1; have sv2 := st2.set (st2.en.set1 (zag N2)))
          | (go_at_call 36; refine (pint' hs st0.rd h1).mono ?_; rintro e w1 ⟨rfl, r1, g1⟩; have st1 := st0.call r1 g1; have f1 := st1.en.free 0; have x1 := st1.en.box.c0; have sv1 := st1.set (st1.en.set0 (zag N1)); have d1 : True := trivial))
        have F := (((((((st7.rs.set0 0).set1 0).set2 0).set3 0).set4 0).set5 ⟨#[]⟩).set6 0)
        have FB := (((((((st7.bel.setCell (p := ⟨base, 0, none⟩) (Nat.le_refl base) (.int .i64 0)).setCell (p := ⟨base, 1, none⟩) (Nat.le_refl base) (.int .i64 0)).setCell (p := ⟨base, 2, none⟩) (Nat.le_refl base) (.int .i64 0)).setCell (p := ⟨base, 3, none⟩) (Nat.le_refl base) (.int .i64 0)).setCell (p := ⟨base, 4, none⟩) (Nat.le_refl base) (.int .i64 0)).setCell (p := ⟨base, 5, none⟩) (Nat.le_refl base) (.string ⟨#[]⟩)).setCell (p := ⟨base, 6, none⟩) (Nat.le_refl base) (.int .i64 0))
        have k0 := F.box.c0
        have k1 := F.box.c1
        have k2 := F.box.c2
        have k3 := F.box.c3
        have k4 := F.box.c4
        have k5 := F.box.c5
        have k6 := F.box.c6
        refine bodyPost_ret (v := .tuple #[.agg #[.int .i64 0, .int .i64 0, .int .i64 0, .int .i64 0, .int .i64 0, .string ⟨#[]⟩, .int .i64 0], .int .i64 2]) (by simp [results, Try.results38, go_sem, k0, k1, k2, k3, k4, k5, k6]) rfl ⟨rfl, FB⟩
    · have hE : decET s = (En.zero, 2) := decET_no1 (by rw [hread]; exact hD)
      rw [hE]
      have hD' : (rD s3 b3 != 0) = true := by simpa using hD
      clear hE hread hc hD qm
      go_enter Try.func38, Try.ntmps38
      go_wp2_with (first
        | (go_at_call 42; refine (pdone sv5.rd).mono ?_; rintro e w5 ⟨rfl, hw⟩; rw [hw] at sv5; clear hw; have y0 := sv5.en.box.c0; have y1 := sv5.en.box.c1; have y2 := sv5.en.box.c2; have y3 := sv5.en.box.c3; have y4 := sv5.en.box.c4; have y5 := sv5.en.box.c5; have y6 := sv5.en.box.c6; have u0 := sv5.rs.box.c0; have u1 := sv5.rs.box.c1; have u2 := sv5.rs.box.c2; have u3 := sv5.rs.box.c3; have u4 := sv5.rs.box.c4; have u5 := sv5.rs.box.c5; have u6 := sv5.rs.box.c6; have v0 := sv5.rs.free 0; have v1 := sv5.rs.free 1; have v2 := sv5.rs.free 2; have v3 := sv5.rs.free 3; have v4 := sv5.rs.free 4; have v5 := sv5.rs.free 5; have v6 := sv5.rs.free 6; have st7 := sv5)
        | (go_at_call 40; refine (qd' _).mono ?_; rintro e w4 ⟨rfl, b4⟩; have st4 := st3.below b4; have lt4 := st4.en.box.lt; have ne4 : base + 1 + 1 ≠ w4.heap.size := Nat.ne_of_lt lt4; have p0 := st4.en.box.c0; have p1 := st4.en.box.c1; have p2 := st4.en.box.c2; have p3 := st4.en.box.c3; have p4 := st4.en.box.c4; have p5 := st4.en.box.c5; have p6 := st4.en.box.c6; have f0 := st4.en.free 0; have f1 := st4.en.free 1; have f2 := st4.en.free 2; have f3 := st4.en.free 3; have f4 := st4.en.free 4; have f5 := st4.en.free 5; have f6 := st4.en.free 6; have sv5 := ((((((st4.set (st4.en.set2 K)).set ((st4.en.set2 K).set3 S)).set (((st4.en.set2 K).set3 S).set4 Q)).set ((((st4.en.set2 K).set3 S).set4 Q).set5 T)).set (((((st4.en.set2 K).set3 S).set4 Q).set5 T).set6 N)).alloc (.cells #[.int .i64 K, .int .i64 S, .int .i64 Q, .string T, .int .i64 N] 25)))
        | (go_at_call 39; refine (ptext' hs sv2.rd h3).mono ?_; rintro e w3 ⟨rfl, r3, g3⟩; have st3 := sv2.call r3 g3)
        | (go_at_call 36; have d2 := d1; refine (pint' hs sv1.rd h2).mono ?_; rintro e w2 ⟨rfl, r2, g2⟩; have st2 := sv1.call r2 g2; have f2 := st2.en.free 1; have x2 := st2.en.box.c1; have sv2 := st2.set (st2.en.set1 (zag N2)))
        | (go_at_call 36; refine (pint' hs st0.rd h1).mono ?_; rintro e w1 ⟨rfl, r1, g1⟩; have st1 := st0.call r1 g1; have f1 := st1.en.free 0; have x1 := st1.en.box.c0; have sv1 := st1.set (st1.en.set0 (zag N1)); have d1 : True := trivial))
      have F := (((((((st7.rs.set0 0).set1 0).set2 0).set3 0).set4 0).set5 ⟨#[]⟩).set6 0)
      have FB := (((((((st7.bel.setCell (p := ⟨base, 0, none⟩) (Nat.le_refl base) (.int .i64 0)).setCell (p := ⟨base, 1, none⟩) (Nat.le_refl base) (.int .i64 0)).setCell (p := ⟨base, 2, none⟩) (Nat.le_refl base) (.int .i64 0)).setCell (p := ⟨base, 3, none⟩) (Nat.le_refl base) (.int .i64 0)).setCell (p := ⟨base, 4, none⟩) (Nat.le_refl base) (.int .i64 0)).setCell (p := ⟨base, 5, none⟩) (Nat.le_refl base) (.string ⟨#[]⟩)).setCell (p := ⟨base, 6, none⟩) (Nat.le_refl base) (.int .i64 0))
      have k0 := F.box.c0
      have k1 := F.box.c1
      have k2 := F.box.c2
      have k3 := F.box.c3
      have k4 := F.box.c4
      have k5 := F.box.c5
      have k6 := F.box.c6
      refine bodyPost_ret (v := .tuple #[.agg #[.int .i64 0, .int .i64 0, .int .i64 0, .int .i64 0, .int .i64 0, .string ⟨#[]⟩, .int .i64 0], .int .i64 2]) (by simp [results, Try.results38, go_sem, k0, k1, k2, k3, k4, k5, k6]) rfl ⟨rfl, FB⟩
end Go.Proofs.Ytmmdcbgmhjheeaa
