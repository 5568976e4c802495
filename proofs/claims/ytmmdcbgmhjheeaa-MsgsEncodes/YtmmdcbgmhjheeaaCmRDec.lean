/-
  The contracts of the document's own decoding of commands and entries (package latchkeyref03). The condition: the text is no longer than a text of 64 bits' length.
-/
import Derived.Test.YtmmdcbgmhjheeaaCmREnc
namespace Go.Proofs.Ytmmdcbgmhjheeaa
open Go.RowKit

/-- The document's reader, told by what package codec's would hold. -/
def Rp (w : World) (R m : Nat) (s : ByteArray) (b : Bool) : Prop := ∃ t : ByteArray, Pair s t b ∧ t.size ≤ m ∧ Rx w R t b

theorem Rp.lt {w : World} {R m : Nat} {s : ByteArray} {b : Bool} (h : Rp w R m s b) : R < w.heap.size := by
  obtain ⟨t, _, _, hr⟩ := h
  exact lt_of_block hr
theorem pint {R m : Nat} {s : ByteArray} {b : Bool} (hm : m ≤ 9223372036854775807) {w : World} (h : Rp w R m s b) :
    Calls Try.prog 36 #[.pointer (some ⟨R, 0, none⟩)] w fun e w' => e = .returned (.int .i64 (zag (rU s b).1)) ∧ Rp w' R m (rU s b).2.1 (rU s b).2.2 ∧ w.grownBy w' (some R) := by
  obtain ⟨t, hp, ht, hr⟩ := h
  obtain ⟨h1, h2, h3⟩ := pairU hp
  refine (xint_any R t b (by omega) w hr).mono fun e w' ⟨he, hx, hg⟩ => ?_
  rw [h1] at he
  rw [h2] at hx
  exact ⟨he, ⟨_, h3, Nat.le_trans (xU_size t b) ht, hx⟩, hg⟩
theorem ptext {R m : Nat} {s : ByteArray} {b : Bool} (hm : m ≤ 9223372036854775807) {w : World} (h : Rp w R m s b) :
    Calls Try.prog 39 #[.pointer (some ⟨R, 0, none⟩)] w fun e w' => e = .returned (.string (rT s b).1) ∧ Rp w' R m (rT s b).2.1 (rT s b).2.2 ∧ w.grownBy w' (some R) := by
  obtain ⟨t, hp, ht, hr⟩ := h
  obtain ⟨h1, h2, h3⟩ := pairT hp
  refine (xtext_any R t b (by omega) w hr).mono fun e w' ⟨he, hx, hg⟩ => ?_
  rw [h1] at he
  rw [h2] at hx
  exact ⟨he, ⟨_, h3, Nat.le_trans (xT_size t b) ht, hx⟩, hg⟩
theorem pdone {R m : Nat} {s : ByteArray} {b : Bool} {w : World} (h : Rp w R m s b) :
    Calls Try.prog 42 #[.pointer (some ⟨R, 0, none⟩)] w fun e w' => e = .returned (.int .i64 (rD s b)) ∧ w = w' := by
  obtain ⟨t, hp, ht, hr⟩ := h
  have := xdone_any R t b w hr
  rw [pairD hp] at this
  exact this
theorem pint' {R m : Nat} {s s' : ByteArray} {b b' : Bool} {N : Nat} (hm : m ≤ 9223372036854775807) {w : World} (h : Rp w R m s b) (hu : rU s b = (N, s', b')) :
    Calls Try.prog 36 #[.pointer (some ⟨R, 0, none⟩)] w fun e w' => e = .returned (.int .i64 (zag N)) ∧ Rp w' R m s' b' ∧ w.grownBy w' (some R) := by
  have := pint hm h
  rw [hu] at this
  exact this
theorem ptext' {R m : Nat} {s s' T : ByteArray} {b b' : Bool} (hm : m ≤ 9223372036854775807) {w : World} (h : Rp w R m s b) (hu : rT s b = (T, s', b')) :
    Calls Try.prog 39 #[.pointer (some ⟨R, 0, none⟩)] w fun e w' => e = .returned (.string T) ∧ Rp w' R m s' b' ∧ w.grownBy w' (some R) := by
  have := ptext hm h
  rw [hu] at this
  exact this
theorem Rp.far {w w' : World} {R m : Nat} {s : ByteArray} {b : Bool} (h : Rp w R m s b) (hb : w'.heap[R]? = w.heap[R]?) : Rp w' R m s b := by
  obtain ⟨t, hp, ht, hr⟩ := h
  refine ⟨t, hp, ht, ?_⟩
  unfold Rx at hr ⊢
  rw [hb]
  exact hr

/-- A command laid in a block of its own. -/
def Lies (w : World) (B : Nat) (K S Q : Int) (T : ByteArray) (N : Int) : Prop := w.heap[B]? = some (.cells #[.int .i64 K, .int .i64 S, .int .i64 Q, .string T, .int .i64 N] 25 (0, 0))
theorem Lies.box {w : World} {B : Nat} {K S Q N : Int} {T : ByteArray} (h : Lies w B K S Q T N) : Box w B 0 K S Q T N := by
  unfold Lies at h
  exact ⟨lt_of_block h, by simp [World.cell?, h], by simp [World.cell?, h], by simp [World.cell?, h], by simp [World.cell?, h], by simp [World.cell?, h]⟩
theorem Lies.free {w : World} {B : Nat} {K S Q N : Int} {T : ByteArray} (h : Lies w B K S Q T N) (i : Nat) : w.frozen? ⟨B, i, none⟩ = false := by
  unfold Lies at h
  simp [World.frozen?, h]
theorem Lies.set0 {w : World} {B : Nat} {K S Q N : Int} {T : ByteArray} (h : Lies w B K S Q T N) (K' : Int) : Lies (w.setCell ⟨B, 0, none⟩ (.int .i64 K')) B K' S Q T N := Lib.heap_setCell_same (i := 0) h _
theorem Lies.set1 {w : World} {B : Nat} {K S Q N : Int} {T : ByteArray} (h : Lies w B K S Q T N) (S' : Int) : Lies (w.setCell ⟨B, 1, none⟩ (.int .i64 S')) B K S' Q T N := Lib.heap_setCell_same (i := 1) h _
theorem Lies.set2 {w : World} {B : Nat} {K S Q N : Int} {T : ByteArray} (h : Lies w B K S Q T N) (Q' : Int) : Lies (w.setCell ⟨B, 2, none⟩ (.int .i64 Q')) B K S Q' T N := Lib.heap_setCell_same (i := 2) h _
theorem Lies.set3 {w : World} {B : Nat} {K S Q N : Int} {T : ByteArray} (h : Lies w B K S Q T N) (T' : ByteArray) : Lies (w.setCell ⟨B, 3, none⟩ (.string T')) B K S Q T' N := Lib.heap_setCell_same (i := 3) h _
theorem Lies.set4 {w : World} {B : Nat} {K S Q N : Int} {T : ByteArray} (h : Lies w B K S Q T N) (N' : Int) : Lies (w.setCell ⟨B, 4, none⟩ (.int .i64 N')) B K S Q T N' := Lib.heap_setCell_same (i := 4) h _
theorem Lies.far {w w' : World} {B : Nat} {K S Q N : Int} {T : ByteArray} (h : Lies w B K S Q T N) (hb : w'.heap[B]? = w.heap[B]?) : Lies w' B K S Q T N := by
  unfold Lies at h ⊢
  rw [hb]
  exact h

/-- Where a decoding stands: the reader, the command so far, the result, nothing else turned. -/
structure Dc (w0 : World) (base m : Nat) (w : World) (s : ByteArray) (b : Bool) (K S Q : Int) (T : ByteArray) (N : Int) : Prop where
  rd : Rp w (base + 1) m s b
  cm : Lies w (base + 1 + 1) K S Q T N
  rs : Lies w base 0 0 0 ⟨#[]⟩ 0
  bel : Below base w0 w
theorem Dc.call {w0 w w' : World} {base m : Nat} {s s' : ByteArray} {b b' : Bool} {K S Q N : Int} {T : ByteArray} (h : Dc w0 base m w s b K S Q T N) (hr : Rp w' (base + 1) m s' b') (hg : w.grownBy w' (some (base + 1))) : Dc w0 base m w' s' b' K S Q T N :=
  ⟨hr, h.cm.far (hg.block _ h.cm.box.lt (by simp)), h.rs.far (hg.block _ h.rs.box.lt (by simp)), h.bel.grown hg (Nat.le_of_lt h.rs.box.lt) (fun k hk => by have := Option.some.inj hk; omega)⟩
theorem Dc.set {w0 w : World} {base m i : Nat} {v : Value} {s : ByteArray} {b : Bool} {K S Q N K' S' Q' N' : Int} {T T' : ByteArray} (h : Dc w0 base m w s b K S Q T N) (hc : Lies (w.setCell ⟨base + 1 + 1, i, none⟩ v) (base + 1 + 1) K' S' Q' T' N') : Dc w0 base m (w.setCell ⟨base + 1 + 1, i, none⟩ v) s b K' S' Q' T' N' :=
  ⟨h.rd.far (heap_setCell_other _ _ _ _ (by simp)), hc, h.rs.far (heap_setCell_other _ _ _ _ (by simp; omega)), h.bel.setCell (p := ⟨base + 1 + 1, i, none⟩) (by simp; omega) _⟩

theorem Dc.below {w0 w w' : World} {base m : Nat} {s : ByteArray} {b : Bool} {K S Q N : Int} {T : ByteArray} (h : Dc w0 base m w s b K S Q T N) (hb : Below w.heap.size w w') : Dc w0 base m w' s b K S Q T N :=
  ⟨h.rd.far (hb.block _ h.rd.lt), h.cm.far (hb.block _ h.cm.box.lt), h.rs.far (hb.block _ h.rs.box.lt), bmm h.bel (Nat.le_of_lt h.rs.box.lt) hb⟩

/-- Three new blocks. -/
theorem three_new (w : World) (o1 o2 o3 : Obj) {base : Nat} (h : w.heap.size = base) :
    (((w.alloc o1).alloc o2).alloc o3).heap[base]? = some o1 ∧ (((w.alloc o1).alloc o2).alloc o3).heap[base + 1]? = some o2 ∧ (((w.alloc o1).alloc o2).alloc o3).heap[base + 1 + 1]? = some o3 := by
  have n1 : (w.alloc o1).heap.size = base + 1 := by rw [World.size_alloc, h]
  have n2 : ((w.alloc o1).alloc o2).heap.size = base + 1 + 1 := by rw [World.size_alloc, n1]
  refine ⟨?_, ?_, ?_⟩
  · rw [Below.heap_alloc _ o3 base (by omega), Below.heap_alloc _ o2 base (by omega), ← h]
    exact heap_alloc_new w o1
  · rw [Below.heap_alloc _ o3 (base + 1) (by omega)]
    have := heap_alloc_new (w.alloc o1) o2
    rw [n1] at this
    exact this
  · have := heap_alloc_new ((w.alloc o1).alloc o2) o3
    rw [n2] at this
    exact this

/-- Decode's two answers. -/
def decT (s : ByteArray) : Cm × Int := match decC s with | some c => (c, 0) | none => (Cm.zero, 2)
theorem decT_ok {s : ByteArray} (h1 : (readC s).2 = 0) (h2 : mayB (readC s).1 = true) : decT s = ((readC s).1, 0) := by
  unfold decT decC
  rw [if_pos ⟨h1, h2⟩]
theorem decT_no {s : ByteArray} (h : ¬ ((readC s).2 = 0 ∧ mayB (readC s).1 = true)) : decT s = (Cm.zero, 2) := by
  unfold decT decC
  rw [if_neg h]

set_option maxHeartbeats 3200000 in
set_option maxRecDepth 100000 in
theorem rdecode_any (s : ByteArray) (hs : s.size ≤ 9223372036854775807) (w : World) :
    Calls Try.prog 40 #[.string s] w fun e w' => e = .returned (.tuple #[.agg #[.int .i64 (decT s).1.kind, .int .i64 (decT s).1.session, .int .i64 (decT s).1.seq, .string (decT s).1.name, .int .i64 (decT s).1.n], .int .i64 (decT s).2]) ∧ Below w.heap.size w w' := by
  obtain ⟨N1, s1, b1, h1⟩ : ∃ N s' b', rU s false = (N, s', b') := ⟨_, _, _, rfl⟩
  obtain ⟨N2, s2, b2, h2⟩ : ∃ N s' b', rU s1 b1 = (N, s', b') := ⟨_, _, _, rfl⟩
  obtain ⟨N3, s3, b3, h3⟩ : ∃ N s' b', rU s2 b2 = (N, s', b') := ⟨_, _, _, rfl⟩
  obtain ⟨T4, s4, b4, h4⟩ : ∃ N s' b', rT s3 b3 = (N, s', b') := ⟨_, _, _, rfl⟩
  obtain ⟨N5, s5, b5, h5⟩ : ∃ N s' b', rU s4 b4 = (N, s', b') := ⟨_, _, _, rfl⟩
  have hread : readC s = (⟨zag N1, zag N2, zag N3, T4, zag N5⟩, rD s5 b5) := by
    unfold readC
    simp only [h1, h2, h3, h4, h5]
  obtain ⟨base, hbase⟩ : ∃ base, w.heap.size = base := ⟨_, rfl⟩
  have st0 : Dc w base s.size (((w.alloc (.cells #[.int .i64 0, .int .i64 0, .int .i64 0, .string ⟨#[]⟩, .int .i64 0] 25)).alloc (.cells #[.string s, .bool false] 72)).alloc (.cells #[.int .i64 0, .int .i64 0, .int .i64 0, .string ⟨#[]⟩, .int .i64 0] 25)) s false 0 0 0 ⟨#[]⟩ 0 := by
    obtain ⟨n1, n2, n3⟩ := three_new w (.cells #[.int .i64 0, .int .i64 0, .int .i64 0, .string ⟨#[]⟩, .int .i64 0] 25) (.cells #[.string s, .bool false] 72) (.cells #[.int .i64 0, .int .i64 0, .int .i64 0, .string ⟨#[]⟩, .int .i64 0] 25) hbase
    exact ⟨⟨s, ⟨fun _ => rfl, fun h => by cases h⟩, Nat.le_refl _, n2⟩, n3, n1, (((Below.refl base w).alloc (by omega) _).alloc (by simp; omega) _).alloc (by simp; omega) _⟩
  have q0 := rmay_any (zag N1) (zag N2) (zag N3) (zag N5) T4
  rw [hbase]
  by_cases hD : rD s5 b5 = 0
  · by_cases hm : mayB ⟨zag N1, zag N2, zag N3, T4, zag N5⟩ = true
    · have hT : decT s = (⟨zag N1, zag N2, zag N3, T4, zag N5⟩, 0) := by
        have := decT_ok (s := s) (by rw [hread]; exact hD) (by rw [hread]; exact hm)
        rw [hread] at this
        exact this
      rw [hT]
      rw [hm] at q0
      clear hread hT hm
      go_enter Try.func40, Try.ntmps40
      go_wp2_with (first
        | (go_at_call 51; refine (q0 _).mono ?_; rintro e w7 ⟨rfl, b7⟩; have st7 := sv5.below b7; have z0 := st7.cm.box.c0; have z1 := st7.cm.box.c1; have z2 := st7.cm.box.c2; have z3 := st7.cm.box.c3; have z4 := st7.cm.box.c4; simp only [Nat.zero_add] at z1 z2 z3 z4; have u0 := st7.rs.box.c0; have u1 := st7.rs.box.c1; have u2 := st7.rs.box.c2; have u3 := st7.rs.box.c3; have u4 := st7.rs.box.c4; simp only [Nat.zero_add] at u1 u2 u3 u4; have v0 := st7.rs.free 0; have v1 := st7.rs.free 1; have v2 := st7.rs.free 2; have v3 := st7.rs.free 3; have v4 := st7.rs.free 4)
        | (go_at_call 42; refine (pdone sv5.rd).mono ?_; rintro e w' ⟨rfl, rfl⟩; have y0 := sv5.cm.box.c0; have y1 := sv5.cm.box.c1; have y2 := sv5.cm.box.c2; have y3 := sv5.cm.box.c3; have y4 := sv5.cm.box.c4; simp only [Nat.zero_add] at y1 y2 y3 y4)
        | (go_at_call 36; have d5 := d4; refine (pint' hs sv4.rd h5).mono ?_; rintro e w5 ⟨rfl, r5, g5⟩; have st5 := sv4.call r5 g5; have f5 := st5.cm.free 4; have x5 := st5.cm.box.c4; simp only [Nat.zero_add] at x5; have sv5 := st5.set (st5.cm.set4 (zag N5)))
        | (go_at_call 39; refine (ptext' hs sv3.rd h4).mono ?_; rintro e w4 ⟨rfl, r4, g4⟩; have st4 := sv3.call r4 g4; have f4 := st4.cm.free 3; have x4 := st4.cm.box.c3; simp only [Nat.zero_add] at x4; have sv4 := st4.set (st4.cm.set3 (T4)); have d4 : True := trivial)
        | (go_at_call 36; have d3 := d2; refine (pint' hs sv2.rd h3).mono ?_; rintro e w3 ⟨rfl, r3, g3⟩; have st3 := sv2.call r3 g3; have f3 := st3.cm.free 2; have x3 := st3.cm.box.c2; simp only [Nat.zero_add] at x3; have sv3 := st3.set (st3.cm.set2 (zag N3)))
        | (go_at_call 36; have d2 := d1; refine (pint' hs sv1.rd h2).mono ?_; rintro e w2 ⟨rfl, r2, g2⟩; have st2 := sv1.call r2 g2; have f2 := st2.cm.free 1; have x2 := st2.cm.box.c1; simp only [Nat.zero_add] at x2; have sv2 := st2.set (st2.cm.set1 (zag N2)); have d2 : True := trivial)
        | (go_at_call 36; refine (pint' hs st0.rd h1).mono ?_; rintro e w1 ⟨rfl, r1, g1⟩; have st1 := st0.call r1 g1; have f1 := st1.cm.free 0; have x1 := st1.cm.box.c0; have sv1 := st1.set (st1.cm.set0 (zag N1)); have d1 : True := trivial))
      have F := ((((st7.rs.set0 (zag N1)).set1 (zag N2)).set2 (zag N3)).set3 T4).set4 (zag N5)
      have FB := ((((st7.bel.setCell (p := ⟨base, 0, none⟩) (Nat.le_refl base) (.int .i64 (zag N1))).setCell (p := ⟨base, 1, none⟩) (Nat.le_refl base) (.int .i64 (zag N2))).setCell (p := ⟨base, 2, none⟩) (Nat.le_refl base) (.int .i64 (zag N3))).setCell (p := ⟨base, 3, none⟩) (Nat.le_refl base) (.string T4)).setCell (p := ⟨base, 4, none⟩) (Nat.le_refl base) (.int .i64 (zag N5))
      have k0 := F.box.c0
      have k1 := F.box.c1
      have k2 := F.box.c2
      have k3 := F.box.c3
      have k4 := F.box.c4
      simp only [Nat.zero_add] at k1 k2 k3 k4
      refine bodyPost_ret (v := .tuple #[.agg #[.int .i64 (zag N1), .int .i64 (zag N2), .int .i64 (zag N3), .string T4, .int .i64 (zag N5)], .int .i64 0]) (by simp [results, Try.results40, go_sem, k0, k1, k2, k3, k4]) rfl ⟨rfl, FB⟩
    · have hT : decT s = (Cm.zero, 2) := decT_no (by rw [hread]; exact fun h => hm h.2)
      rw [hT]
      rw [show mayB ⟨zag N1, zag N2, zag N3, T4, zag N5⟩ = false by simpa using hm] at q0
      clear hread hT hm
      go_enter Try.func40, Try.ntmps40
      go_wp2_with (first
        | (go_at_call 51; refine (q0 _).mono ?_; rintro e w7 ⟨rfl, b7⟩; have st7 := sv5.below b7; have z0 := st7.cm.box.c0; have z1 := st7.cm.box.c1; have z2 := st7.cm.box.c2; have z3 := st7.cm.box.c3; have z4 := st7.cm.box.c4; simp only [Nat.zero_add] at z1 z2 z3 z4; have u0 := st7.rs.box.c0; have u1 := st7.rs.box.c1; have u2 := st7.rs.box.c2; have u3 := st7.rs.box.c3; have u4 := st7.rs.box.c4; simp only [Nat.zero_add] at u1 u2 u3 u4; have v0 := st7.rs.free 0; have v1 := st7.rs.free 1; have v2 := st7.rs.free 2; have v3 := st7.rs.free 3; have v4 := st7.rs.free 4)
        | (go_at_call 42; refine (pdone sv5.rd).mono ?_; rintro e w' ⟨rfl, rfl⟩; have y0 := sv5.cm.box.c0; have y1 := sv5.cm.box.c1; have y2 := sv5.cm.box.c2; have y3 := sv5.cm.box.c3; have y4 := sv5.cm.box.c4; simp only [Nat.zero_add] at y1 y2 y3 y4)
        | (go_at_call 36; have d5 := d4; refine (pint' hs sv4.rd h5).mono ?_; rintro e w5 ⟨rfl, r5, g5⟩; have st5 := sv4.call r5 g5; have f5 := st5.cm.free 4; have x5 := st5.cm.box.c4; simp only [Nat.zero_add] at x5; have sv5 := st5.set (st5.cm.set4 (zag N5)))
        | (go_at_call 39; refine (ptext' hs sv3.rd h4).mono ?_; rintro e w4 ⟨rfl, r4, g4⟩; have st4 := sv3.call r4 g4; have f4 := st4.cm.free 3; have x4 := st4.cm.box.c3; simp only [Nat.zero_add] at x4; have sv4 := st4.set (st4.cm.set3 (T4)); have d4 : True := trivial)
        | (go_at_call 36; have d3 := d2; refine (pint' hs sv2.rd h3).mono ?_; rintro e w3 ⟨rfl, r3, g3⟩; have st3 := sv2.call r3 g3; have f3 := st3.cm.free 2; have x3 := st3.cm.box.c2; simp only [Nat.zero_add] at x3; have sv3 := st3.set (st3.cm.set2 (zag N3)))
        | (go_at_call 36; have d2 := d1; refine (pint' hs sv1.rd h2).mono ?_; rintro e w2 ⟨rfl, r2, g2⟩; have st2 := sv1.call r2 g2; have f2 := st2.cm.free 1; have x2 := st2.cm.box.c1; simp only [Nat.zero_add] at x2; have sv2 := st2.set (st2.cm.set1 (zag N2)); have d2 : True := trivial)
        | (go_at_call 36; refine (pint' hs st0.rd h1).mono ?_; rintro e w1 ⟨rfl, r1, g1⟩; have st1 := st0.call r1 g1; have f1 := st1.cm.free 0; have x1 := st1.cm.box.c0; have sv1 := st1.set (st1.cm.set0 (zag N1)); have d1 : True := trivial))
      have F := ((((st7.rs.set0 0).set1 0).set2 0).set3 ⟨#[]⟩).set4 0
      have FB := ((((st7.bel.setCell (p := ⟨base, 0, none⟩) (Nat.le_refl base) (.int .i64 0)).setCell (p := ⟨base, 1, none⟩) (Nat.le_refl base) (.int .i64 0)).setCell (p := ⟨base, 2, none⟩) (Nat.le_refl base) (.int .i64 0)).setCell (p := ⟨base, 3, none⟩) (Nat.le_refl base) (.string ⟨#[]⟩)).setCell (p := ⟨base, 4, none⟩) (Nat.le_refl base) (.int .i64 0)
      have k0 := F.box.c0
      have k1 := F.box.c1
      have k2 := F.box.c2
      have k3 := F.box.c3
      have k4 := F.box.c4
      simp only [Nat.zero_add] at k1 k2 k3 k4
      refine bodyPost_ret (v := .tuple #[.agg #[.int .i64 0, .int .i64 0, .int .i64 0, .string ⟨#[]⟩, .int .i64 0], .int .i64 2]) (by simp [results, Try.results40, go_sem, k0, k1, k2, k3, k4]) rfl ⟨rfl, FB⟩
  · have hT : decT s = (Cm.zero, 2) := decT_no (by rw [hread]; exact fun h => hD h.1)
    rw [hT]
    have hD' : (rD s5 b5 != 0) = true := by simpa using hD
    clear hread hT hD q0
    go_enter Try.func40, Try.ntmps40
    go_wp2_with (first
      | (go_at_call 42; refine (pdone sv5.rd).mono ?_; rintro e w' ⟨rfl, rfl⟩; have y0 := sv5.cm.box.c0; have y1 := sv5.cm.box.c1; have y2 := sv5.cm.box.c2; have y3 := sv5.cm.box.c3; have y4 := sv5.cm.box.c4; simp only [Nat.zero_add] at y1 y2 y3 y4; have u0 := sv5.rs.box.c0; have u1 := sv5.rs.box.c1; have u2 := sv5.rs.box.c2; have u3 := sv5.rs.box.c3; have u4 := sv5.rs.box.c4; simp only [Nat.zero_add] at u1 u2 u3 u4; have v0 := sv5.rs.free 0; have v1 := sv5.rs.free 1; have v2 := sv5.rs.free 2; have v3 := sv5.rs.free 3; have v4 := sv5.rs.free 4; have st7 := sv5)
      | (go_at_call 36; have d5 := d4; refine (pint' hs sv4.rd h5).mono ?_; rintro e w5 ⟨rfl, r5, g5⟩; have st5 := sv4.call r5 g5; have f5 := st5.cm.free 4; have x5 := st5.cm.box.c4; simp only [Nat.zero_add] at x5; have sv5 := st5.set (st5.cm.set4 (zag N5)))
      | (go_at_call 39; refine (ptext' hs sv3.rd h4).mono ?_; rintro e w4 ⟨rfl, r4, g4⟩; have st4 := sv3.call r4 g4; have f4 := st4.cm.free 3; have x4 := st4.cm.box.c3; simp only [Nat.zero_add] at x4; have sv4 := st4.set (st4.cm.set3 (T4)); have d4 : True := trivial)
      | (go_at_call 36; have d3 := d2; refine (pint' hs sv2.rd h3).mono ?_; rintro e w3 ⟨rfl, r3, g3⟩; have st3 := sv2.call r3 g3; have f3 := st3.cm.free 2; have x3 := st3.cm.box.c2; simp only [Nat.zero_add] at x3; have sv3 := st3.set (st3.cm.set2 (zag N3)))
      | (go_at_call 36; have d2 := d1; refine (pint' hs sv1.rd h2).mono ?_; rintro e w2 ⟨rfl, r2, g2⟩; have st2 := sv1.call r2 g2; have f2 := st2.cm.free 1; have x2 := st2.cm.box.c1; simp only [Nat.zero_add] at x2; have sv2 := st2.set (st2.cm.set1 (zag N2)); have d2 : True := trivial)
      | (go_at_call 36; refine (pint' hs st0.rd h1).mono ?_; rintro e w1 ⟨rfl, r1, g1⟩; have st1 := st0.call r1 g1; have f1 := st1.cm.free 0; have x1 := st1.cm.box.c0; have sv1 := st1.set (st1.cm.set0 (zag N1)); have d1 : True := trivial))
    have F := ((((st7.rs.set0 0).set1 0).set2 0).set3 ⟨#[]⟩).set4 0
    have FB := ((((st7.bel.setCell (p := ⟨base, 0, none⟩) (Nat.le_refl base) (.int .i64 0)).setCell (p := ⟨base, 1, none⟩) (Nat.le_refl base) (.int .i64 0)).setCell (p := ⟨base, 2, none⟩) (Nat.le_refl base) (.int .i64 0)).setCell (p := ⟨base, 3, none⟩) (Nat.le_refl base) (.string ⟨#[]⟩)).setCell (p := ⟨base, 4, none⟩) (Nat.le_refl base) (.int .i64 0)
    have k0 := F.box.c0
    have k1 := F.box.c1
    have k2 := F.box.c2
    have k3 := F.box.c3
    have k4 := F.box.c4
    simp only [Nat.zero_add] at k1 k2 k3 k4
    refine bodyPost_ret (v := .tuple #[.agg #[.int .i64 0, .int .i64 0, .int .i64 0, .string ⟨#[]⟩, .int .i64 0], .int .i64 2]) (by simp [results, Try.results40, go_sem, k0, k1, k2, k3, k4]) rfl ⟨rfl, FB⟩
end Go.Proofs.Ytmmdcbgmhjheeaa
