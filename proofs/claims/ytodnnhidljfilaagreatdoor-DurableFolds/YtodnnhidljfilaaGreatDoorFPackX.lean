/-
  Parts of the proof, laid together: DDec, DDecE. The conditions stand at each part.
-/
import Derived.Test.YtodnnhidljfilaaGreatDoorFPackC
import Derived.Test.YtodnnhidljfilaaGreatDoorFPackW
/-
  The contract of package cmds' Decode: for every text, the command or the error. The condition: the text is no longer than a text of 64 bits' length.
-/
namespace Go.Proofs.YtodnnhidljfilaaGreatDoor
open Go.RowKit

theorem Rd.far {w w' : World} {R : Nat} {s : ByteArray} {b : Bool} (h : Rd w R s b) (hb : w'.heap[R]? = w.heap[R]?) : Rd w' R s b := by
  unfold Rd at h ⊢
  rw [hb]
  exact h

/-- Where a decoding stands: the reader, the result, nothing else turned. -/
structure Dd (w0 : World) (base m : Nat) (w : World) (s : ByteArray) (b : Bool) : Prop where
  rd : Rd w (base + 1) s b
  sz : s.size ≤ m
  rs : Lies w base 0 0 0 ⟨#[]⟩ 0
  bel : Below base w0 w
theorem Dd.call {w0 w w' : World} {base m : Nat} {s s' : ByteArray} {b b' : Bool} (h : Dd w0 base m w s b) (hr : Rd w' (base + 1) s' b') (hz : s'.size ≤ s.size) (hg : w.grownBy w' (some (base + 1))) : Dd w0 base m w' s' b' :=
  ⟨hr, Nat.le_trans hz h.sz, h.rs.far (hg.block _ h.rs.box.lt (by simp)), h.bel.grown hg (Nat.le_of_lt h.rs.box.lt) (fun k hk => by have := Option.some.inj hk; omega)⟩
theorem Dd.below {w0 w w' : World} {base m : Nat} {s : ByteArray} {b : Bool} (h : Dd w0 base m w s b) (hb : Below w.heap.size w w') : Dd w0 base m w' s b :=
  ⟨h.rd.below hb, h.sz, h.rs.far (hb.block _ h.rs.box.lt), bmm h.bel (Nat.le_of_lt h.rs.box.lt) hb⟩
theorem Dd.alloc {w0 w : World} {base m : Nat} {s : ByteArray} {b : Bool} (h : Dd w0 base m w s b) (o : Obj) : Dd w0 base m (w.alloc o) s b := h.below ((Below.refl _ w).alloc (Nat.le_refl _) _)
theorem Dd.int {w0 w : World} {base m : Nat} {s s' : ByteArray} {b b' : Bool} {N : Nat} (hm : m ≤ 9223372036854775807) (h : Dd w0 base m w s b) (hu : rU s b = (N, s', b')) :
    Calls Tryz.prog 149 #[.pointer (some ⟨base + 1, 0, none⟩)] w fun e w' => e = .returned (.int .i64 (zag N)) ∧ Dd w0 base m w' s' b' := by
  have hz := rU_size s b
  have := rint_any (base + 1) s b (Nat.le_trans h.sz hm) w h.rd
  rw [hu] at this hz
  exact this.mono fun e w' ⟨he, hr, hg⟩ => ⟨he, h.call hr hz hg⟩
theorem Dd.text {w0 w : World} {base m : Nat} {s s' T : ByteArray} {b b' : Bool} (hm : m ≤ 9223372036854775807) (h : Dd w0 base m w s b) (hu : rT s b = (T, s', b')) :
    Calls Tryz.prog 150 #[.pointer (some ⟨base + 1, 0, none⟩)] w fun e w' => e = .returned (.string T) ∧ Dd w0 base m w' s' b' := by
  have hz := rT_size s b
  have := rtext_any (base + 1) s b (Nat.le_trans h.sz hm) w h.rd
  rw [hu] at this hz
  exact this.mono fun e w' ⟨he, hr, hg⟩ => ⟨he, h.call hr hz hg⟩
theorem Dd.done {w0 w : World} {base m : Nat} {s : ByteArray} {b : Bool} (h : Dd w0 base m w s b) :
    Calls Tryz.prog 151 #[.pointer (some ⟨base + 1, 0, none⟩)] w fun e w' => e = .returned (.int .i64 (rD s b)) ∧ w = w' := rdone_any _ _ _ _ h.rd

theorem Box.fresh (w : World) (K S Q N : Int) (T : ByteArray) : Box (w.alloc (.cells #[.int .i64 K, .int .i64 S, .int .i64 Q, .string T, .int .i64 N] 64)) w.heap.size 0 K S Q T N := ⟨by simp, by simp, by simp, by simp, by simp, by simp⟩

set_option maxHeartbeats 3200000 in
set_option maxRecDepth 100000 in
theorem decode_any (s : ByteArray) (hs : s.size ≤ 9223372036854775807) (w : World) :
    Calls Tryz.prog 223 #[.string s] w fun e w' => e = .returned (.tuple #[.agg #[.int .i64 (decT s).1.kind, .int .i64 (decT s).1.session, .int .i64 (decT s).1.seq, .string (decT s).1.name, .int .i64 (decT s).1.n], .int .i64 (decT s).2]) ∧ Below w.heap.size w w' := by
  obtain ⟨N1, s1, b1, h1⟩ : ∃ N s' b', rU s false = (N, s', b') := ⟨_, _, _, rfl⟩
  obtain ⟨N2, s2, b2, h2⟩ : ∃ N s' b', rU s1 b1 = (N, s', b') := ⟨_, _, _, rfl⟩
  obtain ⟨N3, s3, b3, h3⟩ : ∃ N s' b', rU s2 b2 = (N, s', b') := ⟨_, _, _, rfl⟩
  obtain ⟨T4, s4, b4, h4⟩ : ∃ N s' b', rT s3 b3 = (N, s', b') := ⟨_, _, _, rfl⟩
  obtain ⟨N5, s5, b5, h5⟩ : ∃ N s' b', rU s4 b4 = (N, s', b') := ⟨_, _, _, rfl⟩
  have hread : readC s = (⟨zag N1, zag N2, zag N3, T4, zag N5⟩, rD s5 b5) := by
    unfold readC
    simp only [h1, h2, h3, h4, h5]
  obtain ⟨base, hbase⟩ : ∃ base, w.heap.size = base := ⟨_, rfl⟩
  have st0 : Dd w base s.size ((w.alloc (.cells #[.int .i64 0, .int .i64 0, .int .i64 0, .string ⟨#[]⟩, .int .i64 0] 64)).alloc (.cells #[.string s, .bool false] 245)) s false := by
    obtain ⟨n1, n2, _⟩ := three_new w (.cells #[.int .i64 0, .int .i64 0, .int .i64 0, .string ⟨#[]⟩, .int .i64 0] 64) (.cells #[.string s, .bool false] 245) (.cells #[.int .i64 0, .int .i64 0, .int .i64 0, .string ⟨#[]⟩, .int .i64 0] 64) hbase
    have e : ((w.alloc (.cells #[.int .i64 0, .int .i64 0, .int .i64 0, .string ⟨#[]⟩, .int .i64 0] 64)).alloc (.cells #[.string s, .bool false] 245)).heap.size = base + 1 + 1 := by simp [hbase]
    rw [Below.heap_alloc _ _ _ (by rw [e]; omega)] at n1 n2
    exact ⟨n2, Nat.le_refl _, n1, ((Below.refl base w).alloc (by omega) _).alloc (by simp; omega) _⟩
  have q0 := check_any (zag N1) (zag N2) (zag N3) (zag N5) T4
  have qo := of_any s (w.alloc (.cells #[.int .i64 0, .int .i64 0, .int .i64 0, .string ⟨#[]⟩, .int .i64 0] 64))
  have hsz : (w.alloc (.cells #[.int .i64 0, .int .i64 0, .int .i64 0, .string ⟨#[]⟩, .int .i64 0] 64)).heap.size = base + 1 := by simp [hbase]
  rw [hsz] at qo
  clear hsz
  rw [hbase]
  by_cases hD : rD s5 b5 = 0
  · by_cases hm : mayB ⟨zag N1, zag N2, zag N3, T4, zag N5⟩ = true
    · have hT : decT s = (⟨zag N1, zag N2, zag N3, T4, zag N5⟩, 0) := by
        have := decT_ok (s := s) (by rw [hread]; exact hD) (by rw [hread]; exact hm)
        rw [hread] at this
        exact this
      rw [hT]
      rw [if_pos hm] at q0
      clear hread hT hm
      go_enter Tryz.func223, Tryz.ntmps223
      go_wp2_with (first
        | (go_at_call 195; refine (q0 _).mono ?_; rintro e w7 ⟨rfl, b7⟩; have st7 := st6.below b7; have cx := (Box.fresh w5 (zag N1) (zag N2) (zag N3) (zag N5) T4).below b7; have ne7 := Nat.ne_of_lt (Nat.lt_of_lt_of_le st5.rs.box.lt (Nat.le_refl _)); have z0 := cx.c0; have z1 := cx.c1; have z2 := cx.c2; have z3 := cx.c3; have z4 := cx.c4; simp only [Nat.zero_add] at z1 z2 z3 z4; have u0 := st7.rs.box.c0; have u1 := st7.rs.box.c1; have u2 := st7.rs.box.c2; have u3 := st7.rs.box.c3; have u4 := st7.rs.box.c4; simp only [Nat.zero_add] at u1 u2 u3 u4; have v0 := st7.rs.free 0; have v1 := st7.rs.free 1; have v2 := st7.rs.free 2; have v3 := st7.rs.free 3; have v4 := st7.rs.free 4)
        | (go_at_call 151; refine (st6.done).mono ?_; rintro e w' ⟨rfl, rfl⟩)
        | (go_at_call 149; have d5 := d4; refine (st4.int hs h5).mono ?_; rintro e w5 ⟨rfl, st5⟩; have st6 := st5.alloc (.cells #[.int .i64 (zag N1), .int .i64 (zag N2), .int .i64 (zag N3), .string T4, .int .i64 (zag N5)] 64))
        | (go_at_call 150; refine (st3.text hs h4).mono ?_; rintro e w4 ⟨rfl, st4⟩; have d4 : True := trivial)
        | (go_at_call 149; have d3 := d2; refine (st2.int hs h3).mono ?_; rintro e w3 ⟨rfl, st3⟩)
        | (go_at_call 149; have d2 := d1; refine (st1.int hs h2).mono ?_; rintro e w2 ⟨rfl, st2⟩; have d2 : True := trivial)
        | (go_at_call 149; refine (st0.int hs h1).mono ?_; rintro e w1 ⟨rfl, st1⟩; have d1 : True := trivial)
        | (go_at_call 148; refine qo.mono ?_; rintro e w0 ⟨rfl, hw⟩; rw [hw] at st0; clear hw))
      have F := (((((st7.rs.set0 (zag N1)).set1 (zag N2)).set2 (zag N3)).set3 T4).set4 (zag N5))
      have FB := (((((st7.bel.setCell (p := ⟨base, 0, none⟩) (Nat.le_refl base) (.int .i64 (zag N1))).setCell (p := ⟨base, 1, none⟩) (Nat.le_refl base) (.int .i64 (zag N2))).setCell (p := ⟨base, 2, none⟩) (Nat.le_refl base) (.int .i64 (zag N3))).setCell (p := ⟨base, 3, none⟩) (Nat.le_refl base) (.string T4)).setCell (p := ⟨base, 4, none⟩) (Nat.le_refl base) (.int .i64 (zag N5)))
      have k0 := F.box.c0
      have k1 := F.box.c1
      have k2 := F.box.c2
      have k3 := F.box.c3
      have k4 := F.box.c4
      simp only [Nat.zero_add] at k1 k2 k3 k4
      exact bodyPost_ret (v := .tuple #[.agg #[.int .i64 (zag N1), .int .i64 (zag N2), .int .i64 (zag N3), .string T4, .int .i64 (zag N5)], .int .i64 0]) (by simp [results, Tryz.results223, go_sem, k0, k1, k2, k3, k4]) rfl ⟨rfl, FB⟩
    · have hT : decT s = (Cm.zero, 2) := decT_no (by rw [hread]; exact fun h => hm h.2)
      rw [hT]
      rw [if_neg hm] at q0
      clear hread hT hm
      go_enter Tryz.func223, Tryz.ntmps223
      go_wp2_with (first
        | (go_at_call 195; refine (q0 _).mono ?_; rintro e w7 ⟨rfl, b7⟩; have st7 := st6.below b7; have u0 := st7.rs.box.c0; have u1 := st7.rs.box.c1; have u2 := st7.rs.box.c2; have u3 := st7.rs.box.c3; have u4 := st7.rs.box.c4; simp only [Nat.zero_add] at u1 u2 u3 u4; have v0 := st7.rs.free 0; have v1 := st7.rs.free 1; have v2 := st7.rs.free 2; have v3 := st7.rs.free 3; have v4 := st7.rs.free 4)
        | (go_at_call 151; refine (st6.done).mono ?_; rintro e w' ⟨rfl, rfl⟩)
        | (go_at_call 149; have d5 := d4; refine (st4.int hs h5).mono ?_; rintro e w5 ⟨rfl, st5⟩; have st6 := st5.alloc (.cells #[.int .i64 (zag N1), .int .i64 (zag N2), .int .i64 (zag N3), .string T4, .int .i64 (zag N5)] 64))
        | (go_at_call 150; refine (st3.text hs h4).mono ?_; rintro e w4 ⟨rfl, st4⟩; have d4 : True := trivial)
        | (go_at_call 149; have d3 := d2; refine (st2.int hs h3).mono ?_; rintro e w3 ⟨rfl, st3⟩)
        | (go_at_call 149; have d2 := d1; refine (st1.int hs h2).mono ?_; rintro e w2 ⟨rfl, st2⟩; have d2 : True := trivial)
        | (go_at_call 149; refine (st0.int hs h1).mono ?_; rintro e w1 ⟨rfl, st1⟩; have d1 : True := trivial)
        | (go_at_call 148; refine qo.mono ?_; rintro e w0 ⟨rfl, hw⟩; rw [hw] at st0; clear hw))
      have F := (((((st7.rs.set0 0).set1 0).set2 0).set3 ⟨#[]⟩).set4 0)
      have FB := (((((st7.bel.setCell (p := ⟨base, 0, none⟩) (Nat.le_refl base) (.int .i64 0)).setCell (p := ⟨base, 1, none⟩) (Nat.le_refl base) (.int .i64 0)).setCell (p := ⟨base, 2, none⟩) (Nat.le_refl base) (.int .i64 0)).setCell (p := ⟨base, 3, none⟩) (Nat.le_refl base) (.string ⟨#[]⟩)).setCell (p := ⟨base, 4, none⟩) (Nat.le_refl base) (.int .i64 0))
      have k0 := F.box.c0
      have k1 := F.box.c1
      have k2 := F.box.c2
      have k3 := F.box.c3
      have k4 := F.box.c4
      simp only [Nat.zero_add] at k1 k2 k3 k4
      exact bodyPost_ret (v := .tuple #[.agg #[.int .i64 0, .int .i64 0, .int .i64 0, .string ⟨#[]⟩, .int .i64 0], .int .i64 2]) (by simp [results, Tryz.results223, go_sem, k0, k1, k2, k3, k4]) rfl ⟨rfl, FB⟩
  · have hT : decT s = (Cm.zero, 2) := decT_no (by rw [hread]; exact fun h => hD h.1)
    rw [hT]
    have hD' : (rD s5 b5 != 0) = true := by simpa using hD
    clear hread hT hD q0
    go_enter Tryz.func223, Tryz.ntmps223
    go_wp2_with (first
      | (go_at_call 151; refine (st6.done).mono ?_; rintro e w7 ⟨rfl, hw⟩; rw [hw] at st6; clear hw; have st7 := st6; have u0 := st7.rs.box.c0; have u1 := st7.rs.box.c1; have u2 := st7.rs.box.c2; have u3 := st7.rs.box.c3; have u4 := st7.rs.box.c4; simp only [Nat.zero_add] at u1 u2 u3 u4; have v0 := st7.rs.free 0; have v1 := st7.rs.free 1; have v2 := st7.rs.free 2; have v3 := st7.rs.free 3; have v4 := st7.rs.free 4)
      | (go_at_call 149; have d5 := d4; refine (st4.int hs h5).mono ?_; rintro e w5 ⟨rfl, st5⟩; have st6 := st5.alloc (.cells #[.int .i64 (zag N1), .int .i64 (zag N2), .int .i64 (zag N3), .string T4, .int .i64 (zag N5)] 64))
      | (go_at_call 150; refine (st3.text hs h4).mono ?_; rintro e w4 ⟨rfl, st4⟩; have d4 : True := trivial)
      | (go_at_call 149; have d3 := d2; refine (st2.int hs h3).mono ?_; rintro e w3 ⟨rfl, st3⟩)
      | (go_at_call 149; have d2 := d1; refine (st1.int hs h2).mono ?_; rintro e w2 ⟨rfl, st2⟩; have d2 : True := trivial)
      | (go_at_call 149; refine (st0.int hs h1).mono ?_; rintro e w1 ⟨rfl, st1⟩; have d1 : True := trivial)
      | (go_at_call 148; refine qo.mono ?_; rintro e w0 ⟨rfl, hw⟩; rw [hw] at st0; clear hw))
    have F := (((((st7.rs.set0 0).set1 0).set2 0).set3 ⟨#[]⟩).set4 0)
    have FB := (((((st7.bel.setCell (p := ⟨base, 0, none⟩) (Nat.le_refl base) (.int .i64 0)).setCell (p := ⟨base, 1, none⟩) (Nat.le_refl base) (.int .i64 0)).setCell (p := ⟨base, 2, none⟩) (Nat.le_refl base) (.int .i64 0)).setCell (p := ⟨base, 3, none⟩) (Nat.le_refl base) (.string ⟨#[]⟩)).setCell (p := ⟨base, 4, none⟩) (Nat.le_refl base) (.int .i64 0))
    have k0 := F.box.c0
    have k1 := F.box.c1
    have k2 := F.box.c2
    have k3 := F.box.c3
    have k4 := F.box.c4
    simp only [Nat.zero_add] at k1 k2 k3 k4
    exact bodyPost_ret (v := .tuple #[.agg #[.int .i64 0, .int .i64 0, .int .i64 0, .string ⟨#[]⟩, .int .i64 0], .int .i64 2]) (by simp [results, Tryz.results223, go_sem, k0, k1, k2, k3, k4]) rfl ⟨rfl, FB⟩
end Go.Proofs.YtodnnhidljfilaaGreatDoor
/-
  The contract of package cmds' DecodeEntry: for every text, the entry or the error. The condition: the text is no longer than a text of 64 bits' length.
-/
namespace Go.Proofs.YtodnnhidljfilaaGreatDoor
open Go.RowKit

/-- Where a decoding of an entry stands: the reader, the result, nothing else turned. -/
structure Df (w0 : World) (base m : Nat) (w : World) (s : ByteArray) (b : Bool) : Prop where
  rd : Rd w (base + 1) s b
  sz : s.size ≤ m
  rs : LiesE w base 0 0 0 0 0 ⟨#[]⟩ 0
  bel : Below base w0 w
theorem Df.call {w0 w w' : World} {base m : Nat} {s s' : ByteArray} {b b' : Bool} (h : Df w0 base m w s b) (hr : Rd w' (base + 1) s' b') (hz : s'.size ≤ s.size) (hg : w.grownBy w' (some (base + 1))) : Df w0 base m w' s' b' :=
  ⟨hr, Nat.le_trans hz h.sz, h.rs.far (hg.block _ h.rs.box.lt (by simp)), h.bel.grown hg (Nat.le_of_lt h.rs.box.lt) (fun k hk => by have := Option.some.inj hk; omega)⟩
theorem Df.below {w0 w w' : World} {base m : Nat} {s : ByteArray} {b : Bool} (h : Df w0 base m w s b) (hb : Below w.heap.size w w') : Df w0 base m w' s b :=
  ⟨h.rd.below hb, h.sz, h.rs.far (hb.block _ h.rs.box.lt), bmm h.bel (Nat.le_of_lt h.rs.box.lt) hb⟩
theorem Df.alloc {w0 w : World} {base m : Nat} {s : ByteArray} {b : Bool} (h : Df w0 base m w s b) (o : Obj) : Df w0 base m (w.alloc o) s b := h.below ((Below.refl _ w).alloc (Nat.le_refl _) _)
theorem Df.int {w0 w : World} {base m : Nat} {s s' : ByteArray} {b b' : Bool} {N : Nat} (hm : m ≤ 9223372036854775807) (h : Df w0 base m w s b) (hu : rU s b = (N, s', b')) :
    Calls Tryz.prog 149 #[.pointer (some ⟨base + 1, 0, none⟩)] w fun e w' => e = .returned (.int .i64 (zag N)) ∧ Df w0 base m w' s' b' := by
  have hz := rU_size s b
  have := rint_any (base + 1) s b (Nat.le_trans h.sz hm) w h.rd
  rw [hu] at this hz
  exact this.mono fun e w' ⟨he, hr, hg⟩ => ⟨he, h.call hr hz hg⟩
theorem Df.text {w0 w : World} {base m : Nat} {s s' T : ByteArray} {b b' : Bool} (hm : m ≤ 9223372036854775807) (h : Df w0 base m w s b) (hu : rT s b = (T, s', b')) :
    Calls Tryz.prog 150 #[.pointer (some ⟨base + 1, 0, none⟩)] w fun e w' => e = .returned (.string T) ∧ Df w0 base m w' s' b' := by
  have hz := rT_size s b
  have := rtext_any (base + 1) s b (Nat.le_trans h.sz hm) w h.rd
  rw [hu] at this hz
  exact this.mono fun e w' ⟨he, hr, hg⟩ => ⟨he, h.call hr hz hg⟩
theorem Df.done {w0 w : World} {base m : Nat} {s : ByteArray} {b : Bool} (h : Df w0 base m w s b) :
    Calls Tryz.prog 151 #[.pointer (some ⟨base + 1, 0, none⟩)] w fun e w' => e = .returned (.int .i64 (rD s b)) ∧ w = w' := rdone_any _ _ _ _ h.rd

set_option maxHeartbeats 3200000 in
set_option maxRecDepth 100000 in
theorem decodeE_any (s : ByteArray) (hs : s.size ≤ 9223372036854775807) (w : World) :
    Calls Tryz.prog 213 #[.string s] w fun e w' => e = .returned (.tuple #[.agg #[.int .i64 (decET s).1.slot, .int .i64 (decET s).1.ballot, .int .i64 (decET s).1.cmd.kind, .int .i64 (decET s).1.cmd.session, .int .i64 (decET s).1.cmd.seq, .string (decET s).1.cmd.name, .int .i64 (decET s).1.cmd.n], .int .i64 (decET s).2]) ∧ Below w.heap.size w w' := by
  obtain ⟨N1, s1, b1, h1⟩ : ∃ N s' b', rU s false = (N, s', b') := ⟨_, _, _, rfl⟩
  obtain ⟨N2, s2, b2, h2⟩ : ∃ N s' b', rU s1 b1 = (N, s', b') := ⟨_, _, _, rfl⟩
  obtain ⟨T3, s3, b3, h3⟩ : ∃ N s' b', rT s2 b2 = (N, s', b') := ⟨_, _, _, rfl⟩
  have hread : readE s = (zag N1, zag N2, T3, rD s3 b3) := by
    unfold readE
    simp only [h1, h2, h3]
  have hT3 : T3.size ≤ 9223372036854775807 := by
    have : T3 = (rT s2 b2).1 := by rw [h3]
    rw [this]
    unfold rT
    split
    · exact Nat.zero_le _
    · rename_i hz
      rw [Lib.size_eq, Lib.extract_data, List.length_take]
      omega
  have qd := decode_any T3 hT3
  obtain ⟨base, hbase⟩ : ∃ base, w.heap.size = base := ⟨_, rfl⟩
  have st0 : Df w base s.size ((w.alloc (.cells #[.int .i64 0, .int .i64 0, .int .i64 0, .int .i64 0, .int .i64 0, .string ⟨#[]⟩, .int .i64 0] 66)).alloc (.cells #[.string s, .bool false] 245)) s false := by
    obtain ⟨n1, n2, _⟩ := three_new w (.cells #[.int .i64 0, .int .i64 0, .int .i64 0, .int .i64 0, .int .i64 0, .string ⟨#[]⟩, .int .i64 0] 66) (.cells #[.string s, .bool false] 245) (.cells #[.int .i64 0, .int .i64 0, .int .i64 0, .int .i64 0, .int .i64 0, .string ⟨#[]⟩, .int .i64 0] 66) hbase
    have e : ((w.alloc (.cells #[.int .i64 0, .int .i64 0, .int .i64 0, .int .i64 0, .int .i64 0, .string ⟨#[]⟩, .int .i64 0] 66)).alloc (.cells #[.string s, .bool false] 245)).heap.size = base + 1 + 1 := by simp [hbase]
    rw [Below.heap_alloc _ _ _ (by rw [e]; omega)] at n1 n2
    exact ⟨n2, Nat.le_refl _, n1, ((Below.refl base w).alloc (by omega) _).alloc (by simp; omega) _⟩
  have qp := place_any (zag N1) (zag N2)
  have qo := of_any s (w.alloc (.cells #[.int .i64 0, .int .i64 0, .int .i64 0, .int .i64 0, .int .i64 0, .string ⟨#[]⟩, .int .i64 0] 66))
  have hsz : (w.alloc (.cells #[.int .i64 0, .int .i64 0, .int .i64 0, .int .i64 0, .int .i64 0, .string ⟨#[]⟩, .int .i64 0] 66)).heap.size = base + 1 := by simp [hbase]
  rw [hsz] at qo
  clear hsz
  rw [hbase]
  by_cases hD : rD s3 b3 = 0
  · by_cases hp : placeB (zag N1) (zag N2) = true
    · rw [hp] at qp
      cases hc : decC T3 with
      | none =>
        have hE : decET s = (En.zero, 2) := decET_no0 (by rw [hread]; exact hc)
        have eT : decT T3 = (Cm.zero, 2) := by unfold decT; rw [hc]
        rw [eT] at qd
        have qd' : ∀ w, Calls Tryz.prog 223 #[.string T3] w fun e w' => e = .returned (.tuple #[.agg #[.int .i64 0, .int .i64 0, .int .i64 0, .string ⟨#[]⟩, .int .i64 0], .int .i64 2]) ∧ Below w.heap.size w w' := qd
        rw [hE]
        clear hE hread hc hp eT qd
        go_enter Tryz.func213, Tryz.ntmps213
        go_wp2_with (first
          | (go_at_call 223; refine (qd' _).mono ?_; rintro e w6 ⟨rfl, b6⟩; have st6 := st5.below b6; have st7 := st6.alloc (.cells #[.int .i64 0, .int .i64 0, .int .i64 0, .string ⟨#[]⟩, .int .i64 0] 64); have u0 := st7.rs.box.c0; have u1 := st7.rs.box.c1; have u2 := st7.rs.box.c2; have u3 := st7.rs.box.c3; have u4 := st7.rs.box.c4; have u5 := st7.rs.box.c5; have u6 := st7.rs.box.c6; have v0 := st7.rs.free 0; have v1 := st7.rs.free 1; have v2 := st7.rs.free 2; have v3 := st7.rs.free 3; have v4 := st7.rs.free 4; have v5 := st7.rs.free 5; have v6 := st7.rs.free 6)
          | (go_at_call 161; refine (qp _).mono ?_; rintro e w5 ⟨rfl, b5⟩; have st5 := st4.below b5)
          | (go_at_call 151; refine (st3.done).mono ?_; rintro e w4 ⟨rfl, hw⟩; rw [hw] at st3; clear hw; have st4 := st3)
          | (go_at_call 150; refine (st2.text hs h3).mono ?_; rintro e w3 ⟨rfl, st3⟩)
          | (go_at_call 149; have d2 := d1; refine (st1.int hs h2).mono ?_; rintro e w2 ⟨rfl, st2⟩)
          | (go_at_call 149; refine (st0.int hs h1).mono ?_; rintro e w1 ⟨rfl, st1⟩; have d1 : True := trivial)
          | (go_at_call 148; refine qo.mono ?_; rintro e w0 ⟨rfl, hw⟩; rw [hw] at st0; clear hw))
        have F := (((((((st7.rs.set0 0).set1 0).set2 0).set3 0).set4 0).set5 ⟨#[]⟩).set6 0)
        have FB := (((((((st7.bel.setCell (p := ⟨base, 0, none⟩) (Nat.le_refl base) (.int .i64 0)).setCell (p := ⟨base, 1, none⟩) (Nat.le_refl base) (.int .i64 0)).setCell (p := ⟨base, 2, none⟩) (Nat.le_refl base) (.int .i64 0)).setCell (p := ⟨base, 3, none⟩) (Nat.le_refl base) (.int .i64 0)).setCell (p := ⟨base, 4, none⟩) (Nat.le_refl base) (.int .i64 0)).setCell (p := ⟨base, 5, none⟩) (Nat.le_refl base) (.string ⟨#[]⟩)).setCell (p := ⟨base, 6, none⟩) (Nat.le_refl base) (.int .i64 0))
        have k0 := F.box.c0
        have k1 := F.box.c1
        have k2 := F.box.c2
        have k3 := F.box.c3
        have k4 := F.box.c4
        have k5 := F.box.c5
        have k6 := F.box.c6
        exact bodyPost_ret (v := .tuple #[.agg #[.int .i64 0, .int .i64 0, .int .i64 0, .int .i64 0, .int .i64 0, .string ⟨#[]⟩, .int .i64 0], .int .i64 2]) (by simp [results, Tryz.results213, go_sem, k0, k1, k2, k3, k4, k5, k6]) rfl ⟨rfl, FB⟩
      | some c =>
        obtain ⟨K, S, Q, T, N⟩ := c
        have hm := (decC_only hc).1
        have hE : decET s = (⟨zag N1, zag N2, ⟨K, S, Q, T, N⟩⟩, 0) := by
          have := decET_ok (s := s) (c := ⟨K, S, Q, T, N⟩) (by rw [hread]; exact hc) (by rw [hread]; exact hD) (by rw [hread, mayE_two, hp, hm]; rfl)
          rw [hread] at this
          exact this
        have eT : decT T3 = (⟨K, S, Q, T, N⟩, 0) := by unfold decT; rw [hc]
        rw [eT] at qd
        have qd' : ∀ w, Calls Tryz.prog 223 #[.string T3] w fun e w' => e = .returned (.tuple #[.agg #[.int .i64 K, .int .i64 S, .int .i64 Q, .string T, .int .i64 N], .int .i64 0]) ∧ Below w.heap.size w w' := qd
        rw [hE]
        clear hE hread hc hp eT qd hm
        go_enter Tryz.func213, Tryz.ntmps213
        go_wp2_with (first
          | (go_at_call 223; refine (qd' _).mono ?_; rintro e w6 ⟨rfl, b6⟩; have st6 := st5.below b6; have st7 := st6.alloc (.cells #[.int .i64 K, .int .i64 S, .int .i64 Q, .string T, .int .i64 N] 64); have u0 := st7.rs.box.c0; have u1 := st7.rs.box.c1; have u2 := st7.rs.box.c2; have u3 := st7.rs.box.c3; have u4 := st7.rs.box.c4; have u5 := st7.rs.box.c5; have u6 := st7.rs.box.c6; have v0 := st7.rs.free 0; have v1 := st7.rs.free 1; have v2 := st7.rs.free 2; have v3 := st7.rs.free 3; have v4 := st7.rs.free 4; have v5 := st7.rs.free 5; have v6 := st7.rs.free 6)
          | (go_at_call 161; refine (qp _).mono ?_; rintro e w5 ⟨rfl, b5⟩; have st5 := st4.below b5)
          | (go_at_call 151; refine (st3.done).mono ?_; rintro e w4 ⟨rfl, hw⟩; rw [hw] at st3; clear hw; have st4 := st3)
          | (go_at_call 150; refine (st2.text hs h3).mono ?_; rintro e w3 ⟨rfl, st3⟩)
          | (go_at_call 149; have d2 := d1; refine (st1.int hs h2).mono ?_; rintro e w2 ⟨rfl, st2⟩)
          | (go_at_call 149; refine (st0.int hs h1).mono ?_; rintro e w1 ⟨rfl, st1⟩; have d1 : True := trivial)
          | (go_at_call 148; refine qo.mono ?_; rintro e w0 ⟨rfl, hw⟩; rw [hw] at st0; clear hw))
        have F := (((((((st7.rs.set0 (zag N1)).set1 (zag N2)).set2 K).set3 S).set4 Q).set5 T).set6 N)
        have FB := (((((((st7.bel.setCell (p := ⟨base, 0, none⟩) (Nat.le_refl base) (.int .i64 (zag N1))).setCell (p := ⟨base, 1, none⟩) (Nat.le_refl base) (.int .i64 (zag N2))).setCell (p := ⟨base, 2, none⟩) (Nat.le_refl base) (.int .i64 K)).setCell (p := ⟨base, 3, none⟩) (Nat.le_refl base) (.int .i64 S)).setCell (p := ⟨base, 4, none⟩) (Nat.le_refl base) (.int .i64 Q)).setCell (p := ⟨base, 5, none⟩) (Nat.le_refl base) (.string T)).setCell (p := ⟨base, 6, none⟩) (Nat.le_refl base) (.int .i64 N))
        have k0 := F.box.c0
        have k1 := F.box.c1
        have k2 := F.box.c2
        have k3 := F.box.c3
        have k4 := F.box.c4
        have k5 := F.box.c5
        have k6 := F.box.c6
        exact bodyPost_ret (v := .tuple #[.agg #[.int .i64 (zag N1), .int .i64 (zag N2), .int .i64 K, .int .i64 S, .int .i64 Q, .string T, .int .i64 N], .int .i64 0]) (by simp [results, Tryz.results213, go_sem, k0, k1, k2, k3, k4, k5, k6]) rfl ⟨rfl, FB⟩
    · have hp' : placeB (zag N1) (zag N2) = false := by simpa using hp
      rw [hp'] at qp
      have hE : decET s = (En.zero, 2) := by
        cases hc : decC T3 with
        | none => exact decET_no0 (by rw [hread]; exact hc)
        | some c => exact decET_no (c := c) (by rw [hread]; exact hc) (fun h => by rw [hread] at h; have h2 := h.2; obtain ⟨K, S, Q, T, N⟩ := c; rw [mayE_two, hp'] at h2; cases h2)
      rw [hE]
      clear hE hread hp hp' qd
      go_enter Tryz.func213, Tryz.ntmps213
      go_wp2_with (first
        | (go_at_call 161; refine (qp _).mono ?_; rintro e w5 ⟨rfl, b5⟩; have st7 := st4.below b5; have u0 := st7.rs.box.c0; have u1 := st7.rs.box.c1; have u2 := st7.rs.box.c2; have u3 := st7.rs.box.c3; have u4 := st7.rs.box.c4; have u5 := st7.rs.box.c5; have u6 := st7.rs.box.c6; have v0 := st7.rs.free 0; have v1 := st7.rs.free 1; have v2 := st7.rs.free 2; have v3 := st7.rs.free 3; have v4 := st7.rs.free 4; have v5 := st7.rs.free 5; have v6 := st7.rs.free 6)
        | (go_at_call 151; refine (st3.done).mono ?_; rintro e w4 ⟨rfl, hw⟩; rw [hw] at st3; clear hw; have st4 := st3)
        | (go_at_call 150; refine (st2.text hs h3).mono ?_; rintro e w3 ⟨rfl, st3⟩)
        | (go_at_call 149; have d2 := d1; refine (st1.int hs h2).mono ?_; rintro e w2 ⟨rfl, st2⟩)
        | (go_at_call 149; refine (st0.int hs h1).mono ?_; rintro e w1 ⟨rfl, st1⟩; have d1 : True := trivial)
        | (go_at_call 148; refine qo.mono ?_; rintro e w0 ⟨rfl, hw⟩; rw [hw] at st0; clear hw))
      have F := (((((((st7.rs.set0 0).set1 0).set2 0).set3 0).set4 0).set5 ⟨#[]⟩).set6 0)
      have FB := (((((((st7.bel.setCell (p := ⟨base, 0, none⟩) (Nat.le_refl base) (.int .i64 0)).setCell (p := ⟨base, 1, none⟩) (Nat.le_refl base) (.int .i64 0)).setCell (p := ⟨base, 2, none⟩) (Nat.le_refl base) (.int .i64 0)).setCell (p := ⟨base, 3, none⟩) (Nat.le_refl base) (.int .i64 0)).setCell (p := ⟨base, 4, none⟩) (Nat.le_refl base) (.int .i64 0)).setCell (p := ⟨base, 5, none⟩) (Nat.le_refl base) (.string ⟨#[]⟩)).setCell (p := ⟨base, 6, none⟩) (Nat.le_refl base) (.int .i64 0))
      have k0 := F.box.c0
      have k1 := F.box.c1
      have k2 := F.box.c2
      have k3 := F.box.c3
      have k4 := F.box.c4
      have k5 := F.box.c5
      have k6 := F.box.c6
      exact bodyPost_ret (v := .tuple #[.agg #[.int .i64 0, .int .i64 0, .int .i64 0, .int .i64 0, .int .i64 0, .string ⟨#[]⟩, .int .i64 0], .int .i64 2]) (by simp [results, Tryz.results213, go_sem, k0, k1, k2, k3, k4, k5, k6]) rfl ⟨rfl, FB⟩
  · have hE : decET s = (En.zero, 2) := decET_no1 (by rw [hread]; exact hD)
    rw [hE]
    have hD' : (rD s3 b3 != 0) = true := by simpa using hD
    clear hE hread hD qd qp
    go_enter Tryz.func213, Tryz.ntmps213
    go_wp2_with (first
      | (go_at_call 151; refine (st3.done).mono ?_; rintro e w4 ⟨rfl, hw⟩; rw [hw] at st3; clear hw; have st7 := st3; have u0 := st7.rs.box.c0; have u1 := st7.rs.box.c1; have u2 := st7.rs.box.c2; have u3 := st7.rs.box.c3; have u4 := st7.rs.box.c4; have u5 := st7.rs.box.c5; have u6 := st7.rs.box.c6; have v0 := st7.rs.free 0; have v1 := st7.rs.free 1; have v2 := st7.rs.free 2; have v3 := st7.rs.free 3; have v4 := st7.rs.free 4; have v5 := st7.rs.free 5; have v6 := st7.rs.free 6)
      | (go_at_call 150; refine (st2.text hs h3).mono ?_; rintro e w3 ⟨rfl, st3⟩)
      | (go_at_call 149; have d2 := d1; refine (st1.int hs h2).mono ?_; rintro e w2 ⟨rfl, st2⟩)
      | (go_at_call 149; refine (st0.int hs h1).mono ?_; rintro e w1 ⟨rfl, st1⟩; have d1 : True := trivial)
      | (go_at_call 148; refine qo.mono ?_; rintro e w0 ⟨rfl, hw⟩; rw [hw] at st0; clear hw))
    have F := (((((((st7.rs.set0 0).set1 0).set2 0).set3 0).set4 0).set5 ⟨#[]⟩).set6 0)
    have FB := (((((((st7.bel.setCell (p := ⟨base, 0, none⟩) (Nat.le_refl base) (.int .i64 0)).setCell (p := ⟨base, 1, none⟩) (Nat.le_refl base) (.int .i64 0)).setCell (p := ⟨base, 2, none⟩) (Nat.le_refl base) (.int .i64 0)).setCell (p := ⟨base, 3, none⟩) (Nat.le_refl base) (.int .i64 0)).setCell (p := ⟨base, 4, none⟩) (Nat.le_refl base) (.int .i64 0)).setCell (p := ⟨base, 5, none⟩) (Nat.le_refl base) (.string ⟨#[]⟩)).setCell (p := ⟨base, 6, none⟩) (Nat.le_refl base) (.int .i64 0))
    have k0 := F.box.c0
    have k1 := F.box.c1
    have k2 := F.box.c2
    have k3 := F.box.c3
    have k4 := F.box.c4
    have k5 := F.box.c5
    have k6 := F.box.c6
    exact bodyPost_ret (v := .tuple #[.agg #[.int .i64 0, .int .i64 0, .int .i64 0, .int .i64 0, .int .i64 0, .string ⟨#[]⟩, .int .i64 0], .int .i64 2]) (by simp [results, Tryz.results213, go_sem, k0, k1, k2, k3, k4, k5, k6]) rfl ⟨rfl, FB⟩
end Go.Proofs.YtodnnhidljfilaaGreatDoor
