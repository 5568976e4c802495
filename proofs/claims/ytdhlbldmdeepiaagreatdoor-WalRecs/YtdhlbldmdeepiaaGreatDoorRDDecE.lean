/-
  The contract of package cmds' DecodeEntry: for every text, the entry or the error. The condition: the text is no longer than a text of 64 bits' length.
-/
import Derived.Test.YtdhlbldmdeepiaaGreatDoorRDDec
import Derived.Test.YtdhlbldmdeepiaaGreatDoorRPackI
namespace Go.Proofs.YtdhlbldmdeepiaaGreatDoor
open Go.RowKit

/-- Where a decoding of an entry stands: the reader, the result, nothing else turned. -/
structure Df (w0 : World) (base m : Nat) (w : World) (s : ByteArray) (b : Bool) : Prop where
  rd : Rd w (base + 1) s b
  sz : s.size ≤ m
  rs : LiesE w base 0 0 0 0 0 ⟨#[]⟩ 0
  bel : Below base w0 w
theorem Df.call {w0 w w' : World} {base m : Nat} {s s' : ByteArray} {b b' : Bool} (h : Df w0 base m w s b) (hr : Rd w' (base + 1) s' b') (hz : s'.size ≤ s.size) (hg : w.grownBy w' (some (base + 1))) : Df w0 base m w' s' b' :=
  ⟨hr, Nat.le_trans hz h.sz, h.rs.far (hg.block _ h.rs.box.lt (by simp)), h.bel.grown hg (Nat.le_of_lt h.rs.box.lt) (fun k hk => by have := Option.some.inj hk; omega)⟩
theorem Df.below {w0 w w' : World} {base m : Nat} {s : ByteArray} {b : Bool} (h : Df w0 base m w s b) (hb : Below w.heap.size w w') : Df w0 base m w' s b :=
  ⟨h.rd.below hb, h.sz, h.rs.far (hb.block _ h.rs.box.lt), bmm h.bel (Nat.le_of_lt h.rs.box.lt) hb⟩
theorem Df.alloc {w0 w : World} {base m : Nat} {s : ByteArray} {b : Bool} (h : Df w0 base m w s b) (o : Obj) : Df w0 base m (w.alloc o) s b := h.below ((Below.refl _ w).alloc (Nat.le_refl _) _)
theorem Df.int {w0 w : World} {base m : Nat} {s s' : ByteArray} {b b' : Bool} {N : Nat} (hm : m ≤ 9223372036854775807) (h : Df w0 base m w s b) (hu : rU s b = (N, s', b')) :
    Calls Tryz.prog 104 #[.pointer (some ⟨base + 1, 0, none⟩)] w fun e w' => e = .returned (.int .i64 (zag N)) ∧ Df w0 base m w' s' b' := by
  have hz := rU_size s b
  have := rint_any (base + 1) s b (Nat.le_trans h.sz hm) w h.rd
  rw [hu] at this hz
  exact this.mono fun e w' ⟨he, hr, hg⟩ => ⟨he, h.call hr hz hg⟩
theorem Df.text {w0 w : World} {base m : Nat} {s s' T : ByteArray} {b b' : Bool} (hm : m ≤ 9223372036854775807) (h : Df w0 base m w s b) (hu : rT s b = (T, s', b')) :
    Calls Tryz.prog 105 #[.pointer (some ⟨base + 1, 0, none⟩)] w fun e w' => e = .returned (.string T) ∧ Df w0 base m w' s' b' := by
  have hz := rT_size s b
  have := rtext_any (base + 1) s b (Nat.le_trans h.sz hm) w h.rd
  rw [hu] at this hz
  exact this.mono fun e w' ⟨he, hr, hg⟩ => ⟨he, h.call hr hz hg⟩
theorem Df.done {w0 w : World} {base m : Nat} {s : ByteArray} {b : Bool} (h : Df w0 base m w s b) :
    Calls Tryz.prog 106 #[.pointer (some ⟨base + 1, 0, none⟩)] w fun e w' => e = .returned (.int .i64 (rD s b)) ∧ w = w' := rdone_any _ _ _ _ h.rd

set_option maxHeartbeats 3200000 in
set_option maxRecDepth 100000 in
theorem decodeE_any (s : ByteArray) (hs : s.size ≤ 9223372036854775807) (w : World) :
    Calls Tryz.prog 77 #[.string s] w fun e w' => e = .returned (.tuple #[.agg #[.int .i64 (decET s).1.slot, .int .i64 (decET s).1.ballot, .int .i64 (decET s).1.cmd.kind, .int .i64 (decET s).1.cmd.session, .int .i64 (decET s).1.cmd.seq, .string (decET s).1.cmd.name, .int .i64 (decET s).1.cmd.n], .int .i64 (decET s).2]) ∧ Below w.heap.size w w' := by
  obtain ⟨N1, s1, b1, h1⟩ : ∃ N s' b', rU s false = (N, s', b') := ⟨_, _, _, rfl⟩
  obtain ⟨N2, s2, b2, h2⟩ : ∃ N s' b', rU s1 b1 = (N, s', b') := ⟨_, _, _, rfl⟩
  obtain ⟨T3, s3, b3, h3⟩ : ∃ N s' b', rT s2 b2 = (N, s', b') := ⟨_, _, _, rfl⟩
  have hread : readE s = (zag N1, zag N2, T3, rD s3 b3) := by
    unfold readE
    simp only [h1, h2, h3]
  have hT3 : T3.size ≤ 9223372036854775807 := by
    have : T3 = (rT s2 b2).1 := by rw [h3]
    rw [this]
    unfold rT
    split
    · exact Nat.zero_le _
    · rename_i hz
      rw [Lib.size_eq, Lib.extract_data, List.length_take]
      omega
  have qd := decode_any T3 hT3
  obtain ⟨base, hbase⟩ : ∃ base, w.heap.size = base := ⟨_, rfl⟩
  have st0 : Df w base s.size ((w.alloc (.cells #[.int .i64 0, .int .i64 0, .int .i64 0, .int .i64 0, .int .i64 0, .string ⟨#[]⟩, .int .i64 0] 25)).alloc (.cells #[.string s, .bool false] 174)) s false := by
    obtain ⟨n1, n2, _⟩ := three_new w (.cells #[.int .i64 0, .int .i64 0, .int .i64 0, .int .i64 0, .int .i64 0, .string ⟨#[]⟩, .int .i64 0] 25) (.cells #[.string s, .bool false] 174) (.cells #[.int .i64 0, .int .i64 0, .int .i64 0, .int .i64 0, .int .i64 0, .string ⟨#[]⟩, .int .i64 0] 25) hbase
    have e : ((w.alloc (.cells #[.int .i64 0, .int .i64 0, .int .i64 0, .int .i64 0, .int .i64 0, .string ⟨#[]⟩, .int .i64 0] 25)).alloc (.cells #[.string s, .bool false] 174)).heap.size = base + 1 + 1 := by simp [hbase]
    rw [Below.heap_alloc _ _ _ (by rw [e]; omega)] at n1 n2
    exact ⟨n2, Nat.le_refl _, n1, ((Below.refl base w).alloc (by omega) _).alloc (by simp; omega) _⟩
  have qp := place_any (zag N1) (zag N2)
  have qo := of_any s (w.alloc (.cells #[.int .i64 0, .int .i64 0, .int .i64 0, .int .i64 0, .int .i64 0, .string ⟨#[]⟩, .int .i64 0] 25))
  have hsz : (w.alloc (.cells #[.int .i64 0, .int .i64 0, .int .i64 0, .int .i64 0, .int .i64 0, .string ⟨#[]⟩, .int .i64 0] 25)).heap.size = base + 1 := by simp [hbase]
  rw [hsz] at qo
  clear hsz
  rw [hbase]
  by_cases hD : rD s3 b3 = 0
  · by_cases hp : placeB (zag N1) (zag N2) = true
    · rw [hp] at qp
      cases hc : decC T3 with
      | none =>
        have hE : decET s = (En.zero, 2) := decET_no0 (by rw [hread]; exact hc)
        have eT : decT T3 = (Cm.zero, 2) := by unfold decT; rw [hc]
        rw [eT] at qd
        have qd' : ∀ w, Calls Tryz.prog 107 #[.string T3] w fun e w' => e = .returned (.tuple #[.agg #[.int .i64 0, .int .i64 0, .int .i64 0, .string ⟨#[]⟩, .int .i64 0], .int .i64 2]) ∧ Below w.heap.size w w' := qd
        rw [hE]
        clear hE hread hc hp eT qd
        go_enter Tryz.func77, Tryz.ntmps77
        go_wp2_with (first
          | (go_at_call 107; refine (qd' _).mono ?_; rintro e w6 ⟨rfl, b6⟩; have st6 := st5.below b6; have st7 := st6.alloc (.cells #[.int .i64 0, .int .i64 0, .int .i64 0, .string ⟨#[]⟩, .int .i64 0] 23); have u0 := st7.rs.box.c0; have u1 := st7.rs.box.c1; have u2 := st7.rs.box.c2; have u3 := st7.rs.box.c3; have u4 := st7.rs.box.c4; have u5 := st7.rs.box.c5; have u6 := st7.rs.box.c6; have v0 := st7.rs.free 0; have v1 := st7.rs.free 1; have v2 := st7.rs.free 2; have v3 := st7.rs.free 3; have v4 := st7.rs.free 4; have v5 := st7.rs.free 5; have v6 := st7.rs.free 6)
          | (go_at_call 67; refine (qp _).mono ?_; rintro e w5 ⟨rfl, b5⟩; have st5 := st4.below b5)
          | (go_at_call 106; refine (st3.done).mono ?_; rintro e w4 ⟨rfl, hw⟩; rw [hw] at st3; clear hw; have st4 := st3)
          | (go_at_call 105; refine (st2.text hs h3).mono ?_; rintro e w3 ⟨rfl, st3⟩)
          | (go_at_call 104; have d2 := d1; refine (st1.int hs h2).mono ?_; rintro e w2 ⟨rfl, st2⟩)
          | (go_at_call 104; refine (st0.int hs h1).mono ?_; rintro e w1 ⟨rfl, st1⟩; have d1 : True := trivial)
          | (go_at_call 103; refine qo.mono ?_; rintro e w0 ⟨rfl, hw⟩; rw [hw] at st0; clear hw))
        have F := (((((((st7.rs.set0 0).set1 0).set2 0).set3 0).set4 0).set5 ⟨#[]⟩).set6 0)
        have FB := (((((((st7.bel.setCell (p := ⟨base, 0, none⟩) (Nat.le_refl base) (.int .i64 0)).setCell (p := ⟨base, 1, none⟩) (Nat.le_refl base) (.int .i64 0)).setCell (p := ⟨base, 2, none⟩) (Nat.le_refl base) (.int .i64 0)).setCell (p := ⟨base, 3, none⟩) (Nat.le_refl base) (.int .i64 0)).setCell (p := ⟨base, 4, none⟩) (Nat.le_refl base) (.int .i64 0)).setCell (p := ⟨base, 5, none⟩) (Nat.le_refl base) (.string ⟨#[]⟩)).setCell (p := ⟨base, 6, none⟩) (Nat.le_refl base) (.int .i64 0))
        have k0 := F.box.c0
        have k1 := F.box.c1
        have k2 := F.box.c2
        have k3 := F.box.c3
        have k4 := F.box.c4
        have k5 := F.box.c5
        have k6 := F.box.c6
        exact bodyPost_ret (v := .tuple #[.agg #[.int .i64 0, .int .i64 0, .int .i64 0, .int .i64 0, .int .i64 0, .string ⟨#[]⟩, .int .i64 0], .int .i64 2]) (by simp [results, Tryz.results77, go_sem, k0, k1, k2, k3, k4, k5, k6]) rfl ⟨rfl, FB⟩
      | some c =>
        obtain ⟨K, S, Q, T, N⟩ := c
        have hm := (decC_only hc).1
        have hE : decET s = (⟨zag N1, zag N2, ⟨K, S, Q, T, N⟩⟩, 0) := by
          have := decET_ok (s := s) (c := ⟨K, S, Q, T, N⟩) (by rw [hread]; exact hc) (by rw [hread]; exact hD) (by rw [hread, mayE_two, hp, hm]; rfl)
          rw [hread] at this
          exact this
        have eT : decT T3 = (⟨K, S, Q, T, N⟩, 0) := by unfold decT; rw [hc]
        rw [eT] at qd
        have qd' : ∀ w, Calls Tryz.prog 107 #[.string T3] w fun e w' => e = .returned (.tuple #[.agg #[.int .i64 K, .int .i64 S, .int .i64 Q, .string T, .int .i64 N], .int .i64 0]) ∧ Below w.heap.size w w' := qd
        rw [hE]
        clear hE hread hc hp eT qd hm
        go_enter Tryz.func77, Tryz.ntmps77
        go_wp2_with (first
          | (go_at_call 107; refine (qd' _).mono ?_; rintro e w6 ⟨rfl, b6⟩; have st6 := st5.below b6; have st7 := st6.alloc (.cells #[.int .i64 K, .int .i64 S, .int .i64 Q, .string T, .int .i64 N] 23); have u0 := st7.rs.box.c0; have u1 := st7.rs.box.c1; have u2 := st7.rs.box.c2; have u3 := st7.rs.box.c3; have u4 := st7.rs.box.c4; have u5 := st7.rs.box.c5; have u6 := st7.rs.box.c6; have v0 := st7.rs.free 0; have v1 := st7.rs.free 1; have v2 := st7.rs.free 2; have v3 := st7.rs.free 3; have v4 := st7.rs.free 4; have v5 := st7.rs.free 5; have v6 := st7.rs.free 6)
          | (go_at_call 67; refine (qp _).mono ?_; rintro e w5 ⟨rfl, b5⟩; have st5 := st4.below b5)
          | (go_at_call 106; refine (st3.done).mono ?_; rintro e w4 ⟨rfl, hw⟩; rw [hw] at st3; clear hw; have st4 := st3)
          | (go_at_call 105; refine (st2.text hs h3).mono ?_; rintro e w3 ⟨rfl, st3⟩)
          | (go_at_call 104; have d2 := d1; refine (st1.int hs h2).mono ?_; rintro e w2 ⟨rfl, st2⟩)
          | (go_at_call 104; refine (st0.int hs h1).mono ?_; rintro e w1 ⟨rfl, st1⟩; have d1 : True := trivial)
          | (go_at_call 103; refine qo.mono ?_; rintro e w0 ⟨rfl, hw⟩; rw [hw] at st0; clear hw))
        have F := (((((((st7.rs.set0 (zag N1)).set1 (zag N2)).set2 K).set3 S).set4 Q).set5 T).set6 N)
        have FB := (((((((st7.bel.setCell (p := ⟨base, 0, none⟩) (Nat.le_refl base) (.int .i64 (zag N1))).setCell (p := ⟨base, 1, none⟩) (Nat.le_refl base) (.int .i64 (zag N2))).setCell (p := ⟨base, 2, none⟩) (Nat.le_refl base) (.int .i64 K)).setCell (p := ⟨base, 3, none⟩) (Nat.le_refl base) (.int .i64 S)).setCell (p := ⟨base, 4, none⟩) (Nat.le_refl base) (.int .i64 Q)).setCell (p := ⟨base, 5, none⟩) (Nat.le_refl base) (.string T)).setCell (p := ⟨base, 6, none⟩) (Nat.le_refl base) (.int .i64 N))
        have k0 := F.box.c0
        have k1 := F.box.c1
        have k2 := F.box.c2
        have k3 := F.box.c3
        have k4 := F.box.c4
        have k5 := F.box.c5
        have k6 := F.box.c6
        exact bodyPost_ret (v := .tuple #[.agg #[.int .i64 (zag N1), .int .i64 (zag N2), .int .i64 K, .int .i64 S, .int .i64 Q, .string T, .int .i64 N], .int .i64 0]) (by simp [results, Tryz.results77, go_sem, k0, k1, k2, k3, k4, k5, k6]) rfl ⟨rfl, FB⟩
    · have hp' : placeB (zag N1) (zag N2) = false := by simpa using hp
      rw [hp'] at qp
      have hE : decET s = (En.zero, 2) := by
        cases hc : decC T3 with
        | none => exact decET_no0 (by rw [hread]; exact hc)
        | some c => exact decET_no (c := c) (by rw [hread]; exact hc) (fun h => by rw [hread] at h; have h2 := h.2; obtain ⟨K, S, Q, T, N⟩ := c; rw [mayE_two, hp'] at h2; cases h2)
      rw [hE]
      clear hE hread hp hp' qd
      go_enter Tryz.func77, Tryz.ntmps77
      go_wp2_with (first
        | (go_at_call 67; refine (qp _).mono ?_; rintro e w5 ⟨rfl, b5⟩; have st7 := st4.below b5; have u0 := st7.rs.box.c0; have u1 := st7.rs.box.c1; have u2 := st7.rs.box.c2; have u3 := st7.rs.box.c3; have u4 := st7.rs.box.c4; have u5 := st7.rs.box.c5; have u6 := st7.rs.box.c6; have v0 := st7.rs.free 0; have v1 := st7.rs.free 1; have v2 := st7.rs.free 2; have v3 := st7.rs.free 3; have v4 := st7.rs.free 4; have v5 := st7.rs.free 5; have v6 := st7.rs.free 6)
        | (go_at_call 106; refine (st3.done).mono ?_; rintro e w4 ⟨rfl, hw⟩; rw [hw] at st3; clear hw; have st4 := st3)
        | (go_at_call 105; refine (st2.text hs h3).mono ?_; rintro e w3 ⟨rfl, st3⟩)
        | (go_at_call 104; have d2 := d1; refine (st1.int hs h2).mono ?_; rintro e w2 ⟨rfl, st2⟩)
        | (go_at_call 104; refine (st0.int hs h1).mono ?_; rintro e w1 ⟨rfl, st1⟩; have d1 : True := trivial)
        | (go_at_call 103; refine qo.mono ?_; rintro e w0 ⟨rfl, hw⟩; rw [hw] at st0; clear hw))
      have F := (((((((st7.rs.set0 0).set1 0).set2 0).set3 0).set4 0).set5 ⟨#[]⟩).set6 0)
      have FB := (((((((st7.bel.setCell (p := ⟨base, 0, none⟩) (Nat.le_refl base) (.int .i64 0)).setCell (p := ⟨base, 1, none⟩) (Nat.le_refl base) (.int .i64 0)).setCell (p := ⟨base, 2, none⟩) (Nat.le_refl base) (.int .i64 0)).setCell (p := ⟨base, 3, none⟩) (Nat.le_refl base) (.int .i64 0)).setCell (p := ⟨base, 4, none⟩) (Nat.le_refl base) (.int .i64 0)).setCell (p := ⟨base, 5, none⟩) (Nat.le_refl base) (.string ⟨#[]⟩)).setCell (p := ⟨base, 6, none⟩) (Nat.le_refl base) (.int .i64 0))
      have k0 := F.box.c0
      have k1 := F.box.c1
      have k2 := F.box.c2
      have k3 := F.box.c3
      have k4 := F.box.c4
      have k5 := F.box.c5
      have k6 := F.box.c6
      exact bodyPost_ret (v := .tuple #[.agg #[.int .i64 0, .int .i64 0, .int .i64 0, .int .i64 0, .int .i64 0, .string ⟨#[]⟩, .int .i64 0], .int .i64 2]) (by simp [results, Tryz.results77, go_sem, k0, k1, k2, k3, k4, k5, k6]) rfl ⟨rfl, FB⟩
  · have hE : decET s = (En.zero, 2) := decET_no1 (by rw [hread]; exact hD)
    rw [hE]
    have hD' : (rD s3 b3 != 0) = true := by simpa using hD
    clear hE hread hD qd qp
    go_enter Tryz.func77, Tryz.ntmps77
    go_wp2_with (first
      | (go_at_call 106; refine (st3.done).mono ?_; rintro e w4 ⟨rfl, hw⟩; rw [hw] at st3; clear hw; have st7 := st3; have u0 := st7.rs.box.c0; have u1 := st7.rs.box.c1; have u2 := st7.rs.box.c2; have u3 := st7.rs.box.c3; have u4 := st7.rs.box.c4; have u5 := st7.rs.box.c5; have u6 := st7.rs.box.c6; have v0 := st7.rs.free 0; have v1 := st7.rs.free 1; have v2 := st7.rs.free 2; have v3 := st7.rs.free 3; have v4 := st7.rs.free 4; have v5 := st7.rs.free 5; have v6 := st7.rs.free 6)
      | (go_at_call 105; refine (st2.text hs h3).mono ?_; rintro e w3 ⟨rfl, st3⟩)
      | (go_at_call 104; have d2 := d1; refine (st1.int hs h2).mono ?_; rintro e w2 ⟨rfl, st2⟩)
      | (go_at_call 104; refine (st0.int hs h1).mono ?_; rintro e w1 ⟨rfl, st1⟩; have d1 : True := trivial)
      | (go_at_call 103; refine qo.mono ?_; rintro e w0 ⟨rfl, hw⟩; rw [hw] at st0; clear hw))
    have F := (((((((st7.rs.set0 0).set1 0).set2 0).set3 0).set4 0).set5 ⟨#[]⟩).set6 0)
    have FB := (((((((st7.bel.setCell (p := ⟨base, 0, none⟩) (Nat.le_refl base) (.int .i64 0)).setCell (p := ⟨base, 1, none⟩) (Nat.le_refl base) (.int .i64 0)).setCell (p := ⟨base, 2, none⟩) (Nat.le_refl base) (.int .i64 0)).setCell (p := ⟨base, 3, none⟩) (Nat.le_refl base) (.int .i64 0)).setCell (p := ⟨base, 4, none⟩) (Nat.le_refl base) (.int .i64 0)).setCell (p := ⟨base, 5, none⟩) (Nat.le_refl base) (.string ⟨#[]⟩)).setCell (p := ⟨base, 6, none⟩) (Nat.le_refl base) (.int .i64 0))
    have k0 := F.box.c0
    have k1 := F.box.c1
    have k2 := F.box.c2
    have k3 := F.box.c3
    have k4 := F.box.c4
    have k5 := F.box.c5
    have k6 := F.box.c6
    exact bodyPost_ret (v := .tuple #[.agg #[.int .i64 0, .int .i64 0, .int .i64 0, .int .i64 0, .int .i64 0, .string ⟨#[]⟩, .int .i64 0], .int .i64 2]) (by simp [results, Tryz.results77, go_sem, k0, k1, k2, k3, k4, k5, k6]) rfl ⟨rfl, FB⟩
end Go.Proofs.YtdhlbldmdeepiaaGreatDoor
