/-
  A text read as a message, by the document's own (package latchkeyref04). The condition: the text is no longer than a text of 64 bits' length.
-/
import Derived.Test.YtmmdcbgmhjheeaaMgOwn
import Derived.Test.YtmmdcbgmhjheeaaMgRead
import Derived.Test.YtmmdcbgmhjheeaaMgMay
namespace Go.Proofs.Ytmmdcbgmhjheeaa
open Go.RowKit


/-- Where a decoding stands: the reader, the message so far with its entries, the result, nothing else turned. -/
structure Dm (w0 : World) (base mx : Nat) (w : World) (s : ByteArray) (b : Bool) (m : Ms) (v : Value) (es : List En) : Prop where
  rd : Rp w (base + 1) mx s b
  cm : MLies w (base + 1 + 1) m v
  rs : MLies w base Ms.zero (.slice none 0 0)
  ow : OwnEs w (base + 1 + 1 + 1) v es
  bel : Below base w0 w
theorem Dm.call {w0 w w' : World} {base mx : Nat} {s s' : ByteArray} {b b' : Bool} {m : Ms} {v : Value} {es : List En} (h : Dm w0 base mx w s b m v es) (hr : Rp w' (base + 1) mx s' b') (hg : w.grownBy w' (some (base + 1))) : Dm w0 base mx w' s' b' m v es :=
  ⟨hr, h.cm.far (hg.block _ h.cm.lt (by simp)), h.rs.far (hg.block _ h.rs.lt (by simp)), h.ow.keep hg (fun k hk => by have := Option.some.inj hk; omega), h.bel.grown hg (Nat.le_of_lt h.rs.lt) (fun k hk => by have := Option.some.inj hk; omega)⟩
theorem Dm.below {w0 w w' : World} {base mx : Nat} {s : ByteArray} {b : Bool} {m : Ms} {v : Value} {es : List En} (h : Dm w0 base mx w s b m v es) (hb : Below w.heap.size w w') : Dm w0 base mx w' s b m v es :=
  ⟨h.rd.far (hb.block _ h.rd.lt), h.cm.below hb, h.rs.below hb, h.ow.below hb, bmm h.bel (Nat.le_of_lt h.rs.lt) hb⟩
theorem Dm.alloc {w0 w : World} {base mx : Nat} {s : ByteArray} {b : Bool} {m : Ms} {v : Value} {es : List En} (h : Dm w0 base mx w s b m v es) (ob : Obj) : Dm w0 base mx (w.alloc ob) s b m v es := h.below ((Below.refl _ w).alloc (Nat.le_refl _) _)
theorem Dm.set {w0 w : World} {base mx i : Nat} {u : Value} {s : ByteArray} {b : Bool} {m m' : Ms} {v : Value} {es : List En} (h : Dm w0 base mx w s b m v es) (hc : MLies (w.setCell ⟨base + 1 + 1, i, none⟩ u) (base + 1 + 1) m' v) : Dm w0 base mx (w.setCell ⟨base + 1 + 1, i, none⟩ u) s b m' v es :=
  ⟨h.rd.far (heap_setCell_other _ _ _ _ (by simp)), hc, h.rs.far (heap_setCell_other _ _ _ _ (by simp; omega)), h.ow.setCell (by simp) _, h.bel.setCell (p := ⟨base + 1 + 1, i, none⟩) (by simp; omega) _⟩
theorem Dm.app {w0 w w' : World} {base mx : Nat} {s : ByteArray} {b : Bool} {m : Ms} {v v' : Value} {es es' : List En} (h : Dm w0 base mx w s b m v es) (hg : w.grownBy w' v.ownBlock) (ho : OwnEs w' (base + 1 + 1 + 1) v' es') :
    MLies w' (base + 1 + 1) m v ∧ Dm w0 base mx (w'.setCell ⟨base + 1 + 1, 8, none⟩ v') s b m v' es' := by
  have hne : ∀ k, k < base + 1 + 1 + 1 → some k ≠ v.ownBlock := fun k hk e => by
    have := (World.ownsRow.lt h.ow k e.symm).1
    omega
  have c := h.cm.far (hg.block _ h.cm.lt (hne _ (by omega)))
  have r := h.rd.far (hg.block _ h.rd.lt (hne _ (by omega)))
  have z := h.rs.far (hg.block _ h.rs.lt (hne _ (by omega)))
  have bl := h.bel.grown hg (Nat.le_of_lt h.rs.lt) (fun k hk => by have := (World.ownsRow.lt h.ow k hk).1; omega)
  exact ⟨c, r.far (heap_setCell_other _ _ _ _ (by simp)), c.set8 v', z.far (heap_setCell_other _ _ _ _ (by simp; omega)), ho.setCell (by simp) _, bl.setCell (p := ⟨base + 1 + 1, 8, none⟩) (by simp; omega) _⟩
theorem Dm.size {w0 w : World} {base mx : Nat} {s : ByteArray} {b : Bool} {m : Ms} {v : Value} {es : List En} (h : Dm w0 base mx w s b m v es) : base + 1 + 1 + 1 ≤ w.heap.size := h.cm.lt
theorem OwnEs.form {w : World} {base : Nat} {v : Value} {es : List En} (h : OwnEs w base v es) : ∃ pv nv cv, v = .slice pv nv cv := by
  rcases h.2 with ⟨rfl, _⟩ | ⟨g, cap, cur, rfl, _⟩
  · exact ⟨_, _, _, rfl⟩
  · exact ⟨_, _, _, rfl⟩
theorem EntAt.nothing (w : World) : EntAt w (.slice none 0 0) [] := ⟨⟨none, 0, rfl, Or.inl rfl⟩⟩
theorem Dm.start (w : World) (s : ByteArray) {base : Nat} (hbase : w.heap.size = base) : Dm w base s.size (((w.alloc (.cells #[.int .i64 0, .int .i64 0, .int .i64 0, .int .i64 0, .int .i64 0, .int .i64 0, .int .i64 0, .int .i64 0, .slice none 0 0, .int .i64 0, .int .i64 0, .int .i64 0, .string ⟨#[]⟩, .int .i64 0, .int .i64 0, .int .i64 0, .int .i64 0, .int .u64 0, .int .i64 0, .string ⟨#[]⟩] 30)).alloc (.cells #[.string s, .bool false] 72)).alloc (.cells #[.int .i64 0, .int .i64 0, .int .i64 0, .int .i64 0, .int .i64 0, .int .i64 0, .int .i64 0, .int .i64 0, .slice none 0 0, .int .i64 0, .int .i64 0, .int .i64 0, .string ⟨#[]⟩, .int .i64 0, .int .i64 0, .int .i64 0, .int .i64 0, .int .u64 0, .int .i64 0, .string ⟨#[]⟩] 30)) s false Ms.zero (.slice none 0 0) [] := by
  obtain ⟨n1, n2, n3⟩ := three_new w (.cells #[.int .i64 0, .int .i64 0, .int .i64 0, .int .i64 0, .int .i64 0, .int .i64 0, .int .i64 0, .int .i64 0, .slice none 0 0, .int .i64 0, .int .i64 0, .int .i64 0, .string ⟨#[]⟩, .int .i64 0, .int .i64 0, .int .i64 0, .int .i64 0, .int .u64 0, .int .i64 0, .string ⟨#[]⟩] 30) (.cells #[.string s, .bool false] 72) (.cells #[.int .i64 0, .int .i64 0, .int .i64 0, .int .i64 0, .int .i64 0, .int .i64 0, .int .i64 0, .int .i64 0, .slice none 0 0, .int .i64 0, .int .i64 0, .int .i64 0, .string ⟨#[]⟩, .int .i64 0, .int .i64 0, .int .i64 0, .int .i64 0, .int .u64 0, .int .i64 0, .string ⟨#[]⟩] 30) hbase
  exact ⟨⟨s, ⟨fun _ => rfl, fun h => by cases h⟩, Nat.le_refl _, n2⟩, n3, n1, OwnEs.nil _ _, (((Below.refl base w).alloc (by omega) _).alloc (by simp; omega) _).alloc (by simp; omega) _⟩

set_option maxHeartbeats 12800000 in
set_option maxRecDepth 100000 in
theorem mdecode_a1 (s : ByteArray) (hs : s.size ≤ 9223372036854775807) (w : World) (hn : inB (readH (s, false)).1.n 0 4096 = false) :
    Calls Try.prog 11 #[.string s] w fun e w' => ∃ v, e = .returned (.tuple #[.agg #[.int .i64 (decMT s).1.k, .int .i64 (decMT s).1.f, .int .i64 (decMT s).1.t, .int .i64 (decMT s).1.b, .int .i64 (decMT s).1.sl, .int .i64 (decMT s).1.ro, .int .i64 (decMT s).1.se, .int .i64 (decMT s).1.er, v, .int .i64 (decMT s).1.c.kind, .int .i64 (decMT s).1.c.session, .int .i64 (decMT s).1.c.seq, .string (decMT s).1.c.name, .int .i64 (decMT s).1.c.n, .int .i64 (decMT s).1.rs, .int .i64 (decMT s).1.rq, .int .i64 (decMT s).1.re, .int .u64 (decMT s).1.tk, .int .i64 (decMT s).1.rn, .string (decMT s).1.x], .int .i64 (decMT s).2]) ∧ EntAt w' v (decMT s).1.es ∧ Below w.heap.size w w' := by
  obtain ⟨N1, s1, b1, h1⟩ : ∃ N s' b', rU s false = (N, s', b') := ⟨_, _, _, rfl⟩
  obtain ⟨N2, s2, b2, h2⟩ : ∃ N s' b', rU s1 b1 = (N, s', b') := ⟨_, _, _, rfl⟩
  obtain ⟨N3, s3, b3, h3⟩ : ∃ N s' b', rU s2 b2 = (N, s', b') := ⟨_, _, _, rfl⟩
  obtain ⟨N4, s4, b4, h4⟩ : ∃ N s' b', rU s3 b3 = (N, s', b') := ⟨_, _, _, rfl⟩
  obtain ⟨N5, s5, b5, h5⟩ : ∃ N s' b', rU s4 b4 = (N, s', b') := ⟨_, _, _, rfl⟩
  obtain ⟨N6, s6, b6, h6⟩ : ∃ N s' b', rU s5 b5 = (N, s', b') := ⟨_, _, _, rfl⟩
  obtain ⟨N7, s7, b7, h7⟩ : ∃ N s' b', rU s6 b6 = (N, s', b') := ⟨_, _, _, rfl⟩
  obtain ⟨N8, s8, b8, h8⟩ : ∃ N s' b', rU s7 b7 = (N, s', b') := ⟨_, _, _, rfl⟩
  obtain ⟨N9, s9, b9, h9⟩ : ∃ N s' b', rU s8 b8 = (N, s', b') := ⟨_, _, _, rfl⟩
  have HH : Hid (readH (s, false) = (⟨zag N1, zag N2, zag N3, zag N4, zag N5, zag N6, zag N7, zag N8, zag N9⟩, (s9, b9))) := by
    show _ = _
    unfold readH uI uN
    simp only [h1, h2, h3, h4, h5, h6, h7, h8, h9]
  obtain ⟨base, hbase⟩ : ∃ base, w.heap.size = base := ⟨_, rfl⟩
  have st0 := Dm.start w s hbase
  rw [hbase]
  have HT : Hid (decMT s = (Ms.zero, 2)) := decMT_a (fun h => by rw [inB_iff.2 h.1] at hn; cases hn)
  rw [HH.out] at hn
  simp only at hn
  go_enter Try.func11, Try.ntmps11
  go_wp2_with (first
    | (go_at_call 37; refine (mwithin_any _ _ _ _).mono ?_; rintro e w10 ⟨rfl, hw⟩; rw [hw] at st9; clear hw)
    | (go_at_call 36; have e9 := d8; refine (pint' hs sv8.rd h9).mono ?_; rintro e w9 ⟨rfl, r9, g9⟩; have st9 := sv8.call r9 g9; have d9 : True := trivial)
    | (go_at_call 36; have e8 := d7; refine (pint' hs sv7.rd h8).mono ?_; rintro e w8 ⟨rfl, r8, g8⟩; have st8 := sv7.call r8 g8; have f8 := st8.cm.free 7; have x8 := st8.cm.box.c7; have sv8 := st8.set (st8.cm.set7 (zag N8)); obtain ⟨m8, hm8⟩ : ∃ m : Ms, m = { m7 with er := zag N8 } := ⟨_, rfl⟩; rw [← hm8] at sv8; have H8 : Hid (m8 = { m7 with er := zag N8 }) := hm8; clear hm8; have d8 : True := trivial)
    | (go_at_call 36; have e7 := d6; refine (pint' hs sv6.rd h7).mono ?_; rintro e w7 ⟨rfl, r7, g7⟩; have st7 := sv6.call r7 g7; have f7 := st7.cm.free 6; have x7 := st7.cm.box.c6; have sv7 := st7.set (st7.cm.set6 (zag N7)); obtain ⟨m7, hm7⟩ : ∃ m : Ms, m = { m6 with se := zag N7 } := ⟨_, rfl⟩; rw [← hm7] at sv7; have H7 : Hid (m7 = { m6 with se := zag N7 }) := hm7; clear hm7; have d7 : True := trivial)
    | (go_at_call 36; have e6 := d5; refine (pint' hs sv5.rd h6).mono ?_; rintro e w6 ⟨rfl, r6, g6⟩; have st6 := sv5.call r6 g6; have f6 := st6.cm.free 5; have x6 := st6.cm.box.c5; have sv6 := st6.set (st6.cm.set5 (zag N6)); obtain ⟨m6, hm6⟩ : ∃ m : Ms, m = { m5 with ro := zag N6 } := ⟨_, rfl⟩; rw [← hm6] at sv6; have H6 : Hid (m6 = { m5 with ro := zag N6 }) := hm6; clear hm6; have d6 : True := trivial)
    | (go_at_call 36; have e5 := d4; refine (pint' hs sv4.rd h5).mono ?_; rintro e w5 ⟨rfl, r5, g5⟩; have st5 := sv4.call r5 g5; have f5 := st5.cm.free 4; have x5 := st5.cm.box.c4; have sv5 := st5.set (st5.cm.set4 (zag N5)); obtain ⟨m5, hm5⟩ : ∃ m : Ms, m = { m4 with sl := zag N5 } := ⟨_, rfl⟩; rw [← hm5] at sv5; have H5 : Hid (m5 = { m4 with sl := zag N5 }) := hm5; clear hm5; have d5 : True := trivial)
    | (go_at_call 36; have e4 := d3; refine (pint' hs sv3.rd h4).mono ?_; rintro e w4 ⟨rfl, r4, g4⟩; have st4 := sv3.call r4 g4; have f4 := st4.cm.free 3; have x4 := st4.cm.box.c3; have sv4 := st4.set (st4.cm.set3 (zag N4)); obtain ⟨m4, hm4⟩ : ∃ m : Ms, m = { m3 with b := zag N4 } := ⟨_, rfl⟩; rw [← hm4] at sv4; have H4 : Hid (m4 = { m3 with b := zag N4 }) := hm4; clear hm4; have d4 : True := trivial)
    | (go_at_call 36; have e3 := d2; refine (pint' hs sv2.rd h3).mono ?_; rintro e w3 ⟨rfl, r3, g3⟩; have st3 := sv2.call r3 g3; have f3 := st3.cm.free 2; have x3 := st3.cm.box.c2; have sv3 := st3.set (st3.cm.set2 (zag N3)); obtain ⟨m3, hm3⟩ : ∃ m : Ms, m = { m2 with t := zag N3 } := ⟨_, rfl⟩; rw [← hm3] at sv3; have H3 : Hid (m3 = { m2 with t := zag N3 }) := hm3; clear hm3; have d3 : True := trivial)
    | (go_at_call 36; have e2 := d1; refine (pint' hs sv1.rd h2).mono ?_; rintro e w2 ⟨rfl, r2, g2⟩; have st2 := sv1.call r2 g2; have f2 := st2.cm.free 1; have x2 := st2.cm.box.c1; have sv2 := st2.set (st2.cm.set1 (zag N2)); obtain ⟨m2, hm2⟩ : ∃ m : Ms, m = { m1 with f := zag N2 } := ⟨_, rfl⟩; rw [← hm2] at sv2; have H2 : Hid (m2 = { m1 with f := zag N2 }) := hm2; clear hm2; have d2 : True := trivial)
    | (go_at_call 36; refine (pint' hs st0.rd h1).mono ?_; rintro e w1 ⟨rfl, r1, g1⟩; have st1 := st0.call r1 g1; have f1 := st1.cm.free 0; have x1 := st1.cm.box.c0; have sv1 := st1.set (st1.cm.set0 (zag N1)); obtain ⟨m1, hm1⟩ : ∃ m : Ms, m = { Ms.zero with k := zag N1 } := ⟨_, rfl⟩; rw [← hm1] at sv1; have H1 : Hid (m1 = { Ms.zero with k := zag N1 }) := hm1; clear hm1; have d1 : True := trivial)
    | (show wpList _ _ _ (⟨_, Op.store 30 _ _, _, _, _, _⟩ :: _) _ _; refine store_msg rfl _ _ rfl rfl (by exact st9.rs) none 0 0 (m := Ms.zero) rfl ?_; intro wE hE gE))
  refine bodyPost_ret (results_msg2 Try.results11 _ _ rfl hE) rfl ?_
  rw [HT.out]
  exact ⟨.slice none 0 0, rfl, EntAt.nothing _, st9.bel.grown gE (Nat.le_of_lt st9.rs.lt) (fun k hk => by have := Option.some.inj hk; omega)⟩
set_option maxHeartbeats 12800000 in
set_option maxRecDepth 100000 in
theorem mdecode_a2 (s : ByteArray) (hs : s.size ≤ 9223372036854775807) (w : World) (hn : inB (readH (s, false)).1.n 0 4096 = true) (hz : 524288 < s.size) :
    Calls Try.prog 11 #[.string s] w fun e w' => ∃ v, e = .returned (.tuple #[.agg #[.int .i64 (decMT s).1.k, .int .i64 (decMT s).1.f, .int .i64 (decMT s).1.t, .int .i64 (decMT s).1.b, .int .i64 (decMT s).1.sl, .int .i64 (decMT s).1.ro, .int .i64 (decMT s).1.se, .int .i64 (decMT s).1.er, v, .int .i64 (decMT s).1.c.kind, .int .i64 (decMT s).1.c.session, .int .i64 (decMT s).1.c.seq, .string (decMT s).1.c.name, .int .i64 (decMT s).1.c.n, .int .i64 (decMT s).1.rs, .int .i64 (decMT s).1.rq, .int .i64 (decMT s).1.re, .int .u64 (decMT s).1.tk, .int .i64 (decMT s).1.rn, .string (decMT s).1.x], .int .i64 (decMT s).2]) ∧ EntAt w' v (decMT s).1.es ∧ Below w.heap.size w w' := by
  obtain ⟨N1, s1, b1, h1⟩ : ∃ N s' b', rU s false = (N, s', b') := ⟨_, _, _, rfl⟩
  obtain ⟨N2, s2, b2, h2⟩ : ∃ N s' b', rU s1 b1 = (N, s', b') := ⟨_, _, _, rfl⟩
  obtain ⟨N3, s3, b3, h3⟩ : ∃ N s' b', rU s2 b2 = (N, s', b') := ⟨_, _, _, rfl⟩
  obtain ⟨N4, s4, b4, h4⟩ : ∃ N s' b', rU s3 b3 = (N, s', b') := ⟨_, _, _, rfl⟩
  obtain ⟨N5, s5, b5, h5⟩ : ∃ N s' b', rU s4 b4 = (N, s', b') := ⟨_, _, _, rfl⟩
  obtain ⟨N6, s6, b6, h6⟩ : ∃ N s' b', rU s5 b5 = (N, s', b') := ⟨_, _, _, rfl⟩
  obtain ⟨N7, s7, b7, h7⟩ : ∃ N s' b', rU s6 b6 = (N, s', b') := ⟨_, _, _, rfl⟩
  obtain ⟨N8, s8, b8, h8⟩ : ∃ N s' b', rU s7 b7 = (N, s', b') := ⟨_, _, _, rfl⟩
  obtain ⟨N9, s9, b9, h9⟩ : ∃ N s' b', rU s8 b8 = (N, s', b') := ⟨_, _, _, rfl⟩
  have HH : Hid (readH (s, false) = (⟨zag N1, zag N2, zag N3, zag N4, zag N5, zag N6, zag N7, zag N8, zag N9⟩, (s9, b9))) := by
    show _ = _
    unfold readH uI uN
    simp only [h1, h2, h3, h4, h5, h6, h7, h8, h9]
  obtain ⟨base, hbase⟩ : ∃ base, w.heap.size = base := ⟨_, rfl⟩
  have st0 := Dm.start w s hbase
  rw [hbase]
  have HT : Hid (decMT s = (Ms.zero, 2)) := decMT_a (fun h => by have := h.2; omega)
  have hz' : (524288 : Int) < (s.size : Int) := by omega
  clear hz
  rw [HH.out] at hn
  simp only at hn
  go_enter Try.func11, Try.ntmps11
  go_wp2_with (first
    | (go_at_call 37; refine (mwithin_any _ _ _ _).mono ?_; rintro e w10 ⟨rfl, hw⟩; rw [hw] at st9; clear hw)
    | (go_at_call 36; have e9 := d8; refine (pint' hs sv8.rd h9).mono ?_; rintro e w9 ⟨rfl, r9, g9⟩; have st9 := sv8.call r9 g9; have d9 : True := trivial)
    | (go_at_call 36; have e8 := d7; refine (pint' hs sv7.rd h8).mono ?_; rintro e w8 ⟨rfl, r8, g8⟩; have st8 := sv7.call r8 g8; have f8 := st8.cm.free 7; have x8 := st8.cm.box.c7; have sv8 := st8.set (st8.cm.set7 (zag N8)); obtain ⟨m8, hm8⟩ : ∃ m : Ms, m = { m7 with er := zag N8 } := ⟨_, rfl⟩; rw [← hm8] at sv8; have H8 : Hid (m8 = { m7 with er := zag N8 }) := hm8; clear hm8; have d8 : True := trivial)
    | (go_at_call 36; have e7 := d6; refine (pint' hs sv6.rd h7).mono ?_; rintro e w7 ⟨rfl, r7, g7⟩; have st7 := sv6.call r7 g7; have f7 := st7.cm.free 6; have x7 := st7.cm.box.c6; have sv7 := st7.set (st7.cm.set6 (zag N7)); obtain ⟨m7, hm7⟩ : ∃ m : Ms, m = { m6 with se := zag N7 } := ⟨_, rfl⟩; rw [← hm7] at sv7; have H7 : Hid (m7 = { m6 with se := zag N7 }) := hm7; clear hm7; have d7 : True := trivial)
    | (go_at_call 36; have e6 := d5; refine (pint' hs sv5.rd h6).mono ?_; rintro e w6 ⟨rfl, r6, g6⟩; have st6 := sv5.call r6 g6; have f6 := st6.cm.free 5; have x6 := st6.cm.box.c5; have sv6 := st6.set (st6.cm.set5 (zag N6)); obtain ⟨m6, hm6⟩ : ∃ m : Ms, m = { m5 with ro := zag N6 } := ⟨_, rfl⟩; rw [← hm6] at sv6; have H6 : Hid (m6 = { m5 with ro := zag N6 }) := hm6; clear hm6; have d6 : True := trivial)
    | (go_at_call 36; have e5 := d4; refine (pint' hs sv4.rd h5).mono ?_; rintro e w5 ⟨rfl, r5, g5⟩; have st5 := sv4.call r5 g5; have f5 := st5.cm.free 4; have x5 := st5.cm.box.c4; have sv5 := st5.set (st5.cm.set4 (zag N5)); obtain ⟨m5, hm5⟩ : ∃ m : Ms, m = { m4 with sl := zag N5 } := ⟨_, rfl⟩; rw [← hm5] at sv5; have H5 : Hid (m5 = { m4 with sl := zag N5 }) := hm5; clear hm5; have d5 : True := trivial)
    | (go_at_call 36; have e4 := d3; refine (pint' hs sv3.rd h4).mono ?_; rintro e w4 ⟨rfl, r4, g4⟩; have st4 := sv3.call r4 g4; have f4 := st4.cm.free 3; have x4 := st4.cm.box.c3; have sv4 := st4.set (st4.cm.set3 (zag N4)); obtain ⟨m4, hm4⟩ : ∃ m : Ms, m = { m3 with b := zag N4 } := ⟨_, rfl⟩; rw [← hm4] at sv4; have H4 : Hid (m4 = { m3 with b := zag N4 }) := hm4; clear hm4; have d4 : True := trivial)
    | (go_at_call 36; have e3 := d2; refine (pint' hs sv2.rd h3).mono ?_; rintro e w3 ⟨rfl, r3, g3⟩; have st3 := sv2.call r3 g3; have f3 := st3.cm.free 2; have x3 := st3.cm.box.c2; have sv3 := st3.set (st3.cm.set2 (zag N3)); obtain ⟨m3, hm3⟩ : ∃ m : Ms, m = { m2 with t := zag N3 } := ⟨_, rfl⟩; rw [← hm3] at sv3; have H3 : Hid (m3 = { m2 with t := zag N3 }) := hm3; clear hm3; have d3 : True := trivial)
    | (go_at_call 36; have e2 := d1; refine (pint' hs sv1.rd h2).mono ?_; rintro e w2 ⟨rfl, r2, g2⟩; have st2 := sv1.call r2 g2; have f2 := st2.cm.free 1; have x2 := st2.cm.box.c1; have sv2 := st2.set (st2.cm.set1 (zag N2)); obtain ⟨m2, hm2⟩ : ∃ m : Ms, m = { m1 with f := zag N2 } := ⟨_, rfl⟩; rw [← hm2] at sv2; have H2 : Hid (m2 = { m1 with f := zag N2 }) := hm2; clear hm2; have d2 : True := trivial)
    | (go_at_call 36; refine (pint' hs st0.rd h1).mono ?_; rintro e w1 ⟨rfl, r1, g1⟩; have st1 := st0.call r1 g1; have f1 := st1.cm.free 0; have x1 := st1.cm.box.c0; have sv1 := st1.set (st1.cm.set0 (zag N1)); obtain ⟨m1, hm1⟩ : ∃ m : Ms, m = { Ms.zero with k := zag N1 } := ⟨_, rfl⟩; rw [← hm1] at sv1; have H1 : Hid (m1 = { Ms.zero with k := zag N1 }) := hm1; clear hm1; have d1 : True := trivial)
    | (show wpList _ _ _ (⟨_, Op.store 30 _ _, _, _, _, _⟩ :: _) _ _; refine store_msg rfl _ _ rfl rfl (by exact st9.rs) none 0 0 (m := Ms.zero) rfl ?_; intro wE hE gE))
  refine bodyPost_ret (results_msg2 Try.results11 _ _ rfl hE) rfl ?_
  rw [HT.out]
  exact ⟨.slice none 0 0, rfl, EntAt.nothing _, st9.bel.grown gE (Nat.le_of_lt st9.rs.lt) (fun k hk => by have := Option.some.inj hk; omega)⟩
end Go.Proofs.Ytmmdcbgmhjheeaa
