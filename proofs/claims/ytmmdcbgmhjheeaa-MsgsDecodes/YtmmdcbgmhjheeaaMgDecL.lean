/-
  A text read as a message, by the document's own (package latchkeyref04): the entries and what follows. The condition: the text is no longer than a text of 64 bits' length.
-/
import Derived.Test.YtmmdcbgmhjheeaaMgDecA
namespace Go.Proofs.Ytmmdcbgmhjheeaa
open Go.RowKit

set_option maxHeartbeats 12800000 in
set_option maxRecDepth 100000 in
theorem mdecode_l (s : ByteArray) (hs : s.size ≤ 9223372036854775807) (w : World) (hn : inB (readH (s, false)).1.n 0 4096 = true) (hz : s.size ≤ 524288) :
    Calls Try.prog 11 #[.string s] w fun e w' => ∃ v, e = .returned (.tuple #[.agg #[.int .i64 (decMT s).1.k, .int .i64 (decMT s).1.f, .int .i64 (decMT s).1.t, .int .i64 (decMT s).1.b, .int .i64 (decMT s).1.sl, .int .i64 (decMT s).1.ro, .int .i64 (decMT s).1.se, .int .i64 (decMT s).1.er, v, .int .i64 (decMT s).1.c.kind, .int .i64 (decMT s).1.c.session, .int .i64 (decMT s).1.c.seq, .string (decMT s).1.c.name, .int .i64 (decMT s).1.c.n, .int .i64 (decMT s).1.rs, .int .i64 (decMT s).1.rq, .int .i64 (decMT s).1.re, .int .u64 (decMT s).1.tk, .int .i64 (decMT s).1.rn, .string (decMT s).1.x], .int .i64 (decMT s).2]) ∧ EntAt w' v (decMT s).1.es ∧ Below w.heap.size w w' := by
  obtain ⟨N1, s1, b1, h1⟩ : ∃ N s' b', rU s false = (N, s', b') := ⟨_, _, _, rfl⟩
  obtain ⟨N2, s2, b2, h2⟩ : ∃ N s' b', rU s1 b1 = (N, s', b') := ⟨_, _, _, rfl⟩
  obtain ⟨N3, s3, b3, h3⟩ : ∃ N s' b', rU s2 b2 = (N, s', b') := ⟨_, _, _, rfl⟩
  obtain ⟨N4, s4, b4, h4⟩ : ∃ N s' b', rU s3 b3 = (N, s', b') := ⟨_, _, _, rfl⟩
  obtain ⟨N5, s5, b5, h5⟩ : ∃ N s' b', rU s4 b4 = (N, s', b') := ⟨_, _, _, rfl⟩
  obtain ⟨N6, s6, b6, h6⟩ : ∃ N s' b', rU s5 b5 = (N, s', b') := ⟨_, _, _, rfl⟩
  obtain ⟨N7, s7, b7, h7⟩ : ∃ N s' b', rU s6 b6 = (N, s', b') := ⟨_, _, _, rfl⟩
  obtain ⟨N8, s8, b8, h8⟩ : ∃ N s' b', rU s7 b7 = (N, s', b') := ⟨_, _, _, rfl⟩
  obtain ⟨N9, s9, b9, h9⟩ : ∃ N s' b', rU s8 b8 = (N, s', b') := ⟨_, _, _, rfl⟩
  have HH : Hid (readH (s, false) = (⟨zag N1, zag N2, zag N3, zag N4, zag N5, zag N6, zag N7, zag N8, zag N9⟩, (s9, b9))) := by
    show _ = _
    unfold readH uI uN
    simp only [h1, h2, h3, h4, h5, h6, h7, h8, h9]
  obtain ⟨base, hbase⟩ : ∃ base, w.heap.size = base := ⟨_, rfl⟩
  have st0 := Dm.start w s hbase
  rw [hbase]
  have hok : okH s := ⟨inB_iff.1 hn, hz⟩
  have hz' : decide ((524288 : Int) < (s.size : Int)) = false := by simp; omega
  rw [HH.out] at hn
  simp only at hn
  obtain ⟨n, hN⟩ : ∃ n : Nat, zag N9 = n := ⟨(zag N9).toNat, by have := (inB_iff.1 hn).1; omega⟩
  have hn4 : n ≤ 4096 := by have := (inB_iff.1 hn).2; omega
  rw [hN] at hn
  have HR : Hid (readEs (readH (s, false)).1.n.toNat (readH (s, false)).2 = readEs n (s9, b9)) := by
    show _ = _
    rw [HH.out]
    simp only
    rw [hN, Int.toNat_natCast]
  have y9 : ∀ {w : World}, Rp w (base + 1) s.size s8 b8 → Calls Try.prog 36 #[.pointer (some ⟨base + 1, 0, none⟩)] w fun e w' => e = .returned (.int .i64 (n : Int)) ∧ Rp w' (base + 1) s.size s9 b9 ∧ w.grownBy w' (some (base + 1)) := fun h => by
    have := pint' hs h h9
    rw [hN] at this
    exact this
  have HOK : Hid (okH s) := hok
  have HNN : Hid (zag N9 = (n : Int)) := hN
  clear hok hz hN
  go_enter Try.func11, Try.ntmps11
  go_wp2_with (first
    | (go_at_call 37; refine (mwithin_any _ _ _ _).mono ?_; rintro e w10 ⟨rfl, hw⟩; rw [hw] at st9; clear hw)
    | (go_at_call 36; have e9 := d8; refine (y9 sv8.rd).mono ?_; rintro e w9 ⟨rfl, r9, g9⟩; have st9 := sv8.call r9 g9; have d9 : True := trivial)
    | (go_at_call 36; have e8 := d7; refine (pint' hs sv7.rd h8).mono ?_; rintro e w8 ⟨rfl, r8, g8⟩; have st8 := sv7.call r8 g8; have f8 := st8.cm.free 7; have x8 := st8.cm.box.c7; have sv8 := st8.set (st8.cm.set7 (zag N8)); obtain ⟨m8, hm8⟩ : ∃ m : Ms, m = { m7 with er := zag N8 } := ⟨_, rfl⟩; rw [← hm8] at sv8; have H8 : Hid (m8 = { m7 with er := zag N8 }) := hm8; clear hm8; have d8 : True := trivial)
    | (go_at_call 36; have e7 := d6; refine (pint' hs sv6.rd h7).mono ?_; rintro e w7 ⟨rfl, r7, g7⟩; have st7 := sv6.call r7 g7; have f7 := st7.cm.free 6; have x7 := st7.cm.box.c6; have sv7 := st7.set (st7.cm.set6 (zag N7)); obtain ⟨m7, hm7⟩ : ∃ m : Ms, m = { m6 with se := zag N7 } := ⟨_, rfl⟩; rw [← hm7] at sv7; have H7 : Hid (m7 = { m6 with se := zag N7 }) := hm7; clear hm7; have d7 : True := trivial)
    | (go_at_call 36; have e6 := d5; refine (pint' hs sv5.rd h6).mono ?_; rintro e w6 ⟨rfl, r6, g6⟩; have st6 := sv5.call r6 g6; have f6 := st6.cm.free 5; have x6 := st6.cm.box.c5; have sv6 := st6.set (st6.cm.set5 (zag N6)); obtain ⟨m6, hm6⟩ : ∃ m : Ms, m = { m5 with ro := zag N6 } := ⟨_, rfl⟩; rw [← hm6] at sv6; have H6 : Hid (m6 = { m5 with ro := zag N6 }) := hm6; clear hm6; have d6 : True := trivial)
    | (go_at_call 36; have e5 := d4; refine (pint' hs sv4.rd h5).mono ?_; rintro e w5 ⟨rfl, r5, g5⟩; have st5 := sv4.call r5 g5; have f5 := st5.cm.free 4; have x5 := st5.cm.box.c4; have sv5 := st5.set (st5.cm.set4 (zag N5)); obtain ⟨m5, hm5⟩ : ∃ m : Ms, m = { m4 with sl := zag N5 } := ⟨_, rfl⟩; rw [← hm5] at sv5; have H5 : Hid (m5 = { m4 with sl := zag N5 }) := hm5; clear hm5; have d5 : True := trivial)
    | (go_at_call 36; have e4 := d3; refine (pint' hs sv3.rd h4).mono ?_; rintro e w4 ⟨rfl, r4, g4⟩; have st4 := sv3.call r4 g4; have f4 := st4.cm.free 3; have x4 := st4.cm.box.c3; have sv4 := st4.set (st4.cm.set3 (zag N4)); obtain ⟨m4, hm4⟩ : ∃ m : Ms, m = { m3 with b := zag N4 } := ⟨_, rfl⟩; rw [← hm4] at sv4; have H4 : Hid (m4 = { m3 with b := zag N4 }) := hm4; clear hm4; have d4 : True := trivial)
    | (go_at_call 36; have e3 := d2; refine (pint' hs sv2.rd h3).mono ?_; rintro e w3 ⟨rfl, r3, g3⟩; have st3 := sv2.call r3 g3; have f3 := st3.cm.free 2; have x3 := st3.cm.box.c2; have sv3 := st3.set (st3.cm.set2 (zag N3)); obtain ⟨m3, hm3⟩ : ∃ m : Ms, m = { m2 with t := zag N3 } := ⟨_, rfl⟩; rw [← hm3] at sv3; have H3 : Hid (m3 = { m2 with t := zag N3 }) := hm3; clear hm3; have d3 : True := trivial)
    | (go_at_call 36; have e2 := d1; refine (pint' hs sv1.rd h2).mono ?_; rintro e w2 ⟨rfl, r2, g2⟩; have st2 := sv1.call r2 g2; have f2 := st2.cm.free 1; have x2 := st2.cm.box.c1; have sv2 := st2.set (st2.cm.set1 (zag N2)); obtain ⟨m2, hm2⟩ : ∃ m : Ms, m = { m1 with f := zag N2 } := ⟨_, rfl⟩; rw [← hm2] at sv2; have H2 : Hid (m2 = { m1 with f := zag N2 }) := hm2; clear hm2; have d2 : True := trivial)
    | (go_at_call 36; refine (pint' hs st0.rd h1).mono ?_; rintro e w1 ⟨rfl, r1, g1⟩; have st1 := st0.call r1 g1; have f1 := st1.cm.free 0; have x1 := st1.cm.box.c0; have sv1 := st1.set (st1.cm.set0 (zag N1)); obtain ⟨m1, hm1⟩ : ∃ m : Ms, m = { Ms.zero with k := zag N1 } := ⟨_, rfl⟩; rw [← hm1] at sv1; have H1 : Hid (m1 = { Ms.zero with k := zag N1 }) := hm1; clear hm1; have d1 : True := trivial))
  clear st1 sv1 f1 x1 r1 g1 st2 sv2 f2 x2 r2 g2 st3 sv3 f3 x3 r3 g3 st4 sv4 f4 x4 r4 g4 st5 sv5 f5 x5 r5 g5 st6 sv6 f6 x6 r6 g6 st7 sv7 f7 x7 r7 g7 st8 sv8 f8 x8 r8 g8 r9 g9 st0
  go_loopw [7] (fun i wr => ∃ (k : Nat) (sk : ByteArray) (bk : Bool) (v : Value) (es : List En), k ≤ n ∧ i = .int .i64 k ∧ es.length = k ∧ Dm w base s.size wr sk bk m8 v es ∧ Hid (readEs n (s9, b9) = glue es (readEs (n - k) (sk, bk)))) (fun i _ => n - (intOf i).toNat)
  case atStart => exact ⟨0, s9, b9, .slice none 0 0, [], Nat.zero_le _, rfl, rfl, st9, (glue_nil _).symm⟩
  case round =>
    obtain ⟨k, sk, bk, v, es, hk, rfl, hlen, st, HG⟩ := hrel
    by_cases hkl : k < n
    · obtain ⟨T, s', b', ht⟩ : ∃ N s' b', rT sk bk = (N, s', b') := ⟨_, _, _, rfl⟩
      have hT : T.size ≤ 524288 := by
        have := rT_fst sk bk
        rw [ht] at this
        exact this
      have qe := rdecodeE_any T (by omega)
      have hu : uT (sk, bk) = (T, s', b') := ht
      cases hd : decE T with
      | some e =>
        have HG2 : Hid (readEs n (s9, b9) = glue (es ++ [e]) (readEs (n - (k + 1)) (s', b'))) := by
          show _ = _
          rw [HG.out, show n - k = (n - (k + 1)) + 1 by omega, glue_step (e := e) (by rw [hu]; exact hd), hu]
        rw [show decET T = (e, 0) by unfold decET; rw [hd]] at qe
        clear HG hd hu hT
        have hl5 : es.length ≤ 5000 := by omega
        go_wp2_with (first
          | (go_at_call 38; refine (qe _).mono ?_; rintro e' w4 ⟨rfl, y4⟩; have t4 := t3.below y4; have t5 := t4.alloc (.cells #[.int .i64 e.slot, .int .i64 e.ballot, .int .i64 e.cmd.kind, .int .i64 e.cmd.session, .int .i64 e.cmd.seq, .string e.cmd.name, .int .i64 e.cmd.n] 57); have t6 := t5.alloc (.cells #[.int .i64 e.slot, .int .i64 e.ballot, .int .i64 e.cmd.kind, .int .i64 e.cmd.session, .int .i64 e.cmd.seq, .string e.cmd.name, .int .i64 e.cmd.n] 57); have hB : IsEn ((w4.alloc (.cells #[.int .i64 e.slot, .int .i64 e.ballot, .int .i64 e.cmd.kind, .int .i64 e.cmd.session, .int .i64 e.cmd.seq, .string e.cmd.name, .int .i64 e.cmd.n] 57)).alloc (.cells #[.int .i64 e.slot, .int .i64 e.ballot, .int .i64 e.cmd.kind, .int .i64 e.cmd.session, .int .i64 e.cmd.seq, .string e.cmd.name, .int .i64 e.cmd.n] 57)) (w4.heap.size + 1) 0 e := ⟨by simp, by simp, by simp, by simp, by simp, by simp, by simp⟩; have c5 := t5.cm.box.c8)
          | (go_at_call 39; refine (ptext' hs st.rd ht).mono ?_; rintro e' w3 ⟨rfl, r3, g3⟩; have t3 := st.call r3 g3)
          | (at_builtin; refine append_ent rfl (.tmp 65) (.tmp 67) rfl rfl rfl (by exact t6.ow) (by exact hB) hl5 (by exact t6.size) ?_; intro g cap w7 ho hg; obtain ⟨c7, t7⟩ := t6.app hg ho; have x8 := c7.box.c8; have f8 := c7.free 8))
        go_roundw
        case rel =>
          rw [show (es ++ [e]).length = k + 1 by simp [hlen]] at t7
          exact ⟨k + 1, s', b', _, es ++ [e], hkl, by go_num, by simp [hlen], t7, HG2⟩
        case measure => simp [intOf]; omega
      | none =>
        have HT : Hid (decMT s = (Ms.zero, 2)) := decMT_b HOK.out (by rw [HR.out, HG.out, show n - k = (n - (k + 1)) + 1 by omega, glue_stop (by rw [hu]; exact hd)])
        obtain ⟨e, he⟩ : ∃ e, e = En.zero := ⟨_, rfl⟩
        rw [show decET T = (e, 2) by unfold decET; rw [hd, he]] at qe
        clear HG hd hu hT he
        go_wp2_with (first
          | (go_at_call 38; refine (qe _).mono ?_; rintro e' w4 ⟨rfl, y4⟩; have t4 := t3.below y4; have t5 := t4.alloc (.cells #[.int .i64 e.slot, .int .i64 e.ballot, .int .i64 e.cmd.kind, .int .i64 e.cmd.session, .int .i64 e.cmd.seq, .string e.cmd.name, .int .i64 e.cmd.n] 57))
          | (go_at_call 39; refine (ptext' hs st.rd ht).mono ?_; rintro e' w3 ⟨rfl, r3, g3⟩; have t3 := st.call r3 g3)
          | (show wpList _ _ _ (⟨_, Op.store 30 _ _, _, _, _, _⟩ :: _) _ _; refine store_msg rfl _ _ rfl rfl (by exact t5.rs) none 0 0 (m := Ms.zero) rfl ?_; intro wE hE gE))
        refine bodyPost_ret (results_msg2 Try.results11 _ _ rfl hE) rfl ?_
        rw [HT.out]
        exact ⟨.slice none 0 0, rfl, EntAt.nothing _, t5.bel.grown gE (Nat.le_of_lt t5.rs.lt) (fun k hk => by have := Option.some.inj hk; omega)⟩
    · have hke : k = n := by omega
      subst hke
      obtain ⟨pv, nv, cv, rfl⟩ := st.ow.form
      rw [Nat.sub_self, glue_end] at HG
      have HRR : Hid (readEs (readH (s, false)).1.n.toNat (readH (s, false)).2 = some (es, sk, bk)) := by
        show _ = _
        rw [HR.out]
        exact HG.out
      clear HG HR
      obtain ⟨Tc, t1, c1, ht0⟩ : ∃ N s' b', rT sk bk = (N, s', b') := ⟨_, _, _, rfl⟩
      obtain ⟨M1, t2, c2, ht1⟩ : ∃ N s' b', rU t1 c1 = (N, s', b') := ⟨_, _, _, rfl⟩
      obtain ⟨M2, t3, c3, ht2⟩ : ∃ N s' b', rU t2 c2 = (N, s', b') := ⟨_, _, _, rfl⟩
      obtain ⟨M3, t4, c4, ht3⟩ : ∃ N s' b', rU t3 c3 = (N, s', b') := ⟨_, _, _, rfl⟩
      obtain ⟨M4, t5, c5, ht4⟩ : ∃ N s' b', rU t4 c4 = (N, s', b') := ⟨_, _, _, rfl⟩
      obtain ⟨M5, t6, c6, ht5⟩ : ∃ N s' b', rU t5 c5 = (N, s', b') := ⟨_, _, _, rfl⟩
      obtain ⟨Tx, t7, c7, ht6⟩ : ∃ N s' b', rT t6 c6 = (N, s', b') := ⟨_, _, _, rfl⟩
      have HL : Hid (readL (sk, bk) = (⟨Tc, zag M1, zag M2, zag M3, M4, zag M5, Tx⟩, (t7, c7))) := by
        show _ = _
        unfold readL uI uN uT
        simp only [ht0, ht1, ht2, ht3, ht4, ht5, ht6]
      have hTc : Tc.size ≤ 524288 := by
        have := rT_fst sk bk
        rw [ht0] at this
        exact this
      have qd := rdecode_any Tc (by omega)
      by_cases hD : rD t7 c7 = 0
      · cases hc : decC Tc with
        | none =>
          have HT : Hid (decMT s = (Ms.zero, 2)) := decMT_c HOK.out HRR.out (by rw [HL.out]; exact hc)
          obtain ⟨cc, hcc⟩ : ∃ c, c = Cm.zero := ⟨_, rfl⟩
          rw [show decT Tc = (cc, 2) by unfold decT; rw [hc, hcc]] at qd
          clear hc hcc HL HRR hTc
          go_wp2_with (first
            | (go_at_call 42; refine (pdone n6.rd).mono ?_; rintro e u9 ⟨rfl, hw⟩; rw [hw] at n6; clear hw)
            | (go_at_call 39; have dd6 := z6; refine (ptext' hs n5.rd ht6).mono ?_; rintro e u8 ⟨rfl, r7, g7⟩; have a6 := n5.call r7 g7; have o6 := a6.cm.free 19; have p6 := a6.cm.box.c19; have n6 := a6.set (a6.cm.set19 Tx); obtain ⟨m15, hm15⟩ : ∃ m : Ms, m = { m14 with x := Tx } := ⟨_, rfl⟩; rw [← hm15] at n6; have H15 : Hid (m15 = { m14 with x := Tx }) := hm15; clear hm15)
            | (go_at_call 36; have dd5 := z5; refine (pint' hs n4.rd ht5).mono ?_; rintro e u7 ⟨rfl, r6, g6⟩; have a5 := n4.call r6 g6; have o5 := a5.cm.free 18; have p5 := a5.cm.box.c18; have n5 := a5.set (a5.cm.set18 (zag M5)); obtain ⟨m14, hm14⟩ : ∃ m : Ms, m = { m13 with rn := (zag M5) } := ⟨_, rfl⟩; rw [← hm14] at n5; have H14 : Hid (m14 = { m13 with rn := (zag M5) }) := hm14; clear hm14; have z6 : True := trivial)
            | (go_at_call 41; have dd4 := z4; refine (pu64' hs n3.rd ht4).mono ?_; rintro e u6 ⟨rfl, r5, g5⟩; have a4 := n3.call r5 g5; have o4 := a4.cm.free 17; have p4 := a4.cm.box.c17; have n4 := a4.set (a4.cm.set17 M4); obtain ⟨m13, hm13⟩ : ∃ m : Ms, m = { m12 with tk := M4 } := ⟨_, rfl⟩; rw [← hm13] at n4; have H13 : Hid (m13 = { m12 with tk := M4 }) := hm13; clear hm13; have z5 : True := trivial)
            | (go_at_call 36; have dd3 := z3; refine (pint' hs n2.rd ht3).mono ?_; rintro e u5 ⟨rfl, r4, g4⟩; have a3 := n2.call r4 g4; have o3 := a3.cm.free 16; have p3 := a3.cm.box.c16; have n3 := a3.set (a3.cm.set16 (zag M3)); obtain ⟨m12, hm12⟩ : ∃ m : Ms, m = { m11 with re := (zag M3) } := ⟨_, rfl⟩; rw [← hm12] at n3; have H12 : Hid (m12 = { m11 with re := (zag M3) }) := hm12; clear hm12; have z4 : True := trivial)
            | (go_at_call 36; have dd2 := z2; refine (pint' hs n1.rd ht2).mono ?_; rintro e u4 ⟨rfl, r3, g3⟩; have a2 := n1.call r3 g3; have o2 := a2.cm.free 15; have p2 := a2.cm.box.c15; have n2 := a2.set (a2.cm.set15 (zag M2)); obtain ⟨m11, hm11⟩ : ∃ m : Ms, m = { m10 with rq := (zag M2) } := ⟨_, rfl⟩; rw [← hm11] at n2; have H11 : Hid (m11 = { m10 with rq := (zag M2) }) := hm11; clear hm11; have z3 : True := trivial)
            | (go_at_call 36; refine (pint' hs q3.rd ht1).mono ?_; rintro e u3 ⟨rfl, r2, g2⟩; have a1 := q3.call r2 g2; have o1 := a1.cm.free 14; have p1 := a1.cm.box.c14; have n1 := a1.set (a1.cm.set14 (zag M1)); obtain ⟨m10, hm10⟩ : ∃ m : Ms, m = { m9 with rs := (zag M1) } := ⟨_, rfl⟩; rw [← hm10] at n1; have H10 : Hid (m10 = { m9 with rs := (zag M1) }) := hm10; clear hm10; have z2 : True := trivial)
            | (go_at_call 40; refine (qd _).mono ?_; rintro e u2 ⟨rfl, y2⟩; have q1 := q0.below y2; have q2 := q1.alloc (.cells #[.int .i64 cc.kind, .int .i64 cc.session, .int .i64 cc.seq, .string cc.name, .int .i64 cc.n] 25); have k9 := q2.cm.box.c9; have j9 := q2.cm.free 9; have k10 := q2.cm.box.c10; have j10 := q2.cm.free 10; have k11 := q2.cm.box.c11; have j11 := q2.cm.free 11; have k12 := q2.cm.box.c12; have j12 := q2.cm.free 12; have k13 := q2.cm.box.c13; have j13 := q2.cm.free 13; have q3 := ((((q2.set (q2.cm.set9 cc.kind)).set ((q2.cm.set9 cc.kind).set10 cc.session)).set (((q2.cm.set9 cc.kind).set10 cc.session).set11 cc.seq)).set ((((q2.cm.set9 cc.kind).set10 cc.session).set11 cc.seq).set12 cc.name)).set (((((q2.cm.set9 cc.kind).set10 cc.session).set11 cc.seq).set12 cc.name).set13 cc.n); obtain ⟨m9, hm9⟩ : ∃ m : Ms, m = { m8 with c := cc } := ⟨_, rfl⟩; rw [show ({ m8 with c := { m8.c with kind := cc.kind, session := cc.session, seq := cc.seq, name := cc.name, n := cc.n } } : Ms) = m9 from hm9.symm] at q3; have H9 : Hid (m9 = { m8 with c := cc }) := hm9; clear hm9)
            | (go_at_call 39; refine (ptext' hs st.rd ht0).mono ?_; rintro e u1 ⟨rfl, r1, g1⟩; have q0 := st.call r1 g1; have z0 : True := trivial)
            | (show wpList _ _ _ (⟨_, Op.store 30 _ _, _, _, _, _⟩ :: _) _ _; refine store_msg rfl _ _ rfl rfl (by exact n6.rs) none 0 0 (m := Ms.zero) rfl ?_; intro wE hE gE))
          refine bodyPost_ret (results_msg2 Try.results11 _ _ rfl hE) rfl ?_
          rw [HT.out]
          exact ⟨.slice none 0 0, rfl, EntAt.nothing _, n6.bel.grown gE (Nat.le_of_lt n6.rs.lt) (fun k hk => by have := Option.some.inj hk; omega)⟩
        | some cc =>
          rw [show decT Tc = (cc, 0) by unfold decT; rw [hc]] at qd
          cases hM : mayM (mkM ⟨zag N1, zag N2, zag N3, zag N4, zag N5, zag N6, zag N7, zag N8, zag N9⟩ es cc ⟨Tc, zag M1, zag M2, zag M3, M4, zag M5, Tx⟩) with
          | false =>
            have HM : Hid (mayM (mkM ⟨zag N1, zag N2, zag N3, zag N4, zag N5, zag N6, zag N7, zag N8, zag N9⟩ es cc ⟨Tc, zag M1, zag M2, zag M3, M4, zag M5, Tx⟩) = false) := hM
            have HT : Hid (decMT s = (Ms.zero, 2)) := decMT_d HOK.out HRR.out (c := cc) (by rw [HL.out]; exact hc) (fun h => by rw [HL.out, HH.out] at h; rw [HM.out] at h; cases h.2)
            clear hc hM HL HRR hTc
            go_wp2_with (first
              | (go_at_call 23; refine (mmay_any mF _ _ (by exact eF) hFl).mono ?_; rintro e u10 ⟨rfl, y10⟩; have n7 := n6.below y10; have cF7 := cF.below y10)
              | (go_at_call 42; refine (pdone n6.rd).mono ?_; rintro e u9 ⟨rfl, hw⟩; rw [hw] at n6; clear hw; obtain ⟨mF, hmF⟩ : ∃ m : Ms, m = { m15 with es := es } := ⟨_, rfl⟩; have cF : MLies u9 (base + 1 + 1) mF (.slice pv nv cv) := (by rw [hmF]; exact n6.cm); have eF : EntAt u9 (.slice pv nv cv) mF.es := (by rw [hmF]; exact n6.ow.at); have hFe : mF.es = es := (by rw [hmF]); have HF : Hid (mF = mkM ⟨zag N1, zag N2, zag N3, zag N4, zag N5, zag N6, zag N7, zag N8, zag N9⟩ es cc ⟨Tc, zag M1, zag M2, zag M3, M4, zag M5, Tx⟩) := (by show _ = _; rw [hmF, H15.out, H14.out, H13.out, H12.out, H11.out, H10.out, H9.out, H8.out, H7.out, H6.out, H5.out, H4.out, H3.out, H2.out, H1.out]; rfl); have hMF : mayM mF = false := (by rw [HF.out]; exact HM.out); have hFl : mF.es.length ≤ 9223372036854775807 := (by rw [hFe]; omega); clear hmF)
              | (go_at_call 39; have dd6 := z6; refine (ptext' hs n5.rd ht6).mono ?_; rintro e u8 ⟨rfl, r7, g7⟩; have a6 := n5.call r7 g7; have o6 := a6.cm.free 19; have p6 := a6.cm.box.c19; have n6 := a6.set (a6.cm.set19 Tx); obtain ⟨m15, hm15⟩ : ∃ m : Ms, m = { m14 with x := Tx } := ⟨_, rfl⟩; rw [← hm15] at n6; have H15 : Hid (m15 = { m14 with x := Tx }) := hm15; clear hm15)
              | (go_at_call 36; have dd5 := z5; refine (pint' hs n4.rd ht5).mono ?_; rintro e u7 ⟨rfl, r6, g6⟩; have a5 := n4.call r6 g6; have o5 := a5.cm.free 18; have p5 := a5.cm.box.c18; have n5 := a5.set (a5.cm.set18 (zag M5)); obtain ⟨m14, hm14⟩ : ∃ m : Ms, m = { m13 with rn := (zag M5) } := ⟨_, rfl⟩; rw [← hm14] at n5; have H14 : Hid (m14 = { m13 with rn := (zag M5) }) := hm14; clear hm14; have z6 : True := trivial)
              | (go_at_call 41; have dd4 := z4; refine (pu64' hs n3.rd ht4).mono ?_; rintro e u6 ⟨rfl, r5, g5⟩; have a4 := n3.call r5 g5; have o4 := a4.cm.free 17; have p4 := a4.cm.box.c17; have n4 := a4.set (a4.cm.set17 M4); obtain ⟨m13, hm13⟩ : ∃ m : Ms, m = { m12 with tk := M4 } := ⟨_, rfl⟩; rw [← hm13] at n4; have H13 : Hid (m13 = { m12 with tk := M4 }) := hm13; clear hm13; have z5 : True := trivial)
              | (go_at_call 36; have dd3 := z3; refine (pint' hs n2.rd ht3).mono ?_; rintro e u5 ⟨rfl, r4, g4⟩; have a3 := n2.call r4 g4; have o3 := a3.cm.free 16; have p3 := a3.cm.box.c16; have n3 := a3.set (a3.cm.set16 (zag M3)); obtain ⟨m12, hm12⟩ : ∃ m : Ms, m = { m11 with re := (zag M3) } := ⟨_, rfl⟩; rw [← hm12] at n3; have H12 : Hid (m12 = { m11 with re := (zag M3) }) := hm12; clear hm12; have z4 : True := trivial)
              | (go_at_call 36; have dd2 := z2; refine (pint' hs n1.rd ht2).mono ?_; rintro e u4 ⟨rfl, r3, g3⟩; have a2 := n1.call r3 g3; have o2 := a2.cm.free 15; have p2 := a2.cm.box.c15; have n2 := a2.set (a2.cm.set15 (zag M2)); obtain ⟨m11, hm11⟩ : ∃ m : Ms, m = { m10 with rq := (zag M2) } := ⟨_, rfl⟩; rw [← hm11] at n2; have H11 : Hid (m11 = { m10 with rq := (zag M2) }) := hm11; clear hm11; have z3 : True := trivial)
              | (go_at_call 36; refine (pint' hs q3.rd ht1).mono ?_; rintro e u3 ⟨rfl, r2, g2⟩; have a1 := q3.call r2 g2; have o1 := a1.cm.free 14; have p1 := a1.cm.box.c14; have n1 := a1.set (a1.cm.set14 (zag M1)); obtain ⟨m10, hm10⟩ : ∃ m : Ms, m = { m9 with rs := (zag M1) } := ⟨_, rfl⟩; rw [← hm10] at n1; have H10 : Hid (m10 = { m9 with rs := (zag M1) }) := hm10; clear hm10; have z2 : True := trivial)
              | (go_at_call 40; refine (qd _).mono ?_; rintro e u2 ⟨rfl, y2⟩; have q1 := q0.below y2; have q2 := q1.alloc (.cells #[.int .i64 cc.kind, .int .i64 cc.session, .int .i64 cc.seq, .string cc.name, .int .i64 cc.n] 25); have k9 := q2.cm.box.c9; have j9 := q2.cm.free 9; have k10 := q2.cm.box.c10; have j10 := q2.cm.free 10; have k11 := q2.cm.box.c11; have j11 := q2.cm.free 11; have k12 := q2.cm.box.c12; have j12 := q2.cm.free 12; have k13 := q2.cm.box.c13; have j13 := q2.cm.free 13; have q3 := ((((q2.set (q2.cm.set9 cc.kind)).set ((q2.cm.set9 cc.kind).set10 cc.session)).set (((q2.cm.set9 cc.kind).set10 cc.session).set11 cc.seq)).set ((((q2.cm.set9 cc.kind).set10 cc.session).set11 cc.seq).set12 cc.name)).set (((((q2.cm.set9 cc.kind).set10 cc.session).set11 cc.seq).set12 cc.name).set13 cc.n); obtain ⟨m9, hm9⟩ : ∃ m : Ms, m = { m8 with c := cc } := ⟨_, rfl⟩; rw [show ({ m8 with c := { m8.c with kind := cc.kind, session := cc.session, seq := cc.seq, name := cc.name, n := cc.n } } : Ms) = m9 from hm9.symm] at q3; have H9 : Hid (m9 = { m8 with c := cc }) := hm9; clear hm9)
              | (go_at_call 39; refine (ptext' hs st.rd ht0).mono ?_; rintro e u1 ⟨rfl, r1, g1⟩; have q0 := st.call r1 g1; have z0 : True := trivial)
              | (show wpList _ _ _ (⟨_, Op.load 30 _, _, _, _, _⟩ :: _) _ _; refine load_msg rfl _ rfl rfl (by first | exact cF7 | exact cF) ?_)
              | (show wpList _ _ _ (⟨_, Op.store 30 _ _, _, _, _, _⟩ :: _) _ _; refine store_msg rfl _ _ rfl rfl (by exact n7.rs) none 0 0 (m := Ms.zero) rfl ?_; intro wE hE gE))
            refine bodyPost_ret (results_msg2 Try.results11 _ _ rfl hE) rfl ?_
            rw [HT.out]
            exact ⟨.slice none 0 0, rfl, EntAt.nothing _, n7.bel.grown gE (Nat.le_of_lt n7.rs.lt) (fun k hk => by have := Option.some.inj hk; omega)⟩
          | true =>
            have HM : Hid (mayM (mkM ⟨zag N1, zag N2, zag N3, zag N4, zag N5, zag N6, zag N7, zag N8, zag N9⟩ es cc ⟨Tc, zag M1, zag M2, zag M3, M4, zag M5, Tx⟩) = true) := hM
            have HT : Hid (decMT s = (mkM ⟨zag N1, zag N2, zag N3, zag N4, zag N5, zag N6, zag N7, zag N8, zag N9⟩ es cc ⟨Tc, zag M1, zag M2, zag M3, M4, zag M5, Tx⟩, 0)) := by
              have := decMT_e HOK.out HRR.out (c := cc) (by rw [HL.out]; exact hc) (by rw [HL.out]; exact hD) (by rw [HL.out, HH.out]; exact hM)
              rw [HL.out, HH.out] at this
              exact this
            clear hc hM HL HRR hTc
            go_wp2_with (first
              | (go_at_call 23; refine (mmay_any mF _ _ (by exact eF) hFl).mono ?_; rintro e u10 ⟨rfl, y10⟩; have n7 := n6.below y10; have cF7 := cF.below y10)
              | (go_at_call 42; refine (pdone n6.rd).mono ?_; rintro e u9 ⟨rfl, hw⟩; rw [hw] at n6; clear hw; obtain ⟨mF, hmF⟩ : ∃ m : Ms, m = { m15 with es := es } := ⟨_, rfl⟩; have cF : MLies u9 (base + 1 + 1) mF (.slice pv nv cv) := (by rw [hmF]; exact n6.cm); have eF : EntAt u9 (.slice pv nv cv) mF.es := (by rw [hmF]; exact n6.ow.at); have hFe : mF.es = es := (by rw [hmF]); have HF : Hid (mF = mkM ⟨zag N1, zag N2, zag N3, zag N4, zag N5, zag N6, zag N7, zag N8, zag N9⟩ es cc ⟨Tc, zag M1, zag M2, zag M3, M4, zag M5, Tx⟩) := (by show _ = _; rw [hmF, H15.out, H14.out, H13.out, H12.out, H11.out, H10.out, H9.out, H8.out, H7.out, H6.out, H5.out, H4.out, H3.out, H2.out, H1.out]; rfl); have hMF : mayM mF = true := (by rw [HF.out]; exact HM.out); have hFl : mF.es.length ≤ 9223372036854775807 := (by rw [hFe]; omega); clear hmF)
              | (go_at_call 39; have dd6 := z6; refine (ptext' hs n5.rd ht6).mono ?_; rintro e u8 ⟨rfl, r7, g7⟩; have a6 := n5.call r7 g7; have o6 := a6.cm.free 19; have p6 := a6.cm.box.c19; have n6 := a6.set (a6.cm.set19 Tx); obtain ⟨m15, hm15⟩ : ∃ m : Ms, m = { m14 with x := Tx } := ⟨_, rfl⟩; rw [← hm15] at n6; have H15 : Hid (m15 = { m14 with x := Tx }) := hm15; clear hm15)
              | (go_at_call 36; have dd5 := z5; refine (pint' hs n4.rd ht5).mono ?_; rintro e u7 ⟨rfl, r6, g6⟩; have a5 := n4.call r6 g6; have o5 := a5.cm.free 18; have p5 := a5.cm.box.c18; have n5 := a5.set (a5.cm.set18 (zag M5)); obtain ⟨m14, hm14⟩ : ∃ m : Ms, m = { m13 with rn := (zag M5) } := ⟨_, rfl⟩; rw [← hm14] at n5; have H14 : Hid (m14 = { m13 with rn := (zag M5) }) := hm14; clear hm14; have z6 : True := trivial)
              | (go_at_call 41; have dd4 := z4; refine (pu64' hs n3.rd ht4).mono ?_; rintro e u6 ⟨rfl, r5, g5⟩; have a4 := n3.call r5 g5; have o4 := a4.cm.free 17; have p4 := a4.cm.box.c17; have n4 := a4.set (a4.cm.set17 M4); obtain ⟨m13, hm13⟩ : ∃ m : Ms, m = { m12 with tk := M4 } := ⟨_, rfl⟩; rw [← hm13] at n4; have H13 : Hid (m13 = { m12 with tk := M4 }) := hm13; clear hm13; have z5 : True := trivial)
              | (go_at_call 36; have dd3 := z3; refine (pint' hs n2.rd ht3).mono ?_; rintro e u5 ⟨rfl, r4, g4⟩; have a3 := n2.call r4 g4; have o3 := a3.cm.free 16; have p3 := a3.cm.box.c16; have n3 := a3.set (a3.cm.set16 (zag M3)); obtain ⟨m12, hm12⟩ : ∃ m : Ms, m = { m11 with re := (zag M3) } := ⟨_, rfl⟩; rw [← hm12] at n3; have H12 : Hid (m12 = { m11 with re := (zag M3) }) := hm12; clear hm12; have z4 : True := trivial)
              | (go_at_call 36; have dd2 := z2; refine (pint' hs n1.rd ht2).mono ?_; rintro e u4 ⟨rfl, r3, g3⟩; have a2 := n1.call r3 g3; have o2 := a2.cm.free 15; have p2 := a2.cm.box.c15; have n2 := a2.set (a2.cm.set15 (zag M2)); obtain ⟨m11, hm11⟩ : ∃ m : Ms, m = { m10 with rq := (zag M2) } := ⟨_, rfl⟩; rw [← hm11] at n2; have H11 : Hid (m11 = { m10 with rq := (zag M2) }) := hm11; clear hm11; have z3 : True := trivial)
              | (go_at_call 36; refine (pint' hs q3.rd ht1).mono ?_; rintro e u3 ⟨rfl, r2, g2⟩; have a1 := q3.call r2 g2; have o1 := a1.cm.free 14; have p1 := a1.cm.box.c14; have n1 := a1.set (a1.cm.set14 (zag M1)); obtain ⟨m10, hm10⟩ : ∃ m : Ms, m = { m9 with rs := (zag M1) } := ⟨_, rfl⟩; rw [← hm10] at n1; have H10 : Hid (m10 = { m9 with rs := (zag M1) }) := hm10; clear hm10; have z2 : True := trivial)
              | (go_at_call 40; refine (qd _).mono ?_; rintro e u2 ⟨rfl, y2⟩; have q1 := q0.below y2; have q2 := q1.alloc (.cells #[.int .i64 cc.kind, .int .i64 cc.session, .int .i64 cc.seq, .string cc.name, .int .i64 cc.n] 25); have k9 := q2.cm.box.c9; have j9 := q2.cm.free 9; have k10 := q2.cm.box.c10; have j10 := q2.cm.free 10; have k11 := q2.cm.box.c11; have j11 := q2.cm.free 11; have k12 := q2.cm.box.c12; have j12 := q2.cm.free 12; have k13 := q2.cm.box.c13; have j13 := q2.cm.free 13; have q3 := ((((q2.set (q2.cm.set9 cc.kind)).set ((q2.cm.set9 cc.kind).set10 cc.session)).set (((q2.cm.set9 cc.kind).set10 cc.session).set11 cc.seq)).set ((((q2.cm.set9 cc.kind).set10 cc.session).set11 cc.seq).set12 cc.name)).set (((((q2.cm.set9 cc.kind).set10 cc.session).set11 cc.seq).set12 cc.name).set13 cc.n); obtain ⟨m9, hm9⟩ : ∃ m : Ms, m = { m8 with c := cc } := ⟨_, rfl⟩; rw [show ({ m8 with c := { m8.c with kind := cc.kind, session := cc.session, seq := cc.seq, name := cc.name, n := cc.n } } : Ms) = m9 from hm9.symm] at q3; have H9 : Hid (m9 = { m8 with c := cc }) := hm9; clear hm9)
              | (go_at_call 39; refine (ptext' hs st.rd ht0).mono ?_; rintro e u1 ⟨rfl, r1, g1⟩; have q0 := st.call r1 g1; have z0 : True := trivial)
              | (show wpList _ _ _ (⟨_, Op.load 30 _, _, _, _, _⟩ :: _) _ _; refine load_msg rfl _ rfl rfl (by first | exact cF7 | exact cF) ?_)
              | (show wpList _ _ _ (⟨_, Op.store 30 _ _, _, _, _, _⟩ :: _) _ _; refine store_msg rfl _ _ rfl rfl (by exact n7.rs) pv nv cv (m := mF) rfl ?_; intro wE hE gE))
            refine bodyPost_ret (results_msg2 Try.results11 _ _ rfl hE) rfl ?_
            rw [HT.out, ← HF.out]
            exact ⟨.slice pv nv cv, rfl, by show EntAt wE _ mF.es; rw [hFe]; exact (n7.ow.keep gE (fun k hk => by have := Option.some.inj hk; omega)).at, n7.bel.grown gE (Nat.le_of_lt n7.rs.lt) (fun k hk => by have := Option.some.inj hk; omega)⟩
      · have HT : Hid (decMT s = (Ms.zero, 2)) := decMT_D HOK.out HRR.out (by rw [HL.out]; exact hD)
        obtain ⟨cc, f, hcf⟩ : ∃ c f, decT Tc = (c, f) := ⟨_, _, (Prod.eta _).symm⟩
        rw [hcf] at qd
        have hD' : (rD t7 c7 != 0) = true := by simpa using hD
        clear hcf HL HRR hTc hD
        go_wp2_with (first
          | (go_at_call 42; refine (pdone n6.rd).mono ?_; rintro e u9 ⟨rfl, hw⟩; rw [hw] at n6; clear hw)
          | (go_at_call 39; have dd6 := z6; refine (ptext' hs n5.rd ht6).mono ?_; rintro e u8 ⟨rfl, r7, g7⟩; have a6 := n5.call r7 g7; have o6 := a6.cm.free 19; have p6 := a6.cm.box.c19; have n6 := a6.set (a6.cm.set19 Tx); obtain ⟨m15, hm15⟩ : ∃ m : Ms, m = { m14 with x := Tx } := ⟨_, rfl⟩; rw [← hm15] at n6; have H15 : Hid (m15 = { m14 with x := Tx }) := hm15; clear hm15)
          | (go_at_call 36; have dd5 := z5; refine (pint' hs n4.rd ht5).mono ?_; rintro e u7 ⟨rfl, r6, g6⟩; have a5 := n4.call r6 g6; have o5 := a5.cm.free 18; have p5 := a5.cm.box.c18; have n5 := a5.set (a5.cm.set18 (zag M5)); obtain ⟨m14, hm14⟩ : ∃ m : Ms, m = { m13 with rn := (zag M5) } := ⟨_, rfl⟩; rw [← hm14] at n5; have H14 : Hid (m14 = { m13 with rn := (zag M5) }) := hm14; clear hm14; have z6 : True := trivial)
          | (go_at_call 41; have dd4 := z4; refine (pu64' hs n3.rd ht4).mono ?_; rintro e u6 ⟨rfl, r5, g5⟩; have a4 := n3.call r5 g5; have o4 := a4.cm.free 17; have p4 := a4.cm.box.c17; have n4 := a4.set (a4.cm.set17 M4); obtain ⟨m13, hm13⟩ : ∃ m : Ms, m = { m12 with tk := M4 } := ⟨_, rfl⟩; rw [← hm13] at n4; have H13 : Hid (m13 = { m12 with tk := M4 }) := hm13; clear hm13; have z5 : True := trivial)
          | (go_at_call 36; have dd3 := z3; refine (pint' hs n2.rd ht3).mono ?_; rintro e u5 ⟨rfl, r4, g4⟩; have a3 := n2.call r4 g4; have o3 := a3.cm.free 16; have p3 := a3.cm.box.c16; have n3 := a3.set (a3.cm.set16 (zag M3)); obtain ⟨m12, hm12⟩ : ∃ m : Ms, m = { m11 with re := (zag M3) } := ⟨_, rfl⟩; rw [← hm12] at n3; have H12 : Hid (m12 = { m11 with re := (zag M3) }) := hm12; clear hm12; have z4 : True := trivial)
          | (go_at_call 36; have dd2 := z2; refine (pint' hs n1.rd ht2).mono ?_; rintro e u4 ⟨rfl, r3, g3⟩; have a2 := n1.call r3 g3; have o2 := a2.cm.free 15; have p2 := a2.cm.box.c15; have n2 := a2.set (a2.cm.set15 (zag M2)); obtain ⟨m11, hm11⟩ : ∃ m : Ms, m = { m10 with rq := (zag M2) } := ⟨_, rfl⟩; rw [← hm11] at n2; have H11 : Hid (m11 = { m10 with rq := (zag M2) }) := hm11; clear hm11; have z3 : True := trivial)
          | (go_at_call 36; refine (pint' hs q3.rd ht1).mono ?_; rintro e u3 ⟨rfl, r2, g2⟩; have a1 := q3.call r2 g2; have o1 := a1.cm.free 14; have p1 := a1.cm.box.c14; have n1 := a1.set (a1.cm.set14 (zag M1)); obtain ⟨m10, hm10⟩ : ∃ m : Ms, m = { m9 with rs := (zag M1) } := ⟨_, rfl⟩; rw [← hm10] at n1; have H10 : Hid (m10 = { m9 with rs := (zag M1) }) := hm10; clear hm10; have z2 : True := trivial)
          | (go_at_call 40; refine (qd _).mono ?_; rintro e u2 ⟨rfl, y2⟩; have q1 := q0.below y2; have q2 := q1.alloc (.cells #[.int .i64 cc.kind, .int .i64 cc.session, .int .i64 cc.seq, .string cc.name, .int .i64 cc.n] 25); have k9 := q2.cm.box.c9; have j9 := q2.cm.free 9; have k10 := q2.cm.box.c10; have j10 := q2.cm.free 10; have k11 := q2.cm.box.c11; have j11 := q2.cm.free 11; have k12 := q2.cm.box.c12; have j12 := q2.cm.free 12; have k13 := q2.cm.box.c13; have j13 := q2.cm.free 13; have q3 := ((((q2.set (q2.cm.set9 cc.kind)).set ((q2.cm.set9 cc.kind).set10 cc.session)).set (((q2.cm.set9 cc.kind).set10 cc.session).set11 cc.seq)).set ((((q2.cm.set9 cc.kind).set10 cc.session).set11 cc.seq).set12 cc.name)).set (((((q2.cm.set9 cc.kind).set10 cc.session).set11 cc.seq).set12 cc.name).set13 cc.n); obtain ⟨m9, hm9⟩ : ∃ m : Ms, m = { m8 with c := cc } := ⟨_, rfl⟩; rw [show ({ m8 with c := { m8.c with kind := cc.kind, session := cc.session, seq := cc.seq, name := cc.name, n := cc.n } } : Ms) = m9 from hm9.symm] at q3; have H9 : Hid (m9 = { m8 with c := cc }) := hm9; clear hm9)
          | (go_at_call 39; refine (ptext' hs st.rd ht0).mono ?_; rintro e u1 ⟨rfl, r1, g1⟩; have q0 := st.call r1 g1; have z0 : True := trivial)
          | (show wpList _ _ _ (⟨_, Op.store 30 _ _, _, _, _, _⟩ :: _) _ _; refine store_msg rfl _ _ rfl rfl (by exact n6.rs) none 0 0 (m := Ms.zero) rfl ?_; intro wE hE gE))
        refine bodyPost_ret (results_msg2 Try.results11 _ _ rfl hE) rfl ?_
        rw [HT.out]
        exact ⟨.slice none 0 0, rfl, EntAt.nothing _, n6.bel.grown gE (Nat.le_of_lt n6.rs.lt) (fun k hk => by have := Option.some.inj hk; omega)⟩
end Go.Proofs.Ytmmdcbgmhjheeaa
