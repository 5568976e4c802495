/-
  Package msgs: Decode, for every text: the message or the error. The condition: the text is no longer than a text of 64 bits' length.
-/
import Derived.Test.YtmmdcbgmhjheeaaGDecB
import Derived.RegionTactic
namespace Go.Proofs.Ytmmdcbgmhjheeaa
open Go.RowKit

set_option maxHeartbeats 12800000 in
set_option maxRecDepth 100000 in
theorem gdecode_d (s : ByteArray) (w : World) {l : List En} {sk : ByteArray} {bk : Bool} (hz : s.size ≤ 524288) (hN : ∀ N s9 b9 hd, readH (s, false) = (hd, (s9, b9)) → hd.n = zag N → entsOut N (s9, b9) = some (l, sk, bk)) {cc : Cm} (hc : decC (readL (sk, bk)).1.c = some cc) (hD : ¬ rD (readL (sk, bk)).2.1 (readL (sk, bk)).2.2 = 0) :
    Calls Try.prog 10 #[.string s] w fun e w' => ∃ v, e = .returned (.tuple #[.agg #[.int .i64 (decMT s).1.k, .int .i64 (decMT s).1.f, .int .i64 (decMT s).1.t, .int .i64 (decMT s).1.b, .int .i64 (decMT s).1.sl, .int .i64 (decMT s).1.ro, .int .i64 (decMT s).1.se, .int .i64 (decMT s).1.er, v, .int .i64 (decMT s).1.c.kind, .int .i64 (decMT s).1.c.session, .int .i64 (decMT s).1.c.seq, .string (decMT s).1.c.name, .int .i64 (decMT s).1.c.n, .int .i64 (decMT s).1.rs, .int .i64 (decMT s).1.rq, .int .i64 (decMT s).1.re, .int .u64 (decMT s).1.tk, .int .i64 (decMT s).1.rn, .string (decMT s).1.x], .int .i64 (decMT s).2]) ∧ EntAt w' v (decMT s).1.es ∧ Below w.heap.size w w' := by
  obtain ⟨N1, s1, b1, h1⟩ : ∃ N s' b', rU s false = (N, s', b') := ⟨_, _, _, rfl⟩
  obtain ⟨N2, s2, b2, h2⟩ : ∃ N s' b', rU s1 b1 = (N, s', b') := ⟨_, _, _, rfl⟩
  obtain ⟨N3, s3, b3, h3⟩ : ∃ N s' b', rU s2 b2 = (N, s', b') := ⟨_, _, _, rfl⟩
  obtain ⟨N4, s4, b4, h4⟩ : ∃ N s' b', rU s3 b3 = (N, s', b') := ⟨_, _, _, rfl⟩
  obtain ⟨N5, s5, b5, h5⟩ : ∃ N s' b', rU s4 b4 = (N, s', b') := ⟨_, _, _, rfl⟩
  obtain ⟨N6, s6, b6, h6⟩ : ∃ N s' b', rU s5 b5 = (N, s', b') := ⟨_, _, _, rfl⟩
  obtain ⟨N7, s7, b7, h7⟩ : ∃ N s' b', rU s6 b6 = (N, s', b') := ⟨_, _, _, rfl⟩
  obtain ⟨N8, s8, b8, h8⟩ : ∃ N s' b', rU s7 b7 = (N, s', b') := ⟨_, _, _, rfl⟩
  obtain ⟨N9, s9, b9, h9⟩ : ∃ N s' b', rU s8 b8 = (N, s', b') := ⟨_, _, _, rfl⟩
  have HH : Hid (readH (s, false) = (⟨zag N1, zag N2, zag N3, zag N4, zag N5, zag N6, zag N7, zag N8, zag N9⟩, (s9, b9))) := by
    show _ = _
    unfold readH uI uN
    simp only [h1, h2, h3, h4, h5, h6, h7, h8, h9]
  have hm : s.size ≤ 9223372036854775807 := by omega
  have hz' : decide ((524288 : Int) < (s.size : Int)) = false := by simp; omega
  obtain ⟨base, hbase⟩ : ∃ base, w.heap.size = base := ⟨_, rfl⟩
  obtain ⟨n1, n2, _⟩ := three_new w (.cells #[.int .i64 0, .int .i64 0, .int .i64 0, .int .i64 0, .int .i64 0, .int .i64 0, .int .i64 0, .int .i64 0, .slice none 0 0, .int .i64 0, .int .i64 0, .int .i64 0, .string ⟨#[]⟩, .int .i64 0, .int .i64 0, .int .i64 0, .int .i64 0, .int .u64 0, .int .i64 0, .string ⟨#[]⟩] 30) (.cells #[.string s, .bool false] 93) (.cells #[.int .i64 0, .int .i64 0, .int .i64 0, .int .i64 0, .int .i64 0, .int .i64 0, .int .i64 0, .int .i64 0, .slice none 0 0, .int .i64 0, .int .i64 0, .int .i64 0, .string ⟨#[]⟩, .int .i64 0, .int .i64 0, .int .i64 0, .int .i64 0, .int .u64 0, .int .i64 0, .string ⟨#[]⟩] 30) hbase
  have e2 : ((w.alloc (.cells #[.int .i64 0, .int .i64 0, .int .i64 0, .int .i64 0, .int .i64 0, .int .i64 0, .int .i64 0, .int .i64 0, .slice none 0 0, .int .i64 0, .int .i64 0, .int .i64 0, .string ⟨#[]⟩, .int .i64 0, .int .i64 0, .int .i64 0, .int .i64 0, .int .u64 0, .int .i64 0, .string ⟨#[]⟩] 30)).alloc (.cells #[.string s, .bool false] 93)).heap.size = base + 1 + 1 := by simp [hbase]
  rw [Below.heap_alloc _ _ _ (by rw [e2]; omega)] at n1 n2
  have z0 : MLies ((w.alloc (.cells #[.int .i64 0, .int .i64 0, .int .i64 0, .int .i64 0, .int .i64 0, .int .i64 0, .int .i64 0, .int .i64 0, .slice none 0 0, .int .i64 0, .int .i64 0, .int .i64 0, .string ⟨#[]⟩, .int .i64 0, .int .i64 0, .int .i64 0, .int .i64 0, .int .u64 0, .int .i64 0, .string ⟨#[]⟩] 30)).alloc (.cells #[.string s, .bool false] 93)) base Ms.zero (.slice none 0 0) := n1
  have r0 : Rs ((w.alloc (.cells #[.int .i64 0, .int .i64 0, .int .i64 0, .int .i64 0, .int .i64 0, .int .i64 0, .int .i64 0, .int .i64 0, .slice none 0 0, .int .i64 0, .int .i64 0, .int .i64 0, .string ⟨#[]⟩, .int .i64 0, .int .i64 0, .int .i64 0, .int .i64 0, .int .u64 0, .int .i64 0, .string ⟨#[]⟩] 30)).alloc (.cells #[.string s, .bool false] 93)) (base + 1) s.size s false := ⟨n2, Nat.le_refl _⟩
  have b0 : Below base w ((w.alloc (.cells #[.int .i64 0, .int .i64 0, .int .i64 0, .int .i64 0, .int .i64 0, .int .i64 0, .int .i64 0, .int .i64 0, .slice none 0 0, .int .i64 0, .int .i64 0, .int .i64 0, .string ⟨#[]⟩, .int .i64 0, .int .i64 0, .int .i64 0, .int .i64 0, .int .u64 0, .int .i64 0, .string ⟨#[]⟩] 30)).alloc (.cells #[.string s, .bool false] 93)) := ((Below.refl base w).alloc (by omega) _).alloc (by simp; omega) _
  have qo := of_any s (w.alloc (.cells #[.int .i64 0, .int .i64 0, .int .i64 0, .int .i64 0, .int .i64 0, .int .i64 0, .int .i64 0, .int .i64 0, .slice none 0 0, .int .i64 0, .int .i64 0, .int .i64 0, .string ⟨#[]⟩, .int .i64 0, .int .i64 0, .int .i64 0, .int .i64 0, .int .u64 0, .int .i64 0, .string ⟨#[]⟩] 30))
  have hsz : (w.alloc (.cells #[.int .i64 0, .int .i64 0, .int .i64 0, .int .i64 0, .int .i64 0, .int .i64 0, .int .i64 0, .int .i64 0, .slice none 0 0, .int .i64 0, .int .i64 0, .int .i64 0, .string ⟨#[]⟩, .int .i64 0, .int .i64 0, .int .i64 0, .int .i64 0, .int .u64 0, .int .i64 0, .string ⟨#[]⟩] 30)).heap.size = base + 1 := by simp [hbase]
  rw [hsz] at qo
  clear hsz n1 n2 e2
  rw [hbase]
  have HO : Hid (entsOut N9 (s9, b9) = some (l, sk, bk)) := hN _ _ _ _ HH.out rfl
  obtain ⟨hok, hre, hall, hl4⟩ := out_some HH.out rfl hz HO.out
  have HOK : Hid (okH s) := hok
  have HRR : Hid (readEs (readH (s, false)).1.n.toNat (readH (s, false)).2 = some (l, sk, bk)) := hre
  have HALL : Hid (l.all mayE = true) := hall
  clear hok hre hall hN hz
  obtain ⟨Tc, t1, c1, ht0⟩ : ∃ N s' b', rT sk bk = (N, s', b') := ⟨_, _, _, rfl⟩
  obtain ⟨M1, t2, c2', ht1⟩ : ∃ N s' b', rU t1 c1 = (N, s', b') := ⟨_, _, _, rfl⟩
  obtain ⟨M2, t3, c3', ht2⟩ : ∃ N s' b', rU t2 c2' = (N, s', b') := ⟨_, _, _, rfl⟩
  obtain ⟨M3, t4, c4', ht3⟩ : ∃ N s' b', rU t3 c3' = (N, s', b') := ⟨_, _, _, rfl⟩
  obtain ⟨M4, t5, c5', ht4⟩ : ∃ N s' b', rU t4 c4' = (N, s', b') := ⟨_, _, _, rfl⟩
  obtain ⟨M5, t6, c6', ht5⟩ : ∃ N s' b', rU t5 c5' = (N, s', b') := ⟨_, _, _, rfl⟩
  obtain ⟨Tx, t7, c7', ht6⟩ : ∃ N s' b', rT t6 c6' = (N, s', b') := ⟨_, _, _, rfl⟩
  have HL : Hid (readL (sk, bk) = (⟨Tc, zag M1, zag M2, zag M3, M4, zag M5, Tx⟩, (t7, c7'))) := by
    show _ = _
    unfold readL uI uN uT
    simp only [ht0, ht1, ht2, ht3, ht4, ht5, ht6]
  have hTc : Tc.size ≤ 524288 := by
    have := rT_fst sk bk
    rw [ht0] at this
    exact this
  have qd := decode_any Tc (by omega)

  have HT : Hid (decMT s = (Ms.zero, 2)) := decMT_D HOK.out HRR.out hD
  rw [HL.out] at hc hD
  simp only at hc hD
  rw [show decT Tc = (cc, 0) by unfold decT; rw [hc]] at qd
  have hD' : (rD t7 c7' != 0) = true := by simpa using hD
  clear hc HL hTc hD
  go_enter Try.func10, Try.ntmps10
  go_wp2_with (first
    | (go_at_call 32; refine (qd _).mono ?_; rintro e w6 ⟨rfl, y6⟩; have D6 := D5.below y6; have D7 := D6.alloc (.cells #[.int .i64 cc.kind, .int .i64 cc.session, .int .i64 cc.seq, .string cc.name, .int .i64 cc.n] 25); have q0 : (w6.alloc (.cells #[.int .i64 cc.kind, .int .i64 cc.session, .int .i64 cc.seq, .string cc.name, .int .i64 cc.n] 25)).cell? ⟨w6.heap.size, 0, none⟩ = some (.int .i64 cc.kind) := (by simp); have q1 : (w6.alloc (.cells #[.int .i64 cc.kind, .int .i64 cc.session, .int .i64 cc.seq, .string cc.name, .int .i64 cc.n] 25)).cell? ⟨w6.heap.size, 1, none⟩ = some (.int .i64 cc.session) := (by simp); have q2 : (w6.alloc (.cells #[.int .i64 cc.kind, .int .i64 cc.session, .int .i64 cc.seq, .string cc.name, .int .i64 cc.n] 25)).cell? ⟨w6.heap.size, 2, none⟩ = some (.int .i64 cc.seq) := (by simp); have q3 : (w6.alloc (.cells #[.int .i64 cc.kind, .int .i64 cc.session, .int .i64 cc.seq, .string cc.name, .int .i64 cc.n] 25)).cell? ⟨w6.heap.size, 3, none⟩ = some (.string cc.name) := (by simp); have q4 : (w6.alloc (.cells #[.int .i64 cc.kind, .int .i64 cc.session, .int .i64 cc.seq, .string cc.name, .int .i64 cc.n] 25)).cell? ⟨w6.heap.size, 4, none⟩ = some (.int .i64 cc.n) := (by simp); generalize hu : w6.alloc (.cells #[.int .i64 cc.kind, .int .i64 cc.session, .int .i64 cc.seq, .string cc.name, .int .i64 cc.n] 25) = u at D7 q0 q1 q2 q3 q4; have k8 := D7.cm.box.c8; have j8 := D7.cm.free 8; have k9 := D7.cm.box.c9; have j9 := D7.cm.free 9; have k10 := D7.cm.box.c10; have j10 := D7.cm.free 10; have k11 := D7.cm.box.c11; have j11 := D7.cm.free 11; have k12 := D7.cm.box.c12; have j12 := D7.cm.free 12; have k13 := D7.cm.box.c13; have j13 := D7.cm.free 13)
    | (go_at_call 33; refine (Rs.text hm D4.rd ht0).mono ?_; rintro e w5 ⟨rfl, r5, g5⟩; have D5 := D4.call r5 g5; have e5 : True := trivial)
    | (go_at_call 31; refine (rents_any hm h9 _ r3).mono ?_; rintro e w4 ⟨g4, p4⟩; rw [HO.out] at p4; obtain ⟨v4, rfl, ow4, rd4⟩ := p4; obtain ⟨pv, nv, cv, rfl⟩ := ow4.form; have z4 := z3.far (g4.block _ z3.lt (fun e => by have := Option.some.inj e; omega)); have b4 := b3.grown g4 (Nat.le_of_lt z3.lt) (fun k hk => by have := Option.some.inj hk; omega); have c4 := c3.far (g4.block _ c3.lt (fun e => by have := Option.some.inj e; omega)); have D4 : Dg w base s.size (base + 1) w2.heap.size w3.heap.size w4 sk bk (⟨zag N1, zag N2, zag N3, zag N4, zag N5, zag N6, zag N7, zag N8, [], Cm.zero, 0, 0, 0, 0, 0, ⟨#[]⟩⟩ : Ms) (.slice none 0 0) (.slice pv nv cv) l := ⟨rd4, c4, z4, ow4, rfl, by omega, l3, b4⟩)
    | (go_at_call 30; refine (rhead_any hm h1 h2 h3 h4 h5 h6 h7 h8 _ r0).mono ?_; rintro e w2 ⟨rfl, r2, g2⟩; have z2 := z0.far (g2.block _ z0.lt (fun e => by have := Option.some.inj e; omega)); have b2 := b0.grown g2 (Nat.le_of_lt z0.lt) (fun k hk => by have := Option.some.inj hk; omega); have y2 := (Below.refl _ w2).alloc (Nat.le_refl _) (.cells #[.int .i64 0, .int .i64 0, .int .i64 0, .int .i64 0, .int .i64 0, .int .i64 0, .int .i64 0, .int .i64 0, .slice none 0 0, .int .i64 0, .int .i64 0, .int .i64 0, .string ⟨#[]⟩, .int .i64 0, .int .i64 0, .int .i64 0, .int .i64 0, .int .u64 0, .int .i64 0, .string ⟨#[]⟩] 30); have lR := r2.lt; have c2 : MLies (w2.alloc (.cells #[.int .i64 0, .int .i64 0, .int .i64 0, .int .i64 0, .int .i64 0, .int .i64 0, .int .i64 0, .int .i64 0, .slice none 0 0, .int .i64 0, .int .i64 0, .int .i64 0, .string ⟨#[]⟩, .int .i64 0, .int .i64 0, .int .i64 0, .int .i64 0, .int .u64 0, .int .i64 0, .string ⟨#[]⟩] 30)) w2.heap.size Ms.zero (.slice none 0 0) := heap_alloc_new _ _)
    | (go_at_call 29; refine qo.mono ?_; rintro e w1 ⟨rfl, hw⟩; rw [hw] at z0 r0 b0; clear hw)
    | (show wpList _ _ _ (⟨_, Op.store 30 _ _, _, _, _, _⟩ :: _) _ _; have no := y2; refine store_msg rfl _ _ rfl rfl (by exact c2) none 0 0 (m := (⟨zag N1, zag N2, zag N3, zag N4, zag N5, zag N6, zag N7, zag N8, [], Cm.zero, 0, 0, 0, 0, 0, ⟨#[]⟩⟩ : Ms)) rfl ?_; intro w3 c3 g3; have G3 := grown_new (grown_below y2 none) g3 (Nat.le_refl _); have r3 := r2.far (G3.block _ r2.lt (by simp)); have z3 := z2.far (G3.block _ z2.lt (by simp)); have b3 := b2.grown G3 (Nat.le_of_lt z2.lt) (fun k hk => by cases hk); have l3 := c3.lt; clear y2))
  go_region
  obtain ⟨m9, hm9⟩ : ∃ m : Ms, m = { (⟨zag N1, zag N2, zag N3, zag N4, zag N5, zag N6, zag N7, zag N8, [], Cm.zero, 0, 0, 0, 0, 0, ⟨#[]⟩⟩ : Ms) with c := cc } := ⟨_, rfl⟩
  have D8 := (D7.setC (.slice pv nv cv) cc).drew
  rw [← hm9] at D8
  have H9 : Hid (m9 = { (⟨zag N1, zag N2, zag N3, zag N4, zag N5, zag N6, zag N7, zag N8, [], Cm.zero, 0, 0, 0, 0, 0, ⟨#[]⟩⟩ : Ms) with c := cc }) := hm9
  clear hm9 D7 D6 D5 D4 hu k8 j8 k9 j9 k10 j10 k11 j11 k12 j12 k13 j13 q0 q1 q2 q3 q4 c3 z3 r3 z2 r2 z0 r0 c2 z4 c4 ow4 rd4
  go_wp2_with (first
    | (go_at_call 35; refine (rdone_any _ _ _ _ D12.rd.1).mono ?_; rintro e w13 ⟨rfl, hw⟩; rw [hw] at D12; clear hw)
    | (go_at_call 33; have no := D10; refine (Rs.text hm D10.rd ht6).mono ?_; rintro e w11 ⟨rfl, r11, g11⟩; have D11 := D10.call r11 g11; have k19 := D11.cm.box.c19; have j19 := D11.cm.free 19; have D12 := D11.set (D11.cm.set19 Tx); obtain ⟨m11, hm11⟩ : ∃ m : Ms, m = { m10 with x := Tx } := ⟨_, rfl⟩; rw [← hm11] at D12; have H11 : Hid (m11 = { m10 with x := Tx }) := hm11; clear hm11)
    | (go_at_call 34; refine (rrep_any hm ht1 ht2 ht3 ht4 ht5 _ D8.rd).mono ?_; rintro e w9 ⟨rfl, r9, g9⟩; have D9 := D8.call r9 g9; have k14 := D9.cm.box.c14; have j14 := D9.cm.free 14; have k15 := D9.cm.box.c15; have j15 := D9.cm.free 15; have k16 := D9.cm.box.c16; have j16 := D9.cm.free 16; have k17 := D9.cm.box.c17; have j17 := D9.cm.free 17; have k18 := D9.cm.box.c18; have j18 := D9.cm.free 18; obtain ⟨m10, hm10⟩ : ∃ m : Ms, m = { m9 with rs := zag M1, rq := zag M2, re := zag M3, tk := M4, rn := zag M5 } := ⟨_, rfl⟩; have D10 := D9.setR (zag M1) (zag M2) (zag M3) M4 (zag M5); rw [← hm10] at D10; have H10 : Hid (m10 = { m9 with rs := zag M1, rq := zag M2, re := zag M3, tk := M4, rn := zag M5 }) := hm10; clear hm10)
    | (show wpList _ _ _ (⟨_, Op.store 30 _ _, _, _, _, _⟩ :: _) _ _; refine store_msg rfl _ _ rfl rfl (by exact D12.rs) none 0 0 (m := Ms.zero) rfl ?_; intro wE hE gE))
  refine bodyPost_ret (results_msg2 Try.results10 _ _ rfl hE) rfl ?_
  rw [HT.out]
  exact ⟨.slice none 0 0, rfl, EntAt.nothing _, D12.bel.grown gE (Nat.le_of_lt D12.rs.lt) (fun k hk => by have := Option.some.inj hk; omega)⟩

set_option maxHeartbeats 12800000 in
set_option maxRecDepth 100000 in
theorem gdecode_w (s : ByteArray) (w : World) {l : List En} {sk : ByteArray} {bk : Bool} (hz : s.size ≤ 524288) (hN : ∀ N s9 b9 hd, readH (s, false) = (hd, (s9, b9)) → hd.n = zag N → entsOut N (s9, b9) = some (l, sk, bk)) {cc : Cm} (hc : decC (readL (sk, bk)).1.c = some cc) (hD : rD (readL (sk, bk)).2.1 (readL (sk, bk)).2.2 = 0) (hM : witB (mkM (readH (s, false)).1 l cc (readL (sk, bk)).1) = false) :
    Calls Try.prog 10 #[.string s] w fun e w' => ∃ v, e = .returned (.tuple #[.agg #[.int .i64 (decMT s).1.k, .int .i64 (decMT s).1.f, .int .i64 (decMT s).1.t, .int .i64 (decMT s).1.b, .int .i64 (decMT s).1.sl, .int .i64 (decMT s).1.ro, .int .i64 (decMT s).1.se, .int .i64 (decMT s).1.er, v, .int .i64 (decMT s).1.c.kind, .int .i64 (decMT s).1.c.session, .int .i64 (decMT s).1.c.seq, .string (decMT s).1.c.name, .int .i64 (decMT s).1.c.n, .int .i64 (decMT s).1.rs, .int .i64 (decMT s).1.rq, .int .i64 (decMT s).1.re, .int .u64 (decMT s).1.tk, .int .i64 (decMT s).1.rn, .string (decMT s).1.x], .int .i64 (decMT s).2]) ∧ EntAt w' v (decMT s).1.es ∧ Below w.heap.size w w' := by
  obtain ⟨N1, s1, b1, h1⟩ : ∃ N s' b', rU s false = (N, s', b') := ⟨_, _, _, rfl⟩
  obtain ⟨N2, s2, b2, h2⟩ : ∃ N s' b', rU s1 b1 = (N, s', b') := ⟨_, _, _, rfl⟩
  obtain ⟨N3, s3, b3, h3⟩ : ∃ N s' b', rU s2 b2 = (N, s', b') := ⟨_, _, _, rfl⟩
  obtain ⟨N4, s4, b4, h4⟩ : ∃ N s' b', rU s3 b3 = (N, s', b') := ⟨_, _, _, rfl⟩
  obtain ⟨N5, s5, b5, h5⟩ : ∃ N s' b', rU s4 b4 = (N, s', b') := ⟨_, _, _, rfl⟩
  obtain ⟨N6, s6, b6, h6⟩ : ∃ N s' b', rU s5 b5 = (N, s', b') := ⟨_, _, _, rfl⟩
  obtain ⟨N7, s7, b7, h7⟩ : ∃ N s' b', rU s6 b6 = (N, s', b') := ⟨_, _, _, rfl⟩
  obtain ⟨N8, s8, b8, h8⟩ : ∃ N s' b', rU s7 b7 = (N, s', b') := ⟨_, _, _, rfl⟩
  obtain ⟨N9, s9, b9, h9⟩ : ∃ N s' b', rU s8 b8 = (N, s', b') := ⟨_, _, _, rfl⟩
  have HH : Hid (readH (s, false) = (⟨zag N1, zag N2, zag N3, zag N4, zag N5, zag N6, zag N7, zag N8, zag N9⟩, (s9, b9))) := by
    show _ = _
    unfold readH uI uN
    simp only [h1, h2, h3, h4, h5, h6, h7, h8, h9]
  have hm : s.size ≤ 9223372036854775807 := by omega
  have hz' : decide ((524288 : Int) < (s.size : Int)) = false := by simp; omega
  obtain ⟨base, hbase⟩ : ∃ base, w.heap.size = base := ⟨_, rfl⟩
  obtain ⟨n1, n2, _⟩ := three_new w (.cells #[.int .i64 0, .int .i64 0, .int .i64 0, .int .i64 0, .int .i64 0, .int .i64 0, .int .i64 0, .int .i64 0, .slice none 0 0, .int .i64 0, .int .i64 0, .int .i64 0, .string ⟨#[]⟩, .int .i64 0, .int .i64 0, .int .i64 0, .int .i64 0, .int .u64 0, .int .i64 0, .string ⟨#[]⟩] 30) (.cells #[.string s, .bool false] 93) (.cells #[.int .i64 0, .int .i64 0, .int .i64 0, .int .i64 0, .int .i64 0, .int .i64 0, .int .i64 0, .int .i64 0, .slice none 0 0, .int .i64 0, .int .i64 0, .int .i64 0, .string ⟨#[]⟩, .int .i64 0, .int .i64 0, .int .i64 0, .int .i64 0, .int .u64 0, .int .i64 0, .string ⟨#[]⟩] 30) hbase
  have e2 : ((w.alloc (.cells #[.int .i64 0, .int .i64 0, .int .i64 0, .int .i64 0, .int .i64 0, .int .i64 0, .int .i64 0, .int .i64 0, .slice none 0 0, .int .i64 0, .int .i64 0, .int .i64 0, .string ⟨#[]⟩, .int .i64 0, .int .i64 0, .int .i64 0, .int .i64 0, .int .u64 0, .int .i64 0, .string ⟨#[]⟩] 30)).alloc (.cells #[.string s, .bool false] 93)).heap.size = base + 1 + 1 := by simp [hbase]
  rw [Below.heap_alloc _ _ _ (by rw [e2]; omega)] at n1 n2
  have z0 : MLies ((w.alloc (.cells #[.int .i64 0, .int .i64 0, .int .i64 0, .int .i64 0, .int .i64 0, .int .i64 0, .int .i64 0, .int .i64 0, .slice none 0 0, .int .i64 0, .int .i64 0, .int .i64 0, .string ⟨#[]⟩, .int .i64 0, .int .i64 0, .int .i64 0, .int .i64 0, .int .u64 0, .int .i64 0, .string ⟨#[]⟩] 30)).alloc (.cells #[.string s, .bool false] 93)) base Ms.zero (.slice none 0 0) := n1
  have r0 : Rs ((w.alloc (.cells #[.int .i64 0, .int .i64 0, .int .i64 0, .int .i64 0, .int .i64 0, .int .i64 0, .int .i64 0, .int .i64 0, .slice none 0 0, .int .i64 0, .int .i64 0, .int .i64 0, .string ⟨#[]⟩, .int .i64 0, .int .i64 0, .int .i64 0, .int .i64 0, .int .u64 0, .int .i64 0, .string ⟨#[]⟩] 30)).alloc (.cells #[.string s, .bool false] 93)) (base + 1) s.size s false := ⟨n2, Nat.le_refl _⟩
  have b0 : Below base w ((w.alloc (.cells #[.int .i64 0, .int .i64 0, .int .i64 0, .int .i64 0, .int .i64 0, .int .i64 0, .int .i64 0, .int .i64 0, .slice none 0 0, .int .i64 0, .int .i64 0, .int .i64 0, .string ⟨#[]⟩, .int .i64 0, .int .i64 0, .int .i64 0, .int .i64 0, .int .u64 0, .int .i64 0, .string ⟨#[]⟩] 30)).alloc (.cells #[.string s, .bool false] 93)) := ((Below.refl base w).alloc (by omega) _).alloc (by simp; omega) _
  have qo := of_any s (w.alloc (.cells #[.int .i64 0, .int .i64 0, .int .i64 0, .int .i64 0, .int .i64 0, .int .i64 0, .int .i64 0, .int .i64 0, .slice none 0 0, .int .i64 0, .int .i64 0, .int .i64 0, .string ⟨#[]⟩, .int .i64 0, .int .i64 0, .int .i64 0, .int .i64 0, .int .u64 0, .int .i64 0, .string ⟨#[]⟩] 30))
  have hsz : (w.alloc (.cells #[.int .i64 0, .int .i64 0, .int .i64 0, .int .i64 0, .int .i64 0, .int .i64 0, .int .i64 0, .int .i64 0, .slice none 0 0, .int .i64 0, .int .i64 0, .int .i64 0, .string ⟨#[]⟩, .int .i64 0, .int .i64 0, .int .i64 0, .int .i64 0, .int .u64 0, .int .i64 0, .string ⟨#[]⟩] 30)).heap.size = base + 1 := by simp [hbase]
  rw [hsz] at qo
  clear hsz n1 n2 e2
  rw [hbase]
  have HO : Hid (entsOut N9 (s9, b9) = some (l, sk, bk)) := hN _ _ _ _ HH.out rfl
  obtain ⟨hok, hre, hall, hl4⟩ := out_some HH.out rfl hz HO.out
  have HOK : Hid (okH s) := hok
  have HRR : Hid (readEs (readH (s, false)).1.n.toNat (readH (s, false)).2 = some (l, sk, bk)) := hre
  have HALL : Hid (l.all mayE = true) := hall
  clear hok hre hall hN hz
  obtain ⟨Tc, t1, c1, ht0⟩ : ∃ N s' b', rT sk bk = (N, s', b') := ⟨_, _, _, rfl⟩
  obtain ⟨M1, t2, c2', ht1⟩ : ∃ N s' b', rU t1 c1 = (N, s', b') := ⟨_, _, _, rfl⟩
  obtain ⟨M2, t3, c3', ht2⟩ : ∃ N s' b', rU t2 c2' = (N, s', b') := ⟨_, _, _, rfl⟩
  obtain ⟨M3, t4, c4', ht3⟩ : ∃ N s' b', rU t3 c3' = (N, s', b') := ⟨_, _, _, rfl⟩
  obtain ⟨M4, t5, c5', ht4⟩ : ∃ N s' b', rU t4 c4' = (N, s', b') := ⟨_, _, _, rfl⟩
  obtain ⟨M5, t6, c6', ht5⟩ : ∃ N s' b', rU t5 c5' = (N, s', b') := ⟨_, _, _, rfl⟩
  obtain ⟨Tx, t7, c7', ht6⟩ : ∃ N s' b', rT t6 c6' = (N, s', b') := ⟨_, _, _, rfl⟩
  have HL : Hid (readL (sk, bk) = (⟨Tc, zag M1, zag M2, zag M3, M4, zag M5, Tx⟩, (t7, c7'))) := by
    show _ = _
    unfold readL uI uN uT
    simp only [ht0, ht1, ht2, ht3, ht4, ht5, ht6]
  have hTc : Tc.size ≤ 524288 := by
    have := rT_fst sk bk
    rw [ht0] at this
    exact this
  have qd := decode_any Tc (by omega)

  have hW : mayM (mkM (readH (s, false)).1 l cc (readL (sk, bk)).1) = false := by
    rw [mayM_wit, hM]
    rfl
  have HM : Hid (witB (mkM ⟨zag N1, zag N2, zag N3, zag N4, zag N5, zag N6, zag N7, zag N8, zag N9⟩ l cc ⟨Tc, zag M1, zag M2, zag M3, M4, zag M5, Tx⟩) = false) := by
    show _ = _
    rw [HL.out, HH.out] at hM
    exact hM
  have HT : Hid (decMT s = (Ms.zero, 2)) := decMT_d HOK.out HRR.out hc (fun h => by rw [hW] at h; cases h.2)
  rw [HL.out] at hc hD
  simp only at hc hD
  rw [show decT Tc = (cc, 0) by unfold decT; rw [hc]] at qd
  clear hc HL hTc hM hW
  go_enter Try.func10, Try.ntmps10
  go_wp2_with (first
    | (go_at_call 32; refine (qd _).mono ?_; rintro e w6 ⟨rfl, y6⟩; have D6 := D5.below y6; have D7 := D6.alloc (.cells #[.int .i64 cc.kind, .int .i64 cc.session, .int .i64 cc.seq, .string cc.name, .int .i64 cc.n] 25); have q0 : (w6.alloc (.cells #[.int .i64 cc.kind, .int .i64 cc.session, .int .i64 cc.seq, .string cc.name, .int .i64 cc.n] 25)).cell? ⟨w6.heap.size, 0, none⟩ = some (.int .i64 cc.kind) := (by simp); have q1 : (w6.alloc (.cells #[.int .i64 cc.kind, .int .i64 cc.session, .int .i64 cc.seq, .string cc.name, .int .i64 cc.n] 25)).cell? ⟨w6.heap.size, 1, none⟩ = some (.int .i64 cc.session) := (by simp); have q2 : (w6.alloc (.cells #[.int .i64 cc.kind, .int .i64 cc.session, .int .i64 cc.seq, .string cc.name, .int .i64 cc.n] 25)).cell? ⟨w6.heap.size, 2, none⟩ = some (.int .i64 cc.seq) := (by simp); have q3 : (w6.alloc (.cells #[.int .i64 cc.kind, .int .i64 cc.session, .int .i64 cc.seq, .string cc.name, .int .i64 cc.n] 25)).cell? ⟨w6.heap.size, 3, none⟩ = some (.string cc.name) := (by simp); have q4 : (w6.alloc (.cells #[.int .i64 cc.kind, .int .i64 cc.session, .int .i64 cc.seq, .string cc.name, .int .i64 cc.n] 25)).cell? ⟨w6.heap.size, 4, none⟩ = some (.int .i64 cc.n) := (by simp); generalize hu : w6.alloc (.cells #[.int .i64 cc.kind, .int .i64 cc.session, .int .i64 cc.seq, .string cc.name, .int .i64 cc.n] 25) = u at D7 q0 q1 q2 q3 q4; have k8 := D7.cm.box.c8; have j8 := D7.cm.free 8; have k9 := D7.cm.box.c9; have j9 := D7.cm.free 9; have k10 := D7.cm.box.c10; have j10 := D7.cm.free 10; have k11 := D7.cm.box.c11; have j11 := D7.cm.free 11; have k12 := D7.cm.box.c12; have j12 := D7.cm.free 12; have k13 := D7.cm.box.c13; have j13 := D7.cm.free 13)
    | (go_at_call 33; refine (Rs.text hm D4.rd ht0).mono ?_; rintro e w5 ⟨rfl, r5, g5⟩; have D5 := D4.call r5 g5; have e5 : True := trivial)
    | (go_at_call 31; refine (rents_any hm h9 _ r3).mono ?_; rintro e w4 ⟨g4, p4⟩; rw [HO.out] at p4; obtain ⟨v4, rfl, ow4, rd4⟩ := p4; obtain ⟨pv, nv, cv, rfl⟩ := ow4.form; have z4 := z3.far (g4.block _ z3.lt (fun e => by have := Option.some.inj e; omega)); have b4 := b3.grown g4 (Nat.le_of_lt z3.lt) (fun k hk => by have := Option.some.inj hk; omega); have c4 := c3.far (g4.block _ c3.lt (fun e => by have := Option.some.inj e; omega)); have D4 : Dg w base s.size (base + 1) w2.heap.size w3.heap.size w4 sk bk (⟨zag N1, zag N2, zag N3, zag N4, zag N5, zag N6, zag N7, zag N8, [], Cm.zero, 0, 0, 0, 0, 0, ⟨#[]⟩⟩ : Ms) (.slice none 0 0) (.slice pv nv cv) l := ⟨rd4, c4, z4, ow4, rfl, by omega, l3, b4⟩)
    | (go_at_call 30; refine (rhead_any hm h1 h2 h3 h4 h5 h6 h7 h8 _ r0).mono ?_; rintro e w2 ⟨rfl, r2, g2⟩; have z2 := z0.far (g2.block _ z0.lt (fun e => by have := Option.some.inj e; omega)); have b2 := b0.grown g2 (Nat.le_of_lt z0.lt) (fun k hk => by have := Option.some.inj hk; omega); have y2 := (Below.refl _ w2).alloc (Nat.le_refl _) (.cells #[.int .i64 0, .int .i64 0, .int .i64 0, .int .i64 0, .int .i64 0, .int .i64 0, .int .i64 0, .int .i64 0, .slice none 0 0, .int .i64 0, .int .i64 0, .int .i64 0, .string ⟨#[]⟩, .int .i64 0, .int .i64 0, .int .i64 0, .int .i64 0, .int .u64 0, .int .i64 0, .string ⟨#[]⟩] 30); have lR := r2.lt; have c2 : MLies (w2.alloc (.cells #[.int .i64 0, .int .i64 0, .int .i64 0, .int .i64 0, .int .i64 0, .int .i64 0, .int .i64 0, .int .i64 0, .slice none 0 0, .int .i64 0, .int .i64 0, .int .i64 0, .string ⟨#[]⟩, .int .i64 0, .int .i64 0, .int .i64 0, .int .i64 0, .int .u64 0, .int .i64 0, .string ⟨#[]⟩] 30)) w2.heap.size Ms.zero (.slice none 0 0) := heap_alloc_new _ _)
    | (go_at_call 29; refine qo.mono ?_; rintro e w1 ⟨rfl, hw⟩; rw [hw] at z0 r0 b0; clear hw)
    | (show wpList _ _ _ (⟨_, Op.store 30 _ _, _, _, _, _⟩ :: _) _ _; have no := y2; refine store_msg rfl _ _ rfl rfl (by exact c2) none 0 0 (m := (⟨zag N1, zag N2, zag N3, zag N4, zag N5, zag N6, zag N7, zag N8, [], Cm.zero, 0, 0, 0, 0, 0, ⟨#[]⟩⟩ : Ms)) rfl ?_; intro w3 c3 g3; have G3 := grown_new (grown_below y2 none) g3 (Nat.le_refl _); have r3 := r2.far (G3.block _ r2.lt (by simp)); have z3 := z2.far (G3.block _ z2.lt (by simp)); have b3 := b2.grown G3 (Nat.le_of_lt z2.lt) (fun k hk => by cases hk); have l3 := c3.lt; clear y2))
  go_region
  obtain ⟨m9, hm9⟩ : ∃ m : Ms, m = { (⟨zag N1, zag N2, zag N3, zag N4, zag N5, zag N6, zag N7, zag N8, [], Cm.zero, 0, 0, 0, 0, 0, ⟨#[]⟩⟩ : Ms) with c := cc } := ⟨_, rfl⟩
  have D8 := (D7.setC (.slice pv nv cv) cc).drew
  rw [← hm9] at D8
  have H9 : Hid (m9 = { (⟨zag N1, zag N2, zag N3, zag N4, zag N5, zag N6, zag N7, zag N8, [], Cm.zero, 0, 0, 0, 0, 0, ⟨#[]⟩⟩ : Ms) with c := cc }) := hm9
  clear hm9 D7 D6 D5 D4 hu k8 j8 k9 j9 k10 j10 k11 j11 k12 j12 k13 j13 q0 q1 q2 q3 q4 c3 z3 r3 z2 r2 z0 r0 c2 z4 c4 ow4 rd4
  go_wp2_with (first
    | (go_at_call 15; refine (within_any mF _ _ (by exact eF) hFl).mono ?_; rintro e w14 ⟨rfl, y14⟩; have D14 := D12.below y14; have cF14 := cF.below y14)
    | (go_at_call 35; refine (rdone_any _ _ _ _ D12.rd.1).mono ?_; rintro e w13 ⟨rfl, hw⟩; rw [hw] at D12; clear hw; obtain ⟨mF, hmF⟩ : ∃ m : Ms, m = { m11 with es := l } := ⟨_, rfl⟩; have cF : MLies w13 w2.heap.size mF (.slice pv nv cv) := (by rw [hmF]; exact D12.cm); have eF : EntAt w13 (.slice pv nv cv) mF.es := (by rw [hmF]; exact D12.ow.at); have hFe : mF.es = l := (by rw [hmF]); have HF : Hid (mF = mkM ⟨zag N1, zag N2, zag N3, zag N4, zag N5, zag N6, zag N7, zag N8, zag N9⟩ l cc ⟨Tc, zag M1, zag M2, zag M3, M4, zag M5, Tx⟩) := (by show _ = _; rw [hmF, H11.out, H10.out, H9.out]; rfl); have hMF : witB mF = false := (by rw [HF.out]; exact HM.out); have hFl : mF.es.length ≤ 9223372036854775807 := (by rw [hFe]; omega); clear hmF)
    | (go_at_call 33; have no := D10; refine (Rs.text hm D10.rd ht6).mono ?_; rintro e w11 ⟨rfl, r11, g11⟩; have D11 := D10.call r11 g11; have k19 := D11.cm.box.c19; have j19 := D11.cm.free 19; have D12 := D11.set (D11.cm.set19 Tx); obtain ⟨m11, hm11⟩ : ∃ m : Ms, m = { m10 with x := Tx } := ⟨_, rfl⟩; rw [← hm11] at D12; have H11 : Hid (m11 = { m10 with x := Tx }) := hm11; clear hm11)
    | (go_at_call 34; refine (rrep_any hm ht1 ht2 ht3 ht4 ht5 _ D8.rd).mono ?_; rintro e w9 ⟨rfl, r9, g9⟩; have D9 := D8.call r9 g9; have k14 := D9.cm.box.c14; have j14 := D9.cm.free 14; have k15 := D9.cm.box.c15; have j15 := D9.cm.free 15; have k16 := D9.cm.box.c16; have j16 := D9.cm.free 16; have k17 := D9.cm.box.c17; have j17 := D9.cm.free 17; have k18 := D9.cm.box.c18; have j18 := D9.cm.free 18; obtain ⟨m10, hm10⟩ : ∃ m : Ms, m = { m9 with rs := zag M1, rq := zag M2, re := zag M3, tk := M4, rn := zag M5 } := ⟨_, rfl⟩; have D10 := D9.setR (zag M1) (zag M2) (zag M3) M4 (zag M5); rw [← hm10] at D10; have H10 : Hid (m10 = { m9 with rs := zag M1, rq := zag M2, re := zag M3, tk := M4, rn := zag M5 }) := hm10; clear hm10)
    | (show wpList _ _ _ (⟨_, Op.load 30 _, _, _, _, _⟩ :: _) _ _; refine load_msg rfl _ rfl rfl (by first | exact cF14 | exact cF) ?_)
    | (show wpList _ _ _ (⟨_, Op.store 30 _ _, _, _, _, _⟩ :: _) _ _; refine store_msg rfl _ _ rfl rfl (by exact D14.rs) none 0 0 (m := Ms.zero) rfl ?_; intro wE hE gE))
  refine bodyPost_ret (results_msg2 Try.results10 _ _ rfl hE) rfl ?_
  rw [HT.out]
  exact ⟨.slice none 0 0, rfl, EntAt.nothing _, D14.bel.grown gE (Nat.le_of_lt D14.rs.lt) (fun k hk => by have := Option.some.inj hk; omega)⟩

set_option maxHeartbeats 12800000 in
set_option maxRecDepth 100000 in
theorem gdecode_y (s : ByteArray) (w : World) {l : List En} {sk : ByteArray} {bk : Bool} (hz : s.size ≤ 524288) (hN : ∀ N s9 b9 hd, readH (s, false) = (hd, (s9, b9)) → hd.n = zag N → entsOut N (s9, b9) = some (l, sk, bk)) {cc : Cm} (hc : decC (readL (sk, bk)).1.c = some cc) (hD : rD (readL (sk, bk)).2.1 (readL (sk, bk)).2.2 = 0) (hM : witB (mkM (readH (s, false)).1 l cc (readL (sk, bk)).1) = true) :
    Calls Try.prog 10 #[.string s] w fun e w' => ∃ v, e = .returned (.tuple #[.agg #[.int .i64 (decMT s).1.k, .int .i64 (decMT s).1.f, .int .i64 (decMT s).1.t, .int .i64 (decMT s).1.b, .int .i64 (decMT s).1.sl, .int .i64 (decMT s).1.ro, .int .i64 (decMT s).1.se, .int .i64 (decMT s).1.er, v, .int .i64 (decMT s).1.c.kind, .int .i64 (decMT s).1.c.session, .int .i64 (decMT s).1.c.seq, .string (decMT s).1.c.name, .int .i64 (decMT s).1.c.n, .int .i64 (decMT s).1.rs, .int .i64 (decMT s).1.rq, .int .i64 (decMT s).1.re, .int .u64 (decMT s).1.tk, .int .i64 (decMT s).1.rn, .string (decMT s).1.x], .int .i64 (decMT s).2]) ∧ EntAt w' v (decMT s).1.es ∧ Below w.heap.size w w' := by
  obtain ⟨N1, s1, b1, h1⟩ : ∃ N s' b', rU s false = (N, s', b') := ⟨_, _, _, rfl⟩
  obtain ⟨N2, s2, b2, h2⟩ : ∃ N s' b', rU s1 b1 = (N, s', b') := ⟨_, _, _, rfl⟩
  obtain ⟨N3, s3, b3, h3⟩ : ∃ N s' b', rU s2 b2 = (N, s', b') := ⟨_, _, _, rfl⟩
  obtain ⟨N4, s4, b4, h4⟩ : ∃ N s' b', rU s3 b3 = (N, s', b') := ⟨_, _, _, rfl⟩
  obtain ⟨N5, s5, b5, h5⟩ : ∃ N s' b', rU s4 b4 = (N, s', b') := ⟨_, _, _, rfl⟩
  obtain ⟨N6, s6, b6, h6⟩ : ∃ N s' b', rU s5 b5 = (N, s', b') := ⟨_, _, _, rfl⟩
  obtain ⟨N7, s7, b7, h7⟩ : ∃ N s' b', rU s6 b6 = (N, s', b') := ⟨_, _, _, rfl⟩
  obtain ⟨N8, s8, b8, h8⟩ : ∃ N s' b', rU s7 b7 = (N, s', b') := ⟨_, _, _, rfl⟩
  obtain ⟨N9, s9, b9, h9⟩ : ∃ N s' b', rU s8 b8 = (N, s', b') := ⟨_, _, _, rfl⟩
  have HH : Hid (readH (s, false) = (⟨zag N1, zag N2, zag N3, zag N4, zag N5, zag N6, zag N7, zag N8, zag N9⟩, (s9, b9))) := by
    show _ = _
    unfold readH uI uN
    simp only [h1, h2, h3, h4, h5, h6, h7, h8, h9]
  have hm : s.size ≤ 9223372036854775807 := by omega
  have hz' : decide ((524288 : Int) < (s.size : Int)) = false := by simp; omega
  obtain ⟨base, hbase⟩ : ∃ base, w.heap.size = base := ⟨_, rfl⟩
  obtain ⟨n1, n2, _⟩ := three_new w (.cells #[.int .i64 0, .int .i64 0, .int .i64 0, .int .i64 0, .int .i64 0, .int .i64 0, .int .i64 0, .int .i64 0, .slice none 0 0, .int .i64 0, .int .i64 0, .int .i64 0, .string ⟨#[]⟩, .int .i64 0, .int .i64 0, .int .i64 0, .int .i64 0, .int .u64 0, .int .i64 0, .string ⟨#[]⟩] 30) (.cells #[.string s, .bool false] 93) (.cells #[.int .i64 0, .int .i64 0, .int .i64 0, .int .i64 0, .int .i64 0, .int .i64 0, .int .i64 0, .int .i64 0, .slice none 0 0, .int .i64 0, .int .i64 0, .int .i64 0, .string ⟨#[]⟩, .int .i64 0, .int .i64 0, .int .i64 0, .int .i64 0, .int .u64 0, .int .i64 0, .string ⟨#[]⟩] 30) hbase
  have e2 : ((w.alloc (.cells #[.int .i64 0, .int .i64 0, .int .i64 0, .int .i64 0, .int .i64 0, .int .i64 0, .int .i64 0, .int .i64 0, .slice none 0 0, .int .i64 0, .int .i64 0, .int .i64 0, .string ⟨#[]⟩, .int .i64 0, .int .i64 0, .int .i64 0, .int .i64 0, .int .u64 0, .int .i64 0, .string ⟨#[]⟩] 30)).alloc (.cells #[.string s, .bool false] 93)).heap.size = base + 1 + 1 := by simp [hbase]
  rw [Below.heap_alloc _ _ _ (by rw [e2]; omega)] at n1 n2
  have z0 : MLies ((w.alloc (.cells #[.int .i64 0, .int .i64 0, .int .i64 0, .int .i64 0, .int .i64 0, .int .i64 0, .int .i64 0, .int .i64 0, .slice none 0 0, .int .i64 0, .int .i64 0, .int .i64 0, .string ⟨#[]⟩, .int .i64 0, .int .i64 0, .int .i64 0, .int .i64 0, .int .u64 0, .int .i64 0, .string ⟨#[]⟩] 30)).alloc (.cells #[.string s, .bool false] 93)) base Ms.zero (.slice none 0 0) := n1
  have r0 : Rs ((w.alloc (.cells #[.int .i64 0, .int .i64 0, .int .i64 0, .int .i64 0, .int .i64 0, .int .i64 0, .int .i64 0, .int .i64 0, .slice none 0 0, .int .i64 0, .int .i64 0, .int .i64 0, .string ⟨#[]⟩, .int .i64 0, .int .i64 0, .int .i64 0, .int .i64 0, .int .u64 0, .int .i64 0, .string ⟨#[]⟩] 30)).alloc (.cells #[.string s, .bool false] 93)) (base + 1) s.size s false := ⟨n2, Nat.le_refl _⟩
  have b0 : Below base w ((w.alloc (.cells #[.int .i64 0, .int .i64 0, .int .i64 0, .int .i64 0, .int .i64 0, .int .i64 0, .int .i64 0, .int .i64 0, .slice none 0 0, .int .i64 0, .int .i64 0, .int .i64 0, .string ⟨#[]⟩, .int .i64 0, .int .i64 0, .int .i64 0, .int .i64 0, .int .u64 0, .int .i64 0, .string ⟨#[]⟩] 30)).alloc (.cells #[.string s, .bool false] 93)) := ((Below.refl base w).alloc (by omega) _).alloc (by simp; omega) _
  have qo := of_any s (w.alloc (.cells #[.int .i64 0, .int .i64 0, .int .i64 0, .int .i64 0, .int .i64 0, .int .i64 0, .int .i64 0, .int .i64 0, .slice none 0 0, .int .i64 0, .int .i64 0, .int .i64 0, .string ⟨#[]⟩, .int .i64 0, .int .i64 0, .int .i64 0, .int .i64 0, .int .u64 0, .int .i64 0, .string ⟨#[]⟩] 30))
  have hsz : (w.alloc (.cells #[.int .i64 0, .int .i64 0, .int .i64 0, .int .i64 0, .int .i64 0, .int .i64 0, .int .i64 0, .int .i64 0, .slice none 0 0, .int .i64 0, .int .i64 0, .int .i64 0, .string ⟨#[]⟩, .int .i64 0, .int .i64 0, .int .i64 0, .int .i64 0, .int .u64 0, .int .i64 0, .string ⟨#[]⟩] 30)).heap.size = base + 1 := by simp [hbase]
  rw [hsz] at qo
  clear hsz n1 n2 e2
  rw [hbase]
  have HO : Hid (entsOut N9 (s9, b9) = some (l, sk, bk)) := hN _ _ _ _ HH.out rfl
  obtain ⟨hok, hre, hall, hl4⟩ := out_some HH.out rfl hz HO.out
  have HOK : Hid (okH s) := hok
  have HRR : Hid (readEs (readH (s, false)).1.n.toNat (readH (s, false)).2 = some (l, sk, bk)) := hre
  have HALL : Hid (l.all mayE = true) := hall
  clear hok hre hall hN hz
  obtain ⟨Tc, t1, c1, ht0⟩ : ∃ N s' b', rT sk bk = (N, s', b') := ⟨_, _, _, rfl⟩
  obtain ⟨M1, t2, c2', ht1⟩ : ∃ N s' b', rU t1 c1 = (N, s', b') := ⟨_, _, _, rfl⟩
  obtain ⟨M2, t3, c3', ht2⟩ : ∃ N s' b', rU t2 c2' = (N, s', b') := ⟨_, _, _, rfl⟩
  obtain ⟨M3, t4, c4', ht3⟩ : ∃ N s' b', rU t3 c3' = (N, s', b') := ⟨_, _, _, rfl⟩
  obtain ⟨M4, t5, c5', ht4⟩ : ∃ N s' b', rU t4 c4' = (N, s', b') := ⟨_, _, _, rfl⟩
  obtain ⟨M5, t6, c6', ht5⟩ : ∃ N s' b', rU t5 c5' = (N, s', b') := ⟨_, _, _, rfl⟩
  obtain ⟨Tx, t7, c7', ht6⟩ : ∃ N s' b', rT t6 c6' = (N, s', b') := ⟨_, _, _, rfl⟩
  have HL : Hid (readL (sk, bk) = (⟨Tc, zag M1, zag M2, zag M3, M4, zag M5, Tx⟩, (t7, c7'))) := by
    show _ = _
    unfold readL uI uN uT
    simp only [ht0, ht1, ht2, ht3, ht4, ht5, ht6]
  have hTc : Tc.size ≤ 524288 := by
    have := rT_fst sk bk
    rw [ht0] at this
    exact this
  have qd := decode_any Tc (by omega)

  have hW : mayM (mkM (readH (s, false)).1 l cc (readL (sk, bk)).1) = true := by
    rw [mayM_wit, hM]
    rw [show mayB (mkM (readH (s, false)).1 l cc (readL (sk, bk)).1).c = true from (decC_only hc).1, show (mkM (readH (s, false)).1 l cc (readL (sk, bk)).1).es.all mayE = true from HALL.out]
    rfl
  have HM : Hid (witB (mkM ⟨zag N1, zag N2, zag N3, zag N4, zag N5, zag N6, zag N7, zag N8, zag N9⟩ l cc ⟨Tc, zag M1, zag M2, zag M3, M4, zag M5, Tx⟩) = true) := by
    show _ = _
    rw [HL.out, HH.out] at hM
    exact hM
  have HT : Hid (decMT s = (mkM ⟨zag N1, zag N2, zag N3, zag N4, zag N5, zag N6, zag N7, zag N8, zag N9⟩ l cc ⟨Tc, zag M1, zag M2, zag M3, M4, zag M5, Tx⟩, 0)) := by
    have := decMT_e HOK.out HRR.out hc hD hW
    rw [HL.out, HH.out] at this
    exact this
  rw [HL.out] at hc hD
  simp only at hc hD
  rw [show decT Tc = (cc, 0) by unfold decT; rw [hc]] at qd
  clear hc HL hTc hM hW
  go_enter Try.func10, Try.ntmps10
  go_wp2_with (first
    | (go_at_call 32; refine (qd _).mono ?_; rintro e w6 ⟨rfl, y6⟩; have D6 := D5.below y6; have D7 := D6.alloc (.cells #[.int .i64 cc.kind, .int .i64 cc.session, .int .i64 cc.seq, .string cc.name, .int .i64 cc.n] 25); have q0 : (w6.alloc (.cells #[.int .i64 cc.kind, .int .i64 cc.session, .int .i64 cc.seq, .string cc.name, .int .i64 cc.n] 25)).cell? ⟨w6.heap.size, 0, none⟩ = some (.int .i64 cc.kind) := (by simp); have q1 : (w6.alloc (.cells #[.int .i64 cc.kind, .int .i64 cc.session, .int .i64 cc.seq, .string cc.name, .int .i64 cc.n] 25)).cell? ⟨w6.heap.size, 1, none⟩ = some (.int .i64 cc.session) := (by simp); have q2 : (w6.alloc (.cells #[.int .i64 cc.kind, .int .i64 cc.session, .int .i64 cc.seq, .string cc.name, .int .i64 cc.n] 25)).cell? ⟨w6.heap.size, 2, none⟩ = some (.int .i64 cc.seq) := (by simp); have q3 : (w6.alloc (.cells #[.int .i64 cc.kind, .int .i64 cc.session, .int .i64 cc.seq, .string cc.name, .int .i64 cc.n] 25)).cell? ⟨w6.heap.size, 3, none⟩ = some (.string cc.name) := (by simp); have q4 : (w6.alloc (.cells #[.int .i64 cc.kind, .int .i64 cc.session, .int .i64 cc.seq, .string cc.name, .int .i64 cc.n] 25)).cell? ⟨w6.heap.size, 4, none⟩ = some (.int .i64 cc.n) := (by simp); generalize hu : w6.alloc (.cells #[.int .i64 cc.kind, .int .i64 cc.session, .int .i64 cc.seq, .string cc.name, .int .i64 cc.n] 25) = u at D7 q0 q1 q2 q3 q4; have k8 := D7.cm.box.c8; have j8 := D7.cm.free 8; have k9 := D7.cm.box.c9; have j9 := D7.cm.free 9; have k10 := D7.cm.box.c10; have j10 := D7.cm.free 10; have k11 := D7.cm.box.c11; have j11 := D7.cm.free 11; have k12 := D7.cm.box.c12; have j12 := D7.cm.free 12; have k13 := D7.cm.box.c13; have j13 := D7.cm.free 13)
    | (go_at_call 33; refine (Rs.text hm D4.rd ht0).mono ?_; rintro e w5 ⟨rfl, r5, g5⟩; have D5 := D4.call r5 g5; have e5 : True := trivial)
    | (go_at_call 31; refine (rents_any hm h9 _ r3).mono ?_; rintro e w4 ⟨g4, p4⟩; rw [HO.out] at p4; obtain ⟨v4, rfl, ow4, rd4⟩ := p4; obtain ⟨pv, nv, cv, rfl⟩ := ow4.form; have z4 := z3.far (g4.block _ z3.lt (fun e => by have := Option.some.inj e; omega)); have b4 := b3.grown g4 (Nat.le_of_lt z3.lt) (fun k hk => by have := Option.some.inj hk; omega); have c4 := c3.far (g4.block _ c3.lt (fun e => by have := Option.some.inj e; omega)); have D4 : Dg w base s.size (base + 1) w2.heap.size w3.heap.size w4 sk bk (⟨zag N1, zag N2, zag N3, zag N4, zag N5, zag N6, zag N7, zag N8, [], Cm.zero, 0, 0, 0, 0, 0, ⟨#[]⟩⟩ : Ms) (.slice none 0 0) (.slice pv nv cv) l := ⟨rd4, c4, z4, ow4, rfl, by omega, l3, b4⟩)
    | (go_at_call 30; refine (rhead_any hm h1 h2 h3 h4 h5 h6 h7 h8 _ r0).mono ?_; rintro e w2 ⟨rfl, r2, g2⟩; have z2 := z0.far (g2.block _ z0.lt (fun e => by have := Option.some.inj e; omega)); have b2 := b0.grown g2 (Nat.le_of_lt z0.lt) (fun k hk => by have := Option.some.inj hk; omega); have y2 := (Below.refl _ w2).alloc (Nat.le_refl _) (.cells #[.int .i64 0, .int .i64 0, .int .i64 0, .int .i64 0, .int .i64 0, .int .i64 0, .int .i64 0, .int .i64 0, .slice none 0 0, .int .i64 0, .int .i64 0, .int .i64 0, .string ⟨#[]⟩, .int .i64 0, .int .i64 0, .int .i64 0, .int .i64 0, .int .u64 0, .int .i64 0, .string ⟨#[]⟩] 30); have lR := r2.lt; have c2 : MLies (w2.alloc (.cells #[.int .i64 0, .int .i64 0, .int .i64 0, .int .i64 0, .int .i64 0, .int .i64 0, .int .i64 0, .int .i64 0, .slice none 0 0, .int .i64 0, .int .i64 0, .int .i64 0, .string ⟨#[]⟩, .int .i64 0, .int .i64 0, .int .i64 0, .int .i64 0, .int .u64 0, .int .i64 0, .string ⟨#[]⟩] 30)) w2.heap.size Ms.zero (.slice none 0 0) := heap_alloc_new _ _)
    | (go_at_call 29; refine qo.mono ?_; rintro e w1 ⟨rfl, hw⟩; rw [hw] at z0 r0 b0; clear hw)
    | (show wpList _ _ _ (⟨_, Op.store 30 _ _, _, _, _, _⟩ :: _) _ _; have no := y2; refine store_msg rfl _ _ rfl rfl (by exact c2) none 0 0 (m := (⟨zag N1, zag N2, zag N3, zag N4, zag N5, zag N6, zag N7, zag N8, [], Cm.zero, 0, 0, 0, 0, 0, ⟨#[]⟩⟩ : Ms)) rfl ?_; intro w3 c3 g3; have G3 := grown_new (grown_below y2 none) g3 (Nat.le_refl _); have r3 := r2.far (G3.block _ r2.lt (by simp)); have z3 := z2.far (G3.block _ z2.lt (by simp)); have b3 := b2.grown G3 (Nat.le_of_lt z2.lt) (fun k hk => by cases hk); have l3 := c3.lt; clear y2))
  go_region
  obtain ⟨m9, hm9⟩ : ∃ m : Ms, m = { (⟨zag N1, zag N2, zag N3, zag N4, zag N5, zag N6, zag N7, zag N8, [], Cm.zero, 0, 0, 0, 0, 0, ⟨#[]⟩⟩ : Ms) with c := cc } := ⟨_, rfl⟩
  have D8 := (D7.setC (.slice pv nv cv) cc).drew
  rw [← hm9] at D8
  have H9 : Hid (m9 = { (⟨zag N1, zag N2, zag N3, zag N4, zag N5, zag N6, zag N7, zag N8, [], Cm.zero, 0, 0, 0, 0, 0, ⟨#[]⟩⟩ : Ms) with c := cc }) := hm9
  clear hm9 D7 D6 D5 D4 hu k8 j8 k9 j9 k10 j10 k11 j11 k12 j12 k13 j13 q0 q1 q2 q3 q4 c3 z3 r3 z2 r2 z0 r0 c2 z4 c4 ow4 rd4
  go_wp2_with (first
    | (go_at_call 15; refine (within_any mF _ _ (by exact eF) hFl).mono ?_; rintro e w14 ⟨rfl, y14⟩; have D14 := D12.below y14; have cF14 := cF.below y14)
    | (go_at_call 35; refine (rdone_any _ _ _ _ D12.rd.1).mono ?_; rintro e w13 ⟨rfl, hw⟩; rw [hw] at D12; clear hw; obtain ⟨mF, hmF⟩ : ∃ m : Ms, m = { m11 with es := l } := ⟨_, rfl⟩; have cF : MLies w13 w2.heap.size mF (.slice pv nv cv) := (by rw [hmF]; exact D12.cm); have eF : EntAt w13 (.slice pv nv cv) mF.es := (by rw [hmF]; exact D12.ow.at); have hFe : mF.es = l := (by rw [hmF]); have HF : Hid (mF = mkM ⟨zag N1, zag N2, zag N3, zag N4, zag N5, zag N6, zag N7, zag N8, zag N9⟩ l cc ⟨Tc, zag M1, zag M2, zag M3, M4, zag M5, Tx⟩) := (by show _ = _; rw [hmF, H11.out, H10.out, H9.out]; rfl); have hMF : witB mF = true := (by rw [HF.out]; exact HM.out); have hFl : mF.es.length ≤ 9223372036854775807 := (by rw [hFe]; omega); clear hmF)
    | (go_at_call 33; have no := D10; refine (Rs.text hm D10.rd ht6).mono ?_; rintro e w11 ⟨rfl, r11, g11⟩; have D11 := D10.call r11 g11; have k19 := D11.cm.box.c19; have j19 := D11.cm.free 19; have D12 := D11.set (D11.cm.set19 Tx); obtain ⟨m11, hm11⟩ : ∃ m : Ms, m = { m10 with x := Tx } := ⟨_, rfl⟩; rw [← hm11] at D12; have H11 : Hid (m11 = { m10 with x := Tx }) := hm11; clear hm11)
    | (go_at_call 34; refine (rrep_any hm ht1 ht2 ht3 ht4 ht5 _ D8.rd).mono ?_; rintro e w9 ⟨rfl, r9, g9⟩; have D9 := D8.call r9 g9; have k14 := D9.cm.box.c14; have j14 := D9.cm.free 14; have k15 := D9.cm.box.c15; have j15 := D9.cm.free 15; have k16 := D9.cm.box.c16; have j16 := D9.cm.free 16; have k17 := D9.cm.box.c17; have j17 := D9.cm.free 17; have k18 := D9.cm.box.c18; have j18 := D9.cm.free 18; obtain ⟨m10, hm10⟩ : ∃ m : Ms, m = { m9 with rs := zag M1, rq := zag M2, re := zag M3, tk := M4, rn := zag M5 } := ⟨_, rfl⟩; have D10 := D9.setR (zag M1) (zag M2) (zag M3) M4 (zag M5); rw [← hm10] at D10; have H10 : Hid (m10 = { m9 with rs := zag M1, rq := zag M2, re := zag M3, tk := M4, rn := zag M5 }) := hm10; clear hm10)
    | (show wpList _ _ _ (⟨_, Op.load 30 _, _, _, _, _⟩ :: _) _ _; refine load_msg rfl _ rfl rfl (by first | exact cF14 | exact cF) ?_)
    | (show wpList _ _ _ (⟨_, Op.store 30 _ _, _, _, _, _⟩ :: _) _ _; refine store_msg rfl _ _ rfl rfl (by exact D14.rs) pv nv cv (m := mF) rfl ?_; intro wE hE gE))
  refine bodyPost_ret (results_msg2 Try.results10 _ _ rfl hE) rfl ?_
  rw [HT.out, ← HF.out]
  have hbo := D14.hB
  have hp := D14.hP
  exact ⟨(.slice pv nv cv), rfl, by show EntAt wE _ mF.es; rw [hFe]; exact (D14.ow.keep gE (fun k hk => by have := Option.some.inj hk; omega)).at, D14.bel.grown gE (Nat.le_of_lt D14.rs.lt) (fun k hk => by have := Option.some.inj hk; omega)⟩

end Go.Proofs.Ytmmdcbgmhjheeaa
