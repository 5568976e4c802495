/-
  Package msgs: Decode: texts that are too long, whose entries or whose command are none. The condition: the text is no longer than a text of 64 bits' length.
-/
import Derived.Test.YtmmdcbgmhjheeaaGDecA
import Derived.Test.YtmmdcbgmhjheeaaMgDecA
namespace Go.Proofs.Ytmmdcbgmhjheeaa
open Go.RowKit


theorem readEs_all (n : Nat) : ∀ (σ τ : St) (l : List En), readEs n σ = some (l, τ) → l.all mayE = true := by
  induction n with
  | zero =>
    intro σ τ l h
    rw [readEs_zero] at h
    simp only [Option.some.injEq, Prod.mk.injEq] at h
    obtain ⟨rfl, _⟩ := h
    rfl
  | succ n ih =>
    intro σ τ l h
    rw [readEs_succ] at h
    obtain ⟨e, l', hd, hr, rfl⟩ := stepE_inv h
    rw [List.all_cons, (decE_only hd).1, ih _ _ _ hr]
    rfl
theorem out_none {s s9 : ByteArray} {b9 : Bool} {N : Nat} {hd : Hd} (HH : readH (s, false) = (hd, (s9, b9))) (hn : hd.n = zag N) (h : entsOut N (s9, b9) = none) : decMT s = (Ms.zero, 2) := by
  by_cases hok : okH s
  · refine decMT_b hok ?_
    rw [HH]
    unfold entsOut at h
    have hi := hok.1
    rw [HH] at hi
    rw [hn] at hi ⊢
    rw [if_pos (inB_iff.2 hi)] at h
    exact h
  · exact decMT_a hok
theorem out_some {s s9 : ByteArray} {b9 : Bool} {N : Nat} {hd : Hd} {l : List En} {τ : St} (HH : readH (s, false) = (hd, (s9, b9))) (hn : hd.n = zag N) (hz : s.size ≤ 524288) (h : entsOut N (s9, b9) = some (l, τ)) :
    okH s ∧ readEs (readH (s, false)).1.n.toNat (readH (s, false)).2 = some (l, τ) ∧ l.all mayE = true ∧ l.length ≤ 4096 := by
  unfold entsOut at h
  by_cases hi : inB (zag N) 0 4096 = true
  · rw [if_pos hi] at h
    have h4 := inB_iff.1 hi
    have hl : l.length ≤ 4096 := by
      have : ∀ (n : Nat) (σ τ : St) (l : List En), readEs n σ = some (l, τ) → l.length = n := by
        intro n
        induction n with
        | zero =>
          intro σ τ l h
          rw [readEs_zero] at h
          simp only [Option.some.injEq, Prod.mk.injEq] at h
          obtain ⟨rfl, _⟩ := h
          rfl
        | succ n ih =>
          intro σ τ l h
          rw [readEs_succ] at h
          obtain ⟨e, l', hd, hr, rfl⟩ := stepE_inv h
          rw [List.length_cons, ih _ _ _ hr]
      rw [this _ _ _ _ h]
      omega
    refine ⟨⟨?_, hz⟩, ?_, readEs_all _ _ _ _ h, hl⟩
    · rw [HH]
      show 0 ≤ hd.n ∧ hd.n ≤ 4096
      rw [hn]
      exact h4
    · rw [HH]
      show readEs hd.n.toNat (s9, b9) = _
      rw [hn]
      exact h
  · rw [if_neg hi] at h
    cases h

/-- Where a decoding stands: the reader, the message so far, the entries, the result, nothing else turned. -/
structure Dg (w0 : World) (base mx R P Bo : Nat) (w : World) (s : ByteArray) (b : Bool) (m : Ms) (v0 v : Value) (es : List En) : Prop where
  rd : Rs w R mx s b
  cm : MLies w P m v0
  rs : MLies w base Ms.zero (.slice none 0 0)
  ow : OwnEs w Bo v es
  hR : R = base + 1
  hP : base + 1 < P
  hB : P < Bo
  bel : Below base w0 w
theorem Dg.call {w0 w w' : World} {base mx R P Bo : Nat} {s s' : ByteArray} {b b' : Bool} {m : Ms} {v0 v : Value} {es : List En} (h : Dg w0 base mx R P Bo w s b m v0 v es) (hr : Rs w' R mx s' b') (hg : w.grownBy w' (some R)) : Dg w0 base mx R P Bo w' s' b' m v0 v es :=
  have h1 := h.hR
  have h2 := h.hP
  have h3 := h.hB
  ⟨hr, h.cm.far (hg.block _ h.cm.lt (fun e => by have := Option.some.inj e; omega)), h.rs.far (hg.block _ h.rs.lt (fun e => by have := Option.some.inj e; omega)), h.ow.keep hg (fun k hk => by have := Option.some.inj hk; omega), h1, h2, h3, h.bel.grown hg (Nat.le_of_lt h.rs.lt) (fun k hk => by have := Option.some.inj hk; omega)⟩
theorem Dg.below {w0 w w' : World} {base mx R P Bo : Nat} {s : ByteArray} {b : Bool} {m : Ms} {v0 v : Value} {es : List En} (h : Dg w0 base mx R P Bo w s b m v0 v es) (hb : Below w.heap.size w w') : Dg w0 base mx R P Bo w' s b m v0 v es :=
  ⟨h.rd.below hb, h.cm.below hb, h.rs.below hb, h.ow.below hb, h.hR, h.hP, h.hB, bmm h.bel (Nat.le_of_lt h.rs.lt) hb⟩
theorem Dg.alloc {w0 w : World} {base mx R P Bo : Nat} {s : ByteArray} {b : Bool} {m : Ms} {v0 v : Value} {es : List En} (h : Dg w0 base mx R P Bo w s b m v0 v es) (ob : Obj) : Dg w0 base mx R P Bo (w.alloc ob) s b m v0 v es := h.below ((Below.refl _ w).alloc (Nat.le_refl _) _)
theorem Dg.set {w0 w : World} {base mx R P Bo i : Nat} {u : Value} {s : ByteArray} {b : Bool} {m m' : Ms} {v0 v0' v : Value} {es : List En} (h : Dg w0 base mx R P Bo w s b m v0 v es) (hc : MLies (w.setCell ⟨P, i, none⟩ u) P m' v0') : Dg w0 base mx R P Bo (w.setCell ⟨P, i, none⟩ u) s b m' v0' v es :=
  have h1 := h.hR
  have h2 := h.hP
  have h3 := h.hB
  ⟨h.rd.far (heap_setCell_other _ _ _ _ (by simp; omega)), hc, h.rs.far (heap_setCell_other _ _ _ _ (by simp; omega)), h.ow.setCell (by simp; omega) _, h1, h2, h3, h.bel.setCell (p := ⟨P, i, none⟩) (by simp; omega) _⟩
theorem Dg.setC {w0 w : World} {base mx R P Bo : Nat} {s : ByteArray} {b : Bool} {m : Ms} {v0 v : Value} {es : List En} (h : Dg w0 base mx R P Bo w s b m v0 v es) (u : Value) (c : Cm) :
    Dg w0 base mx R P Bo ((((((w.setCell ⟨P, 8, none⟩ u).setCell ⟨P, 9, none⟩ (.int .i64 c.kind)).setCell ⟨P, 10, none⟩ (.int .i64 c.session)).setCell ⟨P, 11, none⟩ (.int .i64 c.seq)).setCell ⟨P, 12, none⟩ (.string c.name)).setCell ⟨P, 13, none⟩ (.int .i64 c.n)) s b { m with c := c } u v es :=
  ((((((h.set (h.cm.set8 u)).set ((h.cm.set8 u).set9 c.kind)).set (((h.cm.set8 u).set9 c.kind).set10 c.session)).set ((((h.cm.set8 u).set9 c.kind).set10 c.session).set11 c.seq)).set (((((h.cm.set8 u).set9 c.kind).set10 c.session).set11 c.seq).set12 c.name)).set ((((((h.cm.set8 u).set9 c.kind).set10 c.session).set11 c.seq).set12 c.name).set13 c.n))
theorem Dg.setR {w0 w : World} {base mx R P Bo : Nat} {s : ByteArray} {b : Bool} {m : Ms} {v0 v : Value} {es : List En} (h : Dg w0 base mx R P Bo w s b m v0 v es) (a1 a2 a3 : Int) (a4 : Nat) (a5 : Int) :
    Dg w0 base mx R P Bo (((((w.setCell ⟨P, 14, none⟩ (.int .i64 a1)).setCell ⟨P, 15, none⟩ (.int .i64 a2)).setCell ⟨P, 16, none⟩ (.int .i64 a3)).setCell ⟨P, 17, none⟩ (.int .u64 a4)).setCell ⟨P, 18, none⟩ (.int .i64 a5)) s b { m with rs := a1, rq := a2, re := a3, tk := a4, rn := a5 } v0 v es :=
  (((((h.set (h.cm.set14 a1)).set ((h.cm.set14 a1).set15 a2)).set (((h.cm.set14 a1).set15 a2).set16 a3)).set ((((h.cm.set14 a1).set15 a2).set16 a3).set17 a4)).set (((((h.cm.set14 a1).set15 a2).set16 a3).set17 a4).set18 a5))
theorem Dg.drew {w0 w : World} {base mx R P Bo : Nat} {s : ByteArray} {b : Bool} {m : Ms} {v0 v : Value} {es : List En} (h : Dg w0 base mx R P Bo w s b m v0 v es) : Dg w0 base mx R P Bo w.drew s b m v0 v es := h.below ((Below.refl _ w).drew)

set_option maxHeartbeats 12800000 in
set_option maxRecDepth 100000 in
theorem gdecode_l (s : ByteArray) (w : World) (hz : 524288 < s.size) :
    Calls Try.prog 10 #[.string s] w fun e w' => ∃ v, e = .returned (.tuple #[.agg #[.int .i64 (decMT s).1.k, .int .i64 (decMT s).1.f, .int .i64 (decMT s).1.t, .int .i64 (decMT s).1.b, .int .i64 (decMT s).1.sl, .int .i64 (decMT s).1.ro, .int .i64 (decMT s).1.se, .int .i64 (decMT s).1.er, v, .int .i64 (decMT s).1.c.kind, .int .i64 (decMT s).1.c.session, .int .i64 (decMT s).1.c.seq, .string (decMT s).1.c.name, .int .i64 (decMT s).1.c.n, .int .i64 (decMT s).1.rs, .int .i64 (decMT s).1.rq, .int .i64 (decMT s).1.re, .int .u64 (decMT s).1.tk, .int .i64 (decMT s).1.rn, .string (decMT s).1.x], .int .i64 (decMT s).2]) ∧ EntAt w' v (decMT s).1.es ∧ Below w.heap.size w w' := by
  have HT : Hid (decMT s = (Ms.zero, 2)) := decMT_a (fun h => by have := h.2; omega)
  have hz' : decide ((524288 : Int) < (s.size : Int)) = true := by simp; omega
  clear hz
  have ba : Below w.heap.size w (w.alloc (.cells #[.int .i64 0, .int .i64 0, .int .i64 0, .int .i64 0, .int .i64 0, .int .i64 0, .int .i64 0, .int .i64 0, .slice none 0 0, .int .i64 0, .int .i64 0, .int .i64 0, .string ⟨#[]⟩, .int .i64 0, .int .i64 0, .int .i64 0, .int .i64 0, .int .u64 0, .int .i64 0, .string ⟨#[]⟩] 30)) := (Below.refl _ w).alloc (Nat.le_refl _) _
  have z0 : MLies (w.alloc (.cells #[.int .i64 0, .int .i64 0, .int .i64 0, .int .i64 0, .int .i64 0, .int .i64 0, .int .i64 0, .int .i64 0, .slice none 0 0, .int .i64 0, .int .i64 0, .int .i64 0, .string ⟨#[]⟩, .int .i64 0, .int .i64 0, .int .i64 0, .int .i64 0, .int .u64 0, .int .i64 0, .string ⟨#[]⟩] 30)) w.heap.size Ms.zero (.slice none 0 0) := heap_alloc_new _ _
  go_enter Try.func10, Try.ntmps10
  go_wp2_with (first
    | (show wpList _ _ _ (⟨_, Op.store 30 _ _, _, _, _, _⟩ :: _) _ _; refine store_msg rfl _ _ rfl rfl (by exact z0) none 0 0 (m := Ms.zero) rfl ?_; intro wE hE gE))
  refine bodyPost_ret (results_msg2 Try.results10 _ _ rfl hE) rfl ?_
  rw [HT.out]
  exact ⟨.slice none 0 0, rfl, EntAt.nothing _, ba.grown gE (Nat.le_of_lt z0.lt) (fun k hk => by have := Option.some.inj hk; omega)⟩

set_option maxHeartbeats 12800000 in
set_option maxRecDepth 100000 in
theorem gdecode_e (s : ByteArray) (w : World) (hz : s.size ≤ 524288) (hN : ∀ N s9 b9 hd, readH (s, false) = (hd, (s9, b9)) → hd.n = zag N → entsOut N (s9, b9) = none) :
    Calls Try.prog 10 #[.string s] w fun e w' => ∃ v, e = .returned (.tuple #[.agg #[.int .i64 (decMT s).1.k, .int .i64 (decMT s).1.f, .int .i64 (decMT s).1.t, .int .i64 (decMT s).1.b, .int .i64 (decMT s).1.sl, .int .i64 (decMT s).1.ro, .int .i64 (decMT s).1.se, .int .i64 (decMT s).1.er, v, .int .i64 (decMT s).1.c.kind, .int .i64 (decMT s).1.c.session, .int .i64 (decMT s).1.c.seq, .string (decMT s).1.c.name, .int .i64 (decMT s).1.c.n, .int .i64 (decMT s).1.rs, .int .i64 (decMT s).1.rq, .int .i64 (decMT s).1.re, .int .u64 (decMT s).1.tk, .int .i64 (decMT s).1.rn, .string (decMT s).1.x], .int .i64 (decMT s).2]) ∧ EntAt w' v (decMT s).1.es ∧ Below w.heap.size w w' := by
  obtain ⟨N1, s1, b1, h1⟩ : ∃ N s' b', rU s false = (N, s', b') := ⟨_, _, _, rfl⟩
  obtain ⟨N2, s2, b2, h2⟩ : ∃ N s' b', rU s1 b1 = (N, s', b') := ⟨_, _, _, rfl⟩
  obtain ⟨N3, s3, b3, h3⟩ : ∃ N s' b', rU s2 b2 = (N, s', b') := ⟨_, _, _, rfl⟩
  obtain ⟨N4, s4, b4, h4⟩ : ∃ N s' b', rU s3 b3 = (N, s', b') := ⟨_, _, _, rfl⟩
  obtain ⟨N5, s5, b5, h5⟩ : ∃ N s' b', rU s4 b4 = (N, s', b') := ⟨_, _, _, rfl⟩
  obtain ⟨N6, s6, b6, h6⟩ : ∃ N s' b', rU s5 b5 = (N, s', b') := ⟨_, _, _, rfl⟩
  obtain ⟨N7, s7, b7, h7⟩ : ∃ N s' b', rU s6 b6 = (N, s', b') := ⟨_, _, _, rfl⟩
  obtain ⟨N8, s8, b8, h8⟩ : ∃ N s' b', rU s7 b7 = (N, s', b') := ⟨_, _, _, rfl⟩
  obtain ⟨N9, s9, b9, h9⟩ : ∃ N s' b', rU s8 b8 = (N, s', b') := ⟨_, _, _, rfl⟩
  have HH : Hid (readH (s, false) = (⟨zag N1, zag N2, zag N3, zag N4, zag N5, zag N6, zag N7, zag N8, zag N9⟩, (s9, b9))) := by
    show _ = _
    unfold readH uI uN
    simp only [h1, h2, h3, h4, h5, h6, h7, h8, h9]
  have hm : s.size ≤ 9223372036854775807 := by omega
  have hz' : decide ((524288 : Int) < (s.size : Int)) = false := by simp; omega
  obtain ⟨base, hbase⟩ : ∃ base, w.heap.size = base := ⟨_, rfl⟩
  obtain ⟨n1, n2, _⟩ := three_new w (.cells #[.int .i64 0, .int .i64 0, .int .i64 0, .int .i64 0, .int .i64 0, .int .i64 0, .int .i64 0, .int .i64 0, .slice none 0 0, .int .i64 0, .int .i64 0, .int .i64 0, .string ⟨#[]⟩, .int .i64 0, .int .i64 0, .int .i64 0, .int .i64 0, .int .u64 0, .int .i64 0, .string ⟨#[]⟩] 30) (.cells #[.string s, .bool false] 93) (.cells #[.int .i64 0, .int .i64 0, .int .i64 0, .int .i64 0, .int .i64 0, .int .i64 0, .int .i64 0, .int .i64 0, .slice none 0 0, .int .i64 0, .int .i64 0, .int .i64 0, .string ⟨#[]⟩, .int .i64 0, .int .i64 0, .int .i64 0, .int .i64 0, .int .u64 0, .int .i64 0, .string ⟨#[]⟩] 30) hbase
  have e2 : ((w.alloc (.cells #[.int .i64 0, .int .i64 0, .int .i64 0, .int .i64 0, .int .i64 0, .int .i64 0, .int .i64 0, .int .i64 0, .slice none 0 0, .int .i64 0, .int .i64 0, .int .i64 0, .string ⟨#[]⟩, .int .i64 0, .int .i64 0, .int .i64 0, .int .i64 0, .int .u64 0, .int .i64 0, .string ⟨#[]⟩] 30)).alloc (.cells #[.string s, .bool false] 93)).heap.size = base + 1 + 1 := by simp [hbase]
  rw [Below.heap_alloc _ _ _ (by rw [e2]; omega)] at n1 n2
  have z0 : MLies ((w.alloc (.cells #[.int .i64 0, .int .i64 0, .int .i64 0, .int .i64 0, .int .i64 0, .int .i64 0, .int .i64 0, .int .i64 0, .slice none 0 0, .int .i64 0, .int .i64 0, .int .i64 0, .string ⟨#[]⟩, .int .i64 0, .int .i64 0, .int .i64 0, .int .i64 0, .int .u64 0, .int .i64 0, .string ⟨#[]⟩] 30)).alloc (.cells #[.string s, .bool false] 93)) base Ms.zero (.slice none 0 0) := n1
  have r0 : Rs ((w.alloc (.cells #[.int .i64 0, .int .i64 0, .int .i64 0, .int .i64 0, .int .i64 0, .int .i64 0, .int .i64 0, .int .i64 0, .slice none 0 0, .int .i64 0, .int .i64 0, .int .i64 0, .string ⟨#[]⟩, .int .i64 0, .int .i64 0, .int .i64 0, .int .i64 0, .int .u64 0, .int .i64 0, .string ⟨#[]⟩] 30)).alloc (.cells #[.string s, .bool false] 93)) (base + 1) s.size s false := ⟨n2, Nat.le_refl _⟩
  have b0 : Below base w ((w.alloc (.cells #[.int .i64 0, .int .i64 0, .int .i64 0, .int .i64 0, .int .i64 0, .int .i64 0, .int .i64 0, .int .i64 0, .slice none 0 0, .int .i64 0, .int .i64 0, .int .i64 0, .string ⟨#[]⟩, .int .i64 0, .int .i64 0, .int .i64 0, .int .i64 0, .int .u64 0, .int .i64 0, .string ⟨#[]⟩] 30)).alloc (.cells #[.string s, .bool false] 93)) := ((Below.refl base w).alloc (by omega) _).alloc (by simp; omega) _
  have qo := of_any s (w.alloc (.cells #[.int .i64 0, .int .i64 0, .int .i64 0, .int .i64 0, .int .i64 0, .int .i64 0, .int .i64 0, .int .i64 0, .slice none 0 0, .int .i64 0, .int .i64 0, .int .i64 0, .string ⟨#[]⟩, .int .i64 0, .int .i64 0, .int .i64 0, .int .i64 0, .int .u64 0, .int .i64 0, .string ⟨#[]⟩] 30))
  have hsz : (w.alloc (.cells #[.int .i64 0, .int .i64 0, .int .i64 0, .int .i64 0, .int .i64 0, .int .i64 0, .int .i64 0, .int .i64 0, .slice none 0 0, .int .i64 0, .int .i64 0, .int .i64 0, .string ⟨#[]⟩, .int .i64 0, .int .i64 0, .int .i64 0, .int .i64 0, .int .u64 0, .int .i64 0, .string ⟨#[]⟩] 30)).heap.size = base + 1 := by simp [hbase]
  rw [hsz] at qo
  clear hsz n1 n2 e2
  rw [hbase]

  have HO : Hid (entsOut N9 (s9, b9) = none) := hN _ _ _ _ HH.out rfl
  have HT : Hid (decMT s = (Ms.zero, 2)) := out_none HH.out rfl HO.out
  clear hN hz
  go_enter Try.func10, Try.ntmps10
  go_wp2_with (first
    | (go_at_call 31; refine (rents_any hm h9 _ r3).mono ?_; rintro e w4 ⟨g4, p4⟩; rw [HO.out] at p4; obtain rfl := p4; have z4 := z3.far (g4.block _ z3.lt (fun e => by have := Option.some.inj e; omega)); have b4 := b3.grown g4 (Nat.le_of_lt z3.lt) (fun k hk => by have := Option.some.inj hk; omega))
    | (go_at_call 30; refine (rhead_any hm h1 h2 h3 h4 h5 h6 h7 h8 _ r0).mono ?_; rintro e w2 ⟨rfl, r2, g2⟩; have z2 := z0.far (g2.block _ z0.lt (fun e => by have := Option.some.inj e; omega)); have b2 := b0.grown g2 (Nat.le_of_lt z0.lt) (fun k hk => by have := Option.some.inj hk; omega); have y2 := (Below.refl _ w2).alloc (Nat.le_refl _) (.cells #[.int .i64 0, .int .i64 0, .int .i64 0, .int .i64 0, .int .i64 0, .int .i64 0, .int .i64 0, .int .i64 0, .slice none 0 0, .int .i64 0, .int .i64 0, .int .i64 0, .string ⟨#[]⟩, .int .i64 0, .int .i64 0, .int .i64 0, .int .i64 0, .int .u64 0, .int .i64 0, .string ⟨#[]⟩] 30); have lR := r2.lt; have c2 : MLies (w2.alloc (.cells #[.int .i64 0, .int .i64 0, .int .i64 0, .int .i64 0, .int .i64 0, .int .i64 0, .int .i64 0, .int .i64 0, .slice none 0 0, .int .i64 0, .int .i64 0, .int .i64 0, .string ⟨#[]⟩, .int .i64 0, .int .i64 0, .int .i64 0, .int .i64 0, .int .u64 0, .int .i64 0, .string ⟨#[]⟩] 30)) w2.heap.size Ms.zero (.slice none 0 0) := heap_alloc_new _ _)
    | (go_at_call 29; refine qo.mono ?_; rintro e w1 ⟨rfl, hw⟩; rw [hw] at z0 r0 b0; clear hw)
    | (show wpList _ _ _ (⟨_, Op.store 30 _ _, _, _, _, _⟩ :: _) _ _; have no := y2; refine store_msg rfl _ _ rfl rfl (by exact c2) none 0 0 (m := (⟨zag N1, zag N2, zag N3, zag N4, zag N5, zag N6, zag N7, zag N8, [], Cm.zero, 0, 0, 0, 0, 0, ⟨#[]⟩⟩ : Ms)) rfl ?_; intro w3 c3 g3; have G3 := grown_new (grown_below y2 none) g3 (Nat.le_refl _); have r3 := r2.far (G3.block _ r2.lt (by simp)); have z3 := z2.far (G3.block _ z2.lt (by simp)); have b3 := b2.grown G3 (Nat.le_of_lt z2.lt) (fun k hk => by cases hk); have l3 := c3.lt; clear y2)
    | (show wpList _ _ _ (⟨_, Op.store 30 _ _, _, _, _, _⟩ :: _) _ _; refine store_msg rfl _ _ rfl rfl (by exact z4) none 0 0 (m := Ms.zero) rfl ?_; intro wE hE gE))
  refine bodyPost_ret (results_msg2 Try.results10 _ _ rfl hE) rfl ?_
  rw [HT.out]
  exact ⟨.slice none 0 0, rfl, EntAt.nothing _, b4.grown gE (Nat.le_of_lt z4.lt) (fun k hk => by have := Option.some.inj hk; omega)⟩

set_option maxHeartbeats 12800000 in
set_option maxRecDepth 100000 in
theorem gdecode_c (s : ByteArray) (w : World) {l : List En} {sk : ByteArray} {bk : Bool} (hz : s.size ≤ 524288) (hN : ∀ N s9 b9 hd, readH (s, false) = (hd, (s9, b9)) → hd.n = zag N → entsOut N (s9, b9) = some (l, sk, bk)) (hc : decC (readL (sk, bk)).1.c = none) :
    Calls Try.prog 10 #[.string s] w fun e w' => ∃ v, e = .returned (.tuple #[.agg #[.int .i64 (decMT s).1.k, .int .i64 (decMT s).1.f, .int .i64 (decMT s).1.t, .int .i64 (decMT s).1.b, .int .i64 (decMT s).1.sl, .int .i64 (decMT s).1.ro, .int .i64 (decMT s).1.se, .int .i64 (decMT s).1.er, v, .int .i64 (decMT s).1.c.kind, .int .i64 (decMT s).1.c.session, .int .i64 (decMT s).1.c.seq, .string (decMT s).1.c.name, .int .i64 (decMT s).1.c.n, .int .i64 (decMT s).1.rs, .int .i64 (decMT s).1.rq, .int .i64 (decMT s).1.re, .int .u64 (decMT s).1.tk, .int .i64 (decMT s).1.rn, .string (decMT s).1.x], .int .i64 (decMT s).2]) ∧ EntAt w' v (decMT s).1.es ∧ Below w.heap.size w w' := by
  obtain ⟨N1, s1, b1, h1⟩ : ∃ N s' b', rU s false = (N, s', b') := ⟨_, _, _, rfl⟩
  obtain ⟨N2, s2, b2, h2⟩ : ∃ N s' b', rU s1 b1 = (N, s', b') := ⟨_, _, _, rfl⟩
  obtain ⟨N3, s3, b3, h3⟩ : ∃ N s' b', rU s2 b2 = (N, s', b') := ⟨_, _, _, rfl⟩
  obtain ⟨N4, s4, b4, h4⟩ : ∃ N s' b', rU s3 b3 = (N, s', b') := ⟨_, _, _, rfl⟩
  obtain ⟨N5, s5, b5, h5⟩ : ∃ N s' b', rU s4 b4 = (N, s', b') := ⟨_, _, _, rfl⟩
  obtain ⟨N6, s6, b6, h6⟩ : ∃ N s' b', rU s5 b5 = (N, s', b') := ⟨_, _, _, rfl⟩
  obtain ⟨N7, s7, b7, h7⟩ : ∃ N s' b', rU s6 b6 = (N, s', b') := ⟨_, _, _, rfl⟩
  obtain ⟨N8, s8, b8, h8⟩ : ∃ N s' b', rU s7 b7 = (N, s', b') := ⟨_, _, _, rfl⟩
  obtain ⟨N9, s9, b9, h9⟩ : ∃ N s' b', rU s8 b8 = (N, s', b') := ⟨_, _, _, rfl⟩
  have HH : Hid (readH (s, false) = (⟨zag N1, zag N2, zag N3, zag N4, zag N5, zag N6, zag N7, zag N8, zag N9⟩, (s9, b9))) := by
    show _ = _
    unfold readH uI uN
    simp only [h1, h2, h3, h4, h5, h6, h7, h8, h9]
  have hm : s.size ≤ 9223372036854775807 := by omega
  have hz' : decide ((524288 : Int) < (s.size : Int)) = false := by simp; omega
  obtain ⟨base, hbase⟩ : ∃ base, w.heap.size = base := ⟨_, rfl⟩
  obtain ⟨n1, n2, _⟩ := three_new w (.cells #[.int .i64 0, .int .i64 0, .int .i64 0, .int .i64 0, .int .i64 0, .int .i64 0, .int .i64 0, .int .i64 0, .slice none 0 0, .int .i64 0, .int .i64 0, .int .i64 0, .string ⟨#[]⟩, .int .i64 0, .int .i64 0, .int .i64 0, .int .i64 0, .int .u64 0, .int .i64 0, .string ⟨#[]⟩] 30) (.cells #[.string s, .bool false] 93) (.cells #[.int .i64 0, .int .i64 0, .int .i64 0, .int .i64 0, .int .i64 0, .int .i64 0, .int .i64 0, .int .i64 0, .slice none 0 0, .int .i64 0, .int .i64 0, .int .i64 0, .string ⟨#[]⟩, .int .i64 0, .int .i64 0, .int .i64 0, .int .i64 0, .int .u64 0, .int .i64 0, .string ⟨#[]⟩] 30) hbase
  have e2 : ((w.alloc (.cells #[.int .i64 0, .int .i64 0, .int .i64 0, .int .i64 0, .int .i64 0, .int .i64 0, .int .i64 0, .int .i64 0, .slice none 0 0, .int .i64 0, .int .i64 0, .int .i64 0, .string ⟨#[]⟩, .int .i64 0, .int .i64 0, .int .i64 0, .int .i64 0, .int .u64 0, .int .i64 0, .string ⟨#[]⟩] 30)).alloc (.cells #[.string s, .bool false] 93)).heap.size = base + 1 + 1 := by simp [hbase]
  rw [Below.heap_alloc _ _ _ (by rw [e2]; omega)] at n1 n2
  have z0 : MLies ((w.alloc (.cells #[.int .i64 0, .int .i64 0, .int .i64 0, .int .i64 0, .int .i64 0, .int .i64 0, .int .i64 0, .int .i64 0, .slice none 0 0, .int .i64 0, .int .i64 0, .int .i64 0, .string ⟨#[]⟩, .int .i64 0, .int .i64 0, .int .i64 0, .int .i64 0, .int .u64 0, .int .i64 0, .string ⟨#[]⟩] 30)).alloc (.cells #[.string s, .bool false] 93)) base Ms.zero (.slice none 0 0) := n1
  have r0 : Rs ((w.alloc (.cells #[.int .i64 0, .int .i64 0, .int .i64 0, .int .i64 0, .int .i64 0, .int .i64 0, .int .i64 0, .int .i64 0, .slice none 0 0, .int .i64 0, .int .i64 0, .int .i64 0, .string ⟨#[]⟩, .int .i64 0, .int .i64 0, .int .i64 0, .int .i64 0, .int .u64 0, .int .i64 0, .string ⟨#[]⟩] 30)).alloc (.cells #[.string s, .bool false] 93)) (base + 1) s.size s false := ⟨n2, Nat.le_refl _⟩
  have b0 : Below base w ((w.alloc (.cells #[.int .i64 0, .int .i64 0, .int .i64 0, .int .i64 0, .int .i64 0, .int .i64 0, .int .i64 0, .int .i64 0, .slice none 0 0, .int .i64 0, .int .i64 0, .int .i64 0, .string ⟨#[]⟩, .int .i64 0, .int .i64 0, .int .i64 0, .int .i64 0, .int .u64 0, .int .i64 0, .string ⟨#[]⟩] 30)).alloc (.cells #[.string s, .bool false] 93)) := ((Below.refl base w).alloc (by omega) _).alloc (by simp; omega) _
  have qo := of_any s (w.alloc (.cells #[.int .i64 0, .int .i64 0, .int .i64 0, .int .i64 0, .int .i64 0, .int .i64 0, .int .i64 0, .int .i64 0, .slice none 0 0, .int .i64 0, .int .i64 0, .int .i64 0, .string ⟨#[]⟩, .int .i64 0, .int .i64 0, .int .i64 0, .int .i64 0, .int .u64 0, .int .i64 0, .string ⟨#[]⟩] 30))
  have hsz : (w.alloc (.cells #[.int .i64 0, .int .i64 0, .int .i64 0, .int .i64 0, .int .i64 0, .int .i64 0, .int .i64 0, .int .i64 0, .slice none 0 0, .int .i64 0, .int .i64 0, .int .i64 0, .string ⟨#[]⟩, .int .i64 0, .int .i64 0, .int .i64 0, .int .i64 0, .int .u64 0, .int .i64 0, .string ⟨#[]⟩] 30)).heap.size = base + 1 := by simp [hbase]
  rw [hsz] at qo
  clear hsz n1 n2 e2
  rw [hbase]
  have HO : Hid (entsOut N9 (s9, b9) = some (l, sk, bk)) := hN _ _ _ _ HH.out rfl
  obtain ⟨hok, hre, hall, hl4⟩ := out_some HH.out rfl hz HO.out
  have HOK : Hid (okH s) := hok
  have HRR : Hid (readEs (readH (s, false)).1.n.toNat (readH (s, false)).2 = some (l, sk, bk)) := hre
  have HALL : Hid (l.all mayE = true) := hall
  clear hok hre hall hN hz
  obtain ⟨Tc, t1, c1, ht0⟩ : ∃ N s' b', rT sk bk = (N, s', b') := ⟨_, _, _, rfl⟩
  obtain ⟨M1, t2, c2', ht1⟩ : ∃ N s' b', rU t1 c1 = (N, s', b') := ⟨_, _, _, rfl⟩
  obtain ⟨M2, t3, c3', ht2⟩ : ∃ N s' b', rU t2 c2' = (N, s', b') := ⟨_, _, _, rfl⟩
  obtain ⟨M3, t4, c4', ht3⟩ : ∃ N s' b', rU t3 c3' = (N, s', b') := ⟨_, _, _, rfl⟩
  obtain ⟨M4, t5, c5', ht4⟩ : ∃ N s' b', rU t4 c4' = (N, s', b') := ⟨_, _, _, rfl⟩
  obtain ⟨M5, t6, c6', ht5⟩ : ∃ N s' b', rU t5 c5' = (N, s', b') := ⟨_, _, _, rfl⟩
  obtain ⟨Tx, t7, c7', ht6⟩ : ∃ N s' b', rT t6 c6' = (N, s', b') := ⟨_, _, _, rfl⟩
  have HL : Hid (readL (sk, bk) = (⟨Tc, zag M1, zag M2, zag M3, M4, zag M5, Tx⟩, (t7, c7'))) := by
    show _ = _
    unfold readL uI uN uT
    simp only [ht0, ht1, ht2, ht3, ht4, ht5, ht6]
  have hTc : Tc.size ≤ 524288 := by
    have := rT_fst sk bk
    rw [ht0] at this
    exact this
  have qd := decode_any Tc (by omega)

  have HT : Hid (decMT s = (Ms.zero, 2)) := decMT_c HOK.out HRR.out hc
  rw [HL.out] at hc
  simp only at hc
  obtain ⟨cc, hcc⟩ : ∃ c, c = Cm.zero := ⟨_, rfl⟩
  rw [show decT Tc = (cc, 2) by unfold decT; rw [hc, hcc]] at qd
  clear hc hcc HL hTc
  go_enter Try.func10, Try.ntmps10
  go_wp2_with (first
    | (go_at_call 32; refine (qd _).mono ?_; rintro e w6 ⟨rfl, y6⟩; have D6 := D5.below y6; have D7 := D6.alloc (.cells #[.int .i64 cc.kind, .int .i64 cc.session, .int .i64 cc.seq, .string cc.name, .int .i64 cc.n] 25))
    | (go_at_call 33; refine (Rs.text hm D4.rd ht0).mono ?_; rintro e w5 ⟨rfl, r5, g5⟩; have D5 := D4.call r5 g5; have e5 : True := trivial)
    | (go_at_call 31; refine (rents_any hm h9 _ r3).mono ?_; rintro e w4 ⟨g4, p4⟩; rw [HO.out] at p4; obtain ⟨v4, rfl, ow4, rd4⟩ := p4; obtain ⟨pv, nv, cv, rfl⟩ := ow4.form; have z4 := z3.far (g4.block _ z3.lt (fun e => by have := Option.some.inj e; omega)); have b4 := b3.grown g4 (Nat.le_of_lt z3.lt) (fun k hk => by have := Option.some.inj hk; omega); have c4 := c3.far (g4.block _ c3.lt (fun e => by have := Option.some.inj e; omega)); have D4 : Dg w base s.size (base + 1) w2.heap.size w3.heap.size w4 sk bk (⟨zag N1, zag N2, zag N3, zag N4, zag N5, zag N6, zag N7, zag N8, [], Cm.zero, 0, 0, 0, 0, 0, ⟨#[]⟩⟩ : Ms) (.slice none 0 0) (.slice pv nv cv) l := ⟨rd4, c4, z4, ow4, rfl, by omega, l3, b4⟩)
    | (go_at_call 30; refine (rhead_any hm h1 h2 h3 h4 h5 h6 h7 h8 _ r0).mono ?_; rintro e w2 ⟨rfl, r2, g2⟩; have z2 := z0.far (g2.block _ z0.lt (fun e => by have := Option.some.inj e; omega)); have b2 := b0.grown g2 (Nat.le_of_lt z0.lt) (fun k hk => by have := Option.some.inj hk; omega); have y2 := (Below.refl _ w2).alloc (Nat.le_refl _) (.cells #[.int .i64 0, .int .i64 0, .int .i64 0, .int .i64 0, .int .i64 0, .int .i64 0, .int .i64 0, .int .i64 0, .slice none 0 0, .int .i64 0, .int .i64 0, .int .i64 0, .string ⟨#[]⟩, .int .i64 0, .int .i64 0, .int .i64 0, .int .i64 0, .int .u64 0, .int .i64 0, .string ⟨#[]⟩] 30); have lR := r2.lt; have c2 : MLies (w2.alloc (.cells #[.int .i64 0, .int .i64 0, .int .i64 0, .int .i64 0, .int .i64 0, .int .i64 0, .int .i64 0, .int .i64 0, .slice none 0 0, .int .i64 0, .int .i64 0, .int .i64 0, .string ⟨#[]⟩, .int .i64 0, .int .i64 0, .int .i64 0, .int .i64 0, .int .u64 0, .int .i64 0, .string ⟨#[]⟩] 30)) w2.heap.size Ms.zero (.slice none 0 0) := heap_alloc_new _ _)
    | (go_at_call 29; refine qo.mono ?_; rintro e w1 ⟨rfl, hw⟩; rw [hw] at z0 r0 b0; clear hw)
    | (show wpList _ _ _ (⟨_, Op.store 30 _ _, _, _, _, _⟩ :: _) _ _; have no := y2; refine store_msg rfl _ _ rfl rfl (by exact c2) none 0 0 (m := (⟨zag N1, zag N2, zag N3, zag N4, zag N5, zag N6, zag N7, zag N8, [], Cm.zero, 0, 0, 0, 0, 0, ⟨#[]⟩⟩ : Ms)) rfl ?_; intro w3 c3 g3; have G3 := grown_new (grown_below y2 none) g3 (Nat.le_refl _); have r3 := r2.far (G3.block _ r2.lt (by simp)); have z3 := z2.far (G3.block _ z2.lt (by simp)); have b3 := b2.grown G3 (Nat.le_of_lt z2.lt) (fun k hk => by cases hk); have l3 := c3.lt; clear y2)
    | (show wpList _ _ _ (⟨_, Op.store 30 _ _, _, _, _, _⟩ :: _) _ _; refine store_msg rfl _ _ rfl rfl (by exact D7.rs) none 0 0 (m := Ms.zero) rfl ?_; intro wE hE gE))
  refine bodyPost_ret (results_msg2 Try.results10 _ _ rfl hE) rfl ?_
  rw [HT.out]
  exact ⟨.slice none 0 0, rfl, EntAt.nothing _, D7.bel.grown gE (Nat.le_of_lt D7.rs.lt) (fun k hk => by have := Option.some.inj hk; omega)⟩
end Go.Proofs.Ytmmdcbgmhjheeaa
