/-
  Which messages may be, by the document's own (package latchkeyref04). No condition but that there are no more entries than a slice may hold.
-/
import Derived.Test.YtmmdcbgmhjheeaaMgVal
import Derived.Test.YtmmdcbgmhjheeaaCmREnc
namespace Go.Proofs.Ytmmdcbgmhjheeaa
open Go.RowKit


theorem mayM_parts {m : Ms} (h : mayM m = true) : (inB m.k 1 15 = true ∧ inB m.f 0 12 = true ∧ inB m.t 0 12 = true ∧ inB m.b 0 1099511627776 = true ∧ inB m.sl (-1) 1099511627776 = true) ∧
    (inB m.ro 0 1099511627776 = true ∧ inB m.se 0 1073741824 = true ∧ inB m.er 0 255 = true ∧ m.es.length ≤ 4096 ∧ mayB m.c = true ∧ m.x.size ≤ 524288) ∧
    (inB m.rs 0 1073741824 = true ∧ inB m.rq 0 1073741824 = true ∧ inB m.re 0 255 = true ∧ inB m.rn 0 1073741824 = true) ∧ m.es.all mayE = true := by
  unfold mayM at h
  simp only [Bool.and_eq_true, decide_eq_true_eq] at h
  exact h

set_option maxHeartbeats 6400000 in
set_option maxRecDepth 100000 in
/-- May a message be, but for the length of its bytes? -/
theorem mmay_any (m : Ms) (v : Value) (w : World) (hv : EntAt w v m.es) (hn : m.es.length ≤ 9223372036854775807) :
    Calls Try.prog 23 #[.agg #[.int .i64 m.k, .int .i64 m.f, .int .i64 m.t, .int .i64 m.b, .int .i64 m.sl, .int .i64 m.ro, .int .i64 m.se, .int .i64 m.er, v, .int .i64 m.c.kind, .int .i64 m.c.session, .int .i64 m.c.seq, .string m.c.name, .int .i64 m.c.n, .int .i64 m.rs, .int .i64 m.rq, .int .i64 m.re, .int .u64 m.tk, .int .i64 m.rn, .string m.x]] w fun e w' => e = .returned (.bool (mayM m)) ∧ Below w.heap.size w w' := by
  have qc := rmay_any m.c.kind m.c.session m.c.seq m.c.n m.c.name
  have ba : Below w.heap.size w (w.alloc (.cells #[.int .i64 m.k, .int .i64 m.f, .int .i64 m.t, .int .i64 m.b, .int .i64 m.sl, .int .i64 m.ro, .int .i64 m.se, .int .i64 m.er, v, .int .i64 m.c.kind, .int .i64 m.c.session, .int .i64 m.c.seq, .string m.c.name, .int .i64 m.c.n, .int .i64 m.rs, .int .i64 m.rq, .int .i64 m.re, .int .u64 m.tk, .int .i64 m.rn, .string m.x] 30)) := (Below.refl _ w).alloc (Nat.le_refl _) _
  have x0 := MBox.fresh w m v
  obtain ⟨a, cap, rfl, hes⟩ := hv.ex
  go_enter Try.func23, Try.ntmps23
  go_wp2_with (first
    | (go_at_call 51; refine (qc _).mono ?_; rintro e w1 ⟨rfl, b1⟩; have x1 := x0.below b1; have l1 := x1.lt; have g0 := x1.c0; have g1 := x1.c1; have g2 := x1.c2; have g3 := x1.c3; have g4 := x1.c4; have g5 := x1.c5; have g6 := x1.c6; have g7 := x1.c7; have g8 := x1.c8; have g9 := x1.c9; have g10 := x1.c10; have g11 := x1.c11; have g12 := x1.c12; have g13 := x1.c13; have g14 := x1.c14; have g15 := x1.c15; have g16 := x1.c16; have g17 := x1.c17; have g18 := x1.c18; have g19 := x1.c19)
    | (go_at_call 37; refine (mwithin_any _ _ _ _).mono ?_; rintro e w2 ⟨rfl, rfl⟩))
  all_goals first
    | (rename_i hl
       go_ret
       refine ⟨endB ⟨fun h => Bool.noConfusion h, fun h => ?_⟩, ?_⟩
       · exfalso
         obtain ⟨⟨p1, p2, p3, p4, p5⟩, ⟨p6, p7, p8, p9, p10, p11⟩, ⟨p12, p13, p14, p15⟩, _⟩ := mayM_parts h
         first
           | exact hl p1 | exact hl p2 | exact hl p3 | exact hl p4 | exact hl p6 | exact hl p7 | exact hl p8 | exact hl p10 | exact hl p12 | exact hl p13 | exact hl p14
           | (rw [p5] at hl; cases hl) | (rw [p15] at hl; cases hl) | omega
       · first | exact ba | exact bmm ba ba.size b1 | (have f := bmm ba ba.size b1; exact f.alloc f.size _))
    | skip
  have HA : Hid (mayM m = m.es.all mayE) := by
    show mayM m = m.es.all mayE
    have o1 : inB m.k 1 15 = true := by assumption
    have o2 : inB m.f 0 12 = true := by assumption
    have o3 : inB m.t 0 12 = true := by assumption
    have o4 : inB m.b 0 1099511627776 = true := by assumption
    have o5 : inB m.sl (-1) 1099511627776 = true := by simpa using (by assumption : (!inB m.sl (-1) 1099511627776) = false)
    have o6 : inB m.ro 0 1099511627776 = true := by assumption
    have o7 : inB m.se 0 1073741824 = true := by assumption
    have o8 : inB m.er 0 255 = true := by assumption
    have o9 : decide (m.es.length ≤ 4096) = true := by simp; omega
    have o10 : mayB m.c = true := by assumption
    have o11 : decide (m.x.size ≤ 524288) = true := by simp; omega
    have o12 : inB m.rs 0 1073741824 = true := by assumption
    have o13 : inB m.rq 0 1073741824 = true := by assumption
    have o14 : inB m.re 0 255 = true := by assumption
    have o15 : inB m.rn 0 1073741824 = true := by simpa using (by assumption : (!inB m.rn 0 1073741824) = false)
    unfold mayM
    rw [o1, o2, o3, o4, o5, o6, o7, o8, o9, o10, o11, o12, o13, o14, o15]
    rfl
  have o5 : inB m.sl (-1) 1099511627776 = true := by simpa using (by assumption : (!inB m.sl (-1) 1099511627776) = false)
  have o15 : inB m.rn 0 1073741824 = true := by simpa using (by assumption : (!inB m.rn 0 1073741824) = false)
  rw [o5, o15]
  have f1 := bmm ba ba.size b1
  have f2 := f1.alloc f1.size (.cells #[.int .i64 m.rs, .int .i64 m.rq, .int .i64 m.re, .int .u64 m.tk, .int .i64 m.rn] 28)
  have x2 := x1.below ((Below.refl _ w1).alloc (Nat.le_refl _) (.cells #[.int .i64 m.rs, .int .i64 m.rq, .int .i64 m.re, .int .u64 m.tk, .int .i64 m.rn] 28))
  obtain ⟨w2, hw2⟩ : ∃ u, u = w1.alloc (.cells #[.int .i64 m.rs, .int .i64 m.rq, .int .i64 m.re, .int .u64 m.tk, .int .i64 m.rn] 28) := ⟨_, rfl⟩
  rw [← hw2] at f2 x2 ⊢
  clear hw2 f1 x1 b1 l1 g0 g1 g2 g3 g4 g5 g6 g7 g8 g9 g10 g11 g12 g13 g14 g15 g16 g17 g18 g19
  have hl4 : m.es.length ≤ 4096 := by omega
  clear ba x0
  rcases hes with h0 | ⟨bk, off, rfl, hbk, hX⟩
  · have hnil : m.es = [] := List.eq_nil_of_length_eq_zero h0
    have c8 := x2.c8
    rw [h0] at c8
    refine wp_loop_rounds 1 ?_
    rw [rounds_succ]
    go_wp2
    go_ret
    exact ⟨by rw [HA.out, hnil]; rfl, f2⟩
  · go_loopw [2, 4] (fun _ i wr => ∃ (k : Nat), k ≤ m.es.length ∧ i = .int .i64 k ∧ (m.es.take k).all mayE = true ∧ Below w2.heap.size w2 wr) (fun _ i _ => m.es.length - (intOf i).toNat)
    case atStart => exact ⟨0, Nat.zero_le _, rfl, rfl, Below.refl _ _⟩
    case round =>
      obtain ⟨k, hk, rfl, hall, hb⟩ := hrel
      have x3 := x2.below hb
      have c8 := x3.c8
      by_cases hkl : k < m.es.length
      · obtain ⟨e, he⟩ : ∃ e, e = m.es[k] := ⟨_, rfl⟩
        have z := ((hX k hkl).below hbk f2).below (Nat.lt_of_lt_of_le hbk (Nat.le_trans (Nat.le_refl _) f2.size)) hb
        rw [← he] at z
        have z0 := z.c0
        have z1 := z.c1
        have z2 := z.c2
        have z3 := z.c3
        have z4 := z.c4
        have z5 := z.c5
        have z6 := z.c6
        have qe := rmayE_any e.slot e.ballot e.cmd.kind e.cmd.session e.cmd.seq e.cmd.n e.cmd.name
        have htk : (m.es.take (k + 1)).all mayE = ((m.es.take k).all mayE && mayE e) := by
          rw [List.take_add_one, List.getElem?_eq_getElem hkl, List.all_append, ← he]
          simp
        have HT : Hid ((m.es.take (k + 1)).all mayE = mayE e) := by
          show _ = _
          rw [htk, hall, Bool.true_and]
        have HL : Hid ((m.es.take k).all mayE = true) := hall
        have hin : mayE e = false → m.es.all mayE = false := fun h => by
          rw [← List.take_append_drop (k + 1) m.es, List.all_append, HT.out, h, Bool.false_and]
        clear hX hv z he htk hall
        cases hme : mayE e with
        | true =>
          rw [show mayE ⟨e.slot, e.ballot, ⟨e.cmd.kind, e.cmd.session, e.cmd.seq, e.cmd.name, e.cmd.n⟩⟩ = true from hme] at qe
          rw [hme] at HT
          clear hin hme
          go_wp2_with (go_at_call 52; refine (qe _).mono ?_; rintro e' w4 ⟨rfl, b4⟩)
          go_roundw
          case rel =>
            refine ⟨_, _, _, _, _, _, _, _, _, _, _, _, _, _, _, _, ?_, rfl⟩
            exact ⟨k + 1, hkl, by go_num, HT.out, bmm hb hb.size b4⟩
          case measure => simp [intOf]; omega
        | false =>
          rw [show mayE ⟨e.slot, e.ballot, ⟨e.cmd.kind, e.cmd.session, e.cmd.seq, e.cmd.name, e.cmd.n⟩⟩ = false from hme] at qe
          have HF : Hid (m.es.all mayE = false) := hin hme
          clear hin hme HT
          go_wp2_with (go_at_call 52; refine (qe _).mono ?_; rintro e' w4 ⟨rfl, b4⟩)
          go_ret
          have f4 := bmm f2 f2.size hb
          exact ⟨by rw [HA.out, HF.out]; rfl, bmm f4 f4.size b4⟩
      · have hke : k = m.es.length := by omega
        subst hke
        go_wp2
        go_ret
        rw [List.take_length] at hall
        exact ⟨by rw [HA.out, hall]; rfl, bmm f2 f2.size hb⟩
end Go.Proofs.Ytmmdcbgmhjheeaa
