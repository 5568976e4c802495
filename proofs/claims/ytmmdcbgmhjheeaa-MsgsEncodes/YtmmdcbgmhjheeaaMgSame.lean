/-
  Whether two messages are the same, by the document's own (package latchkeyref04). No condition but that there are no more entries than a slice may hold.
-/
import Derived.Test.YtmmdcbgmhjheeaaMgEnts
namespace Go.Proofs.Ytmmdcbgmhjheeaa
open Go.RowKit


/-- Two messages are one just if all is. -/
theorem ms_eq (a b : Ms) : a = b ↔ eqH a b = true ∧ a.es = b.es ∧ eqC a.c b.c = true ∧ eqR a b = true ∧ a.x = b.x := by
  rw [eqC_iff]
  unfold eqH eqR
  simp only [Bool.and_eq_true, beq_iff_eq]
  obtain ⟨k, f, t, b', sl, ro, se, er, es, c, rs, rq, re, tk, rn, x⟩ := a
  obtain ⟨k', f', t', b'', sl', ro', se', er', es', c', rs', rq', re', tk', rn', x'⟩ := b
  simp only [Ms.mk.injEq]
  constructor
  · rintro ⟨rfl, rfl, rfl, rfl, rfl, rfl, rfl, rfl, rfl, rfl, rfl, rfl, rfl, rfl, rfl, rfl⟩
    simp
  · rintro ⟨⟨rfl, rfl, rfl, rfl, rfl, rfl, rfl, rfl⟩, rfl, rfl, ⟨rfl, rfl, rfl, h, rfl⟩, rfl⟩
    simp only [true_and, and_true]
    omega
theorem ms_ne {a b : Ms} {r : Bool} (hr : r = true ↔ a = b) (h : ¬ a = b) : r = false := by
  cases hx : r with
  | false => rfl
  | true => exact absurd (hr.1 hx) h
/-- Two messages, each in a box of its own. -/
theorem MBox.two (w : World) (a b : Ms) (va vb : Value) : MBox ((w.alloc (.cells #[.int .i64 a.k, .int .i64 a.f, .int .i64 a.t, .int .i64 a.b, .int .i64 a.sl, .int .i64 a.ro, .int .i64 a.se, .int .i64 a.er, va, .int .i64 a.c.kind, .int .i64 a.c.session, .int .i64 a.c.seq, .string a.c.name, .int .i64 a.c.n, .int .i64 a.rs, .int .i64 a.rq, .int .i64 a.re, .int .u64 a.tk, .int .i64 a.rn, .string a.x] 30)).alloc (.cells #[.int .i64 b.k, .int .i64 b.f, .int .i64 b.t, .int .i64 b.b, .int .i64 b.sl, .int .i64 b.ro, .int .i64 b.se, .int .i64 b.er, vb, .int .i64 b.c.kind, .int .i64 b.c.session, .int .i64 b.c.seq, .string b.c.name, .int .i64 b.c.n, .int .i64 b.rs, .int .i64 b.rq, .int .i64 b.re, .int .u64 b.tk, .int .i64 b.rn, .string b.x] 30)) w.heap.size a va ∧ MBox ((w.alloc (.cells #[.int .i64 a.k, .int .i64 a.f, .int .i64 a.t, .int .i64 a.b, .int .i64 a.sl, .int .i64 a.ro, .int .i64 a.se, .int .i64 a.er, va, .int .i64 a.c.kind, .int .i64 a.c.session, .int .i64 a.c.seq, .string a.c.name, .int .i64 a.c.n, .int .i64 a.rs, .int .i64 a.rq, .int .i64 a.re, .int .u64 a.tk, .int .i64 a.rn, .string a.x] 30)).alloc (.cells #[.int .i64 b.k, .int .i64 b.f, .int .i64 b.t, .int .i64 b.b, .int .i64 b.sl, .int .i64 b.ro, .int .i64 b.se, .int .i64 b.er, vb, .int .i64 b.c.kind, .int .i64 b.c.session, .int .i64 b.c.seq, .string b.c.name, .int .i64 b.c.n, .int .i64 b.rs, .int .i64 b.rq, .int .i64 b.re, .int .u64 b.tk, .int .i64 b.rn, .string b.x] 30)) (w.heap.size + 1) b vb ∧ Below w.heap.size w ((w.alloc (.cells #[.int .i64 a.k, .int .i64 a.f, .int .i64 a.t, .int .i64 a.b, .int .i64 a.sl, .int .i64 a.ro, .int .i64 a.se, .int .i64 a.er, va, .int .i64 a.c.kind, .int .i64 a.c.session, .int .i64 a.c.seq, .string a.c.name, .int .i64 a.c.n, .int .i64 a.rs, .int .i64 a.rq, .int .i64 a.re, .int .u64 a.tk, .int .i64 a.rn, .string a.x] 30)).alloc (.cells #[.int .i64 b.k, .int .i64 b.f, .int .i64 b.t, .int .i64 b.b, .int .i64 b.sl, .int .i64 b.ro, .int .i64 b.se, .int .i64 b.er, vb, .int .i64 b.c.kind, .int .i64 b.c.session, .int .i64 b.c.seq, .string b.c.name, .int .i64 b.c.n, .int .i64 b.rs, .int .i64 b.rq, .int .i64 b.re, .int .u64 b.tk, .int .i64 b.rn, .string b.x] 30)) := by
  refine ⟨(MBox.fresh w a va).below ((Below.refl _ _).alloc (Nat.le_refl _) _), ?_, ((Below.refl _ w).alloc (Nat.le_refl _) _).alloc (by simp) _⟩
  have := MBox.fresh (w.alloc (.cells #[.int .i64 a.k, .int .i64 a.f, .int .i64 a.t, .int .i64 a.b, .int .i64 a.sl, .int .i64 a.ro, .int .i64 a.se, .int .i64 a.er, va, .int .i64 a.c.kind, .int .i64 a.c.session, .int .i64 a.c.seq, .string a.c.name, .int .i64 a.c.n, .int .i64 a.rs, .int .i64 a.rq, .int .i64 a.re, .int .u64 a.tk, .int .i64 a.rn, .string a.x] 30)) b vb
  rw [World.size_alloc] at this
  exact this

set_option maxHeartbeats 12800000 in
set_option maxRecDepth 100000 in
/-- Same. -/
theorem msame_any (a b : Ms) (va vb : Value) (w : World) (ha : EntAt w va a.es) (hb : EntAt w vb b.es) (hn : a.es.length ≤ 9223372036854775807) (r : Bool) (hr : r = true ↔ a = b) :
    Calls Try.prog 12 #[.agg #[.int .i64 a.k, .int .i64 a.f, .int .i64 a.t, .int .i64 a.b, .int .i64 a.sl, .int .i64 a.ro, .int .i64 a.se, .int .i64 a.er, va, .int .i64 a.c.kind, .int .i64 a.c.session, .int .i64 a.c.seq, .string a.c.name, .int .i64 a.c.n, .int .i64 a.rs, .int .i64 a.rq, .int .i64 a.re, .int .u64 a.tk, .int .i64 a.rn, .string a.x], .agg #[.int .i64 b.k, .int .i64 b.f, .int .i64 b.t, .int .i64 b.b, .int .i64 b.sl, .int .i64 b.ro, .int .i64 b.se, .int .i64 b.er, vb, .int .i64 b.c.kind, .int .i64 b.c.session, .int .i64 b.c.seq, .string b.c.name, .int .i64 b.c.n, .int .i64 b.rs, .int .i64 b.rq, .int .i64 b.re, .int .u64 b.tk, .int .i64 b.rn, .string b.x]] w fun e w' => e = .returned (.bool r) ∧ Below w.heap.size w w' := by
  have GR : Hid (r = true ↔ a = b) := hr
  obtain ⟨xa, xb, b0⟩ := MBox.two w a b va vb
  have ea := ha.below b0
  have eb := hb.below b0
  generalize hw2 : (w.alloc (.cells #[.int .i64 a.k, .int .i64 a.f, .int .i64 a.t, .int .i64 a.b, .int .i64 a.sl, .int .i64 a.ro, .int .i64 a.se, .int .i64 a.er, va, .int .i64 a.c.kind, .int .i64 a.c.session, .int .i64 a.c.seq, .string a.c.name, .int .i64 a.c.n, .int .i64 a.rs, .int .i64 a.rq, .int .i64 a.re, .int .u64 a.tk, .int .i64 a.rn, .string a.x] 30)).alloc (.cells #[.int .i64 b.k, .int .i64 b.f, .int .i64 b.t, .int .i64 b.b, .int .i64 b.sl, .int .i64 b.ro, .int .i64 b.se, .int .i64 b.er, vb, .int .i64 b.c.kind, .int .i64 b.c.session, .int .i64 b.c.seq, .string b.c.name, .int .i64 b.c.n, .int .i64 b.rs, .int .i64 b.rq, .int .i64 b.re, .int .u64 b.tk, .int .i64 b.rn, .string b.x] 30) = w2 at xa xb b0 ea eb
  have la := xa.lt
  have lb := xb.lt
  have a0 := xa.c0
  have a1 := xa.c1
  have a2 := xa.c2
  have a3 := xa.c3
  have a4 := xa.c4
  have a5 := xa.c5
  have a6 := xa.c6
  have a7 := xa.c7
  have a8 := xa.c8
  have a9 := xa.c9
  have a10 := xa.c10
  have a11 := xa.c11
  have a12 := xa.c12
  have a13 := xa.c13
  have a14 := xa.c14
  have a15 := xa.c15
  have a16 := xa.c16
  have a17 := xa.c17
  have a18 := xa.c18
  have a19 := xa.c19
  have b0' := xb.c0
  have b1' := xb.c1
  have b2' := xb.c2
  have b3' := xb.c3
  have b4' := xb.c4
  have b5' := xb.c5
  have b6' := xb.c6
  have b7' := xb.c7
  have b8' := xb.c8
  have b9' := xb.c9
  have b10' := xb.c10
  have b11' := xb.c11
  have b12' := xb.c12
  have b13' := xb.c13
  have b14' := xb.c14
  have b15' := xb.c15
  have b16' := xb.c16
  have b17' := xb.c17
  have b18' := xb.c18
  have b19' := xb.c19
  have qc := cmd_eql a.c b.c
  have qr := rep_eql a b
  clear hr ha hb
  cases h0 : (a.k == b.k) with
  | false =>
    have HF : Hid (r = false) := ms_ne GR.out (fun h => by rw [h] at h0; simp at h0)
    rw [HF.out]
    go_enter Try.func12, Try.ntmps12
    go_wp2
    go_ret
    exact ⟨rfl, b0⟩
  | true =>
    cases h1 : (a.f == b.f) with
    | false =>
      have HF : Hid (r = false) := ms_ne GR.out (fun h => by rw [h] at h1; simp at h1)
      rw [HF.out]
      go_enter Try.func12, Try.ntmps12
      go_wp2
      go_ret
      exact ⟨rfl, b0⟩
    | true =>
      cases h2 : (a.t == b.t) with
      | false =>
        have HF : Hid (r = false) := ms_ne GR.out (fun h => by rw [h] at h2; simp at h2)
        rw [HF.out]
        go_enter Try.func12, Try.ntmps12
        go_wp2
        go_ret
        exact ⟨rfl, b0⟩
      | true =>
        cases h3 : (a.b == b.b) with
        | false =>
          have HF : Hid (r = false) := ms_ne GR.out (fun h => by rw [h] at h3; simp at h3)
          rw [HF.out]
          go_enter Try.func12, Try.ntmps12
          go_wp2
          go_ret
          exact ⟨rfl, b0⟩
        | true =>
          cases h4 : (a.sl == b.sl) with
          | false =>
            have HF : Hid (r = false) := ms_ne GR.out (fun h => by rw [h] at h4; simp at h4)
            rw [HF.out]
            go_enter Try.func12, Try.ntmps12
            go_wp2
            go_ret
            exact ⟨rfl, b0⟩
          | true =>
            cases h5 : (a.ro == b.ro) with
            | false =>
              have HF : Hid (r = false) := ms_ne GR.out (fun h => by rw [h] at h5; simp at h5)
              rw [HF.out]
              go_enter Try.func12, Try.ntmps12
              go_wp2
              go_ret
              exact ⟨rfl, b0⟩
            | true =>
              cases h6 : (a.se == b.se) with
              | false =>
                have HF : Hid (r = false) := ms_ne GR.out (fun h => by rw [h] at h6; simp at h6)
                rw [HF.out]
                go_enter Try.func12, Try.ntmps12
                go_wp2
                go_ret
                exact ⟨rfl, b0⟩
              | true =>
                cases h7 : (a.er == b.er) with
                | false =>
                  have HF : Hid (r = false) := ms_ne GR.out (fun h => by rw [h] at h7; simp at h7)
                  rw [HF.out]
                  go_enter Try.func12, Try.ntmps12
                  go_wp2
                  go_ret
                  exact ⟨rfl, b0⟩
                | true =>
                  have HH : Hid (eqH a b = true) := by
                    show eqH a b = true
                    unfold eqH
                    rw [h0, h1, h2, h3, h4, h5, h6, h7]
                    rfl
                  by_cases hes : a.es = b.es
                  · have HE : Hid (a.es = b.es) := hes
                    clear hes
                    cases hc : eqC a.c b.c with
                    | false =>
                      have HF : Hid (r = false) := ms_ne GR.out (fun h => by rw [h, (eqC_iff _ _).2 rfl] at hc; cases hc)
                      rw [HF.out]
                      rw [hc] at qc
                      go_enter Try.func12, Try.ntmps12
                      go_wp2_with (first | (go_at_call 43; refine (ents_any a.es b.es va vb _ (by exact ea) (by exact eb) hn true (by simp [HE.out])).mono ?_; rintro e w3 ⟨rfl, b3⟩; have ya := xa.below b3; have yb := xb.below b3; have la3 := ya.lt; have lb3 := yb.lt; have y9 := ya.c9; have z9 := yb.c9; have y10 := ya.c10; have z10 := yb.c10; have y11 := ya.c11; have z11 := yb.c11; have y12 := ya.c12; have z12 := yb.c12; have y13 := ya.c13; have z13 := yb.c13; have y14 := ya.c14; have z14 := yb.c14; have y15 := ya.c15; have z15 := yb.c15; have y16 := ya.c16; have z16 := yb.c16; have y17 := ya.c17; have z17 := yb.c17; have y18 := ya.c18; have z18 := yb.c18; have y19 := ya.c19; have z19 := yb.c19))
                      go_ret
                      exact ⟨rfl, bmm b0 b0.size b3⟩
                    | true =>
                      rw [hc] at qc
                      cases hq : eqR a b with
                      | false =>
                        have HF : Hid (r = false) := ms_ne GR.out (fun h => by rw [((ms_eq a b).1 h).2.2.2.1] at hq; cases hq)
                        rw [HF.out]
                        rw [hq] at qr
                        go_enter Try.func12, Try.ntmps12
                        go_wp2_with (first | (go_at_call 43; refine (ents_any a.es b.es va vb _ (by exact ea) (by exact eb) hn true (by simp [HE.out])).mono ?_; rintro e w3 ⟨rfl, b3⟩; have ya := xa.below b3; have yb := xb.below b3; have la3 := ya.lt; have lb3 := yb.lt; have y9 := ya.c9; have z9 := yb.c9; have y10 := ya.c10; have z10 := yb.c10; have y11 := ya.c11; have z11 := yb.c11; have y12 := ya.c12; have z12 := yb.c12; have y13 := ya.c13; have z13 := yb.c13; have y14 := ya.c14; have z14 := yb.c14; have y15 := ya.c15; have z15 := yb.c15; have y16 := ya.c16; have z16 := yb.c16; have y17 := ya.c17; have z17 := yb.c17; have y18 := ya.c18; have z18 := yb.c18; have y19 := ya.c19; have z19 := yb.c19))
                        go_ret
                        exact ⟨rfl, bmm b0 b0.size b3⟩
                      | true =>
                        rw [hq] at qr
                        cases hx : (a.x.toList == b.x.toList) with
                        | false =>
                          have HF : Hid (r = false) := ms_ne GR.out (fun h => by rw [h] at hx; simp at hx)
                          rw [HF.out]
                          go_enter Try.func12, Try.ntmps12
                          go_wp2_with (first | (go_at_call 43; refine (ents_any a.es b.es va vb _ (by exact ea) (by exact eb) hn true (by simp [HE.out])).mono ?_; rintro e w3 ⟨rfl, b3⟩; have ya := xa.below b3; have yb := xb.below b3; have la3 := ya.lt; have lb3 := yb.lt; have y9 := ya.c9; have z9 := yb.c9; have y10 := ya.c10; have z10 := yb.c10; have y11 := ya.c11; have z11 := yb.c11; have y12 := ya.c12; have z12 := yb.c12; have y13 := ya.c13; have z13 := yb.c13; have y14 := ya.c14; have z14 := yb.c14; have y15 := ya.c15; have z15 := yb.c15; have y16 := ya.c16; have z16 := yb.c16; have y17 := ya.c17; have z17 := yb.c17; have y18 := ya.c18; have z18 := yb.c18; have y19 := ya.c19; have z19 := yb.c19))
                          go_ret
                          exact ⟨rfl, bmm b0 b0.size b3⟩
                        | true =>
                          have HT : Hid (r = true) := GR.out.2 ((ms_eq a b).2 ⟨HH.out, HE.out, hc, hq, (toList_beq _ _).1 hx⟩)
                          rw [HT.out]
                          go_enter Try.func12, Try.ntmps12
                          go_wp2_with (first | (go_at_call 43; refine (ents_any a.es b.es va vb _ (by exact ea) (by exact eb) hn true (by simp [HE.out])).mono ?_; rintro e w3 ⟨rfl, b3⟩; have ya := xa.below b3; have yb := xb.below b3; have la3 := ya.lt; have lb3 := yb.lt; have y9 := ya.c9; have z9 := yb.c9; have y10 := ya.c10; have z10 := yb.c10; have y11 := ya.c11; have z11 := yb.c11; have y12 := ya.c12; have z12 := yb.c12; have y13 := ya.c13; have z13 := yb.c13; have y14 := ya.c14; have z14 := yb.c14; have y15 := ya.c15; have z15 := yb.c15; have y16 := ya.c16; have z16 := yb.c16; have y17 := ya.c17; have z17 := yb.c17; have y18 := ya.c18; have z18 := yb.c18; have y19 := ya.c19; have z19 := yb.c19))
                          go_ret
                          exact ⟨rfl, bmm b0 b0.size b3⟩
                  · have HE : Hid (¬ a.es = b.es) := hes
                    clear hes
                    have HF : Hid (r = false) := ms_ne GR.out (fun h => HE.out (by rw [h]))
                    rw [HF.out]
                    go_enter Try.func12, Try.ntmps12
                    go_wp2_with (first | (go_at_call 43; refine (ents_any a.es b.es va vb _ (by exact ea) (by exact eb) hn false (by simp [HE.out])).mono ?_; rintro e w3 ⟨rfl, b3⟩; have ya := xa.below b3; have yb := xb.below b3; have la3 := ya.lt; have lb3 := yb.lt; have y9 := ya.c9; have z9 := yb.c9; have y10 := ya.c10; have z10 := yb.c10; have y11 := ya.c11; have z11 := yb.c11; have y12 := ya.c12; have z12 := yb.c12; have y13 := ya.c13; have z13 := yb.c13; have y14 := ya.c14; have z14 := yb.c14; have y15 := ya.c15; have z15 := yb.c15; have y16 := ya.c16; have z16 := yb.c16; have y17 := ya.c17; have z17 := yb.c17; have y18 := ya.c18; have z18 := yb.c18; have y19 := ya.c19; have z19 := yb.c19))
                    go_ret
                    exact ⟨rfl, bmm b0 b0.size b3⟩
end Go.Proofs.Ytmmdcbgmhjheeaa
