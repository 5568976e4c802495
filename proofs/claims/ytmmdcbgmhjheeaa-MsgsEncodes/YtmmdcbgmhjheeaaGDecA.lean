/-
  Package msgs: readHead, readReply, readEntries. The condition: the text is no longer than a text of 64 bits' length.
-/
import Derived.Test.YtmmdcbgmhjheeaaMgOwn
import Derived.Test.YtmmdcbgmhjheeaaMgRead
import Derived.Test.YtmmdcbgmhjheeaaGWithin
import Derived.Test.YtmmdcbgmhjheeaaGEncA
import Derived.Test.YtmmdcbgmhjheeaaDDecE
namespace Go.Proofs.Ytmmdcbgmhjheeaa
open Go.RowKit


theorem grown_new {w w1 w2 : World} {row : Option Nat} {g : Nat} (h : w.grownBy w1 row) (k : w1.grownBy w2 (some g)) (hg : w.heap.size ≤ g) : w.grownBy w2 row :=
  ⟨k.os.trans h.os, k.tape.trans h.tape, k.output.trans h.output, Nat.le_trans h.size k.size, fun i hi hr => (k.block i (Nat.lt_of_lt_of_le hi h.size) (fun e => by have := Option.some.inj e; omega)).trans (h.block i hi hr)⟩
theorem info28 : (Try.prog.info? 28).map (·.size) = some 5 := by kernel_rfl
/-- A reader told by its size too. -/
def Rs (w : World) (R mx : Nat) (s : ByteArray) (b : Bool) : Prop := Rd w R s b ∧ s.size ≤ mx
theorem Rs.int {R mx : Nat} {s s' : ByteArray} {b b' : Bool} {N : Nat} (hm : mx ≤ 9223372036854775807) {w : World} (h : Rs w R mx s b) (hu : rU s b = (N, s', b')) :
    Calls Try.prog 53 #[.pointer (some ⟨R, 0, none⟩)] w fun e w' => e = .returned (.int .i64 (zag N)) ∧ Rs w' R mx s' b' ∧ w.grownBy w' (some R) := by
  have hz := rU_size s b
  have := rint_any R s b (Nat.le_trans h.2 hm) w h.1
  rw [hu] at this hz
  exact this.mono fun e w' ⟨he, hr, hg⟩ => ⟨he, ⟨hr, Nat.le_trans hz h.2⟩, hg⟩
theorem Rs.u64 {R mx : Nat} {s s' : ByteArray} {b b' : Bool} {N : Nat} (hm : mx ≤ 9223372036854775807) {w : World} (h : Rs w R mx s b) (hu : rU s b = (N, s', b')) :
    Calls Try.prog 55 #[.pointer (some ⟨R, 0, none⟩)] w fun e w' => e = .returned (.int .u64 N) ∧ Rs w' R mx s' b' ∧ w.grownBy w' (some R) := by
  have hz := rU_size s b
  have := ru64_any R s b (Nat.le_trans h.2 hm) w h.1
  rw [hu] at this hz
  exact this.mono fun e w' ⟨he, hr, hg⟩ => ⟨he, ⟨hr, Nat.le_trans hz h.2⟩, hg⟩
theorem Rs.text {R mx : Nat} {s s' T : ByteArray} {b b' : Bool} (hm : mx ≤ 9223372036854775807) {w : World} (h : Rs w R mx s b) (hu : rT s b = (T, s', b')) :
    Calls Try.prog 33 #[.pointer (some ⟨R, 0, none⟩)] w fun e w' => e = .returned (.string T) ∧ Rs w' R mx s' b' ∧ w.grownBy w' (some R) := by
  have hz := rT_size s b
  have := rtext_any R s b (Nat.le_trans h.2 hm) w h.1
  rw [hu] at this hz
  exact this.mono fun e w' ⟨he, hr, hg⟩ => ⟨he, ⟨hr, Nat.le_trans hz h.2⟩, hg⟩
theorem Rs.lt {R mx : Nat} {s : ByteArray} {b : Bool} {w : World} (h : Rs w R mx s b) : R < w.heap.size := lt_of_block h.1
theorem Rs.far {R mx : Nat} {s : ByteArray} {b : Bool} {w w' : World} (h : Rs w R mx s b) (hb : w'.heap[R]? = w.heap[R]?) : Rs w' R mx s b := by
  refine ⟨?_, h.2⟩
  have := h.1
  unfold Rd at this ⊢
  rw [hb]
  exact this
theorem Rs.below {R mx : Nat} {s : ByteArray} {b : Bool} {w w' : World} (h : Rs w R mx s b) (hb : Below w.heap.size w w') : Rs w' R mx s b := h.far (hb.block _ h.lt)

/-- Where a reading into a new block stands. -/
structure Dh (w0 : World) (R B mx : Nat) (o : Obj) (w : World) (s : ByteArray) (b : Bool) : Prop where
  rd : Rs w R mx s b
  ob : w.heap[B]? = some o
  gr : w0.grownBy w (some R)
theorem Dh.call {w0 w w' : World} {R B mx : Nat} {o : Obj} {s s' : ByteArray} {b b' : Bool} (h : Dh w0 R B mx o w s b) (hB : B ≠ R) (hr : Rs w' R mx s' b') (hg : w.grownBy w' (some R)) : Dh w0 R B mx o w' s' b' :=
  ⟨hr, (hg.block _ (by rcases Nat.lt_or_ge B w.heap.size with h' | h'
                       · exact h'
                       · have := h.ob; rw [Array.getElem?_eq_none h'] at this; cases this) (fun e => hB (Option.some.inj e))).trans h.ob, grown_trans h.gr hg⟩

set_option maxHeartbeats 6400000 in
set_option maxRecDepth 100000 in
theorem rhead_any {R mx : Nat} {s s1 s2 s3 s4 s5 s6 s7 s8 : ByteArray} {b b1 b2 b3 b4 b5 b6 b7 b8 : Bool} {N1 N2 N3 N4 N5 N6 N7 N8 : Nat} (hm : mx ≤ 9223372036854775807) (h1 : rU s b = (N1, s1, b1)) (h2 : rU s1 b1 = (N2, s2, b2)) (h3 : rU s2 b2 = (N3, s3, b3)) (h4 : rU s3 b3 = (N4, s4, b4)) (h5 : rU s4 b4 = (N5, s5, b5)) (h6 : rU s5 b5 = (N6, s6, b6)) (h7 : rU s6 b6 = (N7, s7, b7)) (h8 : rU s7 b7 = (N8, s8, b8)) (w : World) (h : Rs w R mx s b) :
    Calls Try.prog 30 #[.pointer (some ⟨R, 0, none⟩)] w fun e w' => e = .returned (.agg #[.int .i64 (⟨zag N1, zag N2, zag N3, zag N4, zag N5, zag N6, zag N7, zag N8, [], Cm.zero, 0, 0, 0, 0, 0, ⟨#[]⟩⟩ : Ms).k, .int .i64 (⟨zag N1, zag N2, zag N3, zag N4, zag N5, zag N6, zag N7, zag N8, [], Cm.zero, 0, 0, 0, 0, 0, ⟨#[]⟩⟩ : Ms).f, .int .i64 (⟨zag N1, zag N2, zag N3, zag N4, zag N5, zag N6, zag N7, zag N8, [], Cm.zero, 0, 0, 0, 0, 0, ⟨#[]⟩⟩ : Ms).t, .int .i64 (⟨zag N1, zag N2, zag N3, zag N4, zag N5, zag N6, zag N7, zag N8, [], Cm.zero, 0, 0, 0, 0, 0, ⟨#[]⟩⟩ : Ms).b, .int .i64 (⟨zag N1, zag N2, zag N3, zag N4, zag N5, zag N6, zag N7, zag N8, [], Cm.zero, 0, 0, 0, 0, 0, ⟨#[]⟩⟩ : Ms).sl, .int .i64 (⟨zag N1, zag N2, zag N3, zag N4, zag N5, zag N6, zag N7, zag N8, [], Cm.zero, 0, 0, 0, 0, 0, ⟨#[]⟩⟩ : Ms).ro, .int .i64 (⟨zag N1, zag N2, zag N3, zag N4, zag N5, zag N6, zag N7, zag N8, [], Cm.zero, 0, 0, 0, 0, 0, ⟨#[]⟩⟩ : Ms).se, .int .i64 (⟨zag N1, zag N2, zag N3, zag N4, zag N5, zag N6, zag N7, zag N8, [], Cm.zero, 0, 0, 0, 0, 0, ⟨#[]⟩⟩ : Ms).er, (.slice none 0 0), .int .i64 (⟨zag N1, zag N2, zag N3, zag N4, zag N5, zag N6, zag N7, zag N8, [], Cm.zero, 0, 0, 0, 0, 0, ⟨#[]⟩⟩ : Ms).c.kind, .int .i64 (⟨zag N1, zag N2, zag N3, zag N4, zag N5, zag N6, zag N7, zag N8, [], Cm.zero, 0, 0, 0, 0, 0, ⟨#[]⟩⟩ : Ms).c.session, .int .i64 (⟨zag N1, zag N2, zag N3, zag N4, zag N5, zag N6, zag N7, zag N8, [], Cm.zero, 0, 0, 0, 0, 0, ⟨#[]⟩⟩ : Ms).c.seq, .string (⟨zag N1, zag N2, zag N3, zag N4, zag N5, zag N6, zag N7, zag N8, [], Cm.zero, 0, 0, 0, 0, 0, ⟨#[]⟩⟩ : Ms).c.name, .int .i64 (⟨zag N1, zag N2, zag N3, zag N4, zag N5, zag N6, zag N7, zag N8, [], Cm.zero, 0, 0, 0, 0, 0, ⟨#[]⟩⟩ : Ms).c.n, .int .i64 (⟨zag N1, zag N2, zag N3, zag N4, zag N5, zag N6, zag N7, zag N8, [], Cm.zero, 0, 0, 0, 0, 0, ⟨#[]⟩⟩ : Ms).rs, .int .i64 (⟨zag N1, zag N2, zag N3, zag N4, zag N5, zag N6, zag N7, zag N8, [], Cm.zero, 0, 0, 0, 0, 0, ⟨#[]⟩⟩ : Ms).rq, .int .i64 (⟨zag N1, zag N2, zag N3, zag N4, zag N5, zag N6, zag N7, zag N8, [], Cm.zero, 0, 0, 0, 0, 0, ⟨#[]⟩⟩ : Ms).re, .int .u64 (⟨zag N1, zag N2, zag N3, zag N4, zag N5, zag N6, zag N7, zag N8, [], Cm.zero, 0, 0, 0, 0, 0, ⟨#[]⟩⟩ : Ms).tk, .int .i64 (⟨zag N1, zag N2, zag N3, zag N4, zag N5, zag N6, zag N7, zag N8, [], Cm.zero, 0, 0, 0, 0, 0, ⟨#[]⟩⟩ : Ms).rn, .string (⟨zag N1, zag N2, zag N3, zag N4, zag N5, zag N6, zag N7, zag N8, [], Cm.zero, 0, 0, 0, 0, 0, ⟨#[]⟩⟩ : Ms).x]) ∧ Rs w' R mx s8 b8 ∧ w.grownBy w' (some R) := by
  have hR := h.lt
  have hB : w.heap.size ≠ R := by omega
  have st0 : Dh w R w.heap.size mx (.cells #[.int .i64 0, .int .i64 0, .int .i64 0, .int .i64 0, .int .i64 0, .int .i64 0, .int .i64 0, .int .i64 0, .slice none 0 0, .int .i64 0, .int .i64 0, .int .i64 0, .string ⟨#[]⟩, .int .i64 0, .int .i64 0, .int .i64 0, .int .i64 0, .int .u64 0, .int .i64 0, .string ⟨#[]⟩] 30 (0, 0)) (w.alloc (.cells #[.int .i64 0, .int .i64 0, .int .i64 0, .int .i64 0, .int .i64 0, .int .i64 0, .int .i64 0, .int .i64 0, .slice none 0 0, .int .i64 0, .int .i64 0, .int .i64 0, .string ⟨#[]⟩, .int .i64 0, .int .i64 0, .int .i64 0, .int .i64 0, .int .u64 0, .int .i64 0, .string ⟨#[]⟩] 30)) s b := ⟨h.below ((Below.refl _ w).alloc (Nat.le_refl _) _), heap_alloc_new _ _, World.grownBy_alloc _ _ _⟩
  go_enter Try.func30, Try.ntmps30
  go_wp2_with (first
    | (go_at_call 53; have e8 := d7; refine (Rs.int hm st7.rd h8).mono ?_; rintro e w8 ⟨rfl, r8, g8⟩; have st8 := st7.call hB r8 g8; have d8 : True := trivial)
    | (go_at_call 53; have e7 := d6; refine (Rs.int hm st6.rd h7).mono ?_; rintro e w7 ⟨rfl, r7, g7⟩; have st7 := st6.call hB r7 g7; have d7 : True := trivial)
    | (go_at_call 53; have e6 := d5; refine (Rs.int hm st5.rd h6).mono ?_; rintro e w6 ⟨rfl, r6, g6⟩; have st6 := st5.call hB r6 g6; have d6 : True := trivial)
    | (go_at_call 53; have e5 := d4; refine (Rs.int hm st4.rd h5).mono ?_; rintro e w5 ⟨rfl, r5, g5⟩; have st5 := st4.call hB r5 g5; have d5 : True := trivial)
    | (go_at_call 53; have e4 := d3; refine (Rs.int hm st3.rd h4).mono ?_; rintro e w4 ⟨rfl, r4, g4⟩; have st4 := st3.call hB r4 g4; have d4 : True := trivial)
    | (go_at_call 53; have e3 := d2; refine (Rs.int hm st2.rd h3).mono ?_; rintro e w3 ⟨rfl, r3, g3⟩; have st3 := st2.call hB r3 g3; have d3 : True := trivial)
    | (go_at_call 53; have e2 := d1; refine (Rs.int hm st1.rd h2).mono ?_; rintro e w2 ⟨rfl, r2, g2⟩; have st2 := st1.call hB r2 g2; have d2 : True := trivial)
    | (go_at_call 53; refine (Rs.int hm st0.rd h1).mono ?_; rintro e w1 ⟨rfl, r1, g1⟩; have st1 := st0.call hB r1 g1; have d1 : True := trivial)
    | (show wpList _ _ _ (⟨_, Op.store 30 _ _, _, _, _, _⟩ :: _) _ _; refine store_msg rfl _ _ rfl rfl (m0 := Ms.zero) (v0 := .slice none 0 0) (by exact st8.ob) none 0 0 (m := (⟨zag N1, zag N2, zag N3, zag N4, zag N5, zag N6, zag N7, zag N8, [], Cm.zero, 0, 0, 0, 0, 0, ⟨#[]⟩⟩ : Ms)) rfl ?_; intro wE hE gE))
  refine bodyPost_ret (results_msg Try.results30 _ _ rfl hE) rfl ?_
  exact ⟨rfl, st8.rd.far (gE.block _ st8.rd.lt (fun e => hB (Option.some.inj e).symm)), grown_new st8.gr gE (Nat.le_refl _)⟩

set_option maxHeartbeats 6400000 in
set_option maxRecDepth 100000 in
theorem rrep_any {R mx : Nat} {s s1 s2 s3 s4 s5 : ByteArray} {b b1 b2 b3 b4 b5 : Bool} {N1 N2 N3 N4 N5 : Nat} (hm : mx ≤ 9223372036854775807) (h1 : rU s b = (N1, s1, b1)) (h2 : rU s1 b1 = (N2, s2, b2)) (h3 : rU s2 b2 = (N3, s3, b3)) (h4 : rU s3 b3 = (N4, s4, b4)) (h5 : rU s4 b4 = (N5, s5, b5)) (w : World) (h : Rs w R mx s b) :
    Calls Try.prog 34 #[.pointer (some ⟨R, 0, none⟩)] w fun e w' => e = .returned (.agg #[.int .i64 (zag N1), .int .i64 (zag N2), .int .i64 (zag N3), .int .u64 N4, .int .i64 (zag N5)]) ∧ Rs w' R mx s5 b5 ∧ w.grownBy w' (some R) := by
  have hR := h.lt
  have hB : w.heap.size ≠ R := by omega
  have st0 : Dh w R w.heap.size mx (.cells #[.int .i64 0, .int .i64 0, .int .i64 0, .int .u64 0, .int .i64 0] 28 (0, 0)) (w.alloc (.cells #[.int .i64 0, .int .i64 0, .int .i64 0, .int .u64 0, .int .i64 0] 28)) s b := ⟨h.below ((Below.refl _ w).alloc (Nat.le_refl _) _), heap_alloc_new _ _, World.grownBy_alloc _ _ _⟩
  go_enter Try.func34, Try.ntmps34
  go_wp2_with (first
    | (go_at_call 53; have e5 := d4; refine (Rs.int hm st4.rd h5).mono ?_; rintro e w5 ⟨rfl, r5, g5⟩; have st5 := st4.call hB r5 g5; have d5 : True := trivial)
    | (go_at_call 55; have e4 := d3; refine (Rs.u64 hm st3.rd h4).mono ?_; rintro e w4 ⟨rfl, r4, g4⟩; have st4 := st3.call hB r4 g4; have d4 : True := trivial)
    | (go_at_call 53; have e3 := d2; refine (Rs.int hm st2.rd h3).mono ?_; rintro e w3 ⟨rfl, r3, g3⟩; have st3 := st2.call hB r3 g3; have d3 : True := trivial)
    | (go_at_call 53; have e2 := d1; refine (Rs.int hm st1.rd h2).mono ?_; rintro e w2 ⟨rfl, r2, g2⟩; have st2 := st1.call hB r2 g2; have d2 : True := trivial)
    | (go_at_call 53; refine (Rs.int hm st0.rd h1).mono ?_; rintro e w1 ⟨rfl, r1, g1⟩; have st1 := st0.call hB r1 g1; have d1 : True := trivial)
    | (show wpList _ _ _ (⟨_, Op.store 28 _ _, _, _, _, _⟩ :: _) _ _; refine store_row_any rfl 28 _ _ rfl w.heap.size #[.int .i64 (zag N1), .int .i64 (zag N2), .int .i64 (zag N3), .int .u64 N4, .int .i64 (zag N5)] rfl rfl 28 #[.int .i64 0, .int .i64 0, .int .i64 0, .int .u64 0, .int .i64 0] (by exact st5.ob) info28 rfl (by simp [Value.oneCell']) ?_; intro wE hE gE))
  refine bodyPost_ret (results_cell_row Try.results34 _ _ w.heap.size 28 _ (0, 0) _ rfl hE Try.underlying28 rfl info28) rfl ?_
  exact ⟨rfl, st5.rd.far (gE.block _ st5.rd.lt (fun e => hB (Option.some.inj e).symm)), grown_new st5.gr gE (Nat.le_refl _)⟩

/-- What is read of the count and the entries. -/
def entsOut (N : Nat) (σ : St) : Option (List En × St) := if inB (zag N) 0 4096 = true then readEs (zag N).toNat σ else none
/-- What readEntries answers. -/
def EntsPost (base R mx : Nat) (out : Option (List En × St)) (e : Ending) (w' : World) : Prop :=
  match out with
  | none => e = .returned (.tuple #[.slice none 0 0, .bool false])
  | some p => ∃ v, e = .returned (.tuple #[v, .bool true]) ∧ OwnEs w' base v p.1 ∧ Rs w' R mx p.2.1 p.2.2

set_option maxHeartbeats 6400000 in
set_option maxRecDepth 100000 in
/-- Entries, one by one: none of them, or all. -/
theorem rents_any {R mx : Nat} {s s0 : ByteArray} {b b0 : Bool} {N : Nat} (hm : mx ≤ 9223372036854775807) (h0 : rU s b = (N, s0, b0)) (w : World) (h : Rs w R mx s b) :
    Calls Try.prog 31 #[.pointer (some ⟨R, 0, none⟩)] w fun e w' => w.grownBy w' (some R) ∧ EntsPost w.heap.size R mx (entsOut N (s0, b0)) e w' := by
  have hR := h.lt
  cases hin : inB (zag N) 0 4096 with
  | false =>
    have HO : Hid (entsOut N (s0, b0) = none) := by
      show _ = _
      unfold entsOut
      rw [if_neg (by rw [hin]; simp)]
    go_enter Try.func31, Try.ntmps31
    go_wp2_with (first
      | (go_at_call 46; refine (between_any _ _ _ _).mono ?_; rintro e w2 ⟨rfl, hw⟩; rw [hw] at r1 g1; clear hw)
      | (go_at_call 53; refine (Rs.int hm h h0).mono ?_; rintro e w1 ⟨rfl, r1, g1⟩))
    go_ret2
    refine ⟨g1, ?_⟩
    rw [HO.out]
    exact rfl
  | true =>
    obtain ⟨n, hN⟩ : ∃ n : Nat, zag N = n := ⟨(zag N).toNat, by have := (inB_iff.1 hin).1; omega⟩
    have hn4 : n ≤ 4096 := by have := (inB_iff.1 hin).2; omega
    have HO : Hid (entsOut N (s0, b0) = readEs n (s0, b0)) := by
      show _ = _
      unfold entsOut
      rw [if_pos hin, hN, Int.toNat_natCast]
    rw [hN] at hin
    have y0 := Rs.int hm h h0
    rw [hN] at y0
    clear hN
    go_enter Try.func31, Try.ntmps31
    go_wp2_with (first
      | (go_at_call 46; refine (between_any _ _ _ _).mono ?_; rintro e w2 ⟨rfl, hw⟩; rw [hw] at r1 g1; clear hw)
      | (go_at_call 53; refine y0.mono ?_; rintro e w1 ⟨rfl, r1, g1⟩))
    go_loopw [5, 14] (fun v i wr => ∃ (k : Nat) (sk : ByteArray) (bk : Bool) (es : List En), k ≤ n ∧ i = .int .i64 k ∧ es.length = k ∧ Rs wr R mx sk bk ∧ OwnEs wr w.heap.size v es ∧ w.grownBy wr (some R) ∧ Hid (readEs n (s0, b0) = glue es (readEs (n - k) (sk, bk)))) (fun _ i _ => n - (intOf i).toNat)
    case atStart => exact ⟨0, s0, b0, [], Nat.zero_le _, rfl, rfl, r1, OwnEs.nil _ _, g1, (glue_nil _).symm⟩
    case round =>
      obtain ⟨k, sk, bk, es, hk, rfl, hlen, rd, ow, gr, HG⟩ := hrel
      have hwr := gr.size
      by_cases hkl : k < n
      · obtain ⟨T, s', b', ht⟩ : ∃ N s' b', rT sk bk = (N, s', b') := ⟨_, _, _, rfl⟩
        have hT : T.size ≤ 524288 := by
          have := rT_fst sk bk
          rw [ht] at this
          exact this
        have qe := decodeE_any T (by omega)
        have hu : uT (sk, bk) = (T, s', b') := ht
        cases hd : decE T with
        | some e =>
          have HG2 : Hid (readEs n (s0, b0) = glue (es ++ [e]) (readEs (n - (k + 1)) (s', b'))) := by
            show _ = _
            rw [HG.out, show n - k = (n - (k + 1)) + 1 by omega, glue_step (e := e) (by rw [hu]; exact hd), hu]
          rw [show decET T = (e, 0) by unfold decET; rw [hd]] at qe
          clear HG hd hu hT
          have hl5 : es.length ≤ 5000 := by omega
          go_wp2_with (first
            | (go_at_call 54; refine (qe _).mono ?_; rintro e' w4 ⟨rfl, y4⟩; have y6 := (y4.alloc y4.size (.cells #[.int .i64 e.slot, .int .i64 e.ballot, .int .i64 e.cmd.kind, .int .i64 e.cmd.session, .int .i64 e.cmd.seq, .string e.cmd.name, .int .i64 e.cmd.n] 57)).alloc (Nat.le_trans y4.size (by simp)) (.cells #[.int .i64 e.slot, .int .i64 e.ballot, .int .i64 e.cmd.kind, .int .i64 e.cmd.session, .int .i64 e.cmd.seq, .string e.cmd.name, .int .i64 e.cmd.n] 57); have o6 := o3.below y6; have r6 := r3.below y6; have v6 := grown_trans v3 (grown_below y6 (some R)); have hB : IsEn ((w4.alloc (.cells #[.int .i64 e.slot, .int .i64 e.ballot, .int .i64 e.cmd.kind, .int .i64 e.cmd.session, .int .i64 e.cmd.seq, .string e.cmd.name, .int .i64 e.cmd.n] 57)).alloc (.cells #[.int .i64 e.slot, .int .i64 e.ballot, .int .i64 e.cmd.kind, .int .i64 e.cmd.session, .int .i64 e.cmd.seq, .string e.cmd.name, .int .i64 e.cmd.n] 57)) (w4.heap.size + 1) 0 e := ⟨by simp, by simp, by simp, by simp, by simp, by simp, by simp⟩)
            | (go_at_call 33; refine (Rs.text hm rd ht).mono ?_; rintro e' w3 ⟨rfl, r3, g3⟩; have o3 := ow.keep g3 (fun k hk => by have := Option.some.inj hk; omega); have v3 := grown_trans gr g3)
            | (at_builtin; refine append_ent rfl (.tmp 24) (.tmp 26) rfl rfl rfl (by exact o6) (by exact hB) hl5 (by exact v6.size) ?_; intro g cap w7 ho hg))
          go_roundw
          case rel =>
            have hne : ∀ k, (some k = _) → w.heap.size ≤ k := fun k hk => (World.ownsRow.lt o6 k hk.symm).1
            have r7 := r6.far (hg.block _ r6.lt (fun e => by have := hne R e; omega))
            have v7 : w.grownBy w7 (some R) := ⟨hg.os.trans v6.os, hg.tape.trans v6.tape, hg.output.trans v6.output, Nat.le_trans v6.size hg.size, fun i hi hr => (hg.block i (Nat.lt_of_lt_of_le hi v6.size) (fun e => by have := hne i e; omega)).trans (v6.block i hi hr)⟩
            rw [show (es ++ [e]).length = k + 1 by simp [hlen]] at ho
            exact ⟨k + 1, s', b', es ++ [e], hkl, by go_num, by simp [hlen], r7, ho, v7, HG2⟩
          case measure => simp [intOf]; omega
        | none =>
          have HT : Hid (entsOut N (s0, b0) = none) := by
            show _ = _
            rw [HO.out, HG.out, show n - k = (n - (k + 1)) + 1 by omega, glue_stop (by rw [hu]; exact hd)]
          obtain ⟨e, he⟩ : ∃ e, e = En.zero := ⟨_, rfl⟩
          rw [show decET T = (e, 2) by unfold decET; rw [hd, he]] at qe
          clear HG hd hu hT he
          go_wp2_with (first
            | (go_at_call 54; refine (qe _).mono ?_; rintro e' w4 ⟨rfl, y4⟩; have y5 := y4.alloc y4.size (.cells #[.int .i64 e.slot, .int .i64 e.ballot, .int .i64 e.cmd.kind, .int .i64 e.cmd.session, .int .i64 e.cmd.seq, .string e.cmd.name, .int .i64 e.cmd.n] 57); have v5 := grown_trans v3 (grown_below y5 (some R)))
            | (go_at_call 33; refine (Rs.text hm rd ht).mono ?_; rintro e' w3 ⟨rfl, r3, g3⟩; have v3 := grown_trans gr g3))
          go_ret2
          refine ⟨v5, ?_⟩
          rw [HT.out]
          exact rfl
      · have hke : k = n := by omega
        subst hke
        have HT : Hid (entsOut N (s0, b0) = some (es, sk, bk)) := by
          show _ = _
          rw [HO.out, HG.out, Nat.sub_self, glue_end]
        clear HG
        go_wp2
        go_ret2
        refine ⟨gr, ?_⟩
        rw [HT.out]
        exact ⟨_, rfl, ow, rd⟩
end Go.Proofs.Ytmmdcbgmhjheeaa
