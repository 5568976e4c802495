/-
  Package msgs: writeReply, writeEntries. The conditions: the reply's numbers are of 64 bits; there are at most 4096 entries, and what was written is short.
-/
import Derived.Test.YtmmdcbgmhjheeaaGWithin
import Derived.Test.YtmmdcbgmhjheeaaDEnc
namespace Go.Proofs.Ytmmdcbgmhjheeaa
open Go.RowKit


theorem Wr.keep {base B : Nat} {w w' : World} {v : Value} {bs : List UInt8} (h : Wr base w B v bs) (hb : Below w.heap.size w w') : Wr base w' B v bs :=
  ⟨h.1, (hb.block B h.lt).trans h.2.1, h.2.2.kept (grown_below hb none) (by cases v.ownBlock <;> simp)⟩

/-- A writer, and a block beside it that it leaves alone. -/
structure WrK (w : World) (B b : Nat) (v : Value) (bs : List UInt8) : Prop where
  wr : Wr B w B v bs
  lt : b < w.heap.size
  nB : b ≠ B
  nv : v.ownBlock ≠ some b
theorem WrK.step {w w' : World} {B b : Nat} {v v' : Value} {bs bs' : List UInt8} (h : WrK w B b v bs) (hw : Wr B w' B v' bs') (hk : Keep2 B v w w') (ha : After w v v') : WrK w' B b v' bs' :=
  ⟨hw, Nat.lt_of_lt_of_le h.lt hk.size, h.nB, fun e => by
    rcases ha with ha | ⟨g, ha, hg⟩
    · exact h.nv (ha ▸ e)
    · rw [ha] at e
      have := Option.some.inj e
      have := h.lt
      omega⟩
theorem WrK.int {w : World} {B b : Nat} {v : Value} {bs : List UInt8} (n : Int) (h1 : -9223372036854775808 ≤ n) (h2 : n ≤ 9223372036854775807) (hb : bs.length + 10 ≤ 140737488355328) (h : WrK w B b v bs) :
    Calls Try.prog 18 #[.pointer (some ⟨B, 0, none⟩), .int .i64 n] w fun e w' => e = .returned (.tuple #[]) ∧ ∃ v', WrK w' B b v' (bs ++ enc (zig n)) ∧ w'.heap[b]? = w.heap[b]? ∧ Below B w w' :=
  (wint_any B B v bs n h1 h2 w h.wr hb).mono fun _ _ ⟨he, v', hw, hk, ha⟩ => ⟨he, v', h.step hw hk ha, hk.block b h.lt h.nB h.nv, h.wr.below hk⟩
theorem WrK.u64 {w : World} {B b : Nat} {v : Value} {bs : List UInt8} (n : Nat) (h2 : n < 18446744073709551616) (hb : bs.length + 10 ≤ 140737488355328) (h : WrK w B b v bs) :
    Calls Try.prog 48 #[.pointer (some ⟨B, 0, none⟩), .int .u64 n] w fun e w' => e = .returned (.tuple #[]) ∧ ∃ v', WrK w' B b v' (bs ++ enc n) ∧ w'.heap[b]? = w.heap[b]? ∧ Below B w w' :=
  (wu64_any B B v bs n h2 w h.wr hb).mono fun _ _ ⟨he, v', hw, hk, ha⟩ => ⟨he, v', h.step hw hk ha, hk.block b h.lt h.nB h.nv, h.wr.below hk⟩

/-- A reply's block. -/
def RLies (w : World) (b : Nat) (m : Ms) : Prop := w.heap[b]? = some (.cells #[.int .i64 m.rs, .int .i64 m.rq, .int .i64 m.re, .int .u64 m.tk, .int .i64 m.rn] 28 (0, 0))
theorem RLies.far {w w' : World} {b : Nat} {m : Ms} (h : RLies w b m) (hb : w'.heap[b]? = w.heap[b]?) : RLies w' b m := by
  unfold RLies at h ⊢
  rw [hb]
  exact h
theorem RLies.box {w : World} {b : Nat} {m : Ms} (h : RLies w b m) : RBox w b m := by
  unfold RLies at h
  exact ⟨lt_of_block h, by simp [World.cell?, h], by simp [World.cell?, h], by simp [World.cell?, h], by simp [World.cell?, h], by simp [World.cell?, h]⟩

/-- A reply's bytes. -/
def repL (m : Ms) : List UInt8 := enc (zig m.rs) ++ (enc (zig m.rq) ++ (enc (zig m.re) ++ (enc m.tk ++ enc (zig m.rn))))

theorem repB_small {m : Ms} (h : repB m = true) : (0 ≤ m.rs ∧ m.rs ≤ 1073741824) ∧ (0 ≤ m.rq ∧ m.rq ≤ 1073741824) ∧ (0 ≤ m.re ∧ m.re ≤ 255) ∧ (0 ≤ m.rn ∧ m.rn ≤ 1073741824) := by
  unfold repB at h
  simp only [Bool.and_eq_true, inB_iff] at h
  exact h

set_option maxHeartbeats 3200000 in
set_option maxRecDepth 100000 in
theorem wreply_any (m : Ms) (hm : repB m = true) (ht : m.tk < 18446744073709551616) {B : Nat} {v : Value} {bs : List UInt8} (hb : bs.length ≤ 10000000) (w : World) (h : Wr B w B v bs) :
    Calls Try.prog 21 #[.pointer (some ⟨B, 0, none⟩), .agg #[.int .i64 m.rs, .int .i64 m.rq, .int .i64 m.re, .int .u64 m.tk, .int .i64 m.rn]] w fun e w' => e = .returned (.tuple #[]) ∧ ∃ v', Wr B w' B v' (bs ++ repL m) ∧ Below B w w' := by
  obtain ⟨k1, k2, k3, k4⟩ := repB_small hm
  have l1 := enc_len_ten (zig_bound (n := m.rs) (by omega) (by omega))
  have l2 := enc_len_ten (zig_bound (n := m.rq) (by omega) (by omega))
  have l3 := enc_len_ten (zig_bound (n := m.re) (by omega) (by omega))
  have l4 := enc_len_ten ht
  have hB := h.lt
  have r0 : RLies (w.alloc (.cells #[.int .i64 m.rs, .int .i64 m.rq, .int .i64 m.re, .int .u64 m.tk, .int .i64 m.rn] 28)) w.heap.size m := heap_alloc_new _ _
  have ba : Below w.heap.size w (w.alloc (.cells #[.int .i64 m.rs, .int .i64 m.rq, .int .i64 m.re, .int .u64 m.tk, .int .i64 m.rn] 28)) := (Below.refl _ w).alloc (Nat.le_refl _) _
  have s0 : WrK (w.alloc (.cells #[.int .i64 m.rs, .int .i64 m.rq, .int .i64 m.re, .int .u64 m.tk, .int .i64 m.rn] 28)) B w.heap.size v bs :=
    ⟨h.keep ba, by simp, by omega, fun e => by have := h.2.2.lt _ e; omega⟩
  have HL : bs ++ repL m = ((((bs ++ enc (zig m.rs)) ++ enc (zig m.rq)) ++ enc (zig m.re)) ++ enc m.tk) ++ enc (zig m.rn) := by
    unfold repL
    simp
  rw [HL]
  have y1 := fun b v w => @WrK.int w B b v bs m.rs (by omega) (by omega) (by omega)
  have y2 := fun b v w => @WrK.int w B b v (bs ++ enc (zig m.rs)) m.rq (by omega) (by omega) (by simp only [List.length_append]; omega)
  have y3 := fun b v w => @WrK.int w B b v ((bs ++ enc (zig m.rs)) ++ enc (zig m.rq)) m.re (by omega) (by omega) (by simp only [List.length_append]; omega)
  have y4 := fun b v w => @WrK.u64 w B b v (((bs ++ enc (zig m.rs)) ++ enc (zig m.rq)) ++ enc (zig m.re)) m.tk ht (by simp only [List.length_append]; omega)
  have y5 := fun b v w => @WrK.int w B b v ((((bs ++ enc (zig m.rs)) ++ enc (zig m.rq)) ++ enc (zig m.re)) ++ enc m.tk) m.rn (by omega) (by omega) (by simp only [List.length_append]; omega)
  obtain ⟨L1, hL1⟩ : ∃ L, L = bs ++ enc (zig m.rs) := ⟨_, rfl⟩
  rw [← hL1] at y1 y2 y3 y4 y5 ⊢
  obtain ⟨L2, hL2⟩ : ∃ L, L = L1 ++ enc (zig m.rq) := ⟨_, rfl⟩
  rw [← hL2] at y2 y3 y4 y5 ⊢
  obtain ⟨L3, hL3⟩ : ∃ L, L = L2 ++ enc (zig m.re) := ⟨_, rfl⟩
  rw [← hL3] at y3 y4 y5 ⊢
  obtain ⟨L4, hL4⟩ : ∃ L, L = L3 ++ enc m.tk := ⟨_, rfl⟩
  rw [← hL4] at y4 y5 ⊢
  obtain ⟨L5, hL5⟩ : ∃ L, L = L4 ++ enc (zig m.rn) := ⟨_, rfl⟩
  rw [← hL5] at y5 ⊢
  have c0 := r0.box.c0
  clear hL1 hL2 hL3 hL4 hL5 HL l1 l2 l3 l4 k1 k2 k3 k4
  have hb0 := ba.mono (Nat.le_of_lt hB)
  go_enter Try.func21, Try.ntmps21
  go_wp2_with (first
    | (go_at_call 18; have d5 := d4; refine (y5 _ _ _ s4).mono ?_; rintro e w5 ⟨rfl, v5, s5, g5, b5⟩)
    | (go_at_call 48; have d4' := d3; refine (y4 _ _ _ s3).mono ?_; rintro e w4 ⟨rfl, v4, s4, g4, b4⟩; have r4 := r3.far g4; have c4 := r4.box.c4; have d4 : True := trivial)
    | (go_at_call 18; have d3' := d2; refine (y3 _ _ _ s2).mono ?_; rintro e w3 ⟨rfl, v3, s3, g3, b3⟩; have r3 := r2.far g3; have c3 := r3.box.c3; have d3 : True := trivial)
    | (go_at_call 18; have d2' := d1; refine (y2 _ _ _ s1).mono ?_; rintro e w2 ⟨rfl, v2, s2, g2, b2⟩; have r2 := r1.far g2; have c2 := r2.box.c2; have d2 : True := trivial)
    | (go_at_call 18; refine (y1 _ _ _ s0).mono ?_; rintro e w1 ⟨rfl, v1, s1, g1, b1⟩; have r1 := r0.far g1; have c1 := r1.box.c1; have d1 : True := trivial))
  go_returns
  exact ⟨rfl, v5, s5.wr, ((((hb0.trans b1).trans b2).trans b3).trans b4).trans b5⟩

set_option maxHeartbeats 3200000 in
set_option maxRecDepth 100000 in
theorem wents_any (es : List En) (a : Option Addr) (cap : Nat) (hl : es.length ≤ 4096) {B : Nat} {v : Value} {bs : List UInt8} (hb : bs.length ≤ 1000) (w : World) (h : Wr B w B v bs)
    (hE : es.length = 0 ∨ ∃ bk off, a = some ⟨bk, off, none⟩ ∧ bk < B ∧ ∀ j (hj : j < es.length), IsEn w bk (off + j * 7) es[j]) :
    Calls Try.prog 19 #[.pointer (some ⟨B, 0, none⟩), .slice a es.length cap] w fun e w' => e = .returned (.bool (es.all mayE)) ∧ (es.all mayE = true → ∃ v', Wr B w' B v' (bs ++ (enc (zig (es.length : Int)) ++ encEs es))) ∧ Below B w w' := by
  have l1 := enc_len_ten (zig_bound (n := (es.length : Int)) (by omega) (by omega))
  have y1 := @wint_b B v bs w (es.length : Int) (by omega) (by omega) (by omega) h
  obtain ⟨L1, hL1⟩ : ∃ L, L = bs ++ enc (zig (es.length : Int)) := ⟨_, rfl⟩
  have zL : L1.length ≤ 1010 := by rw [hL1, List.length_append]; omega
  rw [← List.append_assoc, ← hL1]
  rw [← hL1] at y1
  have GE : Hid _ := hE
  clear hE hL1 l1 hb
  go_enter Try.func19, Try.ntmps19
  go_wp2_with (go_at_call 18; refine y1.mono ?_; rintro e w1 ⟨rfl, v1, s1, b1⟩)
  go_loopw [15] (fun i wr => ∃ (k : Nat) (v' : Value), k ≤ es.length ∧ i = .int .i64 k ∧ (es.take k).all mayE = true ∧ Wr B wr B v' (L1 ++ encEs (es.take k)) ∧ Below B w wr) (fun i _ => es.length - (intOf i).toNat)
  case atStart => exact ⟨0, v1, Nat.zero_le _, rfl, rfl, by simpa [encEs] using s1, b1⟩
  case round =>
    obtain ⟨k, v2, hk, rfl, hall, s2, b2⟩ := hrel
    by_cases hkl : k < es.length
    · rcases GE.out with h0 | ⟨bk, off, rfl, hbk, hX⟩
      · omega
      obtain ⟨e, he⟩ : ∃ e, e = es[k] := ⟨_, rfl⟩
      have z := (hX k hkl).below hbk b2
      rw [← he] at z

      have z0 := z.c0
      have z1 := z.c1
      have z2 := z.c2
      have z3 := z.c3
      have z4 := z.c4
      have z5 := z.c5
      have z6 := z.c6
      have qe := encodeE_any e.slot e.ballot e.cmd.kind e.cmd.session e.cmd.seq e.cmd.n e.cmd.name
      rw [show (⟨e.slot, e.ballot, ⟨e.cmd.kind, e.cmd.session, e.cmd.seq, e.cmd.name, e.cmd.n⟩⟩ : En) = e from rfl] at qe
      have htk : (es.take (k + 1)).all mayE = ((es.take k).all mayE && mayE e) := by
        rw [List.take_add_one, List.getElem?_eq_getElem hkl, List.all_append, ← he]
        simp
      have HT : Hid ((es.take (k + 1)).all mayE = mayE e) := by
        show _ = _
        rw [htk, hall, Bool.true_and]
      have hin : mayE e = false → es.all mayE = false := fun h => by
        rw [← List.take_append_drop (k + 1) es, List.all_append, HT.out, h, Bool.false_and]
      have HC : Hid (encEs (es.take (k + 1)) = encEs (es.take k) ++ lenText ⟨(encE e).toArray⟩) := by
        show _ = _
        rw [List.take_add_one, List.getElem?_eq_getElem hkl, ← he]
        simp only [Option.toList_some]
        rw [encEs_snoc]
      have zE : (encEs (es.take k)).length ≤ 1024000 := by
        have h1 := encEs_len (es.take k) hall
        rw [List.length_take] at h1
        omega
      have lt2 := s2.lt
      clear hX z he htk hall
      cases hme : mayE e with
      | true =>
        have le := encE_len hme
        rw [show encET e = (⟨(encE e).toArray⟩, 0) by unfold encET; rw [if_pos hme]] at qe
        obtain ⟨E1, hE1⟩ : ∃ A : ByteArray, A = ⟨(encE e).toArray⟩ := ⟨_, rfl⟩
        rw [← hE1] at qe HC
        have zE1 : E1.size ≤ 240 := by rw [hE1, size_list]; exact le
        obtain ⟨L2, hL2⟩ : ∃ L, L = L1 ++ encEs (es.take k) := ⟨_, rfl⟩
        rw [← hL2] at s2
        have y2 := fun v w => @wtext_b B v L2 w E1 (by rw [hL2, List.length_append]; omega)
        have HL : Hid (L2 ++ lenText E1 = L1 ++ encEs (es.take (k + 1))) := by
          show _ = _
          rw [HC.out, hL2, List.append_assoc]
        rw [hme] at HT
        clear hin hme hE1 hL2 HC le zE1 zE zL
        have b3 := (Below.refl _ wr).alloc (Nat.le_refl _) (.cells #[.int .i64 e.slot, .int .i64 e.ballot, .int .i64 e.cmd.kind, .int .i64 e.cmd.session, .int .i64 e.cmd.seq, .string e.cmd.name, .int .i64 e.cmd.n] 57)
        have s3 := s2.keep b3
        go_wp2_with (first
          | (go_at_call 20; refine (y2 _ _ s4).mono ?_; rintro e' w5 ⟨rfl, v5, s5, b5⟩)
          | (go_at_call 50; refine (qe _).mono ?_; rintro e' w4 ⟨rfl, b4⟩; have s4 := s3.keep b4))
        go_roundw
        case rel =>
          refine ⟨k + 1, v5, hkl, by go_num, HT.out, by rw [← HL.out]; exact s5, ?_⟩
          have f3 := bmm b2 (Nat.le_of_lt lt2) b3
          have f4 := bmm f3 (Nat.le_of_lt s3.lt) b4
          exact f4.trans b5
        case measure => simp [intOf]; omega
      | false =>
        rw [show encET e = (⟨#[]⟩, 1) by unfold encET; rw [if_neg (by rw [hme]; simp)]] at qe
        have HF : Hid (es.all mayE = false) := hin hme
        clear hin hme HC HT zE zL
        have b3 := (Below.refl _ wr).alloc (Nat.le_refl _) (.cells #[.int .i64 e.slot, .int .i64 e.ballot, .int .i64 e.cmd.kind, .int .i64 e.cmd.session, .int .i64 e.cmd.seq, .string e.cmd.name, .int .i64 e.cmd.n] 57)
        have s3 := s2.keep b3
        go_wp2_with (first
          | (go_at_call 50; refine (qe _).mono ?_; rintro e' w4 ⟨rfl, b4⟩))
        go_ret
        have f3 := bmm b2 (Nat.le_of_lt lt2) b3
        exact ⟨by rw [HF.out]; rfl, fun h => (by rw [HF.out] at h; cases h), bmm f3 (Nat.le_of_lt s3.lt) b4⟩
    · have hke : k = es.length := by omega
      subst hke
      rw [List.take_length] at hall s2
      go_wp2
      go_ret
      exact ⟨by rw [hall]; rfl, fun _ => ⟨v2, s2⟩, b2⟩
end Go.Proofs.Ytmmdcbgmhjheeaa
