/-
  Package msgs: Encode, for every message: its bytes or the error. The conditions: its token is of 64 bits, there are no more entries than a slice may hold.
-/
import Derived.Test.YtmmdcbgmhjheeaaGEncB
namespace Go.Proofs.Ytmmdcbgmhjheeaa
open Go.RowKit


theorem witB_small {m : Ms} (h : witB m = true) : ((1 ≤ m.k ∧ m.k ≤ 15) ∧ (0 ≤ m.f ∧ m.f ≤ 12) ∧ (0 ≤ m.t ∧ m.t ≤ 12) ∧ (0 ≤ m.b ∧ m.b ≤ 1099511627776) ∧ (-1 ≤ m.sl ∧ m.sl ≤ 1099511627776) ∧ (0 ≤ m.ro ∧ m.ro ≤ 1099511627776) ∧ (0 ≤ m.se ∧ m.se ≤ 1073741824) ∧ (0 ≤ m.er ∧ m.er ≤ 255)) ∧ m.es.length ≤ 4096 ∧ repB m = true ∧ m.x.size ≤ 524288 := by
  unfold witB at h
  simp only [Bool.and_eq_true, inB_iff, decide_eq_true_eq] at h
  obtain ⟨h1, h2, h3, h4, h5, h6, h7, h8, h9, h10, h11⟩ := h
  exact ⟨⟨h1, h2, h3, h4, h5, h6, h7, h8⟩, h9, h10, h11⟩
/-- The eight numbers' bytes, one behind the other. -/
def headL (m : Ms) : List UInt8 := (((((((([] ++ enc (zig m.k)) ++ enc (zig m.f)) ++ enc (zig m.t)) ++ enc (zig m.b)) ++ enc (zig m.sl)) ++ enc (zig m.ro)) ++ enc (zig m.se)) ++ enc (zig m.er))

theorem encM_left (m : Ms) : encM m = ((((headL m ++ (enc (zig (m.es.length : Int)) ++ encEs m.es)) ++ lenText ⟨(encC m.c).toArray⟩) ++ repL m) ++ lenText m.x) := by
  unfold encM encH encR headL repL
  simp only [List.nil_append, List.append_assoc]

set_option maxHeartbeats 12800000 in
set_option maxRecDepth 100000 in
theorem gencode_e (m : Ms) (v : Value) (w : World) (hv : EntAt w v m.es) (hn : m.es.length ≤ 9223372036854775807) (hc : mayB m.c = true) (hm : witB m = true) (hall : m.es.all mayE = false) :
    Calls Try.prog 7 #[.agg #[.int .i64 m.k, .int .i64 m.f, .int .i64 m.t, .int .i64 m.b, .int .i64 m.sl, .int .i64 m.ro, .int .i64 m.se, .int .i64 m.er, v, .int .i64 m.c.kind, .int .i64 m.c.session, .int .i64 m.c.seq, .string m.c.name, .int .i64 m.c.n, .int .i64 m.rs, .int .i64 m.rq, .int .i64 m.re, .int .u64 m.tk, .int .i64 m.rn, .string m.x]] w fun e w' => e = .returned (.tuple #[.string ⟨#[]⟩, .int .i64 1]) ∧ Below w.heap.size w w' := by
  have ba : Below w.heap.size w (w.alloc (.cells #[.int .i64 m.k, .int .i64 m.f, .int .i64 m.t, .int .i64 m.b, .int .i64 m.sl, .int .i64 m.ro, .int .i64 m.se, .int .i64 m.er, v, .int .i64 m.c.kind, .int .i64 m.c.session, .int .i64 m.c.seq, .string m.c.name, .int .i64 m.c.n, .int .i64 m.rs, .int .i64 m.rq, .int .i64 m.re, .int .u64 m.tk, .int .i64 m.rn, .string m.x] 30)) := (Below.refl _ w).alloc (Nat.le_refl _) _
  have x0 := MLies.fresh w m v
  have j0 := hv.below ba
  have qc := encode_any m.c.kind m.c.session m.c.seq m.c.n m.c.name
  rw [show (⟨m.c.kind, m.c.session, m.c.seq, m.c.name, m.c.n⟩ : Cm) = m.c from rfl, show encT m.c = (⟨(encC m.c).toArray⟩, 0) by unfold encT; rw [if_pos hc]] at qc
  have lc := encC_len hc
  obtain ⟨C, hC⟩ : ∃ A : ByteArray, A = ⟨(encC m.c).toArray⟩ := ⟨_, rfl⟩
  have zC : C.size ≤ 200 := by rw [hC, size_list]; exact lc
  rw [← hC] at qc
  have qw := fun w h => within_any m v w h hn
  rw [hm] at qw
  have qh := head_any m v
  obtain ⟨⟨k1, k2, k3, k4, k5, k6, k7, k8⟩, k9, hr, hx⟩ := witB_small hm
  have l0 := enc_len_ten (zig_bound (n := m.k) (by omega) (by omega))
  have l1 := enc_len_ten (zig_bound (n := m.f) (by omega) (by omega))
  have l2 := enc_len_ten (zig_bound (n := m.t) (by omega) (by omega))
  have l3 := enc_len_ten (zig_bound (n := m.b) (by omega) (by omega))
  have l4 := enc_len_ten (zig_bound (n := m.sl) (by omega) (by omega))
  have l5 := enc_len_ten (zig_bound (n := m.ro) (by omega) (by omega))
  have l6 := enc_len_ten (zig_bound (n := m.se) (by omega) (by omega))
  have l7 := enc_len_ten (zig_bound (n := m.er) (by omega) (by omega))
  obtain ⟨L0, hL0⟩ : ∃ L : List UInt8, L = [] := ⟨_, rfl⟩
  have z0 : L0.length ≤ 0 := by rw [hL0]; exact Nat.le_refl _
  obtain ⟨L1, hL1⟩ : ∃ L, L = L0 ++ enc (zig m.k) := ⟨_, rfl⟩
  have z1 : L1.length ≤ 10 := by rw [hL1, List.length_append]; omega
  have y0 := fun B v w => @wint_b B v L0 w m.k (by omega) (by omega) (by omega)
  rw [← hL1] at y0
  have i0 : ∀ w : World, (Instr.index 47 (.agg #[.int .i64 m.k, .int .i64 m.f, .int .i64 m.t, .int .i64 m.b, .int .i64 m.sl, .int .i64 m.ro, .int .i64 m.se, .int .i64 m.er]) (.int .i64 0)).run Try.prog w = .ok (.int .i64 m.k) w := fun _ => by kernel_rfl
  obtain ⟨L2, hL2⟩ : ∃ L, L = L1 ++ enc (zig m.f) := ⟨_, rfl⟩
  have z2 : L2.length ≤ 20 := by rw [hL2, List.length_append]; omega
  have y1 := fun B v w => @wint_b B v L1 w m.f (by omega) (by omega) (by omega)
  rw [← hL2] at y1
  have i1 : ∀ w : World, (Instr.index 47 (.agg #[.int .i64 m.k, .int .i64 m.f, .int .i64 m.t, .int .i64 m.b, .int .i64 m.sl, .int .i64 m.ro, .int .i64 m.se, .int .i64 m.er]) (.int .i64 1)).run Try.prog w = .ok (.int .i64 m.f) w := fun _ => by kernel_rfl
  obtain ⟨L3, hL3⟩ : ∃ L, L = L2 ++ enc (zig m.t) := ⟨_, rfl⟩
  have z3 : L3.length ≤ 30 := by rw [hL3, List.length_append]; omega
  have y2 := fun B v w => @wint_b B v L2 w m.t (by omega) (by omega) (by omega)
  rw [← hL3] at y2
  have i2 : ∀ w : World, (Instr.index 47 (.agg #[.int .i64 m.k, .int .i64 m.f, .int .i64 m.t, .int .i64 m.b, .int .i64 m.sl, .int .i64 m.ro, .int .i64 m.se, .int .i64 m.er]) (.int .i64 2)).run Try.prog w = .ok (.int .i64 m.t) w := fun _ => by kernel_rfl
  obtain ⟨L4, hL4⟩ : ∃ L, L = L3 ++ enc (zig m.b) := ⟨_, rfl⟩
  have z4 : L4.length ≤ 40 := by rw [hL4, List.length_append]; omega
  have y3 := fun B v w => @wint_b B v L3 w m.b (by omega) (by omega) (by omega)
  rw [← hL4] at y3
  have i3 : ∀ w : World, (Instr.index 47 (.agg #[.int .i64 m.k, .int .i64 m.f, .int .i64 m.t, .int .i64 m.b, .int .i64 m.sl, .int .i64 m.ro, .int .i64 m.se, .int .i64 m.er]) (.int .i64 3)).run Try.prog w = .ok (.int .i64 m.b) w := fun _ => by kernel_rfl
  obtain ⟨L5, hL5⟩ : ∃ L, L = L4 ++ enc (zig m.sl) := ⟨_, rfl⟩
  have z5 : L5.length ≤ 50 := by rw [hL5, List.length_append]; omega
  have y4 := fun B v w => @wint_b B v L4 w m.sl (by omega) (by omega) (by omega)
  rw [← hL5] at y4
  have i4 : ∀ w : World, (Instr.index 47 (.agg #[.int .i64 m.k, .int .i64 m.f, .int .i64 m.t, .int .i64 m.b, .int .i64 m.sl, .int .i64 m.ro, .int .i64 m.se, .int .i64 m.er]) (.int .i64 4)).run Try.prog w = .ok (.int .i64 m.sl) w := fun _ => by kernel_rfl
  obtain ⟨L6, hL6⟩ : ∃ L, L = L5 ++ enc (zig m.ro) := ⟨_, rfl⟩
  have z6 : L6.length ≤ 60 := by rw [hL6, List.length_append]; omega
  have y5 := fun B v w => @wint_b B v L5 w m.ro (by omega) (by omega) (by omega)
  rw [← hL6] at y5
  have i5 : ∀ w : World, (Instr.index 47 (.agg #[.int .i64 m.k, .int .i64 m.f, .int .i64 m.t, .int .i64 m.b, .int .i64 m.sl, .int .i64 m.ro, .int .i64 m.se, .int .i64 m.er]) (.int .i64 5)).run Try.prog w = .ok (.int .i64 m.ro) w := fun _ => by kernel_rfl
  obtain ⟨L7, hL7⟩ : ∃ L, L = L6 ++ enc (zig m.se) := ⟨_, rfl⟩
  have z7 : L7.length ≤ 70 := by rw [hL7, List.length_append]; omega
  have y6 := fun B v w => @wint_b B v L6 w m.se (by omega) (by omega) (by omega)
  rw [← hL7] at y6
  have i6 : ∀ w : World, (Instr.index 47 (.agg #[.int .i64 m.k, .int .i64 m.f, .int .i64 m.t, .int .i64 m.b, .int .i64 m.sl, .int .i64 m.ro, .int .i64 m.se, .int .i64 m.er]) (.int .i64 6)).run Try.prog w = .ok (.int .i64 m.se) w := fun _ => by kernel_rfl
  obtain ⟨L8, hL8⟩ : ∃ L, L = L7 ++ enc (zig m.er) := ⟨_, rfl⟩
  have z8 : L8.length ≤ 80 := by rw [hL8, List.length_append]; omega
  have y7 := fun B v w => @wint_b B v L7 w m.er (by omega) (by omega) (by omega)
  rw [← hL8] at y7
  have i7 : ∀ w : World, (Instr.index 47 (.agg #[.int .i64 m.k, .int .i64 m.f, .int .i64 m.t, .int .i64 m.b, .int .i64 m.sl, .int .i64 m.ro, .int .i64 m.se, .int .i64 m.er]) (.int .i64 7)).run Try.prog w = .ok (.int .i64 m.er) w := fun _ => by kernel_rfl
  have HL : Hid (L8 = headL m) := by
    show _ = _
    rw [hL8, hL7, hL6, hL5, hL4, hL3, hL2, hL1, hL0]
    rfl
  clear l0 l1 l2 l3 l4 l5 l6 l7 hL1 hL2 hL3 hL4 hL5 hL6 hL7 hL8 z0 z1 z2 z3 z4 z5 z6 z7 k1 k2 k3 k4 k5 k6 k7 k8
  obtain ⟨a, cap, rfl, hes⟩ := hv.ex
  have qe := fun B v bs hb w h hE => @wents_any m.es a cap k9 B v bs hb w h hE
  rw [hall] at qe
  clear HL hx hr
  have GE : Hid _ := hes
  clear hes hv lc zC hC hc hm
  go_enter Try.func7, Try.ntmps7
  go_wp2_with (first
    | (go_at_call 17; refine (qh _).mono ?_; rintro e w4 ⟨rfl, b4⟩; have x4 := x3.below b4; have r4 := r3.keep b4; have f4 := bmm f3 f3.size b4)
    | (go_at_call 16; refine (new_any _).mono ?_; rintro e w3 ⟨rfl, hw⟩; have r3 := Wr.new w2; rw [hw] at r3; have b3 : Below w2.heap.size w2 w3 := (by rw [← hw]; exact (Below.refl _ _).alloc (Nat.le_refl _) _); clear hw; have x3 := x2.below b3; have f3 := bmm f2 f2.size b3)
    | (go_at_call 15; refine (qw _ (by exact j1)).mono ?_; rintro e w2 ⟨rfl, b2⟩; have x2 := x1.below b2; have f2 := bmm f1 f1.size b2; have lB := x2.lt)
    | (go_at_call 14; refine (qc _).mono ?_; rintro e w1 ⟨rfl, b1⟩; have x1 := x0.below b1; have j1 := j0.below b1; have f1 := bmm ba ba.size b1)
    | (refine load_msg rfl _ rfl rfl (by exact x3) ?_)
    | (refine load_msg rfl _ rfl rfl (by exact x1) ?_))
  obtain ⟨B, hB⟩ : ∃ B, B = w2.heap.size := ⟨_, rfl⟩
  rw [← hB] at r4 lB ⊢
  have r4' : Wr B w4 B (.slice none 0 0) L0 := by rw [hL0]; exact r4
  have fB : w.heap.size ≤ B := Nat.le_of_lt lB
  clear hB r3 x3 b3 x2 b2 x1 b1 j1 f1 f2 f3 b4 r4 x0 j0 ba qc qw qh
  refine wp_loop_rounds 9 ?_

  rw [rounds_succ]
  go_wp2_with (first | (go_at_call 18; refine (y0 _ _ _ r4').mono ?_; rintro e w5 ⟨rfl, v5, r5, b5⟩; have x5 := x4.belowB lB b5; have f5 := f4.trans (b5.mono fB)))
  clear r4' x4 f4
  rw [rounds_succ]
  go_wp2_with (first | (go_at_call 18; refine (y1 _ _ _ r5).mono ?_; rintro e w6 ⟨rfl, v6, r6, b6⟩; have x6 := x5.belowB lB b6; have f6 := f5.trans (b6.mono fB)))
  clear r5 x5 b5 f5
  rw [rounds_succ]
  go_wp2_with (first | (go_at_call 18; refine (y2 _ _ _ r6).mono ?_; rintro e w7 ⟨rfl, v7, r7, b7⟩; have x7 := x6.belowB lB b7; have f7 := f6.trans (b7.mono fB)))
  clear r6 x6 b6 f6
  rw [rounds_succ]
  go_wp2_with (first | (go_at_call 18; refine (y3 _ _ _ r7).mono ?_; rintro e w8 ⟨rfl, v8, r8, b8⟩; have x8 := x7.belowB lB b8; have f8 := f7.trans (b8.mono fB)))
  clear r7 x7 b7 f7
  rw [rounds_succ]
  go_wp2_with (first | (go_at_call 18; refine (y4 _ _ _ r8).mono ?_; rintro e w9 ⟨rfl, v9, r9, b9⟩; have x9 := x8.belowB lB b9; have f9 := f8.trans (b9.mono fB)))
  clear r8 x8 b8 f8
  rw [rounds_succ]
  go_wp2_with (first | (go_at_call 18; refine (y5 _ _ _ r9).mono ?_; rintro e w10 ⟨rfl, v10, r10, b10⟩; have x10 := x9.belowB lB b10; have f10 := f9.trans (b10.mono fB)))
  clear r9 x9 b9 f9
  rw [rounds_succ]
  go_wp2_with (first | (go_at_call 18; refine (y6 _ _ _ r10).mono ?_; rintro e w11 ⟨rfl, v11, r11, b11⟩; have x11 := x10.belowB lB b11; have f11 := f10.trans (b11.mono fB)))
  clear r10 x10 b10 f10
  rw [rounds_succ]
  go_wp2_with (first | (go_at_call 18; refine (y7 _ _ _ r11).mono ?_; rintro e w12 ⟨rfl, v12, r12, b12⟩; have x12 := x11.belowB lB b12; have f12 := f11.trans (b12.mono fB)))
  clear r11 x11 b11 f11
  have g8 := x12.box.c8
  have hE : m.es.length = 0 ∨ ∃ bk off, a = some ⟨bk, off, none⟩ ∧ bk < B ∧ ∀ j (hj : j < m.es.length), IsEn w12 bk (off + j * 7) m.es[j] := by
    rcases GE.out with h | ⟨bk, off, h1, h2, h3⟩
    · exact Or.inl h
    · exact Or.inr ⟨bk, off, h1, Nat.lt_of_lt_of_le h2 fB, fun j hj => (h3 j hj).below h2 f12⟩
  have qe' := qe B v12 L8 (by omega) w12 r12 hE
  clear GE hE qe z8
  rw [rounds_succ]
  go_wp2_with (first
    | (go_at_call 19; refine qe'.mono ?_; rintro e w13 ⟨rfl, _, b13⟩))
  go_ret2
  exact ⟨rfl, f12.trans (b13.mono fB)⟩

set_option maxHeartbeats 12800000 in
set_option maxRecDepth 100000 in
theorem gencode_y (m : Ms) (v : Value) (w : World) (hv : EntAt w v m.es) (hn : m.es.length ≤ 9223372036854775807) (ht : m.tk < 18446744073709551616) (hc : mayB m.c = true) (hm : witB m = true) (hall : m.es.all mayE = true) :
    Calls Try.prog 7 #[.agg #[.int .i64 m.k, .int .i64 m.f, .int .i64 m.t, .int .i64 m.b, .int .i64 m.sl, .int .i64 m.ro, .int .i64 m.se, .int .i64 m.er, v, .int .i64 m.c.kind, .int .i64 m.c.session, .int .i64 m.c.seq, .string m.c.name, .int .i64 m.c.n, .int .i64 m.rs, .int .i64 m.rq, .int .i64 m.re, .int .u64 m.tk, .int .i64 m.rn, .string m.x]] w fun e w' => e = .returned (.tuple #[.string (encMT m).1, .int .i64 (encMT m).2]) ∧ Below w.heap.size w w' := by
  have ba : Below w.heap.size w (w.alloc (.cells #[.int .i64 m.k, .int .i64 m.f, .int .i64 m.t, .int .i64 m.b, .int .i64 m.sl, .int .i64 m.ro, .int .i64 m.se, .int .i64 m.er, v, .int .i64 m.c.kind, .int .i64 m.c.session, .int .i64 m.c.seq, .string m.c.name, .int .i64 m.c.n, .int .i64 m.rs, .int .i64 m.rq, .int .i64 m.re, .int .u64 m.tk, .int .i64 m.rn, .string m.x] 30)) := (Below.refl _ w).alloc (Nat.le_refl _) _
  have x0 := MLies.fresh w m v
  have j0 := hv.below ba
  have qc := encode_any m.c.kind m.c.session m.c.seq m.c.n m.c.name
  rw [show (⟨m.c.kind, m.c.session, m.c.seq, m.c.name, m.c.n⟩ : Cm) = m.c from rfl, show encT m.c = (⟨(encC m.c).toArray⟩, 0) by unfold encT; rw [if_pos hc]] at qc
  have lc := encC_len hc
  obtain ⟨C, hC⟩ : ∃ A : ByteArray, A = ⟨(encC m.c).toArray⟩ := ⟨_, rfl⟩
  have zC : C.size ≤ 200 := by rw [hC, size_list]; exact lc
  rw [← hC] at qc
  have qw := fun w h => within_any m v w h hn
  rw [hm] at qw
  have qh := head_any m v
  obtain ⟨⟨k1, k2, k3, k4, k5, k6, k7, k8⟩, k9, hr, hx⟩ := witB_small hm
  have l0 := enc_len_ten (zig_bound (n := m.k) (by omega) (by omega))
  have l1 := enc_len_ten (zig_bound (n := m.f) (by omega) (by omega))
  have l2 := enc_len_ten (zig_bound (n := m.t) (by omega) (by omega))
  have l3 := enc_len_ten (zig_bound (n := m.b) (by omega) (by omega))
  have l4 := enc_len_ten (zig_bound (n := m.sl) (by omega) (by omega))
  have l5 := enc_len_ten (zig_bound (n := m.ro) (by omega) (by omega))
  have l6 := enc_len_ten (zig_bound (n := m.se) (by omega) (by omega))
  have l7 := enc_len_ten (zig_bound (n := m.er) (by omega) (by omega))
  obtain ⟨L0, hL0⟩ : ∃ L : List UInt8, L = [] := ⟨_, rfl⟩
  have z0 : L0.length ≤ 0 := by rw [hL0]; exact Nat.le_refl _
  obtain ⟨L1, hL1⟩ : ∃ L, L = L0 ++ enc (zig m.k) := ⟨_, rfl⟩
  have z1 : L1.length ≤ 10 := by rw [hL1, List.length_append]; omega
  have y0 := fun B v w => @wint_b B v L0 w m.k (by omega) (by omega) (by omega)
  rw [← hL1] at y0
  have i0 : ∀ w : World, (Instr.index 47 (.agg #[.int .i64 m.k, .int .i64 m.f, .int .i64 m.t, .int .i64 m.b, .int .i64 m.sl, .int .i64 m.ro, .int .i64 m.se, .int .i64 m.er]) (.int .i64 0)).run Try.prog w = .ok (.int .i64 m.k) w := fun _ => by kernel_rfl
  obtain ⟨L2, hL2⟩ : ∃ L, L = L1 ++ enc (zig m.f) := ⟨_, rfl⟩
  have z2 : L2.length ≤ 20 := by rw [hL2, List.length_append]; omega
  have y1 := fun B v w => @wint_b B v L1 w m.f (by omega) (by omega) (by omega)
  rw [← hL2] at y1
  have i1 : ∀ w : World, (Instr.index 47 (.agg #[.int .i64 m.k, .int .i64 m.f, .int .i64 m.t, .int .i64 m.b, .int .i64 m.sl, .int .i64 m.ro, .int .i64 m.se, .int .i64 m.er]) (.int .i64 1)).run Try.prog w = .ok (.int .i64 m.f) w := fun _ => by kernel_rfl
  obtain ⟨L3, hL3⟩ : ∃ L, L = L2 ++ enc (zig m.t) := ⟨_, rfl⟩
  have z3 : L3.length ≤ 30 := by rw [hL3, List.length_append]; omega
  have y2 := fun B v w => @wint_b B v L2 w m.t (by omega) (by omega) (by omega)
  rw [← hL3] at y2
  have i2 : ∀ w : World, (Instr.index 47 (.agg #[.int .i64 m.k, .int .i64 m.f, .int .i64 m.t, .int .i64 m.b, .int .i64 m.sl, .int .i64 m.ro, .int .i64 m.se, .int .i64 m.er]) (.int .i64 2)).run Try.prog w = .ok (.int .i64 m.t) w := fun _ => by kernel_rfl
  obtain ⟨L4, hL4⟩ : ∃ L, L = L3 ++ enc (zig m.b) := ⟨_, rfl⟩
  have z4 : L4.length ≤ 40 := by rw [hL4, List.length_append]; omega
  have y3 := fun B v w => @wint_b B v L3 w m.b (by omega) (by omega) (by omega)
  rw [← hL4] at y3
  have i3 : ∀ w : World, (Instr.index 47 (.agg #[.int .i64 m.k, .int .i64 m.f, .int .i64 m.t, .int .i64 m.b, .int .i64 m.sl, .int .i64 m.ro, .int .i64 m.se, .int .i64 m.er]) (.int .i64 3)).run Try.prog w = .ok (.int .i64 m.b) w := fun _ => by kernel_rfl
  obtain ⟨L5, hL5⟩ : ∃ L, L = L4 ++ enc (zig m.sl) := ⟨_, rfl⟩
  have z5 : L5.length ≤ 50 := by rw [hL5, List.length_append]; omega
  have y4 := fun B v w => @wint_b B v L4 w m.sl (by omega) (by omega) (by omega)
  rw [← hL5] at y4
  have i4 : ∀ w : World, (Instr.index 47 (.agg #[.int .i64 m.k, .int .i64 m.f, .int .i64 m.t, .int .i64 m.b, .int .i64 m.sl, .int .i64 m.ro, .int .i64 m.se, .int .i64 m.er]) (.int .i64 4)).run Try.prog w = .ok (.int .i64 m.sl) w := fun _ => by kernel_rfl
  obtain ⟨L6, hL6⟩ : ∃ L, L = L5 ++ enc (zig m.ro) := ⟨_, rfl⟩
  have z6 : L6.length ≤ 60 := by rw [hL6, List.length_append]; omega
  have y5 := fun B v w => @wint_b B v L5 w m.ro (by omega) (by omega) (by omega)
  rw [← hL6] at y5
  have i5 : ∀ w : World, (Instr.index 47 (.agg #[.int .i64 m.k, .int .i64 m.f, .int .i64 m.t, .int .i64 m.b, .int .i64 m.sl, .int .i64 m.ro, .int .i64 m.se, .int .i64 m.er]) (.int .i64 5)).run Try.prog w = .ok (.int .i64 m.ro) w := fun _ => by kernel_rfl
  obtain ⟨L7, hL7⟩ : ∃ L, L = L6 ++ enc (zig m.se) := ⟨_, rfl⟩
  have z7 : L7.length ≤ 70 := by rw [hL7, List.length_append]; omega
  have y6 := fun B v w => @wint_b B v L6 w m.se (by omega) (by omega) (by omega)
  rw [← hL7] at y6
  have i6 : ∀ w : World, (Instr.index 47 (.agg #[.int .i64 m.k, .int .i64 m.f, .int .i64 m.t, .int .i64 m.b, .int .i64 m.sl, .int .i64 m.ro, .int .i64 m.se, .int .i64 m.er]) (.int .i64 6)).run Try.prog w = .ok (.int .i64 m.se) w := fun _ => by kernel_rfl
  obtain ⟨L8, hL8⟩ : ∃ L, L = L7 ++ enc (zig m.er) := ⟨_, rfl⟩
  have z8 : L8.length ≤ 80 := by rw [hL8, List.length_append]; omega
  have y7 := fun B v w => @wint_b B v L7 w m.er (by omega) (by omega) (by omega)
  rw [← hL8] at y7
  have i7 : ∀ w : World, (Instr.index 47 (.agg #[.int .i64 m.k, .int .i64 m.f, .int .i64 m.t, .int .i64 m.b, .int .i64 m.sl, .int .i64 m.ro, .int .i64 m.se, .int .i64 m.er]) (.int .i64 7)).run Try.prog w = .ok (.int .i64 m.er) w := fun _ => by kernel_rfl
  have HL : Hid (L8 = headL m) := by
    show _ = _
    rw [hL8, hL7, hL6, hL5, hL4, hL3, hL2, hL1, hL0]
    rfl
  clear l0 l1 l2 l3 l4 l5 l6 l7 hL1 hL2 hL3 hL4 hL5 hL6 hL7 hL8 z0 z1 z2 z3 z4 z5 z6 z7 k1 k2 k3 k4 k5 k6 k7 k8
  obtain ⟨a, cap, rfl, hes⟩ := hv.ex
  have qe := fun B v bs hb w h hE => @wents_any m.es a cap k9 B v bs hb w h hE
  rw [hall] at qe
  have le := encEs_len m.es hall
  have ln := enc_len_ten (zig_bound (n := (m.es.length : Int)) (by omega) (by omega))
  obtain ⟨L9, hL9⟩ : ∃ L, L = L8 ++ (enc (zig (m.es.length : Int)) ++ encEs m.es) := ⟨_, rfl⟩
  have z9 : L9.length ≤ 1024090 := by rw [hL9, List.length_append, List.length_append]; omega
  have yc := fun B v w => @wtext_b B v L9 w C (by omega)
  obtain ⟨L10, hL10⟩ : ∃ L, L = L9 ++ lenText C := ⟨_, rfl⟩
  rw [← hL10] at yc
  have z10 : L10.length ≤ 1024300 := by
    have := enc_len_ten (n := C.size) (by omega)
    have := Lib.size_eq C
    rw [hL10, List.length_append]
    unfold lenText
    rw [List.length_append]
    omega
  have yr := fun B v w => @wreply_any m hr ht B v L10 (by omega) w
  obtain ⟨L11, hL11⟩ : ∃ L, L = L10 ++ repL m := ⟨_, rfl⟩
  rw [← hL11] at yr
  have z11 : L11.length ≤ 1024350 := by
    obtain ⟨r1, r2, r3, r4⟩ := repB_small hr
    have := enc_len_ten (zig_bound (n := m.rs) (by omega) (by omega))
    have := enc_len_ten (zig_bound (n := m.rq) (by omega) (by omega))
    have := enc_len_ten (zig_bound (n := m.re) (by omega) (by omega))
    have := enc_len_ten ht
    have := enc_len_ten (zig_bound (n := m.rn) (by omega) (by omega))
    rw [hL11, List.length_append]
    unfold repL
    simp only [List.length_append]
    omega
  have yx := fun B v w => @wtext_b B v L11 w m.x (by omega)
  obtain ⟨L12, hL12⟩ : ∃ L, L = L11 ++ lenText m.x := ⟨_, rfl⟩
  rw [← hL12] at yx
  obtain ⟨S, hS⟩ : ∃ S : ByteArray, S = ⟨L12.toArray⟩ := ⟨_, rfl⟩
  have ys := fun B v w h => wstring_any B B v L12 w h
  rw [← hS] at ys
  have HM : Hid (S = ⟨(encM m).toArray⟩) := by
    show S = _
    rw [hS, hL12, hL11, hL10, hL9, HL.out, hC, encM_left]
  have HZ : Hid (S.size = (encM m).length) := by
    show _ = _
    rw [HM.out, size_list]
  have hmay : mayM m = true := by rw [mayM_wit, hm, hc, hall]; rfl
  have HY : Hid ((S.size ≤ 524288 ∧ encMT m = (S, 0)) ∨ (524288 < S.size ∧ encMT m = (⟨#[]⟩, 1))) := by
    by_cases hz : S.size ≤ 524288
    · refine Or.inl ⟨hz, ?_⟩
      unfold encMT
      rw [if_pos ⟨hmay, by rw [← HZ.out]; exact hz⟩, HM.out]
    · refine Or.inr ⟨by omega, ?_⟩
      unfold encMT
      rw [if_neg (fun h => hz (by rw [HZ.out]; exact h.2))]
  have hL9' : L9 = L8 ++ (enc (zig (m.es.length : Int)) ++ encEs m.es) := hL9
  clear hS hL12 hL11 hL10 hL9 HL HM HZ hmay le ln z9 z10 z11 hx hr

  have GE : Hid _ := hes
  clear hes hv lc zC hC hc hm
  go_enter Try.func7, Try.ntmps7
  go_wp2_with (first
    | (go_at_call 17; refine (qh _).mono ?_; rintro e w4 ⟨rfl, b4⟩; have x4 := x3.below b4; have r4 := r3.keep b4; have f4 := bmm f3 f3.size b4)
    | (go_at_call 16; refine (new_any _).mono ?_; rintro e w3 ⟨rfl, hw⟩; have r3 := Wr.new w2; rw [hw] at r3; have b3 : Below w2.heap.size w2 w3 := (by rw [← hw]; exact (Below.refl _ _).alloc (Nat.le_refl _) _); clear hw; have x3 := x2.below b3; have f3 := bmm f2 f2.size b3)
    | (go_at_call 15; refine (qw _ (by exact j1)).mono ?_; rintro e w2 ⟨rfl, b2⟩; have x2 := x1.below b2; have f2 := bmm f1 f1.size b2; have lB := x2.lt)
    | (go_at_call 14; refine (qc _).mono ?_; rintro e w1 ⟨rfl, b1⟩; have x1 := x0.below b1; have j1 := j0.below b1; have f1 := bmm ba ba.size b1)
    | (refine load_msg rfl _ rfl rfl (by exact x3) ?_)
    | (refine load_msg rfl _ rfl rfl (by exact x1) ?_))
  obtain ⟨B, hB⟩ : ∃ B, B = w2.heap.size := ⟨_, rfl⟩
  rw [← hB] at r4 lB ⊢
  have r4' : Wr B w4 B (.slice none 0 0) L0 := by rw [hL0]; exact r4
  have fB : w.heap.size ≤ B := Nat.le_of_lt lB
  clear hB r3 x3 b3 x2 b2 x1 b1 j1 f1 f2 f3 b4 r4 x0 j0 ba qc qw qh
  refine wp_loop_rounds 9 ?_

  rw [rounds_succ]
  go_wp2_with (first | (go_at_call 18; refine (y0 _ _ _ r4').mono ?_; rintro e w5 ⟨rfl, v5, r5, b5⟩; have x5 := x4.belowB lB b5; have f5 := f4.trans (b5.mono fB)))
  clear r4' x4 f4
  rw [rounds_succ]
  go_wp2_with (first | (go_at_call 18; refine (y1 _ _ _ r5).mono ?_; rintro e w6 ⟨rfl, v6, r6, b6⟩; have x6 := x5.belowB lB b6; have f6 := f5.trans (b6.mono fB)))
  clear r5 x5 b5 f5
  rw [rounds_succ]
  go_wp2_with (first | (go_at_call 18; refine (y2 _ _ _ r6).mono ?_; rintro e w7 ⟨rfl, v7, r7, b7⟩; have x7 := x6.belowB lB b7; have f7 := f6.trans (b7.mono fB)))
  clear r6 x6 b6 f6
  rw [rounds_succ]
  go_wp2_with (first | (go_at_call 18; refine (y3 _ _ _ r7).mono ?_; rintro e w8 ⟨rfl, v8, r8, b8⟩; have x8 := x7.belowB lB b8; have f8 := f7.trans (b8.mono fB)))
  clear r7 x7 b7 f7
  rw [rounds_succ]
  go_wp2_with (first | (go_at_call 18; refine (y4 _ _ _ r8).mono ?_; rintro e w9 ⟨rfl, v9, r9, b9⟩; have x9 := x8.belowB lB b9; have f9 := f8.trans (b9.mono fB)))
  clear r8 x8 b8 f8
  rw [rounds_succ]
  go_wp2_with (first | (go_at_call 18; refine (y5 _ _ _ r9).mono ?_; rintro e w10 ⟨rfl, v10, r10, b10⟩; have x10 := x9.belowB lB b10; have f10 := f9.trans (b10.mono fB)))
  clear r9 x9 b9 f9
  rw [rounds_succ]
  go_wp2_with (first | (go_at_call 18; refine (y6 _ _ _ r10).mono ?_; rintro e w11 ⟨rfl, v11, r11, b11⟩; have x11 := x10.belowB lB b11; have f11 := f10.trans (b11.mono fB)))
  clear r10 x10 b10 f10
  rw [rounds_succ]
  go_wp2_with (first | (go_at_call 18; refine (y7 _ _ _ r11).mono ?_; rintro e w12 ⟨rfl, v12, r12, b12⟩; have x12 := x11.belowB lB b12; have f12 := f11.trans (b12.mono fB)))
  clear r11 x11 b11 f11
  have g8 := x12.box.c8
  have hE : m.es.length = 0 ∨ ∃ bk off, a = some ⟨bk, off, none⟩ ∧ bk < B ∧ ∀ j (hj : j < m.es.length), IsEn w12 bk (off + j * 7) m.es[j] := by
    rcases GE.out with h | ⟨bk, off, h1, h2, h3⟩
    · exact Or.inl h
    · exact Or.inr ⟨bk, off, h1, Nat.lt_of_lt_of_le h2 fB, fun j hj => (h3 j hj).below h2 f12⟩
  have qe' := qe B v12 L8 (by omega) w12 r12 hE
  clear GE hE qe z8
  rw [rounds_succ]
  rw [← hL9'] at qe'
  rcases HY.out with ⟨hz, hE⟩ | ⟨hz, hE⟩
  · have HE : Hid (encMT m = (S, 0)) := hE
    clear hE
    go_wp2_with (first
      | (go_at_call 22; refine (ys _ _ _ r16).mono ?_; rintro e w17 ⟨rfl, rfl⟩)
      | (go_at_call 20; have dd := d1; refine (yx _ _ _ r15).mono ?_; rintro e w16 ⟨rfl, v16, r16, b16⟩; have f16 := f15.trans (b16.mono fB))
      | (go_at_call 21; refine (yr _ _ _ r14).mono ?_; rintro e w15 ⟨rfl, v15, r15, b15⟩; have x15 := x14.belowB lB b15; have f15 := f14.trans (b15.mono fB); have g19 := x15.box.c19; have d1 : True := trivial)
      | (go_at_call 20; refine (yc _ _ _ r13).mono ?_; rintro e w14 ⟨rfl, v14, r14, b14⟩; have x14 := x13.belowB lB b14; have f14 := f13.trans (b14.mono fB); have h14 := x14.box.c14; have h15 := x14.box.c15; have h16 := x14.box.c16; have h17 := x14.box.c17; have h18 := x14.box.c18)
      | (go_at_call 19; refine qe'.mono ?_; rintro e w13 ⟨rfl, hr13, b13⟩; obtain ⟨v13, r13⟩ := hr13 trivial; have x13 := x12.belowB lB b13; have f13 := f12.trans (b13.mono fB)))
    go_ret2
    rw [HE.out]
    exact ⟨rfl, f16⟩
  · have HE : Hid (encMT m = (⟨#[]⟩, 1)) := hE
    clear hE
    go_wp2_with (first
      | (go_at_call 22; refine (ys _ _ _ r16).mono ?_; rintro e w17 ⟨rfl, rfl⟩)
      | (go_at_call 20; have dd := d1; refine (yx _ _ _ r15).mono ?_; rintro e w16 ⟨rfl, v16, r16, b16⟩; have f16 := f15.trans (b16.mono fB))
      | (go_at_call 21; refine (yr _ _ _ r14).mono ?_; rintro e w15 ⟨rfl, v15, r15, b15⟩; have x15 := x14.belowB lB b15; have f15 := f14.trans (b15.mono fB); have g19 := x15.box.c19; have d1 : True := trivial)
      | (go_at_call 20; refine (yc _ _ _ r13).mono ?_; rintro e w14 ⟨rfl, v14, r14, b14⟩; have x14 := x13.belowB lB b14; have f14 := f13.trans (b14.mono fB); have h14 := x14.box.c14; have h15 := x14.box.c15; have h16 := x14.box.c16; have h17 := x14.box.c17; have h18 := x14.box.c18)
      | (go_at_call 19; refine qe'.mono ?_; rintro e w13 ⟨rfl, hr13, b13⟩; obtain ⟨v13, r13⟩ := hr13 trivial; have x13 := x12.belowB lB b13; have f13 := f12.trans (b13.mono fB)))
    go_ret2
    rw [HE.out]
    exact ⟨rfl, f16⟩

/-- Encode. -/
theorem gencode_any (m : Ms) (v : Value) (w : World) (hv : EntAt w v m.es) (hn : m.es.length ≤ 9223372036854775807) (ht : m.tk < 18446744073709551616) :
    Calls Try.prog 7 #[.agg #[.int .i64 m.k, .int .i64 m.f, .int .i64 m.t, .int .i64 m.b, .int .i64 m.sl, .int .i64 m.ro, .int .i64 m.se, .int .i64 m.er, v, .int .i64 m.c.kind, .int .i64 m.c.session, .int .i64 m.c.seq, .string m.c.name, .int .i64 m.c.n, .int .i64 m.rs, .int .i64 m.rq, .int .i64 m.re, .int .u64 m.tk, .int .i64 m.rn, .string m.x]] w fun e w' => e = .returned (.tuple #[.string (encMT m).1, .int .i64 (encMT m).2]) ∧ Below w.heap.size w w' := by
  have hw := mayM_wit m
  cases hc : mayB m.c with
  | false =>
    rw [hc, Bool.false_and, Bool.and_false] at hw
    rw [encMT_no hw]
    exact gencode_c m v w hc
  | true =>
    cases hm : witB m with
    | false =>
      rw [hm, Bool.false_and] at hw
      rw [encMT_no hw]
      exact gencode_w m v w hv hn hc hm
    | true =>
      cases hall : m.es.all mayE with
      | false =>
        rw [hall, Bool.and_false, Bool.and_false] at hw
        rw [encMT_no hw]
        exact gencode_e m v w hv hn hc hm hall
      | true => exact gencode_y m v w hv hn ht hc hm hall
end Go.Proofs.Ytmmdcbgmhjheeaa
