/-
  A message's bytes, by the document's own (package latchkeyref04). The conditions: its token is of 64 bits, there are no more entries than a slice may hold.
-/
import Derived.Test.YtmmdcbgmhjheeaaMgMay
namespace Go.Proofs.Ytmmdcbgmhjheeaa
open Go.RowKit

theorem encEs_len (l : List En) (h : l.all mayE = true) : (encEs l).length ≤ l.length * 250 := by
  induction l with
  | nil => exact Nat.le_refl _
  | cons e l ih =>
    rw [List.all_cons, Bool.and_eq_true] at h
    have h1 := encE_len h.1
    have h2 := enc_len_ten (n := (encE e).length) (by omega)
    have h3 := ih h.2
    have h4 := encEs_cons e l []
    rw [List.append_nil, List.append_nil] at h4
    rw [h4, List.length_append, List.length_cons]
    unfold lenText
    rw [size_list, List.length_append]
    simp only
    omega
theorem encEs_snoc (l : List En) (e : En) : encEs (l ++ [e]) = encEs l ++ lenText ⟨(encE e).toArray⟩ := by
  unfold encEs
  rw [List.flatMap_append]
  simp

/-- A reply's five cells, in block B. -/
structure RBox (w : World) (B : Nat) (m : Ms) : Prop where
  lt : B < w.heap.size
  c0 : w.cell? ⟨B, 0, none⟩ = some (.int .i64 m.rs)
  c1 : w.cell? ⟨B, 1, none⟩ = some (.int .i64 m.rq)
  c2 : w.cell? ⟨B, 2, none⟩ = some (.int .i64 m.re)
  c3 : w.cell? ⟨B, 3, none⟩ = some (.int .u64 m.tk)
  c4 : w.cell? ⟨B, 4, none⟩ = some (.int .i64 m.rn)
theorem RBox.below {w w' : World} {B : Nat} {m : Ms} (h : RBox w B m) (k : Below w.heap.size w w') : RBox w' B m :=
  ⟨Nat.lt_of_lt_of_le h.lt k.size, (k.cell (by exact h.lt)).trans h.c0, (k.cell (by exact h.lt)).trans h.c1, (k.cell (by exact h.lt)).trans h.c2, (k.cell (by exact h.lt)).trans h.c3, (k.cell (by exact h.lt)).trans h.c4⟩
theorem RBox.fresh (w : World) (m : Ms) : RBox (w.alloc (.cells #[.int .i64 m.rs, .int .i64 m.rq, .int .i64 m.re, .int .u64 m.tk, .int .i64 m.rn] 28)) w.heap.size m := ⟨by simp, by simp, by simp, by simp, by simp, by simp⟩

theorem info30 : (Try.prog.info? 30).map (·.size) = some 20 := by kernel_rfl

set_option maxHeartbeats 6400000 in
set_option maxRecDepth 100000 in
/-- A message that may not be. -/
theorem mencode_no (m : Ms) (v : Value) (w : World) (hv : EntAt w v m.es) (hn : m.es.length ≤ 9223372036854775807) (hm : mayM m = false) :
    Calls Try.prog 8 #[.agg #[.int .i64 m.k, .int .i64 m.f, .int .i64 m.t, .int .i64 m.b, .int .i64 m.sl, .int .i64 m.ro, .int .i64 m.se, .int .i64 m.er, v, .int .i64 m.c.kind, .int .i64 m.c.session, .int .i64 m.c.seq, .string m.c.name, .int .i64 m.c.n, .int .i64 m.rs, .int .i64 m.rq, .int .i64 m.re, .int .u64 m.tk, .int .i64 m.rn, .string m.x]] w fun e w' => e = .returned (.tuple #[.string ⟨#[]⟩, .int .i64 1]) ∧ Below w.heap.size w w' := by
  have ba : Below w.heap.size w (w.alloc (.cells #[.int .i64 m.k, .int .i64 m.f, .int .i64 m.t, .int .i64 m.b, .int .i64 m.sl, .int .i64 m.ro, .int .i64 m.se, .int .i64 m.er, v, .int .i64 m.c.kind, .int .i64 m.c.session, .int .i64 m.c.seq, .string m.c.name, .int .i64 m.c.n, .int .i64 m.rs, .int .i64 m.rq, .int .i64 m.re, .int .u64 m.tk, .int .i64 m.rn, .string m.x] 30)) := (Below.refl _ w).alloc (Nat.le_refl _) _
  have q0 := mmay_any m v (w.alloc (.cells #[.int .i64 m.k, .int .i64 m.f, .int .i64 m.t, .int .i64 m.b, .int .i64 m.sl, .int .i64 m.ro, .int .i64 m.se, .int .i64 m.er, v, .int .i64 m.c.kind, .int .i64 m.c.session, .int .i64 m.c.seq, .string m.c.name, .int .i64 m.c.n, .int .i64 m.rs, .int .i64 m.rq, .int .i64 m.re, .int .u64 m.tk, .int .i64 m.rn, .string m.x] 30)) (hv.below ba) hn
  rw [hm] at q0
  have hg : (w.alloc (.cells #[.int .i64 m.k, .int .i64 m.f, .int .i64 m.t, .int .i64 m.b, .int .i64 m.sl, .int .i64 m.ro, .int .i64 m.se, .int .i64 m.er, v, .int .i64 m.c.kind, .int .i64 m.c.session, .int .i64 m.c.seq, .string m.c.name, .int .i64 m.c.n, .int .i64 m.rs, .int .i64 m.rq, .int .i64 m.re, .int .u64 m.tk, .int .i64 m.rn, .string m.x] 30)).heap[w.heap.size]? = some (.cells #[.int .i64 m.k, .int .i64 m.f, .int .i64 m.t, .int .i64 m.b, .int .i64 m.sl, .int .i64 m.ro, .int .i64 m.se, .int .i64 m.er, v, .int .i64 m.c.kind, .int .i64 m.c.session, .int .i64 m.c.seq, .string m.c.name, .int .i64 m.c.n, .int .i64 m.rs, .int .i64 m.rq, .int .i64 m.re, .int .u64 m.tk, .int .i64 m.rn, .string m.x] 30 (0, 0)) := heap_alloc_new _ _
  go_enter Try.func8, Try.ntmps8
  go_wp2_with (first
    | (refine wpList_load_row rfl 30 _ rfl w.heap.size rfl 30 _ (0, 0) _ hg Try.underlying30 rfl info30 ?_)
    | (go_at_call 23; refine q0.mono ?_; rintro e w1 ⟨rfl, b1⟩))
  go_ret2
  exact ⟨rfl, bmm ba ba.size b1⟩

set_option maxHeartbeats 12800000 in
set_option maxRecDepth 100000 in
/-- A message that may be: its bytes, if they are not too many. -/
theorem mencode_yes (m : Ms) (v : Value) (w : World) (hv : EntAt w v m.es) (hn : m.es.length ≤ 9223372036854775807) (ht : m.tk < 18446744073709551616) (hm : mayM m = true) :
    Calls Try.prog 8 #[.agg #[.int .i64 m.k, .int .i64 m.f, .int .i64 m.t, .int .i64 m.b, .int .i64 m.sl, .int .i64 m.ro, .int .i64 m.se, .int .i64 m.er, v, .int .i64 m.c.kind, .int .i64 m.c.session, .int .i64 m.c.seq, .string m.c.name, .int .i64 m.c.n, .int .i64 m.rs, .int .i64 m.rq, .int .i64 m.re, .int .u64 m.tk, .int .i64 m.rn, .string m.x]] w fun e w' => e = .returned (.tuple #[.string (encMT m).1, .int .i64 (encMT m).2]) ∧ Below w.heap.size w w' := by
  have ba : Below w.heap.size w (w.alloc (.cells #[.int .i64 m.k, .int .i64 m.f, .int .i64 m.t, .int .i64 m.b, .int .i64 m.sl, .int .i64 m.ro, .int .i64 m.se, .int .i64 m.er, v, .int .i64 m.c.kind, .int .i64 m.c.session, .int .i64 m.c.seq, .string m.c.name, .int .i64 m.c.n, .int .i64 m.rs, .int .i64 m.rq, .int .i64 m.re, .int .u64 m.tk, .int .i64 m.rn, .string m.x] 30)) := (Below.refl _ w).alloc (Nat.le_refl _) _
  have q0 := mmay_any m v (w.alloc (.cells #[.int .i64 m.k, .int .i64 m.f, .int .i64 m.t, .int .i64 m.b, .int .i64 m.sl, .int .i64 m.ro, .int .i64 m.se, .int .i64 m.er, v, .int .i64 m.c.kind, .int .i64 m.c.session, .int .i64 m.c.seq, .string m.c.name, .int .i64 m.c.n, .int .i64 m.rs, .int .i64 m.rq, .int .i64 m.re, .int .u64 m.tk, .int .i64 m.rn, .string m.x] 30)) (hv.below ba) hn
  rw [hm] at q0
  have hg : (w.alloc (.cells #[.int .i64 m.k, .int .i64 m.f, .int .i64 m.t, .int .i64 m.b, .int .i64 m.sl, .int .i64 m.ro, .int .i64 m.se, .int .i64 m.er, v, .int .i64 m.c.kind, .int .i64 m.c.session, .int .i64 m.c.seq, .string m.c.name, .int .i64 m.c.n, .int .i64 m.rs, .int .i64 m.rq, .int .i64 m.re, .int .u64 m.tk, .int .i64 m.rn, .string m.x] 30)).heap[w.heap.size]? = some (.cells #[.int .i64 m.k, .int .i64 m.f, .int .i64 m.t, .int .i64 m.b, .int .i64 m.sl, .int .i64 m.ro, .int .i64 m.se, .int .i64 m.er, v, .int .i64 m.c.kind, .int .i64 m.c.session, .int .i64 m.c.seq, .string m.c.name, .int .i64 m.c.n, .int .i64 m.rs, .int .i64 m.rq, .int .i64 m.re, .int .u64 m.tk, .int .i64 m.rn, .string m.x] 30 (0, 0)) := heap_alloc_new _ _
  have i0 := MBox.fresh w m v
  have j0 := hv.below ba
  obtain ⟨a, cap, rfl, hes⟩ := hv.ex
  obtain ⟨⟨k1, k2, k3, k4, k5⟩, ⟨k6, k7, k8, k9, hmc, hmx⟩, ⟨k12, k13, k14, k15⟩, hall⟩ := mayM_small hm
  have y1 := fint_any m.k (by omega) (by omega)
  have l1 := enc_len_ten (zig_bound (n := m.k) (by omega) (by omega))
  have y2 := fint_any m.f (by omega) (by omega)
  have l2 := enc_len_ten (zig_bound (n := m.f) (by omega) (by omega))
  have y3 := fint_any m.t (by omega) (by omega)
  have l3 := enc_len_ten (zig_bound (n := m.t) (by omega) (by omega))
  have y4 := fint_any m.b (by omega) (by omega)
  have l4 := enc_len_ten (zig_bound (n := m.b) (by omega) (by omega))
  have y5 := fint_any m.sl (by omega) (by omega)
  have l5 := enc_len_ten (zig_bound (n := m.sl) (by omega) (by omega))
  have y6 := fint_any m.ro (by omega) (by omega)
  have l6 := enc_len_ten (zig_bound (n := m.ro) (by omega) (by omega))
  have y7 := fint_any m.se (by omega) (by omega)
  have l7 := enc_len_ten (zig_bound (n := m.se) (by omega) (by omega))
  have y8 := fint_any m.er (by omega) (by omega)
  have l8 := enc_len_ten (zig_bound (n := m.er) (by omega) (by omega))
  have y9 := fint_any (m.es.length : Int) (by omega) (by omega)
  have l9 := enc_len_ten (zig_bound (n := (m.es.length : Int)) (by omega) (by omega))
  obtain ⟨A1, hA1⟩ : ∃ A : ByteArray, A = ⟨(enc (zig m.k)).toArray⟩ := ⟨_, rfl⟩
  obtain ⟨A2, hA2⟩ : ∃ A : ByteArray, A = ⟨(enc (zig m.f)).toArray⟩ := ⟨_, rfl⟩
  obtain ⟨A3, hA3⟩ : ∃ A : ByteArray, A = ⟨(enc (zig m.t)).toArray⟩ := ⟨_, rfl⟩
  obtain ⟨A4, hA4⟩ : ∃ A : ByteArray, A = ⟨(enc (zig m.b)).toArray⟩ := ⟨_, rfl⟩
  obtain ⟨A5, hA5⟩ : ∃ A : ByteArray, A = ⟨(enc (zig m.sl)).toArray⟩ := ⟨_, rfl⟩
  obtain ⟨A6, hA6⟩ : ∃ A : ByteArray, A = ⟨(enc (zig m.ro)).toArray⟩ := ⟨_, rfl⟩
  obtain ⟨A7, hA7⟩ : ∃ A : ByteArray, A = ⟨(enc (zig m.se)).toArray⟩ := ⟨_, rfl⟩
  obtain ⟨A8, hA8⟩ : ∃ A : ByteArray, A = ⟨(enc (zig m.er)).toArray⟩ := ⟨_, rfl⟩
  obtain ⟨A9, hA9⟩ : ∃ A : ByteArray, A = ⟨(enc (zig (m.es.length : Int))).toArray⟩ := ⟨_, rfl⟩
  obtain ⟨B2, hB2⟩ : ∃ B : ByteArray, A1 ++ A2 = B := ⟨_, rfl⟩
  obtain ⟨B3, hB3⟩ : ∃ B : ByteArray, B2 ++ A3 = B := ⟨_, rfl⟩
  obtain ⟨B4, hB4⟩ : ∃ B : ByteArray, B3 ++ A4 = B := ⟨_, rfl⟩
  obtain ⟨B5, hB5⟩ : ∃ B : ByteArray, B4 ++ A5 = B := ⟨_, rfl⟩
  obtain ⟨B6, hB6⟩ : ∃ B : ByteArray, B5 ++ A6 = B := ⟨_, rfl⟩
  obtain ⟨B7, hB7⟩ : ∃ B : ByteArray, B6 ++ A7 = B := ⟨_, rfl⟩
  obtain ⟨B8, hB8⟩ : ∃ B : ByteArray, B7 ++ A8 = B := ⟨_, rfl⟩
  obtain ⟨B9, hB9⟩ : ∃ B : ByteArray, B8 ++ A9 = B := ⟨_, rfl⟩
  have z1 : A1.size ≤ 10 := by rw [hA1, size_list]; exact l1
  have z2 : A2.size ≤ 10 := by rw [hA2, size_list]; exact l2
  have z3 : A3.size ≤ 10 := by rw [hA3, size_list]; exact l3
  have z4 : A4.size ≤ 10 := by rw [hA4, size_list]; exact l4
  have z5 : A5.size ≤ 10 := by rw [hA5, size_list]; exact l5
  have z6 : A6.size ≤ 10 := by rw [hA6, size_list]; exact l6
  have z7 : A7.size ≤ 10 := by rw [hA7, size_list]; exact l7
  have z8 : A8.size ≤ 10 := by rw [hA8, size_list]; exact l8
  have z9 : A9.size ≤ 10 := by rw [hA9, size_list]; exact l9
  have u1 : A1.size ≤ 10 := z1
  have u2 : B2.size ≤ 20 := by rw [← hB2, ByteArray.size_append]; omega
  have u3 : B3.size ≤ 30 := by rw [← hB3, ByteArray.size_append]; omega
  have u4 : B4.size ≤ 40 := by rw [← hB4, ByteArray.size_append]; omega
  have u5 : B5.size ≤ 50 := by rw [← hB5, ByteArray.size_append]; omega
  have u6 : B6.size ≤ 60 := by rw [← hB6, ByteArray.size_append]; omega
  have u7 : B7.size ≤ 70 := by rw [← hB7, ByteArray.size_append]; omega
  have u8 : B8.size ≤ 80 := by rw [← hB8, ByteArray.size_append]; omega
  have u9 : B9.size ≤ 90 := by rw [← hB9, ByteArray.size_append]; omega
  have v2 : (9223372036854775807 < A1.size + A2.size) = False := eq_false (by omega)
  have v3 : (9223372036854775807 < B2.size + A3.size) = False := eq_false (by omega)
  have v4 : (9223372036854775807 < B3.size + A4.size) = False := eq_false (by omega)
  have v5 : (9223372036854775807 < B4.size + A5.size) = False := eq_false (by omega)
  have v6 : (9223372036854775807 < B5.size + A6.size) = False := eq_false (by omega)
  have v7 : (9223372036854775807 < B6.size + A7.size) = False := eq_false (by omega)
  have v8 : (9223372036854775807 < B7.size + A8.size) = False := eq_false (by omega)
  have v9 : (9223372036854775807 < B8.size + A9.size) = False := eq_false (by omega)
  have HB : Hid (B9 = ⟨(encH m).toArray⟩) := by
    show B9 = _
    rw [← hB9, ← hB8, ← hB7, ← hB6, ← hB5, ← hB4, ← hB3, ← hB2, hA1, hA2, hA3, hA4, hA5, hA6, hA7, hA8, hA9, append_lists, append_lists, append_lists, append_lists, append_lists, append_lists, append_lists, append_lists]
    unfold encH
    simp
  rw [← hA1] at y1
  rw [← hA2] at y2
  rw [← hA3] at y3
  rw [← hA4] at y4
  rw [← hA5] at y5
  rw [← hA6] at y6
  rw [← hA7] at y7
  rw [← hA8] at y8
  rw [← hA9] at y9
  have hH9 : (encH m).length ≤ 90 := by
    have : B9.size = (encH m).length := by rw [HB.out, size_list]
    omega
  have lc := encC_len hmc
  have ec : encT m.c = (⟨(encC m.c).toArray⟩, 0) := by unfold encT; rw [if_pos hmc]
  have qc := rencode_any m.c.kind m.c.session m.c.seq m.c.n m.c.name
  rw [show (⟨m.c.kind, m.c.session, m.c.seq, m.c.name, m.c.n⟩ : Cm) = m.c from rfl, ec] at qc
  obtain ⟨C1, hC1⟩ : ∃ A : ByteArray, A = ⟨(encC m.c).toArray⟩ := ⟨_, rfl⟩
  rw [← hC1] at qc
  have zC : C1.size ≤ 200 := by rw [hC1, size_list]; exact lc
  have yc := ftext_any C1 (by omega)
  obtain ⟨T1, hT1⟩ : ∃ A : ByteArray, A = ⟨(lenText C1).toArray⟩ := ⟨_, rfl⟩
  rw [← hT1] at yc
  have zT : T1.size ≤ 210 := by
    have := enc_len_ten (n := C1.size) (by omega)
    have := Lib.size_eq C1
    rw [hT1, size_list]
    unfold lenText
    rw [List.length_append]
    omega
  have x1 := fint_any m.rs (by omega) (by omega)
  have p1 := enc_len_ten (zig_bound (n := m.rs) (by omega) (by omega))
  obtain ⟨R1, hR1⟩ : ∃ A : ByteArray, A = ⟨(enc (zig m.rs)).toArray⟩ := ⟨_, rfl⟩
  have s1 : R1.size ≤ 10 := by rw [hR1, size_list]; exact p1
  have x2 := fint_any m.rq (by omega) (by omega)
  have p2 := enc_len_ten (zig_bound (n := m.rq) (by omega) (by omega))
  obtain ⟨R2, hR2⟩ : ∃ A : ByteArray, A = ⟨(enc (zig m.rq)).toArray⟩ := ⟨_, rfl⟩
  have s2 : R2.size ≤ 10 := by rw [hR2, size_list]; exact p2
  have x3 := fint_any m.re (by omega) (by omega)
  have p3 := enc_len_ten (zig_bound (n := m.re) (by omega) (by omega))
  obtain ⟨R3, hR3⟩ : ∃ A : ByteArray, A = ⟨(enc (zig m.re)).toArray⟩ := ⟨_, rfl⟩
  have s3 : R3.size ≤ 10 := by rw [hR3, size_list]; exact p3
  have x4 := fu64_any m.tk ht
  have p4 := enc_len_ten (n := m.tk) ht
  obtain ⟨R4, hR4⟩ : ∃ A : ByteArray, A = ⟨(enc m.tk).toArray⟩ := ⟨_, rfl⟩
  have s4 : R4.size ≤ 10 := by rw [hR4, size_list]; exact p4
  have x5 := fint_any m.rn (by omega) (by omega)
  have p5 := enc_len_ten (zig_bound (n := m.rn) (by omega) (by omega))
  obtain ⟨R5, hR5⟩ : ∃ A : ByteArray, A = ⟨(enc (zig m.rn)).toArray⟩ := ⟨_, rfl⟩
  have s5 : R5.size ≤ 10 := by rw [hR5, size_list]; exact p5
  have x6 := ftext_any m.x (by omega)
  obtain ⟨R6, hR6⟩ : ∃ A : ByteArray, A = ⟨(lenText m.x).toArray⟩ := ⟨_, rfl⟩
  have s6 : R6.size ≤ 524298 := by
    have := enc_len_ten (n := (m.x).size) (by omega)
    have := Lib.size_eq m.x
    rw [hR6, size_list]
    unfold lenText
    rw [List.length_append]
    omega
  obtain ⟨Q2, hQ2⟩ : ∃ B : ByteArray, R1 ++ R2 = B := ⟨_, rfl⟩
  have t2 : Q2.size ≤ 20 := by rw [← hQ2, ByteArray.size_append]; omega
  have o2 : (9223372036854775807 < R1.size + R2.size) = False := eq_false (by omega)
  obtain ⟨Q3, hQ3⟩ : ∃ B : ByteArray, Q2 ++ R3 = B := ⟨_, rfl⟩
  have t3 : Q3.size ≤ 30 := by rw [← hQ3, ByteArray.size_append]; omega
  have o3 : (9223372036854775807 < Q2.size + R3.size) = False := eq_false (by omega)
  obtain ⟨Q4, hQ4⟩ : ∃ B : ByteArray, Q3 ++ R4 = B := ⟨_, rfl⟩
  have t4 : Q4.size ≤ 40 := by rw [← hQ4, ByteArray.size_append]; omega
  have o4 : (9223372036854775807 < Q3.size + R4.size) = False := eq_false (by omega)
  obtain ⟨Q5, hQ5⟩ : ∃ B : ByteArray, Q4 ++ R5 = B := ⟨_, rfl⟩
  have t5 : Q5.size ≤ 50 := by rw [← hQ5, ByteArray.size_append]; omega
  have o5 : (9223372036854775807 < Q4.size + R5.size) = False := eq_false (by omega)
  obtain ⟨Q6, hQ6⟩ : ∃ B : ByteArray, Q5 ++ R6 = B := ⟨_, rfl⟩
  have t6 : Q6.size ≤ 524348 := by rw [← hQ6, ByteArray.size_append]; omega
  have o6 : (9223372036854775807 < Q5.size + R6.size) = False := eq_false (by omega)
  have hEs := encEs_len m.es hall
  obtain ⟨S1, hS1⟩ : ∃ A : ByteArray, A = ⟨(encH m ++ encEs m.es).toArray⟩ := ⟨_, rfl⟩
  have zS1 : S1.size ≤ 1024090 := by
    rw [hS1, size_list, List.length_append]
    omega
  obtain ⟨S2, hS2⟩ : ∃ B : ByteArray, S1 ++ T1 = B := ⟨_, rfl⟩
  have zS2 : S2.size ≤ 1024300 := by rw [← hS2, ByteArray.size_append]; omega
  have o7 : (9223372036854775807 < S1.size + T1.size) = False := eq_false (by omega)
  obtain ⟨S3, hS3⟩ : ∃ B : ByteArray, S2 ++ Q6 = B := ⟨_, rfl⟩
  have o8 : (9223372036854775807 < S2.size + Q6.size) = False := eq_false (by omega)
  have HS : S3 = ⟨(encM m).toArray⟩ := by
    rw [← hS3, ← hS2, ← hQ6, ← hQ5, ← hQ4, ← hQ3, ← hQ2, hR1, hR2, hR3, hR4, hR5, hR6, hT1, hS1, hC1]
    simp only [append_lists]
    unfold encM encR
    simp
  have zS3 : S3.size = (encM m).length := by rw [HS, size_list]
  rw [← hR1] at x1
  rw [← hR2] at x2
  rw [← hR3] at x3
  rw [← hR4] at x4
  rw [← hR5] at x5
  rw [← hR6] at x6
  have HS1 : Hid (S1 = ⟨(encH m ++ encEs m.es).toArray⟩) := hS1
  have HN : (encMT m = (S3, 0) ∧ (S3.size : Int) ≤ 524288) ∨ (encMT m = (⟨#[]⟩, 1) ∧ (524288 : Int) < (S3.size : Int)) := by
    unfold encMT
    by_cases hb : (encM m).length ≤ 524288
    · rw [if_pos ⟨hm, hb⟩, HS]
      exact Or.inl ⟨rfl, by rw [← HS]; omega⟩
    · rw [if_neg (fun h => hb h.2)]
      exact Or.inr ⟨rfl, by omega⟩
  have HE : ∀ k (hk : k < m.es.length), mayE m.es[k] = true := fun k hk => List.all_eq_true.1 hall _ (List.getElem_mem hk)
  have HL : ∀ k, k ≤ m.es.length → (encEs (m.es.take k)).length ≤ 1024000 := fun k hk => by
    have h1 : (m.es.take k).all mayE = true := by
      rw [List.all_eq_true] at hall ⊢
      exact fun x hx => hall x (List.mem_of_mem_take hx)
    have h2 := encEs_len _ h1
    rw [List.length_take] at h2
    omega
  clear hR2 s2 t2 hR3 s3 t3 hR4 s4 t4 hR5 s5 t5 hR6 s6 t6 hR1 s1 p1 p2 p3 p4 p5 hS1 hT1 hC1 zC zT zS1 zS2 HS zS3 lc ec hEs hall
  clear hA1 l1 z1 u1 hA2 l2 z2 u2 hA3 l3 z3 u3 hA4 l4 z4 u4 hA5 l5 z5 u5 hA6 l6 z6 u6 hA7 l7 z7 u7 hA8 l8 z8 u8 hA9 l9 z9 k1 k2 k3 k4 k5 k6 k7 k8 k12 k13 k14 k15
  go_enter Try.func8, Try.ntmps8
  go_wp2_with (first
    | (refine wpList_load_row rfl 30 _ rfl w.heap.size rfl 30 _ (0, 0) _ hg Try.underlying30 rfl info30 ?_)
    | (go_at_call 23; refine q0.mono ?_; rintro e w1 ⟨rfl, b1⟩))
  have i1 := i0.below b1
  have j1 := j0.below b1
  have g1x0 := i1.c0
  have g1x1 := i1.c1
  have g1x2 := i1.c2
  have g1x3 := i1.c3
  have g1x4 := i1.c4
  have g1x5 := i1.c5
  have g1x6 := i1.c6
  have g1x7 := i1.c7
  have g1x8 := i1.c8
  have f1 := bmm ba ba.size b1
  clear ba q0 i0 j0 hg
  go_region_held3 (fun w' => w'.cell? ⟨w.heap.size, 0, none⟩ = some (.int .i64 m.k) ∧ w'.cell? ⟨w.heap.size, 1, none⟩ = some (.int .i64 m.f) ∧ w'.cell? ⟨w.heap.size, 2, none⟩ = some (.int .i64 m.t) ∧ w'.cell? ⟨w.heap.size, 3, none⟩ = some (.int .i64 m.b) ∧ w'.cell? ⟨w.heap.size, 4, none⟩ = some (.int .i64 m.sl) ∧ w'.cell? ⟨w.heap.size, 5, none⟩ = some (.int .i64 m.ro) ∧ w'.cell? ⟨w.heap.size, 6, none⟩ = some (.int .i64 m.se) ∧ w'.cell? ⟨w.heap.size, 7, none⟩ = some (.int .i64 m.er) ∧ w'.cell? ⟨w.heap.size, 8, none⟩ = some (.slice a m.es.length cap)) (go_keep)
    (first
      | (go_at_call 24; have r9 := d8; refine (y9 _).mono ?_; rintro e w10 ⟨rfl, b10⟩; have i10 := i9.below b10; have g10x0 := i10.c0; have g10x1 := i10.c1; have g10x2 := i10.c2; have g10x3 := i10.c3; have g10x4 := i10.c4; have g10x5 := i10.c5; have g10x6 := i10.c6; have g10x7 := i10.c7; have g10x8 := i10.c8; have j10 := j9.below b10; have f10 := bmm f9 f9.size b10; have d9 : True := trivial)
      | (go_at_call 24; have r8 := d7; refine (y8 _).mono ?_; rintro e w9 ⟨rfl, b9⟩; have i9 := i8.below b9; have g9x0 := i9.c0; have g9x1 := i9.c1; have g9x2 := i9.c2; have g9x3 := i9.c3; have g9x4 := i9.c4; have g9x5 := i9.c5; have g9x6 := i9.c6; have g9x7 := i9.c7; have g9x8 := i9.c8; have j9 := j8.below b9; have f9 := bmm f8 f8.size b9; have d8 : True := trivial)
      | (go_at_call 24; have r7 := d6; refine (y7 _).mono ?_; rintro e w8 ⟨rfl, b8⟩; have i8 := i7.below b8; have g8x0 := i8.c0; have g8x1 := i8.c1; have g8x2 := i8.c2; have g8x3 := i8.c3; have g8x4 := i8.c4; have g8x5 := i8.c5; have g8x6 := i8.c6; have g8x7 := i8.c7; have g8x8 := i8.c8; have j8 := j7.below b8; have f8 := bmm f7 f7.size b8; have d7 : True := trivial)
      | (go_at_call 24; have r6 := d5; refine (y6 _).mono ?_; rintro e w7 ⟨rfl, b7⟩; have i7 := i6.below b7; have g7x0 := i7.c0; have g7x1 := i7.c1; have g7x2 := i7.c2; have g7x3 := i7.c3; have g7x4 := i7.c4; have g7x5 := i7.c5; have g7x6 := i7.c6; have g7x7 := i7.c7; have g7x8 := i7.c8; have j7 := j6.below b7; have f7 := bmm f6 f6.size b7; have d6 : True := trivial)
      | (go_at_call 24; have r5 := d4; refine (y5 _).mono ?_; rintro e w6 ⟨rfl, b6⟩; have i6 := i5.below b6; have g6x0 := i6.c0; have g6x1 := i6.c1; have g6x2 := i6.c2; have g6x3 := i6.c3; have g6x4 := i6.c4; have g6x5 := i6.c5; have g6x6 := i6.c6; have g6x7 := i6.c7; have g6x8 := i6.c8; have j6 := j5.below b6; have f6 := bmm f5 f5.size b6; have d5 : True := trivial)
      | (go_at_call 24; have r4 := d3; refine (y4 _).mono ?_; rintro e w5 ⟨rfl, b5⟩; have i5 := i4.below b5; have g5x0 := i5.c0; have g5x1 := i5.c1; have g5x2 := i5.c2; have g5x3 := i5.c3; have g5x4 := i5.c4; have g5x5 := i5.c5; have g5x6 := i5.c6; have g5x7 := i5.c7; have g5x8 := i5.c8; have j5 := j4.below b5; have f5 := bmm f4 f4.size b5; have d4 : True := trivial)
      | (go_at_call 24; have r3 := d2; refine (y3 _).mono ?_; rintro e w4 ⟨rfl, b4⟩; have i4 := i3.below b4; have g4x0 := i4.c0; have g4x1 := i4.c1; have g4x2 := i4.c2; have g4x3 := i4.c3; have g4x4 := i4.c4; have g4x5 := i4.c5; have g4x6 := i4.c6; have g4x7 := i4.c7; have g4x8 := i4.c8; have j4 := j3.below b4; have f4 := bmm f3 f3.size b4; have d3 : True := trivial)
      | (go_at_call 24; have r2 := d1; refine (y2 _).mono ?_; rintro e w3 ⟨rfl, b3⟩; have i3 := i2.below b3; have g3x0 := i3.c0; have g3x1 := i3.c1; have g3x2 := i3.c2; have g3x3 := i3.c3; have g3x4 := i3.c4; have g3x5 := i3.c5; have g3x6 := i3.c6; have g3x7 := i3.c7; have g3x8 := i3.c8; have j3 := j2.below b3; have f3 := bmm f2 f2.size b3; have d2 : True := trivial)
      | (go_at_call 24; refine (y1 _).mono ?_; rintro e w2 ⟨rfl, b2'⟩; have b2 := undrew b2'; have i2 := i1.below b2; have g2x0 := i2.c0; have g2x1 := i2.c1; have g2x2 := i2.c2; have g2x3 := i2.c3; have g2x4 := i2.c4; have g2x5 := i2.c5; have g2x6 := i2.c6; have g2x7 := i2.c7; have g2x8 := i2.c8; have j2 := j1.below b2; have f2 := bmm f1 f1.size b2; have d1 : True := trivial))
  have hlt := i10.lt
  clear b3 i3 j3 f3 b4 i4 j4 f4 b5 i5 j5 f5 b6 i6 j6 f6 b7 i7 j7 f7 b8 i8 j8 f8 b9 i9 j9 f9 b2' b2 i1 i2 j1 j2 f1 f2 b1 b10 d1 d2 d3 d4 d5 d6 d7 d8 d9 r2 r3 r4 r5 r6 r7 r8 r9 y1 y2 y3 y4 y5 y6 y7 y8 y9 v2 v3 v4 v5 v6 v7 v8 v9
  go_wp2
  go_loopw [4, 5] (fun s i wr => ∃ (k : Nat) (S : ByteArray), k ≤ m.es.length ∧ i = .int .i64 k ∧ s = .string S ∧ Hid (S = ⟨(encH m ++ encEs (m.es.take k)).toArray⟩) ∧ Below w10.heap.size w10 wr) (fun _ i _ => m.es.length - (intOf i).toNat)
  case atStart =>
    refine ⟨0, B9, Nat.zero_le _, rfl, rfl, ?_, Below.refl _ _⟩
    show B9 = _
    rw [HB.out]
    simp [encEs]
  case round =>
    obtain ⟨k, S, hk, rfl, rfl, HK, hb⟩ := hrel
    have i11 := i10.below hb
    have c8 := i11.c8
    by_cases hkl : k < m.es.length
    · rcases hes with h0 | ⟨bk, off, rfl, hbk, hX⟩
      · omega
      obtain ⟨e, he⟩ : ∃ e, e = m.es[k] := ⟨_, rfl⟩
      have hbk10 := Nat.lt_of_lt_of_le hbk f10.size
      have z := ((hX k hkl).below hbk f10).below hbk10 hb
      have hme := HE k hkl
      rw [← he] at z hme
      have z0 := z.c0
      have z1 := z.c1
      have z2 := z.c2
      have z3 := z.c3
      have z4 := z.c4
      have z5 := z.c5
      have z6 := z.c6
      have qe := rencodeE_any e.slot e.ballot e.cmd.kind e.cmd.session e.cmd.seq e.cmd.n e.cmd.name
      rw [show (⟨e.slot, e.ballot, ⟨e.cmd.kind, e.cmd.session, e.cmd.seq, e.cmd.name, e.cmd.n⟩⟩ : En) = e from rfl, show encET e = (⟨(encE e).toArray⟩, 0) by unfold encET; rw [if_pos hme]] at qe
      have le := encE_len hme
      obtain ⟨E1, hE1⟩ : ∃ A : ByteArray, A = ⟨(encE e).toArray⟩ := ⟨_, rfl⟩
      rw [← hE1] at qe
      have zE : E1.size ≤ 240 := by rw [hE1, size_list]; exact le
      have ye := ftext_any E1 (by omega)
      obtain ⟨X1, hX1⟩ : ∃ A : ByteArray, A = ⟨(lenText E1).toArray⟩ := ⟨_, rfl⟩
      rw [← hX1] at ye
      have zX : X1.size ≤ 250 := by
        have := enc_len_ten (n := E1.size) (by omega)
        have := Lib.size_eq E1
        rw [hX1, size_list]
        unfold lenText
        rw [List.length_append]
        omega
      have zS : S.size ≤ 1024090 := by
        have := HL k hk
        rw [HK.out, size_list, List.length_append]
        omega
      obtain ⟨S', hS'⟩ : ∃ B : ByteArray, S ++ X1 = B := ⟨_, rfl⟩
      have oX : (9223372036854775807 < S.size + X1.size) = False := eq_false (by omega)
      have HS' : Hid (S' = ⟨(encH m ++ encEs (m.es.take (k + 1))).toArray⟩) := by
        show S' = _
        rw [← hS', HK.out, hX1, hE1, append_lists, List.take_add_one, List.getElem?_eq_getElem hkl, ← he]
        simp only [Option.toList_some]
        rw [encEs_snoc, List.append_assoc]
      clear hX hv z he hme le hE1 hX1 zX zS zE HK HL HE
      go_wp2_with (first
        | (go_at_call 26; refine (ye _).mono ?_; rintro e' w13 ⟨rfl, b13⟩)
        | (go_at_call 25; refine (qe _).mono ?_; rintro e' w12 ⟨rfl, b12⟩))
      go_roundw
      case rel => exact ⟨k + 1, S', hkl, by go_num, rfl, HS', (hb.trans (b12.mono hb.size)).trans (b13.mono (Nat.le_trans hb.size b12.size))⟩
      case measure => simp [intOf]; omega
    · have hke : k = m.es.length := by omega
      subst hke
      obtain rfl : S = S1 := by rw [HK.out, HS1.out, List.take_length]
      clear HK HS1 HB HL HE hes hv hk hkl
      have c8 := i11.c8
      have c9 := i11.c9
      have c10 := i11.c10
      have c11 := i11.c11
      have c12 := i11.c12
      have c13 := i11.c13
      have c14 := i11.c14
      have c15 := i11.c15
      have c16 := i11.c16
      have c17 := i11.c17
      have c18 := i11.c18
      have c19 := i11.c19
      have f11 := bmm f10 f10.size hb
      have lt11 := i11.lt
      rcases HN with ⟨hE, hN⟩ | ⟨hE, hN⟩
      · go_wp2_with (first
          | (go_at_call 26; refine (yc _).mono ?_; rintro e w13 ⟨rfl, b13⟩; have i13 := i12.below b13; have f13 := bmm f12 f12.size b13; have k14 := i13.c14; have k15 := i13.c15; have k16 := i13.c16; have k17 := i13.c17; have k18 := i13.c18; have k19 := i13.c19; have lt13 := i13.lt)
          | (go_at_call 27; refine (qc _).mono ?_; rintro e w12 ⟨rfl, b12⟩; have i12 := i11.below b12; have f12 := bmm f11 f11.size b12))
        have r13 := RBox.fresh w13 m
        have i13' := i13.below ((Below.refl _ w13).alloc (Nat.le_refl _) (.cells #[.int .i64 m.rs, .int .i64 m.rq, .int .i64 m.re, .int .u64 m.tk, .int .i64 m.rn] 28))
        have f13' := f13.alloc f13.size (.cells #[.int .i64 m.rs, .int .i64 m.rq, .int .i64 m.re, .int .u64 m.tk, .int .i64 m.rn] 28)
        have ltR : w.heap.size < (w13.alloc (.cells #[.int .i64 m.rs, .int .i64 m.rq, .int .i64 m.re, .int .u64 m.tk, .int .i64 m.rn] 28)).heap.size := i13'.lt
        obtain ⟨u13, hu⟩ : ∃ u, u = w13.alloc (.cells #[.int .i64 m.rs, .int .i64 m.rq, .int .i64 m.re, .int .u64 m.tk, .int .i64 m.rn] 28) := ⟨_, rfl⟩
        obtain ⟨P13, hP⟩ : ∃ P, P = w13.heap.size := ⟨_, rfl⟩
        rw [← hP] at r13
        rw [← hu] at r13 i13' f13' ltR
        rw [← hu, ← hP]
        clear hu hP
        have h13x0 := r13.c0
        have h13x1 := r13.c1
        have h13x2 := r13.c2
        have h13x3 := r13.c3
        have h13x4 := r13.c4
        have h13x19 := i13'.c19
        go_region_held3 (fun w' => w'.cell? ⟨P13, 0, none⟩ = some (.int .i64 m.rs) ∧ w'.cell? ⟨P13, 1, none⟩ = some (.int .i64 m.rq) ∧ w'.cell? ⟨P13, 2, none⟩ = some (.int .i64 m.re) ∧ w'.cell? ⟨P13, 3, none⟩ = some (.int .u64 m.tk) ∧ w'.cell? ⟨P13, 4, none⟩ = some (.int .i64 m.rn) ∧ w'.cell? ⟨w.heap.size, 19, none⟩ = some (.string m.x)) (go_keep)
          (first
            | (go_at_call 26; have q6 := e5; refine (x6 _).mono ?_; rintro e w19 ⟨rfl, b19⟩; have i19 := i18.below b19; have r19 := r18.below b19; have h19x0 := r19.c0; have h19x1 := r19.c1; have h19x2 := r19.c2; have h19x3 := r19.c3; have h19x4 := r19.c4; have h19x19 := i19.c19; have f19 := bmm f18 f18.size b19; have e6 : True := trivial)
            | (go_at_call 24; have q5 := e4; refine (x5 _).mono ?_; rintro e w18 ⟨rfl, b18⟩; have i18 := i17.below b18; have r18 := r17.below b18; have h18x0 := r18.c0; have h18x1 := r18.c1; have h18x2 := r18.c2; have h18x3 := r18.c3; have h18x4 := r18.c4; have h18x19 := i18.c19; have f18 := bmm f17 f17.size b18; have e5 : True := trivial)
            | (go_at_call 28; have q4 := e3; refine (x4 _).mono ?_; rintro e w17 ⟨rfl, b17⟩; have i17 := i16.below b17; have r17 := r16.below b17; have h17x0 := r17.c0; have h17x1 := r17.c1; have h17x2 := r17.c2; have h17x3 := r17.c3; have h17x4 := r17.c4; have h17x19 := i17.c19; have f17 := bmm f16 f16.size b17; have e4 : True := trivial)
            | (go_at_call 24; have q3 := e2; refine (x3 _).mono ?_; rintro e w16 ⟨rfl, b16⟩; have i16 := i15.below b16; have r16 := r15.below b16; have h16x0 := r16.c0; have h16x1 := r16.c1; have h16x2 := r16.c2; have h16x3 := r16.c3; have h16x4 := r16.c4; have h16x19 := i16.c19; have f16 := bmm f15 f15.size b16; have e3 : True := trivial)
            | (go_at_call 24; have q2 := e1; refine (x2 _).mono ?_; rintro e w15 ⟨rfl, b15⟩; have i15 := i14.below b15; have r15 := r14.below b15; have h15x0 := r15.c0; have h15x1 := r15.c1; have h15x2 := r15.c2; have h15x3 := r15.c3; have h15x4 := r15.c4; have h15x19 := i15.c19; have f15 := bmm f14 f14.size b15; have e2 : True := trivial)
            | (go_at_call 24; refine (x1 _).mono ?_; rintro e w14 ⟨rfl, b14'⟩; have b14 := undrew b14'; have i14 := i13'.below b14; have r14 := r13.below b14; have h14x0 := r14.c0; have h14x1 := r14.c1; have h14x2 := r14.c2; have h14x3 := r14.c3; have h14x4 := r14.c4; have h14x19 := i14.c19; have f14 := bmm f13' f13'.size b14; have e1 : True := trivial))
        go_wp2
        go_ret2
        rw [hE]
        exact ⟨rfl, f19⟩
      · go_wp2_with (first
          | (go_at_call 26; refine (yc _).mono ?_; rintro e w13 ⟨rfl, b13⟩; have i13 := i12.below b13; have f13 := bmm f12 f12.size b13; have k14 := i13.c14; have k15 := i13.c15; have k16 := i13.c16; have k17 := i13.c17; have k18 := i13.c18; have k19 := i13.c19; have lt13 := i13.lt)
          | (go_at_call 27; refine (qc _).mono ?_; rintro e w12 ⟨rfl, b12⟩; have i12 := i11.below b12; have f12 := bmm f11 f11.size b12))
        have r13 := RBox.fresh w13 m
        have i13' := i13.below ((Below.refl _ w13).alloc (Nat.le_refl _) (.cells #[.int .i64 m.rs, .int .i64 m.rq, .int .i64 m.re, .int .u64 m.tk, .int .i64 m.rn] 28))
        have f13' := f13.alloc f13.size (.cells #[.int .i64 m.rs, .int .i64 m.rq, .int .i64 m.re, .int .u64 m.tk, .int .i64 m.rn] 28)
        have ltR : w.heap.size < (w13.alloc (.cells #[.int .i64 m.rs, .int .i64 m.rq, .int .i64 m.re, .int .u64 m.tk, .int .i64 m.rn] 28)).heap.size := i13'.lt
        obtain ⟨u13, hu⟩ : ∃ u, u = w13.alloc (.cells #[.int .i64 m.rs, .int .i64 m.rq, .int .i64 m.re, .int .u64 m.tk, .int .i64 m.rn] 28) := ⟨_, rfl⟩
        obtain ⟨P13, hP⟩ : ∃ P, P = w13.heap.size := ⟨_, rfl⟩
        rw [← hP] at r13
        rw [← hu] at r13 i13' f13' ltR
        rw [← hu, ← hP]
        clear hu hP
        have h13x0 := r13.c0
        have h13x1 := r13.c1
        have h13x2 := r13.c2
        have h13x3 := r13.c3
        have h13x4 := r13.c4
        have h13x19 := i13'.c19
        go_region_held3 (fun w' => w'.cell? ⟨P13, 0, none⟩ = some (.int .i64 m.rs) ∧ w'.cell? ⟨P13, 1, none⟩ = some (.int .i64 m.rq) ∧ w'.cell? ⟨P13, 2, none⟩ = some (.int .i64 m.re) ∧ w'.cell? ⟨P13, 3, none⟩ = some (.int .u64 m.tk) ∧ w'.cell? ⟨P13, 4, none⟩ = some (.int .i64 m.rn) ∧ w'.cell? ⟨w.heap.size, 19, none⟩ = some (.string m.x)) (go_keep)
          (first
            | (go_at_call 26; have q6 := e5; refine (x6 _).mono ?_; rintro e w19 ⟨rfl, b19⟩; have i19 := i18.below b19; have r19 := r18.below b19; have h19x0 := r19.c0; have h19x1 := r19.c1; have h19x2 := r19.c2; have h19x3 := r19.c3; have h19x4 := r19.c4; have h19x19 := i19.c19; have f19 := bmm f18 f18.size b19; have e6 : True := trivial)
            | (go_at_call 24; have q5 := e4; refine (x5 _).mono ?_; rintro e w18 ⟨rfl, b18⟩; have i18 := i17.below b18; have r18 := r17.below b18; have h18x0 := r18.c0; have h18x1 := r18.c1; have h18x2 := r18.c2; have h18x3 := r18.c3; have h18x4 := r18.c4; have h18x19 := i18.c19; have f18 := bmm f17 f17.size b18; have e5 : True := trivial)
            | (go_at_call 28; have q4 := e3; refine (x4 _).mono ?_; rintro e w17 ⟨rfl, b17⟩; have i17 := i16.below b17; have r17 := r16.below b17; have h17x0 := r17.c0; have h17x1 := r17.c1; have h17x2 := r17.c2; have h17x3 := r17.c3; have h17x4 := r17.c4; have h17x19 := i17.c19; have f17 := bmm f16 f16.size b17; have e4 : True := trivial)
            | (go_at_call 24; have q3 := e2; refine (x3 _).mono ?_; rintro e w16 ⟨rfl, b16⟩; have i16 := i15.below b16; have r16 := r15.below b16; have h16x0 := r16.c0; have h16x1 := r16.c1; have h16x2 := r16.c2; have h16x3 := r16.c3; have h16x4 := r16.c4; have h16x19 := i16.c19; have f16 := bmm f15 f15.size b16; have e3 : True := trivial)
            | (go_at_call 24; have q2 := e1; refine (x2 _).mono ?_; rintro e w15 ⟨rfl, b15⟩; have i15 := i14.below b15; have r15 := r14.below b15; have h15x0 := r15.c0; have h15x1 := r15.c1; have h15x2 := r15.c2; have h15x3 := r15.c3; have h15x4 := r15.c4; have h15x19 := i15.c19; have f15 := bmm f14 f14.size b15; have e2 : True := trivial)
            | (go_at_call 24; refine (x1 _).mono ?_; rintro e w14 ⟨rfl, b14'⟩; have b14 := undrew b14'; have i14 := i13'.below b14; have r14 := r13.below b14; have h14x0 := r14.c0; have h14x1 := r14.c1; have h14x2 := r14.c2; have h14x3 := r14.c3; have h14x4 := r14.c4; have h14x19 := i14.c19; have f14 := bmm f13' f13'.size b14; have e1 : True := trivial))
        go_wp2
        go_ret2
        rw [hE]
        exact ⟨rfl, f19⟩

/-- Encode. -/
theorem mencode_any (m : Ms) (v : Value) (w : World) (hv : EntAt w v m.es) (hn : m.es.length ≤ 9223372036854775807) (ht : m.tk < 18446744073709551616) :
    Calls Try.prog 8 #[.agg #[.int .i64 m.k, .int .i64 m.f, .int .i64 m.t, .int .i64 m.b, .int .i64 m.sl, .int .i64 m.ro, .int .i64 m.se, .int .i64 m.er, v, .int .i64 m.c.kind, .int .i64 m.c.session, .int .i64 m.c.seq, .string m.c.name, .int .i64 m.c.n, .int .i64 m.rs, .int .i64 m.rq, .int .i64 m.re, .int .u64 m.tk, .int .i64 m.rn, .string m.x]] w fun e w' => e = .returned (.tuple #[.string (encMT m).1, .int .i64 (encMT m).2]) ∧ Below w.heap.size w w' := by
  cases hm : mayM m with
  | true => exact mencode_yes m v w hv hn ht hm
  | false =>
    have e : encMT m = (⟨#[]⟩, 1) := by
      unfold encMT
      rw [if_neg (fun h => by rw [hm] at h; cases h.1)]
    rw [e]
    exact mencode_no m v w hv hn hm
end Go.Proofs.Ytmmdcbgmhjheeaa
