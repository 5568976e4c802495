/-
  Package session: one session written, as the document's plain bytes. The conditions: what is written lies above the sessions; at most 2^26 bytes so far.
-/
import Derived.Test.YthokbififjhflaaSeLife
import Derived.Test.YthokbififjhflaaWriter
import Derived.Handy
namespace Go.Proofs.Ythokbififjhflaa
open Go.RowKit

structure WrP (w : World) (B : Nat) (bs : List UInt8) (e : Ending) (w' : World) : Prop where
  ex : e = .returned (.tuple #[]) ∧ ∃ v, Wr B w' B v bs ∧ Below B w w'
theorem swint {B : Nat} {v : Value} {bs : List UInt8} {w : World} {n : Int} (hn : okI n) (hb : bs.length ≤ 140737488355000) (h : Wr B w B v bs) :
    Calls Try.prog 32 #[.pointer (some ⟨B, 0, none⟩), .int .i64 n] w (WrP w B (bs ++ seI n)) :=
  (wint_any B B v bs n hn.1 hn.2 w h (by omega)).mono fun _ _ ⟨he, v', hw, hk, _⟩ => ⟨he, v', hw, h.below hk⟩
theorem swu64 {B : Nat} {v : Value} {bs : List UInt8} {w : World} {n : Nat} (hn : n < 18446744073709551616) (hb : bs.length ≤ 140737488355000) (h : Wr B w B v bs) :
    Calls Try.prog 54 #[.pointer (some ⟨B, 0, none⟩), .int .u64 n] w (WrP w B (bs ++ enc n)) :=
  (wu64_any B B v bs n hn w h (by omega)).mono fun _ _ ⟨he, v', hw, hk, _⟩ => ⟨he, v', hw, h.below hk⟩
theorem Wr.new (w : World) : Wr w.heap.size (w.alloc (.cells #[.slice none 0 0] 102)) w.heap.size (.slice none 0 0) [] :=
  ⟨Nat.le_refl _, heap_alloc_new w _, World.ownsRow_nil _ _ _ _⟩
theorem okI_of {n : Int} (h1 : -9223372036854775808 ≤ n) (h2 : n ≤ 9223372036854775807) : okI n := ⟨h1, h2⟩
set_option maxRecDepth 100000 in
set_option maxHeartbeats 8000000 in
theorem write_any {w : World} {base X B : Nat} {S : Nat → Prop} {l : List SeX} {v : Value} {bs : List UInt8} (h : SeAt w base X S l) (hS : ∀ g, S g → g < B) {i : Nat} {x : SeX} (hx : l[i]? = some x) (hw : Wr B w B v bs) (hb : bs.length ≤ 100000000) :
    Calls Try.prog 33 #[.pointer (some ⟨X, 0, none⟩), .pointer (some ⟨B, 0, none⟩), .int .i64 ((i : Int) + 1)] w (WrP w B (bs ++ seRow ((i : Int) + 1) x)) := by
  obtain ⟨ma, mo, la, lo, ps, L, hM⟩ := h.ex
  have hil := (List.getElem?_eq_some_iff.1 hx).1
  have hln := h.len
  have ho := h.ok.each i x hx
  have hat : seAt l ((i : Int) + 1) = some x := by rw [seAt_nat]; exact hx
  have hid : okI ((i : Int) + 1) := okI_of (by omega) (by omega)
  obtain ⟨b, e1, _, e5, hB⟩ := hM.sess hat
  have c0 : w.cell? ⟨X, 0, none⟩ = some (.map (some ma)) := hM.cell 0 _ rfl
  have c1 : w.cell? ⟨X, 1, none⟩ = some (.map (some mo)) := hM.cell 1 _ rfl
  have hlk := hM.lookA1 hid
  have hlo := hM.lookO hid
  have e2 : seOp l ((i : Int) + 1) = x.op := by unfold seOp; rw [hat]
  rw [e1] at hlk
  rw [e2] at hlo
  simp only [seV] at hlk
  obtain ⟨u, hu⟩ : ∃ u, u = seV (if x.op = true then sePt ps ((i : Int) + 1) else none) := ⟨_, rfl⟩
  rw [← hu] at hlo
  obtain ⟨T, hT⟩ : ∃ T : Nat, x.r.token = T := ⟨x.r.token.toNat, by have := ho.r.t0; omega⟩
  have hTb : T < 18446744073709551616 := by have := ho.r.t1; omega
  have hbb : b < B := hS b (hM.inP e5)
  have HB : Hid (∀ y, Below B w y → SeB y b x) := fun y k => (k.block b hbb).trans hB
  have bo := seBit_le x.op
  have bs2 := seBit_le x.said
  have q1 := ho.c0; have q2 := ho.c1; have q3 := ho.l0; have q4 := ho.l1; have q5 := ho.q0; have q6 := ho.q1; have q7 := ho.r.e0; have q8 := ho.r.e1; have q9 := ho.r.n0; have q10 := ho.r.n1
  obtain ⟨L1, hL1⟩ : ∃ L : List UInt8, L = bs ++ seI ((i : Int) + 1) := ⟨_, rfl⟩
  have n1 : L1.length ≤ 100000000 + 10 := by rw [hL1, List.length_append]; have := seI_len (n := (i : Int) + 1) (by omega) (by omega); omega
  obtain ⟨L2, hL2⟩ : ∃ L : List UInt8, L = L1 ++ seI (x.client) := ⟨_, rfl⟩
  have n2 : L2.length ≤ 100000000 + 20 := by rw [hL2, List.length_append]; have := seI_len (n := x.client) (by omega) (by omega); omega
  obtain ⟨L3, hL3⟩ : ∃ L : List UInt8, L = L2 ++ seI (x.life) := ⟨_, rfl⟩
  have n3 : L3.length ≤ 100000000 + 30 := by rw [hL3, List.length_append]; have := seI_len (n := x.life) (by omega) (by omega); omega
  obtain ⟨L4, hL4⟩ : ∃ L : List UInt8, L = L3 ++ seI (seBit x.op) := ⟨_, rfl⟩
  have n4 : L4.length ≤ 100000000 + 40 := by rw [hL4, List.length_append]; have := seI_len (n := seBit x.op) (by omega) (by omega); omega
  obtain ⟨L5, hL5⟩ : ∃ L : List UInt8, L = L4 ++ seI (x.seq) := ⟨_, rfl⟩
  have n5 : L5.length ≤ 100000000 + 50 := by rw [hL5, List.length_append]; have := seI_len (n := x.seq) (by omega) (by omega); omega
  obtain ⟨L6, hL6⟩ : ∃ L : List UInt8, L = L5 ++ seI (seBit x.said) := ⟨_, rfl⟩
  have n6 : L6.length ≤ 100000000 + 60 := by rw [hL6, List.length_append]; have := seI_len (n := seBit x.said) (by omega) (by omega); omega
  obtain ⟨L7, hL7⟩ : ∃ L : List UInt8, L = L6 ++ seI (x.r.err) := ⟨_, rfl⟩
  have n7 : L7.length ≤ 100000000 + 70 := by rw [hL7, List.length_append]; have := seI_len (n := x.r.err) (by omega) (by omega); omega
  obtain ⟨L8, hL8⟩ : ∃ L : List UInt8, L = L7 ++ enc T := ⟨_, rfl⟩
  have n8 : L8.length ≤ 100000000 + 80 := by rw [hL8, List.length_append]; have := enc_len_ten hTb; omega
  obtain ⟨L9, hL9⟩ : ∃ L : List UInt8, L = L8 ++ seI (x.r.n) := ⟨_, rfl⟩
  have n9 : L9.length ≤ 100000000 + 90 := by rw [hL9, List.length_append]; have := seI_len (n := x.r.n) (by omega) (by omega); omega
  have HE : Hid (bs ++ seRow ((i : Int) + 1) x = L9) := by
    show bs ++ seRow ((i : Int) + 1) x = L9
    rw [hL9, hL8, hL7, hL6, hL5, hL4, hL3, hL2, hL1]
    unfold seRow
    rw [hT]
    simp
  have C1 : Hid (∀ y v, Wr B y B v bs → Calls Try.prog 32 #[.pointer (some ⟨B, 0, none⟩), .int .i64 ((i : Int) + 1)] y (WrP y B L1)) := fun y v hv => by rw [hL1]; exact swint (okI_of (by omega) (by omega)) (by omega) hv
  have C2 : Hid (∀ y v, Wr B y B v L1 → Calls Try.prog 32 #[.pointer (some ⟨B, 0, none⟩), .int .i64 (x.client)] y (WrP y B L2)) := fun y v hv => by rw [hL2]; exact swint (okI_of (by omega) (by omega)) (by omega) hv
  have C3 : Hid (∀ y v, Wr B y B v L2 → Calls Try.prog 32 #[.pointer (some ⟨B, 0, none⟩), .int .i64 (x.life)] y (WrP y B L3)) := fun y v hv => by rw [hL3]; exact swint (okI_of (by omega) (by omega)) (by omega) hv
  have C4 : Hid (∀ y v, Wr B y B v L3 → Calls Try.prog 32 #[.pointer (some ⟨B, 0, none⟩), .int .i64 (seBit x.op)] y (WrP y B L4)) := fun y v hv => by rw [hL4]; exact swint (okI_of (by omega) (by omega)) (by omega) hv
  have C5 : Hid (∀ y v, Wr B y B v L4 → Calls Try.prog 32 #[.pointer (some ⟨B, 0, none⟩), .int .i64 (x.seq)] y (WrP y B L5)) := fun y v hv => by rw [hL5]; exact swint (okI_of (by omega) (by omega)) (by omega) hv
  have C6 : Hid (∀ y v, Wr B y B v L5 → Calls Try.prog 32 #[.pointer (some ⟨B, 0, none⟩), .int .i64 (seBit x.said)] y (WrP y B L6)) := fun y v hv => by rw [hL6]; exact swint (okI_of (by omega) (by omega)) (by omega) hv
  have C7 : Hid (∀ y v, Wr B y B v L6 → Calls Try.prog 32 #[.pointer (some ⟨B, 0, none⟩), .int .i64 (x.r.err)] y (WrP y B L7)) := fun y v hv => by rw [hL7]; exact swint (okI_of (by omega) (by omega)) (by omega) hv
  have C8 : Hid (∀ y v, Wr B y B v L7 → Calls Try.prog 54 #[.pointer (some ⟨B, 0, none⟩), .int .u64 (T : Int)] y (WrP y B L8)) := fun y v hv => by rw [hL8]; exact swu64 hTb (by omega) hv
  have C9 : Hid (∀ y v, Wr B y B v L8 → Calls Try.prog 32 #[.pointer (some ⟨B, 0, none⟩), .int .i64 (x.r.n)] y (WrP y B L9)) := fun y v hv => by rw [hL9]; exact swint (okI_of (by omega) (by omega)) (by omega) hv
  have HF : Hid (∀ (c : Bool) (y : World), Calls Try.prog 56 #[.bool c] y fun e w' => e = .returned (.int .i64 (seBit c)) ∧ w' = y) := flag_any
  have HT : Hid (x.r.token = T) := hT
  have W0 : Hid (Wr B w B v bs) := hw
  have B0 : Hid (Below B w w) := Below.refl _ _
  rw [HE.out]
  clear h hM hx hil hln ho hat hid e1 e5 hB e2 hu hT hTb hbb bo bs2 q1 q2 q3 q4 q5 q6 q7 q8 q9 q10 hw hb hS HE hL1 n1 hL2 n2 hL3 n3 hL4 n4 hL5 n5 hL6 n6 hL7 n7 hL8 n8 hL9 n9
  go_enter Try.func33, Try.ntmps33
  go_upto_region 2 with fail
  clear c0 c1 hlk hlo
  go_upto_region 3 with (go_at_call 32; refine Calls.mono (C1.out _ _ W0.out) ?_; rintro r w1 ⟨⟨rfl, v1, h1, b1⟩⟩; have W1 : Hid (Wr B w1 B v1 L1) := h1; have B1 : Hid (Below B w w1) := B0.out.trans b1; have z1 : w1.cell? ⟨b, 0, none⟩ = some (.int .i64 x.client) := (HB.out _ B1.out).cell 0 _ rfl; clear h1 b1)
  go_upto_region 4 with (go_at_call 32; refine Calls.mono (C2.out _ _ W1.out) ?_; rintro r w2 ⟨⟨rfl, v2, h2, b2⟩⟩; have W2 : Hid (Wr B w2 B v2 L2) := h2; have B2 : Hid (Below B w w2) := B1.out.trans b2; have z2 : w2.cell? ⟨b, 1, none⟩ = some (.int .i64 x.life) := (HB.out _ B2.out).cell 1 _ rfl; clear h2 b2)
  clear z1
  go_upto_region 5 with (go_at_call 32; refine Calls.mono (C3.out _ _ W2.out) ?_; rintro r w3 ⟨⟨rfl, v3, h3, b3⟩⟩; have W3 : Hid (Wr B w3 B v3 L3) := h3; have B3 : Hid (Below B w w3) := B2.out.trans b3; clear h3 b3)
  clear z2
  go_upto_region 6 with (first | (go_at_call 32; refine Calls.mono (C4.out _ _ W3.out) ?_; rintro r w4 ⟨⟨rfl, v4, h4, b4⟩⟩; have W4 : Hid (Wr B w4 B v4 L4) := h4; have B4 : Hid (Below B w w4) := B3.out.trans b4; have z4 : w4.cell? ⟨b, 2, none⟩ = some (.int .i64 x.seq) := (HB.out _ B4.out).cell 2 _ rfl; clear h4 b4) | (go_at_call 56; refine Calls.mono (HF.out _ _) ?_; rintro r y ⟨rfl, hy⟩; rw [hy]; clear hy))
  go_upto_region 7 with (go_at_call 32; refine Calls.mono (C5.out _ _ W4.out) ?_; rintro r w5 ⟨⟨rfl, v5, h5, b5⟩⟩; have W5 : Hid (Wr B w5 B v5 L5) := h5; have B5 : Hid (Below B w w5) := B4.out.trans b5; have z5 : w5.cell? ⟨b, 3, none⟩ = some (.bool x.said) := (HB.out _ B5.out).cell 3 _ rfl; clear h5 b5)
  clear z4
  go_upto_region 8 with (first | (go_at_call 32; refine Calls.mono (C6.out _ _ W5.out) ?_; rintro r w6 ⟨⟨rfl, v6, h6, b6⟩⟩; have W6 : Hid (Wr B w6 B v6 L6) := h6; have B6 : Hid (Below B w w6) := B5.out.trans b6; have z6 : w6.cell? ⟨b, 6, none⟩ = some (.int .i64 x.r.err) := (HB.out _ B6.out).cell 6 _ rfl; clear h6 b6) | (go_at_call 56; refine Calls.mono (HF.out _ _) ?_; rintro r y ⟨rfl, hy⟩; rw [hy]; clear hy))
  clear z5
  go_upto_region 9 with (go_at_call 32; refine Calls.mono (C7.out _ _ W6.out) ?_; rintro r w7 ⟨⟨rfl, v7, h7, b7⟩⟩; have W7 : Hid (Wr B w7 B v7 L7) := h7; have B7 : Hid (Below B w w7) := B6.out.trans b7; have z7 : w7.cell? ⟨b, 7, none⟩ = some (.int .u64 x.r.token) := (HB.out _ B7.out).cell 7 _ rfl; rw [HT.out] at z7; clear h7 b7)
  clear z6
  go_upto_region 10 with (go_at_call 54; refine Calls.mono (C8.out _ _ W7.out) ?_; rintro r w8 ⟨⟨rfl, v8, h8, b8⟩⟩; have W8 : Hid (Wr B w8 B v8 L8) := h8; have B8 : Hid (Below B w w8) := B7.out.trans b8; have z8 : w8.cell? ⟨b, 8, none⟩ = some (.int .i64 x.r.n) := (HB.out _ B8.out).cell 8 _ rfl; clear h8 b8)
  clear z7
  go_wp2_with (go_at_call 32; refine Calls.mono (C9.out _ _ W8.out) ?_; rintro r w9 ⟨⟨rfl, v9, h9, b9⟩⟩; have W9 : Hid (Wr B w9 B v9 L9) := h9; have B9 : Hid (Below B w w9) := B8.out.trans b9; clear h9 b9)
  clear z8
  go_returns
  exact ⟨rfl, v9, W9.out, B9.out⟩
end Go.Proofs.Ythokbififjhflaa
