/-
  The document's sessions: Encode, as the document's plain bytes. The condition: at most 100000 sessions.
-/
import Derived.Test.YthokbififjhflaaSxAsk
import Derived.Test.YthokbififjhflaaSeEnc
import Derived.Test.YthokbififjhflaaCRefText
import Derived.Test.YthokbififjhflaaRTakeB
namespace Go.Proofs.Ythokbififjhflaa
open Go.RowKit

/-- A session's copy. -/
abbrev SxB (w : World) (b : Nat) (x : SeX) : Prop := w.heap[b]? = some (.cells #[.int .i64 x.client, .int .i64 x.life, .bool x.op, .int .i64 x.seq, .bool x.said, .int .i64 x.r.session, .int .i64 x.r.seq, .int .i64 x.r.err, .int .u64 x.r.token, .int .i64 x.r.n] 70 (0, 0))
theorem SxB.cell {w : World} {b : Nat} {x : SeX} (h : SxB w b x) (j : Nat) (u : Value) (hu : (sxC x)[j]? = some u) : w.cell? ⟨b, j, none⟩ = some u := by
  simp only [World.cell?, h]
  simpa [sxC] using hu
theorem SxB.fresh {w w' : World} {b : Nat} {x : SeX} (h : SxB w b x) (k : Below w.heap.size w w') : SxB w' b x := (k.block _ (lt_of_block h)).trans h
/-- A number's bytes as a string. -/
def seS (n : Int) : ByteArray := ⟨(seI n).toArray⟩
theorem seS_size {n : Int} (h1 : -9223372036854775808 ≤ n) (h2 : n ≤ 9223372036854775807) : (seS n).size ≤ 10 := by
  unfold seS
  rw [size_list]
  exact seI_len h1 h2
theorem fint_S {n : Int} (h1 : -9223372036854775808 ≤ n) (h2 : n ≤ 9223372036854775807) {A : ByteArray} (hA : A = seS n) (w : World) : Calls Try.prog 36 #[.int .i64 n] w fun e w' => e = .returned (.string A) ∧ Below w.heap.size w w' := by
  rw [hA]
  exact fint_any n h1 h2 w
theorem cat_list {A B : ByteArray} {a b : List UInt8} (hA : A = ⟨a.toArray⟩) (hB : B = ⟨b.toArray⟩) : A ++ B = ⟨(a ++ b).toArray⟩ := by rw [hA, hB, append_lists]
theorem no_big {A B : ByteArray} (h : A.size + B.size ≤ 100000000) : (9223372036854775807 < A.size + B.size) = False := eq_false (by omega)
set_option maxRecDepth 100000 in
set_option maxHeartbeats 16000000 in
theorem xencode_any {w : World} {base X : Nat} {S : Nat → Prop} {l : List SeX} (h : SxAt w base X S l) (hl : l.length ≤ 100000) :
    Calls Try.prog 16 #[.pointer (some ⟨X, 0, none⟩)] w fun e w' => e = .returned (.string ⟨(seEnc l).toArray⟩) ∧ Below w.heap.size w w' := by
  obtain ⟨raw, v, F, I, hM, hraw⟩ := h.ex
  obtain ⟨pv, cv, hv⟩ := hM.form
  have hlr : raw.length = l.length := by rw [hraw, List.length_map]
  rw [hlr] at hv
  have HO : Hid (SeOk l ∧ l.length ≤ 100000) := (show Hid _ from (⟨h.ok, hl⟩ : _ ∧ _))
  have HM : Hid (∀ y, Below w.heap.size w y → SxM y base X S raw v F I) := fun y b => hM.keep fun g hg => b.block g (hM.bd g hg).2
  have HL0 : Hid (∀ y, Below w.heap.size w y → y.cell? ⟨X, 0, none⟩ = some (.slice pv l.length cv)) := fun y b => by rw [← hv]; exact (HM.out y b).cell 0 _ rfl
  have HCF : Hid (∀ y, Below w.heap.size w y → ∀ c : Nat, c < 8 → y.cell? ⟨X, 1 + c * 2, none⟩ = some (.int .i64 (seLif l c)) ∧ y.cell? ⟨X, 1 + c * 2 + 1, none⟩ = some (.int .i64 (seLat l c : Int))) := fun y b c hc => by
    have := (HM.out y b).cellF c hc
    rw [hraw, seLif_map, seLat_map]
    exact this
  have HRow : Hid (∀ y, Below w.heap.size w y → ∀ (k : Nat), k < l.length → ∃ g x, pv = some ⟨g, 0, none⟩ ∧ l[k]? = some (sxN x) ∧ ∀ (j : Nat) (u : Value), (sxC x)[j]? = some u → y.cell? ⟨g, k * 10 + j, none⟩ = some u) := fun y b k hk => by
    have hk' : k < raw.length := by rw [hlr]; exact hk
    have hx : raw[k]? = some raw[k] := List.getElem?_eq_getElem hk'
    obtain ⟨g, c, hv2, _, _, _, hcell, _⟩ := (HM.out y b).at hx
    refine ⟨g, raw[k], ?_, by rw [hraw, List.getElem?_map, hx]; rfl, hcell⟩
    rw [hv] at hv2
    injection hv2
  have HCC : Hid (l.length ≤ cv) := by
    rcases hM.own.2 with ⟨e1, e0⟩ | ⟨g, c, cur, e1, _, _, e3, _⟩
    · show l.length ≤ cv
      omega
    · rw [hv] at e1
      injection e1 with _ _ e1
      show l.length ≤ cv
      omega
  have D0 : Hid (∀ y, Calls Try.prog 36 #[.int .i64 (l.length : Int)] y fun e w' => e = .returned (.string (seS l.length)) ∧ Below y.heap.size y w') := fun y => fint_S (by omega) (by omega) rfl y
  have HT0 : Hid ((seS (l.length : Int)).size ≤ 10) := seS_size (by omega) (by omega)
  have z0 := HL0.out w (Below.refl _ _)
  clear h hM hraw hv hlr hl
  go_enter Try.func16, Try.ntmps16
  go_wp2_with (go_at_call 36; refine Calls.mono (D0.out _) ?_; rintro e w1 ⟨rfl, b1⟩; have B1 : Hid (Below w.heap.size w w1) := b1; clear b1)
  clear z0
  go_loopw [3, 4] (fun t i wr => ∃ (k : Nat) (T : ByteArray), k ≤ l.length ∧ t = .string T ∧ i = .int .i64 k ∧ Hid (T = ⟨(seI (l.length : Int) ++ seRows l k).toArray⟩) ∧ Hid (Below w.heap.size w wr)) (fun _ i _ => l.length - (intOf i).toNat)
  case atStart => exact ⟨0, _, Nat.zero_le _, rfl, rfl, by show seS (l.length : Int) = _; rw [show seRows l 0 = [] from rfl, List.append_nil]; rfl, B1⟩
  case round =>
    obtain ⟨k, T, hk, rfl, rfl, HT, B⟩ := hrel
    have z0 := HL0.out wr B.out
    have hll := HO.out.2
    by_cases hkl : k < l.length
    · have t1 : decide ((k : Int) < (l.length : Int)) = true := decide_eq_true (by omega)
      have t1' : decide (k < l.length) = true := decide_eq_true hkl
      obtain ⟨g, x, rfl, hx, hcell⟩ := HRow.out wr B.out k hkl
      have hox := HO.out.1.each k _ hx
      have HXK : Hid (l[k]? = some (sxN x)) := hx
      have c0 : wr.cell? ⟨g, k * 10, none⟩ = some (.int .i64 x.client) := hcell 0 _ rfl
      have c1 : wr.cell? ⟨g, k * 10 + 1, none⟩ = some (.int .i64 x.life) := hcell 1 _ rfl
      have c2 : wr.cell? ⟨g, k * 10 + 2, none⟩ = some (.bool x.op) := hcell 2 _ rfl
      have c3 : wr.cell? ⟨g, k * 10 + 3, none⟩ = some (.int .i64 x.seq) := hcell 3 _ rfl
      have c4 : wr.cell? ⟨g, k * 10 + 4, none⟩ = some (.bool x.said) := hcell 4 _ rfl
      have c5 : wr.cell? ⟨g, k * 10 + 5, none⟩ = some (.int .i64 x.r.session) := hcell 5 _ rfl
      have c6 : wr.cell? ⟨g, k * 10 + 6, none⟩ = some (.int .i64 x.r.seq) := hcell 6 _ rfl
      have c7 : wr.cell? ⟨g, k * 10 + 7, none⟩ = some (.int .i64 x.r.err) := hcell 7 _ rfl
      have c8 : wr.cell? ⟨g, k * 10 + 8, none⟩ = some (.int .u64 x.r.token) := hcell 8 _ rfl
      have c9 : wr.cell? ⟨g, k * 10 + 9, none⟩ = some (.int .i64 x.r.n) := hcell 9 _ rfl
      have hcc := HCC.out
      go_upto_region 6 with fail
      obtain ⟨xb, hxb⟩ : ∃ xb, xb = wr.heap.size := ⟨_, rfl⟩
      obtain ⟨y0, hy0⟩ : ∃ y, y = wr.alloc (.cells #[.int .i64 x.client, .int .i64 x.life, .bool x.op, .int .i64 x.seq, .bool x.said, .int .i64 x.r.session, .int .i64 x.r.seq, .int .i64 x.r.err, .int .u64 x.r.token, .int .i64 x.r.n] 70) := ⟨_, rfl⟩
      have X0 : Hid (SxB y0 xb x) := by rw [hy0, hxb]; exact heap_alloc_new wr _
      have K0 : Hid (Below w.heap.size w y0) := by rw [hy0]; exact B.out.alloc B.out.size _
      rw [← hy0, ← hxb]
      have q1 := hox.c0; have q2 := hox.c1; have q3 := hox.l0; have q4 := hox.l1; have q5 := hox.q0; have q6 := hox.q1; have q7 := hox.r.e0; have q8 := hox.r.e1; have q9 := hox.r.n0; have q10 := hox.r.n1; have q11 := hox.r.t0; have q12 := hox.r.t1
      have HOX : Hid _ := hox
      rw [sxN_client] at q1 q2
      rw [sxN_life] at q3 q4
      rw [sxN_seq] at q5 q6
      have bo := seBit_le x.op
      have bd := seBit_le x.said
      have hTs : T.size ≤ 90000010 := by
        have h1 := HO.out.1.rows_len hll k hk
        have h2 := seI_len (n := (l.length : Int)) (by omega) (by omega)
        rw [HT.out, size_list, List.length_append]
        omega
      obtain ⟨A1, hA1⟩ : ∃ A, A = seS ((k : Int) + 1) := ⟨_, rfl⟩
      obtain ⟨A2, hA2⟩ : ∃ A, A = seS x.client := ⟨_, rfl⟩
      obtain ⟨A3, hA3⟩ : ∃ A, A = seS x.life := ⟨_, rfl⟩
      obtain ⟨A4, hA4⟩ : ∃ A, A = seS (seBit x.op) := ⟨_, rfl⟩
      obtain ⟨A5, hA5⟩ : ∃ A, A = seS x.seq := ⟨_, rfl⟩
      obtain ⟨A6, hA6⟩ : ∃ A, A = seS (seBit x.said) := ⟨_, rfl⟩
      have F1 : Hid _ := fun y => fint_S (n := (k : Int) + 1) (by omega) (by omega) hA1 y
      have F2 : Hid _ := fun y => fint_S (n := x.client) (by omega) (by omega) hA2 y
      have F3 : Hid _ := fun y => fint_S (n := x.life) (by omega) (by omega) hA3 y
      have F4 : Hid _ := fun y => fint_S (n := seBit x.op) (by omega) (by omega) hA4 y
      have F5 : Hid _ := fun y => fint_S (n := x.seq) (by omega) (by omega) hA5 y
      have F6 : Hid _ := fun y => fint_S (n := seBit x.said) (by omega) (by omega) hA6 y
      have p1 : A1.size ≤ 10 := by rw [hA1]; exact seS_size (by omega) (by omega)
      have p2 : A2.size ≤ 10 := by rw [hA2]; exact seS_size (by omega) (by omega)
      have p3 : A3.size ≤ 10 := by rw [hA3]; exact seS_size (by omega) (by omega)
      have p4 : A4.size ≤ 10 := by rw [hA4]; exact seS_size (by omega) (by omega)
      have p5 : A5.size ≤ 10 := by rw [hA5]; exact seS_size (by omega) (by omega)
      have p6 : A6.size ≤ 10 := by rw [hA6]; exact seS_size (by omega) (by omega)
      obtain ⟨B2, e2⟩ : ∃ B, A1 ++ A2 = B := ⟨_, rfl⟩
      have s2 : B2.size ≤ 20 := by rw [← e2, ByteArray.size_append]; omega
      obtain ⟨B3, e3⟩ : ∃ B, B2 ++ A3 = B := ⟨_, rfl⟩
      have s3 : B3.size ≤ 30 := by rw [← e3, ByteArray.size_append]; omega
      obtain ⟨B4, e4⟩ : ∃ B, B3 ++ A4 = B := ⟨_, rfl⟩
      have s4 : B4.size ≤ 40 := by rw [← e4, ByteArray.size_append]; omega
      obtain ⟨B5, e5⟩ : ∃ B, B4 ++ A5 = B := ⟨_, rfl⟩
      have s5 : B5.size ≤ 50 := by rw [← e5, ByteArray.size_append]; omega
      obtain ⟨B6, e6⟩ : ∃ B, B5 ++ A6 = B := ⟨_, rfl⟩
      have s6 : B6.size ≤ 60 := by rw [← e6, ByteArray.size_append]; omega
      obtain ⟨T2, e7⟩ : ∃ B, T ++ B6 = B := ⟨_, rfl⟩
      have s7 : T2.size ≤ 90000070 := by rw [← e7, ByteArray.size_append]; omega
      have n2 := no_big (A := A1) (B := A2) (by omega)
      have n3 := no_big (A := B2) (B := A3) (by omega)
      have n4 := no_big (A := B3) (B := A4) (by omega)
      have n5 := no_big (A := B4) (B := A5) (by omega)
      have n6 := no_big (A := B5) (B := A6) (by omega)
      have n7 := no_big (A := T) (B := B6) (by omega)
      have HT2 : Hid (T2 = ⟨((seI (l.length : Int) ++ seRows l k) ++ (((((seI ((k : Int) + 1) ++ seI x.client) ++ seI x.life) ++ seI (seBit x.op)) ++ seI x.seq) ++ seI (seBit x.said))).toArray⟩ ∧ T2.size ≤ 90000070) :=
        (show Hid _ from (⟨by rw [← e7]; exact cat_list HT.out (e6 ▸ cat_list (e5 ▸ cat_list (e4 ▸ cat_list (e3 ▸ cat_list (e2 ▸ cat_list hA1 hA2) hA3) hA4) hA5) hA6), s7⟩ : _ ∧ _))
      have HK : Hid (k < l.length) := hkl
      have hkb : k < 100000 := by omega
      have hwk : IntKind.i64.wrap ((k : Int) + 1) = (k : Int) + 1 := by rw [IntKind.wrap_i64]; omega
      clear hy0 hxb hx hcell hox c0 c1 c2 c3 c4 c5 c6 c7 c8 c9 z0 t1 t1' hcc q1 q2 q3 q4 q5 q6 q7 q8 q9 q10 q11 q12 bo bd hTs hA1 hA2 hA3 hA4 hA5 hA6 p1 p2 p3 p4 p5 p6 s2 s3 s4 s5 s6 s7 hll hkl
      refine wp_region_held_drew (S := (fun y : World => SxB y xb x)) (by kernel_rfl) ?_ (fun hHeld0 => ?_)
      · exact X0.out
      refine tk0 (.string T) (by kernel_rfl) (by kernel_rfl) (by kernel_rfl) (fun _ _ _ h => h) rfl (fun w hSw => by (try dsimp only at hSw); have s0 := SxB.cell hSw 0 _ rfl; have s1 := SxB.cell hSw 1 _ rfl; have s2 := SxB.cell hSw 2 _ rfl; have s3 := SxB.cell hSw 3 _ rfl; have s4 := SxB.cell hSw 4 _ rfl; go_simp) (by assumption) ?_
      try simp only [Act.put, List.setIfInBounds_toArray, List.set_cons_zero, List.set_cons_succ]
      refine tk1 (.int .i64 (k : Int)) (by kernel_rfl) (by kernel_rfl) (by kernel_rfl) (fun _ _ _ h => h) rfl (fun w hSw => by (try dsimp only at hSw); have s0 := SxB.cell hSw 0 _ rfl; have s1 := SxB.cell hSw 1 _ rfl; have s2 := SxB.cell hSw 2 _ rfl; have s3 := SxB.cell hSw 3 _ rfl; have s4 := SxB.cell hSw 4 _ rfl; go_simp) (by assumption) ?_
      try simp only [Act.put, List.setIfInBounds_toArray, List.set_cons_zero, List.set_cons_succ]
      refine tk2 (.int .i64 ((k : Int) + 1)) (by kernel_rfl) (by kernel_rfl) (by kernel_rfl) (fun _ _ _ h => h) rfl (fun w hSw => by (try dsimp only at hSw); have s0 := SxB.cell hSw 0 _ rfl; have s1 := SxB.cell hSw 1 _ rfl; have s2 := SxB.cell hSw 2 _ rfl; have s3 := SxB.cell hSw 3 _ rfl; have s4 := SxB.cell hSw 4 _ rfl; go_simp) (by assumption) ?_
      try simp only [Act.put, List.setIfInBounds_toArray, List.set_cons_zero, List.set_cons_succ]
      refine tk4 (.pointer (some ⟨xb, 0, none⟩)) (by kernel_rfl) (by kernel_rfl) (by kernel_rfl) (fun _ _ _ h => h) rfl (fun w hSw => by (try dsimp only at hSw); have s0 := SxB.cell hSw 0 _ rfl; have s1 := SxB.cell hSw 1 _ rfl; have s2 := SxB.cell hSw 2 _ rfl; have s3 := SxB.cell hSw 3 _ rfl; have s4 := SxB.cell hSw 4 _ rfl; go_simp) (by assumption) ?_
      try simp only [Act.put, List.setIfInBounds_toArray, List.set_cons_zero, List.set_cons_succ]
      refine tk5 (.int .i64 x.client) (by kernel_rfl) (by kernel_rfl) (by kernel_rfl) (fun _ _ _ h => h) rfl (fun w hSw => by (try dsimp only at hSw); have s0 := SxB.cell hSw 0 _ rfl; have s1 := SxB.cell hSw 1 _ rfl; have s2 := SxB.cell hSw 2 _ rfl; have s3 := SxB.cell hSw 3 _ rfl; have s4 := SxB.cell hSw 4 _ rfl; go_simp) (by assumption) ?_
      try simp only [Act.put, List.setIfInBounds_toArray, List.set_cons_zero, List.set_cons_succ]
      refine tk8 (.pointer (some ⟨xb, 1, none⟩)) (by kernel_rfl) (by kernel_rfl) (by kernel_rfl) (fun _ _ _ h => h) rfl (fun w hSw => by (try dsimp only at hSw); have s0 := SxB.cell hSw 0 _ rfl; have s1 := SxB.cell hSw 1 _ rfl; have s2 := SxB.cell hSw 2 _ rfl; have s3 := SxB.cell hSw 3 _ rfl; have s4 := SxB.cell hSw 4 _ rfl; go_simp) (by assumption) ?_
      try simp only [Act.put, List.setIfInBounds_toArray, List.set_cons_zero, List.set_cons_succ]
      refine tk9 (.int .i64 x.life) (by kernel_rfl) (by kernel_rfl) (by kernel_rfl) (fun _ _ _ h => h) rfl (fun w hSw => by (try dsimp only at hSw); have s0 := SxB.cell hSw 0 _ rfl; have s1 := SxB.cell hSw 1 _ rfl; have s2 := SxB.cell hSw 2 _ rfl; have s3 := SxB.cell hSw 3 _ rfl; have s4 := SxB.cell hSw 4 _ rfl; go_simp) (by assumption) ?_
      try simp only [Act.put, List.setIfInBounds_toArray, List.set_cons_zero, List.set_cons_succ]
      refine tk12 (.pointer (some ⟨xb, 2, none⟩)) (by kernel_rfl) (by kernel_rfl) (by kernel_rfl) (fun _ _ _ h => h) rfl (fun w hSw => by (try dsimp only at hSw); have s0 := SxB.cell hSw 0 _ rfl; have s1 := SxB.cell hSw 1 _ rfl; have s2 := SxB.cell hSw 2 _ rfl; have s3 := SxB.cell hSw 3 _ rfl; have s4 := SxB.cell hSw 4 _ rfl; go_simp) (by assumption) ?_
      try simp only [Act.put, List.setIfInBounds_toArray, List.set_cons_zero, List.set_cons_succ]
      refine tk13 (.bool x.op) (by kernel_rfl) (by kernel_rfl) (by kernel_rfl) (fun _ _ _ h => h) rfl (fun w hSw => by (try dsimp only at hSw); have s0 := SxB.cell hSw 0 _ rfl; have s1 := SxB.cell hSw 1 _ rfl; have s2 := SxB.cell hSw 2 _ rfl; have s3 := SxB.cell hSw 3 _ rfl; have s4 := SxB.cell hSw 4 _ rfl; go_simp) (by assumption) ?_
      try simp only [Act.put, List.setIfInBounds_toArray, List.set_cons_zero, List.set_cons_succ]
      refine tk17 (.pointer (some ⟨xb, 3, none⟩)) (by kernel_rfl) (by kernel_rfl) (by kernel_rfl) (fun _ _ _ h => h) rfl (fun w hSw => by (try dsimp only at hSw); have s0 := SxB.cell hSw 0 _ rfl; have s1 := SxB.cell hSw 1 _ rfl; have s2 := SxB.cell hSw 2 _ rfl; have s3 := SxB.cell hSw 3 _ rfl; have s4 := SxB.cell hSw 4 _ rfl; go_simp) (by assumption) ?_
      try simp only [Act.put, List.setIfInBounds_toArray, List.set_cons_zero, List.set_cons_succ]
      refine tk18 (.int .i64 x.seq) (by kernel_rfl) (by kernel_rfl) (by kernel_rfl) (fun _ _ _ h => h) rfl (fun w hSw => by (try dsimp only at hSw); have s0 := SxB.cell hSw 0 _ rfl; have s1 := SxB.cell hSw 1 _ rfl; have s2 := SxB.cell hSw 2 _ rfl; have s3 := SxB.cell hSw 3 _ rfl; have s4 := SxB.cell hSw 4 _ rfl; go_simp) (by assumption) ?_
      try simp only [Act.put, List.setIfInBounds_toArray, List.set_cons_zero, List.set_cons_succ]
      refine tk21 (.pointer (some ⟨xb, 4, none⟩)) (by kernel_rfl) (by kernel_rfl) (by kernel_rfl) (fun _ _ _ h => h) rfl (fun w hSw => by (try dsimp only at hSw); have s0 := SxB.cell hSw 0 _ rfl; have s1 := SxB.cell hSw 1 _ rfl; have s2 := SxB.cell hSw 2 _ rfl; have s3 := SxB.cell hSw 3 _ rfl; have s4 := SxB.cell hSw 4 _ rfl; go_simp) (by assumption) ?_
      try simp only [Act.put, List.setIfInBounds_toArray, List.set_cons_zero, List.set_cons_succ]
      refine tk22 (.bool x.said) (by kernel_rfl) (by kernel_rfl) (by kernel_rfl) (fun _ _ _ h => h) rfl (fun w hSw => by (try dsimp only at hSw); have s0 := SxB.cell hSw 0 _ rfl; have s1 := SxB.cell hSw 1 _ rfl; have s2 := SxB.cell hSw 2 _ rfl; have s3 := SxB.cell hSw 3 _ rfl; have s4 := SxB.cell hSw 4 _ rfl; go_simp) (by assumption) ?_
      try simp only [Act.put, List.setIfInBounds_toArray, List.set_cons_zero, List.set_cons_succ]
      refine cl3 (by kernel_rfl) rfl (fun K hK => ?_)
      go_simp
      go_at_call 36
      refine Calls.mono (F1.out _) ?_
      rintro e y3 ⟨rfl, b3⟩
      replace b3 := undrew b3
      have X3 : Hid (SxB y3 xb x) := SxB.fresh X0.out b3
      have K3 : Hid (Below w.heap.size w y3) := bmm K0.out K0.out.size b3
      clear b3
      refine hK.out _ _ ?_ (fun hHeld => ?_)
      · exact X3.out
      clear hK K
      try simp only [Act.put, List.setIfInBounds_toArray, List.set_cons_zero, List.set_cons_succ]
      refine cl6 (by kernel_rfl) rfl (fun K hK => ?_)
      go_simp
      go_at_call 36
      refine Calls.mono (F2.out _) ?_
      rintro e y6 ⟨rfl, b6⟩
      have X6 : Hid (SxB y6 xb x) := SxB.fresh X3.out b6
      have K6 : Hid (Below w.heap.size w y6) := bmm K3.out K3.out.size b6
      clear b6
      refine hK.out _ _ ?_ (fun hHeld => ?_)
      · exact X6.out
      clear hK K
      try simp only [Act.put, List.setIfInBounds_toArray, List.set_cons_zero, List.set_cons_succ]
      refine tk7 (.string B2) (by kernel_rfl) (by kernel_rfl) (by kernel_rfl) (fun _ _ _ h => h) rfl (fun w hSw => by (try dsimp only at hSw); have s0 := SxB.cell hSw 0 _ rfl; have s1 := SxB.cell hSw 1 _ rfl; have s2 := SxB.cell hSw 2 _ rfl; have s3 := SxB.cell hSw 3 _ rfl; have s4 := SxB.cell hSw 4 _ rfl; go_simp) (by assumption) ?_
      try simp only [Act.put, List.setIfInBounds_toArray, List.set_cons_zero, List.set_cons_succ]
      refine cl10 (by kernel_rfl) rfl (fun K hK => ?_)
      go_simp
      go_at_call 36
      refine Calls.mono (F3.out _) ?_
      rintro e y10 ⟨rfl, b10⟩
      have X10 : Hid (SxB y10 xb x) := SxB.fresh X6.out b10
      have K10 : Hid (Below w.heap.size w y10) := bmm K6.out K6.out.size b10
      clear b10
      refine hK.out _ _ ?_ (fun hHeld => ?_)
      · exact X10.out
      clear hK K
      try simp only [Act.put, List.setIfInBounds_toArray, List.set_cons_zero, List.set_cons_succ]
      refine tk11 (.string B3) (by kernel_rfl) (by kernel_rfl) (by kernel_rfl) (fun _ _ _ h => h) rfl (fun w hSw => by (try dsimp only at hSw); have s0 := SxB.cell hSw 0 _ rfl; have s1 := SxB.cell hSw 1 _ rfl; have s2 := SxB.cell hSw 2 _ rfl; have s3 := SxB.cell hSw 3 _ rfl; have s4 := SxB.cell hSw 4 _ rfl; go_simp) (by assumption) ?_
      try simp only [Act.put, List.setIfInBounds_toArray, List.set_cons_zero, List.set_cons_succ]
      refine cl14 (by kernel_rfl) rfl (fun K hK => ?_)
      go_simp
      go_at_call 37
      refine Calls.mono (bit_any _ _) ?_
      rintro e y14 ⟨rfl, hy14⟩
      rw [hy14]
      have X14 : Hid (SxB y10 xb x) := X10.out
      have K14 : Hid (Below w.heap.size w y10) := K10.out
      clear hy14
      refine hK.out _ _ ?_ (fun hHeld => ?_)
      · exact X14.out
      clear hK K
      refine cl15 (by kernel_rfl) rfl (fun K hK => ?_)
      go_simp
      go_at_call 36
      refine Calls.mono (F4.out _) ?_
      rintro e y15 ⟨rfl, b15⟩
      have X15 : Hid (SxB y15 xb x) := SxB.fresh X10.out b15
      have K15 : Hid (Below w.heap.size w y15) := bmm K10.out K10.out.size b15
      clear b15
      refine hK.out _ _ ?_ (fun hHeld => ?_)
      · exact X15.out
      clear hK K
      try simp only [Act.put, List.setIfInBounds_toArray, List.set_cons_zero, List.set_cons_succ]
      refine tk16 (.string B4) (by kernel_rfl) (by kernel_rfl) (by kernel_rfl) (fun _ _ _ h => h) rfl (fun w hSw => by (try dsimp only at hSw); have s0 := SxB.cell hSw 0 _ rfl; have s1 := SxB.cell hSw 1 _ rfl; have s2 := SxB.cell hSw 2 _ rfl; have s3 := SxB.cell hSw 3 _ rfl; have s4 := SxB.cell hSw 4 _ rfl; go_simp) (by assumption) ?_
      try simp only [Act.put, List.setIfInBounds_toArray, List.set_cons_zero, List.set_cons_succ]
      refine cl19 (by kernel_rfl) rfl (fun K hK => ?_)
      go_simp
      go_at_call 36
      refine Calls.mono (F5.out _) ?_
      rintro e y19 ⟨rfl, b19⟩
      have X19 : Hid (SxB y19 xb x) := SxB.fresh X15.out b19
      have K19 : Hid (Below w.heap.size w y19) := bmm K15.out K15.out.size b19
      clear b19
      refine hK.out _ _ ?_ (fun hHeld => ?_)
      · exact X19.out
      clear hK K
      try simp only [Act.put, List.setIfInBounds_toArray, List.set_cons_zero, List.set_cons_succ]
      refine tk20 (.string B5) (by kernel_rfl) (by kernel_rfl) (by kernel_rfl) (fun _ _ _ h => h) rfl (fun w hSw => by (try dsimp only at hSw); have s0 := SxB.cell hSw 0 _ rfl; have s1 := SxB.cell hSw 1 _ rfl; have s2 := SxB.cell hSw 2 _ rfl; have s3 := SxB.cell hSw 3 _ rfl; have s4 := SxB.cell hSw 4 _ rfl; go_simp) (by assumption) ?_
      try simp only [Act.put, List.setIfInBounds_toArray, List.set_cons_zero, List.set_cons_succ]
      refine cl23 (by kernel_rfl) rfl (fun K hK => ?_)
      go_simp
      go_at_call 37
      refine Calls.mono (bit_any _ _) ?_
      rintro e y23 ⟨rfl, hy23⟩
      rw [hy23]
      have X23 : Hid (SxB y19 xb x) := X19.out
      have K23 : Hid (Below w.heap.size w y19) := K19.out
      clear hy23
      refine hK.out _ _ ?_ (fun hHeld => ?_)
      · exact X23.out
      clear hK K
      refine cl24 (by kernel_rfl) rfl (fun K hK => ?_)
      go_simp
      go_at_call 36
      refine Calls.mono (F6.out _) ?_
      rintro e y24 ⟨rfl, b24⟩
      have X24 : Hid (SxB y24 xb x) := SxB.fresh X19.out b24
      have K24 : Hid (Below w.heap.size w y24) := bmm K19.out K19.out.size b24
      clear b24
      refine hK.out _ _ ?_ (fun hHeld => ?_)
      · exact X24.out
      clear hK K
      try simp only [Act.put, List.setIfInBounds_toArray, List.set_cons_zero, List.set_cons_succ]
      refine tk25 (.string B6) (by kernel_rfl) (by kernel_rfl) (by kernel_rfl) (fun _ _ _ h => h) rfl (fun w hSw => by (try dsimp only at hSw); have s0 := SxB.cell hSw 0 _ rfl; have s1 := SxB.cell hSw 1 _ rfl; have s2 := SxB.cell hSw 2 _ rfl; have s3 := SxB.cell hSw 3 _ rfl; have s4 := SxB.cell hSw 4 _ rfl; go_simp) (by assumption) ?_
      try simp only [Act.put, List.setIfInBounds_toArray, List.set_cons_zero, List.set_cons_succ]
      refine tk26 (.string T2) (by kernel_rfl) (by kernel_rfl) (by kernel_rfl) (fun _ _ _ h => h) rfl (fun w hSw => by (try dsimp only at hSw); have s0 := SxB.cell hSw 0 _ rfl; have s1 := SxB.cell hSw 1 _ rfl; have s2 := SxB.cell hSw 2 _ rfl; have s3 := SxB.cell hSw 3 _ rfl; have s4 := SxB.cell hSw 4 _ rfl; go_simp) (by assumption) ?_
      try simp only [Act.put, List.setIfInBounds_toArray, List.set_cons_zero, List.set_cons_succ]
      refine tk27 (.string T2) (by kernel_rfl) (by kernel_rfl) (by kernel_rfl) (fun _ _ _ h => h) rfl (fun w hSw => by (try dsimp only at hSw); have s0 := SxB.cell hSw 0 _ rfl; have s1 := SxB.cell hSw 1 _ rfl; have s2 := SxB.cell hSw 2 _ rfl; have s3 := SxB.cell hSw 3 _ rfl; have s4 := SxB.cell hSw 4 _ rfl; go_simp) (by assumption) ?_
      try simp only [Act.put, List.setIfInBounds_toArray, List.set_cons_zero, List.set_cons_succ]
      refine wpAnyH_done (by kernel_rfl) ?_ _
      have v4 : y24.cell? ⟨xb, 4, none⟩ = some (.bool x.said) := SxB.cell X24.out 4 _ rfl
      clear e2 e3 e4 e5 e6 e7 n2 n3 n4 n5 n6 n7
      obtain ⟨sd, hsd⟩ : ∃ sd, sd = x.said := ⟨_, rfl⟩
      rw [← hsd] at v4
      cases sd with
      | true =>
        have hr : (sxN x).r = x.r := sxN_r hsd.symm
        have ho := HOX.out.r
        rw [hr] at ho
        have q1 := ho.e0; have q2 := ho.e1; have q3 := ho.n0; have q4 := ho.n1; have q5 := ho.t0; have q6 := ho.t1
        have hTs := HT2.out.2
        obtain ⟨A7, hA7⟩ : ∃ A, A = seS x.r.err := ⟨_, rfl⟩
        obtain ⟨A8, hA8⟩ : ∃ A : ByteArray, A = ⟨(enc x.r.token.toNat).toArray⟩ := ⟨_, rfl⟩
        obtain ⟨A9, hA9⟩ : ∃ A, A = seS x.r.n := ⟨_, rfl⟩
        have F7 : Hid _ := fun y => fint_S (n := x.r.err) (by omega) (by omega) hA7 y
        have F8 : Hid (∀ y, Calls Try.prog 38 #[.int .u64 x.r.token] y fun e w' => e = .returned (.string A8) ∧ Below y.heap.size y w') := fun y => by
          have := fu64_any x.r.token.toNat (by omega) y
          rw [hA8]
          rwa [Int.toNat_of_nonneg q5] at this
        have F9 : Hid _ := fun y => fint_S (n := x.r.n) (by omega) (by omega) hA9 y
        have p7 : A7.size ≤ 10 := by rw [hA7]; exact seS_size (by omega) (by omega)
        have p8 : A8.size ≤ 10 := by rw [hA8, size_list]; exact enc_len_ten (by omega)
        have p9 : A9.size ≤ 10 := by rw [hA9]; exact seS_size (by omega) (by omega)
        obtain ⟨B8, e8⟩ : ∃ B, A7 ++ A8 = B := ⟨_, rfl⟩
        have s8 : B8.size ≤ 20 := by rw [← e8, ByteArray.size_append]; omega
        obtain ⟨B9, e9⟩ : ∃ B, B8 ++ A9 = B := ⟨_, rfl⟩
        have s9 : B9.size ≤ 30 := by rw [← e9, ByteArray.size_append]; omega
        obtain ⟨T3, e10⟩ : ∃ B, T2 ++ B9 = B := ⟨_, rfl⟩
        have n8 := no_big (A := A7) (B := A8) (by omega)
        have n9 := no_big (A := B8) (B := A9) (by omega)
        have n10 := no_big (A := T2) (B := B9) (by omega)
        have HT3 : Hid (T3 = ⟨(seI (l.length : Int) ++ seRows l (k + 1)).toArray⟩) := by
          have h1 : T3 = ⟨_⟩ := e10 ▸ cat_list HT2.out.1 (e9 ▸ cat_list (e8 ▸ cat_list hA7 hA8) hA9)
          show T3 = _
          rw [h1, seRows_one HXK.out]
          unfold seRow
          rw [sxN_client, sxN_life, sxN_op, sxN_seq, sxN_said, hr]
          simp
        clear hr ho q1 q2 q3 q4 q5 q6 hTs hA7 hA8 hA9 p7 p8 p9 s8 s9 hsd
        go_upto_region 8 with fail
        clear v4
        refine wp_region_held_drew (S := (fun y : World => SxB y xb x)) (by kernel_rfl) ?_ (fun hHeld0 => ?_)
        · exact X24.out
        refine tk0 (.string T2) (by kernel_rfl) (by kernel_rfl) (by kernel_rfl) (fun _ _ _ h => h) rfl (fun w hSw => by (try dsimp only at hSw); have s7 := SxB.cell hSw 7 _ rfl; have s8 := SxB.cell hSw 8 _ rfl; have s9 := SxB.cell hSw 9 _ rfl; go_simp) (by assumption) ?_
        try simp only [Act.put, List.setIfInBounds_toArray, List.set_cons_zero, List.set_cons_succ]
        refine tk1 (.pointer (some ⟨xb, 5, none⟩)) (by kernel_rfl) (by kernel_rfl) (by kernel_rfl) (fun _ _ _ h => h) rfl (fun w hSw => by (try dsimp only at hSw); have s7 := SxB.cell hSw 7 _ rfl; have s8 := SxB.cell hSw 8 _ rfl; have s9 := SxB.cell hSw 9 _ rfl; go_simp) (by assumption) ?_
        try simp only [Act.put, List.setIfInBounds_toArray, List.set_cons_zero, List.set_cons_succ]
        refine tk2 (.pointer (some ⟨xb, 7, none⟩)) (by kernel_rfl) (by kernel_rfl) (by kernel_rfl) (fun _ _ _ h => h) rfl (fun w hSw => by (try dsimp only at hSw); have s7 := SxB.cell hSw 7 _ rfl; have s8 := SxB.cell hSw 8 _ rfl; have s9 := SxB.cell hSw 9 _ rfl; go_simp) (by assumption) ?_
        try simp only [Act.put, List.setIfInBounds_toArray, List.set_cons_zero, List.set_cons_succ]
        refine tk3 (.int .i64 x.r.err) (by kernel_rfl) (by kernel_rfl) (by kernel_rfl) (fun _ _ _ h => h) rfl (fun w hSw => by (try dsimp only at hSw); have s7 := SxB.cell hSw 7 _ rfl; have s8 := SxB.cell hSw 8 _ rfl; have s9 := SxB.cell hSw 9 _ rfl; go_simp) (by assumption) ?_
        try simp only [Act.put, List.setIfInBounds_toArray, List.set_cons_zero, List.set_cons_succ]
        refine tk5 (.pointer (some ⟨xb, 5, none⟩)) (by kernel_rfl) (by kernel_rfl) (by kernel_rfl) (fun _ _ _ h => h) rfl (fun w hSw => by (try dsimp only at hSw); have s7 := SxB.cell hSw 7 _ rfl; have s8 := SxB.cell hSw 8 _ rfl; have s9 := SxB.cell hSw 9 _ rfl; go_simp) (by assumption) ?_
        try simp only [Act.put, List.setIfInBounds_toArray, List.set_cons_zero, List.set_cons_succ]
        refine tk6 (.pointer (some ⟨xb, 8, none⟩)) (by kernel_rfl) (by kernel_rfl) (by kernel_rfl) (fun _ _ _ h => h) rfl (fun w hSw => by (try dsimp only at hSw); have s7 := SxB.cell hSw 7 _ rfl; have s8 := SxB.cell hSw 8 _ rfl; have s9 := SxB.cell hSw 9 _ rfl; go_simp) (by assumption) ?_
        try simp only [Act.put, List.setIfInBounds_toArray, List.set_cons_zero, List.set_cons_succ]
        refine tk7 (.int .u64 x.r.token) (by kernel_rfl) (by kernel_rfl) (by kernel_rfl) (fun _ _ _ h => h) rfl (fun w hSw => by (try dsimp only at hSw); have s7 := SxB.cell hSw 7 _ rfl; have s8 := SxB.cell hSw 8 _ rfl; have s9 := SxB.cell hSw 9 _ rfl; go_simp) (by assumption) ?_
        try simp only [Act.put, List.setIfInBounds_toArray, List.set_cons_zero, List.set_cons_succ]
        refine tk10 (.pointer (some ⟨xb, 5, none⟩)) (by kernel_rfl) (by kernel_rfl) (by kernel_rfl) (fun _ _ _ h => h) rfl (fun w hSw => by (try dsimp only at hSw); have s7 := SxB.cell hSw 7 _ rfl; have s8 := SxB.cell hSw 8 _ rfl; have s9 := SxB.cell hSw 9 _ rfl; go_simp) (by assumption) ?_
        try simp only [Act.put, List.setIfInBounds_toArray, List.set_cons_zero, List.set_cons_succ]
        refine tk11 (.pointer (some ⟨xb, 9, none⟩)) (by kernel_rfl) (by kernel_rfl) (by kernel_rfl) (fun _ _ _ h => h) rfl (fun w hSw => by (try dsimp only at hSw); have s7 := SxB.cell hSw 7 _ rfl; have s8 := SxB.cell hSw 8 _ rfl; have s9 := SxB.cell hSw 9 _ rfl; go_simp) (by assumption) ?_
        try simp only [Act.put, List.setIfInBounds_toArray, List.set_cons_zero, List.set_cons_succ]
        refine tk12 (.int .i64 x.r.n) (by kernel_rfl) (by kernel_rfl) (by kernel_rfl) (fun _ _ _ h => h) rfl (fun w hSw => by (try dsimp only at hSw); have s7 := SxB.cell hSw 7 _ rfl; have s8 := SxB.cell hSw 8 _ rfl; have s9 := SxB.cell hSw 9 _ rfl; go_simp) (by assumption) ?_
        try simp only [Act.put, List.setIfInBounds_toArray, List.set_cons_zero, List.set_cons_succ]
        refine cl4 (by kernel_rfl) rfl (fun K hK => ?_)
        go_simp
        go_at_call 36
        refine Calls.mono (F7.out _) ?_
        rintro e z4 ⟨rfl, b4⟩
        replace b4 := undrew b4
        have XX4 : Hid (SxB z4 xb x) := SxB.fresh X24.out b4
        have KK4 : Hid (Below w.heap.size w z4) := bmm K24.out K24.out.size b4
        clear b4
        refine hK.out _ _ ?_ (fun hHeld => ?_)
        · exact XX4.out
        clear hK K
        try simp only [Act.put, List.setIfInBounds_toArray, List.set_cons_zero, List.set_cons_succ]
        refine cl8 (by kernel_rfl) rfl (fun K hK => ?_)
        go_simp
        go_at_call 38
        refine Calls.mono (F8.out _) ?_
        rintro e z8 ⟨rfl, b8⟩
        have XX8 : Hid (SxB z8 xb x) := SxB.fresh XX4.out b8
        have KK8 : Hid (Below w.heap.size w z8) := bmm KK4.out KK4.out.size b8
        clear b8
        refine hK.out _ _ ?_ (fun hHeld => ?_)
        · exact XX8.out
        clear hK K
        try simp only [Act.put, List.setIfInBounds_toArray, List.set_cons_zero, List.set_cons_succ]
        refine tk9 (.string B8) (by kernel_rfl) (by kernel_rfl) (by kernel_rfl) (fun _ _ _ h => h) rfl (fun w hSw => by (try dsimp only at hSw); have s7 := SxB.cell hSw 7 _ rfl; have s8 := SxB.cell hSw 8 _ rfl; have s9 := SxB.cell hSw 9 _ rfl; go_simp) (by assumption) ?_
        try simp only [Act.put, List.setIfInBounds_toArray, List.set_cons_zero, List.set_cons_succ]
        refine cl13 (by kernel_rfl) rfl (fun K hK => ?_)
        go_simp
        go_at_call 36
        refine Calls.mono (F9.out _) ?_
        rintro e z13 ⟨rfl, b13⟩
        have XX13 : Hid (SxB z13 xb x) := SxB.fresh XX8.out b13
        have KK13 : Hid (Below w.heap.size w z13) := bmm KK8.out KK8.out.size b13
        clear b13
        refine hK.out _ _ ?_ (fun hHeld => ?_)
        · exact XX13.out
        clear hK K
        try simp only [Act.put, List.setIfInBounds_toArray, List.set_cons_zero, List.set_cons_succ]
        refine tk14 (.string B9) (by kernel_rfl) (by kernel_rfl) (by kernel_rfl) (fun _ _ _ h => h) rfl (fun w hSw => by (try dsimp only at hSw); have s7 := SxB.cell hSw 7 _ rfl; have s8 := SxB.cell hSw 8 _ rfl; have s9 := SxB.cell hSw 9 _ rfl; go_simp) (by assumption) ?_
        try simp only [Act.put, List.setIfInBounds_toArray, List.set_cons_zero, List.set_cons_succ]
        refine tk15 (.string T3) (by kernel_rfl) (by kernel_rfl) (by kernel_rfl) (fun _ _ _ h => h) rfl (fun w hSw => by (try dsimp only at hSw); have s7 := SxB.cell hSw 7 _ rfl; have s8 := SxB.cell hSw 8 _ rfl; have s9 := SxB.cell hSw 9 _ rfl; go_simp) (by assumption) ?_
        try simp only [Act.put, List.setIfInBounds_toArray, List.set_cons_zero, List.set_cons_succ]
        refine tk16 (.string T3) (by kernel_rfl) (by kernel_rfl) (by kernel_rfl) (fun _ _ _ h => h) rfl (fun w hSw => by (try dsimp only at hSw); have s7 := SxB.cell hSw 7 _ rfl; have s8 := SxB.cell hSw 8 _ rfl; have s9 := SxB.cell hSw 9 _ rfl; go_simp) (by assumption) ?_
        try simp only [Act.put, List.setIfInBounds_toArray, List.set_cons_zero, List.set_cons_succ]
        refine wpAnyH_done (by kernel_rfl) ?_ _
        go_wp2
        have hkl := HK.out
        exact ⟨⟨k + 1, T3, by omega, rfl, by simp, HT3, KK13⟩, by simp [intOf]; omega⟩
      | false =>
        have hr : (sxN x).r = SeR.zero := by unfold sxN; rw [if_neg (by rw [← hsd]; decide)]
        have hTs := HT2.out.2
        obtain ⟨A7, hA7⟩ : ∃ A, A = seS 0 := ⟨_, rfl⟩
        obtain ⟨A8, hA8⟩ : ∃ A : ByteArray, A = ⟨(enc 0).toArray⟩ := ⟨_, rfl⟩
        have F7 : Hid _ := fun y => fint_S (n := 0) (by omega) (by omega) hA7 y
        have F8 : Hid (∀ y, Calls Try.prog 38 #[.int .u64 0] y fun e w' => e = .returned (.string A8) ∧ Below y.heap.size y w') := fun y => by
          rw [hA8]
          exact fu64_any 0 (by omega) y
        have p7 : A7.size ≤ 10 := by rw [hA7]; exact seS_size (by omega) (by omega)
        have p8 : A8.size ≤ 10 := by rw [hA8, size_list]; exact enc_len_ten (by omega)
        obtain ⟨B8, e8⟩ : ∃ B, A7 ++ A8 = B := ⟨_, rfl⟩
        have s8 : B8.size ≤ 20 := by rw [← e8, ByteArray.size_append]; omega
        obtain ⟨B9, e9⟩ : ∃ B, B8 ++ A7 = B := ⟨_, rfl⟩
        have s9 : B9.size ≤ 30 := by rw [← e9, ByteArray.size_append]; omega
        obtain ⟨T3, e10⟩ : ∃ B, T2 ++ B9 = B := ⟨_, rfl⟩
        have n8 := no_big (A := A7) (B := A8) (by omega)
        have n9 := no_big (A := B8) (B := A7) (by omega)
        have n10 := no_big (A := T2) (B := B9) (by omega)
        have HT3 : Hid (T3 = ⟨(seI (l.length : Int) ++ seRows l (k + 1)).toArray⟩) := by
          have h1 : T3 = ⟨_⟩ := e10 ▸ cat_list HT2.out.1 (e9 ▸ cat_list (e8 ▸ cat_list hA7 hA8) hA7)
          show T3 = _
          rw [h1, seRows_one HXK.out]
          unfold seRow
          rw [sxN_client, sxN_life, sxN_op, sxN_seq, sxN_said, hr]
          simp [SeR.zero]
        clear hr hTs hA7 hA8 p7 p8 s8 s9 hsd
        go_wp2_with (first
          | (go_at_call 36; have d2 := d1; refine Calls.mono (F7.out _) ?_; rintro e z3 ⟨rfl, b3⟩; have Z3 : Hid (Below w.heap.size w z3) := bmm Z2.out Z2.out.size b3; clear b3)
          | (go_at_call 38; refine Calls.mono (F8.out _) ?_; rintro e z2 ⟨rfl, b2⟩; have Z2 : Hid (Below w.heap.size w z2) := bmm Z1.out Z1.out.size b2; clear b2; have d1 : True := trivial)
          | (go_at_call 36; refine Calls.mono (F7.out _) ?_; rintro e z1 ⟨rfl, b1⟩; have Z1 : Hid (Below w.heap.size w z1) := bmm K24.out K24.out.size b1; clear b1))
        have hkl := HK.out
        exact ⟨⟨k + 1, T3, by omega, rfl, by simp, HT3, Z3⟩, by simp [intOf]; omega⟩
    · obtain rfl : k = l.length := by omega
      have t1 : decide ((l.length : Int) < (l.length : Int)) = false := decide_eq_false (by omega)
      have HTs : Hid (T.size ≤ 90000010) := by
        have h1 := HO.out.1.rows_len hll l.length (Nat.le_refl _)
        have h2 := seI_len (n := (l.length : Int)) (by omega) (by omega)
        show T.size ≤ _
        rw [HT.out, size_list, List.length_append]
        omega
      clear hkl hk
      go_wp2
      clear z0 t1
      go_loopw [6, 7, 8] (fun n u i wq => ∃ (c : Nat) (U : ByteArray), c ≤ 8 ∧ n = .int .i64 (seCnt l c : Int) ∧ u = .string U ∧ i = .int .i64 c ∧ Hid (U = ⟨(seEnds l c).toArray⟩) ∧ Hid (Below w.heap.size w wq)) (fun _ _ i _ => 8 - (intOf i).toNat)
      case atStart => exact ⟨0, ⟨#[]⟩, by omega, rfl, rfl, rfl, rfl, B⟩
      case round =>
        obtain ⟨c, U, hc, rfl, rfl, rfl, HU, KV0⟩ := hrel
        by_cases hc8 : c < 8
        · have t1 : decide ((c : Int) < 8) = true := decide_eq_true (by omega)
          have hcb : (c : Int) < 8 := by omega
          have q0 := HCF.out wr KV0.out c hc8
          obtain ⟨q1, q2⟩ := q0
          have hlf := HO.out.1.lif c
          have hlt := HO.out.1.lat c
          have hla := seLat_le l c
          have hel := HO.out.1.ends_len hll c (by omega)
          have hcn := seCnt_le l c
          by_cases hz : 0 < seLif l c
          · have t2 : decide (0 < seLif l c) = true := decide_eq_true hz
            have hz2 : 0 < seLat l c := hlt.2 hz
            have HN1 : Hid ((seCnt l (c + 1) : Int) = (seCnt l c : Int) + 1) := by
              show ((seCnt l c + if 0 < seLat l c then 1 else 0 : Nat) : Int) = _
              rw [if_pos hz2]
              rfl
            obtain ⟨m, hm⟩ : ∃ m, m = seCnt l c := ⟨_, rfl⟩
            rw [← hm] at HN1 hcn ⊢
            obtain ⟨P1, hP1⟩ : ∃ A, A = seS (c : Int) := ⟨_, rfl⟩
            obtain ⟨P2, hP2⟩ : ∃ A, A = seS (seLif l c) := ⟨_, rfl⟩
            obtain ⟨P3, hP3⟩ : ∃ A, A = seS (seLat l c : Int) := ⟨_, rfl⟩
            have G1 : Hid _ := fun y => fint_S (n := (c : Int)) (by omega) (by omega) hP1 y
            have G2 : Hid _ := fun y => fint_S (n := seLif l c) (by omega) (by omega) hP2 y
            have G3 : Hid _ := fun y => fint_S (n := (seLat l c : Int)) (by omega) (by omega) hP3 y
            have p1 : P1.size ≤ 10 := by rw [hP1]; exact seS_size (by omega) (by omega)
            have p2 : P2.size ≤ 10 := by rw [hP2]; exact seS_size (by omega) (by omega)
            have p3 : P3.size ≤ 10 := by rw [hP3]; exact seS_size (by omega) (by omega)
            have pU : U.size ≤ 300 := by rw [HU.out, size_list]; omega
            obtain ⟨D2, e2⟩ : ∃ B, P1 ++ P2 = B := ⟨_, rfl⟩
            have s2 : D2.size ≤ 20 := by rw [← e2, ByteArray.size_append]; omega
            obtain ⟨D3, e3⟩ : ∃ B, D2 ++ P3 = B := ⟨_, rfl⟩
            have s3 : D3.size ≤ 30 := by rw [← e3, ByteArray.size_append]; omega
            obtain ⟨U2, e4⟩ : ∃ B, U ++ D3 = B := ⟨_, rfl⟩
            have n2 := no_big (A := P1) (B := P2) (by omega)
            have n3 := no_big (A := D2) (B := P3) (by omega)
            have n4 := no_big (A := U) (B := D3) (by omega)
            have HU2 : Hid (U2 = ⟨(seEnds l (c + 1)).toArray⟩) := by
              have h1 : U2 = ⟨_⟩ := e4 ▸ cat_list HU.out (e3 ▸ cat_list (e2 ▸ cat_list hP1 hP2) hP3)
              show U2 = _
              rw [h1, seEnds_succ]
              unfold seEndC
              rw [if_pos hz2]
            have HC8 : Hid (c < 8) := hc8
            clear hlf hlt hla hel hz hz2 hm hP1 hP2 hP3 p1 p2 p3 pU s2 s3 hll
            go_upto_region 17 with fail
            have q0 := HCF.out wr KV0.out c hc8
            clear q1 q2 t1 t2
            refine wp_region_held_drew (S := (fun y : World => y.cell? ⟨X, 1 + c * 2, none⟩ = some (.int .i64 (seLif l c)) ∧ y.cell? ⟨X, 1 + c * 2 + 1, none⟩ = some (.int .i64 (seLat l c : Int)))) (by kernel_rfl) ?_ (fun hHeld0 => ?_)
            · exact q0
            refine tk0 (.string U) (by kernel_rfl) (by kernel_rfl) (by kernel_rfl) (fun _ _ _ h => h) rfl (fun w hSw => by (try dsimp only at hSw); obtain ⟨s1, s2⟩ := hSw; go_simp) (by assumption) ?_
            try simp only [Act.put, List.setIfInBounds_toArray, List.set_cons_zero, List.set_cons_succ]
            refine tk1 (.int .i64 (c : Int)) (by kernel_rfl) (by kernel_rfl) (by kernel_rfl) (fun _ _ _ h => h) rfl (fun w hSw => by (try dsimp only at hSw); obtain ⟨s1, s2⟩ := hSw; go_simp) (by assumption) ?_
            try simp only [Act.put, List.setIfInBounds_toArray, List.set_cons_zero, List.set_cons_succ]
            refine tk3 (.pointer (some ⟨X, 0, none⟩)) (by kernel_rfl) (by kernel_rfl) (by kernel_rfl) (fun _ _ _ h => h) rfl (fun w hSw => by (try dsimp only at hSw); obtain ⟨s1, s2⟩ := hSw; go_simp) (by assumption) ?_
            try simp only [Act.put, List.setIfInBounds_toArray, List.set_cons_zero, List.set_cons_succ]
            refine tk4 (.int .i64 (c : Int)) (by kernel_rfl) (by kernel_rfl) (by kernel_rfl) (fun _ _ _ h => h) rfl (fun w hSw => by (try dsimp only at hSw); obtain ⟨s1, s2⟩ := hSw; go_simp) (by assumption) ?_
            try simp only [Act.put, List.setIfInBounds_toArray, List.set_cons_zero, List.set_cons_succ]
            refine tk5 (.pointer (some ⟨X, 0, none⟩)) (by kernel_rfl) (by kernel_rfl) (by kernel_rfl) (fun _ _ _ h => h) rfl (fun w hSw => by (try dsimp only at hSw); obtain ⟨s1, s2⟩ := hSw; go_simp) (by assumption) ?_
            try simp only [Act.put, List.setIfInBounds_toArray, List.set_cons_zero, List.set_cons_succ]
            refine tk6 (.pointer (some ⟨X, 1, none⟩)) (by kernel_rfl) (by kernel_rfl) (by kernel_rfl) (fun _ _ _ h => h) rfl (fun w hSw => by (try dsimp only at hSw); obtain ⟨s1, s2⟩ := hSw; go_simp) (by assumption) ?_
            try simp only [Act.put, List.setIfInBounds_toArray, List.set_cons_zero, List.set_cons_succ]
            refine tk7 (.pointer (some ⟨X, 1 + c * 2, none⟩)) (by kernel_rfl) (by kernel_rfl) (by kernel_rfl) (fun _ _ _ h => h) rfl (fun w hSw => by (try dsimp only at hSw); obtain ⟨s1, s2⟩ := hSw; go_simp) (by assumption) ?_
            try simp only [Act.put, List.setIfInBounds_toArray, List.set_cons_zero, List.set_cons_succ]
            refine tk8 (.pointer (some ⟨X, 1 + c * 2, none⟩)) (by kernel_rfl) (by kernel_rfl) (by kernel_rfl) (fun _ _ _ h => h) rfl (fun w hSw => by (try dsimp only at hSw); obtain ⟨s1, s2⟩ := hSw; go_simp) (by assumption) ?_
            try simp only [Act.put, List.setIfInBounds_toArray, List.set_cons_zero, List.set_cons_succ]
            refine tk9 (.int .i64 (seLif l c)) (by kernel_rfl) (by kernel_rfl) (by kernel_rfl) (fun _ _ _ h => h) rfl (fun w hSw => by (try dsimp only at hSw); obtain ⟨s1, s2⟩ := hSw; go_simp) (by assumption) ?_
            try simp only [Act.put, List.setIfInBounds_toArray, List.set_cons_zero, List.set_cons_succ]
            refine tk12 (.pointer (some ⟨X, 0, none⟩)) (by kernel_rfl) (by kernel_rfl) (by kernel_rfl) (fun _ _ _ h => h) rfl (fun w hSw => by (try dsimp only at hSw); obtain ⟨s1, s2⟩ := hSw; go_simp) (by assumption) ?_
            try simp only [Act.put, List.setIfInBounds_toArray, List.set_cons_zero, List.set_cons_succ]
            refine tk13 (.int .i64 (c : Int)) (by kernel_rfl) (by kernel_rfl) (by kernel_rfl) (fun _ _ _ h => h) rfl (fun w hSw => by (try dsimp only at hSw); obtain ⟨s1, s2⟩ := hSw; go_simp) (by assumption) ?_
            try simp only [Act.put, List.setIfInBounds_toArray, List.set_cons_zero, List.set_cons_succ]
            refine tk14 (.pointer (some ⟨X, 0, none⟩)) (by kernel_rfl) (by kernel_rfl) (by kernel_rfl) (fun _ _ _ h => h) rfl (fun w hSw => by (try dsimp only at hSw); obtain ⟨s1, s2⟩ := hSw; go_simp) (by assumption) ?_
            try simp only [Act.put, List.setIfInBounds_toArray, List.set_cons_zero, List.set_cons_succ]
            refine tk15 (.pointer (some ⟨X, 1, none⟩)) (by kernel_rfl) (by kernel_rfl) (by kernel_rfl) (fun _ _ _ h => h) rfl (fun w hSw => by (try dsimp only at hSw); obtain ⟨s1, s2⟩ := hSw; go_simp) (by assumption) ?_
            try simp only [Act.put, List.setIfInBounds_toArray, List.set_cons_zero, List.set_cons_succ]
            refine tk16 (.pointer (some ⟨X, 1 + c * 2, none⟩)) (by kernel_rfl) (by kernel_rfl) (by kernel_rfl) (fun _ _ _ h => h) rfl (fun w hSw => by (try dsimp only at hSw); obtain ⟨s1, s2⟩ := hSw; go_simp) (by assumption) ?_
            try simp only [Act.put, List.setIfInBounds_toArray, List.set_cons_zero, List.set_cons_succ]
            refine tk17 (.pointer (some ⟨X, 1 + c * 2 + 1, none⟩)) (by kernel_rfl) (by kernel_rfl) (by kernel_rfl) (fun _ _ _ h => h) rfl (fun w hSw => by (try dsimp only at hSw); obtain ⟨s1, s2⟩ := hSw; go_simp) (by assumption) ?_
            try simp only [Act.put, List.setIfInBounds_toArray, List.set_cons_zero, List.set_cons_succ]
            refine tk18 (.int .i64 (seLat l c : Int)) (by kernel_rfl) (by kernel_rfl) (by kernel_rfl) (fun _ _ _ h => h) rfl (fun w hSw => by (try dsimp only at hSw); obtain ⟨s1, s2⟩ := hSw; go_simp) (by assumption) ?_
            try simp only [Act.put, List.setIfInBounds_toArray, List.set_cons_zero, List.set_cons_succ]
            refine cl2 (by kernel_rfl) rfl (fun K hK => ?_)
            go_simp
            go_at_call 36
            refine Calls.mono (G1.out _) ?_
            rintro e v2 ⟨rfl, b2⟩
            replace b2 := undrew b2
            have KV2 : Hid (Below w.heap.size w v2) := bmm KV0.out KV0.out.size b2
            have q2 := HCF.out v2 KV2.out c hc8
            clear b2
            refine hK.out _ _ ?_ (fun hHeld => ?_)
            · exact q2
            clear hK K
            try simp only [Act.put, List.setIfInBounds_toArray, List.set_cons_zero, List.set_cons_succ]
            refine cl10 (by kernel_rfl) rfl (fun K hK => ?_)
            go_simp
            go_at_call 36
            refine Calls.mono (G2.out _) ?_
            rintro e v10 ⟨rfl, b10⟩
            have KV10 : Hid (Below w.heap.size w v10) := bmm KV2.out KV2.out.size b10
            have q10 := HCF.out v10 KV10.out c hc8
            clear b10
            refine hK.out _ _ ?_ (fun hHeld => ?_)
            · exact q10
            clear hK K
            try simp only [Act.put, List.setIfInBounds_toArray, List.set_cons_zero, List.set_cons_succ]
            refine tk11 (.string D2) (by kernel_rfl) (by kernel_rfl) (by kernel_rfl) (fun _ _ _ h => h) rfl (fun w hSw => by (try dsimp only at hSw); obtain ⟨s1, s2⟩ := hSw; go_simp) (by assumption) ?_
            try simp only [Act.put, List.setIfInBounds_toArray, List.set_cons_zero, List.set_cons_succ]
            refine cl19 (by kernel_rfl) rfl (fun K hK => ?_)
            go_simp
            go_at_call 36
            refine Calls.mono (G3.out _) ?_
            rintro e v19 ⟨rfl, b19⟩
            have KV19 : Hid (Below w.heap.size w v19) := bmm KV10.out KV10.out.size b19
            have q19 := HCF.out v19 KV19.out c hc8
            clear b19
            refine hK.out _ _ ?_ (fun hHeld => ?_)
            · exact q19
            clear hK K
            try simp only [Act.put, List.setIfInBounds_toArray, List.set_cons_zero, List.set_cons_succ]
            refine tk20 (.string D3) (by kernel_rfl) (by kernel_rfl) (by kernel_rfl) (fun _ _ _ h => h) rfl (fun w hSw => by (try dsimp only at hSw); obtain ⟨s1, s2⟩ := hSw; go_simp) (by assumption) ?_
            try simp only [Act.put, List.setIfInBounds_toArray, List.set_cons_zero, List.set_cons_succ]
            refine tk21 (.string U2) (by kernel_rfl) (by kernel_rfl) (by kernel_rfl) (fun _ _ _ h => h) rfl (fun w hSw => by (try dsimp only at hSw); obtain ⟨s1, s2⟩ := hSw; go_simp) (by assumption) ?_
            try simp only [Act.put, List.setIfInBounds_toArray, List.set_cons_zero, List.set_cons_succ]
            refine tk22 (.string U2) (by kernel_rfl) (by kernel_rfl) (by kernel_rfl) (fun _ _ _ h => h) rfl (fun w hSw => by (try dsimp only at hSw); obtain ⟨s1, s2⟩ := hSw; go_simp) (by assumption) ?_
            try simp only [Act.put, List.setIfInBounds_toArray, List.set_cons_zero, List.set_cons_succ]
            refine wpAnyH_done (by kernel_rfl) ?_ _
            go_wp2
            have hc8 := HC8.out
            exact ⟨⟨c + 1, U2, by omega, by rw [HN1.out], rfl, by simp, HU2, KV19⟩, by simp [intOf]; omega⟩
          · have t2 : decide (0 < seLif l c) = false := decide_eq_false hz
            have hz2 : ¬ 0 < seLat l c := fun h => hz (hlt.1 h)
            have HN1 : Hid (seCnt l (c + 1) = seCnt l c) := by
              show (seCnt l c + if 0 < seLat l c then 1 else 0) = _
              rw [if_neg hz2]
              rfl
            have HU2 : Hid (seEnds l (c + 1) = seEnds l c) := by
              show seEnds l (c + 1) = _
              rw [seEnds_succ]
              unfold seEndC
              rw [if_neg hz2, List.append_nil]
            clear hlf hlt hla hel hz hz2 hll hcn
            go_wp2
            exact ⟨⟨c + 1, U, by omega, by rw [HN1.out], rfl, by simp, by rw [HU2.out]; exact HU, KV0⟩, by simp [intOf]; omega⟩
        · obtain rfl : c = 8 := by omega
          have t1 : decide ((8 : Int) < 8) = false := by decide
          have hcn := seCnt_le l 8
          have hel := HO.out.1.ends_len hll 8 (by omega)
          obtain ⟨P1, hP1⟩ : ∃ A, A = seS (seCnt l 8 : Int) := ⟨_, rfl⟩
          have G1 : Hid _ := fun y => fint_S (n := (seCnt l 8 : Int)) (by omega) (by omega) hP1 y
          have p1 : P1.size ≤ 10 := by rw [hP1]; exact seS_size (by omega) (by omega)
          have pU : U.size ≤ 300 := by rw [HU.out, size_list]; omega
          have pT := HTs.out
          obtain ⟨E1, e1⟩ : ∃ B, T ++ P1 = B := ⟨_, rfl⟩
          have s1 : E1.size ≤ 90000020 := by rw [← e1, ByteArray.size_append]; omega
          obtain ⟨E2, e2⟩ : ∃ B, E1 ++ U = B := ⟨_, rfl⟩
          have n1 := no_big (A := T) (B := P1) (by omega)
          have n2 := no_big (A := E1) (B := U) (by omega)
          have HE : Hid (E2 = ⟨(seEnc l).toArray⟩) := by
            have h1 : E2 = ⟨_⟩ := e2 ▸ cat_list (e1 ▸ cat_list HT.out hP1) HU.out
            show E2 = _
            rw [h1]
            rfl
          obtain ⟨m, hm⟩ : ∃ m, m = seCnt l 8 := ⟨_, rfl⟩
          rw [← hm] at G1 ⊢
          clear hm hcn hel hP1 p1 pU pT s1 hc8 hc hll
          go_wp2_with (go_at_call 36; refine Calls.mono (G1.out _) ?_; rintro e z1 ⟨rfl, b1⟩; have Z1 : Hid (Below w.heap.size w z1) := bmm KV0.out KV0.out.size b1; clear b1)
          go_ret
          rw [← HE.out]
          exact ⟨rfl, Z1.out⟩
end Go.Proofs.Ythokbififjhflaa
