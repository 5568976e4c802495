/-
  CmdsDecodes, for every text: package cmds answers as the document's. From what package cmds answers ('CmdsOk'); no other condition but the text's length.
-/
import Derived.Test.YtgkpdbfpajmphaaCmAwake
namespace Go.Proofs.Ytgkpdbfpajmphaa
open Go.RowKit

theorem BoxE.below {w w' : World} {X : Nat} {A B K S Q N : Int} {T : ByteArray} (h : BoxE w X A B K S Q T N) (b : Below w.heap.size w w') : BoxE w' X A B K S Q T N :=
  ⟨Nat.lt_of_lt_of_le h.lt b.size, (b.cell (by exact h.lt)).trans h.c0, (b.cell (by exact h.lt)).trans h.c1, (b.cell (by exact h.lt)).trans h.c2, (b.cell (by exact h.lt)).trans h.c3, (b.cell (by exact h.lt)).trans h.c4, (b.cell (by exact h.lt)).trans h.c5, (b.cell (by exact h.lt)).trans h.c6⟩
theorem Box.new (w : World) (K S Q N : Int) (T : ByteArray) : Box (w.alloc (.cells #[.int .i64 K, .int .i64 S, .int .i64 Q, .string T, .int .i64 N] 23)) w.heap.size 0 K S Q T N := ⟨by simp, by simp, by simp, by simp, by simp, by simp⟩
theorem BoxE.new (w : World) (A B K S Q N : Int) (T : ByteArray) : BoxE (w.alloc (.cells #[.int .i64 A, .int .i64 B, .int .i64 K, .int .i64 S, .int .i64 Q, .string T, .int .i64 N] 25)) w.heap.size A B K S Q T N := ⟨by simp, by simp, by simp, by simp, by simp, by simp, by simp, by simp⟩
theorem eta2 {α β : Type} (x : α × β) : x = (x.1, x.2) := rfl
theorem grew (w : World) (o : Obj) : Below w.heap.size w (w.alloc o) := (Below.refl _ w).alloc (Nat.le_refl _) o

set_option maxHeartbeats 3200000 in
set_option maxRecDepth 100000 in
theorem decodes_walk {G : World → Prop} (hF : CmdsOk G) (s : ByteArray) (hs : s.size ≤ 9223372036854775807) (w : World) (t0 : G w) :
    Calls Try.prog 4 #[.string s] w fun e w' => e = .returned (.bool true) ∧ Below w.heap.size w w' := by
  have qa := awake_any hF
  have q1 := fun w (hT : G w) => hF.decode s w hs hT
  have q2 := rdecode_any s (by omega)
  have q3 := fun w (hT : G w) => hF.decodeE s w hs hT
  have q4 := rdecodeE_any s (by omega)
  obtain ⟨⟨K, S, Q, T, N⟩, R, hd⟩ : ∃ c r, decT s = (c, r) := ⟨_, _, eta2 (decT s)⟩
  obtain ⟨⟨A, B, ⟨K', S', Q', T', N'⟩⟩, R', he⟩ : ∃ c r, decET s = (c, r) := ⟨_, _, eta2 (decET s)⟩
  rw [hd] at q1 q2
  rw [he] at q3 q4
  simp only at q1 q2 q3 q4
  have kp := @hF.keep
  clear hd he hF
  go_enter Try.func4, Try.ntmps4
  go_wp2_with (first
    | (go_at_call 13; refine (qa _ (by exact t4')).mono ?_; rintro e w5 ⟨rfl, b5⟩)
    | (go_at_call 17; refine (q4 _).mono ?_; rintro e w4 ⟨rfl, b4⟩; have t4 := kp t3' b4; have a4 := grew w4 (.cells #[.int .i64 A, .int .i64 B, .int .i64 K', .int .i64 S', .int .i64 Q', .string T', .int .i64 N'] 25); have t4' := kp t4 a4; have m1 := (x3.below (grew w3 (.cells #[.int .i64 A, .int .i64 B, .int .i64 K', .int .i64 S', .int .i64 Q', .string T', .int .i64 N'] 25))).below b4; have m2 := (y3.below (grew w3 (.cells #[.int .i64 A, .int .i64 B, .int .i64 K', .int .i64 S', .int .i64 Q', .string T', .int .i64 N'] 25))).below b4; have m3 := (BoxE.new w3 A B K' S' Q' N' T').below b4; have l1 := m1.lt; have l2 := m2.lt; have l3 := m3.lt; have i0 := m1.c0; have i1 := m1.c1; have i2 := m1.c2; have i3 := m1.c3; have i4 := m1.c4; have j0 := m2.c0; have j1 := m2.c1; have j2 := m2.c2; have j3 := m2.c3; have j4 := m2.c4; have k0 := m3.c0; have k1 := m3.c1; have k2 := m3.c2; have k3 := m3.c3; have k4 := m3.c4; have k5 := m3.c5; have k6 := m3.c6; simp only [Nat.zero_add] at i1 i2 i3 i4 j1 j2 j3 j4)
    | (go_at_call 16; refine (q3 _ (by exact t2')).mono ?_; rintro e w3 ⟨rfl, b3⟩; have t3 := kp t2' b3; have t3' := kp t3 (grew w3 (.cells #[.int .i64 A, .int .i64 B, .int .i64 K', .int .i64 S', .int .i64 Q', .string T', .int .i64 N'] 25)); have x3 := (x2.below (grew w2 (.cells #[.int .i64 K, .int .i64 S, .int .i64 Q, .string T, .int .i64 N] 23))).below b3; have y3 := (Box.new w2 K S Q N T).below b3)
    | (go_at_call 15; refine (q2 _).mono ?_; rintro e w2 ⟨rfl, b2⟩; have t2 := kp t1' b2; have t2' := kp t2 (grew w2 (.cells #[.int .i64 K, .int .i64 S, .int .i64 Q, .string T, .int .i64 N] 23)); have x2 := (Box.new w1 K S Q N T).below b2)
    | (go_at_call 14; refine (q1 _ (by exact t0)).mono ?_; rintro e w1 ⟨rfl, b1⟩; have t1 := kp t0 b1; have t1' := kp t1 (grew w1 (.cells #[.int .i64 K, .int .i64 S, .int .i64 Q, .string T, .int .i64 N] 23))))
  go_ret
  have f1 := b1.alloc b1.size (.cells #[.int .i64 K, .int .i64 S, .int .i64 Q, .string T, .int .i64 N] 23)
  have f2 := bmm f1 f1.size b2
  have f2' := f2.alloc f2.size (.cells #[.int .i64 K, .int .i64 S, .int .i64 Q, .string T, .int .i64 N] 23)
  have f3 := bmm f2' f2'.size b3
  have f3' := f3.alloc f3.size (.cells #[.int .i64 A, .int .i64 B, .int .i64 K', .int .i64 S', .int .i64 Q', .string T', .int .i64 N'] 25)
  have f4 := bmm f3' f3'.size b4
  have f4' := f4.alloc f4.size (.cells #[.int .i64 A, .int .i64 B, .int .i64 K', .int .i64 S', .int .i64 Q', .string T', .int .i64 N'] 25)
  exact ⟨rfl, bmm f4' f4'.size b5⟩

theorem grewD (w : World) : Below w.heap.size w w.drew := (Below.refl _ w).drew

set_option maxHeartbeats 3200000 in
set_option maxRecDepth 100000 in
theorem encodes_walk {G : World → Prop} (hF : CmdsOk G) (A B K S Q N : Int) (T : ByteArray) (w : World) (t0 : G w) :
    Calls Try.prog 3 #[.agg #[.int .i64 A, .int .i64 B, .int .i64 K, .int .i64 S, .int .i64 Q, .string T, .int .i64 N]] w fun e w' => e = .returned (.bool true) ∧ Below w.heap.size w w' := by
  have qa := awake_any hF
  have q1 := fun w (hT : G w) => hF.encode K S Q N T w hT
  have q2 := rencode_any K S Q N T
  have q3 := fun w (hT : G w) => hF.encodeE A B K S Q N T w hT
  have q4 := rencodeE_any A B K S Q N T
  have q5 := fun w (hT : G w) => hF.check K S Q N T w hT
  have q6 := rmay_any K S Q N T
  obtain ⟨X, R, hd⟩ : ∃ c r, encT ⟨K, S, Q, T, N⟩ = (c, r) := ⟨_, _, eta2 _⟩
  obtain ⟨Y, R', he⟩ : ∃ c r, encET ⟨A, B, ⟨K, S, Q, T, N⟩⟩ = (c, r) := ⟨_, _, eta2 _⟩
  rw [hd] at q1 q2
  rw [he] at q3 q4
  simp only at q1 q2 q3 q4
  have kp := @hF.keep
  have ba : Below w.heap.size w (w.alloc (.cells #[.int .i64 A, .int .i64 B, .int .i64 K, .int .i64 S, .int .i64 Q, .string T, .int .i64 N] 25)) := grew w _
  have x0 := BoxE.new w A B K S Q N T
  clear hd he hF
  by_cases hm : mayB ⟨K, S, Q, T, N⟩ = true
  · have hc : chkT ⟨K, S, Q, T, N⟩ = 0 := by unfold chkT; rw [if_pos hm]
    rw [hc] at q5
    rw [hm] at q6
    clear hc hm
    go_enter Try.func3, Try.ntmps3
    go_wp2_with (first
      | (go_at_call 10; refine (q4 _).mono ?_; rintro e w4 ⟨rfl, b4⟩; have t4 := kp t3 b4; have x4 := x3.below b4; have g4_0 := x4.c0; have g4_1 := x4.c1; have g4_2 := x4.c2; have g4_3 := x4.c3; have g4_4 := x4.c4; have g4_5 := x4.c5; have g4_6 := x4.c6)
      | (go_at_call 9; refine (q3 _ (by exact t2)).mono ?_; rintro e w3 ⟨rfl, b3⟩; have t3 := kp t2 b3; have x3 := x2.below b3; have g3_0 := x3.c0; have g3_1 := x3.c1; have g3_2 := x3.c2; have g3_3 := x3.c3; have g3_4 := x3.c4; have g3_5 := x3.c5; have g3_6 := x3.c6)
      | (go_at_call 8; refine (q2 _).mono ?_; rintro e w2 ⟨rfl, b2⟩; have t2 := kp t1 b2; have x2 := x1.below b2; have g2_0 := x2.c0; have g2_1 := x2.c1; have g2_2 := x2.c2; have g2_3 := x2.c3; have g2_4 := x2.c4; have g2_5 := x2.c5; have g2_6 := x2.c6)
      | (go_at_call 7; refine (q1 _ (by exact kp t0 ba)).mono ?_; rintro e w1 ⟨rfl, b1⟩; have t1 := kp (kp t0 ba) b1; have x1 := x0.below b1; have g1_0 := x1.c0; have g1_1 := x1.c1; have g1_2 := x1.c2; have g1_3 := x1.c3; have g1_4 := x1.c4; have g1_5 := x1.c5; have g1_6 := x1.c6))
    go_region_held3 (fun w' => w'.cell? ⟨w.heap.size, 0, none⟩ = some (.int .i64 A) ∧ w'.cell? ⟨w.heap.size, 1, none⟩ = some (.int .i64 B) ∧ w'.cell? ⟨w.heap.size, 2, none⟩ = some (.int .i64 K) ∧ w'.cell? ⟨w.heap.size, 3, none⟩ = some (.int .i64 S) ∧ w'.cell? ⟨w.heap.size, 4, none⟩ = some (.int .i64 Q) ∧ w'.cell? ⟨w.heap.size, 5, none⟩ = some (.string T) ∧ w'.cell? ⟨w.heap.size, 6, none⟩ = some (.int .i64 N)) (go_keep)
      (first
        | (go_at_call 13; refine (qa _ ?_).mono ?_; exact t6; rintro e w7 ⟨rfl, b7⟩; have x7 := x6.below b7; have g7_0 := x7.c0; have g7_1 := x7.c1; have g7_2 := x7.c2; have g7_3 := x7.c3; have g7_4 := x7.c4; have g7_5 := x7.c5; have g7_6 := x7.c6)
        | (go_at_call 12; refine (q6 _).mono ?_; rintro e w6 ⟨rfl, b6⟩; have t6 := kp t5 b6; have x6 := x5.below b6; have g6_0 := x6.c0; have g6_1 := x6.c1; have g6_2 := x6.c2; have g6_3 := x6.c3; have g6_4 := x6.c4; have g6_5 := x6.c5; have g6_6 := x6.c6)
        | (go_at_call 11; refine (q5 _ ?_).mono ?_; exact kp t4 (grewD w4); rintro e w5 ⟨rfl, b5'⟩; have b5 := undrew b5'; have t5 := kp t4 b5; have x5 := x4.below b5; have g5_0 := x5.c0; have g5_1 := x5.c1; have g5_2 := x5.c2; have g5_3 := x5.c3; have g5_4 := x5.c4; have g5_5 := x5.c5; have g5_6 := x5.c6))
    go_wp2
    go_ret
    have f1 := bmm ba ba.size b1
    have f2 := bmm f1 f1.size b2
    have f3 := bmm f2 f2.size b3
    have f4 := bmm f3 f3.size b4
    have f5 := bmm f4 f4.size b5
    have f6 := bmm f5 f5.size b6
    exact ⟨rfl, bmm f6 f6.size b7⟩
  · have hc : chkT ⟨K, S, Q, T, N⟩ = 1 := by unfold chkT; rw [if_neg hm]
    rw [hc] at q5
    rw [show mayB ⟨K, S, Q, T, N⟩ = false by simpa using hm] at q6
    clear hc hm
    go_enter Try.func3, Try.ntmps3
    go_wp2_with (first
      | (go_at_call 10; refine (q4 _).mono ?_; rintro e w4 ⟨rfl, b4⟩; have t4 := kp t3 b4; have x4 := x3.below b4; have g4_0 := x4.c0; have g4_1 := x4.c1; have g4_2 := x4.c2; have g4_3 := x4.c3; have g4_4 := x4.c4; have g4_5 := x4.c5; have g4_6 := x4.c6)
      | (go_at_call 9; refine (q3 _ (by exact t2)).mono ?_; rintro e w3 ⟨rfl, b3⟩; have t3 := kp t2 b3; have x3 := x2.below b3; have g3_0 := x3.c0; have g3_1 := x3.c1; have g3_2 := x3.c2; have g3_3 := x3.c3; have g3_4 := x3.c4; have g3_5 := x3.c5; have g3_6 := x3.c6)
      | (go_at_call 8; refine (q2 _).mono ?_; rintro e w2 ⟨rfl, b2⟩; have t2 := kp t1 b2; have x2 := x1.below b2; have g2_0 := x2.c0; have g2_1 := x2.c1; have g2_2 := x2.c2; have g2_3 := x2.c3; have g2_4 := x2.c4; have g2_5 := x2.c5; have g2_6 := x2.c6)
      | (go_at_call 7; refine (q1 _ (by exact kp t0 ba)).mono ?_; rintro e w1 ⟨rfl, b1⟩; have t1 := kp (kp t0 ba) b1; have x1 := x0.below b1; have g1_0 := x1.c0; have g1_1 := x1.c1; have g1_2 := x1.c2; have g1_3 := x1.c3; have g1_4 := x1.c4; have g1_5 := x1.c5; have g1_6 := x1.c6))
    go_region_held3 (fun w' => w'.cell? ⟨w.heap.size, 0, none⟩ = some (.int .i64 A) ∧ w'.cell? ⟨w.heap.size, 1, none⟩ = some (.int .i64 B) ∧ w'.cell? ⟨w.heap.size, 2, none⟩ = some (.int .i64 K) ∧ w'.cell? ⟨w.heap.size, 3, none⟩ = some (.int .i64 S) ∧ w'.cell? ⟨w.heap.size, 4, none⟩ = some (.int .i64 Q) ∧ w'.cell? ⟨w.heap.size, 5, none⟩ = some (.string T) ∧ w'.cell? ⟨w.heap.size, 6, none⟩ = some (.int .i64 N)) (go_keep)
      (first
        | (go_at_call 13; refine (qa _ ?_).mono ?_; exact t6; rintro e w7 ⟨rfl, b7⟩; have x7 := x6.below b7; have g7_0 := x7.c0; have g7_1 := x7.c1; have g7_2 := x7.c2; have g7_3 := x7.c3; have g7_4 := x7.c4; have g7_5 := x7.c5; have g7_6 := x7.c6)
        | (go_at_call 12; refine (q6 _).mono ?_; rintro e w6 ⟨rfl, b6⟩; have t6 := kp t5 b6; have x6 := x5.below b6; have g6_0 := x6.c0; have g6_1 := x6.c1; have g6_2 := x6.c2; have g6_3 := x6.c3; have g6_4 := x6.c4; have g6_5 := x6.c5; have g6_6 := x6.c6)
        | (go_at_call 11; refine (q5 _ ?_).mono ?_; exact kp t4 (grewD w4); rintro e w5 ⟨rfl, b5'⟩; have b5 := undrew b5'; have t5 := kp t4 b5; have x5 := x4.below b5; have g5_0 := x5.c0; have g5_1 := x5.c1; have g5_2 := x5.c2; have g5_3 := x5.c3; have g5_4 := x5.c4; have g5_5 := x5.c5; have g5_6 := x5.c6))
    go_wp2
    go_ret
    have f1 := bmm ba ba.size b1
    have f2 := bmm f1 f1.size b2
    have f3 := bmm f2 f2.size b3
    have f4 := bmm f3 f3.size b4
    have f5 := bmm f4 f4.size b5
    have f6 := bmm f5 f5.size b6
    exact ⟨rfl, bmm f6 f6.size b7⟩
end Go.Proofs.Ytgkpdbfpajmphaa
