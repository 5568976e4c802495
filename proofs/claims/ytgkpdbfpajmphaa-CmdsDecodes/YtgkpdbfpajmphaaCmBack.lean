/-
  CmdsBack, for every entry and every text: what was encoded is decoded as it was; what is decoded of a text is encoded as that text. From what package cmds answers ('CmdsOk'); no other condition but the text's length.
-/
import Derived.Test.YtgkpdbfpajmphaaCmLaws
namespace Go.Proofs.Ytgkpdbfpajmphaa
open Go.RowKit

theorem encE_len {e : En} (h : mayE e = true) : (encE e).length ≤ 300 := by
  obtain ⟨h1, h2, h3⟩ := mayE_small h
  have l0 := encC_len h3
  have l1 := enc_len_ten (zig_bound (n := e.slot) (by omega) (by omega))
  have l2 := enc_len_ten (zig_bound (n := e.ballot) (by omega) (by omega))
  have l3 := enc_len_ten (n := (encC e.cmd).length) (by omega)
  unfold encE lenText
  simp only [List.length_append, size_list]
  omega

set_option maxHeartbeats 3200000 in
set_option maxRecDepth 100000 in
theorem back_walk {G : World → Prop} (hF : CmdsOk G) (A B K S Q N : Int) (T s : ByteArray) (hs : s.size ≤ 9223372036854775807) (w : World) (t0 : G w) :
    Calls Try.prog 5 #[.agg #[.int .i64 A, .int .i64 B, .int .i64 K, .int .i64 S, .int .i64 Q, .string T, .int .i64 N], .string s] w fun e w' => e = .returned (.bool true) ∧ Below w.heap.size w w' := by
  have qa := awake_any hF
  have q1 := fun w (hT : G w) => hF.encodeE A B K S Q N T w hT
  have q3 := fun w (hT : G w) => hF.decode s w hs hT
  have kp := @hF.keep
  have ba : Below w.heap.size w (w.alloc (.cells #[.int .i64 A, .int .i64 B, .int .i64 K, .int .i64 S, .int .i64 Q, .string T, .int .i64 N] 25)) := grew w _
  have x0 := BoxE.new w A B K S Q N T
  by_cases hm : mayE ⟨A, B, ⟨K, S, Q, T, N⟩⟩ = true
  · have e1 : encET ⟨A, B, ⟨K, S, Q, T, N⟩⟩ = (⟨(encE ⟨A, B, ⟨K, S, Q, T, N⟩⟩).toArray⟩, 0) := by unfold encET; rw [if_pos hm]
    have e2 : decET ⟨(encE ⟨A, B, ⟨K, S, Q, T, N⟩⟩).toArray⟩ = (⟨A, B, ⟨K, S, Q, T, N⟩⟩, 0) := by unfold decET; rw [decE_enc hm]
    have hl := encE_len hm
    have q2 := fun w (hT : G w) => hF.decodeE ⟨(encE ⟨A, B, ⟨K, S, Q, T, N⟩⟩).toArray⟩ w (by rw [size_list]; omega) hT
    rw [e1] at q1
    rw [e2] at q2
    obtain ⟨X, hX⟩ : ∃ X : ByteArray, X = ⟨(encE ⟨A, B, ⟨K, S, Q, T, N⟩⟩).toArray⟩ := ⟨_, rfl⟩
    rw [← hX] at q1 q2
    simp only at q1 q2
    clear hX e1 e2 hl hm
    cases hc : decC s with
    | none =>
      have e3 : decT s = (Cm.zero, 2) := by unfold decT; rw [hc]
      rw [e3] at q3
      simp only [Cm.zero] at q3
      clear e3 hc hF
      go_enter Try.func5, Try.ntmps5
      go_wp2_with (first
        | (go_at_call 13; refine (qa _ (by exact t3')).mono ?_; rintro e w5 ⟨rfl, b5⟩)
        | (go_at_call 14; refine (q3 _ (by exact tp)).mono ?_; rintro e w3 ⟨rfl, b3⟩; have t3 := kp tp b3; have t3' := kp t3 (grew w3 (.cells #[.int .i64 0, .int .i64 0, .int .i64 0, .string ⟨#[]⟩, .int .i64 0] 23)))
        | (go_at_call 16; refine (q2 _ (by exact t1)).mono ?_; rintro e w2 ⟨rfl, b2⟩; have t2 := kp t1 b2; have tp := kp t2 (grew w2 (.cells #[.int .i64 A, .int .i64 B, .int .i64 K, .int .i64 S, .int .i64 Q, .string T, .int .i64 N] 25)); have x2 := x1.below b2; have l2 := x2.lt; have h2_0 := x2.c0; have h2_1 := x2.c1; have h2_2 := x2.c2; have h2_3 := x2.c3; have h2_4 := x2.c4; have h2_5 := x2.c5; have h2_6 := x2.c6)
        | (go_at_call 9; refine (q1 _ (by exact kp t0 ba)).mono ?_; rintro e w1 ⟨rfl, b1⟩; have t1 := kp (kp t0 ba) b1; have x1 := x0.below b1; have h1_0 := x1.c0; have h1_1 := x1.c1; have h1_2 := x1.c2; have h1_3 := x1.c3; have h1_4 := x1.c4; have h1_5 := x1.c5; have h1_6 := x1.c6))
      go_ret
      have f1 := bmm ba ba.size b1
      have f2 := bmm f1 f1.size b2
      have f2' := f2.alloc f2.size (.cells #[.int .i64 A, .int .i64 B, .int .i64 K, .int .i64 S, .int .i64 Q, .string T, .int .i64 N] 25)
      have f3 := bmm f2' f2'.size b3
      have f3' := f3.alloc f3.size (.cells #[.int .i64 0, .int .i64 0, .int .i64 0, .string ⟨#[]⟩, .int .i64 0] 23)
      exact ⟨rfl, bmm f3' f3'.size b5⟩
    | some c =>
      obtain ⟨K', S', Q', T', N'⟩ := c
      have e3 : decT s = (⟨K', S', Q', T', N'⟩, 0) := by unfold decT; rw [hc]
      obtain ⟨hm', hs'⟩ := decC_only hc
      have e4 : encT ⟨K', S', Q', T', N'⟩ = (s, 0) := by unfold encT; rw [if_pos hm', ← hs']
      have q4 := fun w (hT : G w) => hF.encode K' S' Q' N' T' w hT
      rw [e3] at q3
      rw [e4] at q4
      simp only at q3 q4
      clear e3 e4 hc hF hm' hs'
      go_enter Try.func5, Try.ntmps5
      go_wp2_with (first
        | (go_at_call 13; refine (qa _ (by exact t4)).mono ?_; rintro e w5 ⟨rfl, b5⟩)
        | (go_at_call 7; refine (q4 _ (by exact t3')).mono ?_; rintro e w4 ⟨rfl, b4⟩; have t4 := kp t3' b4)
        | (go_at_call 14; refine (q3 _ (by exact tp)).mono ?_; rintro e w3 ⟨rfl, b3⟩; have t3 := kp tp b3; have t3' := kp t3 (grew w3 (.cells #[.int .i64 K', .int .i64 S', .int .i64 Q', .string T', .int .i64 N'] 23)))
        | (go_at_call 16; refine (q2 _ (by exact t1)).mono ?_; rintro e w2 ⟨rfl, b2⟩; have t2 := kp t1 b2; have tp := kp t2 (grew w2 (.cells #[.int .i64 A, .int .i64 B, .int .i64 K, .int .i64 S, .int .i64 Q, .string T, .int .i64 N] 25)); have x2 := x1.below b2; have l2 := x2.lt; have h2_0 := x2.c0; have h2_1 := x2.c1; have h2_2 := x2.c2; have h2_3 := x2.c3; have h2_4 := x2.c4; have h2_5 := x2.c5; have h2_6 := x2.c6)
        | (go_at_call 9; refine (q1 _ (by exact kp t0 ba)).mono ?_; rintro e w1 ⟨rfl, b1⟩; have t1 := kp (kp t0 ba) b1; have x1 := x0.below b1; have h1_0 := x1.c0; have h1_1 := x1.c1; have h1_2 := x1.c2; have h1_3 := x1.c3; have h1_4 := x1.c4; have h1_5 := x1.c5; have h1_6 := x1.c6))
      go_ret
      have f1 := bmm ba ba.size b1
      have f2 := bmm f1 f1.size b2
      have f2' := f2.alloc f2.size (.cells #[.int .i64 A, .int .i64 B, .int .i64 K, .int .i64 S, .int .i64 Q, .string T, .int .i64 N] 25)
      have f3 := bmm f2' f2'.size b3
      have f3' := f3.alloc f3.size (.cells #[.int .i64 K', .int .i64 S', .int .i64 Q', .string T', .int .i64 N'] 23)
      have f4 := bmm f3' f3'.size b4
      exact ⟨rfl, bmm f4 f4.size b5⟩
  · have e1 : encET ⟨A, B, ⟨K, S, Q, T, N⟩⟩ = (⟨#[]⟩, 1) := by unfold encET; rw [if_neg hm]
    rw [e1] at q1
    simp only at q1
    clear e1 hm
    cases hc : decC s with
    | none =>
      have e3 : decT s = (Cm.zero, 2) := by unfold decT; rw [hc]
      rw [e3] at q3
      simp only [Cm.zero] at q3
      clear e3 hc hF
      go_enter Try.func5, Try.ntmps5
      go_wp2_with (first
        | (go_at_call 13; refine (qa _ (by exact t3')).mono ?_; rintro e w5 ⟨rfl, b5⟩)
        | (go_at_call 14; refine (q3 _ (by exact tp)).mono ?_; rintro e w3 ⟨rfl, b3⟩; have t3 := kp tp b3; have t3' := kp t3 (grew w3 (.cells #[.int .i64 0, .int .i64 0, .int .i64 0, .string ⟨#[]⟩, .int .i64 0] 23)))
        | (go_at_call 9; refine (q1 _ (by exact kp t0 ba)).mono ?_; rintro e w1 ⟨rfl, b1⟩; have tp := kp (kp t0 ba) b1))
      go_ret
      have f1 := bmm ba ba.size b1
      have f3 := bmm f1 f1.size b3
      have f3' := f3.alloc f3.size (.cells #[.int .i64 0, .int .i64 0, .int .i64 0, .string ⟨#[]⟩, .int .i64 0] 23)
      exact ⟨rfl, bmm f3' f3'.size b5⟩
    | some c =>
      obtain ⟨K', S', Q', T', N'⟩ := c
      have e3 : decT s = (⟨K', S', Q', T', N'⟩, 0) := by unfold decT; rw [hc]
      obtain ⟨hm', hs'⟩ := decC_only hc
      have e4 : encT ⟨K', S', Q', T', N'⟩ = (s, 0) := by unfold encT; rw [if_pos hm', ← hs']
      have q4 := fun w (hT : G w) => hF.encode K' S' Q' N' T' w hT
      rw [e3] at q3
      rw [e4] at q4
      simp only at q3 q4
      clear e3 e4 hc hF hm' hs'
      go_enter Try.func5, Try.ntmps5
      go_wp2_with (first
        | (go_at_call 13; refine (qa _ (by exact t4)).mono ?_; rintro e w5 ⟨rfl, b5⟩)
        | (go_at_call 7; refine (q4 _ (by exact t3')).mono ?_; rintro e w4 ⟨rfl, b4⟩; have t4 := kp t3' b4)
        | (go_at_call 14; refine (q3 _ (by exact tp)).mono ?_; rintro e w3 ⟨rfl, b3⟩; have t3 := kp tp b3; have t3' := kp t3 (grew w3 (.cells #[.int .i64 K', .int .i64 S', .int .i64 Q', .string T', .int .i64 N'] 23)))
        | (go_at_call 9; refine (q1 _ (by exact kp t0 ba)).mono ?_; rintro e w1 ⟨rfl, b1⟩; have tp := kp (kp t0 ba) b1))
      go_ret
      have f1 := bmm ba ba.size b1
      have f3 := bmm f1 f1.size b3
      have f3' := f3.alloc f3.size (.cells #[.int .i64 K', .int .i64 S', .int .i64 Q', .string T', .int .i64 N'] 23)
      have f4 := bmm f3' f3'.size b4
      exact ⟨rfl, bmm f4 f4.size b5⟩
end Go.Proofs.Ytgkpdbfpajmphaa
