/-
  CmdsOnly, for every two commands: two that are not the same have not the same bytes. From what package cmds answers ('CmdsOk'); no other condition.
-/
import Derived.Test.YtgkpdbfpajmphaaCmLaws
namespace Go.Proofs.Ytgkpdbfpajmphaa
open Go.RowKit

theorem toList_inj {x y : ByteArray} (h : x.toList = y.toList) : x = y := by
  rw [Lib.toList_data, Lib.toList_data] at h
  rw [← Lib.mk_data x, ← Lib.mk_data y, h]

set_option maxHeartbeats 6400000 in
set_option maxRecDepth 100000 in
theorem only_walk {G : World → Prop} (hF : CmdsOk G) (K S Q N K' S' Q' N' : Int) (T T' : ByteArray) (w : World) (t0 : G w) :
    Calls Try.prog 6 #[.agg #[.int .i64 K, .int .i64 S, .int .i64 Q, .string T, .int .i64 N], .agg #[.int .i64 K', .int .i64 S', .int .i64 Q', .string T', .int .i64 N']] w fun e w' => e = .returned (.bool true) ∧ Below w.heap.size w w' := by
  have qa := awake_any hF
  have q1 := fun w (hT : G w) => hF.encode K S Q N T w hT
  have q2 := fun w (hT : G w) => hF.encode K' S' Q' N' T' w hT
  have kp := @hF.keep
  have ba := grew w (.cells #[.int .i64 K, .int .i64 S, .int .i64 Q, .string T, .int .i64 N] 23)
  have bb0 := grew (w.alloc (.cells #[.int .i64 K, .int .i64 S, .int .i64 Q, .string T, .int .i64 N] 23)) (.cells #[.int .i64 K', .int .i64 S', .int .i64 Q', .string T', .int .i64 N'] 23)
  have bb := bmm ba ba.size bb0
  have tb := kp (kp t0 ba) bb0
  have x0 := (Box.new w K S Q N T).below bb0
  have y0 := Box.new (w.alloc (.cells #[.int .i64 K, .int .i64 S, .int .i64 Q, .string T, .int .i64 N] 23)) K' S' Q' N' T'
  rw [World.size_alloc] at y0
  by_cases hm : mayB ⟨K, S, Q, T, N⟩ = true
  · have e1 : encT ⟨K, S, Q, T, N⟩ = (⟨(encC ⟨K, S, Q, T, N⟩).toArray⟩, 0) := by unfold encT; rw [if_pos hm]
    rw [e1] at q1
    by_cases hm' : mayB ⟨K', S', Q', T', N'⟩ = true
    · have e2 : encT ⟨K', S', Q', T', N'⟩ = (⟨(encC ⟨K', S', Q', T', N'⟩).toArray⟩, 0) := by unfold encT; rw [if_pos hm']
      rw [e2] at q2
      have hinj := encC_inj hm hm'
      obtain ⟨X, hX⟩ : ∃ X : ByteArray, X = ⟨(encC ⟨K, S, Q, T, N⟩).toArray⟩ := ⟨_, rfl⟩
      obtain ⟨Y, hY⟩ : ∃ Y : ByteArray, Y = ⟨(encC ⟨K', S', Q', T', N'⟩).toArray⟩ := ⟨_, rfl⟩
      have hXY : X = Y → (⟨K, S, Q, T, N⟩ : Cm) = ⟨K', S', Q', T', N'⟩ := fun h => hinj (by
        rw [hX, hY] at h
        have := congrArg (fun b : ByteArray => b.data.toList) h
        simpa using this)
      rw [← hX] at q1
      rw [← hY] at q2
      simp only at q1 q2
      by_cases heq : (⟨K, S, Q, T, N⟩ : Cm) = ⟨K', S', Q', T', N'⟩
      · obtain ⟨rfl, rfl, rfl, rfl, rfl⟩ := Cm.mk.inj heq
        obtain rfl : X = Y := by rw [hX, hY]
        clear e1 e2 hinj hX hY hXY hm hm' heq hF
        go_enter Try.func6, Try.ntmps6
        go_wp2_with (first
          | (go_at_call 13; refine (qa _ (by exact t2)).mono ?_; rintro e w3 ⟨rfl, b3⟩)
          | (go_at_call 7; have d2 := d1; refine (q2 _ (by exact t1)).mono ?_; rintro e w2 ⟨rfl, b2⟩; have t2 := kp t1 b2; have x2 := x1.below b2; have y2 := y1.below b2; have i2_0 := x2.c0; have i2_1 := x2.c1; have i2_2 := x2.c2; have i2_3 := x2.c3; have i2_4 := x2.c4; have j2_0 := y2.c0; have j2_1 := y2.c1; have j2_2 := y2.c2; have j2_3 := y2.c3; have j2_4 := y2.c4; simp only [Nat.zero_add] at i2_1 j2_1 i2_2 j2_2 i2_3 j2_3 i2_4 j2_4)
          | (go_at_call 7; refine (q1 _ (by exact tb)).mono ?_; rintro e w1 ⟨rfl, b1⟩; have t1 := kp tb b1; have x1 := x0.below b1; have y1 := y0.below b1; have i1_0 := x1.c0; have i1_1 := x1.c1; have i1_2 := x1.c2; have i1_3 := x1.c3; have i1_4 := x1.c4; have j1_0 := y1.c0; have j1_1 := y1.c1; have j1_2 := y1.c2; have j1_3 := y1.c3; have j1_4 := y1.c4; simp only [Nat.zero_add] at i1_1 j1_1 i1_2 j1_2 i1_3 j1_3 i1_4 j1_4; have d1 : True := trivial))
        go_ret
        have f1 := bmm bb bb.size b1
        have f2 := bmm f1 f1.size b2
        exact ⟨rfl, bmm f2 f2.size b3⟩
      · have hne : ¬ X = Y := fun h => heq (hXY h)
        have hk : ¬ (K = K' ∧ S = S' ∧ Q = Q' ∧ T = T' ∧ N = N') := fun ⟨a, b, c, d, e⟩ => heq (by rw [a, b, c, d, e])
        clear e1 e2 hinj hX hY hXY hm hm' heq hF
        have hne2 : ¬ X.toList = Y.toList := fun h => hne (toList_inj h)
        have hne3 : (X.toList == Y.toList) = false := beq_eq_false_iff_ne.2 hne2
        clear hne
        by_cases hK : K = K'
        · subst hK
          by_cases hS : S = S'
          · subst hS
            by_cases hQ : Q = Q'
            · subst hQ
              by_cases hT : T = T'
              · subst hT
                have hN : (N == N') = false := beq_eq_false_iff_ne.2 (fun h => hk ⟨rfl, rfl, rfl, rfl, h⟩)
                clear hk
                go_enter Try.func6, Try.ntmps6
                go_wp2_with (first
                  | (go_at_call 13; refine (qa _ (by exact t2)).mono ?_; rintro e w3 ⟨rfl, b3⟩)
                  | (go_at_call 7; have d2 := d1; refine (q2 _ (by exact t1)).mono ?_; rintro e w2 ⟨rfl, b2⟩; have t2 := kp t1 b2; have x2 := x1.below b2; have y2 := y1.below b2; have i2_0 := x2.c0; have i2_1 := x2.c1; have i2_2 := x2.c2; have i2_3 := x2.c3; have i2_4 := x2.c4; have j2_0 := y2.c0; have j2_1 := y2.c1; have j2_2 := y2.c2; have j2_3 := y2.c3; have j2_4 := y2.c4; simp only [Nat.zero_add] at i2_1 j2_1 i2_2 j2_2 i2_3 j2_3 i2_4 j2_4)
                  | (go_at_call 7; refine (q1 _ (by exact tb)).mono ?_; rintro e w1 ⟨rfl, b1⟩; have t1 := kp tb b1; have x1 := x0.below b1; have y1 := y0.below b1; have i1_0 := x1.c0; have i1_1 := x1.c1; have i1_2 := x1.c2; have i1_3 := x1.c3; have i1_4 := x1.c4; have j1_0 := y1.c0; have j1_1 := y1.c1; have j1_2 := y1.c2; have j1_3 := y1.c3; have j1_4 := y1.c4; simp only [Nat.zero_add] at i1_1 j1_1 i1_2 j1_2 i1_3 j1_3 i1_4 j1_4; have d1 : True := trivial))
                go_ret
                have f1 := bmm bb bb.size b1
                have f2 := bmm f1 f1.size b2
                exact ⟨rfl, bmm f2 f2.size b3⟩
              · have hT' : ¬ T.toList = T'.toList := fun h => hT (toList_inj h)
                have hT2 : (T.toList == T'.toList) = false := beq_eq_false_iff_ne.2 hT'
                clear hk hT
                go_enter Try.func6, Try.ntmps6
                go_wp2_with (first
                  | (go_at_call 13; refine (qa _ (by exact t2)).mono ?_; rintro e w3 ⟨rfl, b3⟩)
                  | (go_at_call 7; have d2 := d1; refine (q2 _ (by exact t1)).mono ?_; rintro e w2 ⟨rfl, b2⟩; have t2 := kp t1 b2; have x2 := x1.below b2; have y2 := y1.below b2; have i2_0 := x2.c0; have i2_1 := x2.c1; have i2_2 := x2.c2; have i2_3 := x2.c3; have i2_4 := x2.c4; have j2_0 := y2.c0; have j2_1 := y2.c1; have j2_2 := y2.c2; have j2_3 := y2.c3; have j2_4 := y2.c4; simp only [Nat.zero_add] at i2_1 j2_1 i2_2 j2_2 i2_3 j2_3 i2_4 j2_4)
                  | (go_at_call 7; refine (q1 _ (by exact tb)).mono ?_; rintro e w1 ⟨rfl, b1⟩; have t1 := kp tb b1; have x1 := x0.below b1; have y1 := y0.below b1; have i1_0 := x1.c0; have i1_1 := x1.c1; have i1_2 := x1.c2; have i1_3 := x1.c3; have i1_4 := x1.c4; have j1_0 := y1.c0; have j1_1 := y1.c1; have j1_2 := y1.c2; have j1_3 := y1.c3; have j1_4 := y1.c4; simp only [Nat.zero_add] at i1_1 j1_1 i1_2 j1_2 i1_3 j1_3 i1_4 j1_4; have d1 : True := trivial))
                go_ret
                have f1 := bmm bb bb.size b1
                have f2 := bmm f1 f1.size b2
                exact ⟨rfl, bmm f2 f2.size b3⟩
            · have hQ' : (Q == Q') = false := beq_eq_false_iff_ne.2 hQ
              clear hk hQ
              go_enter Try.func6, Try.ntmps6
              go_wp2_with (first
                | (go_at_call 13; refine (qa _ (by exact t2)).mono ?_; rintro e w3 ⟨rfl, b3⟩)
                | (go_at_call 7; have d2 := d1; refine (q2 _ (by exact t1)).mono ?_; rintro e w2 ⟨rfl, b2⟩; have t2 := kp t1 b2; have x2 := x1.below b2; have y2 := y1.below b2; have i2_0 := x2.c0; have i2_1 := x2.c1; have i2_2 := x2.c2; have i2_3 := x2.c3; have i2_4 := x2.c4; have j2_0 := y2.c0; have j2_1 := y2.c1; have j2_2 := y2.c2; have j2_3 := y2.c3; have j2_4 := y2.c4; simp only [Nat.zero_add] at i2_1 j2_1 i2_2 j2_2 i2_3 j2_3 i2_4 j2_4)
                | (go_at_call 7; refine (q1 _ (by exact tb)).mono ?_; rintro e w1 ⟨rfl, b1⟩; have t1 := kp tb b1; have x1 := x0.below b1; have y1 := y0.below b1; have i1_0 := x1.c0; have i1_1 := x1.c1; have i1_2 := x1.c2; have i1_3 := x1.c3; have i1_4 := x1.c4; have j1_0 := y1.c0; have j1_1 := y1.c1; have j1_2 := y1.c2; have j1_3 := y1.c3; have j1_4 := y1.c4; simp only [Nat.zero_add] at i1_1 j1_1 i1_2 j1_2 i1_3 j1_3 i1_4 j1_4; have d1 : True := trivial))
              go_ret
              have f1 := bmm bb bb.size b1
              have f2 := bmm f1 f1.size b2
              exact ⟨rfl, bmm f2 f2.size b3⟩
          · have hS' : (S == S') = false := beq_eq_false_iff_ne.2 hS
            clear hk hS
            go_enter Try.func6, Try.ntmps6
            go_wp2_with (first
              | (go_at_call 13; refine (qa _ (by exact t2)).mono ?_; rintro e w3 ⟨rfl, b3⟩)
              | (go_at_call 7; have d2 := d1; refine (q2 _ (by exact t1)).mono ?_; rintro e w2 ⟨rfl, b2⟩; have t2 := kp t1 b2; have x2 := x1.below b2; have y2 := y1.below b2; have i2_0 := x2.c0; have i2_1 := x2.c1; have i2_2 := x2.c2; have i2_3 := x2.c3; have i2_4 := x2.c4; have j2_0 := y2.c0; have j2_1 := y2.c1; have j2_2 := y2.c2; have j2_3 := y2.c3; have j2_4 := y2.c4; simp only [Nat.zero_add] at i2_1 j2_1 i2_2 j2_2 i2_3 j2_3 i2_4 j2_4)
              | (go_at_call 7; refine (q1 _ (by exact tb)).mono ?_; rintro e w1 ⟨rfl, b1⟩; have t1 := kp tb b1; have x1 := x0.below b1; have y1 := y0.below b1; have i1_0 := x1.c0; have i1_1 := x1.c1; have i1_2 := x1.c2; have i1_3 := x1.c3; have i1_4 := x1.c4; have j1_0 := y1.c0; have j1_1 := y1.c1; have j1_2 := y1.c2; have j1_3 := y1.c3; have j1_4 := y1.c4; simp only [Nat.zero_add] at i1_1 j1_1 i1_2 j1_2 i1_3 j1_3 i1_4 j1_4; have d1 : True := trivial))
            go_ret
            have f1 := bmm bb bb.size b1
            have f2 := bmm f1 f1.size b2
            exact ⟨rfl, bmm f2 f2.size b3⟩
        · have hK' : (K == K') = false := beq_eq_false_iff_ne.2 hK
          clear hk hK
          go_enter Try.func6, Try.ntmps6
          go_wp2_with (first
            | (go_at_call 13; refine (qa _ (by exact t2)).mono ?_; rintro e w3 ⟨rfl, b3⟩)
            | (go_at_call 7; have d2 := d1; refine (q2 _ (by exact t1)).mono ?_; rintro e w2 ⟨rfl, b2⟩; have t2 := kp t1 b2; have x2 := x1.below b2; have y2 := y1.below b2; have i2_0 := x2.c0; have i2_1 := x2.c1; have i2_2 := x2.c2; have i2_3 := x2.c3; have i2_4 := x2.c4; have j2_0 := y2.c0; have j2_1 := y2.c1; have j2_2 := y2.c2; have j2_3 := y2.c3; have j2_4 := y2.c4; simp only [Nat.zero_add] at i2_1 j2_1 i2_2 j2_2 i2_3 j2_3 i2_4 j2_4)
            | (go_at_call 7; refine (q1 _ (by exact tb)).mono ?_; rintro e w1 ⟨rfl, b1⟩; have t1 := kp tb b1; have x1 := x0.below b1; have y1 := y0.below b1; have i1_0 := x1.c0; have i1_1 := x1.c1; have i1_2 := x1.c2; have i1_3 := x1.c3; have i1_4 := x1.c4; have j1_0 := y1.c0; have j1_1 := y1.c1; have j1_2 := y1.c2; have j1_3 := y1.c3; have j1_4 := y1.c4; simp only [Nat.zero_add] at i1_1 j1_1 i1_2 j1_2 i1_3 j1_3 i1_4 j1_4; have d1 : True := trivial))
          go_ret
          have f1 := bmm bb bb.size b1
          have f2 := bmm f1 f1.size b2
          exact ⟨rfl, bmm f2 f2.size b3⟩
    · have e2 : encT ⟨K', S', Q', T', N'⟩ = (⟨#[]⟩, 1) := by unfold encT; rw [if_neg hm']
      rw [e2] at q2
      obtain ⟨X, hX⟩ : ∃ X : ByteArray, X = ⟨(encC ⟨K, S, Q, T, N⟩).toArray⟩ := ⟨_, rfl⟩
      rw [← hX] at q1
      simp only at q1 q2
      clear e1 e2 hX hm hm' hF
      go_enter Try.func6, Try.ntmps6
      go_wp2_with (first
        | (go_at_call 13; refine (qa _ (by exact t2)).mono ?_; rintro e w3 ⟨rfl, b3⟩)
        | (go_at_call 7; have d2 := d1; refine (q2 _ (by exact t1)).mono ?_; rintro e w2 ⟨rfl, b2⟩; have t2 := kp t1 b2; have x2 := x1.below b2; have y2 := y1.below b2; have i2_0 := x2.c0; have i2_1 := x2.c1; have i2_2 := x2.c2; have i2_3 := x2.c3; have i2_4 := x2.c4; have j2_0 := y2.c0; have j2_1 := y2.c1; have j2_2 := y2.c2; have j2_3 := y2.c3; have j2_4 := y2.c4; simp only [Nat.zero_add] at i2_1 j2_1 i2_2 j2_2 i2_3 j2_3 i2_4 j2_4)
        | (go_at_call 7; refine (q1 _ (by exact tb)).mono ?_; rintro e w1 ⟨rfl, b1⟩; have t1 := kp tb b1; have x1 := x0.below b1; have y1 := y0.below b1; have i1_0 := x1.c0; have i1_1 := x1.c1; have i1_2 := x1.c2; have i1_3 := x1.c3; have i1_4 := x1.c4; have j1_0 := y1.c0; have j1_1 := y1.c1; have j1_2 := y1.c2; have j1_3 := y1.c3; have j1_4 := y1.c4; simp only [Nat.zero_add] at i1_1 j1_1 i1_2 j1_2 i1_3 j1_3 i1_4 j1_4; have d1 : True := trivial))
      go_ret
      have f1 := bmm bb bb.size b1
      have f2 := bmm f1 f1.size b2
      exact ⟨rfl, bmm f2 f2.size b3⟩
  · have e1 : encT ⟨K, S, Q, T, N⟩ = (⟨#[]⟩, 1) := by unfold encT; rw [if_neg hm]
    rw [e1] at q1
    obtain ⟨Y, R, hd⟩ : ∃ c r, encT ⟨K', S', Q', T', N'⟩ = (c, r) := ⟨_, _, eta2 _⟩
    rw [hd] at q2
    simp only at q1 q2
    clear e1 hd hm hF
    go_enter Try.func6, Try.ntmps6
    go_wp2_with (first
      | (go_at_call 13; refine (qa _ (by exact t2)).mono ?_; rintro e w3 ⟨rfl, b3⟩)
      | (go_at_call 7; have d2 := d1; refine (q2 _ (by exact t1)).mono ?_; rintro e w2 ⟨rfl, b2⟩; have t2 := kp t1 b2; have x2 := x1.below b2; have y2 := y1.below b2; have i2_0 := x2.c0; have i2_1 := x2.c1; have i2_2 := x2.c2; have i2_3 := x2.c3; have i2_4 := x2.c4; have j2_0 := y2.c0; have j2_1 := y2.c1; have j2_2 := y2.c2; have j2_3 := y2.c3; have j2_4 := y2.c4; simp only [Nat.zero_add] at i2_1 j2_1 i2_2 j2_2 i2_3 j2_3 i2_4 j2_4)
      | (go_at_call 7; refine (q1 _ (by exact tb)).mono ?_; rintro e w1 ⟨rfl, b1⟩; have t1 := kp tb b1; have x1 := x0.below b1; have y1 := y0.below b1; have i1_0 := x1.c0; have i1_1 := x1.c1; have i1_2 := x1.c2; have i1_3 := x1.c3; have i1_4 := x1.c4; have j1_0 := y1.c0; have j1_1 := y1.c1; have j1_2 := y1.c2; have j1_3 := y1.c3; have j1_4 := y1.c4; simp only [Nat.zero_add] at i1_1 j1_1 i1_2 j1_2 i1_3 j1_3 i1_4 j1_4; have d1 : True := trivial))
    go_ret
    have f1 := bmm bb bb.size b1
    have f2 := bmm f1 f1.size b2
    exact ⟨rfl, bmm f2 f2.size b3⟩
end Go.Proofs.Ytgkpdbfpajmphaa
