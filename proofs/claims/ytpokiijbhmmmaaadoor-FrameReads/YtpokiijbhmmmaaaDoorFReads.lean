/-
  FrameReads, for every text: the frame at the front and all frames from there on are the document's; the call answers true. From what package frame answers ('FrameOk'); no other condition.
-/
import Derived.Test.YtpokiijbhmmmaaaDoorFAwake
namespace Go.Proofs.YtpokiijbhmmmaaaDoor.frameReads
open Go.RowKit

theorem allOf_len : ∀ (f : Nat) (l : List UInt8), (allOf f l).1.length ≤ f
  | 0, _ => Nat.le_refl _
  | f + 1, l => by
    rw [allOf]
    split
    · exact Nat.zero_le _
    · have := allOf_len f (l.drop (firstOf l).2.1)
      simp only [List.length_cons]
      omega

set_option maxHeartbeats 800000 in
set_option maxRecDepth 100000 in
theorem walk (hF : FrameOk) (s : ByteArray) (hs : s.size ≤ 9223372036854775807) (w : World) (t0 : Tab w) :
    Calls Tryd.prog 4 #[.string s] w fun e w' => e = .returned (.bool true) ∧ Below w.heap.size w w' := by
  have qa := awake_any hF
  by_cases hbig : 2097152 < s.size
  · have hb' : (2097152 : Int) < (s.size : Int) := by omega
    go_enter Tryd.func4, Tryd.ntmps4
    go_wp2_with (go_at_call 7; refine (qa _ (by exact t0)).mono ?_; rintro e w1 ⟨rfl, b1⟩)
    go_ret
    exact ⟨rfl, b1⟩
  · have hb' : (s.size : Int) ≤ 2097152 := by omega
    have q1 := fun w (hT : Tab w) => hF.first s w (by omega) hT
    have q2 := rfirst_any s (by omega)
    have q3 := fun w (hT : Tab w) => hF.all s w (by omega) hT
    have q4 : ∀ w, Calls Tryd.prog 15 #[.string s] w fun e w' => ∃ v, e = .returned (.tuple #[v, .int .i64 (allT s.data.toList).2]) ∧ HasTexts w' v (allT s.data.toList).1 ∧ Below w.heap.size w w' :=
      fun w => (rall_any s (by omega) w).mono fun e w' ⟨v, he, ho, hb⟩ => ⟨v, he, has_of_owns ho, hb⟩
    have hlen : (allT s.data.toList).1.length ≤ 9223372036854775807 := by
      have h1 := allOf_len (s.data.toList.length + 1) s.data.toList
      have h2 := Lib.size_eq s
      unfold allT
      omega
    obtain ⟨t, ht⟩ : ∃ t, t = (firstT s).1 := ⟨_, rfl⟩
    obtain ⟨n, hn⟩ : ∃ n, n = (firstT s).2.1 := ⟨_, rfl⟩
    obtain ⟨r, hr⟩ : ∃ r, r = (firstT s).2.2 := ⟨_, rfl⟩
    obtain ⟨l, hl⟩ : ∃ l, l = (allT s.data.toList).1 := ⟨_, rfl⟩
    obtain ⟨k, hk⟩ : ∃ k, k = (allT s.data.toList).2 := ⟨_, rfl⟩
    rw [← ht, ← hn, ← hr] at q1 q2
    rw [← hl, ← hk] at q3 q4
    rw [← hl] at hlen
    clear ht hn hr hl hk
    go_enter Tryd.func4, Tryd.ntmps4
    go_wp2_with (first
      | (go_at_call 7; refine (qa _ (by exact t5)).mono ?_; rintro e w6 ⟨rfl, b6⟩)
      | (go_at_call 16; refine (rtexts_same _ _ l hlen w4 (h3.below b4) h4).mono ?_; rintro e w5 ⟨rfl, b5⟩; have t5 := Tab.below (by exact t4) b5)
      | (go_at_call 15; refine (q4 _).mono ?_; rintro e w4 ⟨v4, rfl, h4, b4⟩; have t4 := Tab.below (by exact t3) b4)
      | (go_at_call 14; refine (q3 _ (by exact t2)).mono ?_; rintro e w3 ⟨v3, rfl, h3, b3⟩; have t3 := Tab.below (by exact t2) b3)
      | (go_at_call 13; refine (q2 _).mono ?_; rintro e w2 ⟨rfl, b2⟩; have t2 := Tab.below (by exact t1) b2)
      | (go_at_call 12; refine (q1 _ (by exact t0)).mono ?_; rintro e w1 ⟨rfl, b1⟩; have t1 := Tab.below (by exact t0) b1))
    go_ret
    exact ⟨rfl, bm (bm (bm (bm (bm b1 b2) b3) b4) b5) b6⟩
end Go.Proofs.YtpokiijbhmmmaaaDoor.frameReads
