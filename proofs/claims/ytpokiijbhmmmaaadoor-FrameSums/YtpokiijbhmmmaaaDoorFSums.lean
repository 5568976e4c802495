/-
  FrameSums, for every text: the sum and the frame are the document's; the call answers true. From what package frame answers ('FrameOk'); no other condition.
-/
import Derived.Test.YtpokiijbhmmmaaaDoorFAwake
namespace Go.Proofs.YtpokiijbhmmmaaaDoor.frameSums
open Go.RowKit

set_option maxHeartbeats 800000 in
set_option maxRecDepth 100000 in
theorem walk (hF : FrameOk) (s : ByteArray) (hs : s.size ≤ 9223372036854775807) (w : World) (t0 : Tab w) :
    Calls Tryd.prog 3 #[.string s] w fun e w' => e = .returned (.bool true) ∧ Below w.heap.size w w' := by
  have qa := awake_any hF
  by_cases hbig : 2097152 < s.size
  · have hb' : (2097152 : Int) < (s.size : Int) := by omega
    go_enter Tryd.func3, Tryd.ntmps3
    go_wp2_with (go_at_call 7; refine (qa _ (by exact t0)).mono ?_; rintro e w1 ⟨rfl, b1⟩)
    go_ret
    exact ⟨rfl, b1⟩
  · have hb' : (s.size : Int) ≤ 2097152 := by omega
    have q1 := fun w (hT : Tab w) => hF.wrap s w (by omega) hT
    have q2 := rwrap_any s
    have q3 := fun w (hT : Tab w) => hF.sum s w (by omega) hT
    have q4 := rsum_any s hs
    obtain ⟨F, hF'⟩ : ∃ F, F = (wrapOf s).1 := ⟨_, rfl⟩
    obtain ⟨n, hn⟩ : ∃ n, n = (wrapOf s).2 := ⟨_, rfl⟩
    obtain ⟨c, hc⟩ : ∃ c, c = crc s.data.toList := ⟨_, rfl⟩
    rw [← hF', ← hn] at q1 q2
    rw [← hc] at q3 q4
    clear hF' hn hc
    go_enter Tryd.func3, Tryd.ntmps3
    go_wp2_with (first
      | (go_at_call 7; refine (qa _ (by exact t3)).mono ?_; rintro e w4 ⟨rfl, b4⟩)
      | (go_at_call 11; refine (q4 _).mono ?_; rintro e w' ⟨rfl, rfl⟩)
      | (go_at_call 10; refine (q3 _ (by exact t2)).mono ?_; rintro e w3 ⟨rfl, b3⟩; have t3 := Tab.below (by exact t2) b3)
      | (go_at_call 9; refine (q2 _).mono ?_; rintro e w2 ⟨rfl, b2⟩; have t2 := Tab.below (by exact t1) b2)
      | (go_at_call 8; refine (q1 _ (by exact t0)).mono ?_; rintro e w1 ⟨rfl, b1⟩; have t1 := Tab.below (by exact t0) b1))
    go_ret
    exact ⟨rfl, bm (bm (bm b1 b2) b3) b4⟩
end Go.Proofs.YtpokiijbhmmmaaaDoor.frameSums
