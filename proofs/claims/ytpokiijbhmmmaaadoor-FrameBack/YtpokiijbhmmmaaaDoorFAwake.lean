/-
  What the laws of layer 2 ask of package frame ('FrameOk': Sum, Wrap, First, All answer as the document's, for every text that is not too long), and the examples of chapter 2 ('awake') from it. No other condition.
-/
import Derived.Test.YtpokiijbhmmmaaaDoorFOwnAll
namespace Go.Proofs.YtpokiijbhmmmaaaDoor
open Go.RowKit

/-- Package frame answers as the document says, where its table lies. -/
structure FrameOk : Prop where
  sum : ∀ (s : ByteArray) (w : World), s.size ≤ 1099511627776 → Tab w → Calls Tryd.prog 10 #[.string s] w fun e w' => e = .returned (.int .i64 (crc s.data.toList)) ∧ Below w.heap.size w w'
  wrap : ∀ (s : ByteArray) (w : World), s.size ≤ 1099511627776 → Tab w → Calls Tryd.prog 8 #[.string s] w fun e w' => e = .returned (.tuple #[.string (wrapOf s).1, .int .i64 (wrapOf s).2]) ∧ Below w.heap.size w w'
  first : ∀ (s : ByteArray) (w : World), s.size ≤ 1099511627776 → Tab w → Calls Tryd.prog 12 #[.string s] w fun e w' => e = .returned (.tuple #[.string (firstT s).1, .int .i64 (firstT s).2.1, .int .i64 (firstT s).2.2]) ∧ Below w.heap.size w w'
  all : ∀ (s : ByteArray) (w : World), s.size ≤ 1099511627776 → Tab w → Calls Tryd.prog 14 #[.string s] w fun e w' => ∃ v, e = .returned (.tuple #[v, .int .i64 (allT s.data.toList).2]) ∧ HasTexts w' v (allT s.data.toList).1 ∧ Below w.heap.size w w'

theorem frameOk : FrameOk where
  sum := fun s w hs hT => (sum_any s (by omega) w hT).mono fun e w' ⟨he, hw⟩ => ⟨he, by rw [← hw]; exact Below.refl _ _⟩
  wrap := fun s w _ hT => wrap_any s w hT
  first := fun s w hs hT => first_any s hs w hT
  all := fun s w hs hT => (all_any s hs w hT).mono fun e w' ⟨v, he, ho, hb⟩ => ⟨v, he, has_of_owns ho, hb⟩

theorem bm {w w1 w2 : World} (h : Below w.heap.size w w1) (b : Below w1.heap.size w1 w2) : Below w.heap.size w w2 := h.trans (b.mono h.size)

theorem frameAb : frameOf [97, 98] = four 2 ++ (four (crc (four 2 ++ [97, 98])) ++ [97, 98]) := rfl

theorem all_one (t : List UInt8) (ht : t.length ≤ 524288) (f : Nat) (rest : List UInt8) : allOf (f + 1) (frameOf t ++ rest) = (t :: (allOf f rest).1, t.length + 8 + (allOf f rest).2) := by
  have h := firstOf_frame t rest ht
  rw [allOf_step (by rw [h]), h]
  have e : (frameOf t ++ rest).drop (t.length + 8) = rest := List.drop_left' (frameOf_len t)
  simp only [e]

theorem awSum : crc [49, 50, 51, 52, 53, 54, 55, 56, 57] = 3421780262 := by decide +kernel
theorem awBad : (firstOf [2, 0, 0, 0, 0, 0, 0, 0, 97, 98]).2.2 = 3 := by decide +kernel
theorem awAll : allT (frameOf [97, 98] ++ (frameOf [97, 98] ++ [122])) = ([[97, 98], [97, 98]], 20) := by
  unfold allT
  have hl : (frameOf [97, 98] ++ (frameOf [97, 98] ++ [122])).length + 1 = 22 := by simp [frameOf_len]
  rw [hl, all_one [97, 98] (by decide) 21, all_one [97, 98] (by decide) 20]
  rfl

set_option maxHeartbeats 800000 in
set_option maxRecDepth 100000 in
theorem awake_any (hF : FrameOk) (w : World) (t0 : Tab w) : Calls Tryd.prog 7 #[] w fun e w' => e = .returned (.bool true) ∧ Below w.heap.size w w' := by
  obtain ⟨A, hA⟩ : ∃ A : ByteArray, A = ⟨(frameOf [97, 98]).toArray⟩ := ⟨_, rfl⟩
  have q1 : ∀ w, Tab w → Calls Tryd.prog 8 #[.string ⟨#[97, 98]⟩] w fun e w' => e = .returned (.tuple #[.string A, .int .i64 0]) ∧ Below w.heap.size w w' := fun w hT => by
    rw [hA]
    exact hF.wrap ⟨#[97, 98]⟩ w (by decide) hT
  have hAs : A.size = 10 := by rw [hA, size_list, frameOf_len]; rfl
  obtain ⟨B, hB⟩ : ∃ B, A ++ (⟨#[120]⟩ : ByteArray) = B := ⟨_, rfl⟩
  obtain ⟨C, hC⟩ : ∃ C, A ++ A = C := ⟨_, rfl⟩
  obtain ⟨D, hD⟩ : ∃ D, C ++ (⟨#[122]⟩ : ByteArray) = D := ⟨_, rfl⟩
  have eB : B.data.toList = frameOf [97, 98] ++ [120] := by rw [← hB, hA]; simp
  have eD : D.data.toList = frameOf [97, 98] ++ (frameOf [97, 98] ++ [122]) := by rw [← hD, ← hC, hA]; simp
  have zB : B.size ≤ 100 := by rw [Lib.size_eq, eB, List.length_append, frameOf_len]; decide
  have zC : C.size = 20 := by rw [← hC, ByteArray.size_append, hAs]
  have zD : D.size ≤ 100 := by rw [Lib.size_eq, eD, List.length_append, List.length_append, frameOf_len]; decide
  have q2 : ∀ w, Tab w → Calls Tryd.prog 12 #[.string B] w fun e w' => e = .returned (.tuple #[.string ⟨#[97, 98]⟩, .int .i64 10, .int .i64 0]) ∧ Below w.heap.size w w' := fun w hT => by
    have := hF.first B w (by omega) hT
    unfold firstT at this
    rw [eB, firstOf_frame [97, 98] [120] (by decide)] at this
    exact this
  have q3 : ∀ w, Tab w → Calls Tryd.prog 12 #[.string ⟨#[0, 0, 0]⟩] w fun e w' => e = .returned (.tuple #[.string ⟨#[]⟩, .int .i64 0, .int .i64 4]) ∧ Below w.heap.size w w' := fun w hT => hF.first ⟨#[0, 0, 0]⟩ w (by decide) hT
  have q4 : ∀ w, Tab w → Calls Tryd.prog 12 #[.string ⟨#[2, 0, 0, 0, 0, 0, 0, 0, 97, 98]⟩] w fun e w' => ∃ (t : ByteArray) (n : Nat), e = .returned (.tuple #[.string t, .int .i64 n, .int .i64 3]) ∧ Below w.heap.size w w' := fun w hT =>
    (hF.first ⟨#[2, 0, 0, 0, 0, 0, 0, 0, 97, 98]⟩ w (by decide) hT).mono fun e w' ⟨he, hb⟩ => ⟨(firstT ⟨#[2, 0, 0, 0, 0, 0, 0, 0, 97, 98]⟩).1, (firstT ⟨#[2, 0, 0, 0, 0, 0, 0, 0, 97, 98]⟩).2.1, by rw [he, show (firstT ⟨#[2, 0, 0, 0, 0, 0, 0, 0, 97, 98]⟩).2.2 = 3 from awBad]; rfl, hb⟩
  have q5 : ∀ w, Tab w → Calls Tryd.prog 14 #[.string D] w fun e w' => ∃ ad cap, e = .returned (.tuple #[.slice ad 2 cap, .int .i64 20]) ∧ Below w.heap.size w w' := fun w hT =>
    (hF.all D w (by omega) hT).mono fun e w' ⟨v, he, hv, hb⟩ => by
      rw [eD, awAll] at he hv
      rcases hv with ⟨_, h0⟩ | ⟨b, cap, rfl, _, _⟩
      · cases h0
      · exact ⟨_, _, he, hb⟩
  have q6 : ∀ w, Tab w → Calls Tryd.prog 10 #[.string ⟨#[49, 50, 51, 52, 53, 54, 55, 56, 57]⟩] w fun e w' => e = .returned (.int .i64 3421780262) ∧ Below w.heap.size w w' := fun w hT => by
    have := hF.sum ⟨#[49, 50, 51, 52, 53, 54, 55, 56, 57]⟩ w (by decide) hT
    rw [show crc (⟨#[49, 50, 51, 52, 53, 54, 55, 56, 57]⟩ : ByteArray).data.toList = 3421780262 from awSum] at this
    exact this
  have n1 : (9223372036854775807 < A.size + (⟨#[120]⟩ : ByteArray).size) = False := eq_false (by rw [hAs]; decide)
  clear hF hA eB eD zB zD
  go_enter Tryd.func7, Tryd.ntmps7
  go_wp2_with (first
    | (go_at_call 10; refine (q6 _ (by exact t5)).mono ?_; rintro e w6 ⟨rfl, b6⟩; have t6 := Tab.below (by exact t5) b6)
    | (go_at_call 14; refine (q5 _ (by exact t4)).mono ?_; rintro e w5 ⟨ad, cap, rfl, b5⟩; have t5 := Tab.below (by exact t4) b5)
    | (go_at_call 12; have d3 := d2; refine (q4 _ (by exact t3)).mono ?_; rintro e w4 ⟨t4, n4, rfl, b4⟩; have t4 := Tab.below (by exact t3) b4)
    | (go_at_call 12; have d2 := d1; refine (q3 _ (by exact t2)).mono ?_; rintro e w3 ⟨rfl, b3⟩; have t3 := Tab.below (by exact t2) b3; have d2 : True := trivial)
    | (go_at_call 12; refine (q2 _ (by exact t1)).mono ?_; rintro e w2 ⟨rfl, b2⟩; have t2 := Tab.below (by exact t1) b2; have d1 : True := trivial)
    | (go_at_call 8; refine (q1 _ (by exact t0)).mono ?_; rintro e w1 ⟨rfl, b1⟩; have t1 := Tab.below (by exact t0) b1))
  go_ret
  exact ⟨rfl, bm (bm (bm (bm (bm b1 b2) b3) b4) b5) b6⟩
end Go.Proofs.YtpokiijbhmmmaaaDoor
