/-
  WalSure's plain part: what is read behind a crash. No condition.
-/
import Derived.Test.YtdhlbldmdeepiaaGreatDoorWPackD
namespace Go.Proofs.YtdhlbldmdeepiaaGreatDoor

/-- What a crash leaves of the file. -/
def crT (la lb : List Rc) (keep : Int) : List UInt8 := (framesOf la ++ framesOf lb).take ((framesOf la).length + min (framesOf lb).length keep.toNat)
theorem crT_len (la lb : List Rc) (keep : Int) : (crT la lb keep).length = (framesOf la).length + min (framesOf lb).length keep.toNat := by
  unfold crT
  rw [List.length_take, List.length_append]
  omega
theorem crT_app (la lb : List Rc) (keep : Int) : crT la lb keep = framesOf la ++ (framesOf lb).take (min (framesOf lb).length keep.toNat) := by
  unfold crT
  rw [List.take_length_add_append]
theorem crT_recs {la lb : List Rc} (ha : la.all mayR = true) (keep : Int) : (recs (crT la lb keep)).1 = la ++ (recs ((framesOf lb).take (min (framesOf lb).length keep.toNat))).1 := by
  rw [crT_app, recs_front (List.all_eq_true.mp ha)]
theorem crT_take {la lb : List Rc} (ha : la.all mayR = true) (hb : lb.all mayR = true) (keep : Int) : (recs (crT la lb keep)).1 = (la ++ lb).take (recs (crT la lb keep)).1.length ∧ la.length ≤ (recs (crT la lb keep)).1.length ∧ (recs (crT la lb keep)).1.length ≤ la.length + lb.length := by
  obtain ⟨c, hc⟩ := recs_take (List.all_eq_true.mp hb) (min (framesOf lb).length keep.toNat)
  rw [crT_recs ha]
  generalize (recs ((framesOf lb).take (min (framesOf lb).length keep.toNat))).1 = x at hc ⊢
  refine ⟨?_, ?_, ?_⟩
  · rw [hc, ← List.append_assoc, List.take_left' rfl]
  · rw [List.length_append]
    omega
  · have := congrArg List.length hc
    rw [List.length_append] at this ⊢
    omega
theorem crT_all {la lb : List Rc} (ha : la.all mayR = true) (hb : lb.all mayR = true) (keep : Int) (h : (framesOf lb).length ≤ keep.toNat) : (recs (crT la lb keep)).1.length = la.length + lb.length := by
  rw [crT_recs ha, Nat.min_eq_left h, List.take_length, recs_back _ (List.all_eq_true.mp hb), List.length_append]
theorem crT_nil (keep : Int) : crT [] [] keep = [] := rfl
end Go.Proofs.YtdhlbldmdeepiaaGreatDoor
