/-
  FrameBack, what its walks need: where frames end, what the first loop leaves. No condition.
-/
import Derived.Test.YtpokiijbhmmmaaaDoorFBackPlain
namespace Go.Proofs.YtpokiijbhmmmaaaDoor.frameBack
open Go.RowKit

theorem Tryd.info3 : (Tryd.prog.info? 3).map (fun i => (i.zero, i.size, i.bytes)) = some (some (.int .i64 0), 1, 8) := by kernel_rfl

/-- Where each frame ends. -/
def endsOf (T : Nat → List UInt8) (k : Nat) : List Value := (List.range (k + 1)).map fun j => .int .i64 ((cat T 0 j).length : Nat)
theorem endsOf_succ (T : Nat → List UInt8) (k : Nat) : endsOf T k ++ [.int .i64 ((cat T 0 (k + 1)).length : Nat)] = endsOf T (k + 1) := by
  unfold endsOf
  rw [List.range_succ (n := k + 1), List.map_append]
  rfl
theorem endsOf_len (T : Nat → List UInt8) (k : Nat) : (endsOf T k).length = k + 1 := by simp [endsOf]

theorem shape {w : World} {v : Value} {l : List (List UInt8)} (h : HasTexts w v l) : ∃ ad cap, v = .slice ad l.length cap ∧ ∀ j, j < l.length → ∃ b, ad = some ⟨b, 0, none⟩ ∧ w.cell? ⟨b, j, none⟩ = some (.string ⟨(l.getD j []).toArray⟩) := by
  rcases h with ⟨rfl, rfl⟩ | ⟨b, cap, rfl, _, hc⟩
  · exact ⟨Option.none, 0, rfl, fun j hj => by cases hj⟩
  · exact ⟨some ⟨b, 0, none⟩, cap, rfl, fun j hj => ⟨b, rfl, hc j hj⟩⟩
theorem ends_cell {w : World} {base g ce k : Nat} {T : Nat → List UInt8} (h : w.ownsRow base 3 1 (.slice (some ⟨g, 0, none⟩) (k + 1) ce) (k + 1) (endsOf T k)) : ∀ j, j ≤ k → w.cell? ⟨g, j, none⟩ = some (.int .i64 ((cat T 0 j).length : Nat)) := fun j hj => by
  have := h.cells (g := g) rfl j (.int .i64 ((cat T 0 j).length : Nat)) (by unfold endsOf; rw [List.getElem?_map, List.getElem?_range (by omega)]; rfl)
  rw [Lib.addr_add, Nat.zero_add] at this
  exact this

/-- What the first loop leaves. -/
def Laid (base : Nat) (w wr : World) (T : Nat → List UInt8) (k : Nat) (v : Value) : Prop :=
  wr.ownsRow base 3 1 v (k + 1) (endsOf T k) ∧ (∀ j, j < k → (T j).length ≤ 524288) ∧ Below base w wr

end Go.Proofs.YtpokiijbhmmmaaaDoor.frameBack
