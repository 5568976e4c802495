/-
  Package locks: what is read of a lock: held, holds, hasRoom, waits, anybody, first; a lock made. The conditions: a session is an int; lists are short.
-/
import Derived.Test.YtmfadmhbkgemmaaQLcMem
import Derived.Test.YtmfadmhbkgemmaaQGStore
namespace Go.Proofs.Ytmfadmhbkgemmaa
open Go.RowKit

theorem dec_gt (n : Nat) : decide ((n : Int) > 0) = decide (0 < n) := by
  by_cases h : 0 < n
  · rw [decide_eq_true h, decide_eq_true (by omega)]
  · rw [decide_eq_false h, decide_eq_false (by omega)]
section
variable {w : World} {X : Nat} {S : Nat → Prop} {h : List Int} {wr : Bool} {q : List Wq}
set_option maxRecDepth 100000 in
set_option maxHeartbeats 1000000 in
theorem held_any (I : LcAt w X S h wr q) : Calls Try.prog 31 #[bPtr X] w fun e w' => e = .returned (.bool (decide (0 < h.length))) ∧ w' = w := by
  obtain ⟨H, P, L, hs, ps, M⟩ := I.ex
  have c0 : w.cell? ⟨X, 0, none⟩ = some (.map (some H)) := M.cell 0 _ rfl
  have hln := fun ty => set_len M.hold ty
  rw [M.hlen] at hln
  have HD : Hid _ := dec_gt h.length
  clear M I
  go_enter Try.func31, Try.ntmps31
  go_wp2
  go_ret
  exact ⟨by first | rfl | rw [← HD.out]; rfl, rfl⟩
set_option maxRecDepth 100000 in
set_option maxHeartbeats 1000000 in
theorem anybody_any (I : LcAt w X S h wr q) : Calls Try.prog 27 #[bPtr X] w fun e w' => e = .returned (.bool (decide (0 < q.length))) ∧ w' = w := by
  obtain ⟨H, P, L, hs, ps, M⟩ := I.ex
  have c2 : w.cell? ⟨X, 2, none⟩ = some (.map (some P)) := M.cell 2 _ rfl
  have hln := fun ty => MapOf.len mPl_is M.plc ty
  rw [M.plen] at hln
  have HD : Hid _ := dec_gt q.length
  clear M I
  go_enter Try.func27, Try.ntmps27
  go_wp2
  go_ret
  exact ⟨by first | rfl | rw [← HD.out]; rfl, rfl⟩
set_option maxRecDepth 100000 in
set_option maxHeartbeats 1000000 in
theorem holds_any (I : LcAt w X S h wr q) {s : Int} (hi : inI s) : Calls Try.prog 23 #[bPtr X, .int .i64 s] w fun e w' => e = .returned (.bool (hasB h s)) ∧ Below w.heap.size w w' := by
  obtain ⟨H, P, L, hs, ps, M⟩ := I.ex
  have c0 : w.cell? ⟨X, 0, none⟩ = some (.map (some H)) := M.cell 0 _ rfl
  have hlk := set_look M.hold hi
  rw [M.mem s] at hlk
  clear M I
  generalize hasB h s = a at *
  go_enter Try.func23, Try.ntmps23
  go_wp2
  go_ret
  exact ⟨rfl, (Below.refl _ w).alloc (Nat.le_refl _) _⟩
set_option maxRecDepth 100000 in
set_option maxHeartbeats 1000000 in
theorem lwaits_any (I : LcAt w X S h wr q) {s : Int} (hi : inI s) : Calls Try.prog 24 #[bPtr X, .int .i64 s] w fun e w' => e = .returned (.bool (waitB q s)) ∧ w' = w := by
  obtain ⟨H, P, L, hs, ps, M⟩ := I.ex
  have c2 : w.cell? ⟨X, 2, none⟩ = some (.map (some P)) := M.cell 2 _ rfl
  have hlk := MapOf.look2 mPl_is M.plc hi
  rw [mPl_got, M.lk, atS_some, M.ql] at hlk
  generalize ptV (atS L s) = v at *
  generalize waitB q s = a at *
  change (Instr.lookup _ _ (.int .i64 s) _).run _ _ = _ at hlk
  clear M I
  go_enter Try.func24, Try.ntmps24
  go_wp2
  go_ret
  exact ⟨rfl, rfl⟩
set_option maxRecDepth 100000 in
set_option maxHeartbeats 1000000 in
theorem hasRoom_any (I : LcAt w X S h wr q) (rd : Bool) : Calls Try.prog 28 #[bPtr X, .bool rd] w fun e w' => e = .returned (.bool (fitH h wr rd)) ∧ w' = w := by
  have hc := held_any I
  obtain ⟨H, P, L, hs, ps, M⟩ := I.ex
  have c1 : w.cell? ⟨X, 1, none⟩ = some (.bool wr) := M.cell 1 _ rfl
  clear M I
  by_cases h0 : h.length = 0
  · have e : fitH h wr rd = true := by unfold fitH; rw [decide_eq_true h0]; rfl
    have e2 : decide (0 < h.length) = false := decide_eq_false (by omega)
    rw [e2] at hc
    rw [e]
    clear h0 e e2
    go_enter Try.func28, Try.ntmps28
    go_wp2_with (go_at_call 31; refine hc.mono ?_; rintro e w1 ⟨rfl, rfl⟩)
    go_ret
    exact ⟨rfl, rfl⟩
  · have e : fitH h wr rd = (rd && !wr) := by unfold fitH; rw [decide_eq_false h0]; rfl
    have e2 : decide (0 < h.length) = true := decide_eq_true (by omega)
    rw [e2] at hc
    rw [e]
    clear h0 e e2
    cases rd with
    | false =>
      go_enter Try.func28, Try.ntmps28
      go_wp2_with (go_at_call 31; refine hc.mono ?_; rintro e w1 ⟨rfl, rfl⟩)
      go_ret
      exact ⟨rfl, rfl⟩
    | true =>
      go_enter Try.func28, Try.ntmps28
      go_wp2_with (go_at_call 31; refine hc.mono ?_; rintro e w1 ⟨rfl, rfl⟩)
      go_ret
      exact ⟨by simp, rfl⟩
theorem sizeLw : (Try.prog.info? lcWT).map (·.size) = some 3 := by kernel_rfl
end
end Go.Proofs.Ytmfadmhbkgemmaa
