/-
  Has a deed numbers that commands have? No condition.
-/
import Derived.Test.YthokbififjhflaaSdTwo
namespace Go.Proofs.Ythokbififjhflaa
open Go.RowKit

set_option maxHeartbeats 6400000 in
set_option maxRecDepth 100000 in
theorem plain_any (w : World) (v : Sd) : Calls Try.prog 10 #[.agg (sdA v)] w fun e w' => e = .returned (.bool (sdP v)) ∧ Below w.heap.size w w' := by
  obtain ⟨W, hW⟩ : ∃ W, W = w.alloc (.cells (sdA v) 38) := ⟨_, rfl⟩
  have bW : Below w.heap.size w W := by rw [hW]; exact (Below.refl _ w).alloc (Nat.le_refl _) _
  have dW : SdAt W w.heap.size v := by rw [hW]; exact heap_alloc_new w _
  have HW : Hid (w.alloc (.cells (sdA v) 38) = W) := hW.symm
  have BW : Hid (Below w.heap.size w W) := bW
  have z0 := dW.box 0 _ rfl
  have z2 := dW.box 2 _ rfl
  have z5 := dW.box 5 _ rfl
  have z7 := dW.box 7 _ rfl
  clear hW bW dW
  cases n2 : (v.kind != 2) with
  | false =>
    have k2 : (v.kind == 2) = true := by simpa using n2
    have m2 : (!(v.kind == 2)) = false := n2
    cases c0 : decide (1 ≤ v.seq) with
    | false =>
      have e : sdP v = false := by simp only [sdP, m2, c0]; rfl
      go_enter Try.func10, Try.ntmps10
      go_upto_region 1 with fail
      rw [HW.out]
      go_wp2
      go_ret
      exact ⟨by rw [e]; rfl, BW.out⟩
    | true =>
      cases c1 : decide (v.seq ≤ 1073741824) with
      | false =>
        have e : sdP v = false := by simp only [sdP, m2, c0, c1]; rfl
        go_enter Try.func10, Try.ntmps10
        go_upto_region 1 with fail
        rw [HW.out]
        go_wp2
        go_ret
        exact ⟨by rw [e]; rfl, BW.out⟩
      | true =>
        cases c2 : decide (0 ≤ v.r.err) with
        | false =>
          have e : sdP v = false := by simp only [sdP, m2, c0, c1, c2]; rfl
          go_enter Try.func10, Try.ntmps10
          go_upto_region 1 with fail
          rw [HW.out]
          go_wp2
          go_ret
          exact ⟨by rw [e]; rfl, BW.out⟩
        | true =>
          cases c3 : decide (v.r.err ≤ 255) with
          | false =>
            have e : sdP v = false := by simp only [sdP, m2, c0, c1, c2, c3]; rfl
            go_enter Try.func10, Try.ntmps10
            go_upto_region 1 with fail
            rw [HW.out]
            go_wp2
            go_ret
            exact ⟨by rw [e]; rfl, BW.out⟩
          | true =>
            cases c4 : decide (0 ≤ v.r.n) with
            | false =>
              have e : sdP v = false := by simp only [sdP, m2, c0, c1, c2, c3, c4]; rfl
              go_enter Try.func10, Try.ntmps10
              go_upto_region 1 with fail
              rw [HW.out]
              go_wp2
              go_ret
              exact ⟨by rw [e]; rfl, BW.out⟩
            | true =>
              cases c5 : decide (v.r.n ≤ 1073741824) with
              | false =>
                have e : sdP v = false := by simp only [sdP, m2, c0, c1, c2, c3, c4, c5]; rfl
                go_enter Try.func10, Try.ntmps10
                go_upto_region 1 with fail
                rw [HW.out]
                go_wp2
                go_ret
                exact ⟨by rw [e]; rfl, BW.out⟩
              | true =>
                have e : sdP v = true := by simp only [sdP, m2, c0, c1, c2, c3, c4, c5]; rfl
                go_enter Try.func10, Try.ntmps10
                go_upto_region 1 with fail
                rw [HW.out]
                go_wp2
                go_ret
                exact ⟨by rw [e]; rfl, BW.out⟩
  | true =>
    have k2 : (v.kind == 2) = false := by simpa using n2
    have m2 : (!(v.kind == 2)) = true := n2
    cases n3 : (v.kind != 3) with
    | false =>
      have k3 : (v.kind == 3) = true := by simpa using n3
      have m3 : (!(v.kind == 3)) = false := n3
      cases c0 : decide (1 ≤ v.seq) with
      | false =>
        have e : sdP v = false := by simp only [sdP, m2, m3, c0]; rfl
        go_enter Try.func10, Try.ntmps10
        go_upto_region 1 with fail
        rw [HW.out]
        go_wp2
        go_ret
        exact ⟨by rw [e]; rfl, BW.out⟩
      | true =>
        cases c1 : decide (v.seq ≤ 1073741824) with
        | false =>
          have e : sdP v = false := by simp only [sdP, m2, m3, c0, c1]; rfl
          go_enter Try.func10, Try.ntmps10
          go_upto_region 1 with fail
          rw [HW.out]
          go_wp2
          go_ret
          exact ⟨by rw [e]; rfl, BW.out⟩
        | true =>
          cases c2 : decide (0 ≤ v.r.err) with
          | false =>
            have e : sdP v = false := by simp only [sdP, m2, m3, c0, c1, c2]; rfl
            go_enter Try.func10, Try.ntmps10
            go_upto_region 1 with fail
            rw [HW.out]
            go_wp2
            go_ret
            exact ⟨by rw [e]; rfl, BW.out⟩
          | true =>
            cases c3 : decide (v.r.err ≤ 255) with
            | false =>
              have e : sdP v = false := by simp only [sdP, m2, m3, c0, c1, c2, c3]; rfl
              go_enter Try.func10, Try.ntmps10
              go_upto_region 1 with fail
              rw [HW.out]
              go_wp2
              go_ret
              exact ⟨by rw [e]; rfl, BW.out⟩
            | true =>
              cases c4 : decide (0 ≤ v.r.n) with
              | false =>
                have e : sdP v = false := by simp only [sdP, m2, m3, c0, c1, c2, c3, c4]; rfl
                go_enter Try.func10, Try.ntmps10
                go_upto_region 1 with fail
                rw [HW.out]
                go_wp2
                go_ret
                exact ⟨by rw [e]; rfl, BW.out⟩
              | true =>
                cases c5 : decide (v.r.n ≤ 1073741824) with
                | false =>
                  have e : sdP v = false := by simp only [sdP, m2, m3, c0, c1, c2, c3, c4, c5]; rfl
                  go_enter Try.func10, Try.ntmps10
                  go_upto_region 1 with fail
                  rw [HW.out]
                  go_wp2
                  go_ret
                  exact ⟨by rw [e]; rfl, BW.out⟩
                | true =>
                  have e : sdP v = true := by simp only [sdP, m2, m3, c0, c1, c2, c3, c4, c5]; rfl
                  go_enter Try.func10, Try.ntmps10
                  go_upto_region 1 with fail
                  rw [HW.out]
                  go_wp2
                  go_ret
                  exact ⟨by rw [e]; rfl, BW.out⟩
    | true =>
      have k3 : (v.kind == 3) = false := by simpa using n3
      have m3 : (!(v.kind == 3)) = true := n3
      have e : sdP v = true := by simp only [sdP, m2, m3]; rfl
      go_enter Try.func10, Try.ntmps10
      go_upto_region 1 with fail
      rw [HW.out]
      go_wp2
      go_ret
      exact ⟨by rw [e]; rfl, BW.out⟩
end Go.Proofs.Ythokbififjhflaa
