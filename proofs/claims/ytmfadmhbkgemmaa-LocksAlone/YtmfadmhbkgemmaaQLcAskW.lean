/-
  Package locks: Ask, whole; Token, SetToken. The conditions: numbers are ints, names at most 1000 bytes; fewer than 32767 deeds.
-/
import Derived.Test.YtmfadmhbkgemmaaQLcAskN
namespace Go.Proofs.Ytmfadmhbkgemmaa
open Go.RowKit

set_option maxRecDepth 100000 in
set_option maxHeartbeats 4000000 in
theorem pask_other (w : World) (D : Nat) {k s n m : Int} {nm : ByteArray} (h5 : k ≠ 5) (h7 : k ≠ 7) :
    Calls Try.prog 10 #[.pointer (some ⟨D, 0, none⟩), .agg (cmA k s n nm m)] w fun e w' => e = .returned (.tuple #[.slice none 0 0, .bool false]) ∧ Below w.heap.size w w' := by
  obtain ⟨W, hW⟩ : ∃ W, W = w.alloc (.cells (cmA k s n nm m) cmT) := ⟨_, rfl⟩
  have bW : Below w.heap.size w W := by rw [hW]; exact (Below.refl _ w).alloc (Nat.le_refl _) _
  have nW : W.heap[w.heap.size]? = some (.cells (cmA k s n nm m) cmT (0, 0)) := by rw [hW]; exact heap_alloc_new w _
  have y0 : W.cell? ⟨w.heap.size, 0, none⟩ = some (.int .i64 k) := by simp [World.cell?, nW]
  have HW : Hid (w.alloc (.cells #[.int .i64 k, .int .i64 s, .int .i64 n, .string nm, .int .i64 m] cmT) = W) := hW.symm
  have HB : Hid _ := bW
  have t5 : (k == 5) = false := by simpa using h5
  have t7 : (k == 7) = false := by simpa using h7
  have t5' : (k != 5) = true := by simpa using h5
  have t7' : (k != 7) = true := by simpa using h7
  clear hW bW nW h5 h7
  go_enter Try.func10, Try.ntmps10
  go_upto_region 1 with fail
  rw [HW.out]
  go_wp2
  go_ret2
  exact ⟨rfl, HB.out⟩
section
variable {w w' : World} {base D N : Nat} {S : Nat → Prop} {c : Int} {l : List Lk}
theorem LcW.ask (h : LcW w base D S N c l) (hN : N < 32767) (k s n : Int) (nm : ByteArray) (m : Int) (hs : okI s) (hn : okI n) (hm : nm.size ≤ 1000) :
    Calls Try.prog 10 #[.pointer (some ⟨D, 0, none⟩), .agg (cmA k s n nm m)] w (AnsP w base D S (N + 1) (askL c l k s n nm)) := by
  have hw := h
  obtain ⟨M, T, own, I, rfl⟩ := h.ex
  by_cases hk : k ≠ 5 ∧ k ≠ 7
  · refine (pask_other w D hk.1 hk.2).mono ?_
    rintro e w' ⟨rfl, b⟩
    have e2 : askL c l k s n nm = (c, l, [], false) := by unfold askL; rw [if_pos hk]
    rw [e2]
    exact ⟨_, _, rfl, RowAt.nil _, (hw.fresh b).up (Nat.le_succ _), Kept.of b, sep_nil _⟩
  · have hk2 : k = 5 ∨ k = 7 := by omega
    cases hl : lookK l nm with
    | none =>
      rw [askL_new (x := ⟨s, n, k == 7⟩) hl hk rfl]
      exact pask_new I h.ok h.fit hl hk2 hs hn hm
    | some y =>
      obtain ⟨X, hX, hA⟩ := I.at' nm y hl
      have hl2 := hl
      rw [← lkIx_look] at hl2
      cases hj : lkIx l nm with
      | none => rw [hj] at hl2; cases hl2
      | some i =>
        rw [hj] at hl2
        have hi : l[i]? = some y := hl2
        have A : AkT w base D M N c l T own nm i y X := ⟨I, h.ok, h.fit, hi, (lookK_name hl).1, hX, hA, hN⟩
        rw [A.askL (x := ⟨s, n, k == 7⟩) hk rfl]
        exact pask_there A hk2 hs hn hm
set_option maxHeartbeats 1000000 in
theorem LcW.token (h : LcW w base D S N c l) : Calls Try.prog 20 #[.pointer (some ⟨D, 0, none⟩)] w fun e w' => e = .returned (.int .u64 c) ∧ w' = w := by
  obtain ⟨M, T, own, I, rfl⟩ := h.ex
  have c1 := I.cellC
  clear h I
  go_enter Try.func20, Try.ntmps20
  go_wp2
  go_ret
  exact ⟨rfl, rfl⟩
end
end Go.Proofs.Ytmfadmhbkgemmaa
