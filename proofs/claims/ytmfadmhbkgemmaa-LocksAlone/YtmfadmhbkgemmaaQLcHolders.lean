/-
  Package locks: Holders, as plain data. The condition: names at most 1000 bytes.
-/
import Derived.Test.YtmfadmhbkgemmaaQLcGone
import Derived.Test.YtmfadmhbkgemmaaQPackC
namespace Go.Proofs.Ytmfadmhbkgemmaa
open Go.RowKit

theorem holL_look (l : List Lk) (nm : ByteArray) : holL l nm = match lookK l nm with | none => ([], false) | some y => if y.h.length = 0 then ([], false) else (y.h, y.wr) := by
  rw [← lkIx_look]
  unfold holL
  cases lkIx l nm <;> rfl
set_option maxRecDepth 100000 in
set_option maxHeartbeats 4000000 in
theorem LcW.hold {w : World} {base D N : Nat} {S : Nat → Prop} {c : Int} {l : List Lk} (h : LcW w base D S N c l) (hN : N < 32767) {nm : ByteArray} (hm : nm.size ≤ 1000) :
    Calls Try.prog 16 #[.pointer (some ⟨D, 0, none⟩), .string nm] w (HolP w (holL l nm)) := by
  obtain ⟨M, T, own, I, rfl⟩ := h.ex
  have c0 := I.cellM
  have hlk := I.look2 (nm := nm) (by unfold maxLen; omega)
  rw [holL_look]
  cases hk : lookK l nm with
  | none =>
    rw [hk, (I.no nm hk).1] at hlk
    change _ = Result.ok (Value.tuple #[.pointer none, .bool false]) w at hlk
    clear h I hk
    go_enter Try.func16, Try.ntmps16
    go_wp2
    go_ret2
    exact ⟨_, rfl, ints_none _, Below.refl _ _⟩
  | some y =>
    obtain ⟨X, hX, hA⟩ := I.at' nm y hk
    rw [hk, hX] at hlk
    change _ = Result.ok (Value.tuple #[.pointer (some ⟨X, 0, none⟩), .bool true]) w at hlk
    have hy := h.ok.each y (lookK_name hk).2
    have hf := h.fit.each y (lookK_name hk).2
    have hne := hy.ne
    show Calls _ _ _ _ (HolP w (if y.h.length = 0 then ([], false) else (y.h, y.wr)))
    rw [if_neg (by omega)]
    have HA : Hid (LcAt w X (own nm) y.h y.wr y.q ∧ y.h.Pairwise (· < ·) ∧ y.h.length ≤ 65536 ∧ ∀ a ∈ y.h, okI a) := (show Hid _ from (⟨hA, hy.pre.srt, by have := hf.sum; omega, hf.hi⟩ : _ ∧ _ ∧ _ ∧ _))
    clear h I hk hX hA hy hf hne
    go_enter Try.func16, Try.ntmps16
    go_upto_region 6 with fail
    refine wp_region_held_drew (S := (fun w' : World => w'.cell? ⟨X, 1, none⟩ = some (.bool y.wr))) (by kernel_rfl) ?_ (fun hHeld0 => ?_)
    · exact HA.out.1.cellW
    refine tk0 (.pointer (some ⟨X, 0, none⟩)) (by kernel_rfl) (by kernel_rfl) (by kernel_rfl) (fun _ _ _ h => h) rfl (fun w hSw => by (try dsimp only at hSw); go_simp) (by assumption) ?_
    try simp only [Act.put, List.setIfInBounds_toArray, List.set_cons_zero, List.set_cons_succ]
    refine tk2 (.pointer (some ⟨X, 0, none⟩)) (by kernel_rfl) (by kernel_rfl) (by kernel_rfl) (fun _ _ _ h => h) rfl (fun w hSw => by (try dsimp only at hSw); go_simp) (by assumption) ?_
    try simp only [Act.put, List.setIfInBounds_toArray, List.set_cons_zero, List.set_cons_succ]
    refine tk3 (.pointer (some ⟨X, 0, none⟩)) (by kernel_rfl) (by kernel_rfl) (by kernel_rfl) (fun _ _ _ h => h) rfl (fun w hSw => by (try dsimp only at hSw); go_simp) (by assumption) ?_
    try simp only [Act.put, List.setIfInBounds_toArray, List.set_cons_zero, List.set_cons_succ]
    refine tk4 (.pointer (some ⟨X, 1, none⟩)) (by kernel_rfl) (by kernel_rfl) (by kernel_rfl) (fun _ _ _ h => h) rfl (fun w hSw => by (try dsimp only at hSw); go_simp) (by assumption) ?_
    try simp only [Act.put, List.setIfInBounds_toArray, List.set_cons_zero, List.set_cons_succ]
    refine tk5 (.bool y.wr) (by kernel_rfl) (by kernel_rfl) (by kernel_rfl) (fun _ _ _ h => h) rfl (fun w hSw => by (try dsimp only at hSw); go_simp) (by assumption) ?_
    try simp only [Act.put, List.setIfInBounds_toArray, List.set_cons_zero, List.set_cons_succ]
    refine cl1 (by kernel_rfl) rfl (fun K hK => ?_)
    go_simp
    go_at_call 44
    refine (holding_any (HA.out.1.keep (w' := w.drew) fun _ _ => rfl) HA.out.2.1 HA.out.2.2.1).mono ?_
    rintro e w6 ⟨v6, rfl, o6, b6⟩
    obtain ⟨p6, n6, c6, rfl⟩ := own_form o6
    have c6' := (HA.out.1.fresh (undrew b6)).cellW
    refine hK.out _ _ ?_ (fun hHeld => ?_)
    · exact c6'
    clear hK K
    try simp only [Act.put, List.setIfInBounds_toArray, List.set_cons_zero, List.set_cons_succ]
    refine tk6 (.slice p6 n6 c6) (by kernel_rfl) (by kernel_rfl) (by kernel_rfl) (fun _ _ _ h => h) rfl (fun w hSw => by (try dsimp only at hSw); go_simp) (by assumption) ?_
    try simp only [Act.put, List.setIfInBounds_toArray, List.set_cons_zero, List.set_cons_succ]
    refine tk7 (.bool y.wr) (by kernel_rfl) (by kernel_rfl) (by kernel_rfl) (fun _ _ _ h => h) rfl (fun w hSw => by (try dsimp only at hSw); go_simp) (by assumption) ?_
    try simp only [Act.put, List.setIfInBounds_toArray, List.set_cons_zero, List.set_cons_succ]
    refine wpAnyH_done (by kernel_rfl) ?_ _
    go_wp2
    go_ret2
    exact ⟨_, rfl, (RowAt.own (k := 1) (T := 3) intC_len (by rw [rowL_int]; exact o6)).ints HA.out.2.2.2 HA.out.2.2.1, undrew b6⟩
end Go.Proofs.Ytmfadmhbkgemmaa
