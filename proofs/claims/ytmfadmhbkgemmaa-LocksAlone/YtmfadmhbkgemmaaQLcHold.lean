/-
  Package locks: a session put among those that hold a lock. The conditions: it is an int, and not among them; lists are short.
-/
import Derived.Test.YtmfadmhbkgemmaaQLcFirst
import Derived.Test.YtmfadmhbkgemmaaQPack5
namespace Go.Proofs.Ytmfadmhbkgemmaa
open Go.RowKit

theorem putL_perm {hs h : List Int} (hp : hs.Perm h) (s : Int) : (hs ++ [s]).Perm (putL h s) := by
  unfold putL
  refine (List.perm_append_comm.trans ?_)
  refine ((hp.cons s).trans ?_)
  have e := List.takeWhile_append_dropWhile (p := fun y : Int => decide (y < s)) (l := h)
  conv => lhs; rw [← e]
  exact List.perm_middle.symm
structure HoldP (w : World) (X : Nat) (S : Nat → Prop) (h : List Int) (wr : Bool) (q : List Wq) (e : Ending) (w' : World) : Prop where
  ret : ∃ v, e = .returned v
  at' : LcAt w' X S h wr q
  k : Kept w w' S S
theorem grown_cells {w w2 : World} {b g : Nat} {j : Nat} {u : Value} (hg : w.grownBy w2 (some b)) (hlt : g < w.heap.size) (hne : g ≠ b) (h : w.cell? ⟨g, j, none⟩ = some u) : w2.cell? ⟨g, j, none⟩ = some u :=
  (World.cell?_of_block (a := ⟨g, j, none⟩) (hg.block g hlt (fun e => hne (Option.some.inj e)))).trans h
set_option maxRecDepth 100000 in
set_option maxHeartbeats 2000000 in
theorem hold_any {w : World} {X : Nat} {S : Nat → Prop} {h : List Int} {wr : Bool} {q : List Wq} (I : LcAt w X S h wr q) (x : Wq) (hi : inI x.s) (hn : hasB h x.s = false) (hl : h.length < 65536) :
    Calls Try.prog 53 #[bPtr X, .agg (lcWA x)] w (HoldP w X S (putL h x.s) (!x.rd) q) := by
  obtain ⟨H, P, L, hs, ps, M⟩ := I.ex
  obtain ⟨W, hW⟩ : ∃ W, W = w.alloc (.cells (lcWA x) lcWT) := ⟨_, rfl⟩
  have bW : Below w.heap.size w W := by rw [hW]; exact (Below.refl _ w).alloc (Nat.le_refl _) _
  have nW : W.heap[w.heap.size]? = some (.cells (lcWA x) lcWT (0, 0)) := by rw [hW]; exact heap_alloc_new w _
  have M2 := (M.fresh bW).keep (w' := W.drew) (fun _ _ => rfl)
  have hns : x.s ∉ hs := fun e => by
    have := M.mem x.s
    rw [hn, decide_eq_true e] at this
    cases this
  obtain ⟨w2, hrun, hs2, hg2, hz2⟩ := set_put M2.hold hi (by have := M.hlen; unfold maxLen; omega) hns
  have hBX : w.heap.size ≠ X := by have := M.bd X M.inX; omega
  have hBH : w.heap.size ≠ H := by have := M.bd H M.inH; omega
  have hBl : w.heap.size < W.drew.heap.size := lt_of_block nW
  have hXl : X < W.drew.heap.size := M2.bd X M2.inX
  have q0 : W.drew.cell? ⟨X, 0, none⟩ = some (.map (some H)) := M2.cell 0 _ rfl
  have q1 : W.drew.cell? ⟨w.heap.size, 0, none⟩ = some (.int .i64 x.s) := (show W.cell? ⟨w.heap.size, 0, none⟩ = _ from by simp [World.cell?, nW])
  have q2 : W.drew.cell? ⟨w.heap.size, 2, none⟩ = some (.bool x.rd) := (show W.cell? ⟨w.heap.size, 2, none⟩ = _ from by simp [World.cell?, nW])
  have HS : Hid ((W.drew.cell? ⟨X, 0, none⟩ = some (.map (some H)) ∧ W.drew.cell? ⟨w.heap.size, 0, none⟩ = some (.int .i64 x.s)) ∧ (w2.cell? ⟨X, 0, none⟩ = some (.map (some H)) ∧ w2.cell? ⟨w.heap.size, 0, none⟩ = some (.int .i64 x.s))) := (show Hid _ from (⟨⟨q0, q1⟩, grown_cells hg2 hXl M.neH.symm q0, grown_cells hg2 hBl hBH q1⟩ : (_ ∧ _) ∧ (_ ∧ _)))
  have r2 := grown_cells hg2 hBl hBH q2
  have hXb := hg2.block X hXl (fun e => M.neH (Option.some.inj e).symm)
  have r1 : w2.cell? ⟨X, 1, none⟩ = some (.bool wr) := (World.cell?_of_block (a := ⟨X, 1, none⟩) hXb).trans (M2.cell 1 _ rfl)
  have f1 : w2.frozen? ⟨X, 1, none⟩ = false := (World.frozen?_of_block (a := ⟨X, 1, none⟩) hXb).trans (M2.fz 1)
  have hk2 : ∀ g, S g → g ≠ H → w2.heap[g]? = W.drew.heap[g]? := fun g hg hne => hg2.block g (M2.bd g hg) (fun e => hne (Option.some.inj e))
  obtain ⟨w3, hw3⟩ : ∃ w3, w3 = w2.setCell ⟨X, 1, none⟩ (.bool (!x.rd)) := ⟨_, rfl⟩
  have o3 : ∀ g, g ≠ X → w3.heap[g]? = w2.heap[g]? := fun g hg => by rw [hw3]; exact heap_setCell_other _ _ _ _ hg
  have HE : Hid (HoldP w X S (putL h x.s) (!x.rd) q (.returned (.tuple #[])) w3) := (show Hid _ from (⟨⟨_, rfl⟩, ⟨H, P, L, hs ++ [x.s], ps, by
      rw [hw3]
      exact (M2.ring.keep fun g hg => by
        rcases hg with rfl | hg
        · exact hXb
        · exact hk2 g (M2.inL hg) (M.neHL hg).symm).setW _, M.ql, hs2.keep (o3 H M.neH), putL_perm M.hp x.s, M2.plc.keep ((o3 P M.neP).trans (hk2 P M2.inP M.ne.symm)), M.lk, M.qd, M.qi, M.ne, M.set⟩,
    ⟨by rw [hw3]; exact hg2.os.trans bW.os, by rw [hw3]; exact hg2.tape.trans bW.tape, by rw [hw3]; exact hg2.output.trans bW.output, by have := bW.size; have := hg2.size; rw [hw3, World.size_setCell]; exact Nat.le_trans bW.size hg2.size, fun g hg => Or.inl hg, fun g hg hn => (o3 g (fun e => hn (e ▸ M.inX))).trans ((hg2.block g (Nat.lt_of_lt_of_le hg bW.size) (fun e => hn ((Option.some.inj e) ▸ M.inH))).trans (bW.block g hg))⟩⟩ : HoldP _ _ _ _ _ _ _ _))
  have HW : Hid (w.alloc (.cells #[.int .i64 x.s, .int .i64 x.n, .bool x.rd] lcWT) = W) := hW.symm
  have HW3 : Hid (w2.setCell ⟨X, 1, none⟩ (.bool (!x.rd)) = w3) := hw3.symm
  clear M M2 I hW hw3 o3 hk2 hXb hs2 hg2 hz2 nW bW hns hn hi hl hBX hBH hBl hXl q0 q1 q2
  go_enter Try.func53, Try.ntmps53
  go_upto_region 1 with fail
  rw [HW.out]
  refine wp_region_held_drew (S := (fun w' : World => w'.cell? ⟨X, 0, none⟩ = some (.map (some H)) ∧ w'.cell? ⟨w.heap.size, 0, none⟩ = some (.int .i64 x.s))) (by kernel_rfl) ?_ (fun hHeld0 => ?_)
  · exact HS.out.1
  refine tk0 (.pointer (some ⟨X, 0, none⟩)) (by kernel_rfl) (by kernel_rfl) (by kernel_rfl) (fun _ _ _ h => h) rfl (fun w hSw => by (try dsimp only at hSw); obtain ⟨q0, q1⟩ := hSw; go_simp) (by assumption) ?_
  try simp only [Act.put, List.setIfInBounds_toArray, List.set_cons_zero, List.set_cons_succ]
  refine tk1 (.pointer (some ⟨X, 0, none⟩)) (by kernel_rfl) (by kernel_rfl) (by kernel_rfl) (fun _ _ _ h => h) rfl (fun w hSw => by (try dsimp only at hSw); obtain ⟨q0, q1⟩ := hSw; go_simp) (by assumption) ?_
  try simp only [Act.put, List.setIfInBounds_toArray, List.set_cons_zero, List.set_cons_succ]
  refine tk2 (.pointer (some ⟨X, 0, none⟩)) (by kernel_rfl) (by kernel_rfl) (by kernel_rfl) (fun _ _ _ h => h) rfl (fun w hSw => by (try dsimp only at hSw); obtain ⟨q0, q1⟩ := hSw; go_simp) (by assumption) ?_
  try simp only [Act.put, List.setIfInBounds_toArray, List.set_cons_zero, List.set_cons_succ]
  refine tk3 (.map (some H)) (by kernel_rfl) (by kernel_rfl) (by kernel_rfl) (fun _ _ _ h => h) rfl (fun w hSw => by (try dsimp only at hSw); obtain ⟨q0, q1⟩ := hSw; go_simp) (by assumption) ?_
  try simp only [Act.put, List.setIfInBounds_toArray, List.set_cons_zero, List.set_cons_succ]
  refine tk4 (.pointer (some ⟨w.heap.size, 0, none⟩)) (by kernel_rfl) (by kernel_rfl) (by kernel_rfl) (fun _ _ _ h => h) rfl (fun w hSw => by (try dsimp only at hSw); obtain ⟨q0, q1⟩ := hSw; go_simp) (by assumption) ?_
  try simp only [Act.put, List.setIfInBounds_toArray, List.set_cons_zero, List.set_cons_succ]
  refine tk5 (.int .i64 x.s) (by kernel_rfl) (by kernel_rfl) (by kernel_rfl) (fun _ _ _ h => h) rfl (fun w hSw => by (try dsimp only at hSw); obtain ⟨q0, q1⟩ := hSw; go_simp) (by assumption) ?_
  try simp only [Act.put, List.setIfInBounds_toArray, List.set_cons_zero, List.set_cons_succ]
  refine tk6 (.agg #[]) (by kernel_rfl) (by kernel_rfl) (by kernel_rfl) (fun _ _ _ h => h) rfl (fun w hSw => by (try dsimp only at hSw); obtain ⟨q0, q1⟩ := hSw; go_simp) (by assumption) ?_
  try simp only [Act.put, List.setIfInBounds_toArray, List.set_cons_zero, List.set_cons_succ]
  refine cl7 (by kernel_rfl) rfl (fun K hK => ?_)
  go_simp
  refine hK.out _ _ ?_ (fun hHeld => ?_)
  · exact HS.out.2
  clear hK K
  try simp only [Act.put, List.setIfInBounds_toArray, List.set_cons_zero, List.set_cons_succ]
  refine wpAnyH_done (by kernel_rfl) ?_ _
  go_wp2
  go_returns
  rw [HW3.out]
  exact HE.out
end Go.Proofs.Ytmfadmhbkgemmaa
