/-
  Package locks: the first that waits taken out; a session taken out of a lock. The condition: it is an int.
-/
import Derived.Test.YtmfadmhbkgemmaaQLcRemove
namespace Go.Proofs.Ytmfadmhbkgemmaa
open Go.RowKit

theorem lessQ_head {y : Wq} {q : List Wq} (hn : ((y :: q).map (·.s)).Nodup) : lessQ (y :: q) y.s = q := by
  rw [List.map_cons, List.nodup_cons] at hn
  unfold lessQ
  rw [List.filter_cons, if_neg (by simp), List.filter_eq_self.2 fun z hz => ?_]
  have : z.s ≠ y.s := fun e => hn.1 (by rw [← e]; exact List.mem_map.2 ⟨z, hz, rfl⟩)
  simpa using this
theorem Kept.grown {w w' : World} {S : Nat → Prop} {b : Nat} (hg : w.grownBy w' (some b)) (hb : S b) : Kept w w' S S :=
  ⟨hg.os, hg.tape, hg.output, hg.size, fun _ h => Or.inl h, fun g hlt hn => hg.block g hlt (fun e => hn (by cases e; exact hb))⟩
/-- A store into a block that is new. -/
theorem Kept.newer {w w1 w2 : World} {S S' : Nat → Prop} {g : Nat} (k : Kept w w1 S S') (hg : w.heap.size ≤ g) (hk : w1.grownBy w2 (some g)) : Kept w w2 S S' :=
  ⟨hk.os.trans k.os, hk.tape.trans k.tape, hk.output.trans k.output, Nat.le_trans k.size hk.size, k.old, fun b hb hn => (hk.block b (Nat.lt_of_lt_of_le hb k.size) (fun e => by have := Option.some.inj e; omega)).trans (k.kept b hb hn)⟩
structure LeavP (w : World) (X : Nat) (S : Nat → Prop) (h : List Int) (wr : Bool) (q : List Wq) (y : Wq) (e : Ending) (w' : World) : Prop where
  ret : e = .returned (.agg (lcWA y))
  ex : ∃ S', LcAt w' X S' h wr q ∧ Kept w w' S S'
set_option maxRecDepth 100000 in
set_option maxHeartbeats 4000000 in
theorem leave_any {w : World} {X : Nat} {S : Nat → Prop} {h : List Int} {wr : Bool} {q : List Wq} {y : Wq} (I : LcAt w X S h wr (y :: q)) :
    Calls Try.prog 58 #[bPtr X] w (LeavP w X S h wr q y) := by
  obtain ⟨hys, hyd⟩ : inI y.s ∧ ((y :: q).map (·.s)).Nodup := by
    obtain ⟨H, P, L, hs, ps, M⟩ := I.ex
    exact ⟨M.qi y List.mem_cons_self, M.qd⟩
  have hwt : waitB (y :: q) y.s = true := by unfold waitB; rw [List.any_cons]; simp
  obtain ⟨W, hW⟩ : ∃ W, W = w.alloc (.cells #[.int .i64 0, .int .i64 0, .bool false] lcWT) := ⟨_, rfl⟩
  have bW : Below w.heap.size w W := by rw [hW]; exact (Below.refl _ w).alloc (Nat.le_refl _) _
  have nW : W.heap[w.heap.size]? = some (.cells #[.int .i64 0, .int .i64 0, .bool false] lcWT (0, 0)) := by rw [hW]; exact heap_alloc_new w _
  have hc := first_any (I.fresh bW)
  have HI : Hid (LcAt w X S h wr (y :: q) ∧ Below w.heap.size w W ∧ W.heap[w.heap.size]? = some (.cells #[.int .i64 0, .int .i64 0, .bool false] lcWT (0, 0))) := (show Hid _ from (⟨I, bW, nW⟩ : _ ∧ _ ∧ _))
  have HY : Hid (inI y.s ∧ ((y :: q).map (·.s)).Nodup ∧ waitB (y :: q) y.s = true) := (show Hid _ from (⟨hys, hyd, hwt⟩ : _ ∧ _ ∧ _))
  have HW : Hid (w.alloc (.cells #[.int .i64 0, .int .i64 0, .bool false] lcWT) = W) := hW.symm
  clear hW bW nW I hys hyd hwt
  go_enter Try.func58, Try.ntmps58
  go_upto_region 1 with fail
  rw [HW.out]
  go_upto_region 2 with (first
    | (show wpList _ _ _ (⟨_, Op.store lcWT _ _, _, _, _, _⟩ :: _) _ _; refine store_row_g rfl lcWT _ _ rfl w1.heap.size (lcWA y) rfl rfl lcWT _ (heap_alloc_new w1 _) sizeLw rfl (by simp [Value.oneCell']) ?_; intro w2 h2 g2)
    | (go_at_call 57; refine hc.mono ?_; rintro e w1 ⟨rfl, b1⟩))
  obtain ⟨B, hB⟩ : ∃ B, B = w1.heap.size := ⟨_, rfl⟩
  have hWl := lt_of_block HI.out.2.2
  have hs1 := b1.size
  have b2 : Below w1.heap.size w1 w2 := bel_grown ((Below.refl _ w1).alloc (Nat.le_refl _) _) (Nat.le_refl _) g2
  have bw2 : Below w.heap.size w w2 := (HI.out.2.1.trans (b1.mono (by omega))).trans (b2.mono (by omega))
  have n2 : w2.heap[w.heap.size]? = some (.cells #[.int .i64 0, .int .i64 0, .bool false] lcWT (0, 0)) := (b2.block _ (by omega)).trans ((b1.block _ hWl).trans HI.out.2.2)
  rw [← hB] at h2 ⊢
  have z0 : w2.cell? ⟨B, 0, none⟩ = some (.int .i64 y.s) := by simp [World.cell?, h2]
  have hr := remove_any (HI.out.1.fresh bw2) HY.out.1 HY.out.2.2
  have H2 : Hid (w2.heap[B]? = some (.cells (lcWA y) lcWT (0, 0)) ∧ w2.heap[w.heap.size]? = some (.cells #[.int .i64 0, .int .i64 0, .bool false] lcWT (0, 0)) ∧ Below w.heap.size w w2 ∧ w.heap.size < B ∧ ¬ S B ∧ ¬ S w.heap.size) := (show Hid _ from (⟨h2, n2, bw2, by omega, fun hsb => by have := HI.out.1.bd _ hsb; omega, fun hsb => by have := HI.out.1.bd _ hsb; omega⟩ : _ ∧ _ ∧ _ ∧ _ ∧ _ ∧ _))
  clear hB hWl hs1 b2 bw2 n2 h2 b1 g2 hc
  go_upto_region 3 with (go_at_call 66; refine hr.mono ?_; rintro e w3 ⟨⟨v, rfl⟩, S', I3, k3⟩)
  have n3 : w3.heap[B]? = some (.cells (lcWA y) lcWT (0, 0)) := (k3.kept B (lt_of_block H2.out.1) H2.out.2.2.2.2.1).trans H2.out.1
  have m3 : w3.heap[w.heap.size]? = some (.cells #[.int .i64 0, .int .i64 0, .bool false] lcWT (0, 0)) := (k3.kept _ (lt_of_block H2.out.2.1) H2.out.2.2.2.2.2).trans H2.out.2.1
  have H3 : Hid (w3.heap[B]? = some (.cells (lcWA y) lcWT (0, 0)) ∧ w3.heap[w.heap.size]? = some (.cells #[.int .i64 0, .int .i64 0, .bool false] lcWT (0, 0)) ∧ LcAt w3 X S' h wr (lessQ (y :: q) y.s) ∧ Kept w2 w3 S S') := (show Hid _ from (⟨n3, m3, I3, k3⟩ : _ ∧ _ ∧ _ ∧ _))
  clear n3 m3 I3 k3 hr
  go_wp2_with (first
    | (show wpList _ _ _ (⟨_, Op.store lcWT _ _, _, _, _, _⟩ :: _) _ _; refine store_row_g rfl lcWT _ _ rfl w.heap.size (lcWA y) rfl rfl lcWT _ H3.out.2.1 sizeLw rfl (by simp [Value.oneCell']) ?_; intro w4 h4 g4)
    | (show wpList _ _ _ (⟨_, Op.load lcWT _, _, _, _, _⟩ :: _) _ _; refine load_row_g rfl lcWT _ rfl B rfl lcWT (lcWA y) (0, 0) _ H3.out.1 Try.underlying70 rfl sizeLw ?_))
  refine bodyPost_ret (results_cell_row Try.results58 _ _ w.heap.size lcWT _ (0, 0) _ rfl h4 Try.underlying70 rfl sizeLw) rfl ?_
  have hI3 := H3.out.2.2.1
  rw [lessQ_head HY.out.2.1] at hI3
  have k4 : Kept w w3 S S' := (Kept.of H2.out.2.2.1).trans H3.out.2.2.2
  refine ⟨rfl, S', hI3.keep (fun b hb => g4.block b (hI3.bd b hb) (fun e => ?_)), k4.newer (Nat.le_refl _) g4⟩
  have e : w.heap.size = b := (Option.some.inj e).symm
  rcases H3.out.2.2.2.old b hb with h6 | h6
  · exact H2.out.2.2.2.2.2 (e ▸ h6)
  · have := lt_of_block H2.out.2.1
    omega
set_option maxRecDepth 100000 in
set_option maxHeartbeats 4000000 in
theorem ldrop_any {w : World} {X : Nat} {S : Nat → Prop} {h : List Int} {wr : Bool} {q : List Wq} (I : LcAt w X S h wr q) {s : Int} (hi : inI s) :
    Calls Try.prog 56 #[bPtr X, .int .i64 s] w (JoinP w X S (dropL h s) wr (lessQ q s)) := by
  obtain ⟨H, P, L, hs, ps, M⟩ := I.ex
  obtain ⟨w2, hdel, hs2, hg2, hz2⟩ := set_del M.hold hi 0
  have hX2 := hg2.block X (M.bd X M.inX) (fun e => M.neH (Option.some.inj e).symm)
  have I2 : LcAt w2 X S (dropL h s) wr q := ⟨H, P, L, _, ps, M.ring.keep (fun g hg => hg2.block g (M.bd g (by
    rcases hg with rfl | hg
    · exact M.inX
    · exact M.inL hg)) (fun e => by
    rcases hg with rfl | hg
    · exact M.neH (Option.some.inj e).symm
    · exact M.neHL hg (Option.some.inj e).symm)), M.ql, hs2, M.hp.filter _, M.plc.keep (hg2.block P (M.bd P M.inP) (fun e => M.ne (Option.some.inj e).symm)), M.lk, M.qd, M.qi, M.ne, M.set⟩
  have k2 : Kept w w2 S S := Kept.grown hg2 M.inH
  have c0 : w.cell? ⟨X, 0, none⟩ = some (.map (some H)) := M.cell 0 _ rfl
  have hw := lwaits_any I2 hi
  have HK : Hid (LcAt w2 X S (dropL h s) wr q ∧ Kept w w2 S S) := (show Hid _ from (⟨I2, k2⟩ : _ ∧ _))
  cases hq : waitB q s with
  | false =>
    rw [hq] at hw
    rw [lessQ_none hq]
    clear M I I2 k2 hs2 hg2 hz2 hX2 hq
    go_enter Try.func56, Try.ntmps56
    go_wp2_with (go_at_call 24; refine hw.mono ?_; rintro e w3 ⟨rfl, rfl⟩)
    go_returns
    exact ⟨⟨_, rfl⟩, S, HK.out.1, HK.out.2⟩
  | true =>
    have hr := remove_any I2 hi hq
    rw [hq] at hw
    clear M I I2 k2 hs2 hg2 hz2 hX2 hq
    go_enter Try.func56, Try.ntmps56
    go_wp2_with (first
      | (go_at_call 66; refine hr.mono ?_; rintro e w4 ⟨⟨v, rfl⟩, S', I4, k4⟩)
      | (go_at_call 24; refine hw.mono ?_; rintro e w3 ⟨rfl, rfl⟩))
    go_returns
    exact ⟨⟨_, rfl⟩, S', I4, HK.out.2.trans k4⟩
end Go.Proofs.Ytmfadmhbkgemmaa
