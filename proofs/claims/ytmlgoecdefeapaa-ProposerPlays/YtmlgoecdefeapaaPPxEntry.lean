/-
  Package proposer: what is proposed at a slot. The condition: texts have at most 2^48 bytes; the slot is an int's.
-/
import Derived.Test.YtmlgoecdefeapaaPPxPut
import Derived.Test.YtmlgoecdefeapaaPPack5
namespace Go.Proofs.Ytmlgoecdefeapaa
open Go.RowKit

/-- What stands at a slot. -/
def eo (l : List (Int × En)) (s : Int) : En := (lookM l s).getD En.zero
theorem eo_got (l : List (Int × En)) (s : Int) : mBest.got l s = .agg (enA (eo l s)) := by
  unfold MapOf.got eo
  cases lookM l s <;> rfl
theorem eo_cmd (l : List (Int × En)) (s : Int) : (eo l s).cmd = cmdOf (lookM l s) := by
  unfold eo
  cases lookM l s <;> rfl
/-- The texts are no longer than texts may be. -/
def Names (l : List (Int × En)) : Prop := ∀ x ∈ l, x.2.cmd.name.size ≤ 281474976710656
theorem Names.eo {l : List (Int × En)} (h : Names l) (s : Int) : (eo l s).cmd.name.size ≤ 281474976710656 := by
  rw [eo_cmd]
  cases hl : lookM l s with
  | none => exact Nat.zero_le _
  | some e => exact h _ (lookM_mem hl)
theorem Names.put {l : List (Int × En)} (h : Names l) (s : Int) {e : En} (he : e.cmd.name.size ≤ 281474976710656) : Names (putM l s e) := by
  unfold putM
  split
  · intro x hx
    rcases List.mem_append.1 hx with hx | hx
    · exact h x hx
    · rw [List.mem_singleton.1 hx]
      exact he
  · intro x hx
    obtain ⟨y, hy, rfl⟩ := List.mem_map.1 hx
    split
    · exact he
    · exact h y hy
abbrev zeA : Array Value := #[.int .i64 0, .int .i64 0, .int .i64 0, .int .i64 0, .int .i64 0, .string ⟨#[]⟩, .int .i64 0]
/-- The block of a proposer, and its best. -/
structure PxB (w : World) (X : Nat) (n b f : Int) (is : Bool) (p : Px) (mp : Option Nat) (mb ma : Nat) (v : Value) : Prop where
  blk : w.heap[X]? = some (.cells (pxA n b f is p mp mb ma v) 63 (0, 0))
  best : mBest.At w mb p.best
theorem PxB.keep {w w' : World} {X : Nat} {n b f : Int} {is : Bool} {p : Px} {mp : Option Nat} {mb ma : Nat} {v : Value} (h : PxB w X n b f is p mp mb ma v) (h1 : w'.heap[X]? = w.heap[X]?) (h2 : w'.heap[mb]? = w.heap[mb]?) : PxB w' X n b f is p mp mb ma v := ⟨h1.trans h.blk, h.best.keep h2⟩
theorem PxB.fresh {w w' : World} {X : Nat} {n b f : Int} {is : Bool} {p : Px} {mp : Option Nat} {mb ma : Nat} {v : Value} (h : PxB w X n b f is p mp mb ma v) (k : Below w.heap.size w w') : PxB w' X n b f is p mp mb ma v := h.keep (k.block X (lt_of_block h.blk)) (k.block mb h.best.lt)
theorem PxB.cell {w : World} {X : Nat} {n b f : Int} {is : Bool} {p : Px} {mp : Option Nat} {mb ma : Nat} {v : Value} (h : PxB w X n b f is p mp mb ma v) (i : Nat) (u : Value) (hu : (pxA n b f is p mp mb ma v)[i]? = some u) : w.cell? ⟨X, i, none⟩ = some u := by
  simp only [World.cell?, h.blk]
  simpa using hu
theorem sizeEnP : (Try.prog.info? 38).map (·.size) = some 7 := by kernel_rfl
section
variable {w : World} {base X : Nat} {S : Nat → Prop} {n b f : Int} {is : Bool} {p : Px} {mp : Option Nat} {mb ma : Nat} {v : Value}
set_option maxHeartbeats 3200000 in
set_option maxRecDepth 100000 in
theorem xentryB_any (h : PxB w X n b f is p mp mb ma v) (hN : Names p.best) (s : Int) (hs : inI s) :
    Calls Try.prog 36 #[.pointer (some ⟨X, 0, none⟩), .int .i64 s] w fun r w' => r = .returned (.agg (enA ⟨s, b, cmdOf (lookM p.best s)⟩)) ∧ Below w.heap.size w w' := by
  obtain ⟨W, hW⟩ : ∃ W, W = w.alloc (.cells zeA 38) := ⟨_, rfl⟩
  have b1 : Below w.heap.size w W := by rw [hW]; exact (Below.refl _ w).alloc (Nat.le_refl _) _
  have q1 : W.heap[w.heap.size]? = some (.cells zeA 38 (0, 0)) := by rw [hW]; exact heap_alloc_new w _
  have z1 : W.heap.size = w.heap.size + 1 := by rw [hW]; simp
  have p1 := h.fresh b1
  have hl := MapOf.look1 mBest_is p1.best hs
  rw [eo_got] at hl
  have x4 := p1.cell 4 (.map (some mb)) rfl
  obtain ⟨c, hc⟩ : ∃ c, c = (eo p.best s).cmd := ⟨_, rfl⟩
  have hcn : c.name.size ≤ 281474976710656 := by rw [hc]; exact hN.eo s
  have hcz : c = cmdOf (lookM p.best s) := hc.trans (eo_cmd _ _)
  rw [← hcz]
  obtain ⟨e0, he0⟩ : ∃ e0, e0 = eo p.best s := ⟨_, rfl⟩
  rw [← he0] at hc hl
  have hfl : ∀ y, (Instr.field 38 (.agg (enA e0)) 2).run Try.prog y = .ok (.agg (cmA c)) y := fun y => by rw [hc]; kernel_rfl
  obtain ⟨W2, hW2⟩ : ∃ W2, W2 = W.alloc (.cells (cmA c) 32) := ⟨_, rfl⟩
  have b2 : Below w.heap.size w W2 := by rw [hW2]; exact b1.alloc b1.size _
  have q2 : W2.heap[w.heap.size]? = some (.cells zeA 38 (0, 0)) := by rw [hW2]; exact (Below.heap_alloc _ _ _ (by omega)).trans q1
  have q2' : W2.heap[w.heap.size + 1]? = some (.cells (cmA c) 32 (0, 0)) := by
    rw [hW2, ← z1]
    exact heap_alloc_new W _
  have c3 := boxC q2' 3 _ rfl
  have HW : Hid (w.alloc (.cells zeA 38) = W) := hW.symm
  have HW2 : Hid (W.alloc (.cells (cmA c) 32) = W2) := hW2.symm
  have HB : Hid _ := b2
  have HQ : Hid _ := q2
  have HQ' : Hid _ := q2'
  have HP : Hid _ := h
  clear h hW hW2 b1 b2 q1 q2 q2' p1 hc hcz he0
  go_enter Try.func36, Try.ntmps36
  go_upto_region 1 with fail
  rw [HW.out]
  go_upto_region 2 with fail
  rw [HW2.out]
  go_upto_region 3 with (go_at_call 43; refine (xclone_any c.name _ hcn).mono ?_; rintro r w2 ⟨rfl, b2⟩; have q2 := (b2.block _ (lt_of_block HQ'.out)).trans HQ'.out; have d5 := boxC q2 3 _ rfl; have f5 : w2.frozen? ⟨w.heap.size + 1, 3, none⟩ = false := (by simp [World.frozen?, q2]))
  obtain ⟨W3, hW3⟩ : ∃ W3, W3 = w2.setCell ⟨w.heap.size + 1, 3, none⟩ (.string c.name) := ⟨_, rfl⟩
  have q3 : W3.heap[w.heap.size + 1]? = some (.cells (cmA c) 32 (0, 0)) := by
    rw [hW3, heap_setCell_same w2 (w.heap.size + 1) 3 _ _ _ q2]
    rfl
  have r3 : W3.heap[w.heap.size]? = some (.cells zeA 38 (0, 0)) := by
    rw [hW3, heap_setCell_other _ _ _ _ (by simp)]
    exact (b2.block _ (lt_of_block HQ.out)).trans HQ.out
  have b3 : Below w.heap.size w W3 := by
    rw [hW3]
    exact (bmm HB.out HB.out.size b2).setCell (p := ⟨w.heap.size + 1, 3, none⟩) (Nat.le_succ _) _
  have p3 := HP.out.fresh b3
  have y1 := p3.cell 1 (.int .i64 b) rfl
  rw [← hW3]
  have k0 := boxC q3 0 _ rfl
  have k1 := boxC q3 1 _ rfl
  have k2 := boxC q3 2 _ rfl
  have k3 := boxC q3 3 _ rfl
  have k4 := boxC q3 4 _ rfl
  have HR : Hid _ := r3
  have HB3 : Hid _ := b3
  have HXn : Hid (X < w.heap.size) := lt_of_block HP.out.blk
  clear p3 b3 q3 r3 hW3 d5 f5 q2 b2 c3 hl hfl x4 HW HW2 HB HQ HQ' HP
  go_wp2
  refine wp_region_held_drew (S := (fun y : World => y.cell? ⟨X, 1, none⟩ = some (.int .i64 b) ∧ y.cell? ⟨w.heap.size + 1, 0, none⟩ = some (.int .i64 c.kind) ∧ y.cell? ⟨w.heap.size + 1, 1, none⟩ = some (.int .i64 c.session) ∧ y.cell? ⟨w.heap.size + 1, 2, none⟩ = some (.int .i64 c.seq) ∧ y.cell? ⟨w.heap.size + 1, 3, none⟩ = some (.string c.name) ∧ y.cell? ⟨w.heap.size + 1, 4, none⟩ = some (.int .i64 c.n))) (by kernel_rfl) ?_ (fun hHeld0 => ?_)
  · try dsimp only
    go_keep
  refine tk0 (.int .i64 s) (by kernel_rfl) (by kernel_rfl) (by kernel_rfl) (fun _ _ _ h => h) rfl (fun w hSw => by (try dsimp only at hSw); obtain ⟨s1, q0, q1, q2, q3, q4⟩ := hSw; go_simp) (by assumption) ?_
  try simp only [Act.put, List.setIfInBounds_toArray, List.set_cons_zero, List.set_cons_succ]
  refine tk1 (.pointer (some ⟨X, 0, none⟩)) (by kernel_rfl) (by kernel_rfl) (by kernel_rfl) (fun _ _ _ h => h) rfl (fun w hSw => by (try dsimp only at hSw); obtain ⟨s1, q0, q1, q2, q3, q4⟩ := hSw; go_simp) (by assumption) ?_
  try simp only [Act.put, List.setIfInBounds_toArray, List.set_cons_zero, List.set_cons_succ]
  refine tk2 (.pointer (some ⟨X, 0, none⟩)) (by kernel_rfl) (by kernel_rfl) (by kernel_rfl) (fun _ _ _ h => h) rfl (fun w hSw => by (try dsimp only at hSw); obtain ⟨s1, q0, q1, q2, q3, q4⟩ := hSw; go_simp) (by assumption) ?_
  try simp only [Act.put, List.setIfInBounds_toArray, List.set_cons_zero, List.set_cons_succ]
  refine tk3 (.pointer (some ⟨X, 1, none⟩)) (by kernel_rfl) (by kernel_rfl) (by kernel_rfl) (fun _ _ _ h => h) rfl (fun w hSw => by (try dsimp only at hSw); obtain ⟨s1, q0, q1, q2, q3, q4⟩ := hSw; go_simp) (by assumption) ?_
  try simp only [Act.put, List.setIfInBounds_toArray, List.set_cons_zero, List.set_cons_succ]
  refine tk4 (.int .i64 b) (by kernel_rfl) (by kernel_rfl) (by kernel_rfl) (fun _ _ _ h => h) rfl (fun w hSw => by (try dsimp only at hSw); obtain ⟨s1, q0, q1, q2, q3, q4⟩ := hSw; go_simp) (by assumption) ?_
  try simp only [Act.put, List.setIfInBounds_toArray, List.set_cons_zero, List.set_cons_succ]
  refine tk5 (.agg (cmA c)) (by kernel_rfl) (by kernel_rfl) (by kernel_rfl) (fun _ _ _ h => h) rfl (fun w hSw => by (try dsimp only at hSw); obtain ⟨s1, q0, q1, q2, q3, q4⟩ := hSw; go_simp) (by assumption) ?_
  try simp only [Act.put, List.setIfInBounds_toArray, List.set_cons_zero, List.set_cons_succ]
  refine tk6 (.agg #[.int .i64 s, .int .i64 b, .int .i64 c.kind, .int .i64 c.session, .int .i64 c.seq, .string c.name, .int .i64 c.n]) (by kernel_rfl) (by kernel_rfl) (by kernel_rfl) (fun _ _ _ h => h) rfl (fun w hSw => by (try dsimp only at hSw); obtain ⟨s1, q0, q1, q2, q3, q4⟩ := hSw; go_simp) (by assumption) ?_
  try simp only [Act.put, List.setIfInBounds_toArray, List.set_cons_zero, List.set_cons_succ]
  refine cl7 (by kernel_rfl) rfl (fun K hK => ?_)
  refine wp_store_row 38 _ _ rfl w.heap.size #[.int .i64 s, .int .i64 b, .int .i64 c.kind, .int .i64 c.session, .int .i64 c.seq, .string c.name, .int .i64 c.n] rfl rfl 38 zeA HR.out sizeEnP rfl (by simp [Value.oneCell']) ?_
  obtain ⟨w6, hw6⟩ : ∃ w6, w6 = W3.drew.setRow w.heap.size #[.int .i64 s, .int .i64 b, .int .i64 c.kind, .int .i64 c.session, .int .i64 c.seq, .string c.name, .int .i64 c.n] := ⟨_, rfl⟩
  rw [← hw6]
  have r6 : w6.heap[w.heap.size]? = some (.cells #[.int .i64 s, .int .i64 b, .int .i64 c.kind, .int .i64 c.session, .int .i64 c.seq, .string c.name, .int .i64 c.n] 38 (0, 0)) := by rw [hw6]; exact setRow_heap W3.drew _ _ _ _ _ HR.out
  have o6 : ∀ g, g ≠ w.heap.size → w6.heap[g]? = W3.heap[g]? := fun g hg => by rw [hw6]; exact setRow_other W3.drew _ _ _ hg
  have b6 : Below w.heap.size w w6 := ⟨by rw [hw6]; exact HB3.out.os, by rw [hw6]; exact HB3.out.tape, by rw [hw6]; exact HB3.out.output, by rw [hw6]; simpa [World.setRow] using HB3.out.size, fun g hg => (o6 g (by omega)).trans (HB3.out.block g hg)⟩
  have hXw := HXn.out
  have s1 : w6.cell? ⟨X, 1, none⟩ = some (.int .i64 b) := (World.cell?_of_block (o6 X (by omega))).trans y1
  have q0 : w6.cell? ⟨w.heap.size + 1, 0, none⟩ = some (.int .i64 c.kind) := (World.cell?_of_block (o6 _ (by simp))).trans k0
  have q1 : w6.cell? ⟨w.heap.size + 1, 1, none⟩ = some (.int .i64 c.session) := (World.cell?_of_block (o6 _ (by simp))).trans k1
  have q2 : w6.cell? ⟨w.heap.size + 1, 2, none⟩ = some (.int .i64 c.seq) := (World.cell?_of_block (o6 _ (by simp))).trans k2
  have q3 : w6.cell? ⟨w.heap.size + 1, 3, none⟩ = some (.string c.name) := (World.cell?_of_block (o6 _ (by simp))).trans k3
  have q4 : w6.cell? ⟨w.heap.size + 1, 4, none⟩ = some (.int .i64 c.n) := (World.cell?_of_block (o6 _ (by simp))).trans k4
  clear hw6
  refine hK.out _ _ ?_ (fun hHeld => ?_)
  · try dsimp only
    go_keep
  clear hK K
  refine wpAnyH_done (by kernel_rfl) ?_ _
  go_wp2
  refine bodyPost_ret (results_cell_row Try.results36 _ _ w.heap.size 38 _ (0, 0) _ rfl r6 Try.underlying38 rfl sizeEnP) rfl ?_
  exact ⟨rfl, b6⟩
theorem xentry_any (h : PxAt w base X S n b f is p mp mb ma v) (hN : Names p.best) (s : Int) (hs : inI s) :
    Calls Try.prog 36 #[.pointer (some ⟨X, 0, none⟩), .int .i64 s] w fun r w' => r = .returned (.agg (enA ⟨s, b, cmdOf (lookM p.best s)⟩)) ∧ Below w.heap.size w w' := xentryB_any ⟨h.blk, h.best⟩ hN s hs
end
end Go.Proofs.Ytmlgoecdefeapaa
