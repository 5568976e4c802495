/-
  The methods of the row of slots that wait, each as plain data. The conditions: places within the row; fewer than 2^40 of them.
-/
import Derived.Test.YtnoappklbipdhaaLrpLeMeth
namespace Go.Proofs.Ytnoappklbipdhaa
open Go.RowKit

/-- A row of slots up to a place. -/
theorem sl_int (g n c i : Nat) (hc : i ≤ c) (w' : World) : (Instr.sliceAt 51 (.slice (some ⟨g, 0, none⟩) n c) none (some (.int .i64 (i : Int))) none).run Try.prog w' = .ok (.slice (some ⟨g, 0, none⟩) i c) w' := by
  have he : Try.prog.elem 51 = 3 := by kernel_rfl
  have hu : Try.prog.underlying 51 = some (.slice (Try.prog.elem 51)) := by rw [he]; exact Try.underlying51
  rw [run_sliceAt_slice _ _ _ _ _ _ hu, run_slice_h _ _ _ _ _ hu _ _ (by omega) (by omega), he]
  have hsz : (sizeOf 3).run Try.prog w' = .ok 1 w' := Try.sizeOf3 w'
  rw [hsz]
  by_cases h0 : c = 0
  · subst h0
    obtain rfl : i = 0 := by omega
    simp [Result.andThen_ok, sliced]
  · simp [Result.andThen_ok, sliced, h0, Addr.add_lit]
section
variable {w : World} {base X : Nat} {S : Nat → Prop} {A F : Int} {l : List (Int × En)} {hs : List Int} {mb : Nat} {v : Value}
set_option maxHeartbeats 1000000 in
theorem slen_any (w : World) (a : Option Addr) (n c : Nat) : Calls Try.prog 51 #[.slice a n c] w fun e w' => e = .returned (.int .i64 (n : Int)) ∧ w = w' := by
  go_enter Try.func51, Try.ntmps51
  go_wp2
  go_ret
  exact ⟨rfl, rfl⟩
set_option maxHeartbeats 1000000 in
theorem sless_any (h : HpAt w base X S A F l hs mb v) {i j : Nat} (hi : i < hs.length) (hj : j < hs.length) : Calls Try.prog 52 #[v, .int .i64 (i : Int), .int .i64 (j : Int)] w fun e w' => e = .returned (.bool (decide (atI hs i < atI hs j))) ∧ Below w.heap.size w w' := by
  obtain ⟨g, c, rfl, hg, hc, hx, hf⟩ := h.some_form (by omega)
  have z1 := hx i hi
  have z2 := hx j hj
  obtain ⟨a, ha⟩ : ∃ a, a = atI hs i := ⟨_, rfl⟩
  obtain ⟨b, hb⟩ : ∃ b, b = atI hs j := ⟨_, rfl⟩
  obtain ⟨r, hr⟩ : ∃ r, r = decide (a < b) := ⟨_, rfl⟩
  have HR : Hid (decide (atI hs i < atI hs j) = r) := by rw [← ha, ← hb]; exact hr.symm
  rw [HR.out]
  rw [← ha] at z1
  rw [← hb] at z2
  have t1 : decide (a < b) = r := hr.symm
  clear hr ha hb hx hf h hg hc HR
  go_enter Try.func52, Try.ntmps52
  go_wp2
  go_quiet (fail)
  go_wp2
  go_ret
  exact ⟨rfl, below_drewN (Below.refl _ _) _⟩
theorem kept_drew (w : World) (S : Nat → Prop) : Kept w w.drew S S := ⟨rfl, rfl, rfl, Nat.le_refl _, fun _ h => Or.inl h, fun _ _ _ => rfl⟩
set_option maxHeartbeats 1000000 in
theorem sswap_any {g c : Nat} (h : HpAt w base X S A F l hs mb (.slice (some ⟨g, 0, none⟩) hs.length c)) {i j : Nat} (hi : i < hs.length) (hj : j < hs.length) : Calls Try.prog 53 #[.slice (some ⟨g, 0, none⟩) hs.length c, .int .i64 (i : Int), .int .i64 (j : Int)] w fun e w' => e = .returned (.tuple #[]) ∧ HpAt w' base X S A F l (swI hs i j) mb (.slice (some ⟨g, 0, none⟩) hs.length c) ∧ Kept w w' S S := by
  obtain ⟨g', c', e1, hg, hc, hx, hf⟩ := h.some_form (by omega)
  simp only [Value.slice.injEq, Option.some.injEq, Addr.mk.injEq, and_true, true_and] at e1
  obtain ⟨rfl, rfl⟩ := e1
  have z1 := hx i hi
  have z2 := hx j hj
  have f1 := hf i
  have f2 := hf j
  have HF := h.swap i j
  obtain ⟨a, ha⟩ : ∃ a, a = atI hs i := ⟨_, rfl⟩
  obtain ⟨b, hb⟩ : ∃ b, b = atI hs j := ⟨_, rfl⟩
  rw [← ha] at z1
  rw [← hb] at z2
  rw [← ha, ← hb] at HF
  have HF2 : Hid _ := HF
  obtain ⟨u, z3⟩ := RowKit.cell?_setCell_some (p := ⟨g, i, none⟩) (x := .int .i64 b) z2
  clear hx hf h hg hc ha hb HF
  go_enter Try.func53, Try.ntmps53
  go_wp2
  go_region
  all_goals go_wp2
  all_goals go_end0
  all_goals exact ⟨rfl, HF2.out.1.drew, HF2.out.2.trans (kept_drew _ _)⟩
set_option maxHeartbeats 1000000 in
theorem spop_any {g c : Nat} (h : HpAt w base X S A F l hs mb (.slice (some ⟨g, 0, none⟩) hs.length c)) (h0 : 0 < hs.length) (hl : hs.length ≤ 1099511627776) : Calls Try.prog 54 #[whW X] w fun e w' => (∃ T x, e = .returned (.iface T x)) ∧ HpAt w' base X S A F l (hs.take (hs.length - 1)) mb (.slice (some ⟨g, 0, none⟩) (hs.length - 1) c) ∧ Kept w w' S S := by
  obtain ⟨g', c', e1, hg, hc, hx, hf⟩ := h.some_form h0
  simp only [Value.slice.injEq, Option.some.injEq, Addr.mk.injEq, and_true, true_and] at e1
  obtain ⟨rfl, rfl⟩ := e1
  obtain ⟨n, hn⟩ : ∃ n, n = hs.length - 1 := ⟨_, rfl⟩
  have z1 := hx n (by omega)
  have c3 := h.cell 3 _ rfl
  have f3 := h.fz 3
  have HF : Hid _ := h.cut (n := hs.length - 1) (by omega)
  have HK : Hid _ := h.keptX 3 (.slice (some ⟨g, 0, none⟩) (hs.length - 1) c)
  rw [← hn] at HF HK ⊢
  obtain ⟨a, ha⟩ : ∃ a, a = atI hs n := ⟨_, rfl⟩
  rw [← ha] at z1
  have q1 : IntKind.i64.wrap ((hs.length : Int) - 1) = (n : Int) := by rw [IntKind.wrap_i64]; omega
  have hnc : n ≤ c := by omega
  have hnl : n < hs.length := by omega
  have HL : Hid _ := hn
  have hsl := sl_int g hs.length c n hnc
  clear hx hf h hg ha hn hc
  go_enter Try.func54, Try.ntmps54
  go_wp2
  go_ret
  exact ⟨⟨_, _, rfl⟩, HF.out, HK.out⟩
structure PushPost (base X : Nat) (S : Nat → Prop) (A F : Int) (l : List (Int × En)) (hs : List Int) (mb : Nat) (w w' : World) : Prop where
  ex : ∃ S' v', HpAt w' base X S' A F l hs mb v' ∧ Kept w w' S S'
theorem push_fin (h : HpAt w base X S A F l hs mb v) (x : Int) {w1 w4 : World} {gg cap H : Nat} (b1 : Below w.heap.size w w1) (hgrow : w1.grownBy w4 v.ownBlock) (hH : w.heap.size ≤ H) (hat : v.ownBlock = some gg ∨ gg = H)
    (hown : w4.ownsRow base 3 1 (.slice (some ⟨gg, 0, none⟩) (hs.length + 1) cap) (hs.length + 1) (intL hs ++ [.int .i64 x])) :
    PushPost base X S A F l (hs ++ [x]) mb w (w4.setCell ⟨X, 3, none⟩ (.slice (some ⟨gg, 0, none⟩) (hs.length + 1) cap)) := by
  have k4 : ∀ b, b < w.heap.size → v.ownBlock ≠ some b → w4.heap[b]? = w.heap[b]? := fun b hb hn => (hgrow.block b (Nat.lt_of_lt_of_le hb b1.size) (fun e => hn e.symm)).trans (b1.block b hb)
  have k5 : ∀ b, b ≠ X → (w4.setCell ⟨X, 3, none⟩ (.slice (some ⟨gg, 0, none⟩) (hs.length + 1) cap)).heap[b]? = w4.heap[b]? := fun b hb => heap_setCell_other _ _ _ _ hb
  have xl := lt_of_block h.blk
  have hgX : gg ≠ X := fun e => by
    rcases hat with e1 | e1
    · exact h.neVX (by rw [e1, e])
    · omega
  have hX4 := (k4 X xl h.neVX).trans h.blk
  refine ⟨_, _, h.setV (w' := w4.setCell ⟨X, 3, none⟩ (.slice (some ⟨gg, 0, none⟩) (hs.length + 1) cap)) (v' := .slice (some ⟨gg, 0, none⟩) (hs.length + 1) cap) (hs' := hs ++ [x]) ?_ ?_, ?_⟩
  · rw [heap_setCell_same w4 X 3 _ _ _ hX4]
    rfl
  · show World.ownsRow _ _ _ _ _ _ _
    have e : intL (hs ++ [x]) = intL hs ++ [.int .i64 x] := by unfold intL; rw [List.map_append]; rfl
    rw [e, List.length_append]
    refine own_keep hown fun b e => k5 b (fun e2 => hgX ?_)
    simp only [Value.ownBlock, Option.some.injEq] at e
    rw [← e2, e]
  · refine ⟨hgrow.os.trans b1.os, hgrow.tape.trans b1.tape, hgrow.output.trans b1.output, by have := hgrow.size; have := b1.size; simp; omega, fun b hb => ?_, fun b hb hn => ?_⟩
    · rcases hb with rfl | e
      · exact Or.inl h.inX
      · simp only [Value.ownBlock, Option.some.injEq] at e
        subst e
        rcases hat with e1 | e1
        · exact Or.inl (h.inV e1)
        · exact Or.inr (by omega)
    · exact (k5 b (fun e => hn (by rw [e]; exact h.inX))).trans (k4 b hb (fun e => hn (h.inV e)))
set_option maxHeartbeats 2000000 in
theorem spush_any (h : HpAt w base X S A F l hs mb v) (hb : base ≤ w.heap.size) (hl : hs.length ≤ 1099511627776) (x : Int) : Calls Try.prog 55 #[whW X, .iface 3 (.int .i64 x)] w fun e w' => e = .returned (.tuple #[]) ∧ PushPost base X S A F l (hs ++ [x]) mb w w' := by
  obtain ⟨a, c, rfl⟩ := h.form
  have c3 := h.cell 3 _ rfl
  have f3 := h.fz 3
  have xl := lt_of_block h.blk
  have hXV := h.neVX
  have ho := h.own
  obtain ⟨i0, hi, hz0, hz1, hz2⟩ := info_parts infoI
  have ra : ∀ o, (w.alloc o).cell? ⟨X, 3, none⟩ = some (.slice a hs.length c) := fun o => by rw [World.cell?_of_block (heap_alloc_old w o xl)]; exact c3
  have rf : ∀ o, (w.alloc o).frozen? ⟨X, 3, none⟩ = false := fun o => by rw [World.frozen?_of_block (heap_alloc_old w o xl)]; exact f3
  have ta : ∀ w', (Instr.typeAssert (.iface 3 (.int .i64 x)) 20 3 false).run Try.prog w' = .ok (.int .i64 x) w' := fun _ => by kernel_rfl
  have HH : Hid _ := h
  clear h
  go_enter Try.func55, Try.ntmps55
  go_wp2
  go_region_law
    ((refine step_append_lies _ (by rfl) _ _ _ (by rfl) base 3 i0 _ 1 8 Try.underlying51 hi hz0 hz1 hz2 rfl (by omega) (.slice a hs.length c) hs.length (intL hs) (by rfl) ((ho.alloc _).drew)
        ⟨w.heap.size, 0, none⟩ 1 1 [.int .i64 x] (by rfl) (by rfl) (World.news_of_block (cs := #[.int .i64 x]) (t := 3) (fr := (0, 0)) (heap_alloc_new w _)) (by simp [Value.oneCell'])
        (by omega) (by unfold maxLen; omega) (by omega) (by simp; omega) (w.heap.size + 1) (by simp) ?_; intro gg cap w4 hown4 hgrow hat hlt; have rz4 := (hgrow.frozen_far ⟨X, 3, none⟩ (by simp; omega) hXV.symm).trans (rf _); have rc4 := (hgrow.cell_far ⟨X, 3, none⟩ (by simp; omega) hXV.symm).trans (ra _)))
  all_goals go_wp2
  all_goals go_end0
  all_goals exact ⟨rfl, push_fin HH.out x (((Below.refl _ w).alloc (Nat.le_refl _) _).drew) hgrow (Nat.le_succ _) hat hown4⟩
end
end Go.Proofs.Ytnoappklbipdhaa
