/-
  The document's learner: its block, its row of entries; New, a known slot's place, what is known. The condition: at most 2^29 entries.
-/
import Derived.Test.YtnoappklbipdhaaLrpLeJump
namespace Go.Proofs.Ytnoappklbipdhaa
open Go.RowKit

/-- A row's own blocks, from an earlier one on. -/
theorem own_low {w : World} {b0 b1 : Nat} {u : Value} {l : List En} (h : OwnEn w b1 u l) (hb : b0 ≤ b1) : OwnEn w b0 u l := by
  refine ⟨h.1, ?_⟩
  rcases h.2 with h2 | ⟨g, cap, cur, e, hg, h3⟩
  · exact Or.inl h2
  · exact Or.inr ⟨g, cap, cur, e, Nat.le_trans hb hg, h3⟩
/-- The document's learner in memory: its block, its row; 'S': its own blocks. -/
structure RlV (w : World) (base X : Nat) (S : Nat → Prop) (p : Ln) (u : Value) : Prop where
  blk : w.heap[X]? = some (.cells #[.int .i64 p.ap, u] 43 (0, 0))
  own : OwnEn w base u p.l
  lo : base ≤ X
  set : ∀ b, S b ↔ b = X ∨ u.ownBlock = some b
structure RlAt (w : World) (base X : Nat) (S : Nat → Prop) (p : Ln) : Prop where
  ex : ∃ u, RlV w base X S p u
section
variable {w w' : World} {base X : Nat} {S : Nat → Prop} {p : Ln} {u : Value}
theorem RlV.lt (h : RlV w base X S p u) : X < w.heap.size := lt_of_block h.blk
theorem RlV.bd (h : RlV w base X S p u) : ∀ b, S b → base ≤ b ∧ b < w.heap.size := fun b hb => by
  rcases (h.set b).1 hb with rfl | e
  · exact ⟨h.lo, h.lt⟩
  · exact h.own.lt b e
theorem RlV.ne (h : RlV w base X S p u) : u.ownBlock ≠ some X := own_ne h.own h.blk (by decide)
theorem RlV.keep (h : RlV w base X S p u) (hk : ∀ b, S b → w'.heap[b]? = w.heap[b]?) : RlV w' base X S p u :=
  ⟨(hk X ((h.set X).2 (Or.inl rfl))).trans h.blk, own_keep h.own fun g e => hk g ((h.set g).2 (Or.inr e)), h.lo, h.set⟩
theorem RlV.fresh (h : RlV w base X S p u) (b : Below w.heap.size w w') : RlV w' base X S p u := h.keep fun g hg => b.block g (h.bd g hg).2
theorem RlV.c0 (h : RlV w base X S p u) : w.cell? ⟨X, 0, none⟩ = some (.int .i64 p.ap) := by simp [World.cell?, h.blk]
theorem RlV.c1 (h : RlV w base X S p u) : w.cell? ⟨X, 1, none⟩ = some u := by simp [World.cell?, h.blk]
theorem RlV.fz (h : RlV w base X S p u) (i : Nat) : w.frozen? ⟨X, i, none⟩ = false := by simp [World.frozen?, h.blk]
theorem RlV.form (h : RlV w base X S p u) : ∃ a c, u = .slice a p.l.length c := (OwnEn.row h.own).form
/-- The number set. -/
theorem RlV.set0 (h : RlV w base X S p u) (a : Int) : RlV (w.setCell ⟨X, 0, none⟩ (.int .i64 a)) base X S ⟨a, p.l⟩ u := by
  refine ⟨?_, own_keep h.own fun g e => heap_setCell_other _ _ _ _ (fun e2 => h.ne (by rw [e, e2])), h.lo, h.set⟩
  rw [heap_setCell_same w X 0 _ _ _ h.blk]
  rfl
theorem RlV.kept0 (h : RlV w base X S p u) (i : Nat) (x : Value) : Kept w (w.setCell ⟨X, i, none⟩ x) S S :=
  ⟨rfl, rfl, rfl, by simp, fun b hb => Or.inl hb, fun b _ hs => heap_setCell_other _ _ _ _ (fun e => hs ((h.set b).2 (Or.inl e)))⟩
/-- The row set: one that is new. -/
theorem RlV.set1 (h : RlV w base X S p u) {w1 : World} (b : Below w.heap.size w w1) {v : Value} {l : List En} (ho : OwnEn w1 w.heap.size v l) : RlV (w1.setCell ⟨X, 1, none⟩ v) base X (fun b => b = X ∨ v.ownBlock = some b) ⟨p.ap, l⟩ v ∧ Kept w (w1.setCell ⟨X, 1, none⟩ v) S (fun b => b = X ∨ v.ownBlock = some b) := by
  have hX := h.lt
  have h1 := (b.block X hX).trans h.blk
  have hv : ∀ g, v.ownBlock = some g → g ≠ X := fun g e e2 => by have := (ho.lt g e).1; omega
  have hb : base ≤ w.heap.size := by have := h.lo; omega
  refine ⟨⟨?_, own_low (own_keep ho fun g e => heap_setCell_other _ _ _ _ (hv g e)) hb, h.lo, fun _ => Iff.rfl⟩, ⟨b.os, b.tape, b.output, by have := b.size; simp; omega, fun g hg => ?_, fun g hg hn => ?_⟩⟩
  · rw [heap_setCell_same w1 X 1 _ _ _ h1]
    rfl
  · rcases hg with hg | hg
    · exact Or.inl ((h.set g).2 (Or.inl hg))
    · exact Or.inr (ho.lt g hg).1
  · rw [heap_setCell_other _ _ _ _ (fun e => hn ((h.set g).2 (Or.inl e)))]
    exact b.block g hg
end
theorem leF_take {l : List En} {s : Int} {k : Nat} (hk : k < l.length) (h : leF (l.take k) s = none) : leF (l.take (k + 1)) s = if l[k].slot = s then some l[k] else none := by
  unfold leF at h ⊢
  rw [List.take_add_one, List.getElem?_eq_getElem hk, List.find?_append, h]
  by_cases he : l[k].slot = s
  · rw [if_pos he]
    simp [he]
  · rw [if_neg he]
    simp [he]
theorem leF_front {l : List En} {s : Int} {k : Nat} {x : En} (h : leF (l.take k) s = some x) : leF l s = some x := by
  unfold leF at h ⊢
  have : l = l.take k ++ l.drop k := (List.take_append_drop k l).symm
  rw [this, List.find?_append, h]
  rfl
/-- A slot's place. -/
def FdAt (l : List En) (s k : Int) : Prop := (k = -1 ∧ leF l s = none) ∨ ∃ (j : Nat) (h : j < l.length), k = (j : Int) ∧ leF l s = some l[j]
structure FdPost (w : World) (l : List En) (s : Int) (e : Ending) (w' : World) : Prop where
  ex : (∃ k, e = .returned (.int .i64 k) ∧ FdAt l s k) ∧ w' = w
section
variable {w : World} {base X : Nat} {S : Nat → Prop} {p : Ln} {u : Value}
set_option maxHeartbeats 3200000 in
set_option maxRecDepth 100000 in
theorem rfind_any (h : RlV w base X S p u) (hl : p.l.length ≤ 1073741824) (s : Int) : Calls Try.prog 25 #[.pointer (some ⟨X, 0, none⟩), .int .i64 s] w (FdPost w p.l s) := by
  have c1 := h.c1
  have hr := OwnEn.row h.own
  obtain ⟨va, vc, rfl⟩ := hr.form
  have HR : Hid _ := hr
  clear h hr
  go_enter Try.func25, Try.ntmps25
  go_wp2
  go_loopw [5] (fun i wr => ∃ k : Nat, k ≤ p.l.length ∧ i = .int .i64 (k : Int) ∧ leF (p.l.take k) s = none ∧ wr = w) (fun i _ => p.l.length - (intOf i).toNat)
  case atStart => exact ⟨0, Nat.zero_le _, rfl, rfl, rfl⟩
  case round =>
    obtain ⟨k, hk, rfl, hn, rfl⟩ := hrel
    by_cases hkl : k < p.l.length
    · have q0 : decide ((k : Int) < (p.l.length : Int)) = true := decide_eq_true (by omega)
      obtain ⟨bk, off, cap', hvv, hcap, hbk, hc⟩ := HR.out.cells enC_len (by omega)
      injection hvv with e1 e2 e3
      subst e1 e3
      have hf := leF_take hkl hn
      obtain ⟨x, hx⟩ : ∃ x, x = p.l[k] := ⟨_, rfl⟩
      have z0 := hc k hkl 0 (.int .i64 x.slot) (by decide) (by rw [hx]; rfl)
      rw [Nat.add_zero] at z0
      rw [← hx] at hf
      have HX : Hid (k < p.l.length ∧ p.l[k]? = some x) := (show Hid _ from (⟨hkl, by rw [hx]; exact List.getElem?_eq_getElem hkl⟩ : _ ∧ _))
      clear hc hx hn
      by_cases hs : x.slot = s
      · rw [if_pos hs] at hf
        have HF : Hid (leF p.l s = some x) := leF_front hf
        have t1 : (x.slot == s) = true := by simpa using hs
        clear hf hs
        go_wp2
        go_ret
        refine ⟨⟨_, rfl, Or.inr ⟨k, HX.out.1, rfl, ?_⟩⟩, rfl⟩
        exact HF.out.trans (HX.out.2.symm.trans (List.getElem?_eq_getElem HX.out.1))
      · rw [if_neg hs] at hf
        have t1 : (x.slot == s) = false := by simpa using hs
        have HF : Hid _ := hf
        clear hf hs
        go_wp2
        go_roundw
        case rel => exact ⟨k + 1, hkl, by go_num, HF.out, trivial⟩
        case measure => simp [intOf]; omega
    · have q0 : decide ((k : Int) < (p.l.length : Int)) = false := decide_eq_false (by omega)
      have ht : p.l.take k = p.l := List.take_of_length_le (by omega)
      rw [ht] at hn
      have HF : Hid _ := hn
      clear ht hn
      go_wp2
      go_ret
      exact ⟨⟨_, rfl, Or.inl ⟨rfl, HF.out⟩⟩, rfl⟩
structure RnPost (w : World) (m : Int) (e : Ending) (w' : World) : Prop where
  ex : ∃ X S, e = .returned (.pointer (some ⟨X, 0, none⟩)) ∧ RlAt w' w.heap.size X S ⟨m, []⟩ ∧ Below w.heap.size w w'
set_option maxRecDepth 100000 in
set_option maxHeartbeats 2000000 in
theorem rnew_any (w : World) (b : Int) : Calls Try.prog 8 #[.int .i64 b] w (RnPost w (max b 0)) := by
  obtain ⟨m, hm⟩ : ∃ m, m = max b 0 := ⟨_, rfl⟩
  have HM : Hid (max 0 b = m) := (show max 0 b = m by omega)
  rw [← hm]
  clear hm
  go_enter Try.func8, Try.ntmps8
  go_wp2
  go_ret
  rw [HM.out]
  refine ⟨w.heap.size, fun g => g = w.heap.size ∨ (Value.slice none 0 0).ownBlock = some g, rfl, ⟨.slice none 0 0, heap_alloc_new w _, World.ownsRow_nil _ _ _ _, Nat.le_refl _, fun _ => Iff.rfl⟩, (Below.refl _ w).alloc (Nat.le_refl _) _⟩
set_option maxHeartbeats 3200000 in
set_option maxRecDepth 100000 in
theorem rknown_any (h : RlV w base X S p u) (hl : p.l.length ≤ 1073741824) (s : Int) : Calls Try.prog 18 #[.pointer (some ⟨X, 0, none⟩), .int .i64 s] w (KnPost w (knoL p s)) := by
  obtain ⟨W, hW⟩ : ∃ W, W = w.alloc (.cells (cmdA Cm.zero) 28) := ⟨_, rfl⟩
  have bW : Below w.heap.size w W := by rw [hW]; exact (Below.refl _ w).alloc (Nat.le_refl _) _
  have hB : W.heap[w.heap.size]? = some (.cells (cmdA Cm.zero) 28 (0, 0)) := by rw [hW]; exact heap_alloc_new w _
  have h' := h.fresh bW
  have c1 := h'.c1
  have hr := OwnEn.row h'.own
  obtain ⟨va, vc, rfl⟩ := hr.form
  have HR : Hid _ := hr
  have HB : Hid _ := hB
  have BW : Hid _ := bW
  have HF : Hid (Calls Try.prog 25 #[.pointer (some ⟨X, 0, none⟩), .int .i64 s] W (FdPost W p.l s)) := rfind_any h' hl s
  have HW : Hid (w.alloc (.cells #[.int .i64 0, .int .i64 0, .int .i64 0, .string ⟨#[]⟩, .int .i64 0] 28) = W) := hW.symm
  clear hW bW hB h h' hr
  go_enter Try.func18, Try.ntmps18
  go_upto_region 1 with fail
  rw [HW.out]
  go_upto_region 2 with (go_at_call 25; refine Calls.mono HF.out ?_; rintro r w2 ⟨⟨k, rfl, hk⟩, hw2⟩; rw [hw2]; clear hw2)
  rcases hk with ⟨rfl, hn⟩ | ⟨j, hj, rfl, hn⟩
  · have HN : Hid (knoL p s = (Cm.zero, false)) := (show knoL p s = (Cm.zero, false) by unfold knoL; rw [hn])
    rw [HN.out]
    clear hn
    go_wp2_with (show wpList _ _ _ (⟨_, Op.store 28 _ _, _, _, _, _⟩ :: _) _ _; refine store_row_g rfl 28 _ _ rfl w.heap.size (cmdA Cm.zero) rfl rfl 28 _ HB.out sizeCx rfl (by simp [Value.oneCell']) ?_; intro w6 h6 g6)
    refine bodyPost_ret (results_cmd Try.results18 _ _ w.heap.size _ rfl (load_cmd h6)) rfl ?_
    refine ⟨by rw [HN.out]; rfl, BW.out.grown g6 BW.out.size (fun k hk => by have := Option.some.inj hk; omega)⟩
  · obtain ⟨x, hx⟩ : ∃ x, x = p.l[j] := ⟨_, rfl⟩
    rw [← hx] at hn
    have HN : Hid (knoL p s = (x.cmd, true)) := (show knoL p s = (x.cmd, true) by unfold knoL; rw [hn])
    rw [HN.out]
    have t0 : decide ((j : Int) < 0) = false := decide_eq_false (by omega)
    obtain ⟨bk, off, cap', hvv, hcap, hbk, hc⟩ := HR.out.cells enC_len (by omega)
    injection hvv with e1 e2 e3
    subst e1 e3
    have z2 := hc j hj 2 (.int .i64 x.cmd.kind) (by decide) (by rw [hx]; rfl)
    have z3 := hc j hj 3 (.int .i64 x.cmd.session) (by decide) (by rw [hx]; rfl)
    have z4 := hc j hj 4 (.int .i64 x.cmd.seq) (by decide) (by rw [hx]; rfl)
    have z5 := hc j hj 5 (.string x.cmd.name) (by decide) (by rw [hx]; rfl)
    have z6 := hc j hj 6 (.int .i64 x.cmd.n) (by decide) (by rw [hx]; rfl)
    have q0 : ((j : Nat) : Int) < (p.l.length : Int) := by omega
    clear hc hx hn
    go_wp2_with (show wpList _ _ _ (⟨_, Op.store 28 _ _, _, _, _, _⟩ :: _) _ _; refine store_row_g rfl 28 _ _ rfl w.heap.size (cmdA x.cmd) rfl rfl 28 _ HB.out sizeCx rfl (by simp [Value.oneCell']) ?_; intro w6 h6 g6)
    refine bodyPost_ret (results_cmd Try.results18 _ _ w.heap.size _ rfl (load_cmd h6)) rfl ?_
    refine ⟨by rw [HN.out]; rfl, BW.out.grown g6 BW.out.size (fun k hk => by have := Option.some.inj hk; omega)⟩
end
end Go.Proofs.Ytnoappklbipdhaa
