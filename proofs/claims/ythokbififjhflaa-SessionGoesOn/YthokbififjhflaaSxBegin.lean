/-
  The document's sessions: Begin, End, as plain data. The condition: numbers are ints.
-/
import Derived.Test.YthokbififjhflaaSxAsk
import Derived.Test.YthokbififjhflaaSeRead
namespace Go.Proofs.Ythokbififjhflaa
open Go.RowKit

structure SxBeP (w : World) (base X : Nat) (S : Nat → Prop) (q : List SeX × SeR × Int) (e : Ending) (w' : World) : Prop where
  ex : e = .returned (.tuple #[.agg (seRA q.2.1), .int .i64 q.2.2]) ∧ SxAt w' base X S q.1 ∧ Kept w w' S S
/-- Behind a call that only wrote its own block. -/
theorem SxAt.out {w W w4 : World} {base X : Nat} {S : Nat → Prop} {l : List SeX} (h : SxAt w base X S l) (bW : Below w.heap.size w W) (g4 : W.grownBy w4 (some w.heap.size)) : SxAt w4 base X S l ∧ Kept w w4 S S :=
  ⟨h.fresh (below_out bW g4), Kept.of (below_out bW g4)⟩
set_option maxRecDepth 100000 in
set_option maxHeartbeats 8000000 in
theorem xbegin_any {w : World} {base X : Nat} {S : Nat → Prop} {l : List SeX} (h : SxAt w base X S l) {id q : Int} (hi : okI id) (hq : okI q) : Calls Try.prog 28 #[.pointer (some ⟨X, 0, none⟩), .int .i64 id, .int .i64 q] w (SxBeP w base X S (seBeg l id q)) := by
  obtain ⟨W, hW⟩ : ∃ W, W = w.alloc (.cells (seRA SeR.zero) 36) := ⟨_, rfl⟩
  have bW : Below w.heap.size w W := by rw [hW]; exact (Below.refl _ w).alloc (Nat.le_refl _) _
  have rW : W.heap[w.heap.size]? = some (.cells (seRA SeR.zero) 36 (0, 0)) := by rw [hW]; exact heap_alloc_new w _
  have HW : Hid (w.alloc (.cells #[.int .i64 0, .int .i64 0, .int .i64 0, .int .u64 0, .int .i64 0] 36) = W) := hW.symm
  have HR : Hid (Below w.heap.size w W ∧ W.heap[w.heap.size]? = some (.cells (seRA SeR.zero) 36 (0, 0))) := (show Hid _ from (⟨bW, rW⟩ : _ ∧ _))
  have HH : Hid (SxAt w base X S l) := h
  obtain ⟨raw, v, F, I, hM0, rfl⟩ := h.ex
  have hM := hM0.keep (w' := W) fun g hg => bW.block g (hM0.bd g hg).2
  have hSb : ∀ g, S g → g < w.heap.size := fun g hg => (hM0.bd g hg).2
  have hl := h.len
  rw [List.length_map] at hl
  clear hW bW rW
  cases hx : seAt raw id with
  | none =>
    have HA : Hid _ := at_none hM hl hi hx
    rw [seBeg_none q (by rw [seAt_map, hx]; rfl)]
    clear hM0 hM h hx
    go_enter Try.func28, Try.ntmps28
    go_upto_region 1 with fail
    rw [HW.out]
    go_wp2_with (first
      | (show wpList _ _ _ (⟨_, Op.store 36 _ _, _, _, _, _⟩ :: _) _ _; refine store_row_g rfl 36 _ _ rfl w.heap.size (seRA SeR.zero) rfl rfl 36 _ HR.out.2 sizeRep rfl (by simp [Value.oneCell']) ?_; intro w4 h4 g4)
      | (go_at_call 39; refine Calls.mono HA.out ?_; rintro r w1 ⟨rfl, hw1⟩; rw [hw1]; clear hw1))
    refine bodyPost_ret (results_rep Try.results28 _ _ w.heap.size _ rfl (load_rep h4)) rfl ?_
    have he := HH.out.out HR.out.1 g4
    exact ⟨rfl, he.1, he.2⟩
  | some x =>
    obtain ⟨k, rfl, hk, hxk, hkk⟩ := seAt_place hx
    obtain ⟨g, c, rfl, hSg, _, hcc, hcell, hfz⟩ := hM.at hxk
    have HA : Hid _ := at_some hM hl hcc hk
    have hsx : seAt (raw.map sxN) ((k : Int) + 1) = some (sxN x) := by rw [seAt_map, hx]; rfl
    have hox := h.ok.at hsx
    have x2 : W.cell? ⟨g, k * 10 + 2, none⟩ = some (.bool x.op) := hcell 2 _ rfl
    have x3 : W.cell? ⟨g, k * 10 + 3, none⟩ = some (.int .i64 x.seq) := hcell 3 _ rfl
    have x4 : W.cell? ⟨g, k * 10 + 4, none⟩ = some (.bool x.said) := hcell 4 _ rfl
    have hq0 : 0 ≤ x.seq := by have := hox.q0; rw [sxN_seq] at this; exact this
    have hgw : g < w.heap.size := hSb g hSg
    by_cases hs : x.said = true ∧ x.seq = q
    · have hs0 : 0 < x.seq := by have := (hox.yes (by rw [sxN_said]; exact hs.1)).1; rw [sxN_seq] at this; exact this
      rw [seBeg_said hsx (by rw [sxN_said, sxN_seq]; exact hs), sxN_r hs.1]
      have x5 : W.cell? ⟨g, k * 10 + 5, none⟩ = some (.int .i64 x.r.session) := hcell 5 _ rfl
      have x6 : W.cell? ⟨g, k * 10 + 5 + 1, none⟩ = some (.int .i64 x.r.seq) := hcell 6 _ rfl
      have x7 : W.cell? ⟨g, k * 10 + 5 + 2, none⟩ = some (.int .i64 x.r.err) := hcell 7 _ rfl
      have x8 : W.cell? ⟨g, k * 10 + 5 + 3, none⟩ = some (.int .u64 x.r.token) := hcell 8 _ rfl
      have x9 : W.cell? ⟨g, k * 10 + 5 + 4, none⟩ = some (.int .i64 x.r.n) := hcell 9 _ rfl
      have t1 : decide (0 < x.seq) = true := decide_eq_true hs0
      have t2 : (q == x.seq) = true := by simpa using hs.2.symm
      rw [hs.1] at x4
      clear hM0 hM h hx hcell hxk hsx hs hox
      go_enter Try.func28, Try.ntmps28
      go_upto_region 1 with fail
      rw [HW.out]
      go_wp2_with (first
        | (show wpList _ _ _ (⟨_, Op.store 36 _ _, _, _, _, _⟩ :: _) _ _; refine store_row_g rfl 36 _ _ rfl w.heap.size (seRA x.r) rfl rfl 36 _ HR.out.2 sizeRep rfl (by simp [Value.oneCell']) ?_; intro w4 h4 g4)
        | (go_at_call 39; refine Calls.mono HA.out ?_; rintro r w1 ⟨rfl, hw1⟩; rw [hw1]; clear hw1))
      refine bodyPost_ret (results_rep Try.results28 _ _ w.heap.size _ rfl (load_rep h4)) rfl ?_
      have he := HH.out.out HR.out.1 g4
      exact ⟨rfl, he.1, he.2⟩
    have hs' : ¬ ((sxN x).said = true ∧ (sxN x).seq = q) := by rw [sxN_said, sxN_seq]; exact hs
    have t : decide (0 < x.seq) = false ∨ (decide (0 < x.seq) = true ∧ (q == x.seq) = false) ∨ (decide (0 < x.seq) = true ∧ (q == x.seq) = true ∧ x.said = false) := by
      by_cases h1 : 0 < x.seq
      · by_cases h2 : q = x.seq
        · refine Or.inr (Or.inr ⟨decide_eq_true h1, by simpa using h2, ?_⟩)
          cases h3 : x.said with
          | false => rfl
          | true => exact absurd ⟨h3, h2.symm⟩ hs
        · exact Or.inr (Or.inl ⟨decide_eq_true h1, by simpa using h2⟩)
      · exact Or.inl (decide_eq_false h1)
    by_cases ho : x.op = false
    · rw [seBeg_shut hsx hs' (by rw [sxN_op]; exact ho)]
      rw [ho] at x2
      clear hM0 hM h hx hcell hxk hsx hs hs' hox ho
      rcases t with t1 | ⟨t1, t2⟩ | ⟨t1, t2, t3⟩
      all_goals (try rw [t3] at x4)
      all_goals
        go_enter Try.func28, Try.ntmps28
        go_upto_region 1 with fail
        rw [HW.out]
        go_wp2_with (first
          | (show wpList _ _ _ (⟨_, Op.store 36 _ _, _, _, _, _⟩ :: _) _ _; refine store_row_g rfl 36 _ _ rfl w.heap.size (seRA SeR.zero) rfl rfl 36 _ HR.out.2 sizeRep rfl (by simp [Value.oneCell']) ?_; intro w4 h4 g4)
          | (go_at_call 39; refine Calls.mono HA.out ?_; rintro r w1 ⟨rfl, hw1⟩; rw [hw1]; clear hw1))
        refine bodyPost_ret (results_rep Try.results28 _ _ w.heap.size _ rfl (load_rep h4)) rfl ?_
        have he := HH.out.out HR.out.1 g4
        exact ⟨rfl, he.1, he.2⟩
    have ho' : x.op = true := by simpa using ho
    rw [seBeg_open hsx hs' (by rw [sxN_op]; exact ho)]
    rw [ho'] at x2
    have hcode : seCode (sxN x) q = seCode x q := by unfold seCode; rw [sxN_seq, sxN_said]
    have hok := h.ok.beg ((k : Int) + 1) q hq.2
    rw [seBeg_open hsx hs' (by rw [sxN_op]; exact ho)] at hok
    by_cases c1 : q = x.seq
    · have e1 : seCode x q = 2 := by unfold seCode; rw [if_pos c1]
      have e2 : seNext (sxN x) q = sxN x := by unfold seNext; rw [hcode, e1, if_neg (by decide)]
      rw [hcode, e1, e2, set_self (seAt_some hsx).2.2]
      have t2 : (q == x.seq) = true := by simpa using c1
      clear hM0 hM h hx hcell hxk hsx hs hs' hox ho ho' hcode hok e1 e2 c1
      rcases t with t1 | ⟨t1, t3⟩ | ⟨t1, _, t3⟩
      · skip
        go_enter Try.func28, Try.ntmps28
        go_upto_region 1 with fail
        rw [HW.out]
        go_wp2_with (first
          | (show wpList _ _ _ (⟨_, Op.store 36 _ _, _, _, _, _⟩ :: _) _ _; refine store_row_g rfl 36 _ _ rfl w.heap.size (seRA SeR.zero) rfl rfl 36 _ HR.out.2 sizeRep rfl (by simp [Value.oneCell']) ?_; intro w4 h4 g4)
          | (go_at_call 39; refine Calls.mono HA.out ?_; rintro r w1 ⟨rfl, hw1⟩; rw [hw1]; clear hw1))
        refine bodyPost_ret (results_rep Try.results28 _ _ w.heap.size _ rfl (load_rep h4)) rfl ?_
        have he := HH.out.out HR.out.1 g4
        exact ⟨rfl, he.1, he.2⟩
      · rw [t2] at t3
        cases t3
      · rw [t3] at x4
        go_enter Try.func28, Try.ntmps28
        go_upto_region 1 with fail
        rw [HW.out]
        go_wp2_with (first
          | (show wpList _ _ _ (⟨_, Op.store 36 _ _, _, _, _, _⟩ :: _) _ _; refine store_row_g rfl 36 _ _ rfl w.heap.size (seRA SeR.zero) rfl rfl 36 _ HR.out.2 sizeRep rfl (by simp [Value.oneCell']) ?_; intro w4 h4 g4)
          | (go_at_call 39; refine Calls.mono HA.out ?_; rintro r w1 ⟨rfl, hw1⟩; rw [hw1]; clear hw1))
        refine bodyPost_ret (results_rep Try.results28 _ _ w.heap.size _ rfl (load_rep h4)) rfl ?_
        have he := HH.out.out HR.out.1 g4
        exact ⟨rfl, he.1, he.2⟩
    have t2 : (q == x.seq) = false := by simpa using c1
    by_cases c2 : q < x.seq
    · have e1 : seCode x q = 3 := by unfold seCode; rw [if_neg c1, if_pos c2]
      have e2 : seNext (sxN x) q = sxN x := by unfold seNext; rw [hcode, e1, if_neg (by decide)]
      rw [hcode, e1, e2, set_self (seAt_some hsx).2.2]
      have t4 : decide (q < x.seq) = true := decide_eq_true c2
      clear hM0 hM h hx hcell hxk hsx hs hs' hox ho ho' hcode hok e1 e2 c1 c2
      rcases t with t1 | ⟨t1, _⟩ | ⟨t1, t3, _⟩
      · skip
        go_enter Try.func28, Try.ntmps28
        go_upto_region 1 with fail
        rw [HW.out]
        go_wp2_with (first
          | (show wpList _ _ _ (⟨_, Op.store 36 _ _, _, _, _, _⟩ :: _) _ _; refine store_row_g rfl 36 _ _ rfl w.heap.size (seRA SeR.zero) rfl rfl 36 _ HR.out.2 sizeRep rfl (by simp [Value.oneCell']) ?_; intro w4 h4 g4)
          | (go_at_call 39; refine Calls.mono HA.out ?_; rintro r w1 ⟨rfl, hw1⟩; rw [hw1]; clear hw1))
        refine bodyPost_ret (results_rep Try.results28 _ _ w.heap.size _ rfl (load_rep h4)) rfl ?_
        have he := HH.out.out HR.out.1 g4
        exact ⟨rfl, he.1, he.2⟩
      · skip
        go_enter Try.func28, Try.ntmps28
        go_upto_region 1 with fail
        rw [HW.out]
        go_wp2_with (first
          | (show wpList _ _ _ (⟨_, Op.store 36 _ _, _, _, _, _⟩ :: _) _ _; refine store_row_g rfl 36 _ _ rfl w.heap.size (seRA SeR.zero) rfl rfl 36 _ HR.out.2 sizeRep rfl (by simp [Value.oneCell']) ?_; intro w4 h4 g4)
          | (go_at_call 39; refine Calls.mono HA.out ?_; rintro r w1 ⟨rfl, hw1⟩; rw [hw1]; clear hw1))
        refine bodyPost_ret (results_rep Try.results28 _ _ w.heap.size _ rfl (load_rep h4)) rfl ?_
        have he := HH.out.out HR.out.1 g4
        exact ⟨rfl, he.1, he.2⟩
      · rw [t2] at t3
        cases t3
    have t4 : decide (q < x.seq) = false := decide_eq_false c2
    by_cases c3 : 0 < x.seq ∧ x.said = false
    · have e1 : seCode x q = 5 := by unfold seCode; rw [if_neg c1, if_neg c2, if_pos c3]
      have e2 : seNext (sxN x) q = sxN x := by unfold seNext; rw [hcode, e1, if_neg (by decide)]
      rw [hcode, e1, e2, set_self (seAt_some hsx).2.2]
      have t1 : decide (0 < x.seq) = true := decide_eq_true c3.1
      rw [c3.2] at x4
      clear hM0 hM h hx hcell hxk hsx hs hs' hox ho ho' hcode hok e1 e2 c1 c2 c3 t
      go_enter Try.func28, Try.ntmps28
      go_upto_region 1 with fail
      rw [HW.out]
      go_wp2_with (first
        | (show wpList _ _ _ (⟨_, Op.store 36 _ _, _, _, _, _⟩ :: _) _ _; refine store_row_g rfl 36 _ _ rfl w.heap.size (seRA SeR.zero) rfl rfl 36 _ HR.out.2 sizeRep rfl (by simp [Value.oneCell']) ?_; intro w4 h4 g4)
        | (go_at_call 39; refine Calls.mono HA.out ?_; rintro r w1 ⟨rfl, hw1⟩; rw [hw1]; clear hw1))
      refine bodyPost_ret (results_rep Try.results28 _ _ w.heap.size _ rfl (load_rep h4)) rfl ?_
      have he := HH.out.out HR.out.1 g4
      exact ⟨rfl, he.1, he.2⟩
    have e1 : seCode x q = 0 := by unfold seCode; rw [if_neg c1, if_neg c2, if_neg c3]
    have e2 : seNext (sxN x) q = { sxN x with seq := q, said := false, r := SeR.zero } := by unfold seNext; rw [hcode, e1, if_pos rfl]
    rw [hcode, e1, e2, hkk]
    rw [e2, hkk] at hok
    have hM2 := hM.setc (j := 3) (y := { x with seq := q }) (u := .int .i64 q) hxk (by decide) rfl rfl rfl
    have hxk2 : (raw.set k { x with seq := q })[k]? = some { x with seq := q } := by rw [set_at hxk, if_pos rfl]
    have hM3 := hM2.setc (j := 4) (y := { x with seq := q, said := false }) (u := .bool false) hxk2 (by decide) rfl rfl rfl
    have K3 := (hM.kept (k * 10 + 3) (.int .i64 q)).trans (hM2.kept (k * 10 + 4) (.bool false))
    rw [List.set_set] at hM3
    have hmap : (raw.map sxN).set k { sxN x with seq := q, said := false, r := SeR.zero } = (raw.set k { x with seq := q, said := false }).map sxN := by
      rw [map_set]
      congr 1
      show _ = sxN { x with seq := q, said := false }
      unfold sxN
      split <;> rfl
    have HE : Hid (SxAt ((W.setCell ⟨g, k * 10 + 3, none⟩ (.int .i64 q)).setCell ⟨g, k * 10 + 4, none⟩ (.bool false)) base X S ((raw.map sxN).set k { sxN x with seq := q, said := false, r := SeR.zero }) ∧ Kept W ((W.setCell ⟨g, k * 10 + 3, none⟩ (.int .i64 q)).setCell ⟨g, k * 10 + 4, none⟩ (.bool false)) S S) :=
      (show Hid _ from (⟨⟨⟨_, _, _, _, hM3, hmap⟩, hok, by rw [List.length_set, List.length_map]; exact hl⟩, K3⟩ : _ ∧ _))
    have HB : Hid (g < w.heap.size ∧ ∀ b, S b → b < w.heap.size) := (show Hid _ from (⟨hgw, hSb⟩ : _ ∧ _))
    have t5 : decide (0 < x.seq) = false ∨ (decide (0 < x.seq) = true ∧ x.said = true) := by
      by_cases h1 : 0 < x.seq
      · refine Or.inr ⟨decide_eq_true h1, ?_⟩
        cases h3 : x.said with
        | true => rfl
        | false => exact absurd ⟨h1, h3⟩ c3
      · exact Or.inl (decide_eq_false h1)
    clear hM0 hM h hx hcell hxk hsx hs hs' hox ho ho' hcode hok e1 e2 c1 c2 c3 t hM2 hM3 hxk2 K3 hmap hgw hSb
    rcases t5 with t1 | ⟨t1, t3⟩
    all_goals (try rw [t3] at x4)
    all_goals
      go_enter Try.func28, Try.ntmps28
      go_upto_region 1 with fail
      rw [HW.out]
      go_upto_region 13 with (go_at_call 39; refine Calls.mono HA.out ?_; rintro r w1 ⟨rfl, hw1⟩; rw [hw1]; clear hw1)
      obtain ⟨W3, hW3⟩ : ∃ W3, W3 = (W.setCell ⟨g, k * 10 + 3, none⟩ (.int .i64 q)).setCell ⟨g, k * 10 + 4, none⟩ (.bool false) := ⟨_, rfl⟩
      have H3 := HE.out
      rw [← hW3] at H3 ⊢
      have RW3 : Hid (W3.heap[w.heap.size]? = some (.cells (seRA SeR.zero) 36 (0, 0))) := by
        have g3 : W.grownBy W3 (some g) := by rw [hW3]; exact grown_cell (grown_cell (grown_rf _ _))
        exact (g3.block _ (lt_of_block HR.out.2) (fun e => by have := Option.some.inj e; have := HB.out.1; omega)).trans HR.out.2
      have E3 : Hid _ := H3
      clear H3 hW3 x2 x3 x4
      go_wp2_with (show wpList _ _ _ (⟨_, Op.store 36 _ _, _, _, _, _⟩ :: _) _ _; refine store_row_g rfl 36 _ _ rfl w.heap.size (seRA SeR.zero) rfl rfl 36 _ RW3.out sizeRep rfl (by simp [Value.oneCell']) ?_; intro w4 h4 g4)
      refine bodyPost_ret (results_rep Try.results28 _ _ w.heap.size _ rfl (load_rep h4)) rfl ?_
      refine ⟨rfl, E3.out.1.keep fun b hb => g4.block b (E3.out.1.bd b hb).2 (fun e => by have := Option.some.inj e; have := HB.out.2 b hb; omega), ?_⟩
      exact kept_past ((Kept.of HR.out.1).trans E3.out.2) g4 (Nat.le_refl _)
end Go.Proofs.Ythokbififjhflaa
