/-
  Package session: End, as plain data. The condition: a reply that a command may have.
-/
import Derived.Test.YthokbififjhflaaSeAsk
namespace Go.Proofs.Ythokbififjhflaa
open Go.RowKit

theorem seEnd_none {l : List SeX} {r : SeR} (h : seAt l r.session = none) : seEnd l r = (l, false) := by
  unfold seEnd
  rw [h]
theorem seEnd_no {l : List SeX} {r : SeR} {x : SeX} (h : seAt l r.session = some x) (hc : x.seq = 0 ∨ x.seq ≠ r.seq ∨ x.said = true) : seEnd l r = (l, false) := by
  unfold seEnd
  rw [h]
  simp only
  rw [if_pos hc]
theorem seEnd_yes {l : List SeX} {r : SeR} {x : SeX} (h : seAt l r.session = some x) (hc : ¬ (x.seq = 0 ∨ x.seq ≠ r.seq ∨ x.said = true)) : seEnd l r = (l.set (r.session.toNat - 1) { x with said := true, r := r }, true) := by
  unfold seEnd
  rw [h]
  simp only
  rw [if_neg hc]
theorem grown_drewN (w : World) (k : Nat) (row : Option Nat) : w.grownBy (w.drewN k) row := by
  have h := below_drewN (Below.refl w.heap.size w) k
  exact ⟨h.os, h.tape, h.output, h.size, fun g hg _ => h.block g hg⟩
theorem fin_cells {W : World} {b : Nat} {x : SeX} (h : SeB W b x) (r : SeR) (k : Nat) :
    SeB (((((((W.drewN k).setCell ⟨b, 3, none⟩ (.bool true)).setCell ⟨b, 4, none⟩ (.int .i64 r.session)).setCell ⟨b, 5, none⟩ (.int .i64 r.seq)).setCell ⟨b, 6, none⟩ (.int .i64 r.err)).setCell ⟨b, 7, none⟩ (.int .u64 r.token)).setCell ⟨b, 8, none⟩ (.int .i64 r.n)) b { x with said := true, r := r } ∧
    W.grownBy (((((((W.drewN k).setCell ⟨b, 3, none⟩ (.bool true)).setCell ⟨b, 4, none⟩ (.int .i64 r.session)).setCell ⟨b, 5, none⟩ (.int .i64 r.seq)).setCell ⟨b, 6, none⟩ (.int .i64 r.err)).setCell ⟨b, 7, none⟩ (.int .u64 r.token)).setCell ⟨b, 8, none⟩ (.int .i64 r.n)) (some b) := by
  have b0 : SeB (W.drewN k) b x := ((below_drewN (Below.refl W.heap.size W) k).block _ (lt_of_block h)).trans h
  have h1 := heap_setCell_same _ b 3 _ _ (.bool true) b0
  have h2 := heap_setCell_same _ b 4 _ _ (.int .i64 r.session) h1
  have h3 := heap_setCell_same _ b 5 _ _ (.int .i64 r.seq) h2
  have h4 := heap_setCell_same _ b 6 _ _ (.int .i64 r.err) h3
  have h5 := heap_setCell_same _ b 7 _ _ (.int .u64 r.token) h4
  have h6 := heap_setCell_same _ b 8 _ _ (.int .i64 r.n) h5
  exact ⟨h6, grown_cell (grown_cell (grown_cell (grown_cell (grown_cell (grown_cell (grown_drewN _ _ _))))))⟩
set_option maxRecDepth 100000 in
set_option maxHeartbeats 4000000 in
theorem send_any {w : World} {base X : Nat} {S : Nat → Prop} {l : List SeX} (h : SeAt w base X S l) {r : SeR} (hi : okI r.session) (hr : r.Ok) : Calls Try.prog 24 #[.pointer (some ⟨X, 0, none⟩), .agg (seRA r)] w (SeClP w base X S (seEnd l r)) := by
  obtain ⟨W, hW⟩ : ∃ W, W = w.alloc (.cells (seRA r) 36) := ⟨_, rfl⟩
  have bW : Below w.heap.size w W := by rw [hW]; exact (Below.refl _ w).alloc (Nat.le_refl _) _
  have rW : W.heap[w.heap.size]? = some (.cells (seRA r) 36 (0, 0)) := by rw [hW]; exact heap_alloc_new w _
  have HW : Hid (w.alloc (.cells (seRA r) 36) = W) := hW.symm
  have hA := h.fresh bW
  obtain ⟨ma, mo, la, lo, ps, L, hM⟩ := hA.ex
  have c0 : W.cell? ⟨X, 0, none⟩ = some (.map (some ma)) := hM.cell 0 _ rfl
  have r0 : W.cell? ⟨w.heap.size, 0, none⟩ = some (.int .i64 r.session) := by simp [World.cell?, rW]
  have r1 : W.cell? ⟨w.heap.size, 1, none⟩ = some (.int .i64 r.seq) := by simp [World.cell?, rW]
  have hlk : ∀ n, (Instr.lookup 62 (.map (some ma)) (.int .i64 r.session) true).run Try.prog (W.drewN n) = .ok (.tuple #[seV (sePt ps r.session), .bool (sePt ps r.session).isSome]) (W.drewN n) := fun n => (hM.fresh (below_drewN (Below.refl _ W) n)).lookA hi
  have HR : Hid (Below w.heap.size w W) := bW
  have HA : Hid (SeAt w base X S l) := h
  cases hx : seAt l r.session with
  | none =>
    have e1 : sePt ps r.session = none := sePt_none hM.nps hx
    rw [seEnd_none hx]
    rw [e1] at hlk
    simp only [seV, Option.isSome_none] at hlk
    clear hM h hA e1 hx rW hW bW
    go_enter Try.func24, Try.ntmps24
    go_upto_region 1 with fail
    rw [HW.out]
    go_wp2
    go_quiet (fail)
    go_upto_region 4 with fail
    obtain ⟨n1, hn1⟩ : ∃ n, n = nq := ⟨_, rfl⟩
    rw [← hn1]
    go_quiet (fail)
    go_wp2
    go_ret
    have b4 : Below w.heap.size w ((W.drewN n1).drewN nq) := below_drewN (below_drewN HR.out _) _
    exact ⟨rfl, HA.out.fresh b4, Kept.of b4⟩
  | some x =>
    obtain ⟨b, e1, e4, e5, hB⟩ := hM.sess hx
    rw [e1] at hlk
    have x2 : W.cell? ⟨b, 2, none⟩ = some (.int .i64 x.seq) := hB.cell 2 _ rfl
    have x3 : W.cell? ⟨b, 3, none⟩ = some (.bool x.said) := hB.cell 3 _ rfl
    simp only [seV, Option.isSome_some] at hlk
    by_cases hc : x.seq = 0 ∨ x.seq ≠ r.seq ∨ x.said = true
    · rw [seEnd_no hx hc]
      have t : (x.seq == 0) = true ∨ (x.seq == 0) = false ∧ (x.seq != r.seq) = true ∨ (x.seq == 0) = false ∧ (x.seq != r.seq) = false ∧ x.said = true := by
        by_cases h1 : x.seq = 0
        · exact Or.inl (by simpa using h1)
        · by_cases h2 : x.seq = r.seq
          · refine Or.inr (Or.inr ⟨by simpa using h1, by simpa using h2, ?_⟩)
            rcases hc with hc | hc | hc
            · exact absurd hc h1
            · exact absurd h2 hc
            · exact hc
          · exact Or.inr (Or.inl ⟨by simpa using h1, by simpa using h2⟩)
      clear hM h hA e1 hx rW hW bW e4 e5 hB hc
      rcases t with t1 | ⟨t1, t2⟩ | ⟨t1, t2, t3⟩
      · go_enter Try.func24, Try.ntmps24
        go_upto_region 1 with fail
        rw [HW.out]
        go_wp2
        go_quiet (fail)
        go_upto_region 4 with fail
        obtain ⟨n1, hn1⟩ : ∃ n, n = nq := ⟨_, rfl⟩
        rw [← hn1]
        go_quiet (fail)
        go_wp2
        go_ret
        have b4 : Below w.heap.size w ((W.drewN n1).drewN nq) := below_drewN (below_drewN HR.out _) _
        exact ⟨rfl, HA.out.fresh b4, Kept.of b4⟩
      · go_enter Try.func24, Try.ntmps24
        go_upto_region 1 with fail
        rw [HW.out]
        go_wp2
        go_quiet (fail)
        go_upto_region 4 with fail
        obtain ⟨n1, hn1⟩ : ∃ n, n = nq := ⟨_, rfl⟩
        rw [← hn1]
        go_quiet (fail)
        go_wp2
        go_ret
        have b4 : Below w.heap.size w ((W.drewN n1).drewN nq) := below_drewN (below_drewN HR.out _) _
        exact ⟨rfl, HA.out.fresh b4, Kept.of b4⟩
      · rw [t3] at x3
        go_enter Try.func24, Try.ntmps24
        go_upto_region 1 with fail
        rw [HW.out]
        go_wp2
        go_quiet (fail)
        go_upto_region 4 with fail
        obtain ⟨n1, hn1⟩ : ∃ n, n = nq := ⟨_, rfl⟩
        rw [← hn1]
        go_quiet (fail)
        go_wp2
        go_ret
        have b4 : Below w.heap.size w ((W.drewN n1).drewN nq) := below_drewN (below_drewN HR.out _) _
        exact ⟨rfl, HA.out.fresh b4, Kept.of b4⟩
    · have hok := h.ok.fin (r := r) hr
      have hln := h.len
      rw [seEnd_yes hx hc] at hok ⊢
      simp only [not_or, ne_eq, Decidable.not_not, Bool.not_eq_true] at hc
      have t1 : (x.seq == 0) = false := by simpa using hc.1
      have t2 : (x.seq != r.seq) = false := by simpa using hc.2.1
      have t3 := hc.2.2
      rw [t3] at x3
      have x4 : W.cell? ⟨b, 4, none⟩ = some (.int .i64 x.r.session) := hB.cell 4 _ rfl
      have x5 : W.cell? ⟨b, 5, none⟩ = some (.int .i64 x.r.seq) := hB.cell 5 _ rfl
      have x6 : W.cell? ⟨b, 6, none⟩ = some (.int .i64 x.r.err) := hB.cell 6 _ rfl
      have x7 : W.cell? ⟨b, 7, none⟩ = some (.int .u64 x.r.token) := hB.cell 7 _ rfl
      have x8 : W.cell? ⟨b, 8, none⟩ = some (.int .i64 x.r.n) := hB.cell 8 _ rfl
      have r2 : W.cell? ⟨w.heap.size, 2, none⟩ = some (.int .i64 r.err) := by simp [World.cell?, rW]
      have r3 : W.cell? ⟨w.heap.size, 3, none⟩ = some (.int .u64 r.token) := by simp [World.cell?, rW]
      have r4 : W.cell? ⟨w.heap.size, 4, none⟩ = some (.int .i64 r.n) := by simp [World.cell?, rW]
      have fz := hB.fz
      have hne : b ≠ w.heap.size := Nat.ne_of_lt (h.bd b (hM.inP e5)).2
      have hne' : w.heap.size ≠ b := hne.symm
      have HF : Hid (∀ w3 : World, SeB w3 b { x with said := true, r := r } → W.grownBy w3 (some b) → SeAt w3 base X S (l.set (r.session.toNat - 1) { x with said := true, r := r }) ∧ Kept w w3 S S) := by
        intro w3 h3 g3
        exact ⟨⟨⟨ma, mo, la, lo, ps, L, hM.setX (seAt_some hx).2.2 e4 rfl rfl h3 g3⟩, hok, by rw [List.length_set]; exact hln⟩, (Kept.of HR.out).trans (kept_grown g3 (hM.inP e5))⟩
      have HB : Hid (SeB W b x) := hB
      clear hM h hA e1 hx rW hW bW e4 e5 hB hc hok hln
      go_enter Try.func24, Try.ntmps24
      go_upto_region 1 with fail
      rw [HW.out]
      go_wp2
      go_quiet (fail)
      go_upto_region 4 with fail
      obtain ⟨n1, hn1⟩ : ∃ n, n = nq := ⟨_, rfl⟩
      rw [← hn1]
      go_quiet (fail)
      go_upto_region 6 with fail
      go_region
      all_goals go_wp2
      all_goals go_ret
      have hf := fun k => fin_cells HB.out r k
      exact ⟨rfl, HF.out _ (hf _).1 (hf _).2⟩
end Go.Proofs.Ythokbififjhflaa
