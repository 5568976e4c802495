/-
  Package proposer: one more proposed, as the document's plain data. The conditions: those of PxTop; the command's text has at most 2^48 bytes.
-/
import Derived.Test.YtmlgoecdefeapaaPPxAsk
namespace Go.Proofs.Ytmlgoecdefeapaa
open Go.RowKit

/-- What a deed leaves: an answer, the proposer as it is then. -/
structure PPost (w : World) (base X : Nat) (S : Nat → Prop) (q : Pp) (u : Value) (e : Ending) (w' : World) : Prop where
  ex : ∃ S', e = .returned u ∧ PS w' base X S' q ∧ Kept w w' S S'
theorem Kept.grown {w w1 w2 : World} {S S' : Nat → Prop} {O : Nat} (k : Kept w w1 S S') (g : w1.grownBy w2 (some O)) (hO : w.heap.size ≤ O) : Kept w w2 S S' :=
  ⟨g.os.trans k.os, g.tape.trans k.tape, g.output.trans k.output, Nat.le_trans k.size g.size, k.old, fun b hb hn => (g.block b (Nat.lt_of_lt_of_le hb k.size) (fun e => by have := Option.some.inj e; omega)).trans (k.kept b hb hn)⟩
section
variable {w : World} {base X : Nat} {S : Nat → Prop} {q : Pp}
set_option maxHeartbeats 6400000 in
set_option maxRecDepth 100000 in
theorem pprop_any (h : PS w base X S q) (hl : Lim q) (c : Cm) (hc : c.name.size ≤ 281474976710656) : Calls Try.prog 15 #[.pointer (some ⟨X, 0, none⟩), .agg (cmA c)] w (PPost w base X S (propP q c).1 (.agg (enA (propP q c).2))) := by
  obtain ⟨W0, hW0⟩ : ∃ W, W = (w.alloc (.cells (cmA c) 32)).alloc (.cells zeA 38) := ⟨_, rfl⟩
  have b0 : Below w.heap.size w W0 := by rw [hW0]; exact ((Below.refl _ w).alloc (Nat.le_refl _) _).alloc (by simp) _
  have h2 := two_blocks w (.cells (cmA c) 32) (.cells zeA 38)
  have c0 : W0.heap[w.heap.size]? = some (.cells (cmA c) 32 (0, 0)) := by rw [hW0]; exact h2.1.trans (heap_alloc_new w _)
  have e0 : W0.heap[w.heap.size + 1]? = some (.cells zeA 38 (0, 0)) := by rw [hW0]; exact h2.2.trans (heap_alloc_new _ _)
  have z0 : W0.heap.size = w.heap.size + 2 := by rw [hW0]; simp
  have HW : Hid ((w.alloc (.cells (cmA c) 32)).alloc (.cells zeA 38) = W0) := hW0.symm
  have B0 : Hid _ := b0
  have E0 : Hid _ := e0
  have HR : Hid _ := pready_any (h.fresh b0)
  have HP0 : Hid _ := h
  obtain ⟨p, mp, mb, ma, v, h, hR, hM⟩ := h.ex
  by_cases hi : q.is = true
  · have hr := hR.ready hi
    obtain ⟨r1, r2, r3, r4⟩ := hr.few hl hi
    have l0 : -4611686018427387904 ≤ p.last ∧ p.last ≤ 4611686018427387900 := by
      have a2 := hr.vl
      have a3 := hr.last
      have a4 := hl.next hi
      have a5 := hl.lo
      have a6 := hl.hi
      omega
    obtain ⟨l1, l2⟩ := l0
    have hin : inI (p.last + 1) := ⟨by omega, by omega⟩
    have t1 : (p.last == 9223372036854775807) = false := by simp; omega
    have t2 : decide (p.last = 9223372036854775807) = false := by simp; omega
    have h0 := h.fresh b0
    have x8 := h0.cell 8 (.int .i64 p.last) rfl
    have f8 := h0.fz 8
    have p1 := h0.setN 8 (.int .i64 (p.last + 1)) q.is p.vf p.vl (p.last + 1) rfl
    have k1 := h0.keptX 8 (.int .i64 (p.last + 1))
    obtain ⟨W1, hW1⟩ : ∃ W, W = W0.setCell ⟨X, 8, none⟩ (.int .i64 (p.last + 1)) := ⟨_, rfl⟩
    rw [← hW1] at p1 k1
    have y8 := p1.cell 8 (.int .i64 (p.last + 1)) rfl
    have y9 := p1.cell 9 v rfl
    have HB : Hid (∀ g, S g → g < w.heap.size) := h.bd
    have zc : W1.heap[w.heap.size]? = some (.cells (cmA c) 32 (0, 0)) := (k1.kept _ (by omega) (fun hs => by have := h.bd _ hs; omega)).trans c0
    have zz : W1.heap[w.heap.size + 1]? = some (.cells zeA 38 (0, 0)) := (k1.kept _ (by omega) (fun hs => by have := h.bd _ hs; omega)).trans e0
    have hbase : base ≤ W1.heap.size := by
      have a1 := h.lo X h.inX
      have a2 := h.bd X h.inX
      have a3 := k1.size
      omega
    have HWI : Hid (Calls Try.prog 34 #[v, .int .i64 (p.last + 1)] W1.drew (RoPost W1.drew base v (withR p.rows (p.last + 1)))) := pwith_any (s := p.last + 1) p1.drew.rows hbase (by show p.rows.length ≤ _; omega) (by omega) (by omega)
    have ZC : Hid _ := zc
    have ZZ : Hid _ := zz
    have Z1 : Hid (w.heap.size + 2 ≤ W1.heap.size) := by show _ ≤ _; have := k1.size; omega
    have KW1 : Hid (Kept w W1 S S) := (Kept.of b0).trans k1
    have P1 : Hid _ := p1
    have hrel := rel_prop hi hR c hc
    have HNM : Hid (Names (propX p c).best) := hrel.names
    have HEQ : Hid ((⟨p.last + 1, q.b, cmdOf (lookM (propX p c).best (p.last + 1))⟩ : En) = nextE q c) := by
      show _ = _
      show (⟨p.last + 1, q.b, cmdOf (lookM (putM p.best (p.last + 1) ⟨p.last + 1, 0, c⟩) (p.last + 1))⟩ : En) = _
      unfold nextE
      rw [lookM_put, if_pos rfl, hr.last]
      rfl
    have e1 : propP q c = (⟨q.n, q.b, q.f, q.who, q.best, true, q.vals, q.next + 1, q.l ++ [slOf (nextE q c)]⟩, nextE q c) := by
      unfold propP
      rw [if_pos hi, hi]
    rw [e1] at hrel ⊢
    have HFI : Hid (∀ w9 S6 mp mb ma v5, PxAt w9 base X S6 q.n q.b q.f q.is (propX p c) mp mb ma v5 → Kept w w9 S S6 → PPost w base X S ⟨q.n, q.b, q.f, q.who, q.best, true, q.vals, q.next + 1, q.l ++ [slOf (nextE q c)]⟩ (.agg (enA (nextE q c))) (.returned (.agg (enA (nextE q c)))) w9) := fun w9 S6 mp mb ma v5 h9 k9 => by
      rw [hi] at h9
      exact ⟨S6, rfl, ⟨propX p c, mp, mb, ma, v5, h9, hrel, fun h2 => by cases h2⟩, k9⟩
    have HW1 : Hid (W0.setCell ⟨X, 8, none⟩ (.int .i64 (p.last + 1)) = W1) := hW1.symm
    rw [hi] at HR
    clear h hr hR hM h0 p1 k1 zc zz hbase r1 r2 r3 r4 hW0 hW1 h2 b0 c0 e0 z0 e1 hrel hl hi
    go_enter Try.func15, Try.ntmps15
    go_upto_region 1 with fail
    rw [HW.out]
    go_upto_region 4 with (go_at_call 19; refine Calls.mono HR.out ?_; rintro r w1 ⟨rfl, e1⟩; subst e1)
    rw [HW1.out]
    refine wp_region_held_drew (S := (fun y : World => y.cell? ⟨X, 8, none⟩ = some (.int .i64 (p.last + 1)))) (by kernel_rfl) ?_ (fun hHeld0 => ?_)
    · try dsimp only
      assumption
    refine tk0 (.pointer (some ⟨X, 0, none⟩)) (by kernel_rfl) (by kernel_rfl) (by kernel_rfl) (fun _ _ _ h => h) rfl (fun w hSw => by (try dsimp only at hSw); have s8 := hSw; go_simp) (by assumption) ?_
    try simp only [Act.put, List.setIfInBounds_toArray, List.set_cons_zero, List.set_cons_succ]
    refine tk1 (.pointer (some ⟨X, 0, none⟩)) (by kernel_rfl) (by kernel_rfl) (by kernel_rfl) (fun _ _ _ h => h) rfl (fun w hSw => by (try dsimp only at hSw); have s8 := hSw; go_simp) (by assumption) ?_
    try simp only [Act.put, List.setIfInBounds_toArray, List.set_cons_zero, List.set_cons_succ]
    refine tk2 (.pointer (some ⟨X, 0, none⟩)) (by kernel_rfl) (by kernel_rfl) (by kernel_rfl) (fun _ _ _ h => h) rfl (fun w hSw => by (try dsimp only at hSw); have s8 := hSw; go_simp) (by assumption) ?_
    try simp only [Act.put, List.setIfInBounds_toArray, List.set_cons_zero, List.set_cons_succ]
    refine tk3 (.pointer (some ⟨X, 9, none⟩)) (by kernel_rfl) (by kernel_rfl) (by kernel_rfl) (fun _ _ _ h => h) rfl (fun w hSw => by (try dsimp only at hSw); have s8 := hSw; go_simp) (by assumption) ?_
    try simp only [Act.put, List.setIfInBounds_toArray, List.set_cons_zero, List.set_cons_succ]
    refine tk5 (.pointer (some ⟨X, 0, none⟩)) (by kernel_rfl) (by kernel_rfl) (by kernel_rfl) (fun _ _ _ h => h) rfl (fun w hSw => by (try dsimp only at hSw); have s8 := hSw; go_simp) (by assumption) ?_
    try simp only [Act.put, List.setIfInBounds_toArray, List.set_cons_zero, List.set_cons_succ]
    refine tk6 (.pointer (some ⟨X, 0, none⟩)) (by kernel_rfl) (by kernel_rfl) (by kernel_rfl) (fun _ _ _ h => h) rfl (fun w hSw => by (try dsimp only at hSw); have s8 := hSw; go_simp) (by assumption) ?_
    try simp only [Act.put, List.setIfInBounds_toArray, List.set_cons_zero, List.set_cons_succ]
    refine tk7 (.pointer (some ⟨X, 8, none⟩)) (by kernel_rfl) (by kernel_rfl) (by kernel_rfl) (fun _ _ _ h => h) rfl (fun w hSw => by (try dsimp only at hSw); have s8 := hSw; go_simp) (by assumption) ?_
    try simp only [Act.put, List.setIfInBounds_toArray, List.set_cons_zero, List.set_cons_succ]
    refine tk8 (.int .i64 (p.last + 1)) (by kernel_rfl) (by kernel_rfl) (by kernel_rfl) (fun _ _ _ h => h) rfl (fun w hSw => by (try dsimp only at hSw); have s8 := hSw; go_simp) (by assumption) ?_
    try simp only [Act.put, List.setIfInBounds_toArray, List.set_cons_zero, List.set_cons_succ]
    refine cl4 (by kernel_rfl) rfl (fun K hK => ?_)
    go_simp
    refine hK.out _ _ ?_ (fun hHeld => ?_)
    · try dsimp only
      assumption
    clear hK K
    try simp only [Act.put, List.setIfInBounds_toArray, List.set_cons_zero, List.set_cons_succ]
    refine cl9 (by kernel_rfl) rfl (fun K hK => ?_)
    go_simp
    go_at_call 34
    refine Calls.mono HWI.out ?_
    rintro r w5 ⟨v5, rfl, o5, t5, n5, k5⟩
    obtain ⟨va5, vn5, vc5, ev5⟩ := own_form o5
    subst ev5
    have bx : w5.heap[X]? = some (.cells (pxA q.n q.b q.f q.is ⟨p.who, p.best, p.vf, p.vl, p.last + 1, p.rows, p.acc⟩ mp mb ma v) 63 (0, 0)) := (k5 X (P1.out.bd X P1.out.inX) P1.out.neVX).trans P1.out.blk
    have z8 : w5.cell? ⟨X, 8, none⟩ = some (.int .i64 (p.last + 1)) := by simp [World.cell?, bx]
    have z9 : w5.cell? ⟨X, 9, none⟩ = some v := by simp [World.cell?, bx]
    have f9 : w5.frozen? ⟨X, 9, none⟩ = false := by simp [World.frozen?, bx]
    have O5 : Hid _ := o5
    have T5 : Hid _ := t5
    have N5 : Hid _ := n5
    have K5 : Hid _ := k5
    have BX : Hid _ := bx
    clear o5 t5 n5 k5 bx
    refine hK.out _ _ ?_ (fun hHeld => ?_)
    · try dsimp only
      assumption
    clear hK K
    try simp only [Act.put, List.setIfInBounds_toArray, List.set_cons_zero, List.set_cons_succ]
    refine tk10 (.pointer (some ⟨X, 0, none⟩)) (by kernel_rfl) (by kernel_rfl) (by kernel_rfl) (fun _ _ _ h => h) rfl (fun w hSw => by (try dsimp only at hSw); have s8 := hSw; go_simp) (by assumption) ?_
    try simp only [Act.put, List.setIfInBounds_toArray, List.set_cons_zero, List.set_cons_succ]
    refine tk11 (.pointer (some ⟨X, 9, none⟩)) (by kernel_rfl) (by kernel_rfl) (by kernel_rfl) (fun _ _ _ h => h) rfl (fun w hSw => by (try dsimp only at hSw); have s8 := hSw; go_simp) (by assumption) ?_
    try simp only [Act.put, List.setIfInBounds_toArray, List.set_cons_zero, List.set_cons_succ]
    refine cl12 (by kernel_rfl) rfl (fun K hK => ?_)
    go_simp
    obtain ⟨W6, hW6⟩ : ∃ W6, W6 = w5.setCell ⟨X, 9, none⟩ (.slice va5 vn5 vc5) := ⟨_, rfl⟩
    rw [← hW6]
    have q8 : W6.cell? ⟨X, 8, none⟩ = some (.int .i64 (p.last + 1)) := by rw [hW6]; simp [World.cell?, heap_setCell_same w5 X 9 _ _ _ BX.out]
    have HW6 : Hid _ := hW6
    clear hW6
    refine hK.out _ _ ?_ (fun hHeld => ?_)
    · try dsimp only
      assumption
    clear hK K
    refine wpAnyH_done (by kernel_rfl) ?_ _
    clear z8 z9 f9 y8 y9 x8 f8 q8
    have bx6 : W6.heap[X]? = some (.cells (pxA q.n q.b q.f q.is ⟨p.who, p.best, p.vf, p.vl, p.last + 1, withR p.rows (p.last + 1), p.acc⟩ mp mb ma (.slice va5 vn5 vc5)) 63 (0, 0)) := by
      rw [HW6.out, heap_setCell_same w5 X 9 _ _ _ BX.out]
      rfl
    have s6 : ∀ g, g ≠ X → W6.heap[g]? = w5.heap[g]? := fun g hg => by rw [HW6.out]; exact heap_setCell_other _ _ _ _ hg
    have z6 : W6.heap.size = w5.heap.size := by rw [HW6.out]; simp
    have o6 : OwnRo W6 base (.slice va5 vn5 vc5) (withR p.rows (p.last + 1)) := own_keep O5.out fun g e => s6 g (fun e2 => by
      rcases N5.out g e with e3 | e3
      · exact P1.out.neVX (by rw [e3, e2])
      · have := P1.out.bd X P1.out.inX
        have e4 : W1.heap.size ≤ g := e3
        omega)
    have p6 := P1.out.setV bx6 o6 (fun g hg => (s6 g (P1.out.neX hg)).trans (K5.out g (by obtain ⟨es, cc, hb⟩ := P1.out.mapAt hg; exact lt_of_block hb) (P1.out.neV hg)))
    obtain ⟨S6, hS6⟩ : ∃ S6 : Nat → Prop, S6 = (fun g => g = X ∨ (Value.slice va5 vn5 vc5).ownBlock = some g ∨ g ∈ mapsP p mp mb ma) := ⟨_, rfl⟩
    have p6 : PxAt W6 base X S6 q.n q.b q.f q.is ⟨p.who, p.best, p.vf, p.vl, p.last + 1, withR p.rows (p.last + 1), p.acc⟩ mp mb ma (.slice va5 vn5 vc5) := by rw [hS6]; exact p6
    have k6 : Kept W1 W6 S S6 := by
      refine ⟨(by rw [HW6.out]; exact T5.out.1), (by rw [HW6.out]; exact T5.out.2.1), (by rw [HW6.out]; exact T5.out.2.2.1), (by rw [z6]; exact T5.out.2.2.2), fun g hg => ?_, fun g hg hn => ?_⟩
      · rw [hS6] at hg
        rcases hg with e | e | e
        · exact Or.inl (by rw [e]; exact P1.out.inX)
        · rcases N5.out g e with e3 | e3
          · exact Or.inl (P1.out.inV e3)
          · exact Or.inr e3
        · exact Or.inl ((P1.out.set g).2 (Or.inr (Or.inr e)))
      · exact (s6 g (fun e => hn (by rw [e]; exact P1.out.inX))).trans (K5.out g hg (fun e => hn (P1.out.inV e)))
    have kw6 := KW1.out.trans k6
    have zc6 : W6.heap[w.heap.size]? = some (.cells (cmA c) 32 (0, 0)) := (k6.kept _ (by have := Z1.out; omega) (fun hs => by have := HB.out _ hs; omega)).trans ZC.out
    have zz6 : W6.heap[w.heap.size + 1]? = some (.cells zeA 38 (0, 0)) := (k6.kept _ (by have := Z1.out; omega) (fun hs => by have := HB.out _ hs; omega)).trans ZZ.out
    have n6 : ∀ g, S6 g → g < w.heap.size ∨ w.heap.size + 2 ≤ g := fun g hg => by
      rcases k6.old g hg with e | e
      · exact Or.inl (HB.out g e)
      · have := Z1.out
        exact Or.inr (by omega)
    have a8 := p6.cell 8 (.int .i64 (p.last + 1)) rfl
    have a0 := boxC zc6 0 _ rfl
    have a1 := boxC zc6 1 _ rfl
    have a2 := boxC zc6 2 _ rfl
    have a3 := boxC zc6 3 _ rfl
    have a4 := boxC zc6 4 _ rfl
    have HPU : Hid (Calls Try.prog 35 #[.pointer (some ⟨X, 0, none⟩), .agg #[.int .i64 (p.last + 1), .int .i64 0, .int .i64 c.kind, .int .i64 c.session, .int .i64 c.seq, .string c.name, .int .i64 c.n]] W6.drew (PutPost W6.drew base X S6 q.n q.b q.f q.is (propX p c) mp mb ma (.slice va5 vn5 vc5))) := xput_any p6.drew ⟨p.last + 1, 0, c⟩ hin hc
    have KW6 : Hid _ := kw6
    have N6 : Hid _ := n6
    have ZC6 : Hid _ := zc6
    have ZZ6 : Hid _ := zz6
    have S6b : Hid _ := p6.bd
    have E6 : Hid (W1.heap.size ≤ W6.heap.size) := k6.size
    clear p6 k6 kw6 n6 zc6 zz6 s6 o6 bx6 hS6 O5 T5 N5 K5 BX HWI z6 HW6
    go_wp2
    go_region_held3 (fun y => y.cell? ⟨X, 8, none⟩ = some (.int .i64 (p.last + 1)) ∧ y.cell? ⟨w.heap.size, 0, none⟩ = some (.int .i64 c.kind) ∧ y.cell? ⟨w.heap.size, 1, none⟩ = some (.int .i64 c.session) ∧ y.cell? ⟨w.heap.size, 2, none⟩ = some (.int .i64 c.seq) ∧ y.cell? ⟨w.heap.size, 3, none⟩ = some (.string c.name) ∧ y.cell? ⟨w.heap.size, 4, none⟩ = some (.int .i64 c.n)) (go_keep) (first | (go_at_call 35; refine Calls.mono HPU.out ?_; rintro r w7 ⟨rfl, h7, k7⟩; have g8 := h7.cell 8 (.int .i64 (p.last + 1)) rfl; have zc7 := (k7.kept w.heap.size (by have := Z1.out; have := E6.out; show w.heap.size < W6.heap.size; omega) (fun hs => by rcases N6.out _ hs with e | e <;> omega)).trans ZC6.out; have g0 := boxC zc7 0 _ rfl; have g1 := boxC zc7 1 _ rfl; have g2 := boxC zc7 2 _ rfl; have g3 := boxC zc7 3 _ rfl; have g4 := boxC zc7 4 _ rfl; have H7 : Hid _ := h7; have K7 : Hid _ := k7; clear h7 k7 zc7))
    all_goals clear a8 a0 a1 a2 a3 a4 g0 g1 g2 g3 g4
    all_goals (have zz7 : Hid (w7.heap[w.heap.size + 1]? = some (.cells zeA 38 (0, 0))) := (K7.out.kept (w.heap.size + 1) (by have := Z1.out; have := E6.out; show w.heap.size + 1 < W6.heap.size; omega) (fun hs => by rcases N6.out _ hs with e | e <;> omega)).trans ZZ6.out)
    all_goals (have HEN : Hid (Calls Try.prog 36 #[.pointer (some ⟨X, 0, none⟩), .int .i64 (p.last + 1)] w7 fun r w' => r = .returned (.agg (enA ⟨p.last + 1, q.b, cmdOf (lookM (propX p c).best (p.last + 1))⟩)) ∧ Below w7.heap.size w7 w') := xentry_any H7.out HNM.out (p.last + 1) hin)
    all_goals rw [HEQ.out] at HEN
    all_goals go_wp2_with (first
      | (show wpList _ _ _ (⟨_, Op.store 38 _ _, _, _, _, _⟩ :: _) _ _; refine store_row_g rfl 38 _ _ rfl (w.heap.size + 1) (enA (nextE q c)) rfl rfl 38 _ Z8.out sizeEnP rfl (by simp [Value.oneCell']) ?_; intro w9 h9 g9)
      | (go_at_call 36; refine Calls.mono HEN.out ?_; rintro r w8 ⟨rfl, b8⟩; have Z8 : Hid _ := (b8.block _ (lt_of_block zz7.out)).trans zz7.out; have B8 : Hid _ := b8; clear b8))
    all_goals refine bodyPost_ret (results_cell_row Try.results15 _ _ (w.heap.size + 1) 38 _ (0, 0) _ rfl h9 Try.underlying38 rfl sizeEnP) rfl ?_
    have h8 := H7.out.fresh B8.out
    have h9 := h8.keep (fun g hg => g9.block g (h8.bd g hg) (fun e => by have e2 := Option.some.inj e; rcases N6.out g hg with e3 | e3 <;> omega))
    have k9 : Kept w w9 S S6 := ((KW6.out.trans (Kept.of (show Below W6.heap.size W6 W6.drew from undrew (Below.refl _ _)))).trans (K7.out.trans (Kept.of B8.out))).grown g9 (by omega)
    exact HFI.out w9 S6 mp mb ma (.slice va5 vn5 vc5) h9 k9
  · have hi' : q.is = false := by simpa using hi
    have e1 : propP q c = (q, En.zero) := by
      unfold propP
      rw [if_neg hi]
    rw [e1]
    rw [hi'] at HR
    clear h hR hM hW0 h2 b0 c0 e0 z0 e1
    go_enter Try.func15, Try.ntmps15
    go_upto_region 1 with fail
    rw [HW.out]
    go_wp2_with (first
      | (show wpList _ _ _ (⟨_, Op.store 38 _ _, _, _, _, _⟩ :: _) _ _; refine store_row_g rfl 38 _ _ rfl (w.heap.size + 1) (enA En.zero) rfl rfl 38 _ E0.out sizeEnP rfl (by simp [Value.oneCell']) ?_; intro w6 h6 g6)
      | (go_at_call 19; refine Calls.mono HR.out ?_; rintro r w1 ⟨rfl, e1⟩; subst e1))
    refine bodyPost_ret (results_cell_row Try.results15 _ _ (w.heap.size + 1) 38 _ (0, 0) _ rfl h6 Try.underlying38 rfl sizeEnP) rfl ?_
    have b6 := B0.out.grown g6 B0.out.size (fun k hk => by have := Option.some.inj hk; omega)
    exact ⟨S, rfl, HP0.out.fresh b6, Kept.of b6⟩
end
end Go.Proofs.Ytmlgoecdefeapaa
