/-
  Package proposer: what is proposed at each of the slots that an iterator hands out. The conditions: texts have at most 2^48 bytes; at most 2^29 slots, each an int's.
-/
import Derived.Test.YtmlgoecdefeapaaPPxStart
namespace Go.Proofs.Ytmlgoecdefeapaa
open Go.RowKit Go.Shelf

attribute [local go_sem] Oper.semAt_some

theorem Iters.at {P : Program} {g : Nat} {lb : Array Value} {xs : List Int} {T : Nat → Prop} {w w' : World} (h : Iters P g lb xs T w) (hT : ∀ b, T b → w'.heap[b]? = w.heap[b]?) : Iters P g lb xs T w' := fun l J W S hJ hW hY h0 =>
  h l J W S hJ (fun b hb => ⟨(hW b hb).1, (hW b hb).2.1.trans (hT b hb), (hW b hb).2.2⟩) hY h0
/-- What is proposed at a slot. -/
def entP (b : Int) (l : List (Int × En)) (s : Int) : En := ⟨s, b, cmdOf (lookM l s)⟩
/-- While entries are collected: the cell that holds them, the cell that holds the proposer. -/
structure CoI (w : World) (X mb : Nat) (b : Int) (l : List (Int × En)) (pre : List Int) (W : World) (S : Nat → Prop) (v : Value) : Prop where
  box : W.heap[w.heap.size + 1]? = some (.cells #[v] 30 (0, 0))
  own : OwnEn W (w.heap.size + 2) v (pre.map (entP b l))
  ptr : W.heap[w.heap.size]? = some (.cells #[.pointer (some ⟨X, 0, none⟩)] 26 (0, 0))
  blk : W.heap[X]? = w.heap[X]?
  map : W.heap[mb]? = w.heap[mb]?
  size : w.heap.size + 2 ≤ W.heap.size
  set : ∀ g, S g ↔ g = w.heap.size + 1 ∨ g = w.heap.size ∨ g = X ∨ g = mb ∨ v.ownBlock = some g
theorem CoI.stays {w : World} {X mb : Nat} {b : Int} {l : List (Int × En)} (hX : X < w.heap.size) (hm : mb < w.heap.size) : Stays (fun pre W S => ∃ v, CoI w X mb b l pre W S v) := by
  constructor
  · rintro pre W S ⟨v, h⟩ g hg
    have := h.size
    rcases (h.set g).1 hg with rfl | rfl | rfl | rfl | e
    · omega
    · omega
    · omega
    · omega
    · exact (h.own.lt g e).2
  · rintro pre W W' S ⟨v, h⟩ hz he
    exact ⟨v, (he _ ((h.set _).2 (Or.inl rfl))).trans h.box, own_keep h.own fun g e => he g ((h.set g).2 (Or.inr (Or.inr (Or.inr (Or.inr e))))), (he _ ((h.set _).2 (Or.inr (Or.inl rfl)))).trans h.ptr, (he _ ((h.set _).2 (Or.inr (Or.inr (Or.inl rfl))))).trans h.blk, (he _ ((h.set _).2 (Or.inr (Or.inr (Or.inr (Or.inl rfl)))))).trans h.map, Nat.le_trans h.size hz, h.set⟩
/-- An append in a region that draws, within a round. -/
theorem stepIn_append {P : Program} {l n : Nat} {ops : Array Oper} {o : Oper} {a : Act} {w : World} {K : Act → World → Prop} {Q : Exit → Act → World → Prop} {E : Prop} (hgd : o.guard = none) (s x : Operand) (T T' : TypeId) (ho : o.op = .call { callee := .builtin .append, args := #[s, x], argTypes := #[T, T'] })
    {v u : Value} (hs : a.eval s = v) (hx : a.eval x = u) {v' : Value} {w' : World} (hr : (Builtin.append_ #[T, T'] o.type #[v, u]).run P w = .ok v' w') (h : K (a.put o.dst v') w') : if Region.wanted o (yielded ops a.tmps) = true then Oper.wpIn (Fence.wide.inRound l) n P o a w K Q else E := by
  have hw : Region.wanted o (yielded ops a.tmps) = true := by simp [Region.wanted, hgd]
  rw [if_pos hw]
  unfold Oper.wpIn
  refine ⟨?_, ?_⟩
  · simp [Oper.about, ho, resolve, Target.leads, Sem.run_pure]
  · rw [Oper.semAt_plain _ _ _ (by rw [ho]; intro c hc'; cases hc')]
    simp [execOp, ho, resolve, invoke, builtin, hs, hx, hr, Result.andThen]
    exact h
/-- One more collected. -/
theorem CoI.grow {w W w2 : World} {X mb : Nat} {b : Int} {l : List (Int × En)} {pre : List Int} {SI : Nat → Prop} {v : Value} (hX : X < w.heap.size) (hm : mb < w.heap.size) (hC : CoI w X mb b l pre W SI v) (x : Int) (e : En) (he : e = entP b l x) (b2 : Below W.heap.size W w2) (hpl : pre.length + 1 ≤ 536870912) :
    ∃ pv nv cv w6, (Builtin.append_ #[30, 30] 30 #[v, .slice (some ⟨w2.heap.size, 0, none⟩) 1 1]).run Try.prog (w2.alloc (.cells (enA e) 38)) = .ok (.slice pv nv cv) w6 ∧ w6.cell? ⟨w.heap.size + 1, 0, none⟩ = some v ∧ w6.frozen? ⟨w.heap.size + 1, 0, none⟩ = false ∧ ∃ S', CoI w X mb b l (pre ++ [x]) (w6.setCell ⟨w.heap.size + 1, 0, none⟩ (.slice pv nv cv)) S' (.slice pv nv cv) ∧ Kept W (w6.setCell ⟨w.heap.size + 1, 0, none⟩ (.slice pv nv cv)) SI S' := by
  obtain ⟨i0, hi, hz0, hz1, hz2⟩ := info_parts infoEn
  obtain ⟨w3, hw3⟩ : ∃ w3, w3 = w2.alloc (.cells (enA e) 38) := ⟨_, rfl⟩
  have b3 : Below W.heap.size W w3 := by rw [hw3]; exact b2.alloc b2.size _
  have q3 : w3.heap[w2.heap.size]? = some (.cells (enA e) 38 (0, 0)) := by rw [hw3]; exact heap_alloc_new w2 _
  have r3 : RowAt enC w3 (.slice (some ⟨w2.heap.size, 0, none⟩) 1 1) [e] := RowAt.built q3 rfl 1 rfl rfl
  have o3 : OwnEn w3 (w.heap.size + 2) v (pre.map (entP b l)) := own_keep hC.own fun g hg => b3.block g (hC.own.lt g hg).2
  have hz := hC.size
  have hz3 := b3.size
  have hpm : (pre.map (entP b l)).length = pre.length := List.length_map _
  obtain ⟨u, w6, hr, h5, h6, _, h8⟩ := run_append_own_at (P := Try.prog) w3 (w.heap.size + 2) 30 30 38 i0 _ 7 64 Try.underlying30 hi hz0 hz1 hz2 rfl (by decide) v _ _ o3 ⟨w2.heap.size, 0, none⟩ 1 1 (rowL enC [e]) rfl (fun j u hu => by
      rw [Addr.add_mid]
      obtain ⟨a, cap, e1, _, _, e4⟩ := r3.ex
      rcases e4 with e4 | ⟨bk, off, e5, _, e6⟩
      · cases e4
      · injection e1 with e1 _ _
        rw [← e1] at e5
        injection e5 with e5
        injection e5 with e5 e7 _
        rw [← e5, ← e7] at e6
        exact e6 j u hu) (rowL_one_cell enC_one _) (by rw [hpm]; unfold maxLen; omega) (by rw [hpm]; omega) (by omega)
  obtain ⟨pv, nv, cv, rfl⟩ := own_form h5
  have oX : ∀ g, g < w.heap.size + 2 → v.ownBlock ≠ some g := fun g hg e => by have := (hC.own.lt g e).1; omega
  have k6 : ∀ g, g < w3.heap.size → v.ownBlock ≠ some g → w6.heap[g]? = w3.heap[g]? := fun g hg hn => h6.block g hg (fun e => hn e.symm)
  have kW : ∀ g, g < W.heap.size → v.ownBlock ≠ some g → w6.heap[g]? = W.heap[g]? := fun g hg hn => (k6 g (by omega) hn).trans (b3.block g hg)
  have q6 : w6.heap[w.heap.size + 1]? = some (.cells #[v] 30 (0, 0)) := (kW _ (by omega) (oX _ (by omega))).trans hC.box
  have hs : ∀ g, g ≠ w.heap.size + 1 → (w6.setCell ⟨w.heap.size + 1, 0, none⟩ (.slice pv nv cv)).heap[g]? = w6.heap[g]? := fun g hg => heap_setCell_other _ _ _ _ hg
  have o6 : OwnEn w6 (w.heap.size + 2) (.slice pv nv cv) ((pre ++ [x]).map (entP b l)) := by
    rw [OwnEn, List.map_append, List.length_append, rowL_append]
    show w6.ownsRow _ _ _ _ _ (_ ++ rowL enC [entP b l x])
    rw [← he]
    exact h5
  have n6 : ∀ g, (Value.slice pv nv cv).ownBlock = some g → g ≠ w.heap.size + 1 := fun g hg e1 => by have := (o6.lt g hg).1; omega
  refine ⟨pv, nv, cv, w6, by rw [← hw3]; exact hr, by simp [World.cell?, q6], by simp [World.frozen?, q6], fun g => g = w.heap.size + 1 ∨ g = w.heap.size ∨ g = X ∨ g = mb ∨ (Value.slice pv nv cv).ownBlock = some g, ⟨?_, own_keep o6 fun g hg => hs g (n6 g hg), ?_, ?_, ?_, ?_, fun _ => Iff.rfl⟩, ?_⟩
  · rw [heap_setCell_same w6 _ 0 _ _ _ q6]
    rfl
  · rw [hs _ (by omega), kW _ (by omega) (oX _ (by omega)), hC.ptr]
  · rw [hs _ (by omega), kW _ (by omega) (oX _ (by omega)), hC.blk]
  · rw [hs _ (by omega), kW _ (by omega) (oX _ (by omega)), hC.map]
  · have := h6.size
    simp
    omega
  · refine ⟨h6.os.trans b3.os, h6.tape.trans b3.tape, h6.output.trans b3.output, by have := h6.size; simp; omega, fun g hg => ?_, fun g hg hn => ?_⟩
    · rcases hg with e1 | e1 | e1 | e1 | e1
      · exact Or.inl ((hC.set g).2 (Or.inl e1))
      · exact Or.inl ((hC.set g).2 (Or.inr (Or.inl e1)))
      · exact Or.inl ((hC.set g).2 (Or.inr (Or.inr (Or.inl e1))))
      · exact Or.inl ((hC.set g).2 (Or.inr (Or.inr (Or.inr (Or.inl e1)))))
      · rcases h8 with h8 | h8
        · exact Or.inl ((hC.set g).2 (Or.inr (Or.inr (Or.inr (Or.inr (by rw [← h8]; exact e1))))))
        · rw [h8] at e1
          have := Option.some.inj e1
          exact Or.inr (by omega)
    · rw [hs g (fun e1 => hn ((hC.set g).2 (Or.inl e1))), kW g hg (fun e1 => hn ((hC.set g).2 (Or.inr (Or.inr (Or.inr (Or.inr e1))))))]
section
variable {w : World} {base X : Nat} {S : Nat → Prop} {n b f : Int} {is : Bool} {p : Px} {mp : Option Nat} {mb ma : Nat} {v : Value}
set_option maxHeartbeats 6400000 in
set_option maxRecDepth 100000 in
theorem xents_any (h : PxAt w base X S n b f is p mp mb ma v) (hN : Names p.best) {gf : Nat} {lb : Array Value} {xs : List Int} {T : Nat → Prop} (eg : ∀ args w, (callFunc gf args).run Try.prog w = .ok (.enter gf args) w) (hit : Iters Try.prog gf lb xs T w) (hT : ∀ g, T g → g < w.heap.size ∧ g ≠ X ∧ g ≠ mb) (hx : xs.length ≤ 536870912) (hxs : ∀ s ∈ xs, inI s) :
    Calls Try.prog 38 #[.pointer (some ⟨X, 0, none⟩), .func (.func gf) #[] lb] w fun r w' => ∃ u, r = .returned u ∧ OwnEn w' w.heap.size u (xs.map (entP b p.best)) ∧ Below w.heap.size w w' := by
  obtain ⟨i0, hi, hz0, hz1, hz2⟩ := info_parts infoEn
  refine (callsIn_wide (n := 3)).1 ?_
  refine callsIn_of_wp_marks Try.func38 rfl trivial ?_ rfl
  simp only [Try.ntmps38, List.size_toArray, List.length_cons, List.length_nil, Nat.reduceAdd, Nat.reduceSub, Array.replicate_succ, Array.replicate_zero, List.push_toArray, List.append_toArray, List.nil_append, List.cons_append]
  have hXw : X < w.heap.size := h.bd X h.inX
  have hmw : mb < w.heap.size := h.bd mb h.inB
  obtain ⟨W0, hW0⟩ : ∃ W0, W0 = (w.alloc (.cells #[.pointer (some ⟨X, 0, none⟩)] 26)).alloc (.cells #[.slice none 0 0] 30) := ⟨_, rfl⟩
  have b0 : Below w.heap.size w W0 := by rw [hW0]; exact ((Below.refl _ w).alloc (Nat.le_refl _) _).alloc (by simp) _
  have h2 := two_blocks w (.cells #[.pointer (some ⟨X, 0, none⟩)] 26) (.cells #[.slice none 0 0] 30)
  have c0 : CoI w X mb b p.best [] W0 (fun g => g = w.heap.size + 1 ∨ g = w.heap.size ∨ g = X ∨ g = mb ∨ (Value.slice none 0 0).ownBlock = some g) (.slice none 0 0) := by
    refine ⟨by rw [hW0]; exact h2.2.trans (heap_alloc_new _ _), World.ownsRow_nil _ _ _ _, by rw [hW0]; exact h2.1.trans (heap_alloc_new w _), b0.block X hXw, b0.block mb hmw, by rw [hW0]; simp, fun _ => Iff.rfl⟩
  have HW : Hid ((w.alloc (.cells #[.pointer (some ⟨X, 0, none⟩)] 26)).alloc (.cells #[.slice none 0 0] 30) = W0) := hW0.symm
  clear hW0 h2
  gi_wp2
  rw [HW.out]
  refine wpIn_iter (gf := gf) (lb := lb) rfl eg (hit.at (fun g hg => b0.block g (hT g hg).1)) rfl (fun pre W S => ∃ v, CoI w X mb b p.best pre W S v) (CoI.stays hXw hmw) ⟨_, c0⟩ ?_
    (fun x => { tmps := #[.pointer (some ⟨X, 0, none⟩), .func (.func gf) #[] lb, .pointer (some ⟨w.heap.size, 0, none⟩), undef, .slice none 0 0, .pointer (some ⟨w.heap.size + 1, 0, none⟩), .int .i64 x, .func (.func gf) #[] lb, .int .i64 x, undef, undef, undef, undef, undef, undef, undef], defers := [] }) ?assign ?body ?done
  · intro g hg
    obtain ⟨q1, q2, q3⟩ := hT g hg
    refine ⟨Nat.lt_of_lt_of_le q1 b0.size, fun hs => ?_⟩
    rcases hs with e | e | e | e | e
    · omega
    · omega
    · exact q2 e
    · exact q3 e
    · simp [Value.ownBlock] at e
  case assign =>
    intro l' m x W' K hK
    gi_wp2
    exact hK
  case body =>
    rintro l' m pre x suf W SI hxx hl' ⟨u, hC⟩ hnl
    have mixed : Try.prog.follows Departure.mixedOrders = true := by kernel_rfl
    have hxi : inI x := hxs x (by rw [hxx]; simp)
    have hpl : pre.length + 1 ≤ 536870912 := by
      have := congrArg List.length hxx
      simp at this
      omega
    have hent : ∀ y, Below W.heap.size W y → Calls Try.prog 36 #[.pointer (some ⟨X, 0, none⟩), .int .i64 x] y fun r w' => r = .returned (.agg (enA (entP b p.best x))) ∧ Below y.heap.size y w' := fun y hy => xentryB_any ((PxB.keep (w' := W) ⟨h.blk, h.best⟩ hC.blk hC.map).fresh hy) hN x hxi
    obtain ⟨e, he⟩ : ∃ e, e = entP b p.best x := ⟨_, rfl⟩
    rw [← he] at hent
    have hgr : ∀ w2, Below W.heap.size W w2 → _ := fun w2 b2 => hC.grow hXw hmw x e he b2 hpl
    have HEnt : Hid _ := hent
    have HGr : Hid _ := hgr
    obtain ⟨ua, uc, rfl⟩ := (OwnEn.row hC.own).form
    have cl : W.cell? ⟨w.heap.size + 1, 0, none⟩ = some (.slice ua (pre.map (entP b p.best)).length uc) := by simp [World.cell?, hC.box]
    have cp : W.cell? ⟨w.heap.size, 0, none⟩ = some (.pointer (some ⟨X, 0, none⟩)) := by simp [World.cell?, hC.ptr]
    have HBl : Hid (w.heap.size + 1 < W.heap.size) := by have := hC.size; show _ < _; omega
    obtain ⟨un, hun⟩ : ∃ un, un = (pre.map (entP b p.best)).length := ⟨_, rfl⟩
    rw [← hun] at cl HGr
    clear hent hC hgr he hun
    gi_wp2
    refine wpIn_region_any mixed ?_
    change wpAnyIn _ _ _ _ _ _ _ _ _ W.drew
    refine wpAnyIn_ready (rs := [0, 1, 2]) (by kernel_rfl) (by simp) ?_
    refine AllReadyIn.cons rfl (fun K hK => ?_) ?_
    · go_simp
      refine hK _ _ ?_
      clear hK K
      try simp only [Act.put, List.setIfInBounds_toArray, List.set_cons_zero, List.set_cons_succ]
      refine wpAnyIn_ready (rs := [1, 2]) (by kernel_rfl) (by simp) ?_
      refine AllReadyIn.cons rfl (fun K hK => ?_) ?_
      · go_simp
        refine hK _ _ ?_
        clear hK K
        try simp only [Act.put, List.setIfInBounds_toArray, List.set_cons_zero, List.set_cons_succ]
        refine wpAnyIn_ready (rs := [2]) (by kernel_rfl) (by simp) ?_
        refine AllReadyIn.cons rfl (fun K hK => ?_) ?_
        · go_simp
          refine hK _ _ ?_
          clear hK K
          try simp only [Act.put, List.setIfInBounds_toArray, List.set_cons_zero, List.set_cons_succ]
          refine wpAnyIn_ready (rs := [3]) (by kernel_rfl) (by simp) ?_
          refine AllReadyIn.cons rfl (fun K hK => ?_) ?_
          · go_simp
            refine ⟨trivial, fun h => absurd h (by decide), ?_⟩; gi_at_call 36; refine (CallsIn.inRound l' (callsIn_wide.2 (HEnt.out _ (undrew (Below.refl _ _))))).mono ?_; rintro r w2 ⟨rfl, b2⟩; obtain ⟨pv, nv, cv, w6, hr6, c6, f6, S6, hC6, k6⟩ := HGr.out w2 (undrew b2); have C6 : Hid _ := hC6; have K6 : Hid _ := k6; have R6 : Hid _ := hr6; have cl2 := ((undrew b2).cell (p := ⟨w.heap.size + 1, 0, none⟩) HBl.out).trans cl; have cp2 := ((undrew b2).cell (p := ⟨w.heap.size, 0, none⟩) (Nat.lt_of_succ_lt HBl.out)).trans cp; have cl3 : (w2.alloc (.cells (enA e) 38)).cell? ⟨w.heap.size + 1, 0, none⟩ = _ := (((undrew b2).alloc (undrew b2).size (.cells (enA e) 38)).cell (p := ⟨w.heap.size + 1, 0, none⟩) HBl.out).trans cl; clear b2 hC6 k6 hr6
            refine hK _ _ ?_
            clear hK K
            try simp only [Act.put, List.setIfInBounds_toArray, List.set_cons_zero, List.set_cons_succ]
            refine wpAnyIn_ready (rs := [4]) (by kernel_rfl) (by simp) ?_
            refine AllReadyIn.cons rfl (fun K hK => ?_) ?_
            · go_simp
              refine hK _ _ ?_
              clear hK K
              try simp only [Act.put, List.setIfInBounds_toArray, List.set_cons_zero, List.set_cons_succ]
              refine wpAnyIn_ready (rs := [5]) (by kernel_rfl) (by simp) ?_
              refine AllReadyIn.cons rfl (fun K hK => ?_) ?_
              · refine stepIn_append rfl (.tmp 9) (.tmp 13) 30 30 rfl rfl rfl R6.out ?_
                refine hK _ _ ?_
                clear hK K
                refine wpAnyIn_ready (rs := [6]) (by kernel_rfl) (by simp) ?_
                refine AllReadyIn.cons rfl (fun K hK => ?_) ?_
                · go_simp
                  refine hK _ _ ?_
                  clear hK K
                  refine wpAnyIn_done (by kernel_rfl) ?_ _
                  gi_wp2
                  exact ⟨_, ⟨_, C6.out⟩, K6.out⟩
                exact AllReadyIn.nil
              exact AllReadyIn.nil
            exact AllReadyIn.nil
          exact AllReadyIn.nil
        exact AllReadyIn.nil
      refine AllReadyIn.cons rfl (fun K hK => ?_) ?_
      · go_simp
        refine hK _ _ ?_
        clear hK K
        try simp only [Act.put, List.setIfInBounds_toArray, List.set_cons_zero, List.set_cons_succ]
        refine wpAnyIn_ready (rs := [1]) (by kernel_rfl) (by simp) ?_
        refine AllReadyIn.cons rfl (fun K hK => ?_) ?_
        · go_simp
          refine hK _ _ ?_
          clear hK K
          try simp only [Act.put, List.setIfInBounds_toArray, List.set_cons_zero, List.set_cons_succ]
          refine wpAnyIn_ready (rs := [3]) (by kernel_rfl) (by simp) ?_
          refine AllReadyIn.cons rfl (fun K hK => ?_) ?_
          · go_simp
            refine ⟨trivial, fun h => absurd h (by decide), ?_⟩; gi_at_call 36; refine (CallsIn.inRound l' (callsIn_wide.2 (HEnt.out _ (undrew (Below.refl _ _))))).mono ?_; rintro r w2 ⟨rfl, b2⟩; obtain ⟨pv, nv, cv, w6, hr6, c6, f6, S6, hC6, k6⟩ := HGr.out w2 (undrew b2); have C6 : Hid _ := hC6; have K6 : Hid _ := k6; have R6 : Hid _ := hr6; have cl2 := ((undrew b2).cell (p := ⟨w.heap.size + 1, 0, none⟩) HBl.out).trans cl; have cp2 := ((undrew b2).cell (p := ⟨w.heap.size, 0, none⟩) (Nat.lt_of_succ_lt HBl.out)).trans cp; have cl3 : (w2.alloc (.cells (enA e) 38)).cell? ⟨w.heap.size + 1, 0, none⟩ = _ := (((undrew b2).alloc (undrew b2).size (.cells (enA e) 38)).cell (p := ⟨w.heap.size + 1, 0, none⟩) HBl.out).trans cl; clear b2 hC6 k6 hr6
            refine hK _ _ ?_
            clear hK K
            try simp only [Act.put, List.setIfInBounds_toArray, List.set_cons_zero, List.set_cons_succ]
            refine wpAnyIn_ready (rs := [4]) (by kernel_rfl) (by simp) ?_
            refine AllReadyIn.cons rfl (fun K hK => ?_) ?_
            · go_simp
              refine hK _ _ ?_
              clear hK K
              try simp only [Act.put, List.setIfInBounds_toArray, List.set_cons_zero, List.set_cons_succ]
              refine wpAnyIn_ready (rs := [5]) (by kernel_rfl) (by simp) ?_
              refine AllReadyIn.cons rfl (fun K hK => ?_) ?_
              · refine stepIn_append rfl (.tmp 9) (.tmp 13) 30 30 rfl rfl rfl R6.out ?_
                refine hK _ _ ?_
                clear hK K
                refine wpAnyIn_ready (rs := [6]) (by kernel_rfl) (by simp) ?_
                refine AllReadyIn.cons rfl (fun K hK => ?_) ?_
                · go_simp
                  refine hK _ _ ?_
                  clear hK K
                  refine wpAnyIn_done (by kernel_rfl) ?_ _
                  gi_wp2
                  exact ⟨_, ⟨_, C6.out⟩, K6.out⟩
                exact AllReadyIn.nil
              exact AllReadyIn.nil
            exact AllReadyIn.nil
          exact AllReadyIn.nil
        exact AllReadyIn.nil
      exact AllReadyIn.nil
    refine AllReadyIn.cons rfl (fun K hK => ?_) ?_
    · go_simp
      refine hK _ _ ?_
      clear hK K
      try simp only [Act.put, List.setIfInBounds_toArray, List.set_cons_zero, List.set_cons_succ]
      refine wpAnyIn_ready (rs := [0, 2]) (by kernel_rfl) (by simp) ?_
      refine AllReadyIn.cons rfl (fun K hK => ?_) ?_
      · go_simp
        refine hK _ _ ?_
        clear hK K
        try simp only [Act.put, List.setIfInBounds_toArray, List.set_cons_zero, List.set_cons_succ]
        refine wpAnyIn_ready (rs := [2]) (by kernel_rfl) (by simp) ?_
        refine AllReadyIn.cons rfl (fun K hK => ?_) ?_
        · go_simp
          refine hK _ _ ?_
          clear hK K
          try simp only [Act.put, List.setIfInBounds_toArray, List.set_cons_zero, List.set_cons_succ]
          refine wpAnyIn_ready (rs := [3]) (by kernel_rfl) (by simp) ?_
          refine AllReadyIn.cons rfl (fun K hK => ?_) ?_
          · go_simp
            refine ⟨trivial, fun h => absurd h (by decide), ?_⟩; gi_at_call 36; refine (CallsIn.inRound l' (callsIn_wide.2 (HEnt.out _ (undrew (Below.refl _ _))))).mono ?_; rintro r w2 ⟨rfl, b2⟩; obtain ⟨pv, nv, cv, w6, hr6, c6, f6, S6, hC6, k6⟩ := HGr.out w2 (undrew b2); have C6 : Hid _ := hC6; have K6 : Hid _ := k6; have R6 : Hid _ := hr6; have cl2 := ((undrew b2).cell (p := ⟨w.heap.size + 1, 0, none⟩) HBl.out).trans cl; have cp2 := ((undrew b2).cell (p := ⟨w.heap.size, 0, none⟩) (Nat.lt_of_succ_lt HBl.out)).trans cp; have cl3 : (w2.alloc (.cells (enA e) 38)).cell? ⟨w.heap.size + 1, 0, none⟩ = _ := (((undrew b2).alloc (undrew b2).size (.cells (enA e) 38)).cell (p := ⟨w.heap.size + 1, 0, none⟩) HBl.out).trans cl; clear b2 hC6 k6 hr6
            refine hK _ _ ?_
            clear hK K
            try simp only [Act.put, List.setIfInBounds_toArray, List.set_cons_zero, List.set_cons_succ]
            refine wpAnyIn_ready (rs := [4]) (by kernel_rfl) (by simp) ?_
            refine AllReadyIn.cons rfl (fun K hK => ?_) ?_
            · go_simp
              refine hK _ _ ?_
              clear hK K
              try simp only [Act.put, List.setIfInBounds_toArray, List.set_cons_zero, List.set_cons_succ]
              refine wpAnyIn_ready (rs := [5]) (by kernel_rfl) (by simp) ?_
              refine AllReadyIn.cons rfl (fun K hK => ?_) ?_
              · refine stepIn_append rfl (.tmp 9) (.tmp 13) 30 30 rfl rfl rfl R6.out ?_
                refine hK _ _ ?_
                clear hK K
                refine wpAnyIn_ready (rs := [6]) (by kernel_rfl) (by simp) ?_
                refine AllReadyIn.cons rfl (fun K hK => ?_) ?_
                · go_simp
                  refine hK _ _ ?_
                  clear hK K
                  refine wpAnyIn_done (by kernel_rfl) ?_ _
                  gi_wp2
                  exact ⟨_, ⟨_, C6.out⟩, K6.out⟩
                exact AllReadyIn.nil
              exact AllReadyIn.nil
            exact AllReadyIn.nil
          exact AllReadyIn.nil
        exact AllReadyIn.nil
      refine AllReadyIn.cons rfl (fun K hK => ?_) ?_
      · go_simp
        refine hK _ _ ?_
        clear hK K
        try simp only [Act.put, List.setIfInBounds_toArray, List.set_cons_zero, List.set_cons_succ]
        refine wpAnyIn_ready (rs := [0, 3]) (by kernel_rfl) (by simp) ?_
        refine AllReadyIn.cons rfl (fun K hK => ?_) ?_
        · go_simp
          refine hK _ _ ?_
          clear hK K
          try simp only [Act.put, List.setIfInBounds_toArray, List.set_cons_zero, List.set_cons_succ]
          refine wpAnyIn_ready (rs := [3]) (by kernel_rfl) (by simp) ?_
          refine AllReadyIn.cons rfl (fun K hK => ?_) ?_
          · go_simp
            refine ⟨trivial, fun h => absurd h (by decide), ?_⟩; gi_at_call 36; refine (CallsIn.inRound l' (callsIn_wide.2 (HEnt.out _ (undrew (Below.refl _ _))))).mono ?_; rintro r w2 ⟨rfl, b2⟩; obtain ⟨pv, nv, cv, w6, hr6, c6, f6, S6, hC6, k6⟩ := HGr.out w2 (undrew b2); have C6 : Hid _ := hC6; have K6 : Hid _ := k6; have R6 : Hid _ := hr6; have cl2 := ((undrew b2).cell (p := ⟨w.heap.size + 1, 0, none⟩) HBl.out).trans cl; have cp2 := ((undrew b2).cell (p := ⟨w.heap.size, 0, none⟩) (Nat.lt_of_succ_lt HBl.out)).trans cp; have cl3 : (w2.alloc (.cells (enA e) 38)).cell? ⟨w.heap.size + 1, 0, none⟩ = _ := (((undrew b2).alloc (undrew b2).size (.cells (enA e) 38)).cell (p := ⟨w.heap.size + 1, 0, none⟩) HBl.out).trans cl; clear b2 hC6 k6 hr6
            refine hK _ _ ?_
            clear hK K
            try simp only [Act.put, List.setIfInBounds_toArray, List.set_cons_zero, List.set_cons_succ]
            refine wpAnyIn_ready (rs := [4]) (by kernel_rfl) (by simp) ?_
            refine AllReadyIn.cons rfl (fun K hK => ?_) ?_
            · go_simp
              refine hK _ _ ?_
              clear hK K
              try simp only [Act.put, List.setIfInBounds_toArray, List.set_cons_zero, List.set_cons_succ]
              refine wpAnyIn_ready (rs := [5]) (by kernel_rfl) (by simp) ?_
              refine AllReadyIn.cons rfl (fun K hK => ?_) ?_
              · refine stepIn_append rfl (.tmp 9) (.tmp 13) 30 30 rfl rfl rfl R6.out ?_
                refine hK _ _ ?_
                clear hK K
                refine wpAnyIn_ready (rs := [6]) (by kernel_rfl) (by simp) ?_
                refine AllReadyIn.cons rfl (fun K hK => ?_) ?_
                · go_simp
                  refine hK _ _ ?_
                  clear hK K
                  refine wpAnyIn_done (by kernel_rfl) ?_ _
                  gi_wp2
                  exact ⟨_, ⟨_, C6.out⟩, K6.out⟩
                exact AllReadyIn.nil
              exact AllReadyIn.nil
            exact AllReadyIn.nil
          exact AllReadyIn.nil
        refine AllReadyIn.cons rfl (fun K hK => ?_) ?_
        · go_simp
          refine ⟨trivial, fun h => absurd h (by decide), ?_⟩; gi_at_call 36; refine (CallsIn.inRound l' (callsIn_wide.2 (HEnt.out _ (undrew (Below.refl _ _))))).mono ?_; rintro r w2 ⟨rfl, b2⟩; obtain ⟨pv, nv, cv, w6, hr6, c6, f6, S6, hC6, k6⟩ := HGr.out w2 (undrew b2); have C6 : Hid _ := hC6; have K6 : Hid _ := k6; have R6 : Hid _ := hr6; have cl2 := ((undrew b2).cell (p := ⟨w.heap.size + 1, 0, none⟩) HBl.out).trans cl; have cp2 := ((undrew b2).cell (p := ⟨w.heap.size, 0, none⟩) (Nat.lt_of_succ_lt HBl.out)).trans cp; have cl3 : (w2.alloc (.cells (enA e) 38)).cell? ⟨w.heap.size + 1, 0, none⟩ = _ := (((undrew b2).alloc (undrew b2).size (.cells (enA e) 38)).cell (p := ⟨w.heap.size + 1, 0, none⟩) HBl.out).trans cl; clear b2 hC6 k6 hr6
          refine hK _ _ ?_
          clear hK K
          try simp only [Act.put, List.setIfInBounds_toArray, List.set_cons_zero, List.set_cons_succ]
          refine wpAnyIn_ready (rs := [0, 4]) (by kernel_rfl) (by simp) ?_
          refine AllReadyIn.cons rfl (fun K hK => ?_) ?_
          · go_simp
            refine hK _ _ ?_
            clear hK K
            try simp only [Act.put, List.setIfInBounds_toArray, List.set_cons_zero, List.set_cons_succ]
            refine wpAnyIn_ready (rs := [4]) (by kernel_rfl) (by simp) ?_
            refine AllReadyIn.cons rfl (fun K hK => ?_) ?_
            · go_simp
              refine hK _ _ ?_
              clear hK K
              try simp only [Act.put, List.setIfInBounds_toArray, List.set_cons_zero, List.set_cons_succ]
              refine wpAnyIn_ready (rs := [5]) (by kernel_rfl) (by simp) ?_
              refine AllReadyIn.cons rfl (fun K hK => ?_) ?_
              · refine stepIn_append rfl (.tmp 9) (.tmp 13) 30 30 rfl rfl rfl R6.out ?_
                refine hK _ _ ?_
                clear hK K
                refine wpAnyIn_ready (rs := [6]) (by kernel_rfl) (by simp) ?_
                refine AllReadyIn.cons rfl (fun K hK => ?_) ?_
                · go_simp
                  refine hK _ _ ?_
                  clear hK K
                  refine wpAnyIn_done (by kernel_rfl) ?_ _
                  gi_wp2
                  exact ⟨_, ⟨_, C6.out⟩, K6.out⟩
                exact AllReadyIn.nil
              exact AllReadyIn.nil
            exact AllReadyIn.nil
          refine AllReadyIn.cons rfl (fun K hK => ?_) ?_
          · go_simp
            refine hK _ _ ?_
            clear hK K
            try simp only [Act.put, List.setIfInBounds_toArray, List.set_cons_zero, List.set_cons_succ]
            refine wpAnyIn_ready (rs := [0]) (by kernel_rfl) (by simp) ?_
            refine AllReadyIn.cons rfl (fun K hK => ?_) ?_
            · go_simp
              refine hK _ _ ?_
              clear hK K
              try simp only [Act.put, List.setIfInBounds_toArray, List.set_cons_zero, List.set_cons_succ]
              refine wpAnyIn_ready (rs := [5]) (by kernel_rfl) (by simp) ?_
              refine AllReadyIn.cons rfl (fun K hK => ?_) ?_
              · refine stepIn_append rfl (.tmp 9) (.tmp 13) 30 30 rfl rfl rfl R6.out ?_
                refine hK _ _ ?_
                clear hK K
                refine wpAnyIn_ready (rs := [6]) (by kernel_rfl) (by simp) ?_
                refine AllReadyIn.cons rfl (fun K hK => ?_) ?_
                · go_simp
                  refine hK _ _ ?_
                  clear hK K
                  refine wpAnyIn_done (by kernel_rfl) ?_ _
                  gi_wp2
                  exact ⟨_, ⟨_, C6.out⟩, K6.out⟩
                exact AllReadyIn.nil
              exact AllReadyIn.nil
            exact AllReadyIn.nil
          exact AllReadyIn.nil
        exact AllReadyIn.nil
      exact AllReadyIn.nil
    refine AllReadyIn.cons rfl (fun K hK => ?_) ?_
    · go_simp
      refine hK _ _ ?_
      clear hK K
      try simp only [Act.put, List.setIfInBounds_toArray, List.set_cons_zero, List.set_cons_succ]
      refine wpAnyIn_ready (rs := [0, 1]) (by kernel_rfl) (by simp) ?_
      refine AllReadyIn.cons rfl (fun K hK => ?_) ?_
      · go_simp
        refine hK _ _ ?_
        clear hK K
        try simp only [Act.put, List.setIfInBounds_toArray, List.set_cons_zero, List.set_cons_succ]
        refine wpAnyIn_ready (rs := [1]) (by kernel_rfl) (by simp) ?_
        refine AllReadyIn.cons rfl (fun K hK => ?_) ?_
        · go_simp
          refine hK _ _ ?_
          clear hK K
          try simp only [Act.put, List.setIfInBounds_toArray, List.set_cons_zero, List.set_cons_succ]
          refine wpAnyIn_ready (rs := [3]) (by kernel_rfl) (by simp) ?_
          refine AllReadyIn.cons rfl (fun K hK => ?_) ?_
          · go_simp
            refine ⟨trivial, fun h => absurd h (by decide), ?_⟩; gi_at_call 36; refine (CallsIn.inRound l' (callsIn_wide.2 (HEnt.out _ (undrew (Below.refl _ _))))).mono ?_; rintro r w2 ⟨rfl, b2⟩; obtain ⟨pv, nv, cv, w6, hr6, c6, f6, S6, hC6, k6⟩ := HGr.out w2 (undrew b2); have C6 : Hid _ := hC6; have K6 : Hid _ := k6; have R6 : Hid _ := hr6; have cl2 := ((undrew b2).cell (p := ⟨w.heap.size + 1, 0, none⟩) HBl.out).trans cl; have cp2 := ((undrew b2).cell (p := ⟨w.heap.size, 0, none⟩) (Nat.lt_of_succ_lt HBl.out)).trans cp; have cl3 : (w2.alloc (.cells (enA e) 38)).cell? ⟨w.heap.size + 1, 0, none⟩ = _ := (((undrew b2).alloc (undrew b2).size (.cells (enA e) 38)).cell (p := ⟨w.heap.size + 1, 0, none⟩) HBl.out).trans cl; clear b2 hC6 k6 hr6
            refine hK _ _ ?_
            clear hK K
            try simp only [Act.put, List.setIfInBounds_toArray, List.set_cons_zero, List.set_cons_succ]
            refine wpAnyIn_ready (rs := [4]) (by kernel_rfl) (by simp) ?_
            refine AllReadyIn.cons rfl (fun K hK => ?_) ?_
            · go_simp
              refine hK _ _ ?_
              clear hK K
              try simp only [Act.put, List.setIfInBounds_toArray, List.set_cons_zero, List.set_cons_succ]
              refine wpAnyIn_ready (rs := [5]) (by kernel_rfl) (by simp) ?_
              refine AllReadyIn.cons rfl (fun K hK => ?_) ?_
              · refine stepIn_append rfl (.tmp 9) (.tmp 13) 30 30 rfl rfl rfl R6.out ?_
                refine hK _ _ ?_
                clear hK K
                refine wpAnyIn_ready (rs := [6]) (by kernel_rfl) (by simp) ?_
                refine AllReadyIn.cons rfl (fun K hK => ?_) ?_
                · go_simp
                  refine hK _ _ ?_
                  clear hK K
                  refine wpAnyIn_done (by kernel_rfl) ?_ _
                  gi_wp2
                  exact ⟨_, ⟨_, C6.out⟩, K6.out⟩
                exact AllReadyIn.nil
              exact AllReadyIn.nil
            exact AllReadyIn.nil
          exact AllReadyIn.nil
        exact AllReadyIn.nil
      refine AllReadyIn.cons rfl (fun K hK => ?_) ?_
      · go_simp
        refine hK _ _ ?_
        clear hK K
        try simp only [Act.put, List.setIfInBounds_toArray, List.set_cons_zero, List.set_cons_succ]
        refine wpAnyIn_ready (rs := [0, 3]) (by kernel_rfl) (by simp) ?_
        refine AllReadyIn.cons rfl (fun K hK => ?_) ?_
        · go_simp
          refine hK _ _ ?_
          clear hK K
          try simp only [Act.put, List.setIfInBounds_toArray, List.set_cons_zero, List.set_cons_succ]
          refine wpAnyIn_ready (rs := [3]) (by kernel_rfl) (by simp) ?_
          refine AllReadyIn.cons rfl (fun K hK => ?_) ?_
          · go_simp
            refine ⟨trivial, fun h => absurd h (by decide), ?_⟩; gi_at_call 36; refine (CallsIn.inRound l' (callsIn_wide.2 (HEnt.out _ (undrew (Below.refl _ _))))).mono ?_; rintro r w2 ⟨rfl, b2⟩; obtain ⟨pv, nv, cv, w6, hr6, c6, f6, S6, hC6, k6⟩ := HGr.out w2 (undrew b2); have C6 : Hid _ := hC6; have K6 : Hid _ := k6; have R6 : Hid _ := hr6; have cl2 := ((undrew b2).cell (p := ⟨w.heap.size + 1, 0, none⟩) HBl.out).trans cl; have cp2 := ((undrew b2).cell (p := ⟨w.heap.size, 0, none⟩) (Nat.lt_of_succ_lt HBl.out)).trans cp; have cl3 : (w2.alloc (.cells (enA e) 38)).cell? ⟨w.heap.size + 1, 0, none⟩ = _ := (((undrew b2).alloc (undrew b2).size (.cells (enA e) 38)).cell (p := ⟨w.heap.size + 1, 0, none⟩) HBl.out).trans cl; clear b2 hC6 k6 hr6
            refine hK _ _ ?_
            clear hK K
            try simp only [Act.put, List.setIfInBounds_toArray, List.set_cons_zero, List.set_cons_succ]
            refine wpAnyIn_ready (rs := [4]) (by kernel_rfl) (by simp) ?_
            refine AllReadyIn.cons rfl (fun K hK => ?_) ?_
            · go_simp
              refine hK _ _ ?_
              clear hK K
              try simp only [Act.put, List.setIfInBounds_toArray, List.set_cons_zero, List.set_cons_succ]
              refine wpAnyIn_ready (rs := [5]) (by kernel_rfl) (by simp) ?_
              refine AllReadyIn.cons rfl (fun K hK => ?_) ?_
              · refine stepIn_append rfl (.tmp 9) (.tmp 13) 30 30 rfl rfl rfl R6.out ?_
                refine hK _ _ ?_
                clear hK K
                refine wpAnyIn_ready (rs := [6]) (by kernel_rfl) (by simp) ?_
                refine AllReadyIn.cons rfl (fun K hK => ?_) ?_
                · go_simp
                  refine hK _ _ ?_
                  clear hK K
                  refine wpAnyIn_done (by kernel_rfl) ?_ _
                  gi_wp2
                  exact ⟨_, ⟨_, C6.out⟩, K6.out⟩
                exact AllReadyIn.nil
              exact AllReadyIn.nil
            exact AllReadyIn.nil
          exact AllReadyIn.nil
        refine AllReadyIn.cons rfl (fun K hK => ?_) ?_
        · go_simp
          refine ⟨trivial, fun h => absurd h (by decide), ?_⟩; gi_at_call 36; refine (CallsIn.inRound l' (callsIn_wide.2 (HEnt.out _ (undrew (Below.refl _ _))))).mono ?_; rintro r w2 ⟨rfl, b2⟩; obtain ⟨pv, nv, cv, w6, hr6, c6, f6, S6, hC6, k6⟩ := HGr.out w2 (undrew b2); have C6 : Hid _ := hC6; have K6 : Hid _ := k6; have R6 : Hid _ := hr6; have cl2 := ((undrew b2).cell (p := ⟨w.heap.size + 1, 0, none⟩) HBl.out).trans cl; have cp2 := ((undrew b2).cell (p := ⟨w.heap.size, 0, none⟩) (Nat.lt_of_succ_lt HBl.out)).trans cp; have cl3 : (w2.alloc (.cells (enA e) 38)).cell? ⟨w.heap.size + 1, 0, none⟩ = _ := (((undrew b2).alloc (undrew b2).size (.cells (enA e) 38)).cell (p := ⟨w.heap.size + 1, 0, none⟩) HBl.out).trans cl; clear b2 hC6 k6 hr6
          refine hK _ _ ?_
          clear hK K
          try simp only [Act.put, List.setIfInBounds_toArray, List.set_cons_zero, List.set_cons_succ]
          refine wpAnyIn_ready (rs := [0, 4]) (by kernel_rfl) (by simp) ?_
          refine AllReadyIn.cons rfl (fun K hK => ?_) ?_
          · go_simp
            refine hK _ _ ?_
            clear hK K
            try simp only [Act.put, List.setIfInBounds_toArray, List.set_cons_zero, List.set_cons_succ]
            refine wpAnyIn_ready (rs := [4]) (by kernel_rfl) (by simp) ?_
            refine AllReadyIn.cons rfl (fun K hK => ?_) ?_
            · go_simp
              refine hK _ _ ?_
              clear hK K
              try simp only [Act.put, List.setIfInBounds_toArray, List.set_cons_zero, List.set_cons_succ]
              refine wpAnyIn_ready (rs := [5]) (by kernel_rfl) (by simp) ?_
              refine AllReadyIn.cons rfl (fun K hK => ?_) ?_
              · refine stepIn_append rfl (.tmp 9) (.tmp 13) 30 30 rfl rfl rfl R6.out ?_
                refine hK _ _ ?_
                clear hK K
                refine wpAnyIn_ready (rs := [6]) (by kernel_rfl) (by simp) ?_
                refine AllReadyIn.cons rfl (fun K hK => ?_) ?_
                · go_simp
                  refine hK _ _ ?_
                  clear hK K
                  refine wpAnyIn_done (by kernel_rfl) ?_ _
                  gi_wp2
                  exact ⟨_, ⟨_, C6.out⟩, K6.out⟩
                exact AllReadyIn.nil
              exact AllReadyIn.nil
            exact AllReadyIn.nil
          refine AllReadyIn.cons rfl (fun K hK => ?_) ?_
          · go_simp
            refine hK _ _ ?_
            clear hK K
            try simp only [Act.put, List.setIfInBounds_toArray, List.set_cons_zero, List.set_cons_succ]
            refine wpAnyIn_ready (rs := [0]) (by kernel_rfl) (by simp) ?_
            refine AllReadyIn.cons rfl (fun K hK => ?_) ?_
            · go_simp
              refine hK _ _ ?_
              clear hK K
              try simp only [Act.put, List.setIfInBounds_toArray, List.set_cons_zero, List.set_cons_succ]
              refine wpAnyIn_ready (rs := [5]) (by kernel_rfl) (by simp) ?_
              refine AllReadyIn.cons rfl (fun K hK => ?_) ?_
              · refine stepIn_append rfl (.tmp 9) (.tmp 13) 30 30 rfl rfl rfl R6.out ?_
                refine hK _ _ ?_
                clear hK K
                refine wpAnyIn_ready (rs := [6]) (by kernel_rfl) (by simp) ?_
                refine AllReadyIn.cons rfl (fun K hK => ?_) ?_
                · go_simp
                  refine hK _ _ ?_
                  clear hK K
                  refine wpAnyIn_done (by kernel_rfl) ?_ _
                  gi_wp2
                  exact ⟨_, ⟨_, C6.out⟩, K6.out⟩
                exact AllReadyIn.nil
              exact AllReadyIn.nil
            exact AllReadyIn.nil
          exact AllReadyIn.nil
        exact AllReadyIn.nil
      exact AllReadyIn.nil
    exact AllReadyIn.nil
  case done =>
    rintro D W5 S5 hD hnD ⟨u, hC⟩ k5 hdf
    obtain ⟨ua, uc, rfl⟩ := (OwnEn.row hC.own).form
    have cl : W5.cell? ⟨w.heap.size + 1, 0, none⟩ = some (.slice ua (xs.map (entP b p.best)).length uc) := by simp [World.cell?, hC.box]
    have HC : Hid _ := hC
    have HK5 : Hid _ := k5
    have HD : Hid (w.heap.size ≤ D) := Nat.le_trans b0.size hD
    obtain ⟨un, hun⟩ : ∃ un, un = (xs.map (entP b p.best)).length := ⟨_, rfl⟩
    rw [← hun] at cl HC
    clear hC k5 hD c0 hun
    gi_wp2
    refine ⟨by simp, .inl ⟨_, _, rfl, run_takeDeferred hdf, ?_⟩⟩
    refine ⟨_, results_tmp rfl _ _ _, _, rfl, ?_, ?_⟩
    · refine own_keep (own_mono HC.out.own (by omega)) fun g hg => World.putObj_heap_other (fun e1 => hnD ?_)
      rw [← e1]
      exact (HC.out.set g).2 (Or.inr (Or.inr (Or.inr (Or.inr hg))))
    · have k := HK5.out
      have hd := HD.out
      refine ⟨k.os.trans b0.os, k.tape.trans b0.tape, k.output.trans b0.output, by have := k.size; have := b0.size; simp; omega, fun g hg => ?_⟩
      rw [World.putObj_heap_other (by omega)]
      by_cases e1 : g = X
      · rw [e1]; exact HC.out.blk
      by_cases e2 : g = mb
      · rw [e2]; exact HC.out.map
      refine (k.kept g (Nat.lt_of_lt_of_le hg b0.size) (fun hs => ?_)).trans (b0.block g hg)
      rcases hs with e | e | e | e | e
      · omega
      · omega
      · exact e1 e
      · exact e2 e
      · simp [Value.ownBlock] at e
end
end Go.Proofs.Ytmlgoecdefeapaa
