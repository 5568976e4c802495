/-
  Parts of the proof, laid together: ScNew. The conditions stand at each part.
-/
import Derived.Test.YthhlglbohibekaaSPackP
namespace Go.Proofs.Ythhlglbohibekaa
open Go.RowKit

theorem obC_one (x : Nat × Int × Ob) : ∀ u ∈ obC x, u.oneCell' = true := fun u hu => by
  have hp : ∀ k d i, (ptrK k d i).oneCell' = true := fun k d i => by
    unfold ptrK
    split
    · rfl
    · rfl
  simp only [obC, List.mem_cons, List.not_mem_nil, or_false] at hu
  rcases hu with rfl | rfl | rfl | rfl | rfl | rfl
  · rfl
  · rfl
  all_goals exact hp _ _ _
theorem infoO : (Try.prog.info? 76).map (fun i => (i.zero, i.size, i.bytes)) = some (some (.agg #[.int .i64 0, .int .i64 0, .pointer none, .pointer none, .pointer none, .pointer none]), 6, 48) := by kernel_rfl
section
variable {w w1 w3 wE : World} {base D Dn R : Nat} {ro : Nat → Option Nat} {vT vL u : Value} {tv : List Tv} {od : List Nat} {T : List Tk} {L : List (Int × Ob)} {num : Int} {o : Ob}
theorem SkAt.addOb2 (h : SkAt w base D ro vT vL tv od T L) (b1 : Below w.heap.size w w1) (hob : ObAt w1 w.heap.size Dn (fun b => b = Dn) o) (hDn : w.heap.size ≤ Dn ∧ Dn < w1.heap.size) (hR : R ≠ Dn) (hR1 : w.heap.size ≤ R) (hR2 : R < w1.heap.size) (x : Obj) (h3 : Slid obC 6 ObT w3 u (od.zip L ++ [(Dn, num, o)])) (g3 : (w1.alloc x).grownBy w3 vL.ownBlock) (l3 : u.ownBlock = vL.ownBlock ∨ u.ownBlock = some (w1.alloc x).heap.size) (gE : (w3.setCell ⟨D, 1, none⟩ u).grownBy wE (some R)) :
    ∃ ro', SkAt wE base D ro' vT u tv (od ++ [Dn]) T (L ++ [(num, o)]) ∧ Kept w wE (fun b => ro b ≠ none) (fun b => ro' b ≠ none) := by
  obtain ⟨hs, hk⟩ := h.addOb b1 hob hDn x h3 g3 l3
  have key : ∀ b, (if b = Dn then some (L.length + 1) else if u.ownBlock = some b then some 0 else ro b) ≠ none → some b ≠ some R := fun b hb e => by
    have e := Option.some.inj e
    subst e
    rw [if_neg hR] at hb
    by_cases hu : u.ownBlock = some b
    · rcases l3 with l3 | l3
      · rw [hu] at l3
        have := h.os.at'.lt l3.symm
        omega
      · rw [hu] at l3
        have := Option.some.inj l3
        simp at this
        omega
    · rw [if_neg hu] at hb
      have := (h.bd b hb).2
      omega
  exact ⟨_, hs.keep gE.size (fun b hb => gE.block b (hs.bd b hb).2 (key b hb)), ⟨gE.os.trans hk.os, gE.tape.trans hk.tape, gE.output.trans hk.output, Nat.le_trans hk.size gE.size, hk.old, fun b hb hn => (gE.block b (by have := hk.size; omega) (fun e => by have := Option.some.inj e; omega)).trans (hk.kept b hb hn)⟩⟩
end
section
variable {P : Program} {md : Region.Mode} {Q : Exit → Act → World → Prop} {S : World → Prop} {fuel : Nat} {listed : Array Bool} {a : Act} {w : World} {l : List Oper}
theorem rd4_6 {o0 o1 o2 o3 o4 o5 o6 : Oper} (hr : Region.ready md (o0 :: o1 :: o2 :: o3 :: o4 :: o5 :: o6 :: l).toArray listed = [4, 6]) (hw0 : Region.wanted o4 (yielded (o0 :: o1 :: o2 :: o3 :: o4 :: o5 :: o6 :: l).toArray a.tmps) = true) (hw1 : Region.wanted o6 (yielded (o0 :: o1 :: o2 :: o3 :: o4 :: o5 :: o6 :: l).toArray a.tmps) = true)
    (h0 : ∀ K' : Act → World → Prop, Shut (∀ a w, S w → (S w → wpAnyH P md (o0 :: o1 :: o2 :: o3 :: o4 :: o5 :: o6 :: l).toArray Q S fuel (listed.setIfInBounds 4 true) a w) → K' a w) → Oper.wp P o4 a w K' Q)
    (h1 : ∀ K' : Act → World → Prop, Shut (∀ a w, S w → (S w → wpAnyH P md (o0 :: o1 :: o2 :: o3 :: o4 :: o5 :: o6 :: l).toArray Q S fuel (listed.setIfInBounds 6 true) a w) → K' a w) → Oper.wp P o6 a w K' Q) : wpAnyH P md (o0 :: o1 :: o2 :: o3 :: o4 :: o5 :: o6 :: l).toArray Q S (fuel + 1) listed a w :=
  wpAnyH_ready hr (by simp) (AllReadyH.cons (o := o4) rfl (fun K hK => by rw [if_pos hw0]; exact h0 K hK) (AllReadyH.cons (o := o6) rfl (fun K hK => by rw [if_pos hw1]; exact h1 K hK) AllReadyH.nil))
end
section
variable {w : World} {base D : Nat} {ro : Nat → Option Nat} {vT vL : Value} {tv : List Tv} {od : List Nat} {T : List Tk} {L : List (Int × Ob)}
set_option maxHeartbeats 6400000 in
set_option maxRecDepth 100000 in
theorem sk_object_new0 (h : SkAt w base D ro vT vL tv od T L) (num : Int) (hL : L.length < 65536) (hf : obFind L 0 num = L.length) : Calls Try.prog 34 #[.pointer (some ⟨D, 0, none⟩), .int .i64 0, .int .i64 num] w fun e w' => ∃ ro' vL' d, e = .returned (.agg (obC (d, num, obNew 0)).toArray) ∧ SkAt w' base D ro' vT vL' tv (od ++ [d]) T (L ++ [(num, obNew 0)]) ∧ Kept w w' (fun b => ro b ≠ none) (fun b => ro' b ≠ none) := by
  have HF : Hid (obFind L 0 num = L.length) := hf
  have B1 : Hid _ := (Below.refl _ w).alloc (Nat.le_refl _) (.cells #[.int .i64 0, .int .i64 0, .pointer none, .pointer none, .pointer none, .pointer none] ObT)
  have R1 : Hid _ := heap_alloc_new w (.cells #[.int .i64 0, .int .i64 0, .pointer none, .pointer none, .pointer none, .pointer none] ObT)
  have HS0 : Hid (SkAt w base D ro vT vL tv od T L) := h
  have HS : Hid (SkAt _ base D ro vT vL tv od T L) := h.fresh B1.out
  obtain ⟨i0, hi, hz0, hz1, hz2⟩ := info_parts infoO
  have hol := h.ol
  clear h hf
  go_enter Try.func34, Try.ntmps34
  go_wp2
  generalize w.alloc (.cells #[.int .i64 0, .int .i64 0, .pointer none, .pointer none, .pointer none, .pointer none] ObT) = w1 at *
  obtain ⟨_, ⟨aL, cL, eL⟩, c0, c1, f0, f1, hD⟩ := HS.out.cells
  rw [eL] at c1
  subst eL
  go_loop [7] (fun i => ∃ j : Nat, j ≤ L.length ∧ i = .int .i64 j) (fun i => L.length - (RowKit.intOf i).toNat)
  case atStart => exact ⟨0, Nat.zero_le _, rfl⟩
  case round =>
    obtain ⟨j, hj, rfl⟩ := hrel
    by_cases hjl : j < L.length
    · have q0 : decide ((j : Int) < (L.length : Int)) = true := decide_eq_true (by omega)
      obtain ⟨bL, off, cap, e, hb, hcc⟩ := HS.out.objc j hjl (by omega)
      simp only [Value.slice.injEq] at e
      obtain ⟨rfl, _, rfl⟩ := e
      have z0 : w1.cell? ⟨bL, off + j * 6, none⟩ = some (.int .i64 L[j].2.k) := hcc 0 _ (by decide) rfl
      have z1 : w1.cell? ⟨bL, off + j * 6 + 1, none⟩ = some (.int .i64 L[j].1) := hcc 1 _ (by decide) rfl
      clear hcc
      have hn := obFind_not HF.out hjl hjl
      generalize L[j].2.k = K at *
      generalize L[j].1 = N at *
      by_cases hK : K = 0
      · have q1 : (K == 0) = true := beq_iff_eq.2 hK
        have q2 : (N == num) = false := by simpa [q1] using hn
        clear hn hK
        go_wp2
        go_round
        case rel => exact ⟨j + 1, by omega, by go_num⟩
        case measure => simp [RowKit.intOf]; omega
      · have q1 : (K == 0) = false := beq_eq_false_iff_ne.2 hK
        clear hn hK
        go_wp2
        go_round
        case rel => exact ⟨j + 1, by omega, by go_num⟩
        case measure => simp [RowKit.intOf]; omega
    · have hje : j = L.length := by omega
      subst hje
      have q0 : decide ((L.length : Int) < (L.length : Int)) = false := decide_eq_false (by omega)
      have hs1 := B1.out.size
      have HQ : Hid (∀ w2 : World, w2.heap[w1.heap.size]? = some (.cells #[.int .i64 0, .int .i64 num, .pointer none, .pointer none, .pointer none, .pointer none] 76 (0, 0)) → (w1.alloc (.cells #[.int .i64 0, .int .i64 0, .pointer none, .pointer none, .pointer none, .pointer none] ObT)).grownBy w2 (some w1.heap.size) → w1.heap.size < w2.heap.size ∧ w2.cell? ⟨w1.heap.size, 2, none⟩ = some (.pointer none) ∧ w2.frozen? ⟨w1.heap.size, 2, none⟩ = false) := fun w2 h2 _ => ⟨lt_of_block h2, by simp [World.cell?, h2], by simp [World.frozen?, h2]⟩
      · clear hj hjl
        go_wp2_with (first
          | (go_at_call 49; refine (rmnew w2).mono ?_; rintro e w3 ⟨rfl, k3, b3⟩; have y3 := (b3.cell (p := ⟨w1.heap.size, 2, none⟩) (by exact q3.1)).trans q3.2.1; have x3 := (b3.frozen (p := ⟨w1.heap.size, 2, none⟩) (by exact q3.1)).trans q3.2.2)
          | (show wpList _ _ _ (⟨_, Op.store 76 _ _, _, _, _, _⟩ :: _) _ _; refine store_row_g rfl 76 _ _ rfl w1.heap.size #[.int .i64 0, .int .i64 num, .pointer none, .pointer none, .pointer none, .pointer none] rfl rfl 76 #[.int .i64 0, .int .i64 0, .pointer none, .pointer none, .pointer none, .pointer none] (heap_alloc_new w1 _) infoO6 rfl (by simp [Value.oneCell']) ?_; intro w2 hE2 g2; have q3 := HQ.out w2 hE2 g2))
        have hM : ObAt w3 w2.heap.size w2.heap.size (fun b => b = w2.heap.size) (obNew 0) := ObAt.mk0 k3
        have hn3 : w2.heap.size < w3.heap.size := (hM.bd _ rfl).2
        have hs2 := q3.1
        have hRs : w.heap.size < w1.heap.size := lt_of_block R1.out
        have B3 : Below w.heap.size w w3 := bmm ((B1.out.alloc hs1 _).grown g2 (by simp; omega) (fun q hq => by rw [← Option.some.inj hq]; exact hs1)) (by omega) b3
        have hX3 := (b3.block _ hs2).trans hE2
        have hX4 : (w3.setCell ⟨w1.heap.size, 2, none⟩ (.pointer (some ⟨w2.heap.size, 0, none⟩))).drew.heap[w1.heap.size]? = some (.cells #[.int .i64 0, .int .i64 num, .pointer (some ⟨w2.heap.size, 0, none⟩), .pointer none, .pointer none, .pointer none] 76 (0, 0)) := by
          show (w3.setCell ⟨w1.heap.size, 2, none⟩ (.pointer (some ⟨w2.heap.size, 0, none⟩))).heap[w1.heap.size]? = _
          rw [heap_setCell_same w3 _ 2 _ _ _ hX3]
          rfl
        have ho4 : ∀ c, c ≠ w1.heap.size → (w3.setCell ⟨w1.heap.size, 2, none⟩ (.pointer (some ⟨w2.heap.size, 0, none⟩))).drew.heap[c]? = w3.heap[c]? := fun c hc => heap_setCell_other _ _ _ _ (by simpa using hc)
        have B4 : Below w.heap.size w (w3.setCell ⟨w1.heap.size, 2, none⟩ (.pointer (some ⟨w2.heap.size, 0, none⟩))).drew := (B3.setCell (p := ⟨w1.heap.size, 2, none⟩) hs1 _).drew
        have hO4 : ObAt (w3.setCell ⟨w1.heap.size, 2, none⟩ (.pointer (some ⟨w2.heap.size, 0, none⟩))).drew w.heap.size w2.heap.size (fun b => b = w2.heap.size) (obNew 0) := (hM.low (by omega)).keep (by simp) (fun b hb => ho4 b (by omega))
        have hs4 : (w3.setCell ⟨w1.heap.size, 2, none⟩ (.pointer (some ⟨w2.heap.size, 0, none⟩))).drew.heap.size = w3.heap.size := by simp
        have hR4 : (w3.setCell ⟨w1.heap.size, 2, none⟩ (.pointer (some ⟨w2.heap.size, 0, none⟩))).drew.heap[w.heap.size]? = some (.cells #[.int .i64 0, .int .i64 0, .pointer none, .pointer none, .pointer none, .pointer none] ObT (0, 0)) := by
          rw [ho4 _ (by omega), b3.block _ (by omega), g2.block _ (by simp; omega) (fun e => by have := Option.some.inj e; omega), Below.heap_alloc w1 _ _ hRs]
          exact R1.out
        generalize w3.setCell ⟨w1.heap.size, 2, none⟩ (.pointer (some ⟨w2.heap.size, 0, none⟩)) = w4 at *
        clear hX3 B3 hM ho4 x3 y3 k3 c0 c1 f0 f1 q0 q3 b3 hE2 g2 HQ HF R1 HS
        have hDl : D < w.heap.size := lt_of_block HS0.out.hd
        have HS5 := HS0.out.fresh B4
        have hzl : Hid ((od.zip L).length = L.length) := by
          show _ = _
          rw [List.length_zip, hol, Nat.min_self]
        have hvD := HS5.os.at'.ne HS5.hd (by decide)
        have hvl : ∀ g, Value.ownBlock (.slice aL L.length cL) = some g → g < w.heap.size := fun g hg => HS0.out.os.at'.lt hg
        have hb4 := B4.size
        have hdr : w4.drew.heap.size = w4.heap.size := rfl
        obtain ⟨_, _, _, c1, _, f1, _⟩ := HS5.cells
        have za : ∀ o, (w4.drew.alloc o).cell? ⟨D, 1, none⟩ = some (.slice aL L.length cL) := fun o => (World.cell?_of_block (a := ⟨D, 1, none⟩) (Below.heap_alloc w4.drew o D (by omega))).trans c1
        have hXl : w1.heap.size < w4.drew.heap.size := by omega
        have hXD : w1.heap.size ≠ D := by omega
        have HX : Hid (w4.drew.heap[w1.heap.size]? = _) := hX4
        have HL : Hid (∀ o, Slid obC 6 ObT (w4.drew.alloc o) (.slice aL L.length cL) (od.zip L)) := fun o => HS5.os.at'.keep (fun g hg => Below.heap_alloc _ o g (HS5.os.at'.lt hg))
        have HG : Hid (∀ (o : Obj) (w7 : World), (w4.drew.alloc o).grownBy w7 (Value.ownBlock (.slice aL L.length cL)) → w7.cell? ⟨D, 1, none⟩ = some (.slice aL L.length cL) ∧ w7.frozen? ⟨D, 1, none⟩ = false ∧ w7.heap[w1.heap.size]? = some (.cells #[.int .i64 0, .int .i64 num, .pointer (some ⟨w2.heap.size, 0, none⟩), .pointer none, .pointer none, .pointer none] 76 (0, 0))) := fun o w7 g7 => by
          have e7 : w7.heap[D]? = some (.cells #[vT, .slice aL L.length cL] SkT (0, 0)) := by
            rw [g7.block D (by simp; omega) (fun e => hvD e.symm), Below.heap_alloc w4.drew o D (by omega)]
            exact HS5.hd
          refine ⟨by simp [World.cell?, e7], by simp [World.frozen?, e7], ?_⟩
          rw [g7.block _ (by simp; omega) (fun e => by have := hvl _ e.symm; omega), Below.heap_alloc w4.drew o _ hXl]
          exact hX4
        have HRR : Hid (∀ (o : Obj) (w7 : World), (w4.drew.alloc o).grownBy w7 (Value.ownBlock (.slice aL L.length cL)) → ∀ u, (w7.setCell ⟨D, 1, none⟩ u).heap[w.heap.size]? = some (.cells #[.int .i64 0, .int .i64 0, .pointer none, .pointer none, .pointer none, .pointer none] 76 (0, 0))) := fun o w7 g7 u => by
          rw [heap_setCell_other _ _ _ _ (by simp; omega), g7.block _ (by simp; omega) (fun e => by have := hvl _ e.symm; omega), Below.heap_alloc w4.drew o _ (by omega)]
          exact hR4
        have FIN : Hid (∀ (o : Obj) (u : Value) (w7 wE : World), Slid obC 6 ObT w7 u (od.zip L ++ [(w2.heap.size, num, obNew 0)]) → (w4.drew.alloc o).grownBy w7 (Value.ownBlock (.slice aL L.length cL)) → (u.ownBlock = Value.ownBlock (.slice aL L.length cL) ∨ u.ownBlock = some (w4.drew.alloc o).heap.size) → (w7.setCell ⟨D, 1, none⟩ u).grownBy wE (some w.heap.size) → ∃ ro' vL' d, Ending.returned (.agg #[.int .i64 0, .int .i64 num, .pointer (some ⟨w2.heap.size, 0, none⟩), .pointer none, .pointer none, .pointer none]) = Ending.returned (.agg (obC (d, num, obNew 0)).toArray) ∧ SkAt wE base D ro' vT vL' tv (od ++ [d]) T (L ++ [(num, obNew 0)]) ∧ Kept w wE (fun b => ro b ≠ none) (fun b => ro' b ≠ none)) := fun o u w7 wE h3 g3 l3 gE => by
          obtain ⟨ro', k1, k2⟩ := HS0.out.addOb2 B4 hO4 ⟨by omega, by omega⟩ (by omega) (Nat.le_refl _) (by omega) o h3 g3 l3 gE
          exact ⟨ro', u, w2.heap.size, rfl, k1, k2⟩
        clear HS0 HS5 B4 hO4 hX4 hR4 hvD hvl hs4 hb4 hdr B1 hs1 hs2 hRs hn3
        generalize w1.heap.size = X at *
        generalize w2.heap.size = Dn at *
        refine wp_region_held_drew (S := (fun w' : World => w'.heap[X]? = some (.cells #[.int .i64 0, .int .i64 num, .pointer (some ⟨Dn, 0, none⟩), .pointer none, .pointer none, .pointer none] 76 (0, 0)))) (by kernel_rfl) ?_ (fun hHeld0 => ?_)
        · exact HX.out
        generalize w4.drew = w5 at *
        clear hHeld0
        have hHeld0 := HX.out
        refine tk0 (.pointer (some ⟨D, 0, none⟩)) ?_
        try simp only [Act.put, pu1, pu2, pu3]
        refine tk1 (.pointer (some ⟨D, 0, none⟩)) ?_
        try simp only [Act.put, pu1, pu2, pu3]
        refine tk2 (.pointer (some ⟨D, 0, none⟩)) ?_
        try simp only [Act.put, pu1, pu2, pu3]
        refine tk3 (.pointer (some ⟨D, 1, none⟩)) ?_
        try simp only [Act.put, pu1, pu2, pu3]
        refine tk5 (.agg #[.int .i64 0, .int .i64 num, .pointer (some ⟨Dn, 0, none⟩), .pointer none, .pointer none, .pointer none]) ?_ (fun w hSw => by (try dsimp only at hSw); have x0 : w.cell? ⟨X, 0, none⟩ = some (.int .i64 0)  := (by simp [World.cell?, hSw]); have x1 : w.cell? ⟨X, 1, none⟩ = some (.int .i64 num)  := (by simp [World.cell?, hSw]); have x2 : w.cell? ⟨X, 2, none⟩ = some (.pointer (some ⟨Dn, 0, none⟩))  := (by simp [World.cell?, hSw]); have x3 : w.cell? ⟨X, 3, none⟩ = some (.pointer none)  := (by simp [World.cell?, hSw]); have x4 : w.cell? ⟨X, 4, none⟩ = some (.pointer none)  := (by simp [World.cell?, hSw]); have x5 : w.cell? ⟨X, 5, none⟩ = some (.pointer none)  := (by simp [World.cell?, hSw]); clear hSw; go_simp)
        try simp only [Act.put, pu1, pu2, pu3]
        refine rd4_6 (by kernel_rfl) rfl rfl (fun K hK => ?_) (fun K hK => ?_)
        · go_simp
          refine hK.out _ _ ?_ (fun hHeld => ?_)
          · first | exact HX.out | exact (Below.heap_alloc w5 _ X hXl).trans HX.out
          clear hK K
          try simp only [Act.put, pu1, pu2, pu3]
          refine cl6 (by kernel_rfl) rfl (fun K hK => ?_)
          go_simp
          refine hK.out _ _ ?_ (fun hHeld => ?_)
          · exact (Below.heap_alloc w5 _ X hXl).trans HX.out
          clear hK K
          try simp only [Act.put, pu1, pu2, pu3]
          refine cl7 (by kernel_rfl) rfl (fun K hK => ?_)
          refine wp_app_slid (v := .slice aL L.length cL) (k := 6) (enc := obC) (l := od.zip L) (m := [(Dn, num, obNew 0)]) (.tmp 71) (.tmp 73) 62 rfl i0 _ 48 Try.underlying62 hi hz0 hz1 hz2 rfl obC_len obC_one rfl (HL.out _) ⟨w5.heap.size, 0, none⟩ 1 1 rfl rfl (by exact World.news_of_block (heap_alloc_new w5 _)) (by simp) (by unfold maxLen; rw [hzl.out]; simp; omega) (by rw [hzl.out]; simp; omega) ?_
          intro u7 w7 h7 g7 l7
          obtain ⟨y7, x7, s7⟩ := HG.out _ w7 g7
          obtain ⟨p7, n7, rfl⟩ : ∃ p n, u7 = .slice p (L.length + 1) n := (by obtain ⟨a, c, e⟩ := h7.form; exact ⟨a, c, by rw [e, List.length_append, hzl.out]; simp⟩)
          refine hK.out _ _ ?_ (fun hHeld => ?_)
          · exact s7
          clear hK K
          try simp only [Act.put, pu1, pu2, pu3]
          refine tk8 (.pointer (some ⟨D, 0, none⟩)) ?_
          try simp only [Act.put, pu1, pu2, pu3]
          refine tk9 (.pointer (some ⟨D, 1, none⟩)) ?_
          try simp only [Act.put, pu1, pu2, pu3]
          refine cl10 (by kernel_rfl) rfl (fun K hK => ?_)
          go_simp
          refine hK.out _ _ ?_ (fun hHeld => ?_)
          · exact s7.symm ▸ (heap_setCell_other _ _ _ _ (by simpa using hXD))
          clear hK K
          try simp only [Act.put, pu1, pu2, pu3]
          refine wpAnyH_done (by kernel_rfl) ?_ _
          have hXX : (w7.setCell ⟨D, 1, none⟩ (.slice p7 (L.length + 1) n7)).heap[X]? = _ := (heap_setCell_other _ _ _ _ (by simpa using hXD)).trans s7
          have x0 : (w7.setCell ⟨D, 1, none⟩ (.slice p7 (L.length + 1) n7)).cell? ⟨X, 0, none⟩ = some (.int .i64 0) := by simp only [World.cell?, hXX]; rfl
          have x1 : (w7.setCell ⟨D, 1, none⟩ (.slice p7 (L.length + 1) n7)).cell? ⟨X, 1, none⟩ = some (.int .i64 num) := by simp only [World.cell?, hXX]; rfl
          have x2 : (w7.setCell ⟨D, 1, none⟩ (.slice p7 (L.length + 1) n7)).cell? ⟨X, 2, none⟩ = some (.pointer (some ⟨Dn, 0, none⟩)) := by simp only [World.cell?, hXX]; rfl
          have x3 : (w7.setCell ⟨D, 1, none⟩ (.slice p7 (L.length + 1) n7)).cell? ⟨X, 3, none⟩ = some (.pointer none) := by simp only [World.cell?, hXX]; rfl
          have x4 : (w7.setCell ⟨D, 1, none⟩ (.slice p7 (L.length + 1) n7)).cell? ⟨X, 4, none⟩ = some (.pointer none) := by simp only [World.cell?, hXX]; rfl
          have x5 : (w7.setCell ⟨D, 1, none⟩ (.slice p7 (L.length + 1) n7)).cell? ⟨X, 5, none⟩ = some (.pointer none) := by simp only [World.cell?, hXX]; rfl
          have hRR : Hid _ := HRR.out _ _ g7 (.slice p7 (L.length + 1) n7)
          clear hXX y7 x7 s7 hHeld0
          go_wp2_with (show wpList _ _ _ (⟨_, Op.store 76 _ _, _, _, _, _⟩ :: _) _ _; refine store_row_g rfl 76 _ _ rfl w.heap.size #[.int .i64 0, .int .i64 num, .pointer (some ⟨Dn, 0, none⟩), .pointer none, .pointer none, .pointer none] rfl rfl 76 #[.int .i64 0, .int .i64 0, .pointer none, .pointer none, .pointer none, .pointer none] hRR.out infoO6 rfl (by simp [Value.oneCell']) ?_; intro wE hE gE)
          refine bodyPost_ret (results_cell_row Try.results34 _ _ w.heap.size 76 _ (0, 0) _ rfl hE Try.underlying76 rfl infoO6) rfl ?_
          exact FIN.out _ _ _ _ h7 g7 l7 gE
        · go_simp
          refine hK.out _ _ ?_ (fun hHeld => ?_)
          · exact (Below.heap_alloc w5 _ X hXl).trans HX.out
          clear hK K
          try simp only [Act.put, pu1, pu2, pu3]
          refine cl4 (by kernel_rfl) rfl (fun K hK => ?_)
          go_simp
          refine hK.out _ _ ?_ (fun hHeld => ?_)
          · first | exact HX.out | exact (Below.heap_alloc w5 _ X hXl).trans HX.out
          clear hK K
          try simp only [Act.put, pu1, pu2, pu3]
          refine cl7 (by kernel_rfl) rfl (fun K hK => ?_)
          refine wp_app_slid (v := .slice aL L.length cL) (k := 6) (enc := obC) (l := od.zip L) (m := [(Dn, num, obNew 0)]) (.tmp 71) (.tmp 73) 62 rfl i0 _ 48 Try.underlying62 hi hz0 hz1 hz2 rfl obC_len obC_one rfl (HL.out _) ⟨w5.heap.size, 0, none⟩ 1 1 rfl rfl (by exact World.news_of_block (heap_alloc_new w5 _)) (by simp) (by unfold maxLen; rw [hzl.out]; simp; omega) (by rw [hzl.out]; simp; omega) ?_
          intro u7 w7 h7 g7 l7
          obtain ⟨y7, x7, s7⟩ := HG.out _ w7 g7
          obtain ⟨p7, n7, rfl⟩ : ∃ p n, u7 = .slice p (L.length + 1) n := (by obtain ⟨a, c, e⟩ := h7.form; exact ⟨a, c, by rw [e, List.length_append, hzl.out]; simp⟩)
          refine hK.out _ _ ?_ (fun hHeld => ?_)
          · exact s7
          clear hK K
          try simp only [Act.put, pu1, pu2, pu3]
          refine tk8 (.pointer (some ⟨D, 0, none⟩)) ?_
          try simp only [Act.put, pu1, pu2, pu3]
          refine tk9 (.pointer (some ⟨D, 1, none⟩)) ?_
          try simp only [Act.put, pu1, pu2, pu3]
          refine cl10 (by kernel_rfl) rfl (fun K hK => ?_)
          go_simp
          refine hK.out _ _ ?_ (fun hHeld => ?_)
          · exact s7.symm ▸ (heap_setCell_other _ _ _ _ (by simpa using hXD))
          clear hK K
          try simp only [Act.put, pu1, pu2, pu3]
          refine wpAnyH_done (by kernel_rfl) ?_ _
          have hXX : (w7.setCell ⟨D, 1, none⟩ (.slice p7 (L.length + 1) n7)).heap[X]? = _ := (heap_setCell_other _ _ _ _ (by simpa using hXD)).trans s7
          have x0 : (w7.setCell ⟨D, 1, none⟩ (.slice p7 (L.length + 1) n7)).cell? ⟨X, 0, none⟩ = some (.int .i64 0) := by simp only [World.cell?, hXX]; rfl
          have x1 : (w7.setCell ⟨D, 1, none⟩ (.slice p7 (L.length + 1) n7)).cell? ⟨X, 1, none⟩ = some (.int .i64 num) := by simp only [World.cell?, hXX]; rfl
          have x2 : (w7.setCell ⟨D, 1, none⟩ (.slice p7 (L.length + 1) n7)).cell? ⟨X, 2, none⟩ = some (.pointer (some ⟨Dn, 0, none⟩)) := by simp only [World.cell?, hXX]; rfl
          have x3 : (w7.setCell ⟨D, 1, none⟩ (.slice p7 (L.length + 1) n7)).cell? ⟨X, 3, none⟩ = some (.pointer none) := by simp only [World.cell?, hXX]; rfl
          have x4 : (w7.setCell ⟨D, 1, none⟩ (.slice p7 (L.length + 1) n7)).cell? ⟨X, 4, none⟩ = some (.pointer none) := by simp only [World.cell?, hXX]; rfl
          have x5 : (w7.setCell ⟨D, 1, none⟩ (.slice p7 (L.length + 1) n7)).cell? ⟨X, 5, none⟩ = some (.pointer none) := by simp only [World.cell?, hXX]; rfl
          have hRR : Hid _ := HRR.out _ _ g7 (.slice p7 (L.length + 1) n7)
          clear hXX y7 x7 s7 hHeld0
          go_wp2_with (show wpList _ _ _ (⟨_, Op.store 76 _ _, _, _, _, _⟩ :: _) _ _; refine store_row_g rfl 76 _ _ rfl w.heap.size #[.int .i64 0, .int .i64 num, .pointer (some ⟨Dn, 0, none⟩), .pointer none, .pointer none, .pointer none] rfl rfl 76 #[.int .i64 0, .int .i64 0, .pointer none, .pointer none, .pointer none, .pointer none] hRR.out infoO6 rfl (by simp [Value.oneCell']) ?_; intro wE hE gE)
          refine bodyPost_ret (results_cell_row Try.results34 _ _ w.heap.size 76 _ (0, 0) _ rfl hE Try.underlying76 rfl infoO6) rfl ?_
          exact FIN.out _ _ _ _ h7 g7 l7 gE
end
section
variable {w : World} {base D : Nat} {ro : Nat → Option Nat} {vT vL : Value} {tv : List Tv} {od : List Nat} {T : List Tk} {L : List (Int × Ob)}
set_option maxHeartbeats 6400000 in
set_option maxRecDepth 100000 in
theorem sk_object_new1 (h : SkAt w base D ro vT vL tv od T L) (num : Int) (hL : L.length < 65536) (hf : obFind L 1 num = L.length) : Calls Try.prog 34 #[.pointer (some ⟨D, 0, none⟩), .int .i64 1, .int .i64 num] w fun e w' => ∃ ro' vL' d, e = .returned (.agg (obC (d, num, obNew 1)).toArray) ∧ SkAt w' base D ro' vT vL' tv (od ++ [d]) T (L ++ [(num, obNew 1)]) ∧ Kept w w' (fun b => ro b ≠ none) (fun b => ro' b ≠ none) := by
  have HF : Hid (obFind L 1 num = L.length) := hf
  have B1 : Hid _ := (Below.refl _ w).alloc (Nat.le_refl _) (.cells #[.int .i64 0, .int .i64 0, .pointer none, .pointer none, .pointer none, .pointer none] ObT)
  have R1 : Hid _ := heap_alloc_new w (.cells #[.int .i64 0, .int .i64 0, .pointer none, .pointer none, .pointer none, .pointer none] ObT)
  have HS0 : Hid (SkAt w base D ro vT vL tv od T L) := h
  have HS : Hid (SkAt _ base D ro vT vL tv od T L) := h.fresh B1.out
  obtain ⟨i0, hi, hz0, hz1, hz2⟩ := info_parts infoO
  have hol := h.ol
  clear h hf
  go_enter Try.func34, Try.ntmps34
  go_wp2
  generalize w.alloc (.cells #[.int .i64 0, .int .i64 0, .pointer none, .pointer none, .pointer none, .pointer none] ObT) = w1 at *
  obtain ⟨_, ⟨aL, cL, eL⟩, c0, c1, f0, f1, hD⟩ := HS.out.cells
  rw [eL] at c1
  subst eL
  go_loop [7] (fun i => ∃ j : Nat, j ≤ L.length ∧ i = .int .i64 j) (fun i => L.length - (RowKit.intOf i).toNat)
  case atStart => exact ⟨0, Nat.zero_le _, rfl⟩
  case round =>
    obtain ⟨j, hj, rfl⟩ := hrel
    by_cases hjl : j < L.length
    · have q0 : decide ((j : Int) < (L.length : Int)) = true := decide_eq_true (by omega)
      obtain ⟨bL, off, cap, e, hb, hcc⟩ := HS.out.objc j hjl (by omega)
      simp only [Value.slice.injEq] at e
      obtain ⟨rfl, _, rfl⟩ := e
      have z0 : w1.cell? ⟨bL, off + j * 6, none⟩ = some (.int .i64 L[j].2.k) := hcc 0 _ (by decide) rfl
      have z1 : w1.cell? ⟨bL, off + j * 6 + 1, none⟩ = some (.int .i64 L[j].1) := hcc 1 _ (by decide) rfl
      clear hcc
      have hn := obFind_not HF.out hjl hjl
      generalize L[j].2.k = K at *
      generalize L[j].1 = N at *
      by_cases hK : K = 1
      · have q1 : (K == 1) = true := beq_iff_eq.2 hK
        have q2 : (N == num) = false := by simpa [q1] using hn
        clear hn hK
        go_wp2
        go_round
        case rel => exact ⟨j + 1, by omega, by go_num⟩
        case measure => simp [RowKit.intOf]; omega
      · have q1 : (K == 1) = false := beq_eq_false_iff_ne.2 hK
        clear hn hK
        go_wp2
        go_round
        case rel => exact ⟨j + 1, by omega, by go_num⟩
        case measure => simp [RowKit.intOf]; omega
    · have hje : j = L.length := by omega
      subst hje
      have q0 : decide ((L.length : Int) < (L.length : Int)) = false := decide_eq_false (by omega)
      have hs1 := B1.out.size
      have HQ : Hid (∀ w2 : World, w2.heap[w1.heap.size]? = some (.cells #[.int .i64 1, .int .i64 num, .pointer none, .pointer none, .pointer none, .pointer none] 76 (0, 0)) → (w1.alloc (.cells #[.int .i64 0, .int .i64 0, .pointer none, .pointer none, .pointer none, .pointer none] ObT)).grownBy w2 (some w1.heap.size) → w1.heap.size < w2.heap.size ∧ w2.cell? ⟨w1.heap.size, 3, none⟩ = some (.pointer none) ∧ w2.frozen? ⟨w1.heap.size, 3, none⟩ = false) := fun w2 h2 _ => ⟨lt_of_block h2, by simp [World.cell?, h2], by simp [World.frozen?, h2]⟩
      · clear hj hjl
        go_wp2_with (show wpList _ _ _ (⟨_, Op.store 76 _ _, _, _, _, _⟩ :: _) _ _; refine store_row_g rfl 76 _ _ rfl w1.heap.size #[.int .i64 1, .int .i64 num, .pointer none, .pointer none, .pointer none, .pointer none] rfl rfl 76 #[.int .i64 0, .int .i64 0, .pointer none, .pointer none, .pointer none, .pointer none] (heap_alloc_new w1 _) infoO6 rfl (by simp [Value.oneCell']) ?_; intro w2 hE2 g2; have q3 := HQ.out w2 hE2 g2; have hXa := (Below.heap_alloc w2 (.cells #[.slice none 0 0, .bool false, .slice none 0 0] 89) _ q3.1).trans hE2; have y3 : (w2.alloc (.cells #[.slice none 0 0, .bool false, .slice none 0 0] 89)).cell? ⟨w1.heap.size, 3, none⟩ = some (.pointer none) := (World.cell?_of_block (a := ⟨w1.heap.size, 3, none⟩) (Below.heap_alloc w2 _ _ q3.1)).trans q3.2.1; have x3 : (w2.alloc (.cells #[.slice none 0 0, .bool false, .slice none 0 0] 89)).frozen? ⟨w1.heap.size, 3, none⟩ = false := (World.frozen?_of_block (a := ⟨w1.heap.size, 3, none⟩) (Below.heap_alloc w2 _ _ q3.1)).trans q3.2.2; clear hXa)
        rw [← World.setCell_alloc_past (.cells #[.slice none 0 0, .bool false, .slice none 0 0] 89) w1.heap.size 3 (.pointer (some ⟨w2.heap.size, 0, none⟩)) q3.1]
        have hM : ObAt (w2.alloc (.cells #[.slice none 0 0, .bool false, .slice none 0 0] 89)) w2.heap.size w2.heap.size (fun b => b = w2.heap.size) (obNew 1) := ObAt.mk1 (RwAt.new w2)
        have b3 : Below w2.heap.size w2 (w2.alloc (.cells #[.slice none 0 0, .bool false, .slice none 0 0] 89)) := (Below.refl _ w2).alloc (Nat.le_refl _) _
        have hn3 : w2.heap.size < (w2.alloc (.cells #[.slice none 0 0, .bool false, .slice none 0 0] 89)).heap.size := (hM.bd _ rfl).2
        generalize (w2.alloc (.cells #[.slice none 0 0, .bool false, .slice none 0 0] 89)) = w3 at *
        have hs2 := q3.1
        have hRs : w.heap.size < w1.heap.size := lt_of_block R1.out
        have B3 : Below w.heap.size w w3 := bmm ((B1.out.alloc hs1 _).grown g2 (by simp; omega) (fun q hq => by rw [← Option.some.inj hq]; exact hs1)) (by omega) b3
        have hX3 := (b3.block _ hs2).trans hE2
        have hX4 : (w3.setCell ⟨w1.heap.size, 3, none⟩ (.pointer (some ⟨w2.heap.size, 0, none⟩))).drew.heap[w1.heap.size]? = some (.cells #[.int .i64 1, .int .i64 num, .pointer none, .pointer (some ⟨w2.heap.size, 0, none⟩), .pointer none, .pointer none] 76 (0, 0)) := by
          show (w3.setCell ⟨w1.heap.size, 3, none⟩ (.pointer (some ⟨w2.heap.size, 0, none⟩))).heap[w1.heap.size]? = _
          rw [heap_setCell_same w3 _ 3 _ _ _ hX3]
          rfl
        have ho4 : ∀ c, c ≠ w1.heap.size → (w3.setCell ⟨w1.heap.size, 3, none⟩ (.pointer (some ⟨w2.heap.size, 0, none⟩))).drew.heap[c]? = w3.heap[c]? := fun c hc => heap_setCell_other _ _ _ _ (by simpa using hc)
        have B4 : Below w.heap.size w (w3.setCell ⟨w1.heap.size, 3, none⟩ (.pointer (some ⟨w2.heap.size, 0, none⟩))).drew := (B3.setCell (p := ⟨w1.heap.size, 3, none⟩) hs1 _).drew
        have hO4 : ObAt (w3.setCell ⟨w1.heap.size, 3, none⟩ (.pointer (some ⟨w2.heap.size, 0, none⟩))).drew w.heap.size w2.heap.size (fun b => b = w2.heap.size) (obNew 1) := (hM.low (by omega)).keep (by simp) (fun b hb => ho4 b (by omega))
        have hs4 : (w3.setCell ⟨w1.heap.size, 3, none⟩ (.pointer (some ⟨w2.heap.size, 0, none⟩))).drew.heap.size = w3.heap.size := by simp
        have hR4 : (w3.setCell ⟨w1.heap.size, 3, none⟩ (.pointer (some ⟨w2.heap.size, 0, none⟩))).drew.heap[w.heap.size]? = some (.cells #[.int .i64 0, .int .i64 0, .pointer none, .pointer none, .pointer none, .pointer none] ObT (0, 0)) := by
          rw [ho4 _ (by omega), b3.block _ (by omega), g2.block _ (by simp; omega) (fun e => by have := Option.some.inj e; omega), Below.heap_alloc w1 _ _ hRs]
          exact R1.out
        generalize w3.setCell ⟨w1.heap.size, 3, none⟩ (.pointer (some ⟨w2.heap.size, 0, none⟩)) = w4 at *
        clear hX3 B3 hM ho4 x3 y3 c0 c1 f0 f1 q0 q3 b3 hE2 g2 HQ HF R1 HS
        have hDl : D < w.heap.size := lt_of_block HS0.out.hd
        have HS5 := HS0.out.fresh B4
        have hzl : Hid ((od.zip L).length = L.length) := by
          show _ = _
          rw [List.length_zip, hol, Nat.min_self]
        have hvD := HS5.os.at'.ne HS5.hd (by decide)
        have hvl : ∀ g, Value.ownBlock (.slice aL L.length cL) = some g → g < w.heap.size := fun g hg => HS0.out.os.at'.lt hg
        have hb4 := B4.size
        have hdr : w4.drew.heap.size = w4.heap.size := rfl
        obtain ⟨_, _, _, c1, _, f1, _⟩ := HS5.cells
        have za : ∀ o, (w4.drew.alloc o).cell? ⟨D, 1, none⟩ = some (.slice aL L.length cL) := fun o => (World.cell?_of_block (a := ⟨D, 1, none⟩) (Below.heap_alloc w4.drew o D (by omega))).trans c1
        have hXl : w1.heap.size < w4.drew.heap.size := by omega
        have hXD : w1.heap.size ≠ D := by omega
        have HX : Hid (w4.drew.heap[w1.heap.size]? = _) := hX4
        have HL : Hid (∀ o, Slid obC 6 ObT (w4.drew.alloc o) (.slice aL L.length cL) (od.zip L)) := fun o => HS5.os.at'.keep (fun g hg => Below.heap_alloc _ o g (HS5.os.at'.lt hg))
        have HG : Hid (∀ (o : Obj) (w7 : World), (w4.drew.alloc o).grownBy w7 (Value.ownBlock (.slice aL L.length cL)) → w7.cell? ⟨D, 1, none⟩ = some (.slice aL L.length cL) ∧ w7.frozen? ⟨D, 1, none⟩ = false ∧ w7.heap[w1.heap.size]? = some (.cells #[.int .i64 1, .int .i64 num, .pointer none, .pointer (some ⟨w2.heap.size, 0, none⟩), .pointer none, .pointer none] 76 (0, 0))) := fun o w7 g7 => by
          have e7 : w7.heap[D]? = some (.cells #[vT, .slice aL L.length cL] SkT (0, 0)) := by
            rw [g7.block D (by simp; omega) (fun e => hvD e.symm), Below.heap_alloc w4.drew o D (by omega)]
            exact HS5.hd
          refine ⟨by simp [World.cell?, e7], by simp [World.frozen?, e7], ?_⟩
          rw [g7.block _ (by simp; omega) (fun e => by have := hvl _ e.symm; omega), Below.heap_alloc w4.drew o _ hXl]
          exact hX4
        have HRR : Hid (∀ (o : Obj) (w7 : World), (w4.drew.alloc o).grownBy w7 (Value.ownBlock (.slice aL L.length cL)) → ∀ u, (w7.setCell ⟨D, 1, none⟩ u).heap[w.heap.size]? = some (.cells #[.int .i64 0, .int .i64 0, .pointer none, .pointer none, .pointer none, .pointer none] 76 (0, 0))) := fun o w7 g7 u => by
          rw [heap_setCell_other _ _ _ _ (by simp; omega), g7.block _ (by simp; omega) (fun e => by have := hvl _ e.symm; omega), Below.heap_alloc w4.drew o _ (by omega)]
          exact hR4
        have FIN : Hid (∀ (o : Obj) (u : Value) (w7 wE : World), Slid obC 6 ObT w7 u (od.zip L ++ [(w2.heap.size, num, obNew 1)]) → (w4.drew.alloc o).grownBy w7 (Value.ownBlock (.slice aL L.length cL)) → (u.ownBlock = Value.ownBlock (.slice aL L.length cL) ∨ u.ownBlock = some (w4.drew.alloc o).heap.size) → (w7.setCell ⟨D, 1, none⟩ u).grownBy wE (some w.heap.size) → ∃ ro' vL' d, Ending.returned (.agg #[.int .i64 1, .int .i64 num, .pointer none, .pointer (some ⟨w2.heap.size, 0, none⟩), .pointer none, .pointer none]) = Ending.returned (.agg (obC (d, num, obNew 1)).toArray) ∧ SkAt wE base D ro' vT vL' tv (od ++ [d]) T (L ++ [(num, obNew 1)]) ∧ Kept w wE (fun b => ro b ≠ none) (fun b => ro' b ≠ none)) := fun o u w7 wE h3 g3 l3 gE => by
          obtain ⟨ro', k1, k2⟩ := HS0.out.addOb2 B4 hO4 ⟨by omega, by omega⟩ (by omega) (Nat.le_refl _) (by omega) o h3 g3 l3 gE
          exact ⟨ro', u, w2.heap.size, rfl, k1, k2⟩
        clear HS0 HS5 B4 hO4 hX4 hR4 hvD hvl hs4 hb4 hdr B1 hs1 hs2 hRs hn3
        generalize w1.heap.size = X at *
        generalize w2.heap.size = Dn at *
        refine wp_region_held_drew (S := (fun w' : World => w'.heap[X]? = some (.cells #[.int .i64 1, .int .i64 num, .pointer none, .pointer (some ⟨Dn, 0, none⟩), .pointer none, .pointer none] 76 (0, 0)))) (by kernel_rfl) ?_ (fun hHeld0 => ?_)
        · exact HX.out
        generalize w4.drew = w5 at *
        clear hHeld0
        have hHeld0 := HX.out
        refine tk0 (.pointer (some ⟨D, 0, none⟩)) ?_
        try simp only [Act.put, pu1, pu2, pu3]
        refine tk1 (.pointer (some ⟨D, 0, none⟩)) ?_
        try simp only [Act.put, pu1, pu2, pu3]
        refine tk2 (.pointer (some ⟨D, 0, none⟩)) ?_
        try simp only [Act.put, pu1, pu2, pu3]
        refine tk3 (.pointer (some ⟨D, 1, none⟩)) ?_
        try simp only [Act.put, pu1, pu2, pu3]
        refine tk5 (.agg #[.int .i64 1, .int .i64 num, .pointer none, .pointer (some ⟨Dn, 0, none⟩), .pointer none, .pointer none]) ?_ (fun w hSw => by (try dsimp only at hSw); have x0 : w.cell? ⟨X, 0, none⟩ = some (.int .i64 1)  := (by simp [World.cell?, hSw]); have x1 : w.cell? ⟨X, 1, none⟩ = some (.int .i64 num)  := (by simp [World.cell?, hSw]); have x2 : w.cell? ⟨X, 2, none⟩ = some (.pointer none)  := (by simp [World.cell?, hSw]); have x3 : w.cell? ⟨X, 3, none⟩ = some (.pointer (some ⟨Dn, 0, none⟩))  := (by simp [World.cell?, hSw]); have x4 : w.cell? ⟨X, 4, none⟩ = some (.pointer none)  := (by simp [World.cell?, hSw]); have x5 : w.cell? ⟨X, 5, none⟩ = some (.pointer none)  := (by simp [World.cell?, hSw]); clear hSw; go_simp)
        try simp only [Act.put, pu1, pu2, pu3]
        refine rd4_6 (by kernel_rfl) rfl rfl (fun K hK => ?_) (fun K hK => ?_)
        · go_simp
          refine hK.out _ _ ?_ (fun hHeld => ?_)
          · first | exact HX.out | exact (Below.heap_alloc w5 _ X hXl).trans HX.out
          clear hK K
          try simp only [Act.put, pu1, pu2, pu3]
          refine cl6 (by kernel_rfl) rfl (fun K hK => ?_)
          go_simp
          refine hK.out _ _ ?_ (fun hHeld => ?_)
          · exact (Below.heap_alloc w5 _ X hXl).trans HX.out
          clear hK K
          try simp only [Act.put, pu1, pu2, pu3]
          refine cl7 (by kernel_rfl) rfl (fun K hK => ?_)
          refine wp_app_slid (v := .slice aL L.length cL) (k := 6) (enc := obC) (l := od.zip L) (m := [(Dn, num, obNew 1)]) (.tmp 71) (.tmp 73) 62 rfl i0 _ 48 Try.underlying62 hi hz0 hz1 hz2 rfl obC_len obC_one rfl (HL.out _) ⟨w5.heap.size, 0, none⟩ 1 1 rfl rfl (by exact World.news_of_block (heap_alloc_new w5 _)) (by simp) (by unfold maxLen; rw [hzl.out]; simp; omega) (by rw [hzl.out]; simp; omega) ?_
          intro u7 w7 h7 g7 l7
          obtain ⟨y7, x7, s7⟩ := HG.out _ w7 g7
          obtain ⟨p7, n7, rfl⟩ : ∃ p n, u7 = .slice p (L.length + 1) n := (by obtain ⟨a, c, e⟩ := h7.form; exact ⟨a, c, by rw [e, List.length_append, hzl.out]; simp⟩)
          refine hK.out _ _ ?_ (fun hHeld => ?_)
          · exact s7
          clear hK K
          try simp only [Act.put, pu1, pu2, pu3]
          refine tk8 (.pointer (some ⟨D, 0, none⟩)) ?_
          try simp only [Act.put, pu1, pu2, pu3]
          refine tk9 (.pointer (some ⟨D, 1, none⟩)) ?_
          try simp only [Act.put, pu1, pu2, pu3]
          refine cl10 (by kernel_rfl) rfl (fun K hK => ?_)
          go_simp
          refine hK.out _ _ ?_ (fun hHeld => ?_)
          · exact s7.symm ▸ (heap_setCell_other _ _ _ _ (by simpa using hXD))
          clear hK K
          try simp only [Act.put, pu1, pu2, pu3]
          refine wpAnyH_done (by kernel_rfl) ?_ _
          have hXX : (w7.setCell ⟨D, 1, none⟩ (.slice p7 (L.length + 1) n7)).heap[X]? = _ := (heap_setCell_other _ _ _ _ (by simpa using hXD)).trans s7
          have x0 : (w7.setCell ⟨D, 1, none⟩ (.slice p7 (L.length + 1) n7)).cell? ⟨X, 0, none⟩ = some (.int .i64 1) := by simp only [World.cell?, hXX]; rfl
          have x1 : (w7.setCell ⟨D, 1, none⟩ (.slice p7 (L.length + 1) n7)).cell? ⟨X, 1, none⟩ = some (.int .i64 num) := by simp only [World.cell?, hXX]; rfl
          have x2 : (w7.setCell ⟨D, 1, none⟩ (.slice p7 (L.length + 1) n7)).cell? ⟨X, 2, none⟩ = some (.pointer none) := by simp only [World.cell?, hXX]; rfl
          have x3 : (w7.setCell ⟨D, 1, none⟩ (.slice p7 (L.length + 1) n7)).cell? ⟨X, 3, none⟩ = some (.pointer (some ⟨Dn, 0, none⟩)) := by simp only [World.cell?, hXX]; rfl
          have x4 : (w7.setCell ⟨D, 1, none⟩ (.slice p7 (L.length + 1) n7)).cell? ⟨X, 4, none⟩ = some (.pointer none) := by simp only [World.cell?, hXX]; rfl
          have x5 : (w7.setCell ⟨D, 1, none⟩ (.slice p7 (L.length + 1) n7)).cell? ⟨X, 5, none⟩ = some (.pointer none) := by simp only [World.cell?, hXX]; rfl
          have hRR : Hid _ := HRR.out _ _ g7 (.slice p7 (L.length + 1) n7)
          clear hXX y7 x7 s7 hHeld0
          go_wp2_with (show wpList _ _ _ (⟨_, Op.store 76 _ _, _, _, _, _⟩ :: _) _ _; refine store_row_g rfl 76 _ _ rfl w.heap.size #[.int .i64 1, .int .i64 num, .pointer none, .pointer (some ⟨Dn, 0, none⟩), .pointer none, .pointer none] rfl rfl 76 #[.int .i64 0, .int .i64 0, .pointer none, .pointer none, .pointer none, .pointer none] hRR.out infoO6 rfl (by simp [Value.oneCell']) ?_; intro wE hE gE)
          refine bodyPost_ret (results_cell_row Try.results34 _ _ w.heap.size 76 _ (0, 0) _ rfl hE Try.underlying76 rfl infoO6) rfl ?_
          exact FIN.out _ _ _ _ h7 g7 l7 gE
        · go_simp
          refine hK.out _ _ ?_ (fun hHeld => ?_)
          · exact (Below.heap_alloc w5 _ X hXl).trans HX.out
          clear hK K
          try simp only [Act.put, pu1, pu2, pu3]
          refine cl4 (by kernel_rfl) rfl (fun K hK => ?_)
          go_simp
          refine hK.out _ _ ?_ (fun hHeld => ?_)
          · first | exact HX.out | exact (Below.heap_alloc w5 _ X hXl).trans HX.out
          clear hK K
          try simp only [Act.put, pu1, pu2, pu3]
          refine cl7 (by kernel_rfl) rfl (fun K hK => ?_)
          refine wp_app_slid (v := .slice aL L.length cL) (k := 6) (enc := obC) (l := od.zip L) (m := [(Dn, num, obNew 1)]) (.tmp 71) (.tmp 73) 62 rfl i0 _ 48 Try.underlying62 hi hz0 hz1 hz2 rfl obC_len obC_one rfl (HL.out _) ⟨w5.heap.size, 0, none⟩ 1 1 rfl rfl (by exact World.news_of_block (heap_alloc_new w5 _)) (by simp) (by unfold maxLen; rw [hzl.out]; simp; omega) (by rw [hzl.out]; simp; omega) ?_
          intro u7 w7 h7 g7 l7
          obtain ⟨y7, x7, s7⟩ := HG.out _ w7 g7
          obtain ⟨p7, n7, rfl⟩ : ∃ p n, u7 = .slice p (L.length + 1) n := (by obtain ⟨a, c, e⟩ := h7.form; exact ⟨a, c, by rw [e, List.length_append, hzl.out]; simp⟩)
          refine hK.out _ _ ?_ (fun hHeld => ?_)
          · exact s7
          clear hK K
          try simp only [Act.put, pu1, pu2, pu3]
          refine tk8 (.pointer (some ⟨D, 0, none⟩)) ?_
          try simp only [Act.put, pu1, pu2, pu3]
          refine tk9 (.pointer (some ⟨D, 1, none⟩)) ?_
          try simp only [Act.put, pu1, pu2, pu3]
          refine cl10 (by kernel_rfl) rfl (fun K hK => ?_)
          go_simp
          refine hK.out _ _ ?_ (fun hHeld => ?_)
          · exact s7.symm ▸ (heap_setCell_other _ _ _ _ (by simpa using hXD))
          clear hK K
          try simp only [Act.put, pu1, pu2, pu3]
          refine wpAnyH_done (by kernel_rfl) ?_ _
          have hXX : (w7.setCell ⟨D, 1, none⟩ (.slice p7 (L.length + 1) n7)).heap[X]? = _ := (heap_setCell_other _ _ _ _ (by simpa using hXD)).trans s7
          have x0 : (w7.setCell ⟨D, 1, none⟩ (.slice p7 (L.length + 1) n7)).cell? ⟨X, 0, none⟩ = some (.int .i64 1) := by simp only [World.cell?, hXX]; rfl
          have x1 : (w7.setCell ⟨D, 1, none⟩ (.slice p7 (L.length + 1) n7)).cell? ⟨X, 1, none⟩ = some (.int .i64 num) := by simp only [World.cell?, hXX]; rfl
          have x2 : (w7.setCell ⟨D, 1, none⟩ (.slice p7 (L.length + 1) n7)).cell? ⟨X, 2, none⟩ = some (.pointer none) := by simp only [World.cell?, hXX]; rfl
          have x3 : (w7.setCell ⟨D, 1, none⟩ (.slice p7 (L.length + 1) n7)).cell? ⟨X, 3, none⟩ = some (.pointer (some ⟨Dn, 0, none⟩)) := by simp only [World.cell?, hXX]; rfl
          have x4 : (w7.setCell ⟨D, 1, none⟩ (.slice p7 (L.length + 1) n7)).cell? ⟨X, 4, none⟩ = some (.pointer none) := by simp only [World.cell?, hXX]; rfl
          have x5 : (w7.setCell ⟨D, 1, none⟩ (.slice p7 (L.length + 1) n7)).cell? ⟨X, 5, none⟩ = some (.pointer none) := by simp only [World.cell?, hXX]; rfl
          have hRR : Hid _ := HRR.out _ _ g7 (.slice p7 (L.length + 1) n7)
          clear hXX y7 x7 s7 hHeld0
          go_wp2_with (show wpList _ _ _ (⟨_, Op.store 76 _ _, _, _, _, _⟩ :: _) _ _; refine store_row_g rfl 76 _ _ rfl w.heap.size #[.int .i64 1, .int .i64 num, .pointer none, .pointer (some ⟨Dn, 0, none⟩), .pointer none, .pointer none] rfl rfl 76 #[.int .i64 0, .int .i64 0, .pointer none, .pointer none, .pointer none, .pointer none] hRR.out infoO6 rfl (by simp [Value.oneCell']) ?_; intro wE hE gE)
          refine bodyPost_ret (results_cell_row Try.results34 _ _ w.heap.size 76 _ (0, 0) _ rfl hE Try.underlying76 rfl infoO6) rfl ?_
          exact FIN.out _ _ _ _ h7 g7 l7 gE
end
section
variable {w : World} {base D : Nat} {ro : Nat → Option Nat} {vT vL : Value} {tv : List Tv} {od : List Nat} {T : List Tk} {L : List (Int × Ob)}
set_option maxHeartbeats 6400000 in
set_option maxRecDepth 100000 in
theorem sk_object_new2 (h : SkAt w base D ro vT vL tv od T L) (num : Int) (hL : L.length < 65536) (hf : obFind L 2 num = L.length) : Calls Try.prog 34 #[.pointer (some ⟨D, 0, none⟩), .int .i64 2, .int .i64 num] w fun e w' => ∃ ro' vL' d, e = .returned (.agg (obC (d, num, obNew 2)).toArray) ∧ SkAt w' base D ro' vT vL' tv (od ++ [d]) T (L ++ [(num, obNew 2)]) ∧ Kept w w' (fun b => ro b ≠ none) (fun b => ro' b ≠ none) := by
  have HF : Hid (obFind L 2 num = L.length) := hf
  have B1 : Hid _ := (Below.refl _ w).alloc (Nat.le_refl _) (.cells #[.int .i64 0, .int .i64 0, .pointer none, .pointer none, .pointer none, .pointer none] ObT)
  have R1 : Hid _ := heap_alloc_new w (.cells #[.int .i64 0, .int .i64 0, .pointer none, .pointer none, .pointer none, .pointer none] ObT)
  have HS0 : Hid (SkAt w base D ro vT vL tv od T L) := h
  have HS : Hid (SkAt _ base D ro vT vL tv od T L) := h.fresh B1.out
  obtain ⟨i0, hi, hz0, hz1, hz2⟩ := info_parts infoO
  have hol := h.ol
  clear h hf
  go_enter Try.func34, Try.ntmps34
  go_wp2
  generalize w.alloc (.cells #[.int .i64 0, .int .i64 0, .pointer none, .pointer none, .pointer none, .pointer none] ObT) = w1 at *
  obtain ⟨_, ⟨aL, cL, eL⟩, c0, c1, f0, f1, hD⟩ := HS.out.cells
  rw [eL] at c1
  subst eL
  go_loop [7] (fun i => ∃ j : Nat, j ≤ L.length ∧ i = .int .i64 j) (fun i => L.length - (RowKit.intOf i).toNat)
  case atStart => exact ⟨0, Nat.zero_le _, rfl⟩
  case round =>
    obtain ⟨j, hj, rfl⟩ := hrel
    by_cases hjl : j < L.length
    · have q0 : decide ((j : Int) < (L.length : Int)) = true := decide_eq_true (by omega)
      obtain ⟨bL, off, cap, e, hb, hcc⟩ := HS.out.objc j hjl (by omega)
      simp only [Value.slice.injEq] at e
      obtain ⟨rfl, _, rfl⟩ := e
      have z0 : w1.cell? ⟨bL, off + j * 6, none⟩ = some (.int .i64 L[j].2.k) := hcc 0 _ (by decide) rfl
      have z1 : w1.cell? ⟨bL, off + j * 6 + 1, none⟩ = some (.int .i64 L[j].1) := hcc 1 _ (by decide) rfl
      clear hcc
      have hn := obFind_not HF.out hjl hjl
      generalize L[j].2.k = K at *
      generalize L[j].1 = N at *
      by_cases hK : K = 2
      · have q1 : (K == 2) = true := beq_iff_eq.2 hK
        have q2 : (N == num) = false := by simpa [q1] using hn
        clear hn hK
        go_wp2
        go_round
        case rel => exact ⟨j + 1, by omega, by go_num⟩
        case measure => simp [RowKit.intOf]; omega
      · have q1 : (K == 2) = false := beq_eq_false_iff_ne.2 hK
        clear hn hK
        go_wp2
        go_round
        case rel => exact ⟨j + 1, by omega, by go_num⟩
        case measure => simp [RowKit.intOf]; omega
    · have hje : j = L.length := by omega
      subst hje
      have q0 : decide ((L.length : Int) < (L.length : Int)) = false := decide_eq_false (by omega)
      have hs1 := B1.out.size
      have HQ : Hid (∀ w2 : World, w2.heap[w1.heap.size]? = some (.cells #[.int .i64 2, .int .i64 num, .pointer none, .pointer none, .pointer none, .pointer none] 76 (0, 0)) → (w1.alloc (.cells #[.int .i64 0, .int .i64 0, .pointer none, .pointer none, .pointer none, .pointer none] ObT)).grownBy w2 (some w1.heap.size) → w1.heap.size < w2.heap.size ∧ w2.cell? ⟨w1.heap.size, 4, none⟩ = some (.pointer none) ∧ w2.frozen? ⟨w1.heap.size, 4, none⟩ = false) := fun w2 h2 _ => ⟨lt_of_block h2, by simp [World.cell?, h2], by simp [World.frozen?, h2]⟩
      · clear hj hjl
        go_wp2_with (show wpList _ _ _ (⟨_, Op.store 76 _ _, _, _, _, _⟩ :: _) _ _; refine store_row_g rfl 76 _ _ rfl w1.heap.size #[.int .i64 2, .int .i64 num, .pointer none, .pointer none, .pointer none, .pointer none] rfl rfl 76 #[.int .i64 0, .int .i64 0, .pointer none, .pointer none, .pointer none, .pointer none] (heap_alloc_new w1 _) infoO6 rfl (by simp [Value.oneCell']) ?_; intro w2 hE2 g2; have q3 := HQ.out w2 hE2 g2; have hXa := (Below.heap_alloc w2 (.cells #[.int .i64 0, .slice none 0 0] 91) _ q3.1).trans hE2; have y3 : (w2.alloc (.cells #[.int .i64 0, .slice none 0 0] 91)).cell? ⟨w1.heap.size, 4, none⟩ = some (.pointer none) := (World.cell?_of_block (a := ⟨w1.heap.size, 4, none⟩) (Below.heap_alloc w2 _ _ q3.1)).trans q3.2.1; have x3 : (w2.alloc (.cells #[.int .i64 0, .slice none 0 0] 91)).frozen? ⟨w1.heap.size, 4, none⟩ = false := (World.frozen?_of_block (a := ⟨w1.heap.size, 4, none⟩) (Below.heap_alloc w2 _ _ q3.1)).trans q3.2.2; clear hXa)
        rw [← World.setCell_alloc_past (.cells #[.int .i64 0, .slice none 0 0] 91) w1.heap.size 4 (.pointer (some ⟨w2.heap.size, 0, none⟩)) q3.1]
        have hM : ObAt (w2.alloc (.cells #[.int .i64 0, .slice none 0 0] 91)) w2.heap.size w2.heap.size (fun b => b = w2.heap.size) (obNew 2) := ObAt.mk2 (GrAt.new w2)
        have b3 : Below w2.heap.size w2 (w2.alloc (.cells #[.int .i64 0, .slice none 0 0] 91)) := (Below.refl _ w2).alloc (Nat.le_refl _) _
        have hn3 : w2.heap.size < (w2.alloc (.cells #[.int .i64 0, .slice none 0 0] 91)).heap.size := (hM.bd _ rfl).2
        generalize (w2.alloc (.cells #[.int .i64 0, .slice none 0 0] 91)) = w3 at *
        have hs2 := q3.1
        have hRs : w.heap.size < w1.heap.size := lt_of_block R1.out
        have B3 : Below w.heap.size w w3 := bmm ((B1.out.alloc hs1 _).grown g2 (by simp; omega) (fun q hq => by rw [← Option.some.inj hq]; exact hs1)) (by omega) b3
        have hX3 := (b3.block _ hs2).trans hE2
        have hX4 : (w3.setCell ⟨w1.heap.size, 4, none⟩ (.pointer (some ⟨w2.heap.size, 0, none⟩))).drew.heap[w1.heap.size]? = some (.cells #[.int .i64 2, .int .i64 num, .pointer none, .pointer none, .pointer (some ⟨w2.heap.size, 0, none⟩), .pointer none] 76 (0, 0)) := by
          show (w3.setCell ⟨w1.heap.size, 4, none⟩ (.pointer (some ⟨w2.heap.size, 0, none⟩))).heap[w1.heap.size]? = _
          rw [heap_setCell_same w3 _ 4 _ _ _ hX3]
          rfl
        have ho4 : ∀ c, c ≠ w1.heap.size → (w3.setCell ⟨w1.heap.size, 4, none⟩ (.pointer (some ⟨w2.heap.size, 0, none⟩))).drew.heap[c]? = w3.heap[c]? := fun c hc => heap_setCell_other _ _ _ _ (by simpa using hc)
        have B4 : Below w.heap.size w (w3.setCell ⟨w1.heap.size, 4, none⟩ (.pointer (some ⟨w2.heap.size, 0, none⟩))).drew := (B3.setCell (p := ⟨w1.heap.size, 4, none⟩) hs1 _).drew
        have hO4 : ObAt (w3.setCell ⟨w1.heap.size, 4, none⟩ (.pointer (some ⟨w2.heap.size, 0, none⟩))).drew w.heap.size w2.heap.size (fun b => b = w2.heap.size) (obNew 2) := (hM.low (by omega)).keep (by simp) (fun b hb => ho4 b (by omega))
        have hs4 : (w3.setCell ⟨w1.heap.size, 4, none⟩ (.pointer (some ⟨w2.heap.size, 0, none⟩))).drew.heap.size = w3.heap.size := by simp
        have hR4 : (w3.setCell ⟨w1.heap.size, 4, none⟩ (.pointer (some ⟨w2.heap.size, 0, none⟩))).drew.heap[w.heap.size]? = some (.cells #[.int .i64 0, .int .i64 0, .pointer none, .pointer none, .pointer none, .pointer none] ObT (0, 0)) := by
          rw [ho4 _ (by omega), b3.block _ (by omega), g2.block _ (by simp; omega) (fun e => by have := Option.some.inj e; omega), Below.heap_alloc w1 _ _ hRs]
          exact R1.out
        generalize w3.setCell ⟨w1.heap.size, 4, none⟩ (.pointer (some ⟨w2.heap.size, 0, none⟩)) = w4 at *
        clear hX3 B3 hM ho4 x3 y3 c0 c1 f0 f1 q0 q3 b3 hE2 g2 HQ HF R1 HS
        have hDl : D < w.heap.size := lt_of_block HS0.out.hd
        have HS5 := HS0.out.fresh B4
        have hzl : Hid ((od.zip L).length = L.length) := by
          show _ = _
          rw [List.length_zip, hol, Nat.min_self]
        have hvD := HS5.os.at'.ne HS5.hd (by decide)
        have hvl : ∀ g, Value.ownBlock (.slice aL L.length cL) = some g → g < w.heap.size := fun g hg => HS0.out.os.at'.lt hg
        have hb4 := B4.size
        have hdr : w4.drew.heap.size = w4.heap.size := rfl
        obtain ⟨_, _, _, c1, _, f1, _⟩ := HS5.cells
        have za : ∀ o, (w4.drew.alloc o).cell? ⟨D, 1, none⟩ = some (.slice aL L.length cL) := fun o => (World.cell?_of_block (a := ⟨D, 1, none⟩) (Below.heap_alloc w4.drew o D (by omega))).trans c1
        have hXl : w1.heap.size < w4.drew.heap.size := by omega
        have hXD : w1.heap.size ≠ D := by omega
        have HX : Hid (w4.drew.heap[w1.heap.size]? = _) := hX4
        have HL : Hid (∀ o, Slid obC 6 ObT (w4.drew.alloc o) (.slice aL L.length cL) (od.zip L)) := fun o => HS5.os.at'.keep (fun g hg => Below.heap_alloc _ o g (HS5.os.at'.lt hg))
        have HG : Hid (∀ (o : Obj) (w7 : World), (w4.drew.alloc o).grownBy w7 (Value.ownBlock (.slice aL L.length cL)) → w7.cell? ⟨D, 1, none⟩ = some (.slice aL L.length cL) ∧ w7.frozen? ⟨D, 1, none⟩ = false ∧ w7.heap[w1.heap.size]? = some (.cells #[.int .i64 2, .int .i64 num, .pointer none, .pointer none, .pointer (some ⟨w2.heap.size, 0, none⟩), .pointer none] 76 (0, 0))) := fun o w7 g7 => by
          have e7 : w7.heap[D]? = some (.cells #[vT, .slice aL L.length cL] SkT (0, 0)) := by
            rw [g7.block D (by simp; omega) (fun e => hvD e.symm), Below.heap_alloc w4.drew o D (by omega)]
            exact HS5.hd
          refine ⟨by simp [World.cell?, e7], by simp [World.frozen?, e7], ?_⟩
          rw [g7.block _ (by simp; omega) (fun e => by have := hvl _ e.symm; omega), Below.heap_alloc w4.drew o _ hXl]
          exact hX4
        have HRR : Hid (∀ (o : Obj) (w7 : World), (w4.drew.alloc o).grownBy w7 (Value.ownBlock (.slice aL L.length cL)) → ∀ u, (w7.setCell ⟨D, 1, none⟩ u).heap[w.heap.size]? = some (.cells #[.int .i64 0, .int .i64 0, .pointer none, .pointer none, .pointer none, .pointer none] 76 (0, 0))) := fun o w7 g7 u => by
          rw [heap_setCell_other _ _ _ _ (by simp; omega), g7.block _ (by simp; omega) (fun e => by have := hvl _ e.symm; omega), Below.heap_alloc w4.drew o _ (by omega)]
          exact hR4
        have FIN : Hid (∀ (o : Obj) (u : Value) (w7 wE : World), Slid obC 6 ObT w7 u (od.zip L ++ [(w2.heap.size, num, obNew 2)]) → (w4.drew.alloc o).grownBy w7 (Value.ownBlock (.slice aL L.length cL)) → (u.ownBlock = Value.ownBlock (.slice aL L.length cL) ∨ u.ownBlock = some (w4.drew.alloc o).heap.size) → (w7.setCell ⟨D, 1, none⟩ u).grownBy wE (some w.heap.size) → ∃ ro' vL' d, Ending.returned (.agg #[.int .i64 2, .int .i64 num, .pointer none, .pointer none, .pointer (some ⟨w2.heap.size, 0, none⟩), .pointer none]) = Ending.returned (.agg (obC (d, num, obNew 2)).toArray) ∧ SkAt wE base D ro' vT vL' tv (od ++ [d]) T (L ++ [(num, obNew 2)]) ∧ Kept w wE (fun b => ro b ≠ none) (fun b => ro' b ≠ none)) := fun o u w7 wE h3 g3 l3 gE => by
          obtain ⟨ro', k1, k2⟩ := HS0.out.addOb2 B4 hO4 ⟨by omega, by omega⟩ (by omega) (Nat.le_refl _) (by omega) o h3 g3 l3 gE
          exact ⟨ro', u, w2.heap.size, rfl, k1, k2⟩
        clear HS0 HS5 B4 hO4 hX4 hR4 hvD hvl hs4 hb4 hdr B1 hs1 hs2 hRs hn3
        generalize w1.heap.size = X at *
        generalize w2.heap.size = Dn at *
        refine wp_region_held_drew (S := (fun w' : World => w'.heap[X]? = some (.cells #[.int .i64 2, .int .i64 num, .pointer none, .pointer none, .pointer (some ⟨Dn, 0, none⟩), .pointer none] 76 (0, 0)))) (by kernel_rfl) ?_ (fun hHeld0 => ?_)
        · exact HX.out
        generalize w4.drew = w5 at *
        clear hHeld0
        have hHeld0 := HX.out
        refine tk0 (.pointer (some ⟨D, 0, none⟩)) ?_
        try simp only [Act.put, pu1, pu2, pu3]
        refine tk1 (.pointer (some ⟨D, 0, none⟩)) ?_
        try simp only [Act.put, pu1, pu2, pu3]
        refine tk2 (.pointer (some ⟨D, 0, none⟩)) ?_
        try simp only [Act.put, pu1, pu2, pu3]
        refine tk3 (.pointer (some ⟨D, 1, none⟩)) ?_
        try simp only [Act.put, pu1, pu2, pu3]
        refine tk5 (.agg #[.int .i64 2, .int .i64 num, .pointer none, .pointer none, .pointer (some ⟨Dn, 0, none⟩), .pointer none]) ?_ (fun w hSw => by (try dsimp only at hSw); have x0 : w.cell? ⟨X, 0, none⟩ = some (.int .i64 2)  := (by simp [World.cell?, hSw]); have x1 : w.cell? ⟨X, 1, none⟩ = some (.int .i64 num)  := (by simp [World.cell?, hSw]); have x2 : w.cell? ⟨X, 2, none⟩ = some (.pointer none)  := (by simp [World.cell?, hSw]); have x3 : w.cell? ⟨X, 3, none⟩ = some (.pointer none)  := (by simp [World.cell?, hSw]); have x4 : w.cell? ⟨X, 4, none⟩ = some (.pointer (some ⟨Dn, 0, none⟩))  := (by simp [World.cell?, hSw]); have x5 : w.cell? ⟨X, 5, none⟩ = some (.pointer none)  := (by simp [World.cell?, hSw]); clear hSw; go_simp)
        try simp only [Act.put, pu1, pu2, pu3]
        refine rd4_6 (by kernel_rfl) rfl rfl (fun K hK => ?_) (fun K hK => ?_)
        · go_simp
          refine hK.out _ _ ?_ (fun hHeld => ?_)
          · first | exact HX.out | exact (Below.heap_alloc w5 _ X hXl).trans HX.out
          clear hK K
          try simp only [Act.put, pu1, pu2, pu3]
          refine cl6 (by kernel_rfl) rfl (fun K hK => ?_)
          go_simp
          refine hK.out _ _ ?_ (fun hHeld => ?_)
          · exact (Below.heap_alloc w5 _ X hXl).trans HX.out
          clear hK K
          try simp only [Act.put, pu1, pu2, pu3]
          refine cl7 (by kernel_rfl) rfl (fun K hK => ?_)
          refine wp_app_slid (v := .slice aL L.length cL) (k := 6) (enc := obC) (l := od.zip L) (m := [(Dn, num, obNew 2)]) (.tmp 71) (.tmp 73) 62 rfl i0 _ 48 Try.underlying62 hi hz0 hz1 hz2 rfl obC_len obC_one rfl (HL.out _) ⟨w5.heap.size, 0, none⟩ 1 1 rfl rfl (by exact World.news_of_block (heap_alloc_new w5 _)) (by simp) (by unfold maxLen; rw [hzl.out]; simp; omega) (by rw [hzl.out]; simp; omega) ?_
          intro u7 w7 h7 g7 l7
          obtain ⟨y7, x7, s7⟩ := HG.out _ w7 g7
          obtain ⟨p7, n7, rfl⟩ : ∃ p n, u7 = .slice p (L.length + 1) n := (by obtain ⟨a, c, e⟩ := h7.form; exact ⟨a, c, by rw [e, List.length_append, hzl.out]; simp⟩)
          refine hK.out _ _ ?_ (fun hHeld => ?_)
          · exact s7
          clear hK K
          try simp only [Act.put, pu1, pu2, pu3]
          refine tk8 (.pointer (some ⟨D, 0, none⟩)) ?_
          try simp only [Act.put, pu1, pu2, pu3]
          refine tk9 (.pointer (some ⟨D, 1, none⟩)) ?_
          try simp only [Act.put, pu1, pu2, pu3]
          refine cl10 (by kernel_rfl) rfl (fun K hK => ?_)
          go_simp
          refine hK.out _ _ ?_ (fun hHeld => ?_)
          · exact s7.symm ▸ (heap_setCell_other _ _ _ _ (by simpa using hXD))
          clear hK K
          try simp only [Act.put, pu1, pu2, pu3]
          refine wpAnyH_done (by kernel_rfl) ?_ _
          have hXX : (w7.setCell ⟨D, 1, none⟩ (.slice p7 (L.length + 1) n7)).heap[X]? = _ := (heap_setCell_other _ _ _ _ (by simpa using hXD)).trans s7
          have x0 : (w7.setCell ⟨D, 1, none⟩ (.slice p7 (L.length + 1) n7)).cell? ⟨X, 0, none⟩ = some (.int .i64 2) := by simp only [World.cell?, hXX]; rfl
          have x1 : (w7.setCell ⟨D, 1, none⟩ (.slice p7 (L.length + 1) n7)).cell? ⟨X, 1, none⟩ = some (.int .i64 num) := by simp only [World.cell?, hXX]; rfl
          have x2 : (w7.setCell ⟨D, 1, none⟩ (.slice p7 (L.length + 1) n7)).cell? ⟨X, 2, none⟩ = some (.pointer none) := by simp only [World.cell?, hXX]; rfl
          have x3 : (w7.setCell ⟨D, 1, none⟩ (.slice p7 (L.length + 1) n7)).cell? ⟨X, 3, none⟩ = some (.pointer none) := by simp only [World.cell?, hXX]; rfl
          have x4 : (w7.setCell ⟨D, 1, none⟩ (.slice p7 (L.length + 1) n7)).cell? ⟨X, 4, none⟩ = some (.pointer (some ⟨Dn, 0, none⟩)) := by simp only [World.cell?, hXX]; rfl
          have x5 : (w7.setCell ⟨D, 1, none⟩ (.slice p7 (L.length + 1) n7)).cell? ⟨X, 5, none⟩ = some (.pointer none) := by simp only [World.cell?, hXX]; rfl
          have hRR : Hid _ := HRR.out _ _ g7 (.slice p7 (L.length + 1) n7)
          clear hXX y7 x7 s7 hHeld0
          go_wp2_with (show wpList _ _ _ (⟨_, Op.store 76 _ _, _, _, _, _⟩ :: _) _ _; refine store_row_g rfl 76 _ _ rfl w.heap.size #[.int .i64 2, .int .i64 num, .pointer none, .pointer none, .pointer (some ⟨Dn, 0, none⟩), .pointer none] rfl rfl 76 #[.int .i64 0, .int .i64 0, .pointer none, .pointer none, .pointer none, .pointer none] hRR.out infoO6 rfl (by simp [Value.oneCell']) ?_; intro wE hE gE)
          refine bodyPost_ret (results_cell_row Try.results34 _ _ w.heap.size 76 _ (0, 0) _ rfl hE Try.underlying76 rfl infoO6) rfl ?_
          exact FIN.out _ _ _ _ h7 g7 l7 gE
        · go_simp
          refine hK.out _ _ ?_ (fun hHeld => ?_)
          · exact (Below.heap_alloc w5 _ X hXl).trans HX.out
          clear hK K
          try simp only [Act.put, pu1, pu2, pu3]
          refine cl4 (by kernel_rfl) rfl (fun K hK => ?_)
          go_simp
          refine hK.out _ _ ?_ (fun hHeld => ?_)
          · first | exact HX.out | exact (Below.heap_alloc w5 _ X hXl).trans HX.out
          clear hK K
          try simp only [Act.put, pu1, pu2, pu3]
          refine cl7 (by kernel_rfl) rfl (fun K hK => ?_)
          refine wp_app_slid (v := .slice aL L.length cL) (k := 6) (enc := obC) (l := od.zip L) (m := [(Dn, num, obNew 2)]) (.tmp 71) (.tmp 73) 62 rfl i0 _ 48 Try.underlying62 hi hz0 hz1 hz2 rfl obC_len obC_one rfl (HL.out _) ⟨w5.heap.size, 0, none⟩ 1 1 rfl rfl (by exact World.news_of_block (heap_alloc_new w5 _)) (by simp) (by unfold maxLen; rw [hzl.out]; simp; omega) (by rw [hzl.out]; simp; omega) ?_
          intro u7 w7 h7 g7 l7
          obtain ⟨y7, x7, s7⟩ := HG.out _ w7 g7
          obtain ⟨p7, n7, rfl⟩ : ∃ p n, u7 = .slice p (L.length + 1) n := (by obtain ⟨a, c, e⟩ := h7.form; exact ⟨a, c, by rw [e, List.length_append, hzl.out]; simp⟩)
          refine hK.out _ _ ?_ (fun hHeld => ?_)
          · exact s7
          clear hK K
          try simp only [Act.put, pu1, pu2, pu3]
          refine tk8 (.pointer (some ⟨D, 0, none⟩)) ?_
          try simp only [Act.put, pu1, pu2, pu3]
          refine tk9 (.pointer (some ⟨D, 1, none⟩)) ?_
          try simp only [Act.put, pu1, pu2, pu3]
          refine cl10 (by kernel_rfl) rfl (fun K hK => ?_)
          go_simp
          refine hK.out _ _ ?_ (fun hHeld => ?_)
          · exact s7.symm ▸ (heap_setCell_other _ _ _ _ (by simpa using hXD))
          clear hK K
          try simp only [Act.put, pu1, pu2, pu3]
          refine wpAnyH_done (by kernel_rfl) ?_ _
          have hXX : (w7.setCell ⟨D, 1, none⟩ (.slice p7 (L.length + 1) n7)).heap[X]? = _ := (heap_setCell_other _ _ _ _ (by simpa using hXD)).trans s7
          have x0 : (w7.setCell ⟨D, 1, none⟩ (.slice p7 (L.length + 1) n7)).cell? ⟨X, 0, none⟩ = some (.int .i64 2) := by simp only [World.cell?, hXX]; rfl
          have x1 : (w7.setCell ⟨D, 1, none⟩ (.slice p7 (L.length + 1) n7)).cell? ⟨X, 1, none⟩ = some (.int .i64 num) := by simp only [World.cell?, hXX]; rfl
          have x2 : (w7.setCell ⟨D, 1, none⟩ (.slice p7 (L.length + 1) n7)).cell? ⟨X, 2, none⟩ = some (.pointer none) := by simp only [World.cell?, hXX]; rfl
          have x3 : (w7.setCell ⟨D, 1, none⟩ (.slice p7 (L.length + 1) n7)).cell? ⟨X, 3, none⟩ = some (.pointer none) := by simp only [World.cell?, hXX]; rfl
          have x4 : (w7.setCell ⟨D, 1, none⟩ (.slice p7 (L.length + 1) n7)).cell? ⟨X, 4, none⟩ = some (.pointer (some ⟨Dn, 0, none⟩)) := by simp only [World.cell?, hXX]; rfl
          have x5 : (w7.setCell ⟨D, 1, none⟩ (.slice p7 (L.length + 1) n7)).cell? ⟨X, 5, none⟩ = some (.pointer none) := by simp only [World.cell?, hXX]; rfl
          have hRR : Hid _ := HRR.out _ _ g7 (.slice p7 (L.length + 1) n7)
          clear hXX y7 x7 s7 hHeld0
          go_wp2_with (show wpList _ _ _ (⟨_, Op.store 76 _ _, _, _, _, _⟩ :: _) _ _; refine store_row_g rfl 76 _ _ rfl w.heap.size #[.int .i64 2, .int .i64 num, .pointer none, .pointer none, .pointer (some ⟨Dn, 0, none⟩), .pointer none] rfl rfl 76 #[.int .i64 0, .int .i64 0, .pointer none, .pointer none, .pointer none, .pointer none] hRR.out infoO6 rfl (by simp [Value.oneCell']) ?_; intro wE hE gE)
          refine bodyPost_ret (results_cell_row Try.results34 _ _ w.heap.size 76 _ (0, 0) _ rfl hE Try.underlying76 rfl infoO6) rfl ?_
          exact FIN.out _ _ _ _ h7 g7 l7 gE
end
section
variable {w : World} {base D : Nat} {ro : Nat → Option Nat} {vT vL : Value} {tv : List Tv} {od : List Nat} {T : List Tk} {L : List (Int × Ob)}
set_option maxHeartbeats 6400000 in
set_option maxRecDepth 100000 in
theorem sk_object_new3 (h : SkAt w base D ro vT vL tv od T L) (num : Int) (hL : L.length < 65536) (hf : obFind L 3 num = L.length) : Calls Try.prog 34 #[.pointer (some ⟨D, 0, none⟩), .int .i64 3, .int .i64 num] w fun e w' => ∃ ro' vL' d, e = .returned (.agg (obC (d, num, obNew 3)).toArray) ∧ SkAt w' base D ro' vT vL' tv (od ++ [d]) T (L ++ [(num, obNew 3)]) ∧ Kept w w' (fun b => ro b ≠ none) (fun b => ro' b ≠ none) := by
  have HF : Hid (obFind L 3 num = L.length) := hf
  have B1 : Hid _ := (Below.refl _ w).alloc (Nat.le_refl _) (.cells #[.int .i64 0, .int .i64 0, .pointer none, .pointer none, .pointer none, .pointer none] ObT)
  have R1 : Hid _ := heap_alloc_new w (.cells #[.int .i64 0, .int .i64 0, .pointer none, .pointer none, .pointer none, .pointer none] ObT)
  have HS0 : Hid (SkAt w base D ro vT vL tv od T L) := h
  have HS : Hid (SkAt _ base D ro vT vL tv od T L) := h.fresh B1.out
  obtain ⟨i0, hi, hz0, hz1, hz2⟩ := info_parts infoO
  have hol := h.ol
  clear h hf
  go_enter Try.func34, Try.ntmps34
  go_wp2
  generalize w.alloc (.cells #[.int .i64 0, .int .i64 0, .pointer none, .pointer none, .pointer none, .pointer none] ObT) = w1 at *
  obtain ⟨_, ⟨aL, cL, eL⟩, c0, c1, f0, f1, hD⟩ := HS.out.cells
  rw [eL] at c1
  subst eL
  go_loop [7] (fun i => ∃ j : Nat, j ≤ L.length ∧ i = .int .i64 j) (fun i => L.length - (RowKit.intOf i).toNat)
  case atStart => exact ⟨0, Nat.zero_le _, rfl⟩
  case round =>
    obtain ⟨j, hj, rfl⟩ := hrel
    by_cases hjl : j < L.length
    · have q0 : decide ((j : Int) < (L.length : Int)) = true := decide_eq_true (by omega)
      obtain ⟨bL, off, cap, e, hb, hcc⟩ := HS.out.objc j hjl (by omega)
      simp only [Value.slice.injEq] at e
      obtain ⟨rfl, _, rfl⟩ := e
      have z0 : w1.cell? ⟨bL, off + j * 6, none⟩ = some (.int .i64 L[j].2.k) := hcc 0 _ (by decide) rfl
      have z1 : w1.cell? ⟨bL, off + j * 6 + 1, none⟩ = some (.int .i64 L[j].1) := hcc 1 _ (by decide) rfl
      clear hcc
      have hn := obFind_not HF.out hjl hjl
      generalize L[j].2.k = K at *
      generalize L[j].1 = N at *
      by_cases hK : K = 3
      · have q1 : (K == 3) = true := beq_iff_eq.2 hK
        have q2 : (N == num) = false := by simpa [q1] using hn
        clear hn hK
        go_wp2
        go_round
        case rel => exact ⟨j + 1, by omega, by go_num⟩
        case measure => simp [RowKit.intOf]; omega
      · have q1 : (K == 3) = false := beq_eq_false_iff_ne.2 hK
        clear hn hK
        go_wp2
        go_round
        case rel => exact ⟨j + 1, by omega, by go_num⟩
        case measure => simp [RowKit.intOf]; omega
    · have hje : j = L.length := by omega
      subst hje
      have q0 : decide ((L.length : Int) < (L.length : Int)) = false := decide_eq_false (by omega)
      have hs1 := B1.out.size
      have HQ : Hid (∀ w2 : World, w2.heap[w1.heap.size]? = some (.cells #[.int .i64 3, .int .i64 num, .pointer none, .pointer none, .pointer none, .pointer none] 76 (0, 0)) → (w1.alloc (.cells #[.int .i64 0, .int .i64 0, .pointer none, .pointer none, .pointer none, .pointer none] ObT)).grownBy w2 (some w1.heap.size) → w1.heap.size < w2.heap.size ∧ w2.cell? ⟨w1.heap.size, 5, none⟩ = some (.pointer none) ∧ w2.frozen? ⟨w1.heap.size, 5, none⟩ = false) := fun w2 h2 _ => ⟨lt_of_block h2, by simp [World.cell?, h2], by simp [World.frozen?, h2]⟩
      · clear hj hjl
        go_wp2_with (first
          | (go_at_call 50; refine (on_new w2).mono ?_; rintro e w3 ⟨rfl, k3, b3⟩; have y3 := (b3.cell (p := ⟨w1.heap.size, 5, none⟩) (by exact q3.1)).trans q3.2.1; have x3 := (b3.frozen (p := ⟨w1.heap.size, 5, none⟩) (by exact q3.1)).trans q3.2.2)
          | (show wpList _ _ _ (⟨_, Op.store 76 _ _, _, _, _, _⟩ :: _) _ _; refine store_row_g rfl 76 _ _ rfl w1.heap.size #[.int .i64 3, .int .i64 num, .pointer none, .pointer none, .pointer none, .pointer none] rfl rfl 76 #[.int .i64 0, .int .i64 0, .pointer none, .pointer none, .pointer none, .pointer none] (heap_alloc_new w1 _) infoO6 rfl (by simp [Value.oneCell']) ?_; intro w2 hE2 g2; have q3 := HQ.out w2 hE2 g2))
        have hM : ObAt w3 w2.heap.size w2.heap.size (fun b => b = w2.heap.size) (obNew 3) := ObAt.mk3 k3
        have hn3 : w2.heap.size < w3.heap.size := (hM.bd _ rfl).2
        have hs2 := q3.1
        have hRs : w.heap.size < w1.heap.size := lt_of_block R1.out
        have B3 : Below w.heap.size w w3 := bmm ((B1.out.alloc hs1 _).grown g2 (by simp; omega) (fun q hq => by rw [← Option.some.inj hq]; exact hs1)) (by omega) b3
        have hX3 := (b3.block _ hs2).trans hE2
        have hX4 : (w3.setCell ⟨w1.heap.size, 5, none⟩ (.pointer (some ⟨w2.heap.size, 0, none⟩))).drew.heap[w1.heap.size]? = some (.cells #[.int .i64 3, .int .i64 num, .pointer none, .pointer none, .pointer none, .pointer (some ⟨w2.heap.size, 0, none⟩)] 76 (0, 0)) := by
          show (w3.setCell ⟨w1.heap.size, 5, none⟩ (.pointer (some ⟨w2.heap.size, 0, none⟩))).heap[w1.heap.size]? = _
          rw [heap_setCell_same w3 _ 5 _ _ _ hX3]
          rfl
        have ho4 : ∀ c, c ≠ w1.heap.size → (w3.setCell ⟨w1.heap.size, 5, none⟩ (.pointer (some ⟨w2.heap.size, 0, none⟩))).drew.heap[c]? = w3.heap[c]? := fun c hc => heap_setCell_other _ _ _ _ (by simpa using hc)
        have B4 : Below w.heap.size w (w3.setCell ⟨w1.heap.size, 5, none⟩ (.pointer (some ⟨w2.heap.size, 0, none⟩))).drew := (B3.setCell (p := ⟨w1.heap.size, 5, none⟩) hs1 _).drew
        have hO4 : ObAt (w3.setCell ⟨w1.heap.size, 5, none⟩ (.pointer (some ⟨w2.heap.size, 0, none⟩))).drew w.heap.size w2.heap.size (fun b => b = w2.heap.size) (obNew 3) := (hM.low (by omega)).keep (by simp) (fun b hb => ho4 b (by omega))
        have hs4 : (w3.setCell ⟨w1.heap.size, 5, none⟩ (.pointer (some ⟨w2.heap.size, 0, none⟩))).drew.heap.size = w3.heap.size := by simp
        have hR4 : (w3.setCell ⟨w1.heap.size, 5, none⟩ (.pointer (some ⟨w2.heap.size, 0, none⟩))).drew.heap[w.heap.size]? = some (.cells #[.int .i64 0, .int .i64 0, .pointer none, .pointer none, .pointer none, .pointer none] ObT (0, 0)) := by
          rw [ho4 _ (by omega), b3.block _ (by omega), g2.block _ (by simp; omega) (fun e => by have := Option.some.inj e; omega), Below.heap_alloc w1 _ _ hRs]
          exact R1.out
        generalize w3.setCell ⟨w1.heap.size, 5, none⟩ (.pointer (some ⟨w2.heap.size, 0, none⟩)) = w4 at *
        clear hX3 B3 hM ho4 x3 y3 k3 c0 c1 f0 f1 q0 q3 b3 hE2 g2 HQ HF R1 HS
        have hDl : D < w.heap.size := lt_of_block HS0.out.hd
        have HS5 := HS0.out.fresh B4
        have hzl : Hid ((od.zip L).length = L.length) := by
          show _ = _
          rw [List.length_zip, hol, Nat.min_self]
        have hvD := HS5.os.at'.ne HS5.hd (by decide)
        have hvl : ∀ g, Value.ownBlock (.slice aL L.length cL) = some g → g < w.heap.size := fun g hg => HS0.out.os.at'.lt hg
        have hb4 := B4.size
        have hdr : w4.drew.heap.size = w4.heap.size := rfl
        obtain ⟨_, _, _, c1, _, f1, _⟩ := HS5.cells
        have za : ∀ o, (w4.drew.alloc o).cell? ⟨D, 1, none⟩ = some (.slice aL L.length cL) := fun o => (World.cell?_of_block (a := ⟨D, 1, none⟩) (Below.heap_alloc w4.drew o D (by omega))).trans c1
        have hXl : w1.heap.size < w4.drew.heap.size := by omega
        have hXD : w1.heap.size ≠ D := by omega
        have HX : Hid (w4.drew.heap[w1.heap.size]? = _) := hX4
        have HL : Hid (∀ o, Slid obC 6 ObT (w4.drew.alloc o) (.slice aL L.length cL) (od.zip L)) := fun o => HS5.os.at'.keep (fun g hg => Below.heap_alloc _ o g (HS5.os.at'.lt hg))
        have HG : Hid (∀ (o : Obj) (w7 : World), (w4.drew.alloc o).grownBy w7 (Value.ownBlock (.slice aL L.length cL)) → w7.cell? ⟨D, 1, none⟩ = some (.slice aL L.length cL) ∧ w7.frozen? ⟨D, 1, none⟩ = false ∧ w7.heap[w1.heap.size]? = some (.cells #[.int .i64 3, .int .i64 num, .pointer none, .pointer none, .pointer none, .pointer (some ⟨w2.heap.size, 0, none⟩)] 76 (0, 0))) := fun o w7 g7 => by
          have e7 : w7.heap[D]? = some (.cells #[vT, .slice aL L.length cL] SkT (0, 0)) := by
            rw [g7.block D (by simp; omega) (fun e => hvD e.symm), Below.heap_alloc w4.drew o D (by omega)]
            exact HS5.hd
          refine ⟨by simp [World.cell?, e7], by simp [World.frozen?, e7], ?_⟩
          rw [g7.block _ (by simp; omega) (fun e => by have := hvl _ e.symm; omega), Below.heap_alloc w4.drew o _ hXl]
          exact hX4
        have HRR : Hid (∀ (o : Obj) (w7 : World), (w4.drew.alloc o).grownBy w7 (Value.ownBlock (.slice aL L.length cL)) → ∀ u, (w7.setCell ⟨D, 1, none⟩ u).heap[w.heap.size]? = some (.cells #[.int .i64 0, .int .i64 0, .pointer none, .pointer none, .pointer none, .pointer none] 76 (0, 0))) := fun o w7 g7 u => by
          rw [heap_setCell_other _ _ _ _ (by simp; omega), g7.block _ (by simp; omega) (fun e => by have := hvl _ e.symm; omega), Below.heap_alloc w4.drew o _ (by omega)]
          exact hR4
        have FIN : Hid (∀ (o : Obj) (u : Value) (w7 wE : World), Slid obC 6 ObT w7 u (od.zip L ++ [(w2.heap.size, num, obNew 3)]) → (w4.drew.alloc o).grownBy w7 (Value.ownBlock (.slice aL L.length cL)) → (u.ownBlock = Value.ownBlock (.slice aL L.length cL) ∨ u.ownBlock = some (w4.drew.alloc o).heap.size) → (w7.setCell ⟨D, 1, none⟩ u).grownBy wE (some w.heap.size) → ∃ ro' vL' d, Ending.returned (.agg #[.int .i64 3, .int .i64 num, .pointer none, .pointer none, .pointer none, .pointer (some ⟨w2.heap.size, 0, none⟩)]) = Ending.returned (.agg (obC (d, num, obNew 3)).toArray) ∧ SkAt wE base D ro' vT vL' tv (od ++ [d]) T (L ++ [(num, obNew 3)]) ∧ Kept w wE (fun b => ro b ≠ none) (fun b => ro' b ≠ none)) := fun o u w7 wE h3 g3 l3 gE => by
          obtain ⟨ro', k1, k2⟩ := HS0.out.addOb2 B4 hO4 ⟨by omega, by omega⟩ (by omega) (Nat.le_refl _) (by omega) o h3 g3 l3 gE
          exact ⟨ro', u, w2.heap.size, rfl, k1, k2⟩
        clear HS0 HS5 B4 hO4 hX4 hR4 hvD hvl hs4 hb4 hdr B1 hs1 hs2 hRs hn3
        generalize w1.heap.size = X at *
        generalize w2.heap.size = Dn at *
        refine wp_region_held_drew (S := (fun w' : World => w'.heap[X]? = some (.cells #[.int .i64 3, .int .i64 num, .pointer none, .pointer none, .pointer none, .pointer (some ⟨Dn, 0, none⟩)] 76 (0, 0)))) (by kernel_rfl) ?_ (fun hHeld0 => ?_)
        · exact HX.out
        generalize w4.drew = w5 at *
        clear hHeld0
        have hHeld0 := HX.out
        refine tk0 (.pointer (some ⟨D, 0, none⟩)) ?_
        try simp only [Act.put, pu1, pu2, pu3]
        refine tk1 (.pointer (some ⟨D, 0, none⟩)) ?_
        try simp only [Act.put, pu1, pu2, pu3]
        refine tk2 (.pointer (some ⟨D, 0, none⟩)) ?_
        try simp only [Act.put, pu1, pu2, pu3]
        refine tk3 (.pointer (some ⟨D, 1, none⟩)) ?_
        try simp only [Act.put, pu1, pu2, pu3]
        refine tk5 (.agg #[.int .i64 3, .int .i64 num, .pointer none, .pointer none, .pointer none, .pointer (some ⟨Dn, 0, none⟩)]) ?_ (fun w hSw => by (try dsimp only at hSw); have x0 : w.cell? ⟨X, 0, none⟩ = some (.int .i64 3)  := (by simp [World.cell?, hSw]); have x1 : w.cell? ⟨X, 1, none⟩ = some (.int .i64 num)  := (by simp [World.cell?, hSw]); have x2 : w.cell? ⟨X, 2, none⟩ = some (.pointer none)  := (by simp [World.cell?, hSw]); have x3 : w.cell? ⟨X, 3, none⟩ = some (.pointer none)  := (by simp [World.cell?, hSw]); have x4 : w.cell? ⟨X, 4, none⟩ = some (.pointer none)  := (by simp [World.cell?, hSw]); have x5 : w.cell? ⟨X, 5, none⟩ = some (.pointer (some ⟨Dn, 0, none⟩))  := (by simp [World.cell?, hSw]); clear hSw; go_simp)
        try simp only [Act.put, pu1, pu2, pu3]
        refine rd4_6 (by kernel_rfl) rfl rfl (fun K hK => ?_) (fun K hK => ?_)
        · go_simp
          refine hK.out _ _ ?_ (fun hHeld => ?_)
          · first | exact HX.out | exact (Below.heap_alloc w5 _ X hXl).trans HX.out
          clear hK K
          try simp only [Act.put, pu1, pu2, pu3]
          refine cl6 (by kernel_rfl) rfl (fun K hK => ?_)
          go_simp
          refine hK.out _ _ ?_ (fun hHeld => ?_)
          · exact (Below.heap_alloc w5 _ X hXl).trans HX.out
          clear hK K
          try simp only [Act.put, pu1, pu2, pu3]
          refine cl7 (by kernel_rfl) rfl (fun K hK => ?_)
          refine wp_app_slid (v := .slice aL L.length cL) (k := 6) (enc := obC) (l := od.zip L) (m := [(Dn, num, obNew 3)]) (.tmp 71) (.tmp 73) 62 rfl i0 _ 48 Try.underlying62 hi hz0 hz1 hz2 rfl obC_len obC_one rfl (HL.out _) ⟨w5.heap.size, 0, none⟩ 1 1 rfl rfl (by exact World.news_of_block (heap_alloc_new w5 _)) (by simp) (by unfold maxLen; rw [hzl.out]; simp; omega) (by rw [hzl.out]; simp; omega) ?_
          intro u7 w7 h7 g7 l7
          obtain ⟨y7, x7, s7⟩ := HG.out _ w7 g7
          obtain ⟨p7, n7, rfl⟩ : ∃ p n, u7 = .slice p (L.length + 1) n := (by obtain ⟨a, c, e⟩ := h7.form; exact ⟨a, c, by rw [e, List.length_append, hzl.out]; simp⟩)
          refine hK.out _ _ ?_ (fun hHeld => ?_)
          · exact s7
          clear hK K
          try simp only [Act.put, pu1, pu2, pu3]
          refine tk8 (.pointer (some ⟨D, 0, none⟩)) ?_
          try simp only [Act.put, pu1, pu2, pu3]
          refine tk9 (.pointer (some ⟨D, 1, none⟩)) ?_
          try simp only [Act.put, pu1, pu2, pu3]
          refine cl10 (by kernel_rfl) rfl (fun K hK => ?_)
          go_simp
          refine hK.out _ _ ?_ (fun hHeld => ?_)
          · exact s7.symm ▸ (heap_setCell_other _ _ _ _ (by simpa using hXD))
          clear hK K
          try simp only [Act.put, pu1, pu2, pu3]
          refine wpAnyH_done (by kernel_rfl) ?_ _
          have hXX : (w7.setCell ⟨D, 1, none⟩ (.slice p7 (L.length + 1) n7)).heap[X]? = _ := (heap_setCell_other _ _ _ _ (by simpa using hXD)).trans s7
          have x0 : (w7.setCell ⟨D, 1, none⟩ (.slice p7 (L.length + 1) n7)).cell? ⟨X, 0, none⟩ = some (.int .i64 3) := by simp only [World.cell?, hXX]; rfl
          have x1 : (w7.setCell ⟨D, 1, none⟩ (.slice p7 (L.length + 1) n7)).cell? ⟨X, 1, none⟩ = some (.int .i64 num) := by simp only [World.cell?, hXX]; rfl
          have x2 : (w7.setCell ⟨D, 1, none⟩ (.slice p7 (L.length + 1) n7)).cell? ⟨X, 2, none⟩ = some (.pointer none) := by simp only [World.cell?, hXX]; rfl
          have x3 : (w7.setCell ⟨D, 1, none⟩ (.slice p7 (L.length + 1) n7)).cell? ⟨X, 3, none⟩ = some (.pointer none) := by simp only [World.cell?, hXX]; rfl
          have x4 : (w7.setCell ⟨D, 1, none⟩ (.slice p7 (L.length + 1) n7)).cell? ⟨X, 4, none⟩ = some (.pointer none) := by simp only [World.cell?, hXX]; rfl
          have x5 : (w7.setCell ⟨D, 1, none⟩ (.slice p7 (L.length + 1) n7)).cell? ⟨X, 5, none⟩ = some (.pointer (some ⟨Dn, 0, none⟩)) := by simp only [World.cell?, hXX]; rfl
          have hRR : Hid _ := HRR.out _ _ g7 (.slice p7 (L.length + 1) n7)
          clear hXX y7 x7 s7 hHeld0
          go_wp2_with (show wpList _ _ _ (⟨_, Op.store 76 _ _, _, _, _, _⟩ :: _) _ _; refine store_row_g rfl 76 _ _ rfl w.heap.size #[.int .i64 3, .int .i64 num, .pointer none, .pointer none, .pointer none, .pointer (some ⟨Dn, 0, none⟩)] rfl rfl 76 #[.int .i64 0, .int .i64 0, .pointer none, .pointer none, .pointer none, .pointer none] hRR.out infoO6 rfl (by simp [Value.oneCell']) ?_; intro wE hE gE)
          refine bodyPost_ret (results_cell_row Try.results34 _ _ w.heap.size 76 _ (0, 0) _ rfl hE Try.underlying76 rfl infoO6) rfl ?_
          exact FIN.out _ _ _ _ h7 g7 l7 gE
        · go_simp
          refine hK.out _ _ ?_ (fun hHeld => ?_)
          · exact (Below.heap_alloc w5 _ X hXl).trans HX.out
          clear hK K
          try simp only [Act.put, pu1, pu2, pu3]
          refine cl4 (by kernel_rfl) rfl (fun K hK => ?_)
          go_simp
          refine hK.out _ _ ?_ (fun hHeld => ?_)
          · first | exact HX.out | exact (Below.heap_alloc w5 _ X hXl).trans HX.out
          clear hK K
          try simp only [Act.put, pu1, pu2, pu3]
          refine cl7 (by kernel_rfl) rfl (fun K hK => ?_)
          refine wp_app_slid (v := .slice aL L.length cL) (k := 6) (enc := obC) (l := od.zip L) (m := [(Dn, num, obNew 3)]) (.tmp 71) (.tmp 73) 62 rfl i0 _ 48 Try.underlying62 hi hz0 hz1 hz2 rfl obC_len obC_one rfl (HL.out _) ⟨w5.heap.size, 0, none⟩ 1 1 rfl rfl (by exact World.news_of_block (heap_alloc_new w5 _)) (by simp) (by unfold maxLen; rw [hzl.out]; simp; omega) (by rw [hzl.out]; simp; omega) ?_
          intro u7 w7 h7 g7 l7
          obtain ⟨y7, x7, s7⟩ := HG.out _ w7 g7
          obtain ⟨p7, n7, rfl⟩ : ∃ p n, u7 = .slice p (L.length + 1) n := (by obtain ⟨a, c, e⟩ := h7.form; exact ⟨a, c, by rw [e, List.length_append, hzl.out]; simp⟩)
          refine hK.out _ _ ?_ (fun hHeld => ?_)
          · exact s7
          clear hK K
          try simp only [Act.put, pu1, pu2, pu3]
          refine tk8 (.pointer (some ⟨D, 0, none⟩)) ?_
          try simp only [Act.put, pu1, pu2, pu3]
          refine tk9 (.pointer (some ⟨D, 1, none⟩)) ?_
          try simp only [Act.put, pu1, pu2, pu3]
          refine cl10 (by kernel_rfl) rfl (fun K hK => ?_)
          go_simp
          refine hK.out _ _ ?_ (fun hHeld => ?_)
          · exact s7.symm ▸ (heap_setCell_other _ _ _ _ (by simpa using hXD))
          clear hK K
          try simp only [Act.put, pu1, pu2, pu3]
          refine wpAnyH_done (by kernel_rfl) ?_ _
          have hXX : (w7.setCell ⟨D, 1, none⟩ (.slice p7 (L.length + 1) n7)).heap[X]? = _ := (heap_setCell_other _ _ _ _ (by simpa using hXD)).trans s7
          have x0 : (w7.setCell ⟨D, 1, none⟩ (.slice p7 (L.length + 1) n7)).cell? ⟨X, 0, none⟩ = some (.int .i64 3) := by simp only [World.cell?, hXX]; rfl
          have x1 : (w7.setCell ⟨D, 1, none⟩ (.slice p7 (L.length + 1) n7)).cell? ⟨X, 1, none⟩ = some (.int .i64 num) := by simp only [World.cell?, hXX]; rfl
          have x2 : (w7.setCell ⟨D, 1, none⟩ (.slice p7 (L.length + 1) n7)).cell? ⟨X, 2, none⟩ = some (.pointer none) := by simp only [World.cell?, hXX]; rfl
          have x3 : (w7.setCell ⟨D, 1, none⟩ (.slice p7 (L.length + 1) n7)).cell? ⟨X, 3, none⟩ = some (.pointer none) := by simp only [World.cell?, hXX]; rfl
          have x4 : (w7.setCell ⟨D, 1, none⟩ (.slice p7 (L.length + 1) n7)).cell? ⟨X, 4, none⟩ = some (.pointer none) := by simp only [World.cell?, hXX]; rfl
          have x5 : (w7.setCell ⟨D, 1, none⟩ (.slice p7 (L.length + 1) n7)).cell? ⟨X, 5, none⟩ = some (.pointer (some ⟨Dn, 0, none⟩)) := by simp only [World.cell?, hXX]; rfl
          have hRR : Hid _ := HRR.out _ _ g7 (.slice p7 (L.length + 1) n7)
          clear hXX y7 x7 s7 hHeld0
          go_wp2_with (show wpList _ _ _ (⟨_, Op.store 76 _ _, _, _, _, _⟩ :: _) _ _; refine store_row_g rfl 76 _ _ rfl w.heap.size #[.int .i64 3, .int .i64 num, .pointer none, .pointer none, .pointer none, .pointer (some ⟨Dn, 0, none⟩)] rfl rfl 76 #[.int .i64 0, .int .i64 0, .pointer none, .pointer none, .pointer none, .pointer none] hRR.out infoO6 rfl (by simp [Value.oneCell']) ?_; intro wE hE gE)
          refine bodyPost_ret (results_cell_row Try.results34 _ _ w.heap.size 76 _ (0, 0) _ rfl hE Try.underlying76 rfl infoO6) rfl ?_
          exact FIN.out _ _ _ _ h7 g7 l7 gE
end
section
variable {w : World} {base D : Nat} {ro : Nat → Option Nat} {vT vL : Value} {tv : List Tv} {od : List Nat} {T : List Tk} {L : List (Int × Ob)}
theorem obAdd_at (L : List (Int × Ob)) (k num : Int) : ∃ o, (obAdd L k num)[obFind L k num]? = some (num, o) ∧ o.k = k := by
  unfold obAdd
  split
  · rename_i hf
    obtain ⟨h1, h2⟩ := obFind_is (L := L) (k := k) (num := num) rfl hf
    exact ⟨L[obFind L k num].2, by rw [List.getElem?_eq_getElem hf]; exact congrArg some (Prod.ext h2 rfl), h1⟩
  · rename_i hf
    have e : obFind L k num = L.length := Nat.le_antisymm List.findIdx_le_length (by omega)
    exact ⟨obNew k, by rw [e]; simp, rfl⟩
theorem sk_object (h : SkAt w base D ro vT vL tv od T L) (k num : Int) (hk : 0 ≤ k ∧ k ≤ 3) (hL : L.length < 65536) : Calls Try.prog 34 #[.pointer (some ⟨D, 0, none⟩), .int .i64 k, .int .i64 num] w fun e w' => ∃ ro' vL' od' d, od'[obFind L k num]? = some d ∧ e = .returned (.agg #[.int .i64 k, .int .i64 num, ptrK k d 0, ptrK k d 1, ptrK k d 2, ptrK k d 3]) ∧ SkAt w' base D ro' vT vL' tv od' T (obAdd L k num) ∧ Kept w w' (fun b => ro b ≠ none) (fun b => ro' b ≠ none) := by
  by_cases hf : obFind L k num < L.length
  · have e1 : obAdd L k num = L := if_pos hf
    have hfo : obFind L k num < od.length := by rw [h.ol]; exact hf
    obtain ⟨h1, h2⟩ := obFind_is (L := L) (k := k) (num := num) rfl hf
    refine (sk_object_old h k num (by omega) _ _ _ rfl (List.getElem?_eq_getElem hfo) (List.getElem?_eq_getElem hf)).mono ?_
    rintro e w' ⟨rfl, b⟩
    rw [e1]
    exact ⟨ro, vL, od, od[obFind L k num], List.getElem?_eq_getElem hfo, by simp only [obC, h1, h2], h.fresh b, Kept.of b⟩
  · have e : obFind L k num = L.length := Nat.le_antisymm List.findIdx_le_length (by omega)
    have e1 : obAdd L k num = L ++ [(num, obNew k)] := if_neg hf
    rw [e1, e]
    have fin : ∀ (e : Ending) (w' : World), (∃ ro' vL' d, e = .returned (.agg (obC (d, num, obNew k)).toArray) ∧ SkAt w' base D ro' vT vL' tv (od ++ [d]) T (L ++ [(num, obNew k)]) ∧ Kept w w' (fun b => ro b ≠ none) (fun b => ro' b ≠ none)) → ∃ ro' vL' od' d, od'[L.length]? = some d ∧ e = .returned (.agg #[.int .i64 k, .int .i64 num, ptrK k d 0, ptrK k d 1, ptrK k d 2, ptrK k d 3]) ∧ SkAt w' base D ro' vT vL' tv od' T (L ++ [(num, obNew k)]) ∧ Kept w w' (fun b => ro b ≠ none) (fun b => ro' b ≠ none) := by
      rintro e w' ⟨ro', vL', d, rfl, h1, h2⟩
      exact ⟨ro', vL', od ++ [d], d, by rw [← h.ol]; simp, rfl, h1, h2⟩
    obtain h0 | h0 | h0 | h0 : k = 0 ∨ k = 1 ∨ k = 2 ∨ k = 3 := by omega
    · subst h0
      exact (sk_object_new0 h num hL e).mono fin
    · subst h0
      exact (sk_object_new1 h num hL e).mono fin
    · subst h0
      exact (sk_object_new2 h num hL e).mono fin
    · subst h0
      exact (sk_object_new3 h num hL e).mono fin
end
end Go.Proofs.Ythhlglbohibekaa
