/-
  The program's net: a packet is taken. No condition.
-/
import Derived.Test.YtpbkpaendhpbfaaNtSend
import Derived.Laws.CopyOwn
namespace Go.Proofs.Ytpbkpaendhpbfaa
open Go.RowKit

theorem copy_grown {P : Program} {w : World} {ops : Array Oper} {rest : List Oper} {o : Oper} {a : Act} {Q : Exit → Act → World → Prop} (hgd : o.guard = none) (d s : Operand) (dT sT : TypeId)
    (ho : o.op = .call { callee := .builtin .copy, args := #[d, s], argTypes := #[dT, sT] }) (elem : TypeId) (hu : P.underlying dT = some (.slice elem)) (hsz : (P.info? elem).map (·.size) = some 1)
    (dp sp : Option Addr) (dLen dCap sLen sCap : Nat) (hd : a.eval d = .slice dp dLen dCap) (hs : a.eval s = .slice sp sLen sCap)
    (g off : Nat) (cur : List Value) (t : TypeId) (hg : w.heap[g]? = some (.cells cur.toArray t (0, 0))) (cs : List Value) (hn : cs.length = Nat.min sLen dLen)
    (hpos : 0 < cs.length → dp = some ⟨g, off, none⟩ ∧ ∃ ad, sp = some ad ∧ ∀ j v, cs[j]? = some v → w.cell? (ad.add j) = some v)
    (hfit : off + cs.length ≤ cur.length) (h1 : ∀ v ∈ cs, v.oneCell' = true)
    (h : ∀ w' v', Hid (w'.heap[g]? = some (.cells (splice cur off cs).toArray t (0, 0))) → w.grownBy w' (some g) → wpList P ops Q rest (a.put o.dst v') w') :
    wpList P ops Q (o :: rest) a w := by
  by_cases h0 : cs.length = 0
  · obtain rfl : cs = [] := List.eq_nil_of_length_eq_zero h0
    refine wpList_copy_nothing hgd d s dT sT ho elem hu hsz dp sp dLen dCap sLen sCap hd hs (by simpa using hn.symm) ?_
    exact h w _ (show _ = _ by simpa [splice] using hg) ⟨rfl, rfl, rfl, Nat.le_refl _, fun _ _ _ => rfl⟩
  · obtain ⟨rfl, ad, rfl, hsrc⟩ := hpos (by omega)
    refine wpList_copy_own hgd d s dT sT ho elem hu hsz g off dLen dCap ad sLen sCap hd hs cur.toArray t hg cs hn hsrc (by simpa using hfit) h1 ?_
    exact h _ _ (show _ = _ by simpa [splice] using setRow_heap w g _ _ t _ hg) ⟨rfl, rfl, rfl, by simp [World.setRow], fun k _ hk => setRow_other w g k _ (fun e => hk (by rw [e]))⟩
theorem splice_take {cur X : List Value} {n r : Nat} {v : Value} (hX : X.length = r) (hn : n ≤ cur.length) : ((splice cur n X).set (n + r) v).take (n + r) = cur.take n ++ X := by
  rw [List.take_set_of_le (Nat.le_refl _)]
  unfold splice
  rw [← List.append_assoc, List.take_append_of_le_length (by simp; omega), List.take_of_length_le (by simp; omega)]
theorem strL_erase (L : List ByteArray) (n : Nat) : strL (L.eraseIdx n) = (strL L).take n ++ (strL L).drop (n + 1) := by
  unfold strL
  rw [List.eraseIdx_eq_take_drop_succ, List.map_append, List.map_take, List.map_drop]
/-- A packet less, behind the copy and two stores. -/
theorem NtAt.taken {w w1 w2 : World} {base D g n r c : Nat} {S : Nat → Prop} {L : List ByteArray} {cur : Array Value} {X : List Value} {v : Value} (h : NtAt PT w base D S L) (hb : w.heap[D]? = some (.cells #[.slice (some ⟨g, 0, none⟩) L.length c] PT (0, 0))) (ho : ∀ g2, (Value.slice (some ⟨g, 0, none⟩) L.length c).ownBlock = some g2 → S g2) (hL : L.length = n + (r + 1))
    (hX : X = (strL L).drop (n + 1)) (hbg : base ≤ g) (hgl : g < w.heap.size) (hnc : L.length ≤ c) (hcm : c ≤ maxLen) (hcs : cur.size = c * 1) (htk : cur.toList.take (L.length * 1) = strL L) (bel : Below w.heap.size w w1) (hG : w2.heap[g]? = some (.cells (splice cur.toList n X).toArray 9 (0, 0))) (hg : w1.grownBy w2 (some g)) (ngD : g ≠ D) :
    ∃ S', NtAt PT ((w2.setCell ⟨g, n + r, none⟩ v).setCell ⟨D, 0, none⟩ (.slice (some ⟨g, 0, none⟩) (n + r) c)) base D S' (L.eraseIdx n) ∧ Kept w ((w2.setCell ⟨g, n + r, none⟩ v).setCell ⟨D, 0, none⟩ (.slice (some ⟨g, 0, none⟩) (n + r) c)) S S' := by
  have hDl := lt_of_block hb
  have hsb := bel.size
  have hs2 := hg.size
  have hXl : X.length = r := by rw [hX, List.length_drop, strL_length]; omega
  have c2 : w2.heap[D]? = some (.cells #[.slice (some ⟨g, 0, none⟩) L.length c] PT (0, 0)) := by
    rw [hg.block D (by omega) (fun e => ngD (Option.some.inj e).symm), bel.block D hDl]
    exact hb
  have c3 : (w2.setCell ⟨g, n + r, none⟩ v).heap[D]? = some (.cells #[.slice (some ⟨g, 0, none⟩) L.length c] PT (0, 0)) := by
    rw [heap_setCell_other _ _ _ _ (by
      show D ≠ g
      exact Ne.symm ngD)]
    exact c2
  have c4 : ((w2.setCell ⟨g, n + r, none⟩ v).setCell ⟨D, 0, none⟩ (.slice (some ⟨g, 0, none⟩) (n + r) c)).heap[D]? = some (.cells #[.slice (some ⟨g, 0, none⟩) (n + r) c] PT (0, 0)) := by
    rw [heap_setCell_same _ D 0 _ _ _ c3]
    rfl
  have g4 : ((w2.setCell ⟨g, n + r, none⟩ v).setCell ⟨D, 0, none⟩ (.slice (some ⟨g, 0, none⟩) (n + r) c)).heap[g]? = some (.cells ((splice cur.toList n X).toArray.setIfInBounds (n + r) v) 9 (0, 0)) := by
    rw [heap_setCell_other _ _ _ _ (by
      show g ≠ D
      exact ngD), heap_setCell_same _ g (n + r) _ _ _ hG]
  have hel : (L.eraseIdx n).length = n + r := by rw [List.length_eraseIdx_of_lt (by omega)]; omega
  have hcl : cur.toList.length = c := by rw [Array.length_toList]; omega
  refine h.upd c4 ?_ (fun g2 e => Or.inl (ho g2 e)) ?_ ?_ ?_ (by simp; omega) (fun b hb2 hn => ?_) (by rw [hel]; have := h.mx; omega) (fun x hx => h.sz x (List.mem_of_mem_eraseIdx hx))
  · refine ⟨by rw [strL_length]; omega, Or.inr ⟨g, c, _, by rw [hel], hbg, g4, by omega, hcm, ?_, ?_⟩⟩
    · rw [Array.size_setIfInBounds, List.size_toArray, length_splice _ _ _ (by omega)]
      omega
    · rw [hel, Nat.mul_one, Array.toList_setIfInBounds, splice_take hXl (by omega), strL_erase, hX]
      have e1 : cur.toList.take n = (strL L).take n := by
        rw [← htk, List.take_take, Nat.mul_one, Nat.min_eq_left (by omega)]
      rw [e1]
  · exact hg.os.trans bel.os
  · exact hg.tape.trans bel.tape
  · exact hg.output.trans bel.output
  · rw [heap_setCell_other _ _ _ _ (by
      show b ≠ D
      rintro rfl
      exact hn h.sD), heap_setCell_other _ _ _ _ (by
      show b ≠ g
      rintro rfl
      exact hn (ho b rfl)), hg.block b (by omega) (fun e => hn (ho b (by rw [e]; rfl))), bel.block b hb2]
theorem drop_cell {w : World} {base g c n r : Nat} {L : List ByteArray} (hr : w.ownsRow base 9 1 (.slice (some ⟨g, 0, none⟩) L.length c) L.length (strL L)) (hL : L.length = n + (r + 1)) (j : Nat) (v : Value) (hj : ((strL L).drop (n + 1))[j]? = some v) : w.cell? ((⟨g, n + 1, none⟩ : Addr).add j) = some v := by
  rw [Addr.add_mid]
  have hjl : n + 1 + j < L.length := by
    have h1 := (List.getElem?_eq_some_iff.1 hj).1
    rw [List.length_drop, strL_length] at h1
    omega
  have h1 := World.ownsRow.cellAt hr (n + 1 + j) (by omega)
  rw [List.getElem?_drop] at hj
  rw [h1, hj]
theorem at_cell {w : World} {g n : Nat} {cs : List Value} {t : TypeId} {fr : Nat × Nat} (h : w.heap[g]? = some (.cells cs.toArray t fr)) (hn : n < cs.length) : ∃ y, w.cell? ⟨g, n, none⟩ = some y := ⟨cs[n], by simp [World.cell?, h, hn]⟩
set_option maxHeartbeats 3200000 in
set_option maxRecDepth 100000 in
/-- Take. -/
theorem ptake_yes {w : World} {base D : Nat} {S : Nat → Prop} {L : List ByteArray} (n : Nat) (h : NtAt PT w base D S L) (hn : n < L.length) :
    Calls Try.prog 15 #[.pointer (some ⟨D, 0, none⟩), .int .i64 (n : Int)] w fun e w' => e = .returned (.tuple #[.string L[n], .int .i64 0]) ∧ ∃ S', NtAt PT w' base D S' (L.eraseIdx n) ∧ Kept w w' S S' := by
  obtain ⟨p, c, hb, hr, ho, hz⟩ := h.cells
  rcases hz with hz | ⟨g, rfl, hcap⟩
  · omega
  have hpk := ppeek_yes n h hn
  obtain ⟨x, hx⟩ : ∃ x, x = L[n] := ⟨_, rfl⟩
  rw [← hx] at hpk ⊢
  have hmx := h.mx
  obtain ⟨r, hL⟩ : ∃ r, L.length = n + (r + 1) := ⟨L.length - n - 1, by omega⟩
  have c0 : w.cell? ⟨D, 0, none⟩ = some (.slice (some ⟨g, 0, none⟩) (n + (r + 1)) c) := by rw [← hL]; simp [World.cell?, hb]
  have f0 : w.frozen? ⟨D, 0, none⟩ = false := by simp [World.frozen?, hb]
  have hs := h.sz L[n] (List.getElem_mem hn)
  have hDl := (h.bd D h.sD).2
  have hbs := (h.bd D h.sD).1
  have nD := nne hr hb (by decide : 9 ≠ PT)
  have hgl : g < w.heap.size := (hr.lt g rfl).2
  have ngD : g ≠ D := fun e => nD (by rw [← e]; rfl)
  have hcap2 : n + (r + 1) ≤ c := by omega
  have hn2 : n + (r + 1) ≤ 4096 := by omega
  have HB : Hid _ := hb
  have HR : Hid _ := hr
  have HO : Hid _ := ho
  have HX : Hid _ := hx
  have HL : Hid _ := hL
  have HN : Hid _ := h
  have HS : Hid _ := hs
  rcases hr.2 with ⟨e, _⟩ | ⟨g', cap, cur, e, hbg, hg, hnc, hcm, hcs, htk⟩
  · simp at e
  simp only [Value.slice.injEq, Option.some.injEq, Addr.mk.injEq, and_true, true_and] at e
  obtain ⟨rfl, rfl⟩ := e
  obtain ⟨X, hX⟩ : ∃ X, X = (strL L).drop (n + 1) := ⟨_, rfl⟩
  have HXL : Hid (X.length = r) := by show _ = _; rw [hX, List.length_drop, strL_length]; omega
  have HXE : Hid _ := hX
  have HG : Hid (w.heap[g]? = some (.cells cur.toList.toArray 9 (0, 0))) := by show _ = _; rw [Array.toArray_toList]; exact hg
  have HC : Hid _ := htk
  have HCS : Hid _ := hcs
  have HBG : Hid _ := hbg
  have HNC : Hid _ := hnc
  have HCM : Hid _ := hcm
  clear hb hr ho hx hL h hs hg hbg hnc hcm hcs htk hX hmx hcap
  have hlen : n + (r + 1) ≤ cur.toList.length := by rw [Array.length_toList, HCS.out]; omega
  have HP : Hid (∀ v ∈ X, v.oneCell' = true) := fun v hv => by
    rw [HXE.out] at hv
    have := List.mem_of_mem_drop hv
    unfold strL at this
    obtain ⟨y, _, rfl⟩ := List.mem_map.1 this
    rfl
  have HSRC : Hid (∀ w1, Below w.heap.size w w1 → ∀ j v, X[j]? = some v → w1.cell? ((⟨g, n + 1, none⟩ : Addr).add j) = some v) := fun w1 bel j v hj => drop_cell (nkeep HR.out (fun g2 e => bel.block g2 (World.ownsRow.lt HR.out g2 e).2)) HL.out j v (by rw [← HXE.out]; exact hj)
  have HMIN : Hid (X.length = Nat.min r (n + (r + 1) - n)) := by
    show _ = min _ _
    rw [HXL.out]
    omega
  cases r with
  | zero =>
    go_enter Try.func15, Try.ntmps15
    go_wp2_with (first
      | (refine copy_grown rfl (.tmp 32) (.tmp 34) 39 39 rfl 9 Try.underlying39 (by kernel_rfl) _ _ _ _ _ _ rfl rfl g n cur.toList 9 ((bel.block g hgl).trans HG.out) X (by rw [HXL.out]; rfl) (fun h0 => absurd h0 (by rw [HXL.out]; omega)) (by rw [HXL.out]; omega) HP.out ?_; intro w2 v2 HG2 hg2;
          have d2 := (hg2.cell_far ⟨D, 0, none⟩ (by exact Nat.lt_of_lt_of_le hDl bel.size) (by simpa using Ne.symm ngD)).trans c1;
          have e2 := (hg2.frozen_far ⟨D, 0, none⟩ (by exact Nat.lt_of_lt_of_le hDl bel.size) (by simpa using Ne.symm ngD)).trans f1;
          obtain ⟨y, hy⟩ : ∃ y, w2.cell? ⟨g, n, none⟩ = some y := at_cell HG2.out (by rw [length_splice _ _ _ (by rw [HXL.out]; omega)]; omega);
          have z2 : w2.frozen? ⟨g, n, none⟩ = false := (by simp [World.frozen?, HG2.out]);
          have d3 : ∀ v, (w2.setCell ⟨g, n, none⟩ v).cell? ⟨D, 0, none⟩ = some (.slice (some ⟨g, 0, none⟩) (n + 1) c) := (fun v => by rw [World.cell?_of_block (heap_setCell_other _ _ _ _ (by simpa using Ne.symm ngD))]; exact d2);
          have e3 : ∀ v, (w2.setCell ⟨g, n, none⟩ v).frozen? ⟨D, 0, none⟩ = false := (fun v => by rw [World.frozen?_of_block (heap_setCell_other _ _ _ _ (by simpa using Ne.symm ngD))]; exact e2))
      | (go_at_call 17; refine hpk.mono ?_; rintro e w1 ⟨rfl, bel⟩; have c1 := (bel.cell (p := ⟨D, 0, none⟩) (by exact hDl)).trans c0; have f1 := (bel.frozen (p := ⟨D, 0, none⟩) (by exact hDl)).trans f0))
    go_ret2
    exact ⟨rfl, HN.out.taken HB.out HO.out HL.out HXE.out HBG.out hgl HNC.out HCM.out HCS.out HC.out bel HG2.out hg2 ngD⟩
  | succ r =>
    go_enter Try.func15, Try.ntmps15
    go_wp2_with (first
      | (refine copy_grown rfl (.tmp 32) (.tmp 34) 39 39 rfl 9 Try.underlying39 (by kernel_rfl) _ _ _ _ _ _ rfl rfl g n cur.toList 9 ((bel.block g hgl).trans HG.out) X (by first | exact HMIN.out | (rw [HXL.out]; exact (Nat.min_eq_left (by omega)).symm)) (fun _ => ⟨rfl, ⟨g, n + 1, none⟩, rfl, HSRC.out _ bel⟩) (by rw [HXL.out]; omega) HP.out ?_; intro w2 v2 HG2 hg2;
          have d2 := (hg2.cell_far ⟨D, 0, none⟩ (by exact Nat.lt_of_lt_of_le hDl bel.size) (by simpa using Ne.symm ngD)).trans c1;
          have e2 := (hg2.frozen_far ⟨D, 0, none⟩ (by exact Nat.lt_of_lt_of_le hDl bel.size) (by simpa using Ne.symm ngD)).trans f1;
          obtain ⟨y, hy⟩ : ∃ y, w2.cell? ⟨g, n + (r + 1), none⟩ = some y := at_cell HG2.out (by rw [length_splice _ _ _ (by rw [HXL.out]; omega)]; omega);
          have z2 : w2.frozen? ⟨g, n + (r + 1), none⟩ = false := (by simp [World.frozen?, HG2.out]);
          have d3 : ∀ v, (w2.setCell ⟨g, n + (r + 1), none⟩ v).cell? ⟨D, 0, none⟩ = some (.slice (some ⟨g, 0, none⟩) (n + (r + 1 + 1)) c) := (fun v => by rw [World.cell?_of_block (heap_setCell_other _ _ _ _ (by simpa using Ne.symm ngD))]; exact d2);
          have e3 : ∀ v, (w2.setCell ⟨g, n + (r + 1), none⟩ v).frozen? ⟨D, 0, none⟩ = false := (fun v => by rw [World.frozen?_of_block (heap_setCell_other _ _ _ _ (by simpa using Ne.symm ngD))]; exact e2))
      | (go_at_call 17; refine hpk.mono ?_; rintro e w1 ⟨rfl, bel⟩; have c1 := (bel.cell (p := ⟨D, 0, none⟩) (by exact hDl)).trans c0; have f1 := (bel.frozen (p := ⟨D, 0, none⟩) (by exact hDl)).trans f0))
    go_ret2
    exact ⟨rfl, HN.out.taken HB.out HO.out HL.out HXE.out HBG.out hgl HNC.out HCM.out HCS.out HC.out bel HG2.out hg2 ngD⟩
end Go.Proofs.Ytpbkpaendhpbfaa
