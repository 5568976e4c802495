/-
  Parts of the proof, laid together: SoRunA, SoRun. The conditions stand at each part.
-/
import Derived.Test.YthhlglbohibekaaSPackB
import Derived.Test.YthhlglbohibekaaSPackM
namespace Go.Proofs.Ythhlglbohibekaa
open Go.RowKit

section
variable {w w' : World} {base : Nat} {k : Nat} {T : List Tk} {L : List (Int × Ob)} {ro : Nat → Option Who} {y : Lay}
theorem both_cell (h : Both w base ro y none T L) : w.cell? ⟨y.D, 1, none⟩ = some (.slice (some ⟨y.bR, 0, none⟩) (2 * 2 ^ y.dR) (2 * 2 ^ y.dR)) ∧ y.D < w.heap.size ∧ (∀ b, ro b ≠ none → base ≤ b ∧ b < w.heap.size) := by
  obtain ⟨tv, od, P, fR, fB, h1, hR⟩ := h.ex
  obtain ⟨_, c1, _, _, hD⟩ := h1.cells
  exact ⟨c1, hD, h1.bd⟩
theorem both_size (h : Both w base ro y none T L) : Calls Try.prog 41 #[.agg #[.slice (some ⟨y.bR, 0, none⟩) (2 * 2 ^ y.dR) (2 * 2 ^ y.dR)]] w fun e w' => e = .returned (.int .i64 ((readyL T).length : Int)) ∧ Below w.heap.size w w' := by
  obtain ⟨tv, od, P, fR, fB, h1, hR⟩ := h.ex
  have e1 : (readyL T).length = trN fR y.dR 0 := by rw [← ready_list h1 hR, natL_len, lvN_len]
  rw [e1]
  exact cr_size h1.cr h1.zR.2
theorem both_at (h : Both w base ro y none T L) (p : Nat) (hp : p < (readyL T).length) : Calls Try.prog 42 #[.agg #[.slice (some ⟨y.bR, 0, none⟩) (2 * 2 ^ y.dR) (2 * 2 ^ y.dR)], .int .i64 (p : Int)] w fun e w' => e = .returned (.int .i64 (readyL T)[p]) ∧ Below w.heap.size w w' := by
  obtain ⟨tv, od, P, fR, fB, h1, hR⟩ := h.ex
  have e1 := ready_list h1 hR
  have hp2 : p < trN fR y.dR 0 := by rw [← lvN_len, ← natL_len, e1]; exact hp
  have e2 : (readyL T)[p] = (selN fR y.dR 0 p : Int) := by
    have h9 : (natL (lvN fR y.dR 0))[p]? = some (selN fR y.dR 0 p : Int) := by
      unfold natL
      rw [List.getElem?_map, lvN_sel fR y.dR 0 p hp2]
      rfl
    rw [e1, List.getElem?_eq_getElem hp] at h9
    exact Option.some.inj h9
  rw [e2]
  exact cr_at h1.cr h1.zR.2 p hp2
theorem both_step (h : Both w base ro y none T L) (hS : StOk k T L) (hO : opOk T) (z : Int) (hk : k < 65535) : Calls Try.prog 13 #[.pointer (some ⟨y.D, 0, none⟩), .int .i64 z] w fun e w' => e = .returned (.tuple #[.agg #[.int .i64 (spR T L z).1.1, .int .i64 (spR T L z).1.2.1, .int .i64 (spR T L z).1.2.2], .int .i64 (spR T L z).2.1]) ∧ ∃ ro', Both w' base ro' y none (spR T L z).2.2.1 (spR T L z).2.2.2 ∧ StOk (k + 1) (spR T L z).2.2.1 (spR T L z).2.2.2 ∧ opOk (spR T L z).2.2.1 ∧ Kept w w' (fun b => ro b ≠ none) (fun b => ro' b ≠ none) := by
  obtain ⟨tv, od, P, fR, fB, h1, hR⟩ := h.ex
  cases hrd : rdB T z with
  | false =>
    have es : spR T L z = ((0, 0, 0), 1, T, L) := by unfold spR; rw [hrd]; rfl
    rw [es]
    refine (pk_step_no h1 hR z hrd).mono ?_
    rintro e w2 ⟨rfl, b2⟩
    exact ⟨rfl, ro, h.fresh b2, hS.mono (Nat.le_succ _), hO, Kept.of b2⟩
  | true =>
    have es : spR T L z = ((stR T L z.toNat).1, 0, (stR T L z.toNat).2.1, (stR T L z.toNat).2.2) := by unfold spR; rw [if_pos hrd]
    obtain ⟨i, rfl, hi, hb, hp⟩ := rdB_at hrd
    rw [es, Int.toNat_natCast]
    obtain ⟨s1, s2⟩ := stR_ok hS i
    have e3 : (stR T L i).1.1 = (i : Int) ∧ (stR T L i).1.2.1 = (T[i].pos : Int) := by rw [stR_eq i hi hp]; exact ⟨rfl, rfl⟩
    simp only [e3.1, e3.2]
    have ho := hO T[i] (List.getElem_mem hi) T[i].ops[T[i].pos] (List.getElem_mem hp)
    refine (pk_step_yes h1 hR h.iv hS hk hi hb hp ho.2).mono ?_
    rintro e w2 ⟨rfl, ro2, h2, k2⟩
    exact ⟨rfl, ro2, h2, s1, opOk_of hO s2, k2⟩
set_option maxHeartbeats 3200000 in
set_option maxRecDepth 100000 in
theorem mod_any (p : Int) (n : Nat) (hn : 0 < n) (hl : n ≤ 65536) (w : World) : Calls Try.prog 43 #[.int .i64 p, .int .i64 (n : Int)] w fun e w' => e = .returned (.int .i64 (p % (n : Int))) ∧ w = w' := by
  have ht := tmod_at p n hn
  obtain ⟨hlo, hhi⟩ := tmod_lo p n hn
  have qz : decide ((n : Int) = 0) = false := decide_eq_false (by omega)
  have q2 : ((n : Int) == 0) = false := by rw [beq_eq_false_iff_ne]; omega
  by_cases hm : p.tmod (n : Int) < 0
  · rw [if_pos hm] at ht
    have q3 : decide (p.tmod (n : Int) < 0) = true := decide_eq_true hm
    have q4 : IntKind.i64.wrap (p.tmod (n : Int) + (n : Int)) = p % (n : Int) := by rw [ht, IntKind.wrap_i64]; have := Int.emod_nonneg p (show (n : Int) ≠ 0 by omega); have := Int.emod_lt_of_pos p (show (0 : Int) < (n : Int) by omega); omega
    have hnz : ¬ (n : Int) = 0 := by omega
    clear hm ht hlo hhi
    go_enter Try.func43, Try.ntmps43
    go_wp2
    go_ret
    exact ⟨rfl, rfl⟩
  · rw [if_neg hm] at ht
    rw [← ht]
    have q3 : decide (p.tmod (n : Int) < 0) = false := decide_eq_false hm
    have hnz : ¬ (n : Int) = 0 := by omega
    clear hlo hhi ht
    go_enter Try.func43, Try.ntmps43
    go_wp2
    go_ret
    exact ⟨rfl, rfl⟩
end
end Go.Proofs.Ythhlglbohibekaa
namespace Go.Proofs.Ythhlglbohibekaa
open Go.RowKit

section
variable {P : Program} {md : Region.Mode} {Q : Exit → Act → World → Prop} {S : World → Prop} {fuel : Nat} {listed : Array Bool} {a : Act} {w : World} {l : List Oper}
theorem rd10_17 {o0 o1 o2 o3 o4 o5 o6 o7 o8 o9 o10 o11 o12 o13 o14 o15 o16 o17 : Oper} (hr : Region.ready md (o0 :: o1 :: o2 :: o3 :: o4 :: o5 :: o6 :: o7 :: o8 :: o9 :: o10 :: o11 :: o12 :: o13 :: o14 :: o15 :: o16 :: o17 :: l).toArray listed = [10, 17]) (hw0 : Region.wanted o10 (yielded (o0 :: o1 :: o2 :: o3 :: o4 :: o5 :: o6 :: o7 :: o8 :: o9 :: o10 :: o11 :: o12 :: o13 :: o14 :: o15 :: o16 :: o17 :: l).toArray a.tmps) = true) (hw1 : Region.wanted o17 (yielded (o0 :: o1 :: o2 :: o3 :: o4 :: o5 :: o6 :: o7 :: o8 :: o9 :: o10 :: o11 :: o12 :: o13 :: o14 :: o15 :: o16 :: o17 :: l).toArray a.tmps) = true)
    (h0 : ∀ K' : Act → World → Prop, Shut (∀ a w, S w → (S w → wpAnyH P md (o0 :: o1 :: o2 :: o3 :: o4 :: o5 :: o6 :: o7 :: o8 :: o9 :: o10 :: o11 :: o12 :: o13 :: o14 :: o15 :: o16 :: o17 :: l).toArray Q S fuel (listed.setIfInBounds 10 true) a w) → K' a w) → Oper.wp P o10 a w K' Q)
    (h1 : ∀ K' : Act → World → Prop, Shut (∀ a w, S w → (S w → wpAnyH P md (o0 :: o1 :: o2 :: o3 :: o4 :: o5 :: o6 :: o7 :: o8 :: o9 :: o10 :: o11 :: o12 :: o13 :: o14 :: o15 :: o16 :: o17 :: l).toArray Q S fuel (listed.setIfInBounds 17 true) a w) → K' a w) → Oper.wp P o17 a w K' Q) : wpAnyH P md (o0 :: o1 :: o2 :: o3 :: o4 :: o5 :: o6 :: o7 :: o8 :: o9 :: o10 :: o11 :: o12 :: o13 :: o14 :: o15 :: o16 :: o17 :: l).toArray Q S (fuel + 1) listed a w :=
  wpAnyH_ready hr (by simp) (AllReadyH.cons (o := o10) rfl (fun K hK => by rw [if_pos hw0]; exact h0 K hK) (AllReadyH.cons (o := o17) rfl (fun K hK => by rw [if_pos hw1]; exact h1 K hK) AllReadyH.nil))
theorem rd11_17 {o0 o1 o2 o3 o4 o5 o6 o7 o8 o9 o10 o11 o12 o13 o14 o15 o16 o17 : Oper} (hr : Region.ready md (o0 :: o1 :: o2 :: o3 :: o4 :: o5 :: o6 :: o7 :: o8 :: o9 :: o10 :: o11 :: o12 :: o13 :: o14 :: o15 :: o16 :: o17 :: l).toArray listed = [11, 17]) (hw0 : Region.wanted o11 (yielded (o0 :: o1 :: o2 :: o3 :: o4 :: o5 :: o6 :: o7 :: o8 :: o9 :: o10 :: o11 :: o12 :: o13 :: o14 :: o15 :: o16 :: o17 :: l).toArray a.tmps) = true) (hw1 : Region.wanted o17 (yielded (o0 :: o1 :: o2 :: o3 :: o4 :: o5 :: o6 :: o7 :: o8 :: o9 :: o10 :: o11 :: o12 :: o13 :: o14 :: o15 :: o16 :: o17 :: l).toArray a.tmps) = true)
    (h0 : ∀ K' : Act → World → Prop, Shut (∀ a w, S w → (S w → wpAnyH P md (o0 :: o1 :: o2 :: o3 :: o4 :: o5 :: o6 :: o7 :: o8 :: o9 :: o10 :: o11 :: o12 :: o13 :: o14 :: o15 :: o16 :: o17 :: l).toArray Q S fuel (listed.setIfInBounds 11 true) a w) → K' a w) → Oper.wp P o11 a w K' Q)
    (h1 : ∀ K' : Act → World → Prop, Shut (∀ a w, S w → (S w → wpAnyH P md (o0 :: o1 :: o2 :: o3 :: o4 :: o5 :: o6 :: o7 :: o8 :: o9 :: o10 :: o11 :: o12 :: o13 :: o14 :: o15 :: o16 :: o17 :: l).toArray Q S fuel (listed.setIfInBounds 17 true) a w) → K' a w) → Oper.wp P o17 a w K' Q) : wpAnyH P md (o0 :: o1 :: o2 :: o3 :: o4 :: o5 :: o6 :: o7 :: o8 :: o9 :: o10 :: o11 :: o12 :: o13 :: o14 :: o15 :: o16 :: o17 :: l).toArray Q S (fuel + 1) listed a w :=
  wpAnyH_ready hr (by simp) (AllReadyH.cons (o := o11) rfl (fun K hK => by rw [if_pos hw0]; exact h0 K hK) (AllReadyH.cons (o := o17) rfl (fun K hK => by rw [if_pos hw1]; exact h1 K hK) AllReadyH.nil))
theorem rd12_17 {o0 o1 o2 o3 o4 o5 o6 o7 o8 o9 o10 o11 o12 o13 o14 o15 o16 o17 : Oper} (hr : Region.ready md (o0 :: o1 :: o2 :: o3 :: o4 :: o5 :: o6 :: o7 :: o8 :: o9 :: o10 :: o11 :: o12 :: o13 :: o14 :: o15 :: o16 :: o17 :: l).toArray listed = [12, 17]) (hw0 : Region.wanted o12 (yielded (o0 :: o1 :: o2 :: o3 :: o4 :: o5 :: o6 :: o7 :: o8 :: o9 :: o10 :: o11 :: o12 :: o13 :: o14 :: o15 :: o16 :: o17 :: l).toArray a.tmps) = true) (hw1 : Region.wanted o17 (yielded (o0 :: o1 :: o2 :: o3 :: o4 :: o5 :: o6 :: o7 :: o8 :: o9 :: o10 :: o11 :: o12 :: o13 :: o14 :: o15 :: o16 :: o17 :: l).toArray a.tmps) = true)
    (h0 : ∀ K' : Act → World → Prop, Shut (∀ a w, S w → (S w → wpAnyH P md (o0 :: o1 :: o2 :: o3 :: o4 :: o5 :: o6 :: o7 :: o8 :: o9 :: o10 :: o11 :: o12 :: o13 :: o14 :: o15 :: o16 :: o17 :: l).toArray Q S fuel (listed.setIfInBounds 12 true) a w) → K' a w) → Oper.wp P o12 a w K' Q)
    (h1 : ∀ K' : Act → World → Prop, Shut (∀ a w, S w → (S w → wpAnyH P md (o0 :: o1 :: o2 :: o3 :: o4 :: o5 :: o6 :: o7 :: o8 :: o9 :: o10 :: o11 :: o12 :: o13 :: o14 :: o15 :: o16 :: o17 :: l).toArray Q S fuel (listed.setIfInBounds 17 true) a w) → K' a w) → Oper.wp P o17 a w K' Q) : wpAnyH P md (o0 :: o1 :: o2 :: o3 :: o4 :: o5 :: o6 :: o7 :: o8 :: o9 :: o10 :: o11 :: o12 :: o13 :: o14 :: o15 :: o16 :: o17 :: l).toArray Q S (fuel + 1) listed a w :=
  wpAnyH_ready hr (by simp) (AllReadyH.cons (o := o12) rfl (fun K hK => by rw [if_pos hw0]; exact h0 K hK) (AllReadyH.cons (o := o17) rfl (fun K hK => by rw [if_pos hw1]; exact h1 K hK) AllReadyH.nil))
theorem rd13_17 {o0 o1 o2 o3 o4 o5 o6 o7 o8 o9 o10 o11 o12 o13 o14 o15 o16 o17 : Oper} (hr : Region.ready md (o0 :: o1 :: o2 :: o3 :: o4 :: o5 :: o6 :: o7 :: o8 :: o9 :: o10 :: o11 :: o12 :: o13 :: o14 :: o15 :: o16 :: o17 :: l).toArray listed = [13, 17]) (hw0 : Region.wanted o13 (yielded (o0 :: o1 :: o2 :: o3 :: o4 :: o5 :: o6 :: o7 :: o8 :: o9 :: o10 :: o11 :: o12 :: o13 :: o14 :: o15 :: o16 :: o17 :: l).toArray a.tmps) = true) (hw1 : Region.wanted o17 (yielded (o0 :: o1 :: o2 :: o3 :: o4 :: o5 :: o6 :: o7 :: o8 :: o9 :: o10 :: o11 :: o12 :: o13 :: o14 :: o15 :: o16 :: o17 :: l).toArray a.tmps) = true)
    (h0 : ∀ K' : Act → World → Prop, Shut (∀ a w, S w → (S w → wpAnyH P md (o0 :: o1 :: o2 :: o3 :: o4 :: o5 :: o6 :: o7 :: o8 :: o9 :: o10 :: o11 :: o12 :: o13 :: o14 :: o15 :: o16 :: o17 :: l).toArray Q S fuel (listed.setIfInBounds 13 true) a w) → K' a w) → Oper.wp P o13 a w K' Q)
    (h1 : ∀ K' : Act → World → Prop, Shut (∀ a w, S w → (S w → wpAnyH P md (o0 :: o1 :: o2 :: o3 :: o4 :: o5 :: o6 :: o7 :: o8 :: o9 :: o10 :: o11 :: o12 :: o13 :: o14 :: o15 :: o16 :: o17 :: l).toArray Q S fuel (listed.setIfInBounds 17 true) a w) → K' a w) → Oper.wp P o17 a w K' Q) : wpAnyH P md (o0 :: o1 :: o2 :: o3 :: o4 :: o5 :: o6 :: o7 :: o8 :: o9 :: o10 :: o11 :: o12 :: o13 :: o14 :: o15 :: o16 :: o17 :: l).toArray Q S (fuel + 1) listed a w :=
  wpAnyH_ready hr (by simp) (AllReadyH.cons (o := o13) rfl (fun K hK => by rw [if_pos hw0]; exact h0 K hK) (AllReadyH.cons (o := o17) rfl (fun K hK => by rw [if_pos hw1]; exact h1 K hK) AllReadyH.nil))
end
section
variable {w : World} {v vp : Value} {ts : List (List Opx)} {picks : List Int}
set_option maxHeartbeats 6400000 in
set_option maxRecDepth 100000 in
theorem ps_run (h : TasksAt w v ts) (hn : ts.length ≤ 65536) (hl : ∀ o ∈ ts, o.length ≤ 65536) (ho : opsOk ts) (hp : RowAt intC w vp picks) (hpo : ∀ x ∈ picks, okI x) (hpl : picks.length ≤ 65536) : Calls Try.prog 22 #[v, vp] w fun e w' => ∃ u, e = .returned (.tuple #[u, .bool (endedB (runR picks 10000 0 (ts.map tkNew) []).2.1)]) ∧ RowAt opC w' u (runR picks 10000 0 (ts.map tkNew) []).1 ∧ Below w.heap.size w w' := by
  obtain ⟨i0, hi, hz0, hz1, hz2⟩ := info_parts infoE3
  have hnw := ps_new h hn hl ho
  obtain ⟨av, cv, rfl⟩ := h.form
  obtain ⟨ap, cp, rfl⟩ := hp.form
  have HP : Hid (RowAt intC w (.slice ap picks.length cp) picks) := hp
  have HPO : Hid (∀ x ∈ picks, okI x) := hpo
  clear h hl hp hpo ho
  generalize ts.map tkNew = T0 at *
  go_enter Try.func22, Try.ntmps22
  go_wp2_with (go_at_call 11; refine hnw.mono ?_; rintro e w1 ⟨D, S1, rfl, h1', b1⟩; have H1 : Hid _ := h1'; clear h1')
  obtain ⟨ro1, y, rfl, hB1, _⟩ := H1.out.ex
  have HOK1 : Hid _ := H1.out.ok
  have HOP1 : Hid _ := H1.out.op
  go_loopw [7, 8, 9, 10] (fun out _ _ _ wr => ∃ (k : Nat) (ro : Nat → Option Who) (T : List Tk) (L : List (Int × Ob)) (evs : List Opx), k ≤ 10000 ∧ evs.length = k ∧ Hid (Both wr w.heap.size ro y none T L) ∧ Hid (StOk k T L) ∧ Hid (opOk T) ∧ Hid (wr.ownsRow w.heap.size 32 3 out evs.length (rowL opC evs)) ∧ Hid (∀ g, out.ownBlock = some g → ro g = none) ∧ Hid (runR picks 10000 0 T0 [] = (evs ++ (runR picks (10000 - k) k T L).1, (runR picks (10000 - k) k T L).2)) ∧ Hid (Below w.heap.size w wr)) (fun out _ _ _ _ => 10000 - (match out with | .slice _ n _ => n | _ => 0))
  case atStart => exact ⟨0, ro1, T0, [], [], Nat.zero_le _, rfl, hB1, HOK1, HOP1, World.ownsRow_nil _ _ _ _, fun g hg => (by simp [Value.ownBlock] at hg), by show _ = _; simp, b1⟩
  case round =>
    obtain ⟨k, ro, T, L, evs, hk, hek, hB, hS, hO, HO, hOS, hrun, bel⟩ := hrel
    obtain ⟨pg, mg, rfl⟩ := own_formN HO.out
    obtain ⟨c1, hD, hbd⟩ := both_cell hB.out
    have hsz := both_size hB.out
    have HEK : Hid (evs.length = k) := hek
    have HEND : Hid (∀ w2 : World, Below wr.heap.size wr w2 → Calls Try.prog 20 #[.pointer (some ⟨y.D, 0, none⟩)] w2 fun e w' => e = .returned (.bool (endedB T)) ∧ Below wr.heap.size wr w') := fun w2 b2 => (ps_Ended (⟨⟨ro, y, rfl, hB.out.fresh b2, fun b => Iff.rfl⟩, hS.out, hO.out⟩ : PSk w2 w.heap.size y.D (fun b => ro b ≠ none) k T L)).mono fun _ _ ⟨e1, e2⟩ => ⟨e1, bmm b2 b2.size e2⟩
    by_cases hk1 : k < 10000
    · have q0 : decide ((evs.length : Int) < 10000) = true := decide_eq_true (by omega)
      by_cases hne : readyL T = []
      · have HE : Hid (runR picks 10000 0 T0 [] = (evs, T, L)) := by
          show _ = _
          obtain ⟨f, hf⟩ : ∃ f, 10000 - k = f + 1 := ⟨10000 - k - 1, by omega⟩
          rw [hrun.out, hf, runR, hne]
          simp
        rw [hne] at hsz
        clear hek hbd hne
        go_wp2_with (first
          | (go_at_call 20; refine (HEND.out w2 b2).mono ?_; rintro e w3 ⟨rfl, b3⟩)
          | (go_at_call 41; refine hsz.mono ?_; rintro e w2 ⟨rfl, b2⟩))
        go_ret2
        rw [HE.out]
        exact ⟨_, rfl, RowAt.own opC_len (own_below9 HO.out b3), bmm bel.out bel.out.size b3⟩
      have hnl : 0 < (readyL T).length := List.length_pos_iff.2 hne
      have hpl' := placeR_lt (readyL T).length picks k hnl
      have hle : (readyL T).length ≤ 65536 := Nat.le_trans (upto_le _ _ _) hS.out.nt
      obtain ⟨z, hz⟩ : ∃ z, (readyL T)[placeR (readyL T).length picks k] = z := ⟨_, rfl⟩
      have HRUN : Hid (runR picks 10000 0 T0 [] = ((evs ++ [(spR T L z).1]) ++ (runR picks (10000 - (k + 1)) (k + 1) (spR T L z).2.2.1 (spR T L z).2.2.2).1, (runR picks (10000 - (k + 1)) (k + 1) (spR T L z).2.2.1 (spR T L z).2.2.2).2)) := by
        show _ = _
        obtain ⟨f, hf⟩ : ∃ f, 10000 - k = f + 1 := ⟨10000 - k - 1, by omega⟩
        have hf2 : 10000 - (k + 1) = f := by omega
        rw [hrun.out, hf, hf2, runR, List.getElem?_eq_getElem hpl', hz]
        simp
      have hel : evs.length ≤ 10000 := by omega
      obtain ⟨pl, hpe0⟩ : ∃ pl, pl = placeR (readyL T).length picks k := ⟨_, rfl⟩
      have HPN : Hid (pl < (readyL T).length) := by show _ < _; rw [hpe0]; exact hpl'
      have HZZ : Hid ((readyL T)[pl]'(HPN.out) = z) := by
        show _ = _
        rw [← hz]
        congr 1
      have HNL : Hid (0 < (readyL T).length) := hnl
      have qn : decide (0 < ((readyL T).length : Int)) = true := decide_eq_true (by omega)
      cases hpk : picks[k]? with
      | none =>
        have hkp : ¬ k < picks.length := by have := List.getElem?_eq_none_iff.1 hpk; omega
        have q1 : decide ((evs.length : Int) < (picks.length : Int)) = false := decide_eq_false (by omega)
        have q1n : ¬ evs.length < picks.length := by omega
        have e0 : placeR (readyL T).length picks k = 0 := by unfold placeR; rw [hpk]
        obtain ⟨p, hp0⟩ : ∃ p : Int, p = 0 := ⟨_, rfl⟩
        have HPL : Hid ((pl : Int) = p % ((readyL T).length : Int)) := by show _ = _; rw [hpe0, e0, hp0]; simp
        have HP0 : Hid (p = 0) := hp0
        clear hek hbd hne hpk hz hpe0 e0 hp0 hpl'
        go_wp2_with (go_at_call 41; refine hsz.mono ?_; rintro e w2 ⟨rfl, b2⟩)
        have hB2 : Both w2.drew w.heap.size ro y none T L := (hB.out.fresh b2).keep (Nat.le_refl _) (fun _ _ => rfl)
        have HB2 : Hid _ := hB2
        have HRN : Hid (∀ b, ro b ≠ none → b < w2.drew.heap.size) := fun b hb => ((both_cell HB2.out).2.2 b hb).2
        have HS0 : Hid (w2.drew.cell? ⟨y.D, 1, none⟩ = some (.slice (some ⟨y.bR, 0, none⟩) (2 * 2 ^ y.dR) (2 * 2 ^ y.dR))) := (both_cell HB2.out).1
        have hDD : y.D < w2.drew.heap.size := (both_cell HB2.out).2.1
        have HSZ : Hid (∀ X : World, Below w2.drew.heap.size w2.drew X → Calls Try.prog 41 #[.agg #[.slice (some ⟨y.bR, 0, none⟩) (2 * 2 ^ y.dR) (2 * 2 ^ y.dR)]] X fun e w' => e = .returned (.int .i64 ((readyL T).length : Int)) ∧ Below X.heap.size X w') := fun X b => both_size (HB2.out.fresh b)
        have HMO : Hid (∀ X : World, Calls Try.prog 43 #[.int .i64 0, .int .i64 ((readyL T).length : Int)] X fun e w' => e = .returned (.int .i64 (pl : Int)) ∧ X = w') := fun X => by
          rw [HPL.out, HP0.out]
          exact mod_any 0 _ hnl hle X
        have HAT : Hid (∀ X : World, Below w2.drew.heap.size w2.drew X → Calls Try.prog 42 #[.agg #[.slice (some ⟨y.bR, 0, none⟩) (2 * 2 ^ y.dR) (2 * 2 ^ y.dR)], .int .i64 (pl : Int)] X fun e w' => e = .returned (.int .i64 z) ∧ Below X.heap.size X w') := fun X b => by
          have h9 := both_at (HB2.out.fresh b) pl HPN.out
          rw [HZZ.out] at h9
          exact h9
        have HST : Hid (∀ X : World, Below w2.drew.heap.size w2.drew X → Calls Try.prog 13 #[.pointer (some ⟨y.D, 0, none⟩), .int .i64 z] X fun e w' => e = .returned (.tuple #[.agg #[.int .i64 (spR T L z).1.1, .int .i64 (spR T L z).1.2.1, .int .i64 (spR T L z).1.2.2], .int .i64 (spR T L z).2.1]) ∧ ∃ ro', Both w' w.heap.size ro' y none (spR T L z).2.2.1 (spR T L z).2.2.2 ∧ StOk (k + 1) (spR T L z).2.2.1 (spR T L z).2.2.2 ∧ opOk (spR T L z).2.2.1 ∧ Kept X w' (fun b => ro b ≠ none) (fun b => ro' b ≠ none)) := fun X b => both_step (HB2.out.fresh b) hS.out hO.out z (by omega)
        have bw2 : Below w.heap.size w w2.drew := (bmm bel.out bel.out.size b2).drew
        have hO2 : w2.drew.ownsRow w.heap.size 32 3 (.slice pg evs.length mg) evs.length (rowL opC evs) := own_keep HO.out (fun g hg => b2.block g (World.ownsRow.lt HO.out g hg).2)
        have HOO : Hid _ := hO2
        have HBW : Hid _ := bw2
        have HFIN : Hid (∀ (W : World) (ro13 : Nat → Option Who) (E : Nat), Both W w.heap.size ro13 y none (spR T L z).2.2.1 (spR T L z).2.2.2 → Kept w2.drew W (fun b => ro b ≠ none) (fun b => ro13 b ≠ none) → W.heap[E]? = some (.cells #[.int .i64 0, .int .i64 0, .int .i64 0] 32 (0, 0)) → ro13 E = none → w2.drew.heap.size ≤ E → Hid (Both (W.setRow E #[.int .i64 (spR T L z).1.1, .int .i64 (spR T L z).1.2.1, .int .i64 (spR T L z).1.2.2]) w.heap.size ro13 y none (spR T L z).2.2.1 (spR T L z).2.2.2) ∧ Hid ((W.setRow E #[.int .i64 (spR T L z).1.1, .int .i64 (spR T L z).1.2.1, .int .i64 (spR T L z).1.2.2]).ownsRow w.heap.size 32 3 (.slice pg evs.length mg) evs.length (rowL opC evs)) ∧ Hid (∀ g, (Value.slice pg evs.length mg).ownBlock = some g → ro13 g = none) ∧ Hid (Below w.heap.size w (W.setRow E #[.int .i64 (spR T L z).1.1, .int .i64 (spR T L z).1.2.1, .int .i64 (spR T L z).1.2.2])) ∧ (W.setRow E #[.int .i64 (spR T L z).1.1, .int .i64 (spR T L z).1.2.1, .int .i64 (spR T L z).1.2.2]).cell? ⟨y.D, 1, none⟩ = some (.slice (some ⟨y.bR, 0, none⟩) (2 * 2 ^ y.dR) (2 * 2 ^ y.dR)) ∧ (W.setRow E #[.int .i64 (spR T L z).1.1, .int .i64 (spR T L z).1.2.1, .int .i64 (spR T L z).1.2.2]).cell? ⟨E, 0, none⟩ = some (.int .i64 (spR T L z).1.1) ∧ (W.setRow E #[.int .i64 (spR T L z).1.1, .int .i64 (spR T L z).1.2.1, .int .i64 (spR T L z).1.2.2]).cell? ⟨E, 1, none⟩ = some (.int .i64 (spR T L z).1.2.1) ∧ (W.setRow E #[.int .i64 (spR T L z).1.1, .int .i64 (spR T L z).1.2.1, .int .i64 (spR T L z).1.2.2]).cell? ⟨E, 2, none⟩ = some (.int .i64 (spR T L z).1.2.2) ∧ E < (W.setRow E #[.int .i64 (spR T L z).1.1, .int .i64 (spR T L z).1.2.1, .int .i64 (spR T L z).1.2.2]).heap.size) := fun W ro13 E hW kW hE nE lE => by
          have gr := grown_setRow_g W E #[.int .i64 (spR T L z).1.1, .int .i64 (spR T L z).1.2.1, .int .i64 (spR T L z).1.2.2]
          have hot : ∀ b, b ≠ E → (W.setRow E #[.int .i64 (spR T L z).1.1, .int .i64 (spR T L z).1.2.1, .int .i64 (spR T L z).1.2.2]).heap[b]? = W.heap[b]? := fun b hb => setRow_other W E b _ hb
          have hrow := setRow_heap W E #[.int .i64 0, .int .i64 0, .int .i64 0] #[.int .i64 (spR T L z).1.1, .int .i64 (spR T L z).1.2.1, .int .i64 (spR T L z).1.2.2] 32 (0, 0) hE
          have hg1 : Both (W.setRow E #[.int .i64 (spR T L z).1.1, .int .i64 (spR T L z).1.2.1, .int .i64 (spR T L z).1.2.2]) w.heap.size ro13 y none (spR T L z).2.2.1 (spR T L z).2.2.2 := hW.keep gr.size (fun b hb => hot b (fun e => hb (by rw [e]; exact nE)))
          have hgo : ∀ g, (Value.slice pg evs.length mg).ownBlock = some g → g < w2.drew.heap.size ∧ ro g = none := fun g hg => ⟨(World.ownsRow.lt HOO.out g hg).2, hOS.out g hg⟩
          refine ⟨hg1, own_keep HOO.out (fun g hg => ?_), fun g hg => ?_, ?_, (both_cell hg1).1, by rw [cell_of_row _ _ _ _ _ _ hrow]; rfl, by rw [cell_of_row _ _ _ _ _ _ hrow]; rfl, by rw [cell_of_row _ _ _ _ _ _ hrow]; rfl, lt_of_block hrow⟩
          · have h1 := hgo g hg
            rw [hot g (by omega)]
            exact kW.kept g h1.1 (fun e => e h1.2)
          · have h1 := hgo g hg
            apply Classical.byContradiction
            intro hc
            rcases kW.old g hc with h9 | h9
            · exact h9 h1.2
            · omega
          · have k1 : Below w.heap.size w W := HBW.out.trans (kW.low HBW.out.size (fun b hb => ((both_cell HB2.out).2.2 b hb).1))
            exact k1.grown gr k1.size (fun q hq => by rw [← Option.some.inj hq]; exact Nat.le_trans HBW.out.size lE)
        have HAPP : Hid (∀ (W : World) (ro13 : Nat → Option Who), Both W w.heap.size ro13 y none (spR T L z).2.2.1 (spR T L z).2.2.2 → (∀ g, (Value.slice pg evs.length mg).ownBlock = some g → ro13 g = none) → Below w.heap.size w W → ∀ (o : Obj) (u : Value) (w5 : World), w5.ownsRow w.heap.size 32 3 u (evs.length + 1) (rowL opC evs ++ rowL opC [((spR T L z).1.1, (spR T L z).1.2.1, (spR T L z).1.2.2)]) → Appended w.heap.size (W.alloc o) w5 (.slice pg evs.length mg) u → Hid (Both w5 w.heap.size ro13 y none (spR T L z).2.2.1 (spR T L z).2.2.2) ∧ (Hid (w5.ownsRow w.heap.size 32 3 u (evs ++ [(spR T L z).1]).length (rowL opC (evs ++ [(spR T L z).1]))) ∧ Hid (∀ g, u.ownBlock = some g → ro13 g = none)) ∧ Hid (Below w.heap.size w w5)) := fun W ro13 hW hg bW o u w5 h5 a5 => by
          have ba : Below W.heap.size W (W.alloc o) := (Below.refl _ W).alloc (Nat.le_refl _) o
          have hWa := hW.fresh ba
          have hbd2 := (both_cell hWa).2.2
          refine ⟨hWa.keep a5.below.size (fun b hb => a5.rest b (hbd2 b hb).2 (fun e => hb (hg b e.symm))), ⟨?_, fun g hg2 => ?_⟩, (bmm bW bW.size ba).trans a5.below⟩
          · show World.ownsRow _ _ _ _ _ _ _
            rw [rowL_append, List.length_append]
            exact h5
          · rcases a5.lies with l5 | l5
            · exact hg g (by rw [← l5]; exact hg2)
            · apply Classical.byContradiction
              intro hc
              rw [hg2] at l5
              have h8 := Option.some.inj l5
              have h9 := (hbd2 g hc).2
              omega
        clear hB2 hO2 bw2
        refine wp_region_held_drew (S := (fun w' : World => w'.cell? ⟨y.D, 1, none⟩ = some (.slice (some ⟨y.bR, 0, none⟩) (2 * 2 ^ y.dR) (2 * 2 ^ y.dR)))) (by kernel_rfl) ?_ (fun hHeld0 => ?_)
        · exact HS0.out
        generalize w2.drew = w9 at *
        clear hHeld0
        have hHeld0 := HS0.out
        refine tk0 (.pointer (some ⟨y.D, 0, none⟩)) ?_
        try simp only [Act.put, pu1, pu2, pu3]
        refine tk1 (.pointer (some ⟨y.D, 0, none⟩)) ?_
        try simp only [Act.put, pu1, pu2, pu3]
        refine tk2 (.pointer (some ⟨y.D, 0, none⟩)) ?_
        try simp only [Act.put, pu1, pu2, pu3]
        refine tk3 (.pointer (some ⟨y.D, 1, none⟩)) ?_
        try simp only [Act.put, pu1, pu2, pu3]
        refine tk4 (.agg #[.slice (some ⟨y.bR, 0, none⟩) (2 * 2 ^ y.dR) (2 * 2 ^ y.dR)]) ?_
        try simp only [Act.put, pu1, pu2, pu3]
        refine tk5 (.int .i64 0) ?_
        try simp only [Act.put, pu1, pu2, pu3]
        refine tk6 (.pointer (some ⟨y.D, 0, none⟩)) ?_
        try simp only [Act.put, pu1, pu2, pu3]
        refine tk7 (.pointer (some ⟨y.D, 0, none⟩)) ?_
        try simp only [Act.put, pu1, pu2, pu3]
        refine tk8 (.pointer (some ⟨y.D, 1, none⟩)) ?_
        try simp only [Act.put, pu1, pu2, pu3]
        refine tk9 (.agg #[.slice (some ⟨y.bR, 0, none⟩) (2 * 2 ^ y.dR) (2 * 2 ^ y.dR)]) ?_
        try simp only [Act.put, pu1, pu2, pu3]
        refine rd10_17 (by kernel_rfl) rfl rfl (fun K hK => ?_) (fun K hK => ?_)
        · go_simp
          go_at_call 41
          refine (HSZ.out w9 (Below.refl w9.heap.size w9)).mono ?_
          rintro e w10 ⟨rfl, b10⟩
          refine hK.out _ _ ?_ (fun hHeld => ?_)
          · exact (World.cell?_of_block (a := ⟨y.D, 1, none⟩) (b10.block y.D (by (try simp); omega))).trans (by assumption)
          clear hK K
          try simp only [Act.put, pu1, pu2, pu3]
          refine rd11_17 (by kernel_rfl) rfl rfl (fun K hK => ?_) (fun K hK => ?_)
          · go_simp
            go_at_call 43
            refine (HMO.out w10).mono ?_
            rintro e w11 ⟨rfl, rfl⟩
            refine hK.out _ _ ?_ (fun hHeld => ?_)
            · exact by assumption
            clear hK K
            try simp only [Act.put, pu1, pu2, pu3]
            refine rd12_17 (by kernel_rfl) rfl rfl (fun K hK => ?_) (fun K hK => ?_)
            · go_simp
              go_at_call 42
              refine (HAT.out w10 (bmm (Below.refl w9.heap.size w9) (Below.refl w9.heap.size w9).size b10)).mono ?_
              rintro e w12 ⟨rfl, b12⟩
              refine hK.out _ _ ?_ (fun hHeld => ?_)
              · exact (World.cell?_of_block (a := ⟨y.D, 1, none⟩) (b12.block y.D (by have h10 := b10.size; (try simp at h10); (try simp); omega))).trans (by assumption)
              clear hK K
              try simp only [Act.put, pu1, pu2, pu3]
              refine rd13_17 (by kernel_rfl) rfl rfl (fun K hK => ?_) (fun K hK => ?_)
              · go_simp
                go_at_call 13
                refine (HST.out w12 (bmm (bmm (Below.refl w9.heap.size w9) (Below.refl w9.heap.size w9).size b10) (bmm (Below.refl w9.heap.size w9) (Below.refl w9.heap.size w9).size b10).size b12)).mono ?_
                rintro e w13 ⟨rfl, ro13, h13', s13', o13', k13'⟩
                have h13 : Hid _ := h13'
                have s13 : Hid _ := s13'
                have o13 : Hid _ := o13'
                have k13 : Hid _ := k13'
                have c13 : w13.cell? ⟨y.D, 1, none⟩ = some (.slice (some ⟨y.bR, 0, none⟩) (2 * 2 ^ y.dR) (2 * 2 ^ y.dR)) := (both_cell h13.out).1
                clear h13' s13' o13' k13'
                refine hK.out _ _ ?_ (fun hHeld => ?_)
                · exact c13
                clear hK K
                try simp only [Act.put, pu1, pu2, pu3]
                refine tk14 (.tuple #[.agg #[.int .i64 (spR T L z).1.1, .int .i64 (spR T L z).1.2.1, .int .i64 (spR T L z).1.2.2], .int .i64 (spR T L z).2.1]) ?_
                try simp only [Act.put, pu1, pu2, pu3]
                refine tk15 (.agg #[.int .i64 (spR T L z).1.1, .int .i64 (spR T L z).1.2.1, .int .i64 (spR T L z).1.2.2]) ?_
                try simp only [Act.put, pu1, pu2, pu3]
                refine tk16 (.int .i64 (spR T L z).2.1) ?_
                try simp only [Act.put, pu1, pu2, pu3]
                refine cl17 (by kernel_rfl) rfl (fun K hK => ?_)
                go_simp
                refine hK.out _ _ ?_ (fun hHeld => ?_)
                · exact (World.cell?_of_block (a := ⟨y.D, 1, none⟩) (Below.heap_alloc w13 _ _ (by first | exact (both_cell h13.out).2.1 | (have := b12.size; have := b10.size; show y.D < _; omega) | (have := b10.size; show y.D < _; omega) | (show y.D < _; omega)))).trans (by assumption)
                clear hK K
                try simp only [Act.put, pu1, pu2, pu3]
                refine cl18 (by kernel_rfl) rfl (fun K hK => ?_)
                have bx : Below w9.heap.size w9 w12 := (bmm (bmm (Below.refl w9.heap.size w9) (Below.refl w9.heap.size w9).size b10) (bmm (Below.refl w9.heap.size w9) (Below.refl w9.heap.size w9).size b10).size b12)
                have lE : w9.heap.size ≤ w13.heap.size := Nat.le_trans bx.size k13.out.size
                have hE : (w13.alloc (.cells #[.int .i64 0, .int .i64 0, .int .i64 0] 32)).heap[w13.heap.size]? = some (.cells #[.int .i64 0, .int .i64 0, .int .i64 0] 32 (0, 0)) := heap_alloc_new w13 _
                have nE : ro13 (w13.heap.size) = none := by
                    apply Classical.byContradiction
                    intro hc
                    have := ((both_cell h13.out).2.2 _ hc).2
                    omega
                obtain ⟨g1, g2, g3, g4, g5, g6, g7, g8, g9⟩ := HFIN.out (w13.alloc (.cells #[.int .i64 0, .int .i64 0, .int .i64 0] 32)) ro13 (w13.heap.size) (h13.out.fresh ((Below.refl _ w13).alloc (Nat.le_refl _) _)) (((Kept.of bx).trans k13.out).trans (Kept.of ((Below.refl _ w13).alloc (Nat.le_refl _) _))) hE nE lE
                refine wp_store_row 32 (.tmp 9) (.tmp 49) rfl (w13.heap.size) #[.int .i64 (spR T L z).1.1, .int .i64 (spR T L z).1.2.1, .int .i64 (spR T L z).1.2.2] rfl rfl 32 #[.int .i64 0, .int .i64 0, .int .i64 0] hE infoE rfl (by simp [Value.oneCell']) ?_
                refine hK.out _ _ ?_ (fun hHeld => ?_)
                · exact g5
                clear hK K
                simp only [Act.put]
                refine tk19 (.int .i64 (spR T L z).2.1) ?_
                try simp only [Act.put, pu1, pu2, pu3]
                refine wpAnyH_done (by kernel_rfl) ?_ _
                clear hHeld
                generalize hWE : (w13.alloc (.cells #[.int .i64 0, .int .i64 0, .int .i64 0] 32)).setRow (w13.heap.size) #[.int .i64 (spR T L z).1.1, .int .i64 (spR T L z).1.2.1, .int .i64 (spR T L z).1.2.2] = W18 at *
                go_wp2_with (at_builtin; refine wpList_app_row (l := [((spR T L z).1.1, (spR T L z).1.2.1, (spR T L z).1.2.2)]) (enc := opC) (k := 3) rfl (.tmp 51) (.tmp 53) 40 32 rfl i0 _ 24 Try.underlying40 hi hz0 hz1 hz2 rfl (by decide) opC_len opC_one rfl rfl (g2.out.alloc _) (RowAt.built (heap_alloc_new W18 _) rfl 1 rfl rfl) (by have := g4.out.size; simp; omega) (by simp; omega) (by simp; omega) ?_; intro u5 w5 h5 a5; obtain ⟨p5, c5, rfl⟩ := own_formN h5; have H5 : Hid _ := h5; have A5 : Hid _ := a5; clear h5 a5)
                obtain ⟨m1, m2, m3⟩ := HAPP.out W18 ro13 g1.out g3.out g4.out _ _ _ H5.out A5.out
                go_roundw
                case rel => exact ⟨k + 1, ro13, _, _, evs ++ [(spR T L z).1], by omega, by rw [List.length_append, HEK.out]; rfl, m1, s13, o13, m2.1, m2.2, HRUN, m3⟩
                case measure => have hke := HEK.out; simp; omega
              · go_simp
                refine hK.out _ _ ?_ (fun hHeld => ?_)
                · exact (World.cell?_of_block (a := ⟨y.D, 1, none⟩) (Below.heap_alloc w12 _ _ (by first | exact (both_cell h13.out).2.1 | (have := b12.size; have := b10.size; show y.D < _; omega) | (have := b10.size; show y.D < _; omega) | (show y.D < _; omega)))).trans (by assumption)
                clear hK K
                try simp only [Act.put, pu1, pu2, pu3]
                refine cl13 (by kernel_rfl) rfl (fun K hK => ?_)
                go_simp
                go_at_call 13
                refine (HST.out (w12.alloc (.cells #[.int .i64 0, .int .i64 0, .int .i64 0] 32)) ((bmm (bmm (Below.refl w9.heap.size w9) (Below.refl w9.heap.size w9).size b10) (bmm (Below.refl w9.heap.size w9) (Below.refl w9.heap.size w9).size b10).size b12).alloc (bmm (bmm (Below.refl w9.heap.size w9) (Below.refl w9.heap.size w9).size b10) (bmm (Below.refl w9.heap.size w9) (Below.refl w9.heap.size w9).size b10).size b12).size (.cells #[.int .i64 0, .int .i64 0, .int .i64 0] 32))).mono ?_
                rintro e w13 ⟨rfl, ro13, h13', s13', o13', k13'⟩
                have h13 : Hid _ := h13'
                have s13 : Hid _ := s13'
                have o13 : Hid _ := o13'
                have k13 : Hid _ := k13'
                have c13 : w13.cell? ⟨y.D, 1, none⟩ = some (.slice (some ⟨y.bR, 0, none⟩) (2 * 2 ^ y.dR) (2 * 2 ^ y.dR)) := (both_cell h13.out).1
                clear h13' s13' o13' k13'
                refine hK.out _ _ ?_ (fun hHeld => ?_)
                · exact c13
                clear hK K
                try simp only [Act.put, pu1, pu2, pu3]
                refine tk14 (.tuple #[.agg #[.int .i64 (spR T L z).1.1, .int .i64 (spR T L z).1.2.1, .int .i64 (spR T L z).1.2.2], .int .i64 (spR T L z).2.1]) ?_
                try simp only [Act.put, pu1, pu2, pu3]
                refine tk15 (.agg #[.int .i64 (spR T L z).1.1, .int .i64 (spR T L z).1.2.1, .int .i64 (spR T L z).1.2.2]) ?_
                try simp only [Act.put, pu1, pu2, pu3]
                refine tk16 (.int .i64 (spR T L z).2.1) ?_
                try simp only [Act.put, pu1, pu2, pu3]
                refine cl18 (by kernel_rfl) rfl (fun K hK => ?_)
                have bx : Below w9.heap.size w9 (w12.alloc (.cells #[.int .i64 0, .int .i64 0, .int .i64 0] 32)) := ((bmm (bmm (Below.refl w9.heap.size w9) (Below.refl w9.heap.size w9).size b10) (bmm (Below.refl w9.heap.size w9) (Below.refl w9.heap.size w9).size b10).size b12).alloc (bmm (bmm (Below.refl w9.heap.size w9) (Below.refl w9.heap.size w9).size b10) (bmm (Below.refl w9.heap.size w9) (Below.refl w9.heap.size w9).size b10).size b12).size (.cells #[.int .i64 0, .int .i64 0, .int .i64 0] 32))
                have lE : w9.heap.size ≤ w12.heap.size := Nat.le_trans (Nat.le_trans (Nat.le_refl _) b10.size) b12.size
                have hE0 : (w12.alloc (.cells #[.int .i64 0, .int .i64 0, .int .i64 0] 32)).heap[w12.heap.size]? = some (.cells #[.int .i64 0, .int .i64 0, .int .i64 0] 32 (0, 0)) := heap_alloc_new w12 _
                have hE : w13.heap[w12.heap.size]? = some (.cells #[.int .i64 0, .int .i64 0, .int .i64 0] 32 (0, 0)) := (k13.out.kept _ (lt_of_block hE0) (fun e => by have := HRN.out _ e; omega)).trans hE0
                have nE : ro13 (w12.heap.size) = none := by
                    apply Classical.byContradiction
                    intro hc
                    rcases k13.out.old _ hc with h9 | h9
                    · have := HRN.out _ h9
                      omega
                    · have := lt_of_block hE0
                      omega
                obtain ⟨g1, g2, g3, g4, g5, g6, g7, g8, g9⟩ := HFIN.out w13 ro13 (w12.heap.size) h13.out ((Kept.of bx).trans k13.out) hE nE lE
                refine wp_store_row 32 (.tmp 9) (.tmp 49) rfl (w12.heap.size) #[.int .i64 (spR T L z).1.1, .int .i64 (spR T L z).1.2.1, .int .i64 (spR T L z).1.2.2] rfl rfl 32 #[.int .i64 0, .int .i64 0, .int .i64 0] hE infoE rfl (by simp [Value.oneCell']) ?_
                refine hK.out _ _ ?_ (fun hHeld => ?_)
                · exact g5
                clear hK K
                simp only [Act.put]
                refine tk19 (.int .i64 (spR T L z).2.1) ?_
                try simp only [Act.put, pu1, pu2, pu3]
                refine wpAnyH_done (by kernel_rfl) ?_ _
                clear hHeld
                generalize hWE : w13.setRow (w12.heap.size) #[.int .i64 (spR T L z).1.1, .int .i64 (spR T L z).1.2.1, .int .i64 (spR T L z).1.2.2] = W18 at *
                go_wp2_with (at_builtin; refine wpList_app_row (l := [((spR T L z).1.1, (spR T L z).1.2.1, (spR T L z).1.2.2)]) (enc := opC) (k := 3) rfl (.tmp 51) (.tmp 53) 40 32 rfl i0 _ 24 Try.underlying40 hi hz0 hz1 hz2 rfl (by decide) opC_len opC_one rfl rfl (g2.out.alloc _) (RowAt.built (heap_alloc_new W18 _) rfl 1 rfl rfl) (by have := g4.out.size; simp; omega) (by simp; omega) (by simp; omega) ?_; intro u5 w5 h5 a5; obtain ⟨p5, c5, rfl⟩ := own_formN h5; have H5 : Hid _ := h5; have A5 : Hid _ := a5; clear h5 a5)
                obtain ⟨m1, m2, m3⟩ := HAPP.out W18 ro13 g1.out g3.out g4.out _ _ _ H5.out A5.out
                go_roundw
                case rel => exact ⟨k + 1, ro13, _, _, evs ++ [(spR T L z).1], by omega, by rw [List.length_append, HEK.out]; rfl, m1, s13, o13, m2.1, m2.2, HRUN, m3⟩
                case measure => have hke := HEK.out; simp; omega
            · go_simp
              refine hK.out _ _ ?_ (fun hHeld => ?_)
              · exact (World.cell?_of_block (a := ⟨y.D, 1, none⟩) (Below.heap_alloc w10 _ _ (by first | exact (both_cell h13.out).2.1 | (have := b12.size; have := b10.size; show y.D < _; omega) | (have := b10.size; show y.D < _; omega) | (show y.D < _; omega)))).trans (by assumption)
              clear hK K
              try simp only [Act.put, pu1, pu2, pu3]
              refine cl12 (by kernel_rfl) rfl (fun K hK => ?_)
              go_simp
              go_at_call 42
              refine (HAT.out (w10.alloc (.cells #[.int .i64 0, .int .i64 0, .int .i64 0] 32)) ((bmm (Below.refl w9.heap.size w9) (Below.refl w9.heap.size w9).size b10).alloc (bmm (Below.refl w9.heap.size w9) (Below.refl w9.heap.size w9).size b10).size (.cells #[.int .i64 0, .int .i64 0, .int .i64 0] 32))).mono ?_
              rintro e w12 ⟨rfl, b12⟩
              refine hK.out _ _ ?_ (fun hHeld => ?_)
              · exact (World.cell?_of_block (a := ⟨y.D, 1, none⟩) (b12.block y.D (by have h10 := b10.size; (try simp at h10); (try simp); omega))).trans (by assumption)
              clear hK K
              try simp only [Act.put, pu1, pu2, pu3]
              refine cl13 (by kernel_rfl) rfl (fun K hK => ?_)
              go_simp
              go_at_call 13
              refine (HST.out w12 (bmm ((bmm (Below.refl w9.heap.size w9) (Below.refl w9.heap.size w9).size b10).alloc (bmm (Below.refl w9.heap.size w9) (Below.refl w9.heap.size w9).size b10).size (.cells #[.int .i64 0, .int .i64 0, .int .i64 0] 32)) ((bmm (Below.refl w9.heap.size w9) (Below.refl w9.heap.size w9).size b10).alloc (bmm (Below.refl w9.heap.size w9) (Below.refl w9.heap.size w9).size b10).size (.cells #[.int .i64 0, .int .i64 0, .int .i64 0] 32)).size b12)).mono ?_
              rintro e w13 ⟨rfl, ro13, h13', s13', o13', k13'⟩
              have h13 : Hid _ := h13'
              have s13 : Hid _ := s13'
              have o13 : Hid _ := o13'
              have k13 : Hid _ := k13'
              have c13 : w13.cell? ⟨y.D, 1, none⟩ = some (.slice (some ⟨y.bR, 0, none⟩) (2 * 2 ^ y.dR) (2 * 2 ^ y.dR)) := (both_cell h13.out).1
              clear h13' s13' o13' k13'
              refine hK.out _ _ ?_ (fun hHeld => ?_)
              · exact c13
              clear hK K
              try simp only [Act.put, pu1, pu2, pu3]
              refine tk14 (.tuple #[.agg #[.int .i64 (spR T L z).1.1, .int .i64 (spR T L z).1.2.1, .int .i64 (spR T L z).1.2.2], .int .i64 (spR T L z).2.1]) ?_
              try simp only [Act.put, pu1, pu2, pu3]
              refine tk15 (.agg #[.int .i64 (spR T L z).1.1, .int .i64 (spR T L z).1.2.1, .int .i64 (spR T L z).1.2.2]) ?_
              try simp only [Act.put, pu1, pu2, pu3]
              refine tk16 (.int .i64 (spR T L z).2.1) ?_
              try simp only [Act.put, pu1, pu2, pu3]
              refine cl18 (by kernel_rfl) rfl (fun K hK => ?_)
              have bx : Below w9.heap.size w9 w12 := (bmm ((bmm (Below.refl w9.heap.size w9) (Below.refl w9.heap.size w9).size b10).alloc (bmm (Below.refl w9.heap.size w9) (Below.refl w9.heap.size w9).size b10).size (.cells #[.int .i64 0, .int .i64 0, .int .i64 0] 32)) ((bmm (Below.refl w9.heap.size w9) (Below.refl w9.heap.size w9).size b10).alloc (bmm (Below.refl w9.heap.size w9) (Below.refl w9.heap.size w9).size b10).size (.cells #[.int .i64 0, .int .i64 0, .int .i64 0] 32)).size b12)
              have lE : w9.heap.size ≤ w10.heap.size := Nat.le_trans (Nat.le_refl _) b10.size
              have hE0 : w12.heap[w10.heap.size]? = some (.cells #[.int .i64 0, .int .i64 0, .int .i64 0] 32 (0, 0)) := (b12.block _ (by first | simp | (have := b10.size; simp at this; omega))).trans (heap_alloc_new w10 _)
              have hE : w13.heap[w10.heap.size]? = some (.cells #[.int .i64 0, .int .i64 0, .int .i64 0] 32 (0, 0)) := (k13.out.kept _ (lt_of_block hE0) (fun e => by have := HRN.out _ e; omega)).trans hE0
              have nE : ro13 (w10.heap.size) = none := by
                  apply Classical.byContradiction
                  intro hc
                  rcases k13.out.old _ hc with h9 | h9
                  · have := HRN.out _ h9
                    omega
                  · have := lt_of_block hE0
                    omega
              obtain ⟨g1, g2, g3, g4, g5, g6, g7, g8, g9⟩ := HFIN.out w13 ro13 (w10.heap.size) h13.out ((Kept.of bx).trans k13.out) hE nE lE
              refine wp_store_row 32 (.tmp 9) (.tmp 49) rfl (w10.heap.size) #[.int .i64 (spR T L z).1.1, .int .i64 (spR T L z).1.2.1, .int .i64 (spR T L z).1.2.2] rfl rfl 32 #[.int .i64 0, .int .i64 0, .int .i64 0] hE infoE rfl (by simp [Value.oneCell']) ?_
              refine hK.out _ _ ?_ (fun hHeld => ?_)
              · exact g5
              clear hK K
              simp only [Act.put]
              refine tk19 (.int .i64 (spR T L z).2.1) ?_
              try simp only [Act.put, pu1, pu2, pu3]
              refine wpAnyH_done (by kernel_rfl) ?_ _
              clear hHeld
              generalize hWE : w13.setRow (w10.heap.size) #[.int .i64 (spR T L z).1.1, .int .i64 (spR T L z).1.2.1, .int .i64 (spR T L z).1.2.2] = W18 at *
              go_wp2_with (at_builtin; refine wpList_app_row (l := [((spR T L z).1.1, (spR T L z).1.2.1, (spR T L z).1.2.2)]) (enc := opC) (k := 3) rfl (.tmp 51) (.tmp 53) 40 32 rfl i0 _ 24 Try.underlying40 hi hz0 hz1 hz2 rfl (by decide) opC_len opC_one rfl rfl (g2.out.alloc _) (RowAt.built (heap_alloc_new W18 _) rfl 1 rfl rfl) (by have := g4.out.size; simp; omega) (by simp; omega) (by simp; omega) ?_; intro u5 w5 h5 a5; obtain ⟨p5, c5, rfl⟩ := own_formN h5; have H5 : Hid _ := h5; have A5 : Hid _ := a5; clear h5 a5)
              obtain ⟨m1, m2, m3⟩ := HAPP.out W18 ro13 g1.out g3.out g4.out _ _ _ H5.out A5.out
              go_roundw
              case rel => exact ⟨k + 1, ro13, _, _, evs ++ [(spR T L z).1], by omega, by rw [List.length_append, HEK.out]; rfl, m1, s13, o13, m2.1, m2.2, HRUN, m3⟩
              case measure => have hke := HEK.out; simp; omega
          · go_simp
            refine hK.out _ _ ?_ (fun hHeld => ?_)
            · exact (World.cell?_of_block (a := ⟨y.D, 1, none⟩) (Below.heap_alloc w10 _ _ (by first | exact (both_cell h13.out).2.1 | (have := b12.size; have := b10.size; show y.D < _; omega) | (have := b10.size; show y.D < _; omega) | (show y.D < _; omega)))).trans (by assumption)
            clear hK K
            try simp only [Act.put, pu1, pu2, pu3]
            refine cl11 (by kernel_rfl) rfl (fun K hK => ?_)
            go_simp
            go_at_call 43
            refine (HMO.out (w10.alloc (.cells #[.int .i64 0, .int .i64 0, .int .i64 0] 32))).mono ?_
            rintro e w11 ⟨rfl, rfl⟩
            refine hK.out _ _ ?_ (fun hHeld => ?_)
            · exact by assumption
            clear hK K
            try simp only [Act.put, pu1, pu2, pu3]
            refine cl12 (by kernel_rfl) rfl (fun K hK => ?_)
            go_simp
            go_at_call 42
            refine (HAT.out (w10.alloc (.cells #[.int .i64 0, .int .i64 0, .int .i64 0] 32)) ((bmm (Below.refl w9.heap.size w9) (Below.refl w9.heap.size w9).size b10).alloc (bmm (Below.refl w9.heap.size w9) (Below.refl w9.heap.size w9).size b10).size (.cells #[.int .i64 0, .int .i64 0, .int .i64 0] 32))).mono ?_
            rintro e w12 ⟨rfl, b12⟩
            refine hK.out _ _ ?_ (fun hHeld => ?_)
            · exact (World.cell?_of_block (a := ⟨y.D, 1, none⟩) (b12.block y.D (by have h10 := b10.size; (try simp at h10); (try simp); omega))).trans (by assumption)
            clear hK K
            try simp only [Act.put, pu1, pu2, pu3]
            refine cl13 (by kernel_rfl) rfl (fun K hK => ?_)
            go_simp
            go_at_call 13
            refine (HST.out w12 (bmm ((bmm (Below.refl w9.heap.size w9) (Below.refl w9.heap.size w9).size b10).alloc (bmm (Below.refl w9.heap.size w9) (Below.refl w9.heap.size w9).size b10).size (.cells #[.int .i64 0, .int .i64 0, .int .i64 0] 32)) ((bmm (Below.refl w9.heap.size w9) (Below.refl w9.heap.size w9).size b10).alloc (bmm (Below.refl w9.heap.size w9) (Below.refl w9.heap.size w9).size b10).size (.cells #[.int .i64 0, .int .i64 0, .int .i64 0] 32)).size b12)).mono ?_
            rintro e w13 ⟨rfl, ro13, h13', s13', o13', k13'⟩
            have h13 : Hid _ := h13'
            have s13 : Hid _ := s13'
            have o13 : Hid _ := o13'
            have k13 : Hid _ := k13'
            have c13 : w13.cell? ⟨y.D, 1, none⟩ = some (.slice (some ⟨y.bR, 0, none⟩) (2 * 2 ^ y.dR) (2 * 2 ^ y.dR)) := (both_cell h13.out).1
            clear h13' s13' o13' k13'
            refine hK.out _ _ ?_ (fun hHeld => ?_)
            · exact c13
            clear hK K
            try simp only [Act.put, pu1, pu2, pu3]
            refine tk14 (.tuple #[.agg #[.int .i64 (spR T L z).1.1, .int .i64 (spR T L z).1.2.1, .int .i64 (spR T L z).1.2.2], .int .i64 (spR T L z).2.1]) ?_
            try simp only [Act.put, pu1, pu2, pu3]
            refine tk15 (.agg #[.int .i64 (spR T L z).1.1, .int .i64 (spR T L z).1.2.1, .int .i64 (spR T L z).1.2.2]) ?_
            try simp only [Act.put, pu1, pu2, pu3]
            refine tk16 (.int .i64 (spR T L z).2.1) ?_
            try simp only [Act.put, pu1, pu2, pu3]
            refine cl18 (by kernel_rfl) rfl (fun K hK => ?_)
            have bx : Below w9.heap.size w9 w12 := (bmm ((bmm (Below.refl w9.heap.size w9) (Below.refl w9.heap.size w9).size b10).alloc (bmm (Below.refl w9.heap.size w9) (Below.refl w9.heap.size w9).size b10).size (.cells #[.int .i64 0, .int .i64 0, .int .i64 0] 32)) ((bmm (Below.refl w9.heap.size w9) (Below.refl w9.heap.size w9).size b10).alloc (bmm (Below.refl w9.heap.size w9) (Below.refl w9.heap.size w9).size b10).size (.cells #[.int .i64 0, .int .i64 0, .int .i64 0] 32)).size b12)
            have lE : w9.heap.size ≤ w10.heap.size := Nat.le_trans (Nat.le_refl _) b10.size
            have hE0 : w12.heap[w10.heap.size]? = some (.cells #[.int .i64 0, .int .i64 0, .int .i64 0] 32 (0, 0)) := (b12.block _ (by first | simp | (have := b10.size; simp at this; omega))).trans (heap_alloc_new w10 _)
            have hE : w13.heap[w10.heap.size]? = some (.cells #[.int .i64 0, .int .i64 0, .int .i64 0] 32 (0, 0)) := (k13.out.kept _ (lt_of_block hE0) (fun e => by have := HRN.out _ e; omega)).trans hE0
            have nE : ro13 (w10.heap.size) = none := by
                apply Classical.byContradiction
                intro hc
                rcases k13.out.old _ hc with h9 | h9
                · have := HRN.out _ h9
                  omega
                · have := lt_of_block hE0
                  omega
            obtain ⟨g1, g2, g3, g4, g5, g6, g7, g8, g9⟩ := HFIN.out w13 ro13 (w10.heap.size) h13.out ((Kept.of bx).trans k13.out) hE nE lE
            refine wp_store_row 32 (.tmp 9) (.tmp 49) rfl (w10.heap.size) #[.int .i64 (spR T L z).1.1, .int .i64 (spR T L z).1.2.1, .int .i64 (spR T L z).1.2.2] rfl rfl 32 #[.int .i64 0, .int .i64 0, .int .i64 0] hE infoE rfl (by simp [Value.oneCell']) ?_
            refine hK.out _ _ ?_ (fun hHeld => ?_)
            · exact g5
            clear hK K
            simp only [Act.put]
            refine tk19 (.int .i64 (spR T L z).2.1) ?_
            try simp only [Act.put, pu1, pu2, pu3]
            refine wpAnyH_done (by kernel_rfl) ?_ _
            clear hHeld
            generalize hWE : w13.setRow (w10.heap.size) #[.int .i64 (spR T L z).1.1, .int .i64 (spR T L z).1.2.1, .int .i64 (spR T L z).1.2.2] = W18 at *
            go_wp2_with (at_builtin; refine wpList_app_row (l := [((spR T L z).1.1, (spR T L z).1.2.1, (spR T L z).1.2.2)]) (enc := opC) (k := 3) rfl (.tmp 51) (.tmp 53) 40 32 rfl i0 _ 24 Try.underlying40 hi hz0 hz1 hz2 rfl (by decide) opC_len opC_one rfl rfl (g2.out.alloc _) (RowAt.built (heap_alloc_new W18 _) rfl 1 rfl rfl) (by have := g4.out.size; simp; omega) (by simp; omega) (by simp; omega) ?_; intro u5 w5 h5 a5; obtain ⟨p5, c5, rfl⟩ := own_formN h5; have H5 : Hid _ := h5; have A5 : Hid _ := a5; clear h5 a5)
            obtain ⟨m1, m2, m3⟩ := HAPP.out W18 ro13 g1.out g3.out g4.out _ _ _ H5.out A5.out
            go_roundw
            case rel => exact ⟨k + 1, ro13, _, _, evs ++ [(spR T L z).1], by omega, by rw [List.length_append, HEK.out]; rfl, m1, s13, o13, m2.1, m2.2, HRUN, m3⟩
            case measure => have hke := HEK.out; simp; omega
        · go_simp
          refine hK.out _ _ ?_ (fun hHeld => ?_)
          · exact (World.cell?_of_block (a := ⟨y.D, 1, none⟩) (Below.heap_alloc w9 _ _ (by first | exact (both_cell h13.out).2.1 | (have := b12.size; have := b10.size; show y.D < _; omega) | (have := b10.size; show y.D < _; omega) | (show y.D < _; omega)))).trans (by assumption)
          clear hK K
          try simp only [Act.put, pu1, pu2, pu3]
          refine cl10 (by kernel_rfl) rfl (fun K hK => ?_)
          go_simp
          go_at_call 41
          refine (HSZ.out (w9.alloc (.cells #[.int .i64 0, .int .i64 0, .int .i64 0] 32)) ((Below.refl w9.heap.size w9).alloc (Below.refl w9.heap.size w9).size (.cells #[.int .i64 0, .int .i64 0, .int .i64 0] 32))).mono ?_
          rintro e w10 ⟨rfl, b10⟩
          refine hK.out _ _ ?_ (fun hHeld => ?_)
          · exact (World.cell?_of_block (a := ⟨y.D, 1, none⟩) (b10.block y.D (by (try simp); omega))).trans (by assumption)
          clear hK K
          try simp only [Act.put, pu1, pu2, pu3]
          refine cl11 (by kernel_rfl) rfl (fun K hK => ?_)
          go_simp
          go_at_call 43
          refine (HMO.out w10).mono ?_
          rintro e w11 ⟨rfl, rfl⟩
          refine hK.out _ _ ?_ (fun hHeld => ?_)
          · exact by assumption
          clear hK K
          try simp only [Act.put, pu1, pu2, pu3]
          refine cl12 (by kernel_rfl) rfl (fun K hK => ?_)
          go_simp
          go_at_call 42
          refine (HAT.out w10 (bmm ((Below.refl w9.heap.size w9).alloc (Below.refl w9.heap.size w9).size (.cells #[.int .i64 0, .int .i64 0, .int .i64 0] 32)) ((Below.refl w9.heap.size w9).alloc (Below.refl w9.heap.size w9).size (.cells #[.int .i64 0, .int .i64 0, .int .i64 0] 32)).size b10)).mono ?_
          rintro e w12 ⟨rfl, b12⟩
          refine hK.out _ _ ?_ (fun hHeld => ?_)
          · exact (World.cell?_of_block (a := ⟨y.D, 1, none⟩) (b12.block y.D (by have h10 := b10.size; (try simp at h10); (try simp); omega))).trans (by assumption)
          clear hK K
          try simp only [Act.put, pu1, pu2, pu3]
          refine cl13 (by kernel_rfl) rfl (fun K hK => ?_)
          go_simp
          go_at_call 13
          refine (HST.out w12 (bmm (bmm ((Below.refl w9.heap.size w9).alloc (Below.refl w9.heap.size w9).size (.cells #[.int .i64 0, .int .i64 0, .int .i64 0] 32)) ((Below.refl w9.heap.size w9).alloc (Below.refl w9.heap.size w9).size (.cells #[.int .i64 0, .int .i64 0, .int .i64 0] 32)).size b10) (bmm ((Below.refl w9.heap.size w9).alloc (Below.refl w9.heap.size w9).size (.cells #[.int .i64 0, .int .i64 0, .int .i64 0] 32)) ((Below.refl w9.heap.size w9).alloc (Below.refl w9.heap.size w9).size (.cells #[.int .i64 0, .int .i64 0, .int .i64 0] 32)).size b10).size b12)).mono ?_
          rintro e w13 ⟨rfl, ro13, h13', s13', o13', k13'⟩
          have h13 : Hid _ := h13'
          have s13 : Hid _ := s13'
          have o13 : Hid _ := o13'
          have k13 : Hid _ := k13'
          have c13 : w13.cell? ⟨y.D, 1, none⟩ = some (.slice (some ⟨y.bR, 0, none⟩) (2 * 2 ^ y.dR) (2 * 2 ^ y.dR)) := (both_cell h13.out).1
          clear h13' s13' o13' k13'
          refine hK.out _ _ ?_ (fun hHeld => ?_)
          · exact c13
          clear hK K
          try simp only [Act.put, pu1, pu2, pu3]
          refine tk14 (.tuple #[.agg #[.int .i64 (spR T L z).1.1, .int .i64 (spR T L z).1.2.1, .int .i64 (spR T L z).1.2.2], .int .i64 (spR T L z).2.1]) ?_
          try simp only [Act.put, pu1, pu2, pu3]
          refine tk15 (.agg #[.int .i64 (spR T L z).1.1, .int .i64 (spR T L z).1.2.1, .int .i64 (spR T L z).1.2.2]) ?_
          try simp only [Act.put, pu1, pu2, pu3]
          refine tk16 (.int .i64 (spR T L z).2.1) ?_
          try simp only [Act.put, pu1, pu2, pu3]
          refine cl18 (by kernel_rfl) rfl (fun K hK => ?_)
          have bx : Below w9.heap.size w9 w12 := (bmm (bmm ((Below.refl w9.heap.size w9).alloc (Below.refl w9.heap.size w9).size (.cells #[.int .i64 0, .int .i64 0, .int .i64 0] 32)) ((Below.refl w9.heap.size w9).alloc (Below.refl w9.heap.size w9).size (.cells #[.int .i64 0, .int .i64 0, .int .i64 0] 32)).size b10) (bmm ((Below.refl w9.heap.size w9).alloc (Below.refl w9.heap.size w9).size (.cells #[.int .i64 0, .int .i64 0, .int .i64 0] 32)) ((Below.refl w9.heap.size w9).alloc (Below.refl w9.heap.size w9).size (.cells #[.int .i64 0, .int .i64 0, .int .i64 0] 32)).size b10).size b12)
          have lE : w9.heap.size ≤ w9.heap.size := Nat.le_refl _
          have hE0 : w12.heap[w9.heap.size]? = some (.cells #[.int .i64 0, .int .i64 0, .int .i64 0] 32 (0, 0)) := (b12.block _ (by first | simp | (have := b10.size; simp at this; omega))).trans ((b10.block _ (by first | simp | (have := b10.size; simp at this; omega))).trans (heap_alloc_new w9 _))
          have hE : w13.heap[w9.heap.size]? = some (.cells #[.int .i64 0, .int .i64 0, .int .i64 0] 32 (0, 0)) := (k13.out.kept _ (lt_of_block hE0) (fun e => by have := HRN.out _ e; omega)).trans hE0
          have nE : ro13 (w9.heap.size) = none := by
              apply Classical.byContradiction
              intro hc
              rcases k13.out.old _ hc with h9 | h9
              · have := HRN.out _ h9
                omega
              · have := lt_of_block hE0
                omega
          obtain ⟨g1, g2, g3, g4, g5, g6, g7, g8, g9⟩ := HFIN.out w13 ro13 (w9.heap.size) h13.out ((Kept.of bx).trans k13.out) hE nE lE
          refine wp_store_row 32 (.tmp 9) (.tmp 49) rfl (w9.heap.size) #[.int .i64 (spR T L z).1.1, .int .i64 (spR T L z).1.2.1, .int .i64 (spR T L z).1.2.2] rfl rfl 32 #[.int .i64 0, .int .i64 0, .int .i64 0] hE infoE rfl (by simp [Value.oneCell']) ?_
          refine hK.out _ _ ?_ (fun hHeld => ?_)
          · exact g5
          clear hK K
          simp only [Act.put]
          refine tk19 (.int .i64 (spR T L z).2.1) ?_
          try simp only [Act.put, pu1, pu2, pu3]
          refine wpAnyH_done (by kernel_rfl) ?_ _
          clear hHeld
          generalize hWE : w13.setRow (w9.heap.size) #[.int .i64 (spR T L z).1.1, .int .i64 (spR T L z).1.2.1, .int .i64 (spR T L z).1.2.2] = W18 at *
          go_wp2_with (at_builtin; refine wpList_app_row (l := [((spR T L z).1.1, (spR T L z).1.2.1, (spR T L z).1.2.2)]) (enc := opC) (k := 3) rfl (.tmp 51) (.tmp 53) 40 32 rfl i0 _ 24 Try.underlying40 hi hz0 hz1 hz2 rfl (by decide) opC_len opC_one rfl rfl (g2.out.alloc _) (RowAt.built (heap_alloc_new W18 _) rfl 1 rfl rfl) (by have := g4.out.size; simp; omega) (by simp; omega) (by simp; omega) ?_; intro u5 w5 h5 a5; obtain ⟨p5, c5, rfl⟩ := own_formN h5; have H5 : Hid _ := h5; have A5 : Hid _ := a5; clear h5 a5)
          obtain ⟨m1, m2, m3⟩ := HAPP.out W18 ro13 g1.out g3.out g4.out _ _ _ H5.out A5.out
          go_roundw
          case rel => exact ⟨k + 1, ro13, _, _, evs ++ [(spR T L z).1], by omega, by rw [List.length_append, HEK.out]; rfl, m1, s13, o13, m2.1, m2.2, HRUN, m3⟩
          case measure => have hke := HEK.out; simp; omega
      | some p =>
        obtain ⟨hkp, hpe⟩ := List.getElem?_eq_some_iff.1 hpk
        have q1 : decide ((evs.length : Int) < (picks.length : Int)) = true := decide_eq_true (by omega)
        have q1n : evs.length < picks.length := by omega
        obtain ⟨bp, op, cp', ep, _, hbp, hxp⟩ := HP.out.cells intC_len (by omega)
        simp only [Value.slice.injEq] at ep
        obtain ⟨rfl, _, rfl⟩ := ep
        have zp : w.cell? ⟨bp, op + evs.length, none⟩ = some (.int .i64 p) := by
          have := hxp k hkp 0 _ (by decide) rfl
          rw [HEK.out]
          simpa [hpe] using this
        have ZP : Hid (∀ w2 : World, Below wr.heap.size wr w2 → w2.cell? ⟨bp, op + evs.length, none⟩ = some (.int .i64 p)) := fun w2 b2 => (b2.cell (p := ⟨bp, op + evs.length, none⟩) (by have := bel.out.size; exact Nat.lt_of_lt_of_le hbp this)).trans ((bel.out.cell (p := ⟨bp, op + evs.length, none⟩) (by exact hbp)).trans zp)
        have HPL : Hid ((pl : Int) = p % ((readyL T).length : Int)) := by
          show _ = _
          rw [hpe0]
          unfold placeR
          rw [hpk]
          have := Int.emod_nonneg p (show ((readyL T).length : Int) ≠ 0 by omega)
          show (((p % ((readyL T).length : Int)).toNat : Nat) : Int) = _
          omega
        clear hek hbd hne hpk hz hpe0 hpl' hxp zp hpe
        go_wp2_with (go_at_call 41; refine hsz.mono ?_; rintro e w2 ⟨rfl, b2⟩; have zp2 := ZP.out w2 b2)
        have hB2 : Both w2.drew w.heap.size ro y none T L := (hB.out.fresh b2).keep (Nat.le_refl _) (fun _ _ => rfl)
        have HB2 : Hid _ := hB2
        have HRN : Hid (∀ b, ro b ≠ none → b < w2.drew.heap.size) := fun b hb => ((both_cell HB2.out).2.2 b hb).2
        have HS0 : Hid (w2.drew.cell? ⟨y.D, 1, none⟩ = some (.slice (some ⟨y.bR, 0, none⟩) (2 * 2 ^ y.dR) (2 * 2 ^ y.dR))) := (both_cell HB2.out).1
        have hDD : y.D < w2.drew.heap.size := (both_cell HB2.out).2.1
        have HSZ : Hid (∀ X : World, Below w2.drew.heap.size w2.drew X → Calls Try.prog 41 #[.agg #[.slice (some ⟨y.bR, 0, none⟩) (2 * 2 ^ y.dR) (2 * 2 ^ y.dR)]] X fun e w' => e = .returned (.int .i64 ((readyL T).length : Int)) ∧ Below X.heap.size X w') := fun X b => both_size (HB2.out.fresh b)
        have HMO : Hid (∀ X : World, Calls Try.prog 43 #[.int .i64 p, .int .i64 ((readyL T).length : Int)] X fun e w' => e = .returned (.int .i64 (pl : Int)) ∧ X = w') := fun X => by
          rw [HPL.out]
          exact mod_any p _ hnl hle X
        have HAT : Hid (∀ X : World, Below w2.drew.heap.size w2.drew X → Calls Try.prog 42 #[.agg #[.slice (some ⟨y.bR, 0, none⟩) (2 * 2 ^ y.dR) (2 * 2 ^ y.dR)], .int .i64 (pl : Int)] X fun e w' => e = .returned (.int .i64 z) ∧ Below X.heap.size X w') := fun X b => by
          have h9 := both_at (HB2.out.fresh b) pl HPN.out
          rw [HZZ.out] at h9
          exact h9
        have HST : Hid (∀ X : World, Below w2.drew.heap.size w2.drew X → Calls Try.prog 13 #[.pointer (some ⟨y.D, 0, none⟩), .int .i64 z] X fun e w' => e = .returned (.tuple #[.agg #[.int .i64 (spR T L z).1.1, .int .i64 (spR T L z).1.2.1, .int .i64 (spR T L z).1.2.2], .int .i64 (spR T L z).2.1]) ∧ ∃ ro', Both w' w.heap.size ro' y none (spR T L z).2.2.1 (spR T L z).2.2.2 ∧ StOk (k + 1) (spR T L z).2.2.1 (spR T L z).2.2.2 ∧ opOk (spR T L z).2.2.1 ∧ Kept X w' (fun b => ro b ≠ none) (fun b => ro' b ≠ none)) := fun X b => both_step (HB2.out.fresh b) hS.out hO.out z (by omega)
        have bw2 : Below w.heap.size w w2.drew := (bmm bel.out bel.out.size b2).drew
        have hO2 : w2.drew.ownsRow w.heap.size 32 3 (.slice pg evs.length mg) evs.length (rowL opC evs) := own_keep HO.out (fun g hg => b2.block g (World.ownsRow.lt HO.out g hg).2)
        have HOO : Hid _ := hO2
        have HBW : Hid _ := bw2
        have HFIN : Hid (∀ (W : World) (ro13 : Nat → Option Who) (E : Nat), Both W w.heap.size ro13 y none (spR T L z).2.2.1 (spR T L z).2.2.2 → Kept w2.drew W (fun b => ro b ≠ none) (fun b => ro13 b ≠ none) → W.heap[E]? = some (.cells #[.int .i64 0, .int .i64 0, .int .i64 0] 32 (0, 0)) → ro13 E = none → w2.drew.heap.size ≤ E → Hid (Both (W.setRow E #[.int .i64 (spR T L z).1.1, .int .i64 (spR T L z).1.2.1, .int .i64 (spR T L z).1.2.2]) w.heap.size ro13 y none (spR T L z).2.2.1 (spR T L z).2.2.2) ∧ Hid ((W.setRow E #[.int .i64 (spR T L z).1.1, .int .i64 (spR T L z).1.2.1, .int .i64 (spR T L z).1.2.2]).ownsRow w.heap.size 32 3 (.slice pg evs.length mg) evs.length (rowL opC evs)) ∧ Hid (∀ g, (Value.slice pg evs.length mg).ownBlock = some g → ro13 g = none) ∧ Hid (Below w.heap.size w (W.setRow E #[.int .i64 (spR T L z).1.1, .int .i64 (spR T L z).1.2.1, .int .i64 (spR T L z).1.2.2])) ∧ (W.setRow E #[.int .i64 (spR T L z).1.1, .int .i64 (spR T L z).1.2.1, .int .i64 (spR T L z).1.2.2]).cell? ⟨y.D, 1, none⟩ = some (.slice (some ⟨y.bR, 0, none⟩) (2 * 2 ^ y.dR) (2 * 2 ^ y.dR)) ∧ (W.setRow E #[.int .i64 (spR T L z).1.1, .int .i64 (spR T L z).1.2.1, .int .i64 (spR T L z).1.2.2]).cell? ⟨E, 0, none⟩ = some (.int .i64 (spR T L z).1.1) ∧ (W.setRow E #[.int .i64 (spR T L z).1.1, .int .i64 (spR T L z).1.2.1, .int .i64 (spR T L z).1.2.2]).cell? ⟨E, 1, none⟩ = some (.int .i64 (spR T L z).1.2.1) ∧ (W.setRow E #[.int .i64 (spR T L z).1.1, .int .i64 (spR T L z).1.2.1, .int .i64 (spR T L z).1.2.2]).cell? ⟨E, 2, none⟩ = some (.int .i64 (spR T L z).1.2.2) ∧ E < (W.setRow E #[.int .i64 (spR T L z).1.1, .int .i64 (spR T L z).1.2.1, .int .i64 (spR T L z).1.2.2]).heap.size) := fun W ro13 E hW kW hE nE lE => by
          have gr := grown_setRow_g W E #[.int .i64 (spR T L z).1.1, .int .i64 (spR T L z).1.2.1, .int .i64 (spR T L z).1.2.2]
          have hot : ∀ b, b ≠ E → (W.setRow E #[.int .i64 (spR T L z).1.1, .int .i64 (spR T L z).1.2.1, .int .i64 (spR T L z).1.2.2]).heap[b]? = W.heap[b]? := fun b hb => setRow_other W E b _ hb
          have hrow := setRow_heap W E #[.int .i64 0, .int .i64 0, .int .i64 0] #[.int .i64 (spR T L z).1.1, .int .i64 (spR T L z).1.2.1, .int .i64 (spR T L z).1.2.2] 32 (0, 0) hE
          have hg1 : Both (W.setRow E #[.int .i64 (spR T L z).1.1, .int .i64 (spR T L z).1.2.1, .int .i64 (spR T L z).1.2.2]) w.heap.size ro13 y none (spR T L z).2.2.1 (spR T L z).2.2.2 := hW.keep gr.size (fun b hb => hot b (fun e => hb (by rw [e]; exact nE)))
          have hgo : ∀ g, (Value.slice pg evs.length mg).ownBlock = some g → g < w2.drew.heap.size ∧ ro g = none := fun g hg => ⟨(World.ownsRow.lt HOO.out g hg).2, hOS.out g hg⟩
          refine ⟨hg1, own_keep HOO.out (fun g hg => ?_), fun g hg => ?_, ?_, (both_cell hg1).1, by rw [cell_of_row _ _ _ _ _ _ hrow]; rfl, by rw [cell_of_row _ _ _ _ _ _ hrow]; rfl, by rw [cell_of_row _ _ _ _ _ _ hrow]; rfl, lt_of_block hrow⟩
          · have h1 := hgo g hg
            rw [hot g (by omega)]
            exact kW.kept g h1.1 (fun e => e h1.2)
          · have h1 := hgo g hg
            apply Classical.byContradiction
            intro hc
            rcases kW.old g hc with h9 | h9
            · exact h9 h1.2
            · omega
          · have k1 : Below w.heap.size w W := HBW.out.trans (kW.low HBW.out.size (fun b hb => ((both_cell HB2.out).2.2 b hb).1))
            exact k1.grown gr k1.size (fun q hq => by rw [← Option.some.inj hq]; exact Nat.le_trans HBW.out.size lE)
        have HAPP : Hid (∀ (W : World) (ro13 : Nat → Option Who), Both W w.heap.size ro13 y none (spR T L z).2.2.1 (spR T L z).2.2.2 → (∀ g, (Value.slice pg evs.length mg).ownBlock = some g → ro13 g = none) → Below w.heap.size w W → ∀ (o : Obj) (u : Value) (w5 : World), w5.ownsRow w.heap.size 32 3 u (evs.length + 1) (rowL opC evs ++ rowL opC [((spR T L z).1.1, (spR T L z).1.2.1, (spR T L z).1.2.2)]) → Appended w.heap.size (W.alloc o) w5 (.slice pg evs.length mg) u → Hid (Both w5 w.heap.size ro13 y none (spR T L z).2.2.1 (spR T L z).2.2.2) ∧ (Hid (w5.ownsRow w.heap.size 32 3 u (evs ++ [(spR T L z).1]).length (rowL opC (evs ++ [(spR T L z).1]))) ∧ Hid (∀ g, u.ownBlock = some g → ro13 g = none)) ∧ Hid (Below w.heap.size w w5)) := fun W ro13 hW hg bW o u w5 h5 a5 => by
          have ba : Below W.heap.size W (W.alloc o) := (Below.refl _ W).alloc (Nat.le_refl _) o
          have hWa := hW.fresh ba
          have hbd2 := (both_cell hWa).2.2
          refine ⟨hWa.keep a5.below.size (fun b hb => a5.rest b (hbd2 b hb).2 (fun e => hb (hg b e.symm))), ⟨?_, fun g hg2 => ?_⟩, (bmm bW bW.size ba).trans a5.below⟩
          · show World.ownsRow _ _ _ _ _ _ _
            rw [rowL_append, List.length_append]
            exact h5
          · rcases a5.lies with l5 | l5
            · exact hg g (by rw [← l5]; exact hg2)
            · apply Classical.byContradiction
              intro hc
              rw [hg2] at l5
              have h8 := Option.some.inj l5
              have h9 := (hbd2 g hc).2
              omega
        clear hB2 hO2 bw2
        refine wp_region_held_drew (S := (fun w' : World => w'.cell? ⟨y.D, 1, none⟩ = some (.slice (some ⟨y.bR, 0, none⟩) (2 * 2 ^ y.dR) (2 * 2 ^ y.dR)))) (by kernel_rfl) ?_ (fun hHeld0 => ?_)
        · exact HS0.out
        generalize w2.drew = w9 at *
        clear hHeld0
        have hHeld0 := HS0.out
        refine tk0 (.pointer (some ⟨y.D, 0, none⟩)) ?_
        try simp only [Act.put, pu1, pu2, pu3]
        refine tk1 (.pointer (some ⟨y.D, 0, none⟩)) ?_
        try simp only [Act.put, pu1, pu2, pu3]
        refine tk2 (.pointer (some ⟨y.D, 0, none⟩)) ?_
        try simp only [Act.put, pu1, pu2, pu3]
        refine tk3 (.pointer (some ⟨y.D, 1, none⟩)) ?_
        try simp only [Act.put, pu1, pu2, pu3]
        refine tk4 (.agg #[.slice (some ⟨y.bR, 0, none⟩) (2 * 2 ^ y.dR) (2 * 2 ^ y.dR)]) ?_
        try simp only [Act.put, pu1, pu2, pu3]
        refine tk5 (.int .i64 p) ?_
        try simp only [Act.put, pu1, pu2, pu3]
        refine tk6 (.pointer (some ⟨y.D, 0, none⟩)) ?_
        try simp only [Act.put, pu1, pu2, pu3]
        refine tk7 (.pointer (some ⟨y.D, 0, none⟩)) ?_
        try simp only [Act.put, pu1, pu2, pu3]
        refine tk8 (.pointer (some ⟨y.D, 1, none⟩)) ?_
        try simp only [Act.put, pu1, pu2, pu3]
        refine tk9 (.agg #[.slice (some ⟨y.bR, 0, none⟩) (2 * 2 ^ y.dR) (2 * 2 ^ y.dR)]) ?_
        try simp only [Act.put, pu1, pu2, pu3]
        refine rd10_17 (by kernel_rfl) rfl rfl (fun K hK => ?_) (fun K hK => ?_)
        · go_simp
          go_at_call 41
          refine (HSZ.out w9 (Below.refl w9.heap.size w9)).mono ?_
          rintro e w10 ⟨rfl, b10⟩
          refine hK.out _ _ ?_ (fun hHeld => ?_)
          · exact (World.cell?_of_block (a := ⟨y.D, 1, none⟩) (b10.block y.D (by (try simp); omega))).trans (by assumption)
          clear hK K
          try simp only [Act.put, pu1, pu2, pu3]
          refine rd11_17 (by kernel_rfl) rfl rfl (fun K hK => ?_) (fun K hK => ?_)
          · go_simp
            go_at_call 43
            refine (HMO.out w10).mono ?_
            rintro e w11 ⟨rfl, rfl⟩
            refine hK.out _ _ ?_ (fun hHeld => ?_)
            · exact by assumption
            clear hK K
            try simp only [Act.put, pu1, pu2, pu3]
            refine rd12_17 (by kernel_rfl) rfl rfl (fun K hK => ?_) (fun K hK => ?_)
            · go_simp
              go_at_call 42
              refine (HAT.out w10 (bmm (Below.refl w9.heap.size w9) (Below.refl w9.heap.size w9).size b10)).mono ?_
              rintro e w12 ⟨rfl, b12⟩
              refine hK.out _ _ ?_ (fun hHeld => ?_)
              · exact (World.cell?_of_block (a := ⟨y.D, 1, none⟩) (b12.block y.D (by have h10 := b10.size; (try simp at h10); (try simp); omega))).trans (by assumption)
              clear hK K
              try simp only [Act.put, pu1, pu2, pu3]
              refine rd13_17 (by kernel_rfl) rfl rfl (fun K hK => ?_) (fun K hK => ?_)
              · go_simp
                go_at_call 13
                refine (HST.out w12 (bmm (bmm (Below.refl w9.heap.size w9) (Below.refl w9.heap.size w9).size b10) (bmm (Below.refl w9.heap.size w9) (Below.refl w9.heap.size w9).size b10).size b12)).mono ?_
                rintro e w13 ⟨rfl, ro13, h13', s13', o13', k13'⟩
                have h13 : Hid _ := h13'
                have s13 : Hid _ := s13'
                have o13 : Hid _ := o13'
                have k13 : Hid _ := k13'
                have c13 : w13.cell? ⟨y.D, 1, none⟩ = some (.slice (some ⟨y.bR, 0, none⟩) (2 * 2 ^ y.dR) (2 * 2 ^ y.dR)) := (both_cell h13.out).1
                clear h13' s13' o13' k13'
                refine hK.out _ _ ?_ (fun hHeld => ?_)
                · exact c13
                clear hK K
                try simp only [Act.put, pu1, pu2, pu3]
                refine tk14 (.tuple #[.agg #[.int .i64 (spR T L z).1.1, .int .i64 (spR T L z).1.2.1, .int .i64 (spR T L z).1.2.2], .int .i64 (spR T L z).2.1]) ?_
                try simp only [Act.put, pu1, pu2, pu3]
                refine tk15 (.agg #[.int .i64 (spR T L z).1.1, .int .i64 (spR T L z).1.2.1, .int .i64 (spR T L z).1.2.2]) ?_
                try simp only [Act.put, pu1, pu2, pu3]
                refine tk16 (.int .i64 (spR T L z).2.1) ?_
                try simp only [Act.put, pu1, pu2, pu3]
                refine cl17 (by kernel_rfl) rfl (fun K hK => ?_)
                go_simp
                refine hK.out _ _ ?_ (fun hHeld => ?_)
                · exact (World.cell?_of_block (a := ⟨y.D, 1, none⟩) (Below.heap_alloc w13 _ _ (by first | exact (both_cell h13.out).2.1 | (have := b12.size; have := b10.size; show y.D < _; omega) | (have := b10.size; show y.D < _; omega) | (show y.D < _; omega)))).trans (by assumption)
                clear hK K
                try simp only [Act.put, pu1, pu2, pu3]
                refine cl18 (by kernel_rfl) rfl (fun K hK => ?_)
                have bx : Below w9.heap.size w9 w12 := (bmm (bmm (Below.refl w9.heap.size w9) (Below.refl w9.heap.size w9).size b10) (bmm (Below.refl w9.heap.size w9) (Below.refl w9.heap.size w9).size b10).size b12)
                have lE : w9.heap.size ≤ w13.heap.size := Nat.le_trans bx.size k13.out.size
                have hE : (w13.alloc (.cells #[.int .i64 0, .int .i64 0, .int .i64 0] 32)).heap[w13.heap.size]? = some (.cells #[.int .i64 0, .int .i64 0, .int .i64 0] 32 (0, 0)) := heap_alloc_new w13 _
                have nE : ro13 (w13.heap.size) = none := by
                    apply Classical.byContradiction
                    intro hc
                    have := ((both_cell h13.out).2.2 _ hc).2
                    omega
                obtain ⟨g1, g2, g3, g4, g5, g6, g7, g8, g9⟩ := HFIN.out (w13.alloc (.cells #[.int .i64 0, .int .i64 0, .int .i64 0] 32)) ro13 (w13.heap.size) (h13.out.fresh ((Below.refl _ w13).alloc (Nat.le_refl _) _)) (((Kept.of bx).trans k13.out).trans (Kept.of ((Below.refl _ w13).alloc (Nat.le_refl _) _))) hE nE lE
                refine wp_store_row 32 (.tmp 9) (.tmp 49) rfl (w13.heap.size) #[.int .i64 (spR T L z).1.1, .int .i64 (spR T L z).1.2.1, .int .i64 (spR T L z).1.2.2] rfl rfl 32 #[.int .i64 0, .int .i64 0, .int .i64 0] hE infoE rfl (by simp [Value.oneCell']) ?_
                refine hK.out _ _ ?_ (fun hHeld => ?_)
                · exact g5
                clear hK K
                simp only [Act.put]
                refine tk19 (.int .i64 (spR T L z).2.1) ?_
                try simp only [Act.put, pu1, pu2, pu3]
                refine wpAnyH_done (by kernel_rfl) ?_ _
                clear hHeld
                generalize hWE : (w13.alloc (.cells #[.int .i64 0, .int .i64 0, .int .i64 0] 32)).setRow (w13.heap.size) #[.int .i64 (spR T L z).1.1, .int .i64 (spR T L z).1.2.1, .int .i64 (spR T L z).1.2.2] = W18 at *
                go_wp2_with (at_builtin; refine wpList_app_row (l := [((spR T L z).1.1, (spR T L z).1.2.1, (spR T L z).1.2.2)]) (enc := opC) (k := 3) rfl (.tmp 51) (.tmp 53) 40 32 rfl i0 _ 24 Try.underlying40 hi hz0 hz1 hz2 rfl (by decide) opC_len opC_one rfl rfl (g2.out.alloc _) (RowAt.built (heap_alloc_new W18 _) rfl 1 rfl rfl) (by have := g4.out.size; simp; omega) (by simp; omega) (by simp; omega) ?_; intro u5 w5 h5 a5; obtain ⟨p5, c5, rfl⟩ := own_formN h5; have H5 : Hid _ := h5; have A5 : Hid _ := a5; clear h5 a5)
                obtain ⟨m1, m2, m3⟩ := HAPP.out W18 ro13 g1.out g3.out g4.out _ _ _ H5.out A5.out
                go_roundw
                case rel => exact ⟨k + 1, ro13, _, _, evs ++ [(spR T L z).1], by omega, by rw [List.length_append, HEK.out]; rfl, m1, s13, o13, m2.1, m2.2, HRUN, m3⟩
                case measure => have hke := HEK.out; simp; omega
              · go_simp
                refine hK.out _ _ ?_ (fun hHeld => ?_)
                · exact (World.cell?_of_block (a := ⟨y.D, 1, none⟩) (Below.heap_alloc w12 _ _ (by first | exact (both_cell h13.out).2.1 | (have := b12.size; have := b10.size; show y.D < _; omega) | (have := b10.size; show y.D < _; omega) | (show y.D < _; omega)))).trans (by assumption)
                clear hK K
                try simp only [Act.put, pu1, pu2, pu3]
                refine cl13 (by kernel_rfl) rfl (fun K hK => ?_)
                go_simp
                go_at_call 13
                refine (HST.out (w12.alloc (.cells #[.int .i64 0, .int .i64 0, .int .i64 0] 32)) ((bmm (bmm (Below.refl w9.heap.size w9) (Below.refl w9.heap.size w9).size b10) (bmm (Below.refl w9.heap.size w9) (Below.refl w9.heap.size w9).size b10).size b12).alloc (bmm (bmm (Below.refl w9.heap.size w9) (Below.refl w9.heap.size w9).size b10) (bmm (Below.refl w9.heap.size w9) (Below.refl w9.heap.size w9).size b10).size b12).size (.cells #[.int .i64 0, .int .i64 0, .int .i64 0] 32))).mono ?_
                rintro e w13 ⟨rfl, ro13, h13', s13', o13', k13'⟩
                have h13 : Hid _ := h13'
                have s13 : Hid _ := s13'
                have o13 : Hid _ := o13'
                have k13 : Hid _ := k13'
                have c13 : w13.cell? ⟨y.D, 1, none⟩ = some (.slice (some ⟨y.bR, 0, none⟩) (2 * 2 ^ y.dR) (2 * 2 ^ y.dR)) := (both_cell h13.out).1
                clear h13' s13' o13' k13'
                refine hK.out _ _ ?_ (fun hHeld => ?_)
                · exact c13
                clear hK K
                try simp only [Act.put, pu1, pu2, pu3]
                refine tk14 (.tuple #[.agg #[.int .i64 (spR T L z).1.1, .int .i64 (spR T L z).1.2.1, .int .i64 (spR T L z).1.2.2], .int .i64 (spR T L z).2.1]) ?_
                try simp only [Act.put, pu1, pu2, pu3]
                refine tk15 (.agg #[.int .i64 (spR T L z).1.1, .int .i64 (spR T L z).1.2.1, .int .i64 (spR T L z).1.2.2]) ?_
                try simp only [Act.put, pu1, pu2, pu3]
                refine tk16 (.int .i64 (spR T L z).2.1) ?_
                try simp only [Act.put, pu1, pu2, pu3]
                refine cl18 (by kernel_rfl) rfl (fun K hK => ?_)
                have bx : Below w9.heap.size w9 (w12.alloc (.cells #[.int .i64 0, .int .i64 0, .int .i64 0] 32)) := ((bmm (bmm (Below.refl w9.heap.size w9) (Below.refl w9.heap.size w9).size b10) (bmm (Below.refl w9.heap.size w9) (Below.refl w9.heap.size w9).size b10).size b12).alloc (bmm (bmm (Below.refl w9.heap.size w9) (Below.refl w9.heap.size w9).size b10) (bmm (Below.refl w9.heap.size w9) (Below.refl w9.heap.size w9).size b10).size b12).size (.cells #[.int .i64 0, .int .i64 0, .int .i64 0] 32))
                have lE : w9.heap.size ≤ w12.heap.size := Nat.le_trans (Nat.le_trans (Nat.le_refl _) b10.size) b12.size
                have hE0 : (w12.alloc (.cells #[.int .i64 0, .int .i64 0, .int .i64 0] 32)).heap[w12.heap.size]? = some (.cells #[.int .i64 0, .int .i64 0, .int .i64 0] 32 (0, 0)) := heap_alloc_new w12 _
                have hE : w13.heap[w12.heap.size]? = some (.cells #[.int .i64 0, .int .i64 0, .int .i64 0] 32 (0, 0)) := (k13.out.kept _ (lt_of_block hE0) (fun e => by have := HRN.out _ e; omega)).trans hE0
                have nE : ro13 (w12.heap.size) = none := by
                    apply Classical.byContradiction
                    intro hc
                    rcases k13.out.old _ hc with h9 | h9
                    · have := HRN.out _ h9
                      omega
                    · have := lt_of_block hE0
                      omega
                obtain ⟨g1, g2, g3, g4, g5, g6, g7, g8, g9⟩ := HFIN.out w13 ro13 (w12.heap.size) h13.out ((Kept.of bx).trans k13.out) hE nE lE
                refine wp_store_row 32 (.tmp 9) (.tmp 49) rfl (w12.heap.size) #[.int .i64 (spR T L z).1.1, .int .i64 (spR T L z).1.2.1, .int .i64 (spR T L z).1.2.2] rfl rfl 32 #[.int .i64 0, .int .i64 0, .int .i64 0] hE infoE rfl (by simp [Value.oneCell']) ?_
                refine hK.out _ _ ?_ (fun hHeld => ?_)
                · exact g5
                clear hK K
                simp only [Act.put]
                refine tk19 (.int .i64 (spR T L z).2.1) ?_
                try simp only [Act.put, pu1, pu2, pu3]
                refine wpAnyH_done (by kernel_rfl) ?_ _
                clear hHeld
                generalize hWE : w13.setRow (w12.heap.size) #[.int .i64 (spR T L z).1.1, .int .i64 (spR T L z).1.2.1, .int .i64 (spR T L z).1.2.2] = W18 at *
                go_wp2_with (at_builtin; refine wpList_app_row (l := [((spR T L z).1.1, (spR T L z).1.2.1, (spR T L z).1.2.2)]) (enc := opC) (k := 3) rfl (.tmp 51) (.tmp 53) 40 32 rfl i0 _ 24 Try.underlying40 hi hz0 hz1 hz2 rfl (by decide) opC_len opC_one rfl rfl (g2.out.alloc _) (RowAt.built (heap_alloc_new W18 _) rfl 1 rfl rfl) (by have := g4.out.size; simp; omega) (by simp; omega) (by simp; omega) ?_; intro u5 w5 h5 a5; obtain ⟨p5, c5, rfl⟩ := own_formN h5; have H5 : Hid _ := h5; have A5 : Hid _ := a5; clear h5 a5)
                obtain ⟨m1, m2, m3⟩ := HAPP.out W18 ro13 g1.out g3.out g4.out _ _ _ H5.out A5.out
                go_roundw
                case rel => exact ⟨k + 1, ro13, _, _, evs ++ [(spR T L z).1], by omega, by rw [List.length_append, HEK.out]; rfl, m1, s13, o13, m2.1, m2.2, HRUN, m3⟩
                case measure => have hke := HEK.out; simp; omega
            · go_simp
              refine hK.out _ _ ?_ (fun hHeld => ?_)
              · exact (World.cell?_of_block (a := ⟨y.D, 1, none⟩) (Below.heap_alloc w10 _ _ (by first | exact (both_cell h13.out).2.1 | (have := b12.size; have := b10.size; show y.D < _; omega) | (have := b10.size; show y.D < _; omega) | (show y.D < _; omega)))).trans (by assumption)
              clear hK K
              try simp only [Act.put, pu1, pu2, pu3]
              refine cl12 (by kernel_rfl) rfl (fun K hK => ?_)
              go_simp
              go_at_call 42
              refine (HAT.out (w10.alloc (.cells #[.int .i64 0, .int .i64 0, .int .i64 0] 32)) ((bmm (Below.refl w9.heap.size w9) (Below.refl w9.heap.size w9).size b10).alloc (bmm (Below.refl w9.heap.size w9) (Below.refl w9.heap.size w9).size b10).size (.cells #[.int .i64 0, .int .i64 0, .int .i64 0] 32))).mono ?_
              rintro e w12 ⟨rfl, b12⟩
              refine hK.out _ _ ?_ (fun hHeld => ?_)
              · exact (World.cell?_of_block (a := ⟨y.D, 1, none⟩) (b12.block y.D (by have h10 := b10.size; (try simp at h10); (try simp); omega))).trans (by assumption)
              clear hK K
              try simp only [Act.put, pu1, pu2, pu3]
              refine cl13 (by kernel_rfl) rfl (fun K hK => ?_)
              go_simp
              go_at_call 13
              refine (HST.out w12 (bmm ((bmm (Below.refl w9.heap.size w9) (Below.refl w9.heap.size w9).size b10).alloc (bmm (Below.refl w9.heap.size w9) (Below.refl w9.heap.size w9).size b10).size (.cells #[.int .i64 0, .int .i64 0, .int .i64 0] 32)) ((bmm (Below.refl w9.heap.size w9) (Below.refl w9.heap.size w9).size b10).alloc (bmm (Below.refl w9.heap.size w9) (Below.refl w9.heap.size w9).size b10).size (.cells #[.int .i64 0, .int .i64 0, .int .i64 0] 32)).size b12)).mono ?_
              rintro e w13 ⟨rfl, ro13, h13', s13', o13', k13'⟩
              have h13 : Hid _ := h13'
              have s13 : Hid _ := s13'
              have o13 : Hid _ := o13'
              have k13 : Hid _ := k13'
              have c13 : w13.cell? ⟨y.D, 1, none⟩ = some (.slice (some ⟨y.bR, 0, none⟩) (2 * 2 ^ y.dR) (2 * 2 ^ y.dR)) := (both_cell h13.out).1
              clear h13' s13' o13' k13'
              refine hK.out _ _ ?_ (fun hHeld => ?_)
              · exact c13
              clear hK K
              try simp only [Act.put, pu1, pu2, pu3]
              refine tk14 (.tuple #[.agg #[.int .i64 (spR T L z).1.1, .int .i64 (spR T L z).1.2.1, .int .i64 (spR T L z).1.2.2], .int .i64 (spR T L z).2.1]) ?_
              try simp only [Act.put, pu1, pu2, pu3]
              refine tk15 (.agg #[.int .i64 (spR T L z).1.1, .int .i64 (spR T L z).1.2.1, .int .i64 (spR T L z).1.2.2]) ?_
              try simp only [Act.put, pu1, pu2, pu3]
              refine tk16 (.int .i64 (spR T L z).2.1) ?_
              try simp only [Act.put, pu1, pu2, pu3]
              refine cl18 (by kernel_rfl) rfl (fun K hK => ?_)
              have bx : Below w9.heap.size w9 w12 := (bmm ((bmm (Below.refl w9.heap.size w9) (Below.refl w9.heap.size w9).size b10).alloc (bmm (Below.refl w9.heap.size w9) (Below.refl w9.heap.size w9).size b10).size (.cells #[.int .i64 0, .int .i64 0, .int .i64 0] 32)) ((bmm (Below.refl w9.heap.size w9) (Below.refl w9.heap.size w9).size b10).alloc (bmm (Below.refl w9.heap.size w9) (Below.refl w9.heap.size w9).size b10).size (.cells #[.int .i64 0, .int .i64 0, .int .i64 0] 32)).size b12)
              have lE : w9.heap.size ≤ w10.heap.size := Nat.le_trans (Nat.le_refl _) b10.size
              have hE0 : w12.heap[w10.heap.size]? = some (.cells #[.int .i64 0, .int .i64 0, .int .i64 0] 32 (0, 0)) := (b12.block _ (by first | simp | (have := b10.size; simp at this; omega))).trans (heap_alloc_new w10 _)
              have hE : w13.heap[w10.heap.size]? = some (.cells #[.int .i64 0, .int .i64 0, .int .i64 0] 32 (0, 0)) := (k13.out.kept _ (lt_of_block hE0) (fun e => by have := HRN.out _ e; omega)).trans hE0
              have nE : ro13 (w10.heap.size) = none := by
                  apply Classical.byContradiction
                  intro hc
                  rcases k13.out.old _ hc with h9 | h9
                  · have := HRN.out _ h9
                    omega
                  · have := lt_of_block hE0
                    omega
              obtain ⟨g1, g2, g3, g4, g5, g6, g7, g8, g9⟩ := HFIN.out w13 ro13 (w10.heap.size) h13.out ((Kept.of bx).trans k13.out) hE nE lE
              refine wp_store_row 32 (.tmp 9) (.tmp 49) rfl (w10.heap.size) #[.int .i64 (spR T L z).1.1, .int .i64 (spR T L z).1.2.1, .int .i64 (spR T L z).1.2.2] rfl rfl 32 #[.int .i64 0, .int .i64 0, .int .i64 0] hE infoE rfl (by simp [Value.oneCell']) ?_
              refine hK.out _ _ ?_ (fun hHeld => ?_)
              · exact g5
              clear hK K
              simp only [Act.put]
              refine tk19 (.int .i64 (spR T L z).2.1) ?_
              try simp only [Act.put, pu1, pu2, pu3]
              refine wpAnyH_done (by kernel_rfl) ?_ _
              clear hHeld
              generalize hWE : w13.setRow (w10.heap.size) #[.int .i64 (spR T L z).1.1, .int .i64 (spR T L z).1.2.1, .int .i64 (spR T L z).1.2.2] = W18 at *
              go_wp2_with (at_builtin; refine wpList_app_row (l := [((spR T L z).1.1, (spR T L z).1.2.1, (spR T L z).1.2.2)]) (enc := opC) (k := 3) rfl (.tmp 51) (.tmp 53) 40 32 rfl i0 _ 24 Try.underlying40 hi hz0 hz1 hz2 rfl (by decide) opC_len opC_one rfl rfl (g2.out.alloc _) (RowAt.built (heap_alloc_new W18 _) rfl 1 rfl rfl) (by have := g4.out.size; simp; omega) (by simp; omega) (by simp; omega) ?_; intro u5 w5 h5 a5; obtain ⟨p5, c5, rfl⟩ := own_formN h5; have H5 : Hid _ := h5; have A5 : Hid _ := a5; clear h5 a5)
              obtain ⟨m1, m2, m3⟩ := HAPP.out W18 ro13 g1.out g3.out g4.out _ _ _ H5.out A5.out
              go_roundw
              case rel => exact ⟨k + 1, ro13, _, _, evs ++ [(spR T L z).1], by omega, by rw [List.length_append, HEK.out]; rfl, m1, s13, o13, m2.1, m2.2, HRUN, m3⟩
              case measure => have hke := HEK.out; simp; omega
          · go_simp
            refine hK.out _ _ ?_ (fun hHeld => ?_)
            · exact (World.cell?_of_block (a := ⟨y.D, 1, none⟩) (Below.heap_alloc w10 _ _ (by first | exact (both_cell h13.out).2.1 | (have := b12.size; have := b10.size; show y.D < _; omega) | (have := b10.size; show y.D < _; omega) | (show y.D < _; omega)))).trans (by assumption)
            clear hK K
            try simp only [Act.put, pu1, pu2, pu3]
            refine cl11 (by kernel_rfl) rfl (fun K hK => ?_)
            go_simp
            go_at_call 43
            refine (HMO.out (w10.alloc (.cells #[.int .i64 0, .int .i64 0, .int .i64 0] 32))).mono ?_
            rintro e w11 ⟨rfl, rfl⟩
            refine hK.out _ _ ?_ (fun hHeld => ?_)
            · exact by assumption
            clear hK K
            try simp only [Act.put, pu1, pu2, pu3]
            refine cl12 (by kernel_rfl) rfl (fun K hK => ?_)
            go_simp
            go_at_call 42
            refine (HAT.out (w10.alloc (.cells #[.int .i64 0, .int .i64 0, .int .i64 0] 32)) ((bmm (Below.refl w9.heap.size w9) (Below.refl w9.heap.size w9).size b10).alloc (bmm (Below.refl w9.heap.size w9) (Below.refl w9.heap.size w9).size b10).size (.cells #[.int .i64 0, .int .i64 0, .int .i64 0] 32))).mono ?_
            rintro e w12 ⟨rfl, b12⟩
            refine hK.out _ _ ?_ (fun hHeld => ?_)
            · exact (World.cell?_of_block (a := ⟨y.D, 1, none⟩) (b12.block y.D (by have h10 := b10.size; (try simp at h10); (try simp); omega))).trans (by assumption)
            clear hK K
            try simp only [Act.put, pu1, pu2, pu3]
            refine cl13 (by kernel_rfl) rfl (fun K hK => ?_)
            go_simp
            go_at_call 13
            refine (HST.out w12 (bmm ((bmm (Below.refl w9.heap.size w9) (Below.refl w9.heap.size w9).size b10).alloc (bmm (Below.refl w9.heap.size w9) (Below.refl w9.heap.size w9).size b10).size (.cells #[.int .i64 0, .int .i64 0, .int .i64 0] 32)) ((bmm (Below.refl w9.heap.size w9) (Below.refl w9.heap.size w9).size b10).alloc (bmm (Below.refl w9.heap.size w9) (Below.refl w9.heap.size w9).size b10).size (.cells #[.int .i64 0, .int .i64 0, .int .i64 0] 32)).size b12)).mono ?_
            rintro e w13 ⟨rfl, ro13, h13', s13', o13', k13'⟩
            have h13 : Hid _ := h13'
            have s13 : Hid _ := s13'
            have o13 : Hid _ := o13'
            have k13 : Hid _ := k13'
            have c13 : w13.cell? ⟨y.D, 1, none⟩ = some (.slice (some ⟨y.bR, 0, none⟩) (2 * 2 ^ y.dR) (2 * 2 ^ y.dR)) := (both_cell h13.out).1
            clear h13' s13' o13' k13'
            refine hK.out _ _ ?_ (fun hHeld => ?_)
            · exact c13
            clear hK K
            try simp only [Act.put, pu1, pu2, pu3]
            refine tk14 (.tuple #[.agg #[.int .i64 (spR T L z).1.1, .int .i64 (spR T L z).1.2.1, .int .i64 (spR T L z).1.2.2], .int .i64 (spR T L z).2.1]) ?_
            try simp only [Act.put, pu1, pu2, pu3]
            refine tk15 (.agg #[.int .i64 (spR T L z).1.1, .int .i64 (spR T L z).1.2.1, .int .i64 (spR T L z).1.2.2]) ?_
            try simp only [Act.put, pu1, pu2, pu3]
            refine tk16 (.int .i64 (spR T L z).2.1) ?_
            try simp only [Act.put, pu1, pu2, pu3]
            refine cl18 (by kernel_rfl) rfl (fun K hK => ?_)
            have bx : Below w9.heap.size w9 w12 := (bmm ((bmm (Below.refl w9.heap.size w9) (Below.refl w9.heap.size w9).size b10).alloc (bmm (Below.refl w9.heap.size w9) (Below.refl w9.heap.size w9).size b10).size (.cells #[.int .i64 0, .int .i64 0, .int .i64 0] 32)) ((bmm (Below.refl w9.heap.size w9) (Below.refl w9.heap.size w9).size b10).alloc (bmm (Below.refl w9.heap.size w9) (Below.refl w9.heap.size w9).size b10).size (.cells #[.int .i64 0, .int .i64 0, .int .i64 0] 32)).size b12)
            have lE : w9.heap.size ≤ w10.heap.size := Nat.le_trans (Nat.le_refl _) b10.size
            have hE0 : w12.heap[w10.heap.size]? = some (.cells #[.int .i64 0, .int .i64 0, .int .i64 0] 32 (0, 0)) := (b12.block _ (by first | simp | (have := b10.size; simp at this; omega))).trans (heap_alloc_new w10 _)
            have hE : w13.heap[w10.heap.size]? = some (.cells #[.int .i64 0, .int .i64 0, .int .i64 0] 32 (0, 0)) := (k13.out.kept _ (lt_of_block hE0) (fun e => by have := HRN.out _ e; omega)).trans hE0
            have nE : ro13 (w10.heap.size) = none := by
                apply Classical.byContradiction
                intro hc
                rcases k13.out.old _ hc with h9 | h9
                · have := HRN.out _ h9
                  omega
                · have := lt_of_block hE0
                  omega
            obtain ⟨g1, g2, g3, g4, g5, g6, g7, g8, g9⟩ := HFIN.out w13 ro13 (w10.heap.size) h13.out ((Kept.of bx).trans k13.out) hE nE lE
            refine wp_store_row 32 (.tmp 9) (.tmp 49) rfl (w10.heap.size) #[.int .i64 (spR T L z).1.1, .int .i64 (spR T L z).1.2.1, .int .i64 (spR T L z).1.2.2] rfl rfl 32 #[.int .i64 0, .int .i64 0, .int .i64 0] hE infoE rfl (by simp [Value.oneCell']) ?_
            refine hK.out _ _ ?_ (fun hHeld => ?_)
            · exact g5
            clear hK K
            simp only [Act.put]
            refine tk19 (.int .i64 (spR T L z).2.1) ?_
            try simp only [Act.put, pu1, pu2, pu3]
            refine wpAnyH_done (by kernel_rfl) ?_ _
            clear hHeld
            generalize hWE : w13.setRow (w10.heap.size) #[.int .i64 (spR T L z).1.1, .int .i64 (spR T L z).1.2.1, .int .i64 (spR T L z).1.2.2] = W18 at *
            go_wp2_with (at_builtin; refine wpList_app_row (l := [((spR T L z).1.1, (spR T L z).1.2.1, (spR T L z).1.2.2)]) (enc := opC) (k := 3) rfl (.tmp 51) (.tmp 53) 40 32 rfl i0 _ 24 Try.underlying40 hi hz0 hz1 hz2 rfl (by decide) opC_len opC_one rfl rfl (g2.out.alloc _) (RowAt.built (heap_alloc_new W18 _) rfl 1 rfl rfl) (by have := g4.out.size; simp; omega) (by simp; omega) (by simp; omega) ?_; intro u5 w5 h5 a5; obtain ⟨p5, c5, rfl⟩ := own_formN h5; have H5 : Hid _ := h5; have A5 : Hid _ := a5; clear h5 a5)
            obtain ⟨m1, m2, m3⟩ := HAPP.out W18 ro13 g1.out g3.out g4.out _ _ _ H5.out A5.out
            go_roundw
            case rel => exact ⟨k + 1, ro13, _, _, evs ++ [(spR T L z).1], by omega, by rw [List.length_append, HEK.out]; rfl, m1, s13, o13, m2.1, m2.2, HRUN, m3⟩
            case measure => have hke := HEK.out; simp; omega
        · go_simp
          refine hK.out _ _ ?_ (fun hHeld => ?_)
          · exact (World.cell?_of_block (a := ⟨y.D, 1, none⟩) (Below.heap_alloc w9 _ _ (by first | exact (both_cell h13.out).2.1 | (have := b12.size; have := b10.size; show y.D < _; omega) | (have := b10.size; show y.D < _; omega) | (show y.D < _; omega)))).trans (by assumption)
          clear hK K
          try simp only [Act.put, pu1, pu2, pu3]
          refine cl10 (by kernel_rfl) rfl (fun K hK => ?_)
          go_simp
          go_at_call 41
          refine (HSZ.out (w9.alloc (.cells #[.int .i64 0, .int .i64 0, .int .i64 0] 32)) ((Below.refl w9.heap.size w9).alloc (Below.refl w9.heap.size w9).size (.cells #[.int .i64 0, .int .i64 0, .int .i64 0] 32))).mono ?_
          rintro e w10 ⟨rfl, b10⟩
          refine hK.out _ _ ?_ (fun hHeld => ?_)
          · exact (World.cell?_of_block (a := ⟨y.D, 1, none⟩) (b10.block y.D (by (try simp); omega))).trans (by assumption)
          clear hK K
          try simp only [Act.put, pu1, pu2, pu3]
          refine cl11 (by kernel_rfl) rfl (fun K hK => ?_)
          go_simp
          go_at_call 43
          refine (HMO.out w10).mono ?_
          rintro e w11 ⟨rfl, rfl⟩
          refine hK.out _ _ ?_ (fun hHeld => ?_)
          · exact by assumption
          clear hK K
          try simp only [Act.put, pu1, pu2, pu3]
          refine cl12 (by kernel_rfl) rfl (fun K hK => ?_)
          go_simp
          go_at_call 42
          refine (HAT.out w10 (bmm ((Below.refl w9.heap.size w9).alloc (Below.refl w9.heap.size w9).size (.cells #[.int .i64 0, .int .i64 0, .int .i64 0] 32)) ((Below.refl w9.heap.size w9).alloc (Below.refl w9.heap.size w9).size (.cells #[.int .i64 0, .int .i64 0, .int .i64 0] 32)).size b10)).mono ?_
          rintro e w12 ⟨rfl, b12⟩
          refine hK.out _ _ ?_ (fun hHeld => ?_)
          · exact (World.cell?_of_block (a := ⟨y.D, 1, none⟩) (b12.block y.D (by have h10 := b10.size; (try simp at h10); (try simp); omega))).trans (by assumption)
          clear hK K
          try simp only [Act.put, pu1, pu2, pu3]
          refine cl13 (by kernel_rfl) rfl (fun K hK => ?_)
          go_simp
          go_at_call 13
          refine (HST.out w12 (bmm (bmm ((Below.refl w9.heap.size w9).alloc (Below.refl w9.heap.size w9).size (.cells #[.int .i64 0, .int .i64 0, .int .i64 0] 32)) ((Below.refl w9.heap.size w9).alloc (Below.refl w9.heap.size w9).size (.cells #[.int .i64 0, .int .i64 0, .int .i64 0] 32)).size b10) (bmm ((Below.refl w9.heap.size w9).alloc (Below.refl w9.heap.size w9).size (.cells #[.int .i64 0, .int .i64 0, .int .i64 0] 32)) ((Below.refl w9.heap.size w9).alloc (Below.refl w9.heap.size w9).size (.cells #[.int .i64 0, .int .i64 0, .int .i64 0] 32)).size b10).size b12)).mono ?_
          rintro e w13 ⟨rfl, ro13, h13', s13', o13', k13'⟩
          have h13 : Hid _ := h13'
          have s13 : Hid _ := s13'
          have o13 : Hid _ := o13'
          have k13 : Hid _ := k13'
          have c13 : w13.cell? ⟨y.D, 1, none⟩ = some (.slice (some ⟨y.bR, 0, none⟩) (2 * 2 ^ y.dR) (2 * 2 ^ y.dR)) := (both_cell h13.out).1
          clear h13' s13' o13' k13'
          refine hK.out _ _ ?_ (fun hHeld => ?_)
          · exact c13
          clear hK K
          try simp only [Act.put, pu1, pu2, pu3]
          refine tk14 (.tuple #[.agg #[.int .i64 (spR T L z).1.1, .int .i64 (spR T L z).1.2.1, .int .i64 (spR T L z).1.2.2], .int .i64 (spR T L z).2.1]) ?_
          try simp only [Act.put, pu1, pu2, pu3]
          refine tk15 (.agg #[.int .i64 (spR T L z).1.1, .int .i64 (spR T L z).1.2.1, .int .i64 (spR T L z).1.2.2]) ?_
          try simp only [Act.put, pu1, pu2, pu3]
          refine tk16 (.int .i64 (spR T L z).2.1) ?_
          try simp only [Act.put, pu1, pu2, pu3]
          refine cl18 (by kernel_rfl) rfl (fun K hK => ?_)
          have bx : Below w9.heap.size w9 w12 := (bmm (bmm ((Below.refl w9.heap.size w9).alloc (Below.refl w9.heap.size w9).size (.cells #[.int .i64 0, .int .i64 0, .int .i64 0] 32)) ((Below.refl w9.heap.size w9).alloc (Below.refl w9.heap.size w9).size (.cells #[.int .i64 0, .int .i64 0, .int .i64 0] 32)).size b10) (bmm ((Below.refl w9.heap.size w9).alloc (Below.refl w9.heap.size w9).size (.cells #[.int .i64 0, .int .i64 0, .int .i64 0] 32)) ((Below.refl w9.heap.size w9).alloc (Below.refl w9.heap.size w9).size (.cells #[.int .i64 0, .int .i64 0, .int .i64 0] 32)).size b10).size b12)
          have lE : w9.heap.size ≤ w9.heap.size := Nat.le_refl _
          have hE0 : w12.heap[w9.heap.size]? = some (.cells #[.int .i64 0, .int .i64 0, .int .i64 0] 32 (0, 0)) := (b12.block _ (by first | simp | (have := b10.size; simp at this; omega))).trans ((b10.block _ (by first | simp | (have := b10.size; simp at this; omega))).trans (heap_alloc_new w9 _))
          have hE : w13.heap[w9.heap.size]? = some (.cells #[.int .i64 0, .int .i64 0, .int .i64 0] 32 (0, 0)) := (k13.out.kept _ (lt_of_block hE0) (fun e => by have := HRN.out _ e; omega)).trans hE0
          have nE : ro13 (w9.heap.size) = none := by
              apply Classical.byContradiction
              intro hc
              rcases k13.out.old _ hc with h9 | h9
              · have := HRN.out _ h9
                omega
              · have := lt_of_block hE0
                omega
          obtain ⟨g1, g2, g3, g4, g5, g6, g7, g8, g9⟩ := HFIN.out w13 ro13 (w9.heap.size) h13.out ((Kept.of bx).trans k13.out) hE nE lE
          refine wp_store_row 32 (.tmp 9) (.tmp 49) rfl (w9.heap.size) #[.int .i64 (spR T L z).1.1, .int .i64 (spR T L z).1.2.1, .int .i64 (spR T L z).1.2.2] rfl rfl 32 #[.int .i64 0, .int .i64 0, .int .i64 0] hE infoE rfl (by simp [Value.oneCell']) ?_
          refine hK.out _ _ ?_ (fun hHeld => ?_)
          · exact g5
          clear hK K
          simp only [Act.put]
          refine tk19 (.int .i64 (spR T L z).2.1) ?_
          try simp only [Act.put, pu1, pu2, pu3]
          refine wpAnyH_done (by kernel_rfl) ?_ _
          clear hHeld
          generalize hWE : w13.setRow (w9.heap.size) #[.int .i64 (spR T L z).1.1, .int .i64 (spR T L z).1.2.1, .int .i64 (spR T L z).1.2.2] = W18 at *
          go_wp2_with (at_builtin; refine wpList_app_row (l := [((spR T L z).1.1, (spR T L z).1.2.1, (spR T L z).1.2.2)]) (enc := opC) (k := 3) rfl (.tmp 51) (.tmp 53) 40 32 rfl i0 _ 24 Try.underlying40 hi hz0 hz1 hz2 rfl (by decide) opC_len opC_one rfl rfl (g2.out.alloc _) (RowAt.built (heap_alloc_new W18 _) rfl 1 rfl rfl) (by have := g4.out.size; simp; omega) (by simp; omega) (by simp; omega) ?_; intro u5 w5 h5 a5; obtain ⟨p5, c5, rfl⟩ := own_formN h5; have H5 : Hid _ := h5; have A5 : Hid _ := a5; clear h5 a5)
          obtain ⟨m1, m2, m3⟩ := HAPP.out W18 ro13 g1.out g3.out g4.out _ _ _ H5.out A5.out
          go_roundw
          case rel => exact ⟨k + 1, ro13, _, _, evs ++ [(spR T L z).1], by omega, by rw [List.length_append, HEK.out]; rfl, m1, s13, o13, m2.1, m2.2, HRUN, m3⟩
          case measure => have hke := HEK.out; simp; omega
    · have HE : Hid (runR picks 10000 0 T0 [] = (evs, T, L)) := by
        show _ = _
        obtain rfl : k = 10000 := by omega
        rw [hrun.out, Nat.sub_self, runR]
        simp
      have q0 : decide ((evs.length : Int) < 10000) = false := decide_eq_false (by omega)
      clear hek hbd
      go_wp2_with (go_at_call 20; refine (HEND.out wr (Below.refl _ _)).mono ?_; rintro e w3 ⟨rfl, b3⟩)
      go_ret2
      rw [HE.out]
      exact ⟨_, rfl, RowAt.own opC_len (own_below9 HO.out b3), bmm bel.out bel.out.size b3⟩
end
end Go.Proofs.Ythhlglbohibekaa
