/-
  Parts of the proof, laid together: SoDo, SoStep, SoSp, SoOps, SoStart. The conditions stand at each part.
-/
import Derived.Test.YthhlglbohibekaaSPackK
namespace Go.Proofs.Ythhlglbohibekaa
open Go.RowKit

section
variable {w w' w1 : World} {base : Nat} {ro ro' : Nat → Option Who} {y : Lay} {tv : List Tv} {od : List Nat} {P : List Pk} {fR fB : Nat → Bool} {L L' : List (Int × Ob)} {T T' : List Tk} {out : Option Nat}
theorem both_go {i : Nat} (h : Both w base ro y (some i) T' L') (hi : i < T'.length) (hb : T'[i].bl = false) : Calls Try.prog 29 #[.pointer (some ⟨y.D, 0, none⟩), .int .i64 (i : Int), .int .i64 ((T'[i].pos + 1 : Nat) : Int)] w fun e w' => e = .returned (.tuple #[]) ∧ Both w' base ro y none (T'.set i { T'[i] with pos := T'[i].pos + 1 }) L' ∧ Kept w w' (fun b => ro b ≠ none) (fun b => ro b ≠ none) := by
  obtain ⟨tv, od, P, fR, fB, h1, hR⟩ := h.ex
  obtain ⟨hP, g1, g2, g3, g4, g5⟩ := hR.mine hi hb
  refine (pk_goTo h1 i hP (T'[i].pos + 1) g4).mono ?_
  rintro e w2 ⟨rfl, h2, k2⟩
  refine ⟨rfl, ⟨⟨_, _, _, _, _, h2, ?_⟩, h.iv.place i hi _⟩, k2⟩
  have := hR.goes hi hb hP (T'[i].pos + 1) P[i].runs { P[i] with pos := T'[i].pos + 1 } rfl
  rw [g3] at this
  exact this
theorem both_cells {i : Nat} (h : Both w base ro y (some i) T' L') (hi : i < T'.length) (hb : T'[i].bl = false) : w.cell? ⟨y.D, 0, none⟩ = some (.slice (some ⟨y.bT, 0, none⟩) T'.length T'.length) ∧ w.cell? ⟨y.bT, i * 3 + 1, none⟩ = some (.int .i64 (T'[i].pos : Int)) ∧ T'.length ≤ 65536 := by
  obtain ⟨tv, od, P, fR, fB, h1, hR⟩ := h.ex
  obtain ⟨hP, g1, g2, g3, g4, g5⟩ := hR.mine hi hb
  obtain ⟨c0, _⟩ := h1.cells
  obtain ⟨_, _, _, _, _, _, z1, _⟩ := h1.task i hP
  rw [g1] at z1
  rw [hR.ln] at c0
  have hn : P.length ≤ 65536 := Nat.le_trans h1.zR.1 h1.zR.2
  rw [hR.ln] at hn
  exact ⟨c0, z1, hn⟩
theorem Both.fresh (h : Both w base ro y out T L) (k : Below w.heap.size w w') : Both w' base ro y out T L := by
  obtain ⟨tv, od, P, fR, fB, h1, hR⟩ := h.ex
  exact ⟨⟨tv, od, P, fR, fB, h1.fresh k, hR⟩, h.iv⟩
set_option maxHeartbeats 6400000 in
set_option maxRecDepth 100000 in
theorem pk_do {k i : Nat} {x : Opx} (h : Both w base ro y (some i) T L) (hS : StOk k T L) (hk : k < 65535) (hi : i < T.length) (hb : T[i].bl = false) (hp : T[i].pos < T[i].ops.length) (hx : T[i].ops[T[i].pos] = x) (ho : okI x.2.1 ∧ okI x.2.2) : Calls Try.prog 32 #[.pointer (some ⟨y.D, 0, none⟩), .int .i64 (i : Int), .agg #[.int .i64 x.1, .int .i64 x.2.1, .int .i64 x.2.2]] w fun e w' => e = .returned (.int .i64 (stR T L i).1.2.2) ∧ ∃ ro', Both w' base ro' y none (stR T L i).2.1 (stR T L i).2.2 ∧ Kept w w' (fun b => ro b ≠ none) (fun b => ro' b ≠ none) := by
  have B1 : Hid _ := (Below.refl _ w).alloc (Nat.le_refl _) (.cells #[.int .i64 x.1, .int .i64 x.2.1, .int .i64 x.2.2] 45)
  have hB := h.fresh B1.out
  obtain ⟨tv, od, P, fR, fB, h1, hR⟩ := hB.ex
  have hq := (hS.tk.at hi).1
  by_cases hka : x.1 = 1 ∨ x.1 = 3 ∨ x.1 = 6 ∨ x.1 = 7
  · have hask := pk_askR h1 hR hB.iv hS hk hi hb hp hx ho hka
    clear hx
    clear h hB h1 hR hS hk hb hp ho
    generalize stR T L i = st at *
    obtain ⟨x1, num, x3⟩ := x
    simp only at hka
    rcases hka with rfl | rfl | rfl | rfl
    · go_enter Try.func32, Try.ntmps32
      go_wp2_with (go_at_call 47; refine hask.mono ?_; rintro e w2 ⟨rfl, ro2, h2', k2'⟩; have h2 : Hid _ := h2'; have k2 : Hid _ := k2'; clear h2' k2')
      go_ret
      exact ⟨rfl, ro2, h2.out, (Kept.of B1.out).trans k2.out⟩
    · go_enter Try.func32, Try.ntmps32
      go_wp2_with (go_at_call 47; refine hask.mono ?_; rintro e w2 ⟨rfl, ro2, h2', k2'⟩; have h2 : Hid _ := h2'; have k2 : Hid _ := k2'; clear h2' k2')
      go_ret
      exact ⟨rfl, ro2, h2.out, (Kept.of B1.out).trans k2.out⟩
    · go_enter Try.func32, Try.ntmps32
      go_wp2_with (go_at_call 47; refine hask.mono ?_; rintro e w2 ⟨rfl, ro2, h2', k2'⟩; have h2 : Hid _ := h2'; have k2 : Hid _ := k2'; clear h2' k2')
      go_ret
      exact ⟨rfl, ro2, h2.out, (Kept.of B1.out).trans k2.out⟩
    · go_enter Try.func32, Try.ntmps32
      go_wp2_with (go_at_call 47; refine hask.mono ?_; rintro e w2 ⟨rfl, ro2, h2', k2'⟩; have h2 : Hid _ := h2'; have k2 : Hid _ := k2'; clear h2' k2')
      go_ret
      exact ⟨rfl, ro2, h2.out, (Kept.of B1.out).trans k2.out⟩
  · by_cases hkf : x.1 = 2 ∨ x.1 = 4 ∨ x.1 = 5 ∨ x.1 = 8
    · have hfr := pk_freeR h1 hR hB.iv hS hk hi hb hp hx ho hkf
      clear h hB h1 hR hS hk hb ho
      generalize stR T L i = st at *
      obtain ⟨x1, num, x3⟩ := x
      simp only at hkf
      clear hx
      rcases hkf with rfl | rfl | rfl | rfl
      · go_enter Try.func32, Try.ntmps32
        go_wp2_with (first
          | (go_at_call 29; refine Calls.mono HGO.out ?_; rintro e w5 ⟨rfl, h5', k5'⟩; have h5 : Hid _ := h5'; have k5 : Hid _ := k5'; clear h5' k5')
          | (go_at_call 48; refine hfr.mono ?_; rintro e w2 ⟨rfl, ro2, T2, h2', ⟨hT2, t1, t2, t3, t4'⟩, k2'⟩; have t4 : Hid _ := t4'; have h2 : Hid _ := h2'; have k2 : Hid _ := k2'; clear h2' k2' t4'; obtain ⟨c0, c1, hn⟩ := both_cells h2.out hT2 t1; have HGO : Hid _ := both_go h2.out hT2 t1; have hpp : T2[i].pos < 65536 := (by rw [t2]; omega); clear t1 t2 t3))
        go_ret
        refine ⟨rfl, ro2, ?_, (Kept.of B1.out).trans (k2.out.trans k5.out)⟩
        rw [t4.out]
        exact h5.out
      · go_enter Try.func32, Try.ntmps32
        go_wp2_with (first
          | (go_at_call 29; refine Calls.mono HGO.out ?_; rintro e w5 ⟨rfl, h5', k5'⟩; have h5 : Hid _ := h5'; have k5 : Hid _ := k5'; clear h5' k5')
          | (go_at_call 48; refine hfr.mono ?_; rintro e w2 ⟨rfl, ro2, T2, h2', ⟨hT2, t1, t2, t3, t4'⟩, k2'⟩; have t4 : Hid _ := t4'; have h2 : Hid _ := h2'; have k2 : Hid _ := k2'; clear h2' k2' t4'; obtain ⟨c0, c1, hn⟩ := both_cells h2.out hT2 t1; have HGO : Hid _ := both_go h2.out hT2 t1; have hpp : T2[i].pos < 65536 := (by rw [t2]; omega); clear t1 t2 t3))
        go_ret
        refine ⟨rfl, ro2, ?_, (Kept.of B1.out).trans (k2.out.trans k5.out)⟩
        rw [t4.out]
        exact h5.out
      · go_enter Try.func32, Try.ntmps32
        go_wp2_with (first
          | (go_at_call 29; refine Calls.mono HGO.out ?_; rintro e w5 ⟨rfl, h5', k5'⟩; have h5 : Hid _ := h5'; have k5 : Hid _ := k5'; clear h5' k5')
          | (go_at_call 48; refine hfr.mono ?_; rintro e w2 ⟨rfl, ro2, T2, h2', ⟨hT2, t1, t2, t3, t4'⟩, k2'⟩; have t4 : Hid _ := t4'; have h2 : Hid _ := h2'; have k2 : Hid _ := k2'; clear h2' k2' t4'; obtain ⟨c0, c1, hn⟩ := both_cells h2.out hT2 t1; have HGO : Hid _ := both_go h2.out hT2 t1; have hpp : T2[i].pos < 65536 := (by rw [t2]; omega); clear t1 t2 t3))
        go_ret
        refine ⟨rfl, ro2, ?_, (Kept.of B1.out).trans (k2.out.trans k5.out)⟩
        rw [t4.out]
        exact h5.out
      · go_enter Try.func32, Try.ntmps32
        go_wp2_with (first
          | (go_at_call 29; refine Calls.mono HGO.out ?_; rintro e w5 ⟨rfl, h5', k5'⟩; have h5 : Hid _ := h5'; have k5 : Hid _ := k5'; clear h5' k5')
          | (go_at_call 48; refine hfr.mono ?_; rintro e w2 ⟨rfl, ro2, T2, h2', ⟨hT2, t1, t2, t3, t4'⟩, k2'⟩; have t4 : Hid _ := t4'; have h2 : Hid _ := h2'; have k2 : Hid _ := k2'; clear h2' k2' t4'; obtain ⟨c0, c1, hn⟩ := both_cells h2.out hT2 t1; have HGO : Hid _ := both_go h2.out hT2 t1; have hpp : T2[i].pos < 65536 := (by rw [t2]; omega); clear t1 t2 t3))
        go_ret
        refine ⟨rfl, ro2, ?_, (Kept.of B1.out).trans (k2.out.trans k5.out)⟩
        rw [t4.out]
        exact h5.out
    · by_cases h9 : x.1 = 9
      · have est := stR_yield (L := L) i hi hb hp x hx h9
        rw [est]
        obtain ⟨c0, c1, hn⟩ := both_cells hB hi hb
        have HGO : Hid _ := both_go hB hi hb
        clear h hB h1 hR hS hk ho est hka hkf
        obtain ⟨x1, num, x3⟩ := x
        simp only at h9
        subst h9
        clear hx
        have hpp : T[i].pos < 65536 := by omega
        clear hp
        go_enter Try.func32, Try.ntmps32
        go_wp2_with (go_at_call 29; refine Calls.mono HGO.out ?_; rintro e w5 ⟨rfl, h5', k5'⟩; have h5 : Hid _ := h5'; have k5 : Hid _ := k5'; clear h5' k5')
        go_ret
        exact ⟨rfl, ro, h5.out, (Kept.of B1.out).trans k5.out⟩
      · have est := stR_no (L := L) i hi hb hp x hx (Or.inl ⟨by unfold nmK; rw [if_neg (by omega), if_neg (by omega), if_neg (by omega), if_neg (by omega)], h9⟩)
        rw [est]
        obtain ⟨c0, c1, hn⟩ := both_cells hB hi hb
        have HGO : Hid _ := both_go hB hi hb
        have q1 : (x.1 == 1) = false := beq_eq_false_iff_ne.2 (by omega)
        have q2 : (x.1 == 2) = false := beq_eq_false_iff_ne.2 (by omega)
        have q3 : (x.1 == 3) = false := beq_eq_false_iff_ne.2 (by omega)
        have q4 : (x.1 == 4) = false := beq_eq_false_iff_ne.2 (by omega)
        have q5 : (x.1 == 5) = false := beq_eq_false_iff_ne.2 (by omega)
        have q6 : (x.1 == 6) = false := beq_eq_false_iff_ne.2 (by omega)
        have q7 : (x.1 == 7) = false := beq_eq_false_iff_ne.2 (by omega)
        have q8 : (x.1 == 8) = false := beq_eq_false_iff_ne.2 (by omega)
        have q9 : (x.1 == 9) = false := beq_eq_false_iff_ne.2 h9
        clear h hB h1 hR hS hk ho est hka hkf h9
        obtain ⟨x1, num, x3⟩ := x
        clear hx
        have hpp : T[i].pos < 65536 := by omega
        clear hp
        go_enter Try.func32, Try.ntmps32
        go_wp2_with (go_at_call 29; refine Calls.mono HGO.out ?_; rintro e w5 ⟨rfl, h5', k5'⟩; have h5 : Hid _ := h5'; have k5 : Hid _ := k5'; clear h5' k5')
        go_ret
        exact ⟨rfl, ro, h5.out, (Kept.of B1.out).trans k5.out⟩
end
end Go.Proofs.Ythhlglbohibekaa
namespace Go.Proofs.Ythhlglbohibekaa
open Go.RowKit

section
variable {w w' w1 : World} {base : Nat} {ro ro' : Nat → Option Who} {y : Lay} {tv : List Tv} {od : List Nat} {P : List Pk} {fR fB : Nat → Bool} {L L' : List (Int × Ob)} {T T' : List Tk} {out : Option Nat}
theorem Both.keep (h : Both w base ro y out T L) (hs : w.heap.size ≤ w'.heap.size) (hk : ∀ b, ro b ≠ none → w'.heap[b]? = w.heap[b]?) : Both w' base ro y out T L := by
  obtain ⟨tv, od, P, fR, fB, h1, hR⟩ := h.ex
  exact ⟨⟨tv, od, P, fR, fB, h1.keep hs hk, hR⟩, h.iv⟩
theorem inF_rdB (h : PkAt w base ro y tv od P fR fB L) (hR : Rel none T P fR fB) (z : Int) : inF fR z = rdB T z := by
  unfold inF rdB
  by_cases hz : 0 ≤ z
  · rw [decide_eq_true hz, Bool.true_and, Bool.true_and]
    by_cases hl : z.toNat < T.length
    · rw [List.getElem?_eq_getElem hl, hR.fr _ hl]
      simp
    · rw [List.getElem?_eq_none (by omega)]
      cases hf : fR z.toNat with
      | false => rfl
      | true =>
        have := h.lR _ hf
        rw [hR.ln] at this
        omega
  · rw [decide_eq_false hz, Bool.false_and, Bool.false_and]
theorem Rel.turn (hR : Rel none T P fR fB) (i : Nat) : Rel (some i) T P (setF fR i false) fB := by
  refine ⟨hR.ln, hR.op, hR.fb, hR.ps, hR.pb, fun j hj => ?_⟩
  by_cases e : j = i
  · subst e
    rw [setF_same]
    simp
  · rw [setF_ne _ _ _ _ e, hR.fr j hj]
    rw [decide_eq_true (by simp), decide_eq_true (by simpa using fun e2 => e e2.symm)]
set_option maxHeartbeats 6400000 in
set_option maxRecDepth 100000 in
theorem pk_step_no (h : PkAt w base ro y tv od P fR fB L) (hR : Rel none T P fR fB) (z : Int) (hz : rdB T z = false) : Calls Try.prog 13 #[.pointer (some ⟨y.D, 0, none⟩), .int .i64 z] w fun e w' => e = .returned (.tuple #[.agg #[.int .i64 0, .int .i64 0, .int .i64 0], .int .i64 1]) ∧ Below w.heap.size w w' := by
  obtain ⟨c0, c1, c2, c3, hD⟩ := h.cells
  have B1 : Hid _ := (Below.refl _ w).alloc (Nat.le_refl _) (.cells #[.int .i64 0, .int .i64 0, .int .i64 0] 32)
  have R1 : Hid _ := heap_alloc_new w (.cells #[.int .i64 0, .int .i64 0, .int .i64 0] 32)
  have hh := cr_has (h.fresh B1.out).cr h.zR.2 z (fun x hx => Nat.lt_of_lt_of_le (h.lR x hx) h.zR.1)
  rw [inF_rdB h hR z, hz] at hh
  unfold crV at hh
  clear h hR hz
  go_enter Try.func13, Try.ntmps13
  go_wp2_with (first
    | (show wpList _ _ _ (⟨_, Op.store 32 _ _, _, _, _, _⟩ :: _) _ _; refine store_row_g rfl 32 _ _ rfl w.heap.size #[.int .i64 0, .int .i64 0, .int .i64 0] rfl rfl 32 #[.int .i64 0, .int .i64 0, .int .i64 0] hR2 infoE rfl (by simp [Value.oneCell']) ?_; intro wE hE gE)
    | (go_at_call 30; refine hh.mono ?_; rintro e w2 ⟨rfl, b2⟩; have hR2 := (b2.block w.heap.size (by simp)).trans R1.out))
  refine bodyPost_ret (results_ev Try.results13 _ _ w.heap.size _ rfl hE rfl) rfl ?_
  have hB : Below w.heap.size w wE := (bmm B1.out B1.out.size b2).grown gE (by have := b2.size; simp at this; omega) (fun q hq => by rw [← Option.some.inj hq]; exact Nat.le_refl _)
  exact ⟨rfl, hB⟩
set_option maxHeartbeats 6400000 in
set_option maxRecDepth 100000 in
theorem pk_step_yes {k i : Nat} (h : PkAt w base ro y tv od P fR fB L) (hR : Rel none T P fR fB) (hI : Inv T L) (hS : StOk k T L) (hk : k < 65535) (hi : i < T.length) (hb : T[i].bl = false) (hp : T[i].pos < T[i].ops.length) (ho : okI T[i].ops[T[i].pos].2.1 ∧ okI T[i].ops[T[i].pos].2.2) : Calls Try.prog 13 #[.pointer (some ⟨y.D, 0, none⟩), .int .i64 (i : Int)] w fun e w' => e = .returned (.tuple #[.agg #[.int .i64 (i : Int), .int .i64 (T[i].pos : Int), .int .i64 (stR T L i).1.2.2], .int .i64 0]) ∧ ∃ ro', Both w' base ro' y none (stR T L i).2.1 (stR T L i).2.2 ∧ Kept w w' (fun b => ro b ≠ none) (fun b => ro' b ≠ none) := by
  obtain ⟨c0, c1, c2, c3, hD⟩ := h.cells
  have hn : P.length ≤ 65536 := Nat.le_trans h.zR.1 h.zR.2
  have hP : i < P.length := by rw [hR.ln]; exact hi
  have hrd : fR i = true := by
    rw [hR.fr i hi]
    unfold tkR
    simp [hb, hp]
  have B1 : Hid _ := (Below.refl _ w).alloc (Nat.le_refl _) (.cells #[.int .i64 0, .int .i64 0, .int .i64 0] 32)
  have R1 : Hid _ := heap_alloc_new w (.cells #[.int .i64 0, .int .i64 0, .int .i64 0] 32)
  have hh := cr_has (h.fresh B1.out).cr h.zR.2 (i : Int) (fun x hx => Nat.lt_of_lt_of_le (h.lR x hx) h.zR.1)
  have hin : inF fR (i : Int) = true := by
    unfold inF
    rw [Int.toNat_natCast, hrd, decide_eq_true (by omega)]
    rfl
  rw [hin] at hh
  unfold crV at hh
  have HLV : Hid (∀ w2, Below w.heap.size w w2 → Calls Try.prog 31 #[.agg #[.slice (some ⟨y.bR, 0, none⟩) (2 * 2 ^ y.dR) (2 * 2 ^ y.dR)], .int .i64 (i : Int)] w2 fun e w' => e = .returned (.tuple #[]) ∧ PkAt w' base ro y tv od P (setF fR i false) fB L ∧ Kept w2 w' (fun b => ro b ≠ none) (fun b => ro b ≠ none)) := fun w2 b2 => pk_leaveR (h.fresh b2) i hP hrd
  have hrow := h.op i (by rw [h.tl]; exact hP) hP
  have HOP : Hid (∀ w3, PkAt w3 base ro y tv od P (setF fR i false) fB L → ∃ bo oo co, w3.cell? ⟨y.bT, i * 3, none⟩ = some (.slice (some ⟨bo, oo, none⟩) T[i].ops.length co) ∧ w3.cell? ⟨y.bT, i * 3 + 1, none⟩ = some (.int .i64 (T[i].pos : Int)) ∧ w3.cell? ⟨bo, oo + T[i].pos * 3, none⟩ = some (.int .i64 T[i].ops[T[i].pos].1) ∧ w3.cell? ⟨bo, oo + T[i].pos * 3 + 1, none⟩ = some (.int .i64 T[i].ops[T[i].pos].2.1) ∧ w3.cell? ⟨bo, oo + T[i].pos * 3 + 2, none⟩ = some (.int .i64 T[i].ops[T[i].pos].2.2)) := fun w3 h3 => by
    obtain ⟨ao, co, ar, cr, ⟨hit, et⟩, z0, z1, _⟩ := h3.task i hP
    have hr := (h3.op i hit hP).1
    have e1 : tv[i].1 = .slice ao P[i].ops.length co := congrArg Prod.fst et
    have e2 := (hR.op i hi hP).1
    have e3 := hR.ps i hi hP hb
    rw [e1, e2] at hr
    rw [e2] at z0
    rw [e3] at z1
    obtain ⟨bo, oo, co', e, _, _, hx⟩ := hr.cells opC_len (by omega)
    simp only [Value.slice.injEq] at e
    obtain ⟨rfl, _, rfl⟩ := e
    exact ⟨bo, oo, co, z0, z1, hx _ hp 0 _ (by decide) rfl, hx _ hp 1 _ (by decide) rfl, hx _ hp 2 _ (by decide) rfl⟩
  have HDO : Hid (∀ w3, PkAt w3 base ro y tv od P (setF fR i false) fB L → Calls Try.prog 32 #[.pointer (some ⟨y.D, 0, none⟩), .int .i64 (i : Int), .agg #[.int .i64 T[i].ops[T[i].pos].1, .int .i64 T[i].ops[T[i].pos].2.1, .int .i64 T[i].ops[T[i].pos].2.2]] w3 fun e w' => e = .returned (.int .i64 (stR T L i).1.2.2) ∧ ∃ ro', Both w' base ro' y none (stR T L i).2.1 (stR T L i).2.2 ∧ Kept w3 w' (fun b => ro b ≠ none) (fun b => ro' b ≠ none)) := fun w3 h3 => pk_do ⟨⟨_, _, _, _, _, h3, hR.turn i⟩, hI⟩ hS hk hi hb hp rfl ho
  have HRN : Hid (∀ b, ro b ≠ none → b < w.heap.size) := h.lt
  have hq := (hS.tk.at hi).1
  have hpl : P.length = T.length := hR.ln
  clear h hR hI hS hk hin hrd ho hrow hb
  rw [hpl] at c0 hn
  generalize hxo : T[i].ops[T[i].pos] = x at *
  obtain ⟨x1, num, x3⟩ := x
  have hpos : T[i].pos < 65536 := by omega
  generalize hst : stR T L i = st at *
  clear hst hxo
  go_enter Try.func13, Try.ntmps13
  go_wp2_with (first
    | (show wpList _ _ _ (⟨_, Op.store 32 _ _, _, _, _, _⟩ :: _) _ _; refine store_row_g rfl 32 _ _ rfl w.heap.size #[.int .i64 (i : Int), .int .i64 (T[i].pos : Int), .int .i64 st.1.2.2] rfl rfl 32 #[.int .i64 0, .int .i64 0, .int .i64 0] hR4 infoE rfl (by simp [Value.oneCell']) ?_; intro wE hE gE)
    | (go_at_call 32; refine (HDO.out w3 h3.out).mono ?_; rintro e w4 ⟨rfl, ro4, h4', k4'⟩; have h4 : Hid _ := h4'; have k4 : Hid _ := k4'; have hR4 := (k4'.kept w.heap.size (lt_of_block hR3) (fun e => (by have := HRN.out _ e; omega))).trans hR3; have hl3 := lt_of_block hR3; clear h4' k4')
    | (go_at_call 31; refine (HLV.out w2 (bmm B1.out B1.out.size b2)).mono ?_; rintro e w3 ⟨rfl, h3', k3'⟩; have h3 : Hid _ := h3'; have k3 : Hid _ := (Kept.of (bmm B1.out B1.out.size b2)).trans k3'; have hR3 := (k3'.kept w.heap.size (lt_of_block hR2) (fun e => (by have := HRN.out _ e; omega))).trans hR2; clear h3' k3'; obtain ⟨d0, _, _, _, hD3⟩ := h3.out.cells; rw [hpl] at d0; obtain ⟨bo, oo, co, y0, y1, y2, y3, y4⟩ := HOP.out w3 h3.out)
    | (go_at_call 30; refine hh.mono ?_; rintro e w2 ⟨rfl, b2⟩; have hR2 := (b2.block w.heap.size (by simp)).trans R1.out; have d1 := ((bmm B1.out B1.out.size b2).cell (p := ⟨y.D, 1, none⟩) (by exact hD)).trans c1))
  refine bodyPost_ret (results_ev Try.results13 _ _ w.heap.size _ rfl hE rfl) rfl ?_
  have hno : ro4 w.heap.size = none := by
    apply Classical.byContradiction
    intro hc
    rcases k4.out.old _ hc with h9 | h9
    · have := HRN.out _ h9
      omega
    · omega
  refine ⟨rfl, ro4, h4.out.keep gE.size (fun b hb => ?_), ?_⟩
  · obtain ⟨_, _, _, _, _, h9, _⟩ := h4.out.ex
    exact gE.block b (h9.lt b hb) (fun e => hb (by rw [Option.some.inj e]; exact hno))
  · have k9 := k3.out.trans k4.out
    exact ⟨gE.os.trans k9.os, gE.tape.trans k9.tape, gE.output.trans k9.output, Nat.le_trans k9.size gE.size, k9.old, fun b hb hn => (gE.block b (Nat.lt_of_lt_of_le hb k9.size) (fun e => by have := Option.some.inj e; omega)).trans (k9.kept b hb hn)⟩
end
end Go.Proofs.Ythhlglbohibekaa
namespace Go.Proofs.Ythhlglbohibekaa
open Go.RowKit

def opOk (T : List Tk) : Prop := ∀ t ∈ T, ∀ x ∈ t.ops, okI x.1 ∧ okI x.2.1 ∧ okI x.2.2
structure PSk (w : World) (base D : Nat) (S : Nat → Prop) (k : Nat) (T : List Tk) (L : List (Int × Ob)) : Prop where
  ex : ∃ ro y, y.D = D ∧ Both w base ro y none T L ∧ ∀ b, S b ↔ ro b ≠ none
  ok : StOk k T L
  op : opOk T
def opsOk (ts : List (List Opx)) : Prop := ∀ o ∈ ts, ∀ x ∈ o, okI x.1 ∧ okI x.2.1 ∧ okI x.2.2
theorem opOk_of {T T' : List Tk} (h : opOk T) (e : opsL T' = opsL T) : opOk T' := fun t ht x hx => by
  have h1 : t.ops ∈ opsL T' := List.mem_map.2 ⟨t, ht, rfl⟩
  rw [e] at h1
  obtain ⟨t2, h2, h3⟩ := List.mem_map.1 h1
  exact h t2 h2 x (by rw [h3]; exact hx)
theorem filter_upto (p : Tk → Bool) (f : Nat → Bool) : ∀ (T : List Tk) (k : Nat) (m : Nat), T.length ≤ m → (∀ i (h : i < T.length), f (k + i) = p T[i]) → (∀ i, T.length ≤ i → f (k + i) = false) → natL ((List.range' k m).filter f) = upto p k T
  | [], k, m, _, _, h2 => by
    have e : (List.range' k m).filter f = [] := by
      rw [List.filter_eq_nil_iff]
      intro a ha
      obtain ⟨i, hi, rfl⟩ := List.mem_range'.1 ha
      have := h2 i (Nat.zero_le _)
      rw [show k + 1 * i = k + i by omega, this]
      simp
    rw [e]
    rfl
  | t :: T, k, 0, hm, _, _ => by simp at hm
  | t :: T, k, m + 1, hm, h1, h2 => by
    have ih := filter_upto p f T (k + 1) m (by simpa using hm) (fun i hi => by
      have := h1 (i + 1) (by simpa using hi)
      rw [show k + 1 + i = k + (i + 1) by omega, this]
      rfl) (fun i hi => by
      have := h2 (i + 1) (by simpa using hi)
      rw [show k + 1 + i = k + (i + 1) by omega]
      exact this)
    have h0 : f k = p t := h1 0 (by simp)
    rw [List.range'_succ, List.filter_cons, upto]
    cases hp : p t with
    | true =>
      rw [h0, hp, if_pos rfl, if_pos rfl, ← ih]
      rfl
    | false =>
      rw [h0, hp, if_neg (by decide), if_neg (by decide), ← ih]
section
variable {w w' : World} {base base' D : Nat} {S S' : Nat → Prop} {k : Nat} {T : List Tk} {L : List (Int × Ob)} {ro : Nat → Option Who} {y : Lay} {tv : List Tv} {od : List Nat} {P : List Pk} {fR fB : Nat → Bool}
theorem ready_list (h : PkAt w base ro y tv od P fR fB L) (hR : Rel none T P fR fB) : natL (lvN fR y.dR 0) = readyL T := by
  rw [lvN_all, List.range_eq_range']
  refine filter_upto tkR fR T 0 _ (by rw [← hR.ln]; exact h.zR.1) (fun i hi => ?_) (fun i hi => ?_)
  · rw [Nat.zero_add, hR.fr i hi]
    simp
  · rw [Nat.zero_add]
    cases hf : fR i with
    | false => rfl
    | true =>
      have := h.lR i hf
      rw [hR.ln] at this
      omega
theorem blocked_list (h : PkAt w base ro y tv od P fR fB L) (hR : Rel none T P fR fB) : natL (lvN fB y.dB 0) = blockedL T := by
  rw [lvN_all, List.range_eq_range']
  refine filter_upto (fun t => t.bl) fB T 0 _ (by rw [← hR.ln]; exact h.zB.1) (fun i hi => ?_) (fun i hi => ?_)
  · rw [Nat.zero_add, hR.fb i hi]
  · rw [Nat.zero_add]
    cases hf : fB i with
    | false => rfl
    | true =>
      have := h.lB i hf
      rw [hR.ln] at this
      omega
theorem upto_nil (p : Tk → Bool) : ∀ (T : List Tk) (k : Nat), upto p k T = [] ↔ ∀ t ∈ T, p t = false
  | [], k => by simp [upto]
  | t :: T, k => by
    rw [upto]
    cases hp : p t with
    | true => simp [hp]
    | false =>
      have := upto_nil p T (k + 1)
      simp [hp, this]
theorem ended_is (T : List Tk) : decide ((readyL T).length = 0 ∧ (blockedL T).length = 0) = endedB T := by
  have h1 : (readyL T).length = 0 ↔ ∀ t ∈ T, tkR t = false := by
    rw [List.length_eq_zero_iff]
    exact upto_nil tkR T 0
  have h2 : (blockedL T).length = 0 ↔ ∀ t ∈ T, t.bl = false := by
    rw [List.length_eq_zero_iff]
    exact upto_nil (fun t => t.bl) T 0
  rw [Bool.eq_iff_iff, decide_eq_true_iff]
  unfold endedB
  rw [List.all_eq_true, h1, h2]
  constructor
  · intro ⟨g1, g2⟩ t ht
    have a1 := g1 t ht
    have a2 := g2 t ht
    unfold tkR at a1
    simp only [a2] at a1 ⊢
    simpa using a1
  · intro g
    refine ⟨fun t ht => ?_, fun t ht => ?_⟩
    · have := g t ht
      rw [Bool.and_eq_true] at this
      unfold tkR
      rw [this.1]
      simpa using this.2
    · have := g t ht
      rw [Bool.and_eq_true] at this
      simpa using this.1
theorem PSk.sD (h : PSk w base D S k T L) : S D := by
  obtain ⟨ro, y, e, ⟨⟨_, _, _, _, _, h1, _⟩, _⟩, h3⟩ := h.ex
  rw [h3, ← e, h1.s0]
  simp
theorem PSk.bd (h : PSk w base D S k T L) : ∀ b, S b → base ≤ b ∧ b < w.heap.size := fun b hb => by
  obtain ⟨ro, y, e, ⟨⟨_, _, _, _, _, h1, _⟩, _⟩, h3⟩ := h.ex
  exact h1.bd b ((h3 b).1 hb)
theorem PSk.keep (h : PSk w base D S k T L) (hs : w.heap.size ≤ w'.heap.size) (hk : ∀ b, S b → w'.heap[b]? = w.heap[b]?) : PSk w' base D S k T L := by
  obtain ⟨ro, y, e, h1, h3⟩ := h.ex
  exact ⟨⟨ro, y, e, h1.keep hs (fun b hb => hk b ((h3 b).2 hb)), h3⟩, h.ok, h.op⟩
theorem PSk.low (h : PSk w base D S k T L) (hb : base' ≤ base) : PSk w base' D S k T L := by
  obtain ⟨ro, y, e, ⟨⟨tv, od, P, fR, fB, h1, hR⟩, hI⟩, h3⟩ := h.ex
  exact ⟨⟨ro, y, e, ⟨⟨tv, od, P, fR, fB, h1.low hb, hR⟩, hI⟩, h3⟩, h.ok, h.op⟩
theorem ps_Ready (h : PSk w base D S k T L) : Calls Try.prog 16 #[.pointer (some ⟨D, 0, none⟩)] w fun e w' => ∃ u, e = .returned u ∧ RowAt intC w' u (readyL T) ∧ Below w.heap.size w w' := by
  obtain ⟨ro, y, e, ⟨⟨tv, od, P, fR, fB, h1, hR⟩, hI⟩, h3⟩ := h.ex
  rw [← ready_list h1 hR, ← e]
  exact pk_Ready h1
theorem ps_Blocked (h : PSk w base D S k T L) : Calls Try.prog 18 #[.pointer (some ⟨D, 0, none⟩)] w fun e w' => ∃ u, e = .returned u ∧ RowAt intC w' u (blockedL T) ∧ Below w.heap.size w w' := by
  obtain ⟨ro, y, e, ⟨⟨tv, od, P, fR, fB, h1, hR⟩, hI⟩, h3⟩ := h.ex
  rw [← blocked_list h1 hR, ← e]
  exact pk_Blocked h1
theorem ps_Ended (h : PSk w base D S k T L) : Calls Try.prog 20 #[.pointer (some ⟨D, 0, none⟩)] w fun e w' => e = .returned (.bool (endedB T)) ∧ Below w.heap.size w w' := by
  obtain ⟨ro, y, e, ⟨⟨tv, od, P, fR, fB, h1, hR⟩, hI⟩, h3⟩ := h.ex
  rw [← ended_is, ← ready_list h1 hR, ← blocked_list h1 hR, natL_len, natL_len, lvN_len, lvN_len, ← e]
  exact pk_Ended h1
theorem ps_step (h : PSk w base D S k T L) (z : Int) (_hz : okI z) (hk : k < 65535) : Calls Try.prog 13 #[.pointer (some ⟨D, 0, none⟩), .int .i64 z] w fun e w' => e = .returned (.tuple #[.agg #[.int .i64 (spR T L z).1.1, .int .i64 (spR T L z).1.2.1, .int .i64 (spR T L z).1.2.2], .int .i64 (spR T L z).2.1]) ∧ ∃ S', PSk w' base D S' (k + 1) (spR T L z).2.2.1 (spR T L z).2.2.2 ∧ Kept w w' S S' := by
  obtain ⟨ro, y, e, ⟨⟨tv, od, P, fR, fB, h1, hR⟩, hI⟩, h3⟩ := h.ex
  have hS3 : S = fun b => ro b ≠ none := funext (fun b => propext (h3 b))
  subst e
  cases hrd : rdB T z with
  | false =>
    have es : spR T L z = ((0, 0, 0), 1, T, L) := by unfold spR; rw [hrd]; rfl
    rw [es]
    refine (pk_step_no h1 hR z hrd).mono ?_
    rintro e w2 ⟨rfl, b2⟩
    exact ⟨rfl, S, ⟨⟨ro, y, rfl, ⟨⟨_, _, _, _, _, h1.fresh b2, hR⟩, hI⟩, h3⟩, h.ok.mono (Nat.le_succ _), h.op⟩, Kept.of b2⟩
  | true =>
    have es : spR T L z = ((stR T L z.toNat).1, 0, (stR T L z.toNat).2.1, (stR T L z.toNat).2.2) := by unfold spR; rw [if_pos hrd]
    obtain ⟨i, rfl, hi, hb, hp⟩ := rdB_at hrd
    rw [es, Int.toNat_natCast]
    obtain ⟨s1, s2⟩ := stR_ok h.ok i
    have e3 : (stR T L i).1.1 = (i : Int) ∧ (stR T L i).1.2.1 = (T[i].pos : Int) := by rw [stR_eq i hi hp]; exact ⟨rfl, rfl⟩
    simp only [e3.1, e3.2]
    have ho := h.op T[i] (List.getElem_mem hi) T[i].ops[T[i].pos] (List.getElem_mem hp)
    refine (pk_step_yes h1 hR hI h.ok hk hi hb hp ho.2).mono ?_
    rintro e w2 ⟨rfl, ro2, h2, k2⟩
    refine ⟨rfl, fun b => ro2 b ≠ none, ⟨⟨ro2, y, rfl, h2, fun b => Iff.rfl⟩, s1, opOk_of h.op s2⟩, ?_⟩
    rw [hS3]
    exact k2
end
end Go.Proofs.Ythhlglbohibekaa
namespace Go.Proofs.Ythhlglbohibekaa
open Go.RowKit

theorem infoOp : (Try.prog.info? 45).map (fun i => (i.zero, i.size, i.bytes)) = some (some (.agg #[.int .i64 0, .int .i64 0, .int .i64 0]), 3, 24) := by kernel_rfl
theorem opC_one' (x : Opx) : ∀ u ∈ opC x, u.oneCell' = true := fun u hu => by
  unfold opC at hu
  simp only [List.mem_cons, List.not_mem_nil, or_false] at hu
  rcases hu with rfl | rfl | rfl
  · rfl
  · rfl
  · rfl
def Blk (u : Value) (b : Nat) : Prop := ∃ off n cap, 0 < n ∧ u = .slice (some ⟨b, off, none⟩) n cap
section
variable {w w' w1 : World} {base : Nat} {ro ro' : Nat → Option Who} {y : Lay} {tv : List Tv} {od : List Nat} {P : List Pk} {fR fB : Nat → Bool} {L : List (Int × Ob)}
set_option maxHeartbeats 6400000 in
set_option maxRecDepth 100000 in
theorem clone_ops {v : Value} {l : List Opx} (h : RowAt opC w v l) (hl : l.length ≤ 65536) : Calls Try.prog 28 #[v] w fun e w' => ∃ u, e = .returned u ∧ RowAt opC w' u l ∧ (∀ b, Blk u b → w.heap.size ≤ b) ∧ Below w.heap.size w w' := by
  obtain ⟨i0, hi, hz0, hz1, hz2⟩ := info_parts infoOp
  obtain ⟨a, cap, rfl, h1, h2, h3⟩ := h.ex
  cases a with
  | none =>
    obtain ⟨e0, rfl⟩ := h2 rfl
    obtain rfl : l = [] := List.eq_nil_of_length_eq_zero e0
    have heq : ∀ w, (binOp .eql 47 (.slice none 0 0) (.slice none 0 0)).run Try.prog w = .ok (.bool true) w := fun _ => by kernel_rfl
    have HR : Hid (RowAt opC w (.slice none 0 0) []) := h
    have eL : ([] : List Opx).length = 0 := rfl
    rw [eL]
    clear h h1 h2 h3 hl e0 eL
    go_enter Try.func28, Try.ntmps28
    go_wp2
    go_ret
    exact ⟨.slice none 0 0, rfl, HR.out, fun b ⟨off, n, c, _, e⟩ => (by simp at e), Below.refl _ _⟩
  | some a =>
    have heq : ∀ w, (binOp .eql 47 (.slice (some a) l.length cap) (.slice none 0 0)).run Try.prog w = .ok (.bool false) w := fun _ => by kernel_rfl
    have HR : Hid (RowAt opC (w.alloc (.cells #[] 45)) (.slice (some a) l.length cap) l) := h.fresh ((Below.refl _ w).alloc (Nat.le_refl _) _)
    have hown : (w.alloc (.cells #[] 45)).ownsRow w.heap.size 45 3 (.slice (some ⟨w.heap.size, 0, none⟩) 0 0) 0 [] := ⟨rfl, Or.inr ⟨w.heap.size, 0, #[], rfl, Nat.le_refl _, heap_alloc_new w _, Nat.le_refl _, Nat.zero_le _, rfl, rfl⟩⟩
    have HO : Hid (World.ownsRow (w.alloc (.cells #[] 45)) w.heap.size 45 3 (.slice (some ⟨w.heap.size, 0, none⟩) 0 0) 0 []) := hown
    have HB : Hid _ := (Below.refl _ w).alloc (Nat.le_refl _) (.cells #[] 45)
    clear h h1 h2 h3 hown
    go_enter Try.func28, Try.ntmps28
    go_wp2_with (at_builtin; refine wpList_app_row (k := 3) (enc := opC) (l := l) rfl (.tmp 5) (.tmp 6) 47 45 rfl i0 _ 24 Try.underlying47 hi hz0 hz1 hz2 rfl (by decide) opC_len opC_one' (base := w.heap.size) (n := 0) (xs := []) rfl rfl HO.out HR.out (by simp) (by omega) (by omega) ?_; intro u2 w2 h2' d2; have h2 : Hid _ := h2'; clear h2'; obtain ⟨p2, n2, c2, rfl⟩ := own_form h2.out)
    go_ret
    have h3 := h2.out
    rw [Nat.zero_add, List.nil_append] at h3
    refine ⟨.slice p2 n2 c2, rfl, RowAt.own (k := 3) (T := 45) (base := w.heap.size) opC_len h3, fun b ⟨off, n, c, _, e⟩ => ?_, HB.out.trans d2.below⟩
    rw [e] at h3
    exact (World.ownsRow.lt h3 b rfl).1
theorem PkAt.setOps (h : PkAt w base ro y tv od P fR fB L) (i : Nat) (hi : i < P.length) (hit : i < tv.length) (u : Value) (r : List Opx) (hu : RowAt opC w1 u r) (hn : ∀ b, Blk u b → w.heap.size ≤ b) (b1 : Below w.heap.size w w1) :
    ∃ ro', PkAt (w1.setCell ⟨y.bT, i * 3, none⟩ u) base ro' y (tv.set i (u, tv[i].2)) od (P.set i { P[i] with ops := r }) fR fB L ∧ Kept w (w1.setCell ⟨y.bT, i * 3, none⟩ u) (fun b => ro b ≠ none) (fun b => ro' b ≠ none) := by
  have hbl : ∀ b, Blk u b → b < w1.heap.size := fun b ⟨off, n, c, h0, e⟩ => hu.lt h0 e
  have kA : Kept w w1 (fun b => ro b = some (1, 0)) (fun b => ro b = some (1, 0) ∨ Blk u b) := ⟨b1.os, b1.tape, b1.output, b1.size, fun b hb => hb.imp id (hn b), fun b hb _ => b1.block b hb⟩
  have FA := Fr.turn h.lt kA
  have hT1 : roT ro (1, 0) (fun b => ro b = some (1, 0) ∨ Blk u b) y.bT = some (0, 1) := FA.fw _ _ h.s1 (by simp)
  have hlt1 : ∀ b, roT ro (1, 0) (fun b => ro b = some (1, 0) ∨ Blk u b) b ≠ none → b < w1.heap.size := fun b hb => by
    rcases roT_some hb with h1 | h1
    · rcases h1 with h1 | h1
      · exact Nat.lt_of_lt_of_le (h.lt b (by rw [h1]; simp)) b1.size
      · exact hbl b h1
    · exact Nat.lt_of_lt_of_le (h.lt b h1) b1.size
  have kB := one_kept hT1 (set_kept w1 y.bT (i * 3) u)
  have FB := Fr.same hlt1 kB
  have huT : ¬ Blk u y.bT := fun e => by
    have := (roT_is (ro := ro) (κ := (1, 0)) (S' := fun b => ro b = some (1, 0) ∨ Blk u b)).2 (Or.inr e)
    rw [hT1] at this
    simp at this
  have F : Fr w (w1.setCell ⟨y.bT, i * 3, none⟩ u) ro (roT ro (1, 0) (fun b => ro b = some (1, 0) ∨ Blk u b)) (fun κ => κ = (1, 0) ∨ κ = (0, 1)) :=
    ⟨Nat.le_trans FA.sz FB.sz, fun b κ e hn => (FB.kp b κ (FA.fw b κ e (fun e => hn (Or.inl e))) (fun e => hn (Or.inr e))).trans (FA.kp b κ e (fun e => hn (Or.inl e))), fun b κ e hn => FA.fw b κ e (fun e => hn (Or.inl e)), fun b κ e hn => FA.bk b κ e (fun e => hn (Or.inl e))⟩
  have ht : ∃ cur, (w1.setCell ⟨y.bT, i * 3, none⟩ u).heap[y.bT]? = some (.cells cur PtT (0, 0)) ∧ cur.toList = rowL ptC ((tv.set i (u, tv[i].2)).zip (P.set i { P[i] with ops := r })) := by
    obtain ⟨cur, h1, h2⟩ := h.tb
    have hz : i < (tv.zip P).length := by rw [List.length_zip, h.tl, Nat.min_self]; exact hi
    have ez : (tv.zip P)[i] = (tv[i], P[i]) := List.getElem_zip
    refine ⟨_, heap_setCell_same w1 y.bT _ cur _ _ ((FA.kp _ _ h.s1 (by simp)).trans h1), ?_⟩
    rw [Array.toList_setIfInBounds, h2, zip_set_left tv P i (u, tv[i].2) { P[i] with ops := r }, rowL_set ptC_len (tv.zip P) i hz 0 ((u, tv[i].2), { P[i] with ops := r }) u (by decide) (by rw [ez]; rfl)]
    rfl
  have hold : ∀ b, b < w.heap.size → ro b = some (1, 0) → (w1.setCell ⟨y.bT, i * 3, none⟩ u).heap[b]? = w.heap[b]? := fun b hb e => by
    rw [heap_setCell_other _ _ _ _ (fun e2 => by
      rw [show b = y.bT from e2, h.s1] at e
      simp at e)]
    exact b1.block b hb
  refine ⟨roT ro (1, 0) (fun b => ro b = some (1, 0) ∨ Blk u b), ⟨?_, by rw [List.length_set, List.length_set]; exact h.tl, h.ol, ht, h.crF F (by simp), h.cbF F (by simp), h.mpF F (by simp), fun j h1 h2 => ?_, fun j h1 h2 => ?_, fun j => h.obF F j (by simp), F.fw _ _ h.s0 (by simp), hT1, F.fw _ _ h.s2 (by simp), F.fw _ _ h.s3 (by simp), F.fw _ _ h.s4 (by simp), fun b hb => ?_, fun b j hj => h.rb b j (F.bk _ _ hj (by simp)), by rw [List.length_set]; exact h.zR, by rw [List.length_set]; exact h.zB, by rw [List.length_set]; exact h.lR, by rw [List.length_set]; exact h.lB⟩, (roT_kept kA).trans (ro_kept kB)⟩
  · rw [List.length_set]
    exact (F.kp _ _ h.s0 (by simp)).trans h.hd
  · have h1' : j < tv.length := by rw [List.length_set] at h1; exact h1
    have h2' : j < P.length := by rw [List.length_set] at h2; exact h2
    rw [List.getElem_set, List.getElem_set]
    split
    · rename_i e
      subst e
      exact ⟨hu.keep (by simp) (fun bk off n cap h0 e => heap_setCell_other _ _ _ _ (fun e2 => huT ⟨off, n, cap, h0, by rw [e, show bk = y.bT from e2]⟩)), fun bk off n cap h0 e => roT_is.2 (Or.inr ⟨off, n, cap, h0, e⟩)⟩
    · have h9 := h.op j h1' h2'
      exact ⟨h9.1.keep F.sz (fun bk off n cap h0 e => hold bk (h.lt bk (by rw [h9.2 bk off n cap h0 e]; simp)) (h9.2 bk off n cap h0 e)), fun bk off n cap h0 e => roT_is.2 (Or.inl (h9.2 bk off n cap h0 e))⟩
  · have h1' : j < tv.length := by rw [List.length_set] at h1; exact h1
    have h2' : j < P.length := by rw [List.length_set] at h2; exact h2
    have := h.ruF F j (by simp) h1' h2'
    rw [List.getElem_set, List.getElem_set]
    split
    · rename_i e
      subst e
      exact this
    · exact this
  · have hb2 := hlt1 b hb
    have hs : (w1.setCell ⟨y.bT, i * 3, none⟩ u).heap.size = w1.heap.size := by simp
    rw [hs]
    refine ⟨?_, hb2⟩
    have hD := h.bd y.D (by rw [h.s0]; simp)
    rcases roT_some hb with h1 | h1
    · rcases h1 with h1 | h1
      · exact (h.bd b (by rw [h1]; simp)).1
      · have := hn b h1
        omega
    · exact (h.bd b h1).1
end
end Go.Proofs.Ythhlglbohibekaa
namespace Go.Proofs.Ythhlglbohibekaa
open Go.RowKit

theorem infoPt : (Try.prog.info? PtT).map (fun i => (i.zero, i.size, i.bytes)) = some (some (.agg #[.slice none 0 0, .int .i64 0, .slice none 0 0]), 3, 56) := by kernel_rfl
def pk0 : Pk := ⟨[], 0, []⟩
def tv0 : Tv := (.slice none 0 0, .slice none 0 0)
theorem row0 (n : Nat) : (madeCells #[.slice none 0 0, .int .i64 0, .slice none 0 0] (n * 3)).toList = rowL ptC ((List.replicate n tv0).zip (List.replicate n pk0)) := by
    apply List.ext_getElem?
    intro j
    have hl : (rowL ptC ((List.replicate n tv0).zip (List.replicate n pk0))).length = n * 3 := by
      rw [rowL_length ptC_len, List.length_zip]
      simp
    by_cases hj : j < n * 3
    · have h1 : (madeCells #[.slice none 0 0, .int .i64 0, .slice none 0 0] (n * 3)).toList[j]? = some (#[.slice none 0 0, .int .i64 0, .slice none 0 0] : Array Value)[j % 3]! := by
        unfold madeCells
        simp [hj]
      have h2 := rowL_at ptC_len ((List.replicate n tv0).zip (List.replicate n pk0)) (j / 3) (by rw [List.length_zip]; simp; omega) (j % 3) (Nat.mod_lt _ (by decide))
      rw [show j / 3 * 3 + j % 3 = j by omega] at h2
      rw [h1, h2, List.getElem_zip, List.getElem_replicate, List.getElem_replicate]
      have hc : j % 3 = 0 ∨ j % 3 = 1 ∨ j % 3 = 2 := by omega
      rcases hc with e | e | e
      · rw [e]
        rfl
      · rw [e]
        rfl
      · rw [e]
        rfl
    · rw [List.getElem?_eq_none (by rw [Array.length_toList, size_madeCells]; omega), List.getElem?_eq_none (by rw [hl]; omega)]
open Classical in
noncomputable def ro0 (y : Lay) : Nat → Option Who := fun b => if b = y.D then some (0, 0) else if b = y.bT then some (0, 1) else if b = y.M then some (0, 2) else if b = y.bR then some (0, 3) else if b = y.bB then some (0, 4) else none
section
variable {w : World} {base n : Nat} {y : Lay}
theorem PkAt.start (hd : w.heap[y.D]? = some (.cells #[.slice (some ⟨y.bT, 0, none⟩) n n, .slice (some ⟨y.bR, 0, none⟩) (2 * 2 ^ y.dR) (2 * 2 ^ y.dR), .slice (some ⟨y.bB, 0, none⟩) (2 * 2 ^ y.dB) (2 * 2 ^ y.dB), .map (some y.M)] SchT (0, 0))) (ht : w.heap[y.bT]? = some (.cells (madeCells #[.slice none 0 0, .int .i64 0, .slice none 0 0] (n * 3)) PtT (0, 0))) (hr : CrAt w y.bR y.dR (fun _ => false)) (hb : CrAt w y.bB y.dB (fun _ => false)) (hm : objM.At w y.M []) (hne : y.bR ≠ y.bB) (zR : n ≤ 2 ^ y.dR ∧ 2 ^ y.dR ≤ 65536) (zB : n ≤ 2 ^ y.dB ∧ 2 ^ y.dB ≤ 65536) (hbs : base ≤ y.D ∧ base ≤ y.bT ∧ base ≤ y.bR ∧ base ≤ y.bB ∧ base ≤ y.M) :
    PkAt w base (ro0 y) y (List.replicate n tv0) [] (List.replicate n pk0) (fun _ => false) (fun _ => false) [] := by
  obtain ⟨c1, r1, _⟩ := hr.ex
  obtain ⟨c2, r2, _⟩ := hb.ex
  have n1 : y.bT ≠ y.D := fun e => by rw [e, hd] at ht; exact absurd (Obj.cells.inj (Option.some.inj ht)).2.1 (by decide)
  have n2 : y.M ≠ y.D := hm.ne hd
  have n3 : y.M ≠ y.bT := hm.ne ht
  have n4 : y.bR ≠ y.D := fun e => by rw [e, hd] at r1; exact absurd (Obj.cells.inj (Option.some.inj r1)).2.1 (by decide)
  have n5 : y.bR ≠ y.bT := fun e => by rw [e, ht] at r1; exact absurd (Obj.cells.inj (Option.some.inj r1)).2.1 (by decide)
  have n6 : y.bR ≠ y.M := fun e => hm.ne r1 e.symm
  have n7 : y.bB ≠ y.D := fun e => by rw [e, hd] at r2; exact absurd (Obj.cells.inj (Option.some.inj r2)).2.1 (by decide)
  have n8 : y.bB ≠ y.bT := fun e => by rw [e, ht] at r2; exact absurd (Obj.cells.inj (Option.some.inj r2)).2.1 (by decide)
  have n9 : y.bB ≠ y.M := fun e => hm.ne r2 e.symm
  have hcls : ∀ b κ, ro0 y b = some κ → κ.1 = 0 := fun b κ e => by
    unfold ro0 at e
    repeat' split at e
    all_goals first
      | (rw [← Option.some.inj e])
      | cases e
  have hrep : ∀ j (h : j < (List.replicate n pk0).length), (List.replicate n pk0)[j] = pk0 := fun j h => List.getElem_replicate h
  have hret : ∀ j (h : j < (List.replicate n tv0).length), (List.replicate n tv0)[j] = tv0 := fun j h => List.getElem_replicate h
  refine ⟨by rw [List.length_replicate]; exact hd, by rw [List.length_replicate, List.length_replicate], rfl, ⟨_, ht, row0 n⟩, hr, hb, hm, fun j h1 h2 => ?_, fun j h1 h2 => ?_, fun j h1 => ?_, ?_, ?_, ?_, ?_, ?_, fun b h1 => ?_, fun b j e => ?_, by rw [List.length_replicate]; exact zR, by rw [List.length_replicate]; exact zB, fun _ h => absurd h (by decide), fun _ h => absurd h (by decide)⟩
  · rw [hrep j h2, hret j h1]
    exact ⟨RowAt.nil w, fun bk off m cap h0 e => by
      have e2 : Value.slice none 0 0 = .slice (some ⟨bk, off, none⟩) m cap := e
      simp at e2⟩
  · rw [hrep j h2, hret j h1]
    exact ⟨Slid.nil w, fun g e => by
      have e2 : (Value.slice none 0 0).ownBlock = some g := e
      simp [Value.ownBlock] at e2⟩
  · exact absurd h1 (Nat.not_lt_zero _)
  · unfold ro0
    rw [if_pos rfl]
  · unfold ro0
    rw [if_neg n1, if_pos rfl]
  · unfold ro0
    rw [if_neg n2, if_neg n3, if_pos rfl]
  · unfold ro0
    rw [if_neg n4, if_neg n5, if_neg n6, if_pos rfl]
  · unfold ro0
    rw [if_neg n7, if_neg n8, if_neg n9, if_neg hne.symm, if_pos rfl]
  · unfold ro0 at h1
    split at h1
    · rename_i e
      rw [e]
      exact ⟨hbs.1, lt_of_block hd⟩
    · split at h1
      · rename_i e
        rw [e]
        exact ⟨hbs.2.1, lt_of_block ht⟩
      · split at h1
        · rename_i e
          rw [e]
          exact ⟨hbs.2.2.2.2, hm.lt⟩
        · split at h1
          · rename_i e
            rw [e]
            exact ⟨hbs.2.2.1, hr.lt⟩
          · split at h1
            · rename_i e
              rw [e]
              exact ⟨hbs.2.2.2.1, hb.lt⟩
            · exact absurd rfl h1
  · have := hcls b _ e
    simp at this
end
end Go.Proofs.Ythhlglbohibekaa
