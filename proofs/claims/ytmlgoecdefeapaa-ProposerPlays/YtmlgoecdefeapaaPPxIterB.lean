/-
  The slots of all rows, gone over by a function over the rows' own: each once, rising. The conditions: the rows' slots are far from the ends of an int; fewer rows than a slice may have.
-/
import Derived.Test.YtmlgoecdefeapaaPPxIterA
namespace Go.Proofs.Ytmlgoecdefeapaa
open Go.RowKit Go.Shelf

attribute [local go_sem] Oper.semAt_some

def rowS (r : Int × Int) : List Int := slotsF ((r.2 - r.1).toNat + 1) r.1
def rowsS (l : List (Int × Int)) : List Int := l.flatMap rowS
/-- A row that is one: not empty, far from the ends. -/
def okRo (r : Int × Int) : Prop := r.1 ≤ r.2 ∧ -4611686018427387904 ≤ r.1 ∧ r.2 ≤ 4611686018427387904
set_option maxHeartbeats 1000000 in
theorem slots_any (w : World) (r : Int × Int) : Calls Try.prog 39 #[.agg #[.int .i64 r.1, .int .i64 r.2]] w fun e w' => e = .returned (.func (.func 45) #[] #[.pointer (some ⟨w.heap.size, 0, none⟩)]) ∧ w' = w.alloc (.cells #[.int .i64 r.1, .int .i64 r.2] 59) := by
  go_enter Try.func39, Try.ntmps39
  go_wp2
  go_ret
  exact ⟨rfl, rfl⟩
set_option maxHeartbeats 1000000 in
theorem rslots_any (w : World) (a : Option Addr) (n c : Nat) : Calls Try.prog 40 #[.slice a n c] w fun e w' => e = .returned (.func (.func 46) #[] #[.pointer (some ⟨w.heap.size, 0, none⟩)]) ∧ w' = w.alloc (.cells #[.slice a n c] 61) := by
  go_enter Try.func40, Try.ntmps40
  go_wp2
  go_ret
  exact ⟨rfl, rfl⟩
theorem rowsS_take (l : List (Int × Int)) (i : Nat) (hi : i < l.length) : rowsS (l.take (i + 1)) = rowsS (l.take i) ++ rowS l[i] := by
  unfold rowsS
  rw [List.take_add_one, List.getElem?_eq_getElem hi, List.flatMap_append]
  simp
theorem rowsS_drop (l : List (Int × Int)) (i : Nat) (hi : i < l.length) : rowsS l = rowsS (l.take i) ++ (rowS l[i] ++ rowsS (l.drop (i + 1))) := by
  have h : l = l.take i ++ (l[i] :: l.drop (i + 1)) := by rw [List.getElem_cons_drop]; exact (List.take_append_drop i l).symm
  conv => lhs; rw [h]
  unfold rowsS
  rw [List.flatMap_append, List.flatMap_cons]
/-- While the rows are gone over: i rows are done. -/
structure SlI (W wr : World) (y : Nat) (J : List Int → World → (Nat → Prop) → Prop) (S : Nat → Prop) (l : List (Int × Int)) (v : Value) (i : Nat) (Ds : List Nat) (S1 : Nat → Prop) : Prop where
  j : J (rowsS (l.take i)) wr S1
  k : Kept W wr S S1
  yb : wr.heap[W.heap.size]? = some (.cells #[.func (.yield y) #[] #[]] 64 (0, 0))
  ny : ¬ S1 W.heap.size
  row : RowAt roC wr v l
  nr : ∀ b off n c, 0 < n → v = .slice (some ⟨b, off, none⟩) n c → ¬ S1 b ∧ b < W.heap.size
  nd : Ds.Nodup
  ds : ∀ D ∈ Ds, W.heap.size ≤ D ∧ wr.heap[D]? = some (.deferred (some [])) ∧ ¬ S1 D
/-- Within a row: what comes, with the cell that holds yield. -/
def SlJ (y C : Nat) (J : List Int → World → (Nat → Prop) → Prop) (done : List Int) (pre : List Int) (W : World) (SI : Nat → Prop) : Prop :=
  ∃ SJ : Nat → Prop, (∀ b, SI b ↔ SJ b ∨ b = C) ∧ ¬ SJ C ∧ J (done ++ pre) W SJ ∧ W.heap[C]? = some (.cells #[.func (.yield y) #[] #[]] 64 (0, 0))
theorem SlJ.stays {y C : Nat} {J : List Int → World → (Nat → Prop) → Prop} (hJ : Stays J) (done : List Int) : Stays (SlJ y C J done) := by
  constructor
  · rintro p W S ⟨SJ, hS, hn, hj, hc⟩ b hb
    rcases (hS b).1 hb with h | rfl
    · exact hJ.lt _ _ _ hj b h
    · exact lt_of_block hc
  · rintro p W W' S ⟨SJ, hS, hn, hj, hc⟩ hz he
    exact ⟨SJ, hS, hn, hJ.st _ _ _ _ hj hz (fun b hb => he b ((hS b).2 (Or.inl hb))), (he C ((hS C).2 (Or.inr rfl))).trans hc⟩
set_option maxRecDepth 100000 in
set_option maxHeartbeats 2000000 in
theorem slots2_iters {w0 : World} {B : Nat} {v : Value} {l : List (Int × Int)} (hl : l.length ≤ 1000000) (hok : ∀ r ∈ l, okRo r) (hB : w0.heap[B]? = some (.cells #[v] 61 (0, 0))) (hv : RowAt roC w0 v l) :
    Iters Try.prog 46 #[.pointer (some ⟨B, 0, none⟩)] (rowsS l) (fun b => b = B ∨ ∃ off n c, 0 < n ∧ v = .slice (some ⟨b, off, none⟩) n c) w0 := by
  intro y J W S hJ hT hY h0
  refine (callsIn_wide (n := 3)).1 ?_
  refine callsIn_of_wp_marks Try.func46 rfl trivial ?_ rfl
  simp only [Try.ntmps46, List.size_toArray, List.length_cons, List.length_nil, Nat.reduceAdd, Nat.reduceSub, Array.replicate_succ, Array.replicate_zero, List.push_toArray, List.append_toArray, List.nil_append, List.cons_append]
  obtain ⟨hB1, hB2, hB3⟩ := hT B (Or.inl rfl)
  have bW := hB2.trans hB
  obtain ⟨a, cap, rfl⟩ := hv.form
  obtain ⟨W1, hW1⟩ : ∃ W1, W1 = W.alloc (.cells #[.func (.yield y) #[] #[]] 64) := ⟨_, rfl⟩
  have b1 : Below W.heap.size W W1 := by rw [hW1]; exact (Below.refl _ W).alloc (Nat.le_refl _) _
  have y1 : W1.heap[W.heap.size]? = some (.cells #[.func (.yield y) #[] #[]] 64 (0, 0)) := by rw [hW1]; exact heap_alloc_new W _
  have c1 : W1.cell? ⟨B, 0, none⟩ = some (.slice a l.length cap) := by simp [World.cell?, (b1.block B hB1).trans bW]
  have HW : Hid (W.alloc (.cells #[.func (.yield y) #[] #[]] 64) = W1) := hW1.symm
  clear hW1
  have c0 : (W.alloc (.cells #[.func (.yield y) #[] #[]] 64)).cell? ⟨B, 0, none⟩ = some (.slice a l.length cap) := by rw [HW.out]; exact c1
  have i1 : SlI W W1 y J S l (.slice a l.length cap) 0 [] S := by
    refine ⟨hJ.st _ _ _ _ h0 b1.size (fun b hb => b1.block b (hJ.lt _ _ _ h0 b hb)), Kept.of b1, y1, fun h => Nat.lt_irrefl _ (hJ.lt _ _ _ h0 _ h), ?_, fun b off n c hn e => ?_, List.nodup_nil, fun D hD => by cases hD⟩
    · obtain ⟨a', cap', e1, e2, e3, e4⟩ := hv.ex
      refine RowAt.fresh (w := W) ⟨a', cap', e1, e2, e3, ?_⟩ b1
      by_cases hl0 : l.length = 0
      · exact Or.inl hl0
      rcases e4 with e4 | ⟨bk, off, rfl, hbk, hx⟩
      · exact Or.inl e4
      · obtain ⟨q1, q2, q3⟩ := hT bk (Or.inr ⟨off, l.length, cap', by omega, e1⟩)
        exact Or.inr ⟨bk, off, rfl, q1, fun j u hu => (World.cell?_of_block q2).trans (hx j u hu)⟩
    · obtain ⟨q1, q2, q3⟩ := hT b (Or.inr ⟨off, n, c, hn, e⟩)
      exact ⟨q3, q1⟩
  have I1 : Hid _ := i1
  clear i1
  gi_wp2
  rw [HW.out]
  clear c0 HW c1 y1 hv hB bW h0
  refine wpIn_loop (fun a' w' => ∃ (i : Nat) (Ds : List Nat) (S1 : Nat → Prop) (u3 u4 u5 u9 u10 u11 u12 u13 u14 u15 u16 u17 u18 u19 : Value), i ≤ l.length ∧ SlI W w' y J S l (.slice a l.length cap) i Ds S1 ∧ a' = { tmps := #[.func (.yield y) #[] #[], .pointer (some ⟨B, 0, none⟩), .pointer (some ⟨W.heap.size, 0, none⟩), u3, u4, u5, .slice a l.length cap, .int .i64 (l.length : Int), .int .i64 (i : Int), u9, u10, u11, u12, u13, u14, u15, u16, u17, u18, u19], defers := Ds.map markD })
    (fun a' _ => l.length - (intOf (a'.tmps.getD 8 undef)).toNat) ⟨0, [], S, _, _, _, _, _, _, _, _, _, _, _, _, _, _, Nat.zero_le _, I1.out, rfl⟩ ?_
  rintro _ wr ⟨i, Ds, S1, u3, u4, u5, u9, u10, u11, u12, u13, u14, u15, u16, u17, u18, u19, hi, hI, rfl⟩
  by_cases hil : i < l.length
  · have t1 : decide ((i : Int) < (l.length : Int)) = true := decide_eq_true (by omega)
    obtain ⟨bk, off, cap', hvv, hcap, hbk, hc⟩ := hI.row.cells roC_len (by omega)
    injection hvv with e1 e2 e3
    subst e1 e3
    clear e2
    obtain ⟨r, hr⟩ : ∃ r, r = l[i] := ⟨_, rfl⟩
    have z0 := hc i hil 0 (.int .i64 r.1) (by decide) (by rw [hr]; rfl)
    have z1 := hc i hil 1 (.int .i64 r.2) (by decide) (by rw [hr]; rfl)
    rw [Nat.add_zero] at z0
    have okr := hok r (by rw [hr]; exact List.getElem_mem hil)
    obtain ⟨hr1, hr2, hr3⟩ := okr
    have HR : Hid (r = l[i]) := hr
    have R1 : Hid _ := hI
    clear hI hc hr
    gi_wp2_with (refine ⟨trivial, ?_⟩; gi_at_call 39; refine (callsIn_wide.2 (slots_any _ r)).mono ?_; rintro e w' ⟨rfl, rfl⟩)
    obtain ⟨w2, hw2⟩ : ∃ w2, w2 = (wr.alloc (.cells #[.int .i64 r.1, .int .i64 r.2] 59)).alloc (.cells #[.int .i64 r.1, .int .i64 r.2] 59) := ⟨_, rfl⟩
    have b2 : Below wr.heap.size wr w2 := by rw [hw2]; exact ((Below.refl _ wr).alloc (Nat.le_refl _) _).alloc (by simp) _
    have z2 : w2.heap.size = wr.heap.size + 1 + 1 := by rw [hw2]; simp
    have q2 : w2.heap[wr.heap.size + 1]? = some (.cells #[.int .i64 r.1, .int .i64 r.2] 59 (0, 0)) := by
      rw [hw2]
      have := heap_alloc_new (wr.alloc (.cells #[.int .i64 r.1, .int .i64 r.2] 59)) (.cells #[.int .i64 r.1, .int .i64 r.2] 59)
      rwa [World.size_alloc] at this
    rw [← hw2]
    clear hw2
    have hlt := hJ.lt _ _ _ R1.out.j
    have hcw := lt_of_block R1.out.yb
    refine wpIn_iter (gf := 45) (lb := #[.pointer (some ⟨wr.heap.size + 1, 0, none⟩)]) rfl (enters_of Try.func45 (by kernel_rfl) rfl) (slots1_iters (k := (r.2 - r.1).toNat) (by omega) hr2 hr3 q2) rfl
      (SlJ y W.heap.size J (rowsS (l.take i))) (SlJ.stays hJ _) (S0 := fun b => S1 b ∨ b = W.heap.size) ⟨S1, fun _ => Iff.rfl, R1.out.ny, ?_, ?_⟩ ?_
      (fun x => { tmps := #[.func (.yield y) #[] #[], .pointer (some ⟨B, 0, none⟩), .pointer (some ⟨W.heap.size, 0, none⟩), u3, .pointer (some ⟨wr.heap.size, 0, none⟩), .int .i64 x, .slice (some ⟨bk, off, none⟩) l.length cap, .int .i64 (l.length : Int), .int .i64 (i : Int), .bool true, .pointer (some ⟨bk, off + i * 2, none⟩), .agg #[.int .i64 r.1, .int .i64 r.2], .agg #[.int .i64 r.1, .int .i64 r.2], .func (.func 45) #[] #[.pointer (some ⟨wr.heap.size + 1, 0, none⟩)], .int .i64 x, u15, u16, u17, u18, u19], defers := [] }) ?assign ?body ?done
    · rw [List.append_nil]
      exact hJ.st _ _ _ _ R1.out.j b2.size (fun b hb => b2.block b (hlt b hb))
    · exact (b2.block _ hcw).trans R1.out.yb
    · rintro b rfl
      refine ⟨by omega, fun h => ?_⟩
      rcases h with h | h
      · have := hlt _ h
        omega
      · omega
    case assign =>
      intro l' m x W' K hK
      gi_wp2
      exact hK
    case body =>
      rintro l' m pre x suf W' SI hx hl' ⟨SJ, hS, hn, hj, hcy⟩ hnl
      obtain ⟨fn, tmps, assign, body, hy, hR⟩ := hY (rowsS (l.take i) ++ pre) x (suf ++ rowsS (l.drop (i + 1))) W' SJ (by
        rw [rowsS_drop l i hil, ← HR.out]
        show _ ++ (slotsF _ _ ++ _) = _
        rw [hx]
        simp) hj (m - 1)
      have cy : W'.cell? ⟨W.heap.size, 0, none⟩ = some (.func (.yield y) #[] #[]) := by simp [World.cell?, hcy]
      have hR2 : RoundIn (Fence.wide.inRound l') (m - 1) Try.prog y fn tmps assign body W' _ := hR
      have HC : Hid _ := hcy
      clear hcy
      gi_wp2
      refine ⟨fun h => absurd h (by decide), hR2.mono ?_⟩
      rintro e W3 ⟨rfl, S3, hj3, k3⟩
      clear hR hR2 hy
      gi_wp2
      have hw := lt_of_block HC.out
      refine ⟨fun b => S3 b ∨ b = W.heap.size, ⟨S3, fun _ => Iff.rfl, fun h => ?_, by rw [← List.append_assoc]; exact hj3, (k3.kept _ hw hn).trans HC.out⟩, kept_more k3 (fun b hb => (hS b).2 (Or.inl hb)) (fun b hb => ?_)⟩
      · rcases k3.old _ h with h | h
        · exact hn h
        · omega
      · rcases hb with h | h
        · exact Or.inl h
        · exact Or.inr ((hS b).2 (Or.inr h))
    case done =>
      rintro D W5 S5 hD hnD ⟨SJ, hS, hn, hj, hcy⟩ k5 hdf
      have k6 : Kept wr W5 S1 SJ := by
        refine (Kept.of (S := S1) (b2.mono (Nat.le_refl _))).trans ⟨k5.os, k5.tape, k5.output, k5.size, fun b hb => ?_, fun b hb hs => ?_⟩
        · rcases k5.old b ((hS b).2 (Or.inl hb)) with (h | h) | h
          · exact Or.inl h
          · exact absurd (h ▸ hb) hn
          · exact Or.inr h
        · by_cases e : b = W.heap.size
          · rw [e, hcy, b2.block _ hcw, R1.out.yb]
          · exact k5.kept b hb (fun h => h.elim hs e)
      have HX : Hid (SlI W W5 y J S l (.slice (some ⟨bk, off, none⟩) l.length cap) (i + 1) (D :: Ds) SJ) := by
        have o1 : ∀ b, b < wr.heap.size → ¬ S1 b → ¬ SJ b := fun b hb hs h => by
          rcases k6.old b h with h | h
          · exact hs h
          · omega
        refine ⟨?_, R1.out.k.trans k6, hcy, hn, R1.out.row.keep k6.size (fun b o n c h0 e => k6.kept b ?_ (R1.out.nr b o n c h0 e).1), fun b o n c h0 e => ⟨o1 b ?_ (R1.out.nr b o n c h0 e).1, (R1.out.nr b o n c h0 e).2⟩, List.nodup_cons.2 ⟨fun h => ?_, R1.out.nd⟩, fun E hE => ?_⟩
        · rw [rowsS_take l i hil, ← HR.out]
          exact hj
        · have := (R1.out.nr b o n c h0 e).2
          omega
        · have := (R1.out.nr b o n c h0 e).2
          omega
        · have := lt_of_block (R1.out.ds D h).2.1
          omega
        · rcases List.mem_cons.1 hE with rfl | hE
          · exact ⟨by omega, hdf, fun h => hnD ((hS _).2 (Or.inl h))⟩
          · obtain ⟨d1, d2, d3⟩ := R1.out.ds E hE
            exact ⟨d1, (k6.kept E (lt_of_block d2) d3).trans d2, o1 E (lt_of_block d2) d3⟩
      clear k6 hdf k5 hcy hj hS
      gi_wp2
      have e8 : ((i : Int) + 1) = ((i + 1 : Nat) : Int) := by omega
      rw [e8]
      refine ⟨⟨i + 1, D :: Ds, SJ, _, _, _, _, _, _, _, _, _, _, _, _, _, _, hil, HX.out, rfl⟩, ?_⟩
      show l.length - (intOf (.int .i64 ((i + 1 : Nat) : Int))).toNat < l.length - (intOf (.int .i64 (i : Int))).toNat
      simp only [intOf]
      omega
  · have e : i = l.length := by omega
    have t1 : decide ((i : Int) < (l.length : Int)) = false := decide_eq_false (by omega)
    have R1 : Hid _ := hI
    clear hI
    gi_wp2
    refine leaves_marks Ds wr R1.out.nd (fun D hD => (R1.out.ds D hD).2.1) (fun W' h1 h2 h3 h4 h5 => ?_)
    have hJr : J (rowsS l) wr S1 := by
      have := R1.out.j
      rw [e, List.take_length] at this
      exact this
    refine ⟨_, results_none rfl _ _ _, ⟨_, rfl⟩, S1, hJ.st _ _ _ _ hJr (by omega) (fun b hb => h5 b (fun hD => (R1.out.ds b hD).2.2 hb)), ?_⟩
    have k := R1.out.k
    refine ⟨h1.trans k.os, h2.trans k.tape, h3.trans k.output, by rw [h4]; exact k.size, k.old, fun b hb hs => ?_⟩
    rw [h5 b (fun hD => by have := (R1.out.ds b hD).1; omega)]
    exact k.kept b hb hs
end Go.Proofs.Ytmlgoecdefeapaa
