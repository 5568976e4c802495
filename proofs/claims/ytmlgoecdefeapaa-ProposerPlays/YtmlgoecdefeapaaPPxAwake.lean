/-
  Chapter 16's examples hold. No condition.
-/
import Derived.Test.YtmlgoecdefeapaaPPxAcc
import Derived.Test.YtmlgoecdefeapaaPPack5
namespace Go.Proofs.Ytmlgoecdefeapaa
open Go.RowKit

def awX : Cm := ⟨2, 1, 1, ⟨#[]⟩, 0⟩
def awE : En := ⟨2, 1, awX⟩
def aq0 : Pp := Pp.new 3 9 1
def aq1 : Pp := (promP 2 aq0 1 []).1
def aq2 : Pp := (promP 2 aq1 2 [awE]).1
def aq3 : Pp := (accP 2 aq2 0 1).1
def aq4 : Pp := (accP 2 aq3 2 1).1
def aq5 : Pp := (propP aq4 awX).1
theorem aw_bools : (promP 2 aq0 1 []).2 = false ∧ (promP 2 aq1 2 [awE]).2 = true ∧ (accP 2 aq2 0 1).2 = false ∧ (accP 2 aq3 2 1).2 = true ∧ (propP aq4 awX).2 = ⟨4, 9, awX⟩ ∧ (openP aq5).length = 4 ∧ aq4.is = true := by
  refine ⟨?_, ?_, ?_, ?_, ?_, ?_, ?_⟩ <;> kernel_rfl
theorem aw_vals : aq2.vals = [⟨1, 9, Cm.zero⟩, ⟨2, 9, awX⟩, termE 9 3] := by kernel_rfl
theorem aq1_eq : (promP 2 aq0 1 []).1 = aq1 := by kernel_rfl
theorem aq2_eq : (promP 2 aq1 2 [awE]).1 = aq2 := by kernel_rfl
theorem aq3_eq : (accP 2 aq2 0 1).1 = aq3 := by kernel_rfl
theorem aq4_eq : (accP 2 aq3 2 1).1 = aq4 := by kernel_rfl
theorem aq5_eq : (propP aq4 awX).1 = aq5 := by kernel_rfl
theorem aw_f : aq1.f = 1 := by kernel_rfl
theorem aw_maj : maR aq0.n = 2 ∧ maR aq1.n = 2 ∧ maR aq2.n = 2 ∧ maR aq3.n = 2 := by
  refine ⟨?_, ?_, ?_, ?_⟩ <;> kernel_rfl
theorem aw_n : aq0.n = 3 ∧ aq1.n = 3 ∧ aq2.n = 3 ∧ aq3.n = 3 := by
  refine ⟨?_, ?_, ?_, ?_⟩ <;> kernel_rfl
theorem lim_of {q : Pp} (h1 : q.f = 1) (h2 : q.best.all (fun e => decide (e.slot ≤ 2)) = true) (h3 : q.next ≤ 10) : Lim q := by
  refine ⟨by omega, by omega, fun e he => ?_, fun _ => by omega⟩
  have := List.all_eq_true.1 h2 e he
  simp at this
  omega
theorem lim0 : Lim aq0 := lim_of rfl rfl (by decide)
theorem lim1 : Lim aq1 := lim_of (by kernel_rfl) (by kernel_rfl) (by decide)
theorem lim2 : Lim aq2 := lim_of (by kernel_rfl) (by kernel_rfl) (by decide)
theorem lim3 : Lim aq3 := lim_of (by kernel_rfl) (by kernel_rfl) (by decide)
theorem lim4 : Lim aq4 := lim_of (by kernel_rfl) (by kernel_rfl) (by decide)
theorem lim5 : Lim aq5 := lim_of (by kernel_rfl) (by kernel_rfl) (by decide)
theorem cell_keep {y y' : World} {b o : Nat} {u : Value} (h : y.cell? ⟨b, o, none⟩ = some u) (hk : y'.heap[b]? = y.heap[b]?) : y'.cell? ⟨b, o, none⟩ = some u := by
  simp only [World.cell?] at h ⊢
  rw [hk]
  exact h
structure AwS (O bk : Nat) (y : World) : Prop where
  s0 : y.cell? ⟨O, 0, none⟩ = some (.int .i64 2)
  s1 : y.cell? ⟨O, 1, none⟩ = some (.int .i64 1)
  s2 : y.cell? ⟨O, 2, none⟩ = some (.int .i64 1)
  s3 : y.cell? ⟨O, 3, none⟩ = some (.string ⟨#[]⟩)
  s4 : y.cell? ⟨O, 4, none⟩ = some (.int .i64 0)
  s5 : y.cell? ⟨bk, 2, none⟩ = some (.int .i64 0)
  s6 : y.cell? ⟨bk, 3, none⟩ = some (.int .i64 0)
  s7 : y.cell? ⟨bk, 4, none⟩ = some (.int .i64 0)
  s8 : y.cell? ⟨bk, 5, none⟩ = some (.string ⟨#[]⟩)
  s9 : y.cell? ⟨bk, 6, none⟩ = some (.int .i64 0)
  s10 : y.cell? ⟨bk, 8, none⟩ = some (.int .i64 9)
  s11 : y.cell? ⟨bk, 9, none⟩ = some (.int .i64 2)
  s12 : y.cell? ⟨bk, 10, none⟩ = some (.int .i64 1)
  s13 : y.cell? ⟨bk, 11, none⟩ = some (.int .i64 1)
  s14 : y.cell? ⟨bk, 12, none⟩ = some (.string ⟨#[]⟩)
  s15 : y.cell? ⟨bk, 13, none⟩ = some (.int .i64 0)
  s16 : y.cell? ⟨bk, 16, none⟩ = some (.int .i64 1)
theorem AwS.keep {O bk : Nat} {y y' : World} (h : AwS O bk y) (h1 : y'.heap[O]? = y.heap[O]?) (h2 : y'.heap[bk]? = y.heap[bk]?) : AwS O bk y' :=
  ⟨cell_keep h.s0 h1, cell_keep h.s1 h1, cell_keep h.s2 h1, cell_keep h.s3 h1, cell_keep h.s4 h1, cell_keep h.s5 h2, cell_keep h.s6 h2, cell_keep h.s7 h2, cell_keep h.s8 h2, cell_keep h.s9 h2, cell_keep h.s10 h2, cell_keep h.s11 h2, cell_keep h.s12 h2, cell_keep h.s13 h2, cell_keep h.s14 h2, cell_keep h.s15 h2, cell_keep h.s16 h2⟩
set_option maxHeartbeats 12800000 in
set_option maxRecDepth 100000 in
theorem awake_any (w : World) : Calls Try.prog 8 #[] w fun e w' => e = .returned (.bool true) ∧ Below w.heap.size w w' := by
  obtain ⟨f1, f2, f3, f4, f5, f6, f7⟩ := aw_bools
  obtain ⟨m0, m1, m2, m3⟩ := aw_maj
  obtain ⟨n0, n1, n2, n3⟩ := aw_n
  have q0 : Calls Try.prog 9 #[.int .i64 3, .int .i64 9, .int .i64 1] w (NewPost w aq0) := pnewX_any w 3 9 1
  go_enter Try.func8, Try.ntmps8
  go_upto_region 5 with (go_at_call 9; refine q0.mono ?_; rintro x w1 ⟨X, S0, rfl, h0, b0⟩; have H0 : Hid _ := h0; have B0 : Hid _ := b0; clear h0 b0)
  obtain ⟨y1, hy1⟩ : ∃ y, y = w1.alloc (.cells #[.int .i64 2, .int .i64 1, .int .i64 1, .string ⟨#[]⟩, .int .i64 0] 32) := ⟨_, rfl⟩
  obtain ⟨O, hO⟩ : ∃ O, O = w1.heap.size := ⟨_, rfl⟩
  have a1 : Below w1.heap.size w1 y1 := by rw [hy1]; exact (Below.refl _ _).alloc (Nat.le_refl _) _
  have c1 : y1.heap[O]? = some (.cells #[.int .i64 2, .int .i64 1, .int .i64 1, .string ⟨#[]⟩, .int .i64 0] 32 (0, 0)) := by rw [hO, hy1]; exact heap_alloc_new w1 _
  have e1 : O < y1.heap.size := lt_of_block c1
  have nO0 : ¬ S0 O := fun h => by have := (H0.out.bd O h).2; omega
  have B1 : Hid (Below w.heap.size w y1) := bmm B0.out B0.out.size a1
  have P1 : Hid (PS y1 w.heap.size X S0 aq0) := H0.out.fresh a1
  have HY : Hid (w1.alloc (.cells #[.int .i64 2, .int .i64 1, .int .i64 1, .string ⟨#[]⟩, .int .i64 0] 32) = y1) := hy1.symm
  have HO : Hid (w1.heap.size = O) := hO.symm
  have q1 : Calls Try.prog 11 #[.pointer (some ⟨X, 0, none⟩), .int .i64 1, .slice none 0 0] y1 (PPost y1 w.heap.size X S0 aq1 (.bool false)) := by
    have := pprom_any P1.out lim0 (by omega) 1 ⟨by decide, by decide⟩ [] (.slice none 0 0) (RowAt.nil _) (by decide) (fun e he => by cases he) (fun _ _ _ _ _ e => by cases e)
    rw [m0, f1, aq1_eq] at this
    exact this
  rw [HY.out, HO.out]
  have HC1 : Hid _ := c1
  clear hy1 hO a1 c1 q0
  go_upto_region 6 with (go_at_call 11; refine q1.mono ?_; rintro x w2 ⟨S1, rfl, h2, k2⟩)
  have c2 := (k2.kept O e1 nO0).trans HC1.out
  have nO1 : ¬ S1 O := fun h => by
    rcases k2.old O h with h | h
    · exact nO0 h
    · omega
  have z2 := lt_of_block c2
  have B2 : Hid (Below w.heap.size w w2) := B1.out.trans (k2.low B1.out.size (fun b hb => (P1.out.bd b hb).1))
  have o0 : w2.cell? ⟨O, 0, none⟩ = some (.int .i64 2) := by simp [World.cell?, c2]
  have o1 : w2.cell? ⟨O, 1, none⟩ = some (.int .i64 1) := by simp [World.cell?, c2]
  have o2 : w2.cell? ⟨O, 2, none⟩ = some (.int .i64 1) := by simp [World.cell?, c2]
  have o3 : w2.cell? ⟨O, 3, none⟩ = some (.string ⟨#[]⟩) := by simp [World.cell?, c2]
  have o4 : w2.cell? ⟨O, 4, none⟩ = some (.int .i64 0) := by simp [World.cell?, c2]
  obtain ⟨y2, hy2⟩ : ∃ y, y = w2.alloc (.cells #[.int .i64 2, .int .i64 1, .int .i64 2, .int .i64 1, .int .i64 1, .string ⟨#[]⟩, .int .i64 0] 38) := ⟨_, rfl⟩
  have a2 : Below w2.heap.size w2 y2 := by rw [hy2]; exact (Below.refl _ _).alloc (Nat.le_refl _) _
  have r2 : y2.heap[w2.heap.size]? = some (.cells #[.int .i64 2, .int .i64 1, .int .i64 2, .int .i64 1, .int .i64 1, .string ⟨#[]⟩, .int .i64 0] 38 (0, 0)) := by rw [hy2]; exact heap_alloc_new w2 _
  have P2 : Hid (PS y2 w.heap.size X S1 aq1) := h2.fresh a2
  have q2' : Calls Try.prog 11 #[.pointer (some ⟨X, 0, none⟩), .int .i64 2, .slice (some ⟨w2.heap.size, 0, none⟩) 1 1] y2 (PPost y2 w.heap.size X S1 aq2 (.bool true)) := by
    have := pprom_any P2.out lim1 (by omega) 2 ⟨by decide, by decide⟩ [awE] (.slice (some ⟨w2.heap.size, 0, none⟩) 1 1) (RowAt.built r2 rfl 1 rfl rfl) (by decide) (fun e he => by rw [List.mem_singleton.1 he, aw_f]; exact ⟨by decide, by decide⟩) (fun bk off n cap _ e hs => by
      have e1 : w2.heap.size = bk := by injection e with e1 _ _; injection e1 with e1; injection e1
      have := (h2.bd bk hs).2
      omega)
    rw [m1, f2, aq2_eq] at this
    exact this
  have B2b : Hid (Below w.heap.size w y2) := bmm B2.out B2.out.size a2
  have d2 : y2.heap[O]? = w2.heap[O]? := a2.block O z2
  have z2b : O < y2.heap.size := Nat.lt_of_lt_of_le z2 a2.size
  have HQ2 : Hid (Calls Try.prog 11 #[.pointer (some ⟨X, 0, none⟩), .int .i64 2, .slice (some ⟨w2.heap.size, 0, none⟩) 1 1] (w2.alloc (.cells #[.int .i64 2, .int .i64 1, .int .i64 2, .int .i64 1, .int .i64 1, .string ⟨#[]⟩, .int .i64 0] 38)) (PPost y2 w.heap.size X S1 aq2 (.bool true))) := by
    show Calls _ _ _ _ _
    rw [← hy2]
    exact q2'
  have HC2 : Hid (y2.heap[O]? = some (.cells #[.int .i64 2, .int .i64 1, .int .i64 1, .string ⟨#[]⟩, .int .i64 0] 32 (0, 0))) := d2.trans c2
  clear hy2 r2 q2' a2 h2 k2 c2 d2 q1
  go_upto_region 7 with (go_at_call 11; refine Calls.mono HQ2.out ?_; rintro x w3 ⟨S2, rfl, h3, k3⟩)
  clear o0 o1 o2 o3 o4
  have c3 := (k3.kept O z2b nO1).trans HC2.out
  have nO2 : ¬ S2 O := fun h => by
    rcases k3.old O h with h | h
    · exact nO1 h
    · omega
  have z3 := lt_of_block c3
  have B3 : Hid (Below w.heap.size w w3) := B2b.out.trans (k3.low B2b.out.size (fun b hb => (P2.out.bd b hb).1))
  have q3 := pvals_any h3 lim2
  have HC3 : Hid _ := c3
  have H3 : Hid _ := h3
  clear k3 c3 h3
  go_upto_region 8 with (go_at_call 21; refine q3.mono ?_; rintro x w4 ⟨u, rfl, o4, b4⟩)
  rw [aw_vals] at o4
  have ho := o4.lt
  obtain ⟨bk, off, cap, eu, _, hbk, hc⟩ := (OwnEn.row o4).cells enC_len (by decide)
  have e0 : off = 0 := by
    rcases o4.2 with ⟨e, _⟩ | ⟨g, cap', cur, e, _⟩
    · rw [e] at eu; cases eu
    · rw [e] at eu
      injection eu with eu _ _
      injection eu with eu
      injection eu with _ eu _
      exact eu.symm
  subst e0
  have eu' : u = .slice (some ⟨bk, 0, none⟩) 3 cap := eu
  have hk3 : w3.heap.size ≤ bk := (ho bk (by rw [eu']; rfl)).1
  have d4 := b4.block O z3
  have z4 : O < w4.heap.size := lt_of_block (d4.trans HC3.out)
  have HA4 : Hid (AwS O bk w4) := by
    have c4 := d4.trans HC3.out
    refine ⟨by simp [World.cell?, c4], by simp [World.cell?, c4], by simp [World.cell?, c4], by simp [World.cell?, c4], by simp [World.cell?, c4], by simpa using hc 0 (by decide) 2 (.int .i64 0) (by decide) rfl, by simpa using hc 0 (by decide) 3 (.int .i64 0) (by decide) rfl, by simpa using hc 0 (by decide) 4 (.int .i64 0) (by decide) rfl, by simpa using hc 0 (by decide) 5 (.string ⟨#[]⟩) (by decide) rfl, by simpa using hc 0 (by decide) 6 (.int .i64 0) (by decide) rfl, by simpa using hc 1 (by decide) 1 (.int .i64 9) (by decide) rfl, by simpa using hc 1 (by decide) 2 (.int .i64 2) (by decide) rfl, by simpa using hc 1 (by decide) 3 (.int .i64 1) (by decide) rfl, by simpa using hc 1 (by decide) 4 (.int .i64 1) (by decide) rfl, by simpa using hc 1 (by decide) 5 (.string ⟨#[]⟩) (by decide) rfl, by simpa using hc 1 (by decide) 6 (.int .i64 0) (by decide) rfl, by simpa using hc 2 (by decide) 2 (.int .i64 1) (by decide) rfl⟩
  have nb2 : ¬ S2 bk := fun h => by have := (H3.out.bd bk h).2; omega
  have P4 : Hid (PS w4 w.heap.size X S2 aq2) := H3.out.fresh b4
  have B4 : Hid (Below w.heap.size w w4) := bmm B3.out B3.out.size b4
  have q4 : Calls Try.prog 13 #[.pointer (some ⟨X, 0, none⟩), .int .i64 0, .int .i64 1] w4 (PPost w4 w.heap.size X S2 aq3 (.bool false)) := by
    have := pacc_any P4.out lim2 (by omega) 0 1 ⟨by decide, by decide⟩ ⟨by decide, by decide⟩
    rw [m2, f3, aq3_eq] at this
    exact this
  have Q5 : Hid (∀ y S', PS y w.heap.size X S' aq3 → Calls Try.prog 13 #[.pointer (some ⟨X, 0, none⟩), .int .i64 2, .int .i64 1] y (PPost y w.heap.size X S' aq4 (.bool true))) := fun y S' h => by
    have := pacc_any h lim3 (by omega) 2 1 ⟨by decide, by decide⟩ ⟨by decide, by decide⟩
    rw [m3, f4, aq4_eq] at this
    exact this
  subst eu'
  clear eu ho o4 hc b4 d4 q3 HC3
  go_upto_region 9 with (first
    | (have d7 := d6; go_at_call 13; refine Calls.mono (Q5.out _ _ H5.out) ?_; rintro x w6 ⟨S4, rfl, h6, k6⟩)
    | (go_at_call 13; refine q4.mono ?_; rintro x w5 ⟨S3, rfl, h5, k5⟩; have H5 : Hid _ := h5; clear h5; have d6 : True := trivial))
  have nO3 : ¬ S3 O := fun h => (k5.old O h).elim nO2 (fun h => by omega)
  have nb3 : ¬ S3 bk := fun h => (k5.old bk h).elim nb2 (fun h => by omega)
  have z5 := k5.size
  have z6 := k6.size
  have nO4 : ¬ S4 O := fun h => (k6.old O h).elim nO3 (fun h => by omega)
  have nb4 : ¬ S4 bk := fun h => (k6.old bk h).elim nb3 (fun h => by omega)
  have HA6 : Hid (AwS O bk w6) := (HA4.out.keep (k5.kept O z4 nO2) (k5.kept bk hbk nb2)).keep (k6.kept O (by omega) nO3) (k6.kept bk (by omega) nb3)
  have HA : Hid (AwS O bk w6.drew) := HA6.out.keep rfl rfl
  have N6 : Hid ((¬ S4 O ∧ O < w6.drew.heap.size) ∧ (¬ S4 bk ∧ bk < w6.drew.heap.size)) := ⟨⟨nO4, by show O < w6.heap.size; omega⟩, nb4, by show bk < w6.heap.size; omega⟩
  have B5 := B4.out.trans (k5.low B4.out.size (fun b hb => (P4.out.bd b hb).1))
  have B6a := B5.trans (k6.low B5.size (fun b hb => (H5.out.bd b hb).1))
  have B6 : Hid (Below w.heap.size w w6.drew) := bmm B6a B6a.size (undrew (Below.refl _ _))
  have H6 : Hid (PS w6.drew w.heap.size X S4 aq4) := h6.keep fun _ _ => rfl
  have Q6 : Hid _ := pready_any H6.out
  rw [f7] at Q6
  have Q7 : Hid (Calls Try.prog 15 #[.pointer (some ⟨X, 0, none⟩), .agg #[.int .i64 2, .int .i64 1, .int .i64 1, .string ⟨#[]⟩, .int .i64 0]] w6.drew (PPost w6.drew w.heap.size X S4 aq5 (.agg #[.int .i64 4, .int .i64 9, .int .i64 2, .int .i64 1, .int .i64 1, .string ⟨#[]⟩, .int .i64 0]))) := by
    have := pprop_any H6.out lim4 awX (by decide)
    rw [f5, aq5_eq] at this
    exact this
  have Q8 : Hid (∀ y S', PS y w.heap.size X S' aq5 → Calls Try.prog 22 #[.pointer (some ⟨X, 0, none⟩)] y (AskPost y (openP aq5))) := fun y S' h => popen_any h lim5
  have hAw := HA.out
  clear k5 k6 h6 B5 B6a nO3 nb3 nO4 nb4 z5 z6 HA4 q4 Q5 nO2 nb2 nO1 nO0 e1 z2 z2b z3 z4 hbk hk3 f1 f2 f3 f4 f5 f7 m0 m1 m2 m3 n0 n1 n2 n3
  refine wp_region_held_drew (S := (AwS O bk)) (by kernel_rfl) ?_ (fun hHeld0 => ?_)
  · assumption
  refine tk0 (.bool false) (by kernel_rfl) (by kernel_rfl) (by kernel_rfl) (fun _ _ _ h => h) rfl (fun w hSw => by (try dsimp only at hSw); obtain ⟨s0, s1, s2, s3, s4, s5, s6, s7, s8, s9, s10, s11, s12, s13, s14, s15, s16⟩ := hSw; go_simp) (by assumption) ?_
  try simp only [Act.put, List.setIfInBounds_toArray, List.set_cons_zero, List.set_cons_succ]
  refine tk1 (.bool true) (by kernel_rfl) (by kernel_rfl) (by kernel_rfl) (fun _ _ _ h => h) rfl (fun w hSw => by (try dsimp only at hSw); obtain ⟨s0, s1, s2, s3, s4, s5, s6, s7, s8, s9, s10, s11, s12, s13, s14, s15, s16⟩ := hSw; go_simp) (by assumption) ?_
  try simp only [Act.put, List.setIfInBounds_toArray, List.set_cons_zero, List.set_cons_succ]
  refine tk2 (.bool true) (by kernel_rfl) (by kernel_rfl) (by kernel_rfl) (fun _ _ _ h => h) rfl (fun w hSw => by (try dsimp only at hSw); obtain ⟨s0, s1, s2, s3, s4, s5, s6, s7, s8, s9, s10, s11, s12, s13, s14, s15, s16⟩ := hSw; go_simp) (by assumption) ?_
  try simp only [Act.put, List.setIfInBounds_toArray, List.set_cons_zero, List.set_cons_succ]
  refine tk3 (.bool true) (by kernel_rfl) (by kernel_rfl) (by kernel_rfl) (fun _ _ _ h => h) rfl (fun w hSw => by (try dsimp only at hSw); obtain ⟨s0, s1, s2, s3, s4, s5, s6, s7, s8, s9, s10, s11, s12, s13, s14, s15, s16⟩ := hSw; go_simp) (by assumption) ?_
  try simp only [Act.put, List.setIfInBounds_toArray, List.set_cons_zero, List.set_cons_succ]
  refine tk4 (.bool true) (by kernel_rfl) (by kernel_rfl) (by kernel_rfl) (fun _ _ _ h => h) rfl (fun w hSw => by (try dsimp only at hSw); obtain ⟨s0, s1, s2, s3, s4, s5, s6, s7, s8, s9, s10, s11, s12, s13, s14, s15, s16⟩ := hSw; go_simp) (by assumption) ?_
  try simp only [Act.put, List.setIfInBounds_toArray, List.set_cons_zero, List.set_cons_succ]
  refine tk5 (.bool true) (by kernel_rfl) (by kernel_rfl) (by kernel_rfl) (fun _ _ _ h => h) rfl (fun w hSw => by (try dsimp only at hSw); obtain ⟨s0, s1, s2, s3, s4, s5, s6, s7, s8, s9, s10, s11, s12, s13, s14, s15, s16⟩ := hSw; go_simp) (by assumption) ?_
  try simp only [Act.put, List.setIfInBounds_toArray, List.set_cons_zero, List.set_cons_succ]
  refine tk6 (.pointer (some ⟨X, 0, none⟩)) (by kernel_rfl) (by kernel_rfl) (by kernel_rfl) (fun _ _ _ h => h) rfl (fun w hSw => by (try dsimp only at hSw); obtain ⟨s0, s1, s2, s3, s4, s5, s6, s7, s8, s9, s10, s11, s12, s13, s14, s15, s16⟩ := hSw; go_simp) (by assumption) ?_
  try simp only [Act.put, List.setIfInBounds_toArray, List.set_cons_zero, List.set_cons_succ]
  refine cl7 (by kernel_rfl) rfl (fun K hK => ?_)
  go_simp
  go_at_call 19
  refine Calls.mono Q6.out ?_
  rintro r w9 ⟨rfl, hw9⟩
  rw [hw9]
  clear hw9
  refine hK.out _ _ ?_ (fun hHeld => ?_)
  · assumption
  clear hK K
  try simp only [Act.put, List.setIfInBounds_toArray, List.set_cons_zero, List.set_cons_succ]
  refine tk8 (.bool true) (by kernel_rfl) (by kernel_rfl) (by kernel_rfl) (fun _ _ _ h => h) rfl (fun w hSw => by (try dsimp only at hSw); obtain ⟨s0, s1, s2, s3, s4, s5, s6, s7, s8, s9, s10, s11, s12, s13, s14, s15, s16⟩ := hSw; go_simp) (by assumption) ?_
  try simp only [Act.put, List.setIfInBounds_toArray, List.set_cons_zero, List.set_cons_succ]
  refine tk9 (.bool true) (by kernel_rfl) (by kernel_rfl) (by kernel_rfl) (fun _ _ _ h => h) rfl (fun w hSw => by (try dsimp only at hSw); obtain ⟨s0, s1, s2, s3, s4, s5, s6, s7, s8, s9, s10, s11, s12, s13, s14, s15, s16⟩ := hSw; go_simp) (by assumption) ?_
  try simp only [Act.put, List.setIfInBounds_toArray, List.set_cons_zero, List.set_cons_succ]
  refine tk10 (.slice (some ⟨bk, 0, none⟩) 3 cap) (by kernel_rfl) (by kernel_rfl) (by kernel_rfl) (fun _ _ _ h => h) rfl (fun w hSw => by (try dsimp only at hSw); obtain ⟨s0, s1, s2, s3, s4, s5, s6, s7, s8, s9, s10, s11, s12, s13, s14, s15, s16⟩ := hSw; go_simp) (by assumption) ?_
  try simp only [Act.put, List.setIfInBounds_toArray, List.set_cons_zero, List.set_cons_succ]
  refine tk11 (.int .i64 3) (by kernel_rfl) (by kernel_rfl) (by kernel_rfl) (fun _ _ _ h => h) rfl (fun w hSw => by (try dsimp only at hSw); obtain ⟨s0, s1, s2, s3, s4, s5, s6, s7, s8, s9, s10, s11, s12, s13, s14, s15, s16⟩ := hSw; go_simp) (by assumption) ?_
  try simp only [Act.put, List.setIfInBounds_toArray, List.set_cons_zero, List.set_cons_succ]
  refine tk12 (.bool true) (by kernel_rfl) (by kernel_rfl) (by kernel_rfl) (fun _ _ _ h => h) rfl (fun w hSw => by (try dsimp only at hSw); obtain ⟨s0, s1, s2, s3, s4, s5, s6, s7, s8, s9, s10, s11, s12, s13, s14, s15, s16⟩ := hSw; go_simp) (by assumption) ?_
  try simp only [Act.put, List.setIfInBounds_toArray, List.set_cons_zero, List.set_cons_succ]
  refine tk13 (.bool true) (by kernel_rfl) (by kernel_rfl) (by kernel_rfl) (fun _ _ _ h => h) rfl (fun w hSw => by (try dsimp only at hSw); obtain ⟨s0, s1, s2, s3, s4, s5, s6, s7, s8, s9, s10, s11, s12, s13, s14, s15, s16⟩ := hSw; go_simp) (by assumption) ?_
  try simp only [Act.put, List.setIfInBounds_toArray, List.set_cons_zero, List.set_cons_succ]
  refine tk14 (.bool true) (by kernel_rfl) (by kernel_rfl) (by kernel_rfl) (fun _ _ _ h => h) rfl (fun w hSw => by (try dsimp only at hSw); obtain ⟨s0, s1, s2, s3, s4, s5, s6, s7, s8, s9, s10, s11, s12, s13, s14, s15, s16⟩ := hSw; go_simp) (by assumption) ?_
  try simp only [Act.put, List.setIfInBounds_toArray, List.set_cons_zero, List.set_cons_succ]
  refine tk15 (.slice (some ⟨bk, 0, none⟩) 3 cap) (by kernel_rfl) (by kernel_rfl) (by kernel_rfl) (fun _ _ _ h => h) rfl (fun w hSw => by (try dsimp only at hSw); obtain ⟨s0, s1, s2, s3, s4, s5, s6, s7, s8, s9, s10, s11, s12, s13, s14, s15, s16⟩ := hSw; go_simp) (by assumption) ?_
  try simp only [Act.put, List.setIfInBounds_toArray, List.set_cons_zero, List.set_cons_succ]
  refine tk16 (.pointer (some ⟨bk, 0, none⟩)) (by kernel_rfl) (by kernel_rfl) (by kernel_rfl) (fun _ _ _ h => h) rfl (fun w hSw => by (try dsimp only at hSw); obtain ⟨s0, s1, s2, s3, s4, s5, s6, s7, s8, s9, s10, s11, s12, s13, s14, s15, s16⟩ := hSw; go_simp) (by assumption) ?_
  try simp only [Act.put, List.setIfInBounds_toArray, List.set_cons_zero, List.set_cons_succ]
  refine tk17 (.pointer (some ⟨bk, 2, none⟩)) (by kernel_rfl) (by kernel_rfl) (by kernel_rfl) (fun _ _ _ h => h) rfl (fun w hSw => by (try dsimp only at hSw); obtain ⟨s0, s1, s2, s3, s4, s5, s6, s7, s8, s9, s10, s11, s12, s13, s14, s15, s16⟩ := hSw; go_simp) (by assumption) ?_
  try simp only [Act.put, List.setIfInBounds_toArray, List.set_cons_zero, List.set_cons_succ]
  refine tk18 (.agg #[.int .i64 0, .int .i64 0, .int .i64 0, .string ⟨#[]⟩, .int .i64 0]) (by kernel_rfl) (by kernel_rfl) (by kernel_rfl) (fun _ _ _ h => h) rfl (fun w hSw => by (try dsimp only at hSw); obtain ⟨s0, s1, s2, s3, s4, s5, s6, s7, s8, s9, s10, s11, s12, s13, s14, s15, s16⟩ := hSw; go_simp) (by assumption) ?_
  try simp only [Act.put, List.setIfInBounds_toArray, List.set_cons_zero, List.set_cons_succ]
  refine tk19 (.agg #[.int .i64 0, .int .i64 0, .int .i64 0, .string ⟨#[]⟩, .int .i64 0]) (by kernel_rfl) (by kernel_rfl) (by kernel_rfl) (fun _ _ _ h => h) rfl (fun w hSw => by (try dsimp only at hSw); obtain ⟨s0, s1, s2, s3, s4, s5, s6, s7, s8, s9, s10, s11, s12, s13, s14, s15, s16⟩ := hSw; go_simp) (by assumption) ?_
  try simp only [Act.put, List.setIfInBounds_toArray, List.set_cons_zero, List.set_cons_succ]
  refine tk20 (.bool true) (by kernel_rfl) (by kernel_rfl) (by kernel_rfl) (fun _ _ _ h => h) rfl (fun w hSw => by (try dsimp only at hSw); obtain ⟨s0, s1, s2, s3, s4, s5, s6, s7, s8, s9, s10, s11, s12, s13, s14, s15, s16⟩ := hSw; (first | (go_simp; done) | (simp [go_sem]; done) | kernel_rfl)) (by assumption) ?_
  try simp only [Act.put, List.setIfInBounds_toArray, List.set_cons_zero, List.set_cons_succ]
  refine tk21 (.bool true) (by kernel_rfl) (by kernel_rfl) (by kernel_rfl) (fun _ _ _ h => h) rfl (fun w hSw => by (try dsimp only at hSw); obtain ⟨s0, s1, s2, s3, s4, s5, s6, s7, s8, s9, s10, s11, s12, s13, s14, s15, s16⟩ := hSw; go_simp) (by assumption) ?_
  try simp only [Act.put, List.setIfInBounds_toArray, List.set_cons_zero, List.set_cons_succ]
  refine tk22 (.bool true) (by kernel_rfl) (by kernel_rfl) (by kernel_rfl) (fun _ _ _ h => h) rfl (fun w hSw => by (try dsimp only at hSw); obtain ⟨s0, s1, s2, s3, s4, s5, s6, s7, s8, s9, s10, s11, s12, s13, s14, s15, s16⟩ := hSw; go_simp) (by assumption) ?_
  try simp only [Act.put, List.setIfInBounds_toArray, List.set_cons_zero, List.set_cons_succ]
  refine tk23 (.slice (some ⟨bk, 0, none⟩) 3 cap) (by kernel_rfl) (by kernel_rfl) (by kernel_rfl) (fun _ _ _ h => h) rfl (fun w hSw => by (try dsimp only at hSw); obtain ⟨s0, s1, s2, s3, s4, s5, s6, s7, s8, s9, s10, s11, s12, s13, s14, s15, s16⟩ := hSw; go_simp) (by assumption) ?_
  try simp only [Act.put, List.setIfInBounds_toArray, List.set_cons_zero, List.set_cons_succ]
  refine tk24 (.pointer (some ⟨bk, 7, none⟩)) (by kernel_rfl) (by kernel_rfl) (by kernel_rfl) (fun _ _ _ h => h) rfl (fun w hSw => by (try dsimp only at hSw); obtain ⟨s0, s1, s2, s3, s4, s5, s6, s7, s8, s9, s10, s11, s12, s13, s14, s15, s16⟩ := hSw; go_simp) (by assumption) ?_
  try simp only [Act.put, List.setIfInBounds_toArray, List.set_cons_zero, List.set_cons_succ]
  refine tk25 (.pointer (some ⟨bk, 9, none⟩)) (by kernel_rfl) (by kernel_rfl) (by kernel_rfl) (fun _ _ _ h => h) rfl (fun w hSw => by (try dsimp only at hSw); obtain ⟨s0, s1, s2, s3, s4, s5, s6, s7, s8, s9, s10, s11, s12, s13, s14, s15, s16⟩ := hSw; go_simp) (by assumption) ?_
  try simp only [Act.put, List.setIfInBounds_toArray, List.set_cons_zero, List.set_cons_succ]
  refine tk26 (.agg #[.int .i64 2, .int .i64 1, .int .i64 1, .string ⟨#[]⟩, .int .i64 0]) (by kernel_rfl) (by kernel_rfl) (by kernel_rfl) (fun _ _ _ h => h) rfl (fun w hSw => by (try dsimp only at hSw); obtain ⟨s0, s1, s2, s3, s4, s5, s6, s7, s8, s9, s10, s11, s12, s13, s14, s15, s16⟩ := hSw; go_simp) (by assumption) ?_
  try simp only [Act.put, List.setIfInBounds_toArray, List.set_cons_zero, List.set_cons_succ]
  refine tk27 (.agg #[.int .i64 2, .int .i64 1, .int .i64 1, .string ⟨#[]⟩, .int .i64 0]) (by kernel_rfl) (by kernel_rfl) (by kernel_rfl) (fun _ _ _ h => h) rfl (fun w hSw => by (try dsimp only at hSw); obtain ⟨s0, s1, s2, s3, s4, s5, s6, s7, s8, s9, s10, s11, s12, s13, s14, s15, s16⟩ := hSw; go_simp) (by assumption) ?_
  try simp only [Act.put, List.setIfInBounds_toArray, List.set_cons_zero, List.set_cons_succ]
  refine tk28 (.bool true) (by kernel_rfl) (by kernel_rfl) (by kernel_rfl) (fun _ _ _ h => h) rfl (fun w hSw => by (try dsimp only at hSw); obtain ⟨s0, s1, s2, s3, s4, s5, s6, s7, s8, s9, s10, s11, s12, s13, s14, s15, s16⟩ := hSw; (first | (go_simp; done) | (simp [go_sem]; done) | kernel_rfl)) (by assumption) ?_
  try simp only [Act.put, List.setIfInBounds_toArray, List.set_cons_zero, List.set_cons_succ]
  refine tk29 (.bool true) (by kernel_rfl) (by kernel_rfl) (by kernel_rfl) (fun _ _ _ h => h) rfl (fun w hSw => by (try dsimp only at hSw); obtain ⟨s0, s1, s2, s3, s4, s5, s6, s7, s8, s9, s10, s11, s12, s13, s14, s15, s16⟩ := hSw; go_simp) (by assumption) ?_
  try simp only [Act.put, List.setIfInBounds_toArray, List.set_cons_zero, List.set_cons_succ]
  refine tk30 (.bool true) (by kernel_rfl) (by kernel_rfl) (by kernel_rfl) (fun _ _ _ h => h) rfl (fun w hSw => by (try dsimp only at hSw); obtain ⟨s0, s1, s2, s3, s4, s5, s6, s7, s8, s9, s10, s11, s12, s13, s14, s15, s16⟩ := hSw; go_simp) (by assumption) ?_
  try simp only [Act.put, List.setIfInBounds_toArray, List.set_cons_zero, List.set_cons_succ]
  refine tk31 (.slice (some ⟨bk, 0, none⟩) 3 cap) (by kernel_rfl) (by kernel_rfl) (by kernel_rfl) (fun _ _ _ h => h) rfl (fun w hSw => by (try dsimp only at hSw); obtain ⟨s0, s1, s2, s3, s4, s5, s6, s7, s8, s9, s10, s11, s12, s13, s14, s15, s16⟩ := hSw; go_simp) (by assumption) ?_
  try simp only [Act.put, List.setIfInBounds_toArray, List.set_cons_zero, List.set_cons_succ]
  refine tk32 (.pointer (some ⟨bk, 7, none⟩)) (by kernel_rfl) (by kernel_rfl) (by kernel_rfl) (fun _ _ _ h => h) rfl (fun w hSw => by (try dsimp only at hSw); obtain ⟨s0, s1, s2, s3, s4, s5, s6, s7, s8, s9, s10, s11, s12, s13, s14, s15, s16⟩ := hSw; go_simp) (by assumption) ?_
  try simp only [Act.put, List.setIfInBounds_toArray, List.set_cons_zero, List.set_cons_succ]
  refine tk33 (.pointer (some ⟨bk, 8, none⟩)) (by kernel_rfl) (by kernel_rfl) (by kernel_rfl) (fun _ _ _ h => h) rfl (fun w hSw => by (try dsimp only at hSw); obtain ⟨s0, s1, s2, s3, s4, s5, s6, s7, s8, s9, s10, s11, s12, s13, s14, s15, s16⟩ := hSw; go_simp) (by assumption) ?_
  try simp only [Act.put, List.setIfInBounds_toArray, List.set_cons_zero, List.set_cons_succ]
  refine tk34 (.int .i64 9) (by kernel_rfl) (by kernel_rfl) (by kernel_rfl) (fun _ _ _ h => h) rfl (fun w hSw => by (try dsimp only at hSw); obtain ⟨s0, s1, s2, s3, s4, s5, s6, s7, s8, s9, s10, s11, s12, s13, s14, s15, s16⟩ := hSw; go_simp) (by assumption) ?_
  try simp only [Act.put, List.setIfInBounds_toArray, List.set_cons_zero, List.set_cons_succ]
  refine tk35 (.bool true) (by kernel_rfl) (by kernel_rfl) (by kernel_rfl) (fun _ _ _ h => h) rfl (fun w hSw => by (try dsimp only at hSw); obtain ⟨s0, s1, s2, s3, s4, s5, s6, s7, s8, s9, s10, s11, s12, s13, s14, s15, s16⟩ := hSw; go_simp) (by assumption) ?_
  try simp only [Act.put, List.setIfInBounds_toArray, List.set_cons_zero, List.set_cons_succ]
  refine tk36 (.bool true) (by kernel_rfl) (by kernel_rfl) (by kernel_rfl) (fun _ _ _ h => h) rfl (fun w hSw => by (try dsimp only at hSw); obtain ⟨s0, s1, s2, s3, s4, s5, s6, s7, s8, s9, s10, s11, s12, s13, s14, s15, s16⟩ := hSw; go_simp) (by assumption) ?_
  try simp only [Act.put, List.setIfInBounds_toArray, List.set_cons_zero, List.set_cons_succ]
  refine tk37 (.bool true) (by kernel_rfl) (by kernel_rfl) (by kernel_rfl) (fun _ _ _ h => h) rfl (fun w hSw => by (try dsimp only at hSw); obtain ⟨s0, s1, s2, s3, s4, s5, s6, s7, s8, s9, s10, s11, s12, s13, s14, s15, s16⟩ := hSw; go_simp) (by assumption) ?_
  try simp only [Act.put, List.setIfInBounds_toArray, List.set_cons_zero, List.set_cons_succ]
  refine tk38 (.slice (some ⟨bk, 0, none⟩) 3 cap) (by kernel_rfl) (by kernel_rfl) (by kernel_rfl) (fun _ _ _ h => h) rfl (fun w hSw => by (try dsimp only at hSw); obtain ⟨s0, s1, s2, s3, s4, s5, s6, s7, s8, s9, s10, s11, s12, s13, s14, s15, s16⟩ := hSw; go_simp) (by assumption) ?_
  try simp only [Act.put, List.setIfInBounds_toArray, List.set_cons_zero, List.set_cons_succ]
  refine tk39 (.pointer (some ⟨bk, 14, none⟩)) (by kernel_rfl) (by kernel_rfl) (by kernel_rfl) (fun _ _ _ h => h) rfl (fun w hSw => by (try dsimp only at hSw); obtain ⟨s0, s1, s2, s3, s4, s5, s6, s7, s8, s9, s10, s11, s12, s13, s14, s15, s16⟩ := hSw; go_simp) (by assumption) ?_
  try simp only [Act.put, List.setIfInBounds_toArray, List.set_cons_zero, List.set_cons_succ]
  refine tk40 (.pointer (some ⟨bk, 16, none⟩)) (by kernel_rfl) (by kernel_rfl) (by kernel_rfl) (fun _ _ _ h => h) rfl (fun w hSw => by (try dsimp only at hSw); obtain ⟨s0, s1, s2, s3, s4, s5, s6, s7, s8, s9, s10, s11, s12, s13, s14, s15, s16⟩ := hSw; go_simp) (by assumption) ?_
  try simp only [Act.put, List.setIfInBounds_toArray, List.set_cons_zero, List.set_cons_succ]
  refine tk41 (.pointer (some ⟨bk, 16, none⟩)) (by kernel_rfl) (by kernel_rfl) (by kernel_rfl) (fun _ _ _ h => h) rfl (fun w hSw => by (try dsimp only at hSw); obtain ⟨s0, s1, s2, s3, s4, s5, s6, s7, s8, s9, s10, s11, s12, s13, s14, s15, s16⟩ := hSw; go_simp) (by assumption) ?_
  try simp only [Act.put, List.setIfInBounds_toArray, List.set_cons_zero, List.set_cons_succ]
  refine tk42 (.int .i64 1) (by kernel_rfl) (by kernel_rfl) (by kernel_rfl) (fun _ _ _ h => h) rfl (fun w hSw => by (try dsimp only at hSw); obtain ⟨s0, s1, s2, s3, s4, s5, s6, s7, s8, s9, s10, s11, s12, s13, s14, s15, s16⟩ := hSw; go_simp) (by assumption) ?_
  try simp only [Act.put, List.setIfInBounds_toArray, List.set_cons_zero, List.set_cons_succ]
  refine tk43 (.bool true) (by kernel_rfl) (by kernel_rfl) (by kernel_rfl) (fun _ _ _ h => h) rfl (fun w hSw => by (try dsimp only at hSw); obtain ⟨s0, s1, s2, s3, s4, s5, s6, s7, s8, s9, s10, s11, s12, s13, s14, s15, s16⟩ := hSw; go_simp) (by assumption) ?_
  try simp only [Act.put, List.setIfInBounds_toArray, List.set_cons_zero, List.set_cons_succ]
  refine tk44 (.bool true) (by kernel_rfl) (by kernel_rfl) (by kernel_rfl) (fun _ _ _ h => h) rfl (fun w hSw => by (try dsimp only at hSw); obtain ⟨s0, s1, s2, s3, s4, s5, s6, s7, s8, s9, s10, s11, s12, s13, s14, s15, s16⟩ := hSw; go_simp) (by assumption) ?_
  try simp only [Act.put, List.setIfInBounds_toArray, List.set_cons_zero, List.set_cons_succ]
  refine tk45 (.bool true) (by kernel_rfl) (by kernel_rfl) (by kernel_rfl) (fun _ _ _ h => h) rfl (fun w hSw => by (try dsimp only at hSw); obtain ⟨s0, s1, s2, s3, s4, s5, s6, s7, s8, s9, s10, s11, s12, s13, s14, s15, s16⟩ := hSw; go_simp) (by assumption) ?_
  try simp only [Act.put, List.setIfInBounds_toArray, List.set_cons_zero, List.set_cons_succ]
  refine tk46 (.bool false) (by kernel_rfl) (by kernel_rfl) (by kernel_rfl) (fun _ _ _ h => h) rfl (fun w hSw => by (try dsimp only at hSw); obtain ⟨s0, s1, s2, s3, s4, s5, s6, s7, s8, s9, s10, s11, s12, s13, s14, s15, s16⟩ := hSw; go_simp) (by assumption) ?_
  try simp only [Act.put, List.setIfInBounds_toArray, List.set_cons_zero, List.set_cons_succ]
  refine tk47 (.bool true) (by kernel_rfl) (by kernel_rfl) (by kernel_rfl) (fun _ _ _ h => h) rfl (fun w hSw => by (try dsimp only at hSw); obtain ⟨s0, s1, s2, s3, s4, s5, s6, s7, s8, s9, s10, s11, s12, s13, s14, s15, s16⟩ := hSw; go_simp) (by assumption) ?_
  try simp only [Act.put, List.setIfInBounds_toArray, List.set_cons_zero, List.set_cons_succ]
  refine tk48 (.bool true) (by kernel_rfl) (by kernel_rfl) (by kernel_rfl) (fun _ _ _ h => h) rfl (fun w hSw => by (try dsimp only at hSw); obtain ⟨s0, s1, s2, s3, s4, s5, s6, s7, s8, s9, s10, s11, s12, s13, s14, s15, s16⟩ := hSw; go_simp) (by assumption) ?_
  try simp only [Act.put, List.setIfInBounds_toArray, List.set_cons_zero, List.set_cons_succ]
  refine tk49 (.bool true) (by kernel_rfl) (by kernel_rfl) (by kernel_rfl) (fun _ _ _ h => h) rfl (fun w hSw => by (try dsimp only at hSw); obtain ⟨s0, s1, s2, s3, s4, s5, s6, s7, s8, s9, s10, s11, s12, s13, s14, s15, s16⟩ := hSw; go_simp) (by assumption) ?_
  try simp only [Act.put, List.setIfInBounds_toArray, List.set_cons_zero, List.set_cons_succ]
  refine tk50 (.bool true) (by kernel_rfl) (by kernel_rfl) (by kernel_rfl) (fun _ _ _ h => h) rfl (fun w hSw => by (try dsimp only at hSw); obtain ⟨s0, s1, s2, s3, s4, s5, s6, s7, s8, s9, s10, s11, s12, s13, s14, s15, s16⟩ := hSw; go_simp) (by assumption) ?_
  try simp only [Act.put, List.setIfInBounds_toArray, List.set_cons_zero, List.set_cons_succ]
  refine tk51 (.bool true) (by kernel_rfl) (by kernel_rfl) (by kernel_rfl) (fun _ _ _ h => h) rfl (fun w hSw => by (try dsimp only at hSw); obtain ⟨s0, s1, s2, s3, s4, s5, s6, s7, s8, s9, s10, s11, s12, s13, s14, s15, s16⟩ := hSw; go_simp) (by assumption) ?_
  try simp only [Act.put, List.setIfInBounds_toArray, List.set_cons_zero, List.set_cons_succ]
  refine tk52 (.bool true) (by kernel_rfl) (by kernel_rfl) (by kernel_rfl) (fun _ _ _ h => h) rfl (fun w hSw => by (try dsimp only at hSw); obtain ⟨s0, s1, s2, s3, s4, s5, s6, s7, s8, s9, s10, s11, s12, s13, s14, s15, s16⟩ := hSw; go_simp) (by assumption) ?_
  try simp only [Act.put, List.setIfInBounds_toArray, List.set_cons_zero, List.set_cons_succ]
  refine tk53 (.pointer (some ⟨X, 0, none⟩)) (by kernel_rfl) (by kernel_rfl) (by kernel_rfl) (fun _ _ _ h => h) rfl (fun w hSw => by (try dsimp only at hSw); obtain ⟨s0, s1, s2, s3, s4, s5, s6, s7, s8, s9, s10, s11, s12, s13, s14, s15, s16⟩ := hSw; go_simp) (by assumption) ?_
  try simp only [Act.put, List.setIfInBounds_toArray, List.set_cons_zero, List.set_cons_succ]
  refine tk54 (.agg #[.int .i64 2, .int .i64 1, .int .i64 1, .string ⟨#[]⟩, .int .i64 0]) (by kernel_rfl) (by kernel_rfl) (by kernel_rfl) (fun _ _ _ h => h) rfl (fun w hSw => by (try dsimp only at hSw); obtain ⟨s0, s1, s2, s3, s4, s5, s6, s7, s8, s9, s10, s11, s12, s13, s14, s15, s16⟩ := hSw; go_simp) (by assumption) ?_
  try simp only [Act.put, List.setIfInBounds_toArray, List.set_cons_zero, List.set_cons_succ]
  refine cl55 (by kernel_rfl) rfl (fun K hK => ?_)
  go_simp
  go_at_call 15
  refine Calls.mono Q7.out ?_
  rintro r w7 ⟨S5, rfl, h7, k7⟩
  have a7 : AwS O bk w7 := HA.out.keep (k7.kept O N6.out.1.2 N6.out.1.1) (k7.kept bk N6.out.2.2 N6.out.2.1)
  have H7 : Hid _ := h7
  have B7 : Hid (Below w.heap.size w w7) := B6.out.trans (k7.low B6.out.size (fun b hb => (H6.out.bd b hb).1))
  have Z7 : Hid (w6.drew.heap.size ≤ w7.heap.size) := k7.size
  clear h7 k7
  refine hK.out _ _ ?_ (fun hHeld => ?_)
  · assumption
  clear hK K
  try simp only [Act.put, List.setIfInBounds_toArray, List.set_cons_zero, List.set_cons_succ]
  refine tk56 (.int .i64 4) (by kernel_rfl) (by kernel_rfl) (by kernel_rfl) (fun _ _ _ h => h) rfl (fun w hSw => by (try dsimp only at hSw); obtain ⟨s0, s1, s2, s3, s4, s5, s6, s7, s8, s9, s10, s11, s12, s13, s14, s15, s16⟩ := hSw; kernel_rfl) (by assumption) ?_
  try simp only [Act.put, List.setIfInBounds_toArray, List.set_cons_zero, List.set_cons_succ]
  refine tk57 (.bool true) (by kernel_rfl) (by kernel_rfl) (by kernel_rfl) (fun _ _ _ h => h) rfl (fun w hSw => by (try dsimp only at hSw); obtain ⟨s0, s1, s2, s3, s4, s5, s6, s7, s8, s9, s10, s11, s12, s13, s14, s15, s16⟩ := hSw; go_simp) (by assumption) ?_
  try simp only [Act.put, List.setIfInBounds_toArray, List.set_cons_zero, List.set_cons_succ]
  refine tk58 (.bool true) (by kernel_rfl) (by kernel_rfl) (by kernel_rfl) (fun _ _ _ h => h) rfl (fun w hSw => by (try dsimp only at hSw); obtain ⟨s0, s1, s2, s3, s4, s5, s6, s7, s8, s9, s10, s11, s12, s13, s14, s15, s16⟩ := hSw; go_simp) (by assumption) ?_
  try simp only [Act.put, List.setIfInBounds_toArray, List.set_cons_zero, List.set_cons_succ]
  refine tk59 (.bool true) (by kernel_rfl) (by kernel_rfl) (by kernel_rfl) (fun _ _ _ h => h) rfl (fun w hSw => by (try dsimp only at hSw); obtain ⟨s0, s1, s2, s3, s4, s5, s6, s7, s8, s9, s10, s11, s12, s13, s14, s15, s16⟩ := hSw; go_simp) (by assumption) ?_
  try simp only [Act.put, List.setIfInBounds_toArray, List.set_cons_zero, List.set_cons_succ]
  refine tk60 (.pointer (some ⟨X, 0, none⟩)) (by kernel_rfl) (by kernel_rfl) (by kernel_rfl) (fun _ _ _ h => h) rfl (fun w hSw => by (try dsimp only at hSw); obtain ⟨s0, s1, s2, s3, s4, s5, s6, s7, s8, s9, s10, s11, s12, s13, s14, s15, s16⟩ := hSw; go_simp) (by assumption) ?_
  try simp only [Act.put, List.setIfInBounds_toArray, List.set_cons_zero, List.set_cons_succ]
  refine cl61 (by kernel_rfl) rfl (fun K hK => ?_)
  go_simp
  go_at_call 22
  refine Calls.mono (Q8.out _ _ H7.out) ?_
  rintro r w8 ⟨u8, rfl, o8, b8⟩
  obtain ⟨p8, c8, hu8⟩ := (OwnEn.row o8).form
  rw [f6] at hu8
  subst hu8
  have a8 : AwS O bk w8 := a7.keep (b8.block O (by have := N6.out.1.2; have := Z7.out; omega)) (b8.block bk (by have := N6.out.2.2; have := Z7.out; omega))
  have B8 : Hid (Below w.heap.size w w8) := bmm B7.out B7.out.size b8
  clear o8 b8
  refine hK.out _ _ ?_ (fun hHeld => ?_)
  · assumption
  clear hK K
  try simp only [Act.put, List.setIfInBounds_toArray, List.set_cons_zero, List.set_cons_succ]
  refine tk62 (.int .i64 4) (by kernel_rfl) (by kernel_rfl) (by kernel_rfl) (fun _ _ _ h => h) rfl (fun w hSw => by (try dsimp only at hSw); obtain ⟨s0, s1, s2, s3, s4, s5, s6, s7, s8, s9, s10, s11, s12, s13, s14, s15, s16⟩ := hSw; go_simp) (by assumption) ?_
  try simp only [Act.put, List.setIfInBounds_toArray, List.set_cons_zero, List.set_cons_succ]
  refine tk63 (.bool true) (by kernel_rfl) (by kernel_rfl) (by kernel_rfl) (fun _ _ _ h => h) rfl (fun w hSw => by (try dsimp only at hSw); obtain ⟨s0, s1, s2, s3, s4, s5, s6, s7, s8, s9, s10, s11, s12, s13, s14, s15, s16⟩ := hSw; go_simp) (by assumption) ?_
  try simp only [Act.put, List.setIfInBounds_toArray, List.set_cons_zero, List.set_cons_succ]
  refine tk64 (.bool true) (by kernel_rfl) (by kernel_rfl) (by kernel_rfl) (fun _ _ _ h => h) rfl (fun w hSw => by (try dsimp only at hSw); obtain ⟨s0, s1, s2, s3, s4, s5, s6, s7, s8, s9, s10, s11, s12, s13, s14, s15, s16⟩ := hSw; go_simp) (by assumption) ?_
  try simp only [Act.put, List.setIfInBounds_toArray, List.set_cons_zero, List.set_cons_succ]
  refine tk65 (.bool true) (by kernel_rfl) (by kernel_rfl) (by kernel_rfl) (fun _ _ _ h => h) rfl (fun w hSw => by (try dsimp only at hSw); obtain ⟨s0, s1, s2, s3, s4, s5, s6, s7, s8, s9, s10, s11, s12, s13, s14, s15, s16⟩ := hSw; go_simp) (by assumption) ?_
  try simp only [Act.put, List.setIfInBounds_toArray, List.set_cons_zero]
  refine wpAnyH_done (by kernel_rfl) ?_ _
  go_wp2
  go_returns
  exact ⟨rfl, B8.out⟩
end Go.Proofs.Ytmlgoecdefeapaa
