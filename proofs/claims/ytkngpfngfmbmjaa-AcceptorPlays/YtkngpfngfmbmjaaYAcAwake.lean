/-
  Chapter 15's examples hold. No condition.
-/
import Derived.Test.YtkngpfngfmbmjaaYAcNew
namespace Go.Proofs.Ytkngpfngfmbmjaa
open Go.Shelf Go.RowKit Go.Lib Go.Sort


theorem kept_out {T : TypeId} {w w' : World} {base X O : Nat} {S S' : Nat → Prop} {d : Du} {v : Value} {cs : Array Value} {t : TypeId} (h : AcAt T w base S X d v) (k : Kept w w' S S') (hO : w.heap[O]? = some (.cells cs t (0, 0))) (h1 : T ≠ t) (h2 : 36 ≠ t) : w'.heap[O]? = some (.cells cs t (0, 0)) :=
  (k.kept O (lt_of_block hO) (fun e => h.neT hO h1 h2 O e rfl)).trans hO
def aw0 : Du := ⟨0, 0, ⟨#[]⟩, []⟩
def awE : En := ⟨1, 0, ⟨0, 0, 0, ⟨#[]⟩, 0⟩⟩
def aw1 : Ans := prepD aw0 9
def aw2 : Ans := prepD aw1.st 8
def aw3 : Ans := accD aw2.st 9 awE
def aw4 : Ans := accD aw3.st 17 awE
theorem aw0_rises : Rises aw0.b aw0.es := ⟨fun e he => by simp [aw0] at he, List.Pairwise.nil⟩
theorem aw2_rises : Rises aw2.st.b aw2.st.es := prepD_rises 8 (prepD_rises 9 aw0_rises)
theorem aw3_rises : Rises aw3.st.b aw3.st.es := accD_rises 9 awE aw2_rises
theorem aw4_rises : Rises aw4.st.b aw4.st.es := accD_rises 17 awE aw3_rises
theorem aw_facts : aw1.ok = true ∧ aw1.recs.length = 1 ∧ aw2.ok = false ∧ aw2.recs.length = 0 ∧ aw3.ok = true ∧ aw3.recs.length = 1 ∧ aw4.ok = true ∧ aw4.recs.length = 2 ∧ aw4.st.p = 17 := by
  refine ⟨?_, ?_, ?_, ?_, ?_, ?_, ?_, ?_, ?_⟩ <;> kernel_rfl
theorem aw_lens : aw2.st.es.length ≤ 536870912 ∧ aw3.st.es.length ≤ 536870912 ∧ aw4.st.es.length ≤ 536870912 := by
  have h2 : aw2.st.es.length = 0 := by kernel_rfl
  have h3 : aw3.st.es.length = 1 := by kernel_rfl
  have h4 : aw4.st.es.length = 1 := by kernel_rfl
  omega
theorem aw_find : findE aw4.st.es 1 = some ⟨1, 17, ⟨0, 0, 0, ⟨#[]⟩, 0⟩⟩ := by kernel_rfl
theorem awE_name : nameOk awE.cmd.name := by unfold nameOk; decide
theorem aw4_names : ∀ e ∈ aw4.st.es, nameOk e.cmd.name := by
  have h : aw4.st.es = [⟨1, 17, ⟨0, 0, 0, ⟨#[]⟩, 0⟩⟩] := by kernel_rfl
  rw [h]
  intro e he
  rw [List.mem_singleton] at he
  rw [he]
  unfold nameOk
  decide
set_option maxHeartbeats 6400000 in
set_option maxRecDepth 100000 in
theorem awake_any (w : World) : Calls Try.prog 9 #[] w fun e w' => e = .returned (.bool true) ∧ Below w.heap.size w w' := by
  obtain ⟨f1, f2, f3, f3b, f4, f5, f6, f7, f8⟩ := aw_facts
  obtain ⟨l2, l3, l4⟩ := aw_lens
  have q0 := pnew_any w aw0 (.slice none 0 0) (RowAt.nil _) (by decide) aw0_rises (by simp [aw0]) ⟨by decide, fun e he => by simp [aw0] at he⟩
  go_enter Try.func9, Try.ntmps9
  go_upto_region 2 with (go_at_call 10; refine q0.mono ?_; rintro x w0 ⟨S0, X, v0, rfl, h0, b0⟩; have H0 : Hid _ := h0; have B0 : Hid _ := b0; clear h0 b0)
  go_upto_region 4 with fail
  have q1 : Calls Try.prog 13 #[.pointer (some ⟨X, 0, none⟩), .int .i64 9] w0 (AnsPost 61 w0 w.heap.size S0 X aw1) := pprep_any H0.out 9
  go_upto_region 5 with (go_at_call 13; refine q1.mono ?_; rintro x w1 ⟨S1, v1, u1, rfl, h1, r1, k1⟩; obtain ⟨p1, c1, hu1⟩ := (OwnRc.row r1).form; rw [f2] at hu1; subst hu1)
  obtain ⟨y1, hy1⟩ : ∃ y, y = w1.alloc (.cells (outA (.slice p1 1 c1)) 42) := ⟨_, rfl⟩
  have a1 : Below w1.heap.size w1 y1 := by rw [hy1]; exact (Below.refl _ _).alloc (Nat.le_refl _) _
  have H1 : Hid (PA y1 w.heap.size S1 X aw1.st v1) := h1.fresh a1
  have o1 : y1.heap[w1.heap.size]? = some (.cells (outA (.slice p1 1 c1)) 42 (0, 0)) := by rw [hy1]; exact heap_alloc_new w1 _
  obtain ⟨O1, hO1⟩ : ∃ O, O = w1.heap.size := ⟨_, rfl⟩
  have B1 : Hid (Below w.heap.size w y1) := bmm (B0.out.trans (k1.low B0.out.size (fun b hb => (H0.out.bd b hb).1))) (B0.out.trans (k1.low B0.out.size (fun b hb => (H0.out.bd b hb).1))).size a1
  rw [← hO1] at o1
  have o1_1 := o1
  have HY1 : Hid (w1.alloc (.cells (outA (.slice p1 1 c1)) 42) = y1) := hy1.symm
  have HO1 : Hid (w1.heap.size = O1) := hO1.symm
  clear q1 hy1 hO1 o1 a1 h1 r1 k1
  rw [HY1.out, HO1.out]
  have q2 : Calls Try.prog 13 #[.pointer (some ⟨X, 0, none⟩), .int .i64 8] y1 (AnsPost 61 y1 w.heap.size S1 X aw2) := pprep_any H1.out 8
  go_upto_region 6 with (go_at_call 13; refine q2.mono ?_; rintro x w2 ⟨S2, v2, u2, rfl, h2, r2, k2⟩; obtain ⟨p2, c2, hu2⟩ := (OwnRc.row r2).form; rw [f3b] at hu2; subst hu2)
  obtain ⟨y2, hy2⟩ : ∃ y, y = w2.alloc (.cells (outA (.slice p2 0 c2)) 42) := ⟨_, rfl⟩
  have a2 : Below w2.heap.size w2 y2 := by rw [hy2]; exact (Below.refl _ _).alloc (Nat.le_refl _) _
  have H2 : Hid (PA y2 w.heap.size S2 X aw2.st v2) := h2.fresh a2
  have o2 : y2.heap[w2.heap.size]? = some (.cells (outA (.slice p2 0 c2)) 42 (0, 0)) := by rw [hy2]; exact heap_alloc_new w2 _
  obtain ⟨O2, hO2⟩ : ∃ O, O = w2.heap.size := ⟨_, rfl⟩
  have B2 : Hid (Below w.heap.size w y2) := bmm (B1.out.trans (k2.low B1.out.size (fun b hb => (H1.out.bd b hb).1))) (B1.out.trans (k2.low B1.out.size (fun b hb => (H1.out.bd b hb).1))).size a2
  have o1_2 : y2.heap[O1]? = some (.cells (outA (.slice p1 1 c1)) 42 (0, 0)) := (a2.block O1 (lt_of_block (kept_out H1.out k2 o1_1 (by decide) (by decide)))).trans (kept_out H1.out k2 o1_1 (by decide) (by decide))
  rw [← hO2] at o2
  have o2_2 := o2
  have HY2 : Hid (w2.alloc (.cells (outA (.slice p2 0 c2)) 42) = y2) := hy2.symm
  have HO2 : Hid (w2.heap.size = O2) := hO2.symm
  clear q2 hy2 hO2 o2 a2 h2 r2 k2
  rw [HY2.out, HO2.out]
  have q3 : Calls Try.prog 15 #[.pointer (some ⟨X, 0, none⟩), .int .i64 9, .agg (enA awE)] y2 (AnsPost 61 y2 w.heap.size S2 X aw3) := pacc_any H2.out aw2_rises l2 9 awE awE_name
  go_upto_region 7 with (go_at_call 15; refine q3.mono ?_; rintro x w3 ⟨S3, v3, u3, rfl, h3, r3, k3⟩; obtain ⟨p3, c3, hu3⟩ := (OwnRc.row r3).form; rw [f5] at hu3; subst hu3)
  obtain ⟨y3, hy3⟩ : ∃ y, y = w3.alloc (.cells (outA (.slice p3 1 c3)) 42) := ⟨_, rfl⟩
  have a3 : Below w3.heap.size w3 y3 := by rw [hy3]; exact (Below.refl _ _).alloc (Nat.le_refl _) _
  have H3 : Hid (PA y3 w.heap.size S3 X aw3.st v3) := h3.fresh a3
  have o3 : y3.heap[w3.heap.size]? = some (.cells (outA (.slice p3 1 c3)) 42 (0, 0)) := by rw [hy3]; exact heap_alloc_new w3 _
  obtain ⟨O3, hO3⟩ : ∃ O, O = w3.heap.size := ⟨_, rfl⟩
  have B3 : Hid (Below w.heap.size w y3) := bmm (B2.out.trans (k3.low B2.out.size (fun b hb => (H2.out.bd b hb).1))) (B2.out.trans (k3.low B2.out.size (fun b hb => (H2.out.bd b hb).1))).size a3
  have o1_3 : y3.heap[O1]? = some (.cells (outA (.slice p1 1 c1)) 42 (0, 0)) := (a3.block O1 (lt_of_block (kept_out H2.out k3 o1_2 (by decide) (by decide)))).trans (kept_out H2.out k3 o1_2 (by decide) (by decide))
  have o2_3 : y3.heap[O2]? = some (.cells (outA (.slice p2 0 c2)) 42 (0, 0)) := (a3.block O2 (lt_of_block (kept_out H2.out k3 o2_2 (by decide) (by decide)))).trans (kept_out H2.out k3 o2_2 (by decide) (by decide))
  rw [← hO3] at o3
  have o3_3 := o3
  have HY3 : Hid (w3.alloc (.cells (outA (.slice p3 1 c3)) 42) = y3) := hy3.symm
  have HO3 : Hid (w3.heap.size = O3) := hO3.symm
  clear q3 hy3 hO3 o3 a3 h3 r3 k3
  rw [HY3.out, HO3.out]
  have q4 : Calls Try.prog 15 #[.pointer (some ⟨X, 0, none⟩), .int .i64 17, .agg (enA awE)] y3 (AnsPost 61 y3 w.heap.size S3 X aw4) := pacc_any H3.out aw3_rises l3 17 awE awE_name
  go_upto_region 8 with (go_at_call 15; refine q4.mono ?_; rintro x w4 ⟨S4, v4, u4, rfl, h4, r4, k4⟩; obtain ⟨p4, c4, hu4⟩ := (OwnRc.row r4).form; rw [f7] at hu4; subst hu4)
  obtain ⟨y4, hy4⟩ : ∃ y, y = w4.alloc (.cells (outA (.slice p4 2 c4)) 42) := ⟨_, rfl⟩
  have a4 : Below w4.heap.size w4 y4 := by rw [hy4]; exact (Below.refl _ _).alloc (Nat.le_refl _) _
  have H4 : Hid (PA y4 w.heap.size S4 X aw4.st v4) := h4.fresh a4
  have o4 : y4.heap[w4.heap.size]? = some (.cells (outA (.slice p4 2 c4)) 42 (0, 0)) := by rw [hy4]; exact heap_alloc_new w4 _
  obtain ⟨O4, hO4⟩ : ∃ O, O = w4.heap.size := ⟨_, rfl⟩
  have B4 : Hid (Below w.heap.size w y4) := bmm (B3.out.trans (k4.low B3.out.size (fun b hb => (H3.out.bd b hb).1))) (B3.out.trans (k4.low B3.out.size (fun b hb => (H3.out.bd b hb).1))).size a4
  have o1_4 : y4.heap[O1]? = some (.cells (outA (.slice p1 1 c1)) 42 (0, 0)) := (a4.block O1 (lt_of_block (kept_out H3.out k4 o1_3 (by decide) (by decide)))).trans (kept_out H3.out k4 o1_3 (by decide) (by decide))
  have o2_4 : y4.heap[O2]? = some (.cells (outA (.slice p2 0 c2)) 42 (0, 0)) := (a4.block O2 (lt_of_block (kept_out H3.out k4 o2_3 (by decide) (by decide)))).trans (kept_out H3.out k4 o2_3 (by decide) (by decide))
  have o3_4 : y4.heap[O3]? = some (.cells (outA (.slice p3 1 c3)) 42 (0, 0)) := (a4.block O3 (lt_of_block (kept_out H3.out k4 o3_3 (by decide) (by decide)))).trans (kept_out H3.out k4 o3_3 (by decide) (by decide))
  rw [← hO4] at o4
  have o4_4 := o4
  have HY4 : Hid (w4.alloc (.cells (outA (.slice p4 2 c4)) 42) = y4) := hy4.symm
  have HO4 : Hid (w4.heap.size = O4) := hO4.symm
  clear q4 hy4 hO4 o4 a4 h4 r4 k4
  rw [HY4.out, HO4.out]
  have qa := pat_any H4.out aw4_rises l4 aw4_names 1
  rw [aw_find] at qa
  go_upto_region 9 with (go_at_call 22; refine qa.mono ?_; rintro x w5 ⟨rfl, b5⟩)
  obtain ⟨y5, hy5⟩ : ∃ y, y = w5.alloc (.cells (enA ⟨1, 17, ⟨0, 0, 0, ⟨#[]⟩, 0⟩⟩) 36) := ⟨_, rfl⟩
  have a5 : Below y4.heap.size y4 y5 := by rw [hy5]; exact b5.alloc b5.size _
  have e5 : EnAt y5 w5.heap.size ⟨1, 17, ⟨0, 0, 0, ⟨#[]⟩, 0⟩⟩ := by rw [hy5]; exact heap_alloc_new w5 _
  have B5 : Hid (Below w.heap.size w y5) := bmm B4.out B4.out.size a5
  have q1 := pprom_any (H4.out.fresh a5)
  rw [f8] at q1
  have g1 := (a5.block O1 (lt_of_block o1_4)).trans o1_4
  have g3 := (a5.block O3 (lt_of_block o3_4)).trans o3_4
  have g4 := (a5.block O4 (lt_of_block o4_4)).trans o4_4
  have z1 : y5.cell? ⟨O1, 0, none⟩ = some (.slice p1 1 c1) := by simp [World.cell?, g1]
  have z3 : y5.cell? ⟨O3, 0, none⟩ = some (.slice p3 1 c3) := by simp [World.cell?, g3]
  have z4 : y5.cell? ⟨O4, 0, none⟩ = some (.slice p4 2 c4) := by simp [World.cell?, g4]
  have z5 : y5.cell? ⟨w5.heap.size, 1, none⟩ = some (.int .i64 17) := EnAt.box e5 1 _ rfl
  have HY5 : Hid (w5.alloc (.cells (enA ⟨1, 17, ⟨0, 0, 0, ⟨#[]⟩, 0⟩⟩) 36) = y5) := hy5.symm
  rw [HY5.out]
  clear hy5 a5 e5 g1 g3 g4 qa b5 q0 o1_1 o1_2 o1_3 o1_4 o2_2 o2_3 o2_4 o3_3 o3_4 o4_4
  go_wp2_with (go_at_call 20; refine q1.mono ?_; rintro x w6 ⟨rfl, hw6⟩; rw [hw6]; clear hw6)
  go_ret
  exact ⟨rfl, B5.out⟩
end Go.Proofs.Ytkngpfngfmbmjaa
