/-
  Chapter 11's examples over the program's log. The condition: package frame's table lies in memory.
-/
import Derived.Test.YtdhlbldmdeepiaaGreatDoorRPackL
import Derived.Test.YtdhlbldmdeepiaaGreatDoorRWvWrite
namespace Go.Proofs.YtdhlbldmdeepiaaGreatDoor
open Go.RowKit

theorem dnew_S (w : World) : Calls Tryz.prog 13 #[] w fun e w' => e = .returned (.pointer (some ⟨w.heap.size, 0, none⟩)) ∧ ∃ ro, DkS w' w.heap.size w.heap.size [] 0 ro ∧ Below w.heap.size w w' :=
  (knew_any w).mono fun _ _ ⟨h1, h2⟩ => ⟨h1, (fun b => if b = w.heap.size then some b else none), by rw [h2]; exact DkS.new w, by rw [h2]; exact (Below.refl _ w).alloc (Nat.le_refl _) _⟩
section
variable {w : World} {base D : Nat} {ro : Nat → Option Nat}
/-- A crash of a file with one piece. -/
theorem o_crash1 {n : ByteArray} {c t t0 sure len : Nat} {bs : List UInt8} (h0 : 0 < len) (k : DkS w base D (oneN n c bs sure [(t0, len)]) t ro) (keep : Int) (h1 : -9223372036854775808 ≤ keep) (h2 : keep ≤ 9223372036854775807) : Calls Tryz.prog 21 #[.pointer (some ⟨D, 0, none⟩), .int .i64 keep] w fun e w' => e = .returned (.tuple #[]) ∧
    DkS w' base D (oneN n c (bs.take (sure + min len keep.toNat)) (sure + min len keep.toNat) []) t ro ∧ Ext w w' ro ro := by
  obtain ⟨s, hs⟩ : ∃ s : ByteArray, s.size = len := ⟨⟨(List.replicate len 0).toArray⟩, by show (List.replicate len (0 : UInt8)).toArray.size = len; simp⟩
  have k' : DkS w base D (oneN n c bs sure (psN s t0)) t ro := by
    rw [psN_yes (by omega), hs]
    exact k
  have r := o_crash k' keep h1 h2
  rw [hs] at r
  exact r
end
/-- A promise. -/
def pr (n : Int) : Rc := ⟨1, n, En.zero⟩
theorem pr_may {n : Int} (h1 : 1 ≤ n) (h2 : n ≤ 1099511627776) : mayR (pr n) = true := mayR_one h1 h2
theorem pr_len (n : Int) : (frameOf (encR (pr n))).length = 17 := by
  rw [frameOf_len]
  rfl
theorem prs_len (a : List Int) : (framesOf (a.map pr)).length = a.length * 17 := by
  induction a with
  | nil => rfl
  | cons n a ih =>
    show (frameOf (encR (pr n)) ++ framesOf (a.map pr)).length = (a.length + 1) * 17
    rw [List.length_append, pr_len, ih]
    omega
/-- The second example's bytes. -/
def exB : List UInt8 := ((framesOf [pr 9]) ++ framesOf [pr 17, pr 25]).take (17 + min 34 20)
theorem exB_recs : recs exB = ([pr 9, pr 17], 34) ∧ exB.length = 37 := by
  have l1 : (framesOf [pr 9, pr 17]).length = 34 := prs_len [9, 17]
  have l2 : (framesOf [pr 25]).length = 17 := prs_len [25]
  have e0 : framesOf [pr 9] ++ framesOf [pr 17, pr 25] = framesOf [pr 9, pr 17] ++ framesOf [pr 25] := by
    rw [← framesOf_append, ← framesOf_append]
    rfl
  have e1 : exB = framesOf [pr 9, pr 17] ++ (framesOf [pr 25]).take 3 := by
    unfold exB
    rw [e0, show 17 + min 34 20 = (framesOf [pr 9, pr 17]).length + 3 by rw [l1]; decide, List.take_length_add_append]
  have l3 : ((framesOf [pr 25]).take 3).length = 3 := by rw [List.length_take, l2]; decide
  have e2 : recs ((framesOf [pr 25]).take 3) = ([], 0) := recs_no (by
    unfold firstOf
    rw [if_pos (by rw [l3]; decide)]
    decide)
  have hm : ∀ r ∈ [pr 9, pr 17], mayR r = true := by
    intro r hr
    simp only [List.mem_cons, List.mem_nil_iff, or_false] at hr
    rcases hr with rfl | rfl
    · exact pr_may (by decide) (by decide)
    · exact pr_may (by decide) (by decide)
  refine ⟨?_, ?_⟩
  · rw [e1, recs_frames _ hm, e2, l1]
    rfl
  · rw [e1, List.length_append, l1, l3]
theorem exB_two {sure : Nat} {ps : List (Nat × Nat)} {k' : Nat} {bs' : List UInt8} {sure' : Nat} {ps' : List (Nat × Nat)} (h : Mended 1 exB sure ps k' bs' sure' ps') : k' = 2 := by
  rcases h with ⟨h1, _⟩ | ⟨_, h2, _⟩
  · rw [exB_recs.1, exB_recs.2] at h1
    exact absurd h1 (by decide)
  · exact h2
theorem len1 : (framesOf [pr 9]).length = 17 := prs_len [9]
theorem len2 : (framesOf [pr 17, pr 25]).length = 34 := prs_len [17, 25]
theorem all2 : [pr 17, pr 25].all mayR = true := by
  rw [List.all_cons, List.all_cons, pr_may (by decide) (by decide), pr_may (by decide) (by decide)]
  rfl
theorem all1 : [pr 9].all mayR = true := by
  rw [List.all_cons, pr_may (by decide) (by decide)]
  rfl
theorem rowB1 (w : World) : RowAt rcC (w.alloc (.cells #[.int .i64 1, .int .i64 9, .int .i64 0, .int .i64 0, .int .i64 0, .int .i64 0, .int .i64 0, .string ⟨#[]⟩, .int .i64 0] 27)) (.slice (some ⟨w.heap.size, 0, none⟩) 1 1) [pr 9] :=
  RowAt.built (heap_alloc_new w _) rfl 1 rfl rfl
theorem rowB2 (w : World) : RowAt rcC (w.alloc (.cells #[.int .i64 1, .int .i64 17, .int .i64 0, .int .i64 0, .int .i64 0, .int .i64 0, .int .i64 0, .string ⟨#[]⟩, .int .i64 0, .int .i64 1, .int .i64 25, .int .i64 0, .int .i64 0, .int .i64 0, .int .i64 0, .int .i64 0, .string ⟨#[]⟩, .int .i64 0] 27)) (.slice (some ⟨w.heap.size, 0, none⟩) 2 2) [pr 17, pr 25] :=
  RowAt.built (heap_alloc_new w _) rfl 2 rfl rfl
theorem bx {o : Obj} (w : World) : Below w.heap.size w (w.alloc o) := (Below.refl _ w).alloc (Nat.le_refl _) _
set_option maxHeartbeats 6400000 in
set_option maxRecDepth 100000 in
theorem awake_any (w : World) (hT : Tab w) : Calls Tryz.prog 12 #[] w fun e w' => e = .returned (.bool true) ∧ Below w.heap.size w w' := by
  have hn := dnew_S w
  have HT : Hid (Tab w) := hT
  have hB0 := hT.1
  obtain ⟨B, hB⟩ : ∃ B, B = w.heap.size := ⟨_, rfl⟩
  have HB : Hid (B ≤ w.heap.size) := by rw [hB]; exact Nat.le_refl _
  rw [← hB] at hn hB0 ⊢
  have r1 := rowB1
  have r2 := rowB2
  clear hT hB
  go_enter Tryz.func12, Tryz.ntmps12
  go_wp2_with (first
    | (go_at_call 26; have y := h7; refine (segment_any h7.out).mono ?_; rintro e w9 ⟨rfl, rfl⟩)
    | (go_at_call 14; have y := h6; refine (open_one (by decide) (by decide) h6.out ht5 (HT.out.low b6 hB0)).mono ?_; rintro e w7 ⟨L7, v7, k7, c7, bs7, su7, ps7, t7, ro7, rfl, ht7, h7', r7', x7, m7⟩; have e7 := exB_two m7; subst e7; rw [exB_recs.1] at r7'; have h7 : Hid _ := h7'; have b7 := b6.trans (h6.out.below x7); obtain ⟨bk, off, cap, hv, _, _, hc⟩ := r7'.row.cells rcC_len (by decide); have z7 := hc 1 (by decide) 1 (.int .i64 17) (by decide) rfl; subst hv; clear h7' r7' hc m7 x7)
    | (go_at_call 21; refine (o_crash1 (by decide) h5.out.dk 20 (by decide) (by decide)).mono ?_; rintro e w6 ⟨rfl, k6, x6⟩; have h6 : Hid (DkS w6 B B (oneN (segB 1) c3 exB 37 []) t5 ro5) := k6; have b6 := b5.trans (h5.out.below x6); clear k6 x6)
    | (go_at_call 18; refine (write_more (by decide) (by decide) (h3.out.fresh (bx w3)) _ [pr 17, pr 25] (r2 w3) (by decide) (HT.out.low (b3.trans ((bx w3).mono (Nat.le_trans HB.out b3.size))) hB0) all2 (by simp) (by rw [len1, len2]; decide) (by decide)).mono ?_; rintro e w5 ⟨rfl, t5, ro5, ht5', h5', b5'⟩; rw [len1, len2] at h5'; have h5 : Hid _ := h5'; have b5 := (b3.trans ((bx w3).mono (Nat.le_trans HB.out b3.size))).trans b5'; have ht5 : t5 < 4611686018427387904 := (by omega); clear h5' b5')
    | (go_at_call 37; refine (o_read h3.out.dk (seg_max (k := 1) (by decide))).mono ?_; rintro e w4 ⟨rfl, rfl⟩)
    | (go_at_call 16; refine (wappend_new (h2.out.fresh (bx w2)) _ [pr 9] (r1 w2) (by decide) (HT.out.low (b2.trans ((bx w2).mono (Nat.le_trans HB.out b2.size))) hB0) all1 (by simp) (by rw [len1]; decide) (by decide)).mono ?_; rintro e w3 ⟨rfl, c3, ro3, h3', b3'⟩; have h3 : Hid _ := h3'; have b3 := (b2.trans ((bx w2).mono (Nat.le_trans HB.out b2.size))).trans b3'; clear h3' b3')
    | (go_at_call 26; refine (segment_any h2.out).mono ?_; rintro e w' ⟨rfl, rfl⟩)
    | (go_at_call 14; refine (open_zero k1).mono ?_; rintro e w2 ⟨L, rfl, h2', b2'⟩; have h2 : Hid _ := h2'; have b2 := b1.trans (b2'.mono (Nat.le_trans HB.out b1.size)); clear h2' b2' k1)
    | (go_at_call 13; refine hn.mono ?_; rintro e w1 ⟨rfl, ro1, k1, b1⟩))
  go_ret
  exact ⟨rfl, b7⟩
end Go.Proofs.YtdhlbldmdeepiaaGreatDoor
