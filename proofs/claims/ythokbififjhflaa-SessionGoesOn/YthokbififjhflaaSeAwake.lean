/-
  Chapter 18's examples. No condition.
-/
import Derived.Test.YthokbififjhflaaSeFin
import Derived.Test.YthokbififjhflaaSeDec
namespace Go.Proofs.Ythokbififjhflaa
open Go.RowKit

def saR : SeR := ⟨1, 1, 0, 0, 7⟩
def saL1 : List SeX := [⟨3, 1, true, 0, false, SeR.zero⟩]
def saL2 : List SeX := [⟨3, 1, true, 1, false, SeR.zero⟩]
def saL3 : List SeX := [⟨3, 1, true, 1, true, saR⟩]
def saL4 : List SeX := [⟨3, 1, true, 2, false, SeR.zero⟩]
theorem sa_1 : seOpn [] 3 1 = (saL1, 1, true, 0) := by kernel_rfl
theorem sa_2 : seOpn saL1 3 1 = (saL1, 1, false, 0) := by kernel_rfl
theorem sa_3 : seBeg saL1 1 1 = (saL2, SeR.zero, 0) := by kernel_rfl
theorem sa_4 : seBeg saL2 1 1 = (saL2, SeR.zero, 2) := by kernel_rfl
theorem sa_5 : seEnd saL2 saR = (saL3, true) := by kernel_rfl
theorem sa_6 : seBeg saL3 1 1 = (saL3, saR, 1) := by kernel_rfl
theorem sa_7 : seBeg saL3 1 2 = (saL4, SeR.zero, 0) := by kernel_rfl
theorem sa_8 : seBeg saL4 1 3 = (saL4, SeR.zero, 5) := by kernel_rfl
theorem sa_9 : seBeg saL4 2 1 = (saL4, SeR.zero, 4) := by kernel_rfl
theorem SeAt.lowk {w0 w w' : World} {base X : Nat} {S S' : Nat → Prop} {l : List SeX} (h : SeAt w base X S l) (k : Kept w w' S S') (B : Below base w0 w) (hb : base ≤ w0.heap.size) : Below base w0 w' :=
  B.trans (k.low (Nat.le_trans hb B.size) (fun g hg => (h.bd g hg).1))
set_option maxHeartbeats 4000000 in
set_option maxRecDepth 100000 in
theorem awake_any (w : World) : Calls Try.prog 19 #[] w fun e w' => e = .returned (.bool true) ∧ Below w.heap.size w w' := by
  have HO : Hid (∀ y X S l q, SeAt y w.heap.size X S l → l.length ≤ 10 → seOpn l 3 1 = q → Calls Try.prog 22 #[.pointer (some ⟨X, 0, none⟩), .int .i64 3, .int .i64 1] y (SeOpP y w.heap.size X S q)) := fun y X S l q h hl hq => by
    have := sopen_any (c := 3) (f := 1) h (by omega)
    rw [hq] at this
    exact this
  have HB : Hid (∀ y X S l i s q, SeAt y w.heap.size X S l → okI i → okI s → seBeg l i s = q → Calls Try.prog 23 #[.pointer (some ⟨X, 0, none⟩), .int .i64 i, .int .i64 s] y (SeBeP y w.heap.size X S q)) := fun y X S l i s q h hi hs hq => by
    have := sbegin_any h hi hs
    rw [hq] at this
    exact this
  have HE : Hid (∀ y X S l q, SeAt y w.heap.size X S l → seEnd l saR = q → Calls Try.prog 24 #[.pointer (some ⟨X, 0, none⟩), .agg #[.int .i64 1, .int .i64 1, .int .i64 0, .int .u64 0, .int .i64 7]] y (SeClP y w.heap.size X S q)) := fun y X S l q h hq => by
    have := send_any (r := saR) h (by unfold okI saR; decide) ⟨by decide, by decide, by decide, by decide, by decide, by decide⟩
    rw [hq] at this
    exact this
  have HN : Hid (Calls Try.prog 9 #[] w (SeNew w)) := snew_any w
  go_enter Try.func19, Try.ntmps19
  go_upto_region 4 with (go_at_call 9; refine Calls.mono HN.out ?_; rintro r w1 ⟨⟨X, S1, rfl, h1, b1⟩⟩; have H1 : Hid (SeAt w1 w.heap.size X S1 []) := h1; have B1 : Hid (Below w.heap.size w w1) := b1; clear h1 b1)
  go_upto_region 5 with (go_at_call 22; refine Calls.mono (HO.out _ _ _ _ _ H1.out (by decide) sa_1) ?_; rintro r w2 ⟨⟨S2, rfl, h2, k2⟩⟩; have H2 : Hid (SeAt w2 w.heap.size X S2 saL1) := h2; have B2 : Hid (Below w.heap.size w w2) := H1.out.lowk k2 B1.out (Nat.le_refl _); clear h2 k2)
  go_upto_region 6 with (go_at_call 22; refine Calls.mono (HO.out _ _ _ _ _ H2.out (by decide) sa_2) ?_; rintro r w3 ⟨⟨S3, rfl, h3, k3⟩⟩; have H3 : Hid (SeAt w3 w.heap.size X S3 saL1) := h3; have B3 : Hid (Below w.heap.size w w3) := H2.out.lowk k3 B2.out (Nat.le_refl _); clear h3 k3)
  go_upto_region 7 with (go_at_call 23; refine Calls.mono (HB.out _ _ _ _ _ _ _ H3.out (by unfold okI; decide) (by unfold okI; decide) sa_3) ?_; rintro r w4 ⟨⟨rfl, h4, k4⟩⟩; have H4 : Hid (SeAt w4 w.heap.size X S3 saL2) := h4; have B4 : Hid (Below w.heap.size w w4) := H3.out.lowk k4 B3.out (Nat.le_refl _); clear h4 k4)
  obtain ⟨y4, hy4⟩ : ∃ y, y = w4.alloc (.cells (seRA SeR.zero) 36) := ⟨_, rfl⟩
  have b4 : Below w4.heap.size w4 y4 := by rw [hy4]; exact (Below.refl _ w4).alloc (Nat.le_refl _) _
  have G4 : Hid (SeAt y4 w.heap.size X S3 saL2) := H4.out.fresh b4
  have C4 : Hid (Below w.heap.size w y4) := bmm B4.out B4.out.size b4
  rw [show w4.alloc (.cells (seRA SeR.zero) 36) = y4 from hy4.symm]
  clear hy4 b4 H4 B4
  go_upto_region 8 with (go_at_call 23; refine Calls.mono (HB.out _ _ _ _ _ _ _ G4.out (by unfold okI; decide) (by unfold okI; decide) sa_4) ?_; rintro r w5 ⟨⟨rfl, h5, k5⟩⟩; have H5 : Hid (SeAt w5 w.heap.size X S3 saL2) := h5; have B5 : Hid (Below w.heap.size w w5) := G4.out.lowk k5 C4.out (Nat.le_refl _); clear h5 k5)
  obtain ⟨y5, hy5⟩ : ∃ y, y = w5.alloc (.cells (seRA SeR.zero) 36) := ⟨_, rfl⟩
  have b5 : Below w5.heap.size w5 y5 := by rw [hy5]; exact (Below.refl _ w5).alloc (Nat.le_refl _) _
  have G5 : Hid (SeAt y5 w.heap.size X S3 saL2) := H5.out.fresh b5
  have C5 : Hid (Below w.heap.size w y5) := bmm B5.out B5.out.size b5
  rw [show w5.alloc (.cells (seRA SeR.zero) 36) = y5 from hy5.symm]
  clear hy5 b5 H5 B5
  go_upto_region 9 with (go_at_call 24; refine Calls.mono (HE.out _ _ _ _ _ G5.out sa_5) ?_; rintro r w6 ⟨⟨rfl, h6, k6⟩⟩; have H6 : Hid (SeAt w6 w.heap.size X S3 saL3) := h6; have B6 : Hid (Below w.heap.size w w6) := G5.out.lowk k6 C5.out (Nat.le_refl _); clear h6 k6)
  go_upto_region 10 with (go_at_call 23; refine Calls.mono (HB.out _ _ _ _ _ _ _ H6.out (by unfold okI; decide) (by unfold okI; decide) sa_6) ?_; rintro r w7 ⟨⟨rfl, h7, k7⟩⟩; have H7 : Hid (SeAt w7 w.heap.size X S3 saL3) := h7; have B7 : Hid (Below w.heap.size w w7) := H6.out.lowk k7 B6.out (Nat.le_refl _); clear h7 k7)
  obtain ⟨y7, hy7⟩ : ∃ y, y = w7.alloc (.cells (seRA saR) 36) := ⟨_, rfl⟩
  have b7 : Below w7.heap.size w7 y7 := by rw [hy7]; exact (Below.refl _ w7).alloc (Nat.le_refl _) _
  have G7 : Hid (SeAt y7 w.heap.size X S3 saL3) := H7.out.fresh b7
  have C7 : Hid (Below w.heap.size w y7) := bmm B7.out B7.out.size b7
  have RB7 : Hid (y7.heap[w7.heap.size]? = some (.cells (seRA saR) 36 (0, 0))) := by rw [hy7]; exact heap_alloc_new w7 _
  have HNS : Hid (¬ S3 w7.heap.size) := fun h => Nat.lt_irrefl _ (H7.out.bd _ h).2
  rw [show w7.alloc (.cells (seRA saR) 36) = y7 from hy7.symm]
  clear hy7 b7 H7 B7
  go_upto_region 11 with (go_at_call 23; refine Calls.mono (HB.out _ _ _ _ _ _ _ G7.out (by unfold okI; decide) (by unfold okI; decide) sa_7) ?_; rintro r w8 ⟨⟨rfl, h8, k8⟩⟩; have H8 : Hid (SeAt w8 w.heap.size X S3 saL4) := h8; have B8 : Hid (Below w.heap.size w w8) := G7.out.lowk k8 C7.out (Nat.le_refl _); have RA8 : Hid (w8.heap[w7.heap.size]? = some (.cells (seRA saR) 36 (0, 0))) := (k8.kept _ (lt_of_block RB7.out) HNS.out).trans RB7.out; clear h8 k8)
  obtain ⟨y8, hy8⟩ : ∃ y, y = w8.alloc (.cells (seRA SeR.zero) 36) := ⟨_, rfl⟩
  have b8 : Below w8.heap.size w8 y8 := by rw [hy8]; exact (Below.refl _ w8).alloc (Nat.le_refl _) _
  have G8 : Hid (SeAt y8 w.heap.size X S3 saL4) := H8.out.fresh b8
  have C8 : Hid (Below w.heap.size w y8) := bmm B8.out B8.out.size b8
  have RB8 : Hid (y8.heap[w7.heap.size]? = some (.cells (seRA saR) 36 (0, 0))) := (b8.block _ (lt_of_block RA8.out)).trans RA8.out
  rw [show w8.alloc (.cells (seRA SeR.zero) 36) = y8 from hy8.symm]
  clear hy8 b8 H8 B8
  go_upto_region 12 with (go_at_call 23; refine Calls.mono (HB.out _ _ _ _ _ _ _ G8.out (by unfold okI; decide) (by unfold okI; decide) sa_8) ?_; rintro r w9 ⟨⟨rfl, h9, k9⟩⟩; have H9 : Hid (SeAt w9 w.heap.size X S3 saL4) := h9; have B9 : Hid (Below w.heap.size w w9) := G8.out.lowk k9 C8.out (Nat.le_refl _); have RA9 : Hid (w9.heap[w7.heap.size]? = some (.cells (seRA saR) 36 (0, 0))) := (k9.kept _ (lt_of_block RB8.out) HNS.out).trans RB8.out; clear h9 k9)
  obtain ⟨y9, hy9⟩ : ∃ y, y = w9.alloc (.cells (seRA SeR.zero) 36) := ⟨_, rfl⟩
  have b9 : Below w9.heap.size w9 y9 := by rw [hy9]; exact (Below.refl _ w9).alloc (Nat.le_refl _) _
  have G9 : Hid (SeAt y9 w.heap.size X S3 saL4) := H9.out.fresh b9
  have C9 : Hid (Below w.heap.size w y9) := bmm B9.out B9.out.size b9
  have RB9 : Hid (y9.heap[w7.heap.size]? = some (.cells (seRA saR) 36 (0, 0))) := (b9.block _ (lt_of_block RA9.out)).trans RA9.out
  rw [show w9.alloc (.cells (seRA SeR.zero) 36) = y9 from hy9.symm]
  clear hy9 b9 H9 B9
  go_upto_region 13 with (go_at_call 23; refine Calls.mono (HB.out _ _ _ _ _ _ _ G9.out (by unfold okI; decide) (by unfold okI; decide) sa_9) ?_; rintro r w10 ⟨⟨rfl, h10, k10⟩⟩; have H10 : Hid (SeAt w10 w.heap.size X S3 saL4) := h10; have B10 : Hid (Below w.heap.size w w10) := G9.out.lowk k10 C9.out (Nat.le_refl _); have RA10 : Hid (w10.heap[w7.heap.size]? = some (.cells (seRA saR) 36 (0, 0))) := (k10.kept _ (lt_of_block RB9.out) HNS.out).trans RB9.out; clear h10 k10)
  obtain ⟨y10, hy10⟩ : ∃ y, y = w10.alloc (.cells (seRA SeR.zero) 36) := ⟨_, rfl⟩
  have b10 : Below w10.heap.size w10 y10 := by rw [hy10]; exact (Below.refl _ w10).alloc (Nat.le_refl _) _
  have G10 : Hid (SeAt y10 w.heap.size X S3 saL4) := H10.out.fresh b10
  have C10 : Hid (Below w.heap.size w y10) := bmm B10.out B10.out.size b10
  have RB10 : Hid (y10.heap[w7.heap.size]? = some (.cells (seRA saR) 36 (0, 0))) := (b10.block _ (lt_of_block RA10.out)).trans RA10.out
  rw [show w10.alloc (.cells (seRA SeR.zero) 36) = y10 from hy10.symm]
  clear hy10 b10 H10 B10
  have hok : SeOk saL4 := G10.out.ok
  obtain ⟨T, hT⟩ : ∃ T : ByteArray, T = ⟨(seEnc saL4).toArray⟩ := ⟨_, rfl⟩
  have HEn : Hid (∀ y X' S' b, SeAt y b X' S' saL4 → Calls Try.prog 15 #[.pointer (some ⟨X', 0, none⟩)] y fun e w' => e = .returned (.string T) ∧ Below y.heap.size y w') := fun y X' S' b h => by rw [hT]; exact sencode_any h (by decide)
  have HDc : Hid (∀ y, Calls Try.prog 20 #[.string T] y (DecP y saL4)) := fun y => by rw [hT]; exact sdecode_any hok (by decide) y
  clear hok hT
  go_upto_region 14 with (first
    | (go_at_call 20; refine Calls.mono (HDc.out _) ?_; rintro r w12 ⟨⟨X2, S12, rfl, h12, b12⟩⟩; have H12 : Hid (SeAt w12 w11.heap.size X2 S12 saL4) := h12; have B12 : Hid (Below w11.heap.size w11 w12) := b12; clear h12 b12)
    | (go_at_call 15; refine Calls.mono (HEn.out _ _ _ _ G10.out) ?_; rintro r w11 ⟨rfl, b11⟩; have B11 : Hid (Below y10.heap.size y10 w11) := b11; clear b11))
  have C12 : Hid (Below y10.heap.size y10 w12) := bmm B11.out B11.out.size B12.out
  have c4 : w12.cell? ⟨w7.heap.size, 4, none⟩ = some (.int .i64 7) := by
    have h1 := (C12.out.block _ (lt_of_block RB10.out)).trans RB10.out
    simp only [World.cell?, h1]
    rfl
  go_wp2_with (first
    | (go_at_call 15; have d2 := d1; refine Calls.mono (HEn.out _ _ _ _ (G10.out.fresh (bmm C12.out C12.out.size B13.out))) ?_; rintro r w14 ⟨rfl, b14⟩; have B14 : Hid _ := b14; clear b14)
    | (go_at_call 15; refine Calls.mono (HEn.out _ _ _ _ H12.out) ?_; rintro r w13 ⟨rfl, b13⟩; have B13 : Hid _ := b13; clear b13; have d1 : True := trivial))
  go_ret
  exact ⟨rfl, bmm C10.out C10.out.size (bmm (bmm C12.out C12.out.size B13.out) (bmm C12.out C12.out.size B13.out).size B14.out)⟩
end Go.Proofs.Ythokbififjhflaa
