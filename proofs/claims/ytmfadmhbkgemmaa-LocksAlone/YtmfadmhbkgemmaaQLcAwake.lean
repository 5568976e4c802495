/-
  Chapter 19's examples. No condition.
-/
import Derived.Test.YtmfadmhbkgemmaaQLcNil
namespace Go.Proofs.Ytmfadmhbkgemmaa
open Go.RowKit

def kaN : ByteArray := ⟨#[97]⟩
def kaL1 : List Lk := [⟨kaN, [1], true, []⟩]
def kaL2 : List Lk := [⟨kaN, [1], true, [⟨2, 1, false⟩]⟩]
def kaL3 : List Lk := [⟨kaN, [1], true, [⟨2, 1, false⟩, ⟨3, 1, true⟩]⟩]
def kaL4 : List Lk := [⟨kaN, [2], true, [⟨3, 1, true⟩]⟩]
def kaL5 : List Lk := [⟨kaN, [3], false, []⟩]
def kaRa : List SeR := [⟨1, 1, 0, 1, 0⟩]
def kaRd : List SeR := [⟨1, 1, 0, 0, 0⟩, ⟨2, 1, 0, 2, 0⟩]
def kaRe : List SeR := [⟨2, 1, 0, 0, 0⟩, ⟨3, 1, 0, 2, 0⟩]
def kaRf : List SeR := [⟨2, 1, 13, 0, 0⟩]
theorem ka_1 : askL 0 [] 5 1 1 kaN = (1, kaL1, [⟨1, 1, 0, 1, 0⟩], false) := by first | rfl | decide | kernel_rfl
theorem ka_2 : askL 1 kaL1 5 2 1 kaN = (1, kaL2, [], true) := by first | rfl | decide | kernel_rfl
theorem ka_3 : askL 1 kaL2 7 3 1 kaN = (1, kaL3, [], true) := by first | rfl | decide | kernel_rfl
theorem ka_4 : relL 1 kaL3 6 1 1 kaN = (2, kaL4, [⟨1, 1, 0, 0, 0⟩, ⟨2, 1, 0, 2, 0⟩]) := by first | rfl | decide | kernel_rfl
theorem ka_5 : relL 2 kaL4 6 2 1 kaN = (2, kaL5, [⟨2, 1, 0, 0, 0⟩, ⟨3, 1, 0, 2, 0⟩]) := by first | rfl | decide | kernel_rfl
theorem ka_6 : relL 2 kaL5 6 2 1 kaN = (2, kaL5, [⟨2, 1, 13, 0, 0⟩]) := by first | rfl | decide | kernel_rfl
theorem ka_7 : holL kaL5 ⟨#[97]⟩ = ([3], false) := by first | rfl | decide | kernel_rfl
theorem sizeCm : (Try.prog.info? cmT).map (·.size) = some 5 := by kernel_rfl
set_option maxRecDepth 100000 in
set_option maxHeartbeats 2000000 in
theorem cmd_any (w : World) (k s : Int) : Calls Try.prog 46 #[.int .i64 k, .int .i64 s] w fun e w' => e = .returned (.agg (cmA k s 1 kaN 0)) ∧ Below w.heap.size w w' := by
  obtain ⟨W, hW⟩ : ∃ W, W = w.alloc (.cells (cmA 0 0 0 ⟨#[]⟩ 0) cmT) := ⟨_, rfl⟩
  have HB : Hid (Below w.heap.size w W ∧ W.heap[w.heap.size]? = some (.cells (cmA 0 0 0 ⟨#[]⟩ 0) cmT (0, 0))) := (show Hid _ from (by rw [hW]; exact ⟨(Below.refl _ w).alloc (Nat.le_refl _) _, heap_alloc_new w _⟩ : _ ∧ _))
  have HW : Hid (w.alloc (.cells #[.int .i64 0, .int .i64 0, .int .i64 0, .string ⟨#[]⟩, .int .i64 0] cmT) = W) := hW.symm
  clear hW
  go_enter Try.func46, Try.ntmps46
  go_upto_region 1 with fail
  rw [HW.out]
  go_wp2_with (show wpList _ _ _ (⟨_, Op.store cmT _ _, _, _, _, _⟩ :: _) _ _; refine store_row_g rfl cmT _ _ rfl w.heap.size (cmA k s 1 kaN 0) rfl rfl cmT _ HB.out.2 sizeCm rfl (by simp [Value.oneCell']) ?_; intro w4 h4 g4)
  refine bodyPost_ret (results_cell_row Try.results46 _ _ w.heap.size cmT _ (0, 0) _ rfl h4 Try.underlying31 rfl sizeCm) rfl ?_
  exact ⟨rfl, bel_grown HB.out.1 (Nat.le_refl _) g4⟩
/-- A row of answers that is kept for later. -/
structure KaR (w : World) (S : Nat → Prop) (u : Value) (l : List SeR) : Prop where
  row : RowAt rpC w u l
  sep : SepR u S
theorem KaR.fresh {w w' : World} {S : Nat → Prop} {u : Value} {l : List SeR} (h : KaR w S u l) (b : Below w.heap.size w w') : KaR w' S u l := ⟨h.row.fresh b, h.sep⟩
theorem KaR.kept {w w' : World} {S S' : Nat → Prop} {u : Value} {l : List SeR} (h : KaR w S u l) (k : Kept w w' S S') : KaR w' S' u l := ⟨(h.row.sep h.sep k).1, (h.row.sep h.sep k).2⟩
theorem LcW.lowk {w0 w w' : World} {base D N : Nat} {S S' : Nat → Prop} {c : Int} {l : List Lk} (h : LcW w base D S N c l) (k : Kept w w' S S') (B : Below base w0 w) (hb : base ≤ w0.heap.size) : Below base w0 w' :=
  B.trans (k.low (Nat.le_trans hb B.size) (fun g hg => (h.bd g hg).1))
set_option maxRecDepth 100000 in
set_option maxHeartbeats 8000000 in
theorem awake_any (w : World) : Calls Try.prog 18 #[] w fun e w' => e = .returned (.bool true) ∧ Below w.heap.size w w' := by
  have HO : Hid (∀ y D S N c l k s q, LcW y w.heap.size D S N c l → N ≤ 5 → okI s → askL c l k s 1 kaN = q → Calls Try.prog 10 #[.pointer (some ⟨D, 0, none⟩), .agg (cmA k s 1 kaN 0)] y (AnsP y w.heap.size D S (N + 1) q)) := fun y D S N c l k s q h hN hs hq => by
    have := h.ask (by omega) k s 1 kaN 0 hs ⟨by decide, by decide⟩ (by decide)
    rw [hq] at this
    exact this
  have HE : Hid (∀ y D S N c l k s q, LcW y w.heap.size D S N c l → N ≤ 5 → okI s → relL c l k s 1 kaN = q → Calls Try.prog 12 #[.pointer (some ⟨D, 0, none⟩), .agg (cmA k s 1 kaN 0)] y (RepP y w.heap.size D S N q)) := fun y D S N c l k s q h hN hs hq => by
    have := h.rel (by omega) k s 1 kaN 0 hs (by decide)
    rw [hq] at this
    exact this
  go_enter Try.func18, Try.ntmps18
  go_upto_region 4 with (go_at_call 7; refine Calls.mono (lnew_any w) ?_; rintro r w0 ⟨D, S0, rfl, h0, b0⟩; have H0 : Hid (LcW w0 w.heap.size D S0 0 0 []) := h0; have B0 : Hid (Below w.heap.size w w0) := b0; clear h0 b0)
  go_upto_region 5 with (first | (go_at_call 10; refine Calls.mono (HO.out _ _ _ _ _ _ _ _ _ G0.out (by decide) ⟨by decide, by decide⟩ ka_1) ?_; rintro r w1 ⟨u0, S1, rfl, rr, hh, kk, ss⟩; have H1 : Hid (LcW w1 w.heap.size D S1 1 1 kaL1) := hh; have B1 : Hid (Below w.heap.size w w1) := G0.out.lowk kk C0.out (Nat.le_refl _); obtain ⟨pa, qa, rfl⟩ := rr.form; have A1 : Hid (KaR w1 S1 (.slice pa 1 qa) kaRa) := (show KaR w1 S1 (.slice pa 1 qa) kaRa from ⟨rr, ss⟩); clear rr hh kk ss) | (go_at_call 46; refine Calls.mono (cmd_any _ 5 1) ?_; rintro r v0 ⟨rfl, bc⟩; have G0 : Hid _ := H0.out.fresh bc; have C0 : Hid (Below w.heap.size w v0) := bmm B0.out B0.out.size bc; clear bc))
  go_upto_region 6 with (first | (go_at_call 10; refine Calls.mono (HO.out _ _ _ _ _ _ _ _ _ G1.out (by decide) ⟨by decide, by decide⟩ ka_2) ?_; rintro r w2 ⟨u1, S2, rfl, rr, hh, kk, ss⟩; have H2 : Hid (LcW w2 w.heap.size D S2 2 1 kaL2) := hh; have B2 : Hid (Below w.heap.size w w2) := G1.out.lowk kk C1.out (Nat.le_refl _); have A2 : Hid _ := Ac1.out.kept kk; clear rr hh kk ss) | (go_at_call 46; refine Calls.mono (cmd_any _ 5 2) ?_; rintro r v1 ⟨rfl, bc⟩; have G1 : Hid _ := H1.out.fresh bc; have C1 : Hid (Below w.heap.size w v1) := bmm B1.out B1.out.size bc; have Ac1 : Hid _ := A1.out.fresh bc; clear bc))
  go_upto_region 7 with (first | (go_at_call 10; refine Calls.mono (HO.out _ _ _ _ _ _ _ _ _ G2.out (by decide) ⟨by decide, by decide⟩ ka_3) ?_; rintro r w3 ⟨u2, S3, rfl, rr, hh, kk, ss⟩; have H3 : Hid (LcW w3 w.heap.size D S3 3 1 kaL3) := hh; have B3 : Hid (Below w.heap.size w w3) := G2.out.lowk kk C2.out (Nat.le_refl _); have A3 : Hid _ := Ac2.out.kept kk; clear rr hh kk ss) | (go_at_call 46; refine Calls.mono (cmd_any _ 7 3) ?_; rintro r v2 ⟨rfl, bc⟩; have G2 : Hid _ := H2.out.fresh bc; have C2 : Hid (Below w.heap.size w v2) := bmm B2.out B2.out.size bc; have Ac2 : Hid _ := A2.out.fresh bc; clear bc))
  go_upto_region 8 with (first | (go_at_call 12; refine Calls.mono (HE.out _ _ _ _ _ _ _ _ _ G3.out (by decide) ⟨by decide, by decide⟩ ka_4) ?_; rintro r w4 ⟨u3, S4, rfl, rr, hh, kk, ss⟩; have H4 : Hid (LcW w4 w.heap.size D S4 3 2 kaL4) := hh; have B4 : Hid (Below w.heap.size w w4) := G3.out.lowk kk C3.out (Nat.le_refl _); have A4 : Hid _ := Ac3.out.kept kk; obtain ⟨pd, qd, rfl⟩ := rr.form; have D4 : Hid (KaR w4 S4 (.slice pd 2 qd) kaRd) := (show KaR w4 S4 (.slice pd 2 qd) kaRd from ⟨rr, ss⟩); clear rr hh kk ss) | (go_at_call 46; refine Calls.mono (cmd_any _ 6 1) ?_; rintro r v3 ⟨rfl, bc⟩; have G3 : Hid _ := H3.out.fresh bc; have C3 : Hid (Below w.heap.size w v3) := bmm B3.out B3.out.size bc; have Ac3 : Hid _ := A3.out.fresh bc; clear bc))
  go_upto_region 9 with (first | (go_at_call 12; refine Calls.mono (HE.out _ _ _ _ _ _ _ _ _ G4.out (by decide) ⟨by decide, by decide⟩ ka_5) ?_; rintro r w5 ⟨u4, S5, rfl, rr, hh, kk, ss⟩; have H5 : Hid (LcW w5 w.heap.size D S5 3 2 kaL5) := hh; have B5 : Hid (Below w.heap.size w w5) := G4.out.lowk kk C4.out (Nat.le_refl _); have A5 : Hid _ := Ac4.out.kept kk; have D5 : Hid _ := Dc4.out.kept kk; obtain ⟨pe, qe, rfl⟩ := rr.form; have E5 : Hid (KaR w5 S5 (.slice pe 2 qe) kaRe) := (show KaR w5 S5 (.slice pe 2 qe) kaRe from ⟨rr, ss⟩); clear rr hh kk ss) | (go_at_call 46; refine Calls.mono (cmd_any _ 6 2) ?_; rintro r v4 ⟨rfl, bc⟩; have G4 : Hid _ := H4.out.fresh bc; have C4 : Hid (Below w.heap.size w v4) := bmm B4.out B4.out.size bc; have Ac4 : Hid _ := A4.out.fresh bc; have Dc4 : Hid _ := D4.out.fresh bc; clear bc))
  go_upto_region 10 with (first | (go_at_call 12; refine Calls.mono (HE.out _ _ _ _ _ _ _ _ _ G5.out (by decide) ⟨by decide, by decide⟩ ka_6) ?_; rintro r w6 ⟨u5, S6, rfl, rr, hh, kk, ss⟩; have H6 : Hid (LcW w6 w.heap.size D S6 3 2 kaL5) := hh; have B6 : Hid (Below w.heap.size w w6) := G5.out.lowk kk C5.out (Nat.le_refl _); have A6 : Hid _ := Ac5.out.kept kk; have D6 : Hid _ := Dc5.out.kept kk; have E6 : Hid _ := Ec5.out.kept kk; obtain ⟨pf, qf, rfl⟩ := rr.form; have F6 : Hid (KaR w6 S6 (.slice pf 1 qf) kaRf) := (show KaR w6 S6 (.slice pf 1 qf) kaRf from ⟨rr, ss⟩); clear rr hh kk ss) | (go_at_call 46; refine Calls.mono (cmd_any _ 6 2) ?_; rintro r v5 ⟨rfl, bc⟩; have G5 : Hid _ := H5.out.fresh bc; have C5 : Hid (Below w.heap.size w v5) := bmm B5.out B5.out.size bc; have Ac5 : Hid _ := A5.out.fresh bc; have Dc5 : Hid _ := D5.out.fresh bc; have Ec5 : Hid _ := E5.out.fresh bc; clear bc))
  go_upto_region 11 with (go_at_call 16; refine Calls.mono (H6.out.hold (nm := ⟨#[97]⟩) (by decide) (by decide)) ?_; rw [ka_7]; rintro r w7 ⟨uh, rfl, rh, b7⟩; obtain ⟨ph, qh, eh, _⟩ := rh.ex; subst eh; have R7 : Hid (IntsAt w7 (.slice ph 1 qh) [3]) := rh; have H7 : Hid _ := H6.out.fresh b7; have B7 : Hid (Below w.heap.size w w7) := bmm B6.out B6.out.size b7; have A7 : Hid _ := A6.out.fresh b7; have D7 : Hid _ := D6.out.fresh b7; have E7 : Hid _ := E6.out.fresh b7; have F7 : Hid _ := F6.out.fresh b7; clear b7 rh)
  obtain ⟨ba, oa, ka, ea, _, _, ha⟩ := A7.out.row.cells rpC_len (by decide)
  simp only [Value.slice.injEq] at ea
  obtain ⟨rfl, hxa, rfl⟩ := ea
  clear hxa
  have za0 : w7.cell? ⟨ba, oa, none⟩ = some (.int .i64 1) := ha 0 (by decide) 0 _ (by decide) rfl
  have za1 : w7.cell? ⟨ba, oa + 1, none⟩ = some (.int .i64 1) := ha 0 (by decide) 1 _ (by decide) rfl
  have za2 : w7.cell? ⟨ba, oa + 2, none⟩ = some (.int .i64 0) := ha 0 (by decide) 2 _ (by decide) rfl
  have za3 : w7.cell? ⟨ba, oa + 3, none⟩ = some (.int .u64 1) := ha 0 (by decide) 3 _ (by decide) rfl
  have za4 : w7.cell? ⟨ba, oa + 4, none⟩ = some (.int .i64 0) := ha 0 (by decide) 4 _ (by decide) rfl
  clear ha
  obtain ⟨bd, od, kd, ed, _, _, hd⟩ := D7.out.row.cells rpC_len (by decide)
  simp only [Value.slice.injEq] at ed
  obtain ⟨rfl, hxd, rfl⟩ := ed
  clear hxd
  have zd0 : w7.cell? ⟨bd, od + 5, none⟩ = some (.int .i64 2) := hd 1 (by decide) 0 _ (by decide) rfl
  have zd1 : w7.cell? ⟨bd, od + 6, none⟩ = some (.int .i64 1) := hd 1 (by decide) 1 _ (by decide) rfl
  have zd2 : w7.cell? ⟨bd, od + 7, none⟩ = some (.int .i64 0) := hd 1 (by decide) 2 _ (by decide) rfl
  have zd3 : w7.cell? ⟨bd, od + 8, none⟩ = some (.int .u64 2) := hd 1 (by decide) 3 _ (by decide) rfl
  have zd4 : w7.cell? ⟨bd, od + 9, none⟩ = some (.int .i64 0) := hd 1 (by decide) 4 _ (by decide) rfl
  clear hd
  obtain ⟨be, oe, ke, ee, _, _, he⟩ := E7.out.row.cells rpC_len (by decide)
  simp only [Value.slice.injEq] at ee
  obtain ⟨rfl, hxe, rfl⟩ := ee
  clear hxe
  have ze0 : w7.cell? ⟨be, oe + 5, none⟩ = some (.int .i64 3) := he 1 (by decide) 0 _ (by decide) rfl
  have ze1 : w7.cell? ⟨be, oe + 6, none⟩ = some (.int .i64 1) := he 1 (by decide) 1 _ (by decide) rfl
  have ze2 : w7.cell? ⟨be, oe + 7, none⟩ = some (.int .i64 0) := he 1 (by decide) 2 _ (by decide) rfl
  have ze3 : w7.cell? ⟨be, oe + 8, none⟩ = some (.int .u64 2) := he 1 (by decide) 3 _ (by decide) rfl
  have ze4 : w7.cell? ⟨be, oe + 9, none⟩ = some (.int .i64 0) := he 1 (by decide) 4 _ (by decide) rfl
  clear he
  obtain ⟨bf, of, kf, ef, _, _, hf⟩ := F7.out.row.cells rpC_len (by decide)
  simp only [Value.slice.injEq] at ef
  obtain ⟨rfl, hxf, rfl⟩ := ef
  clear hxf
  have zf0 : w7.cell? ⟨bf, of, none⟩ = some (.int .i64 2) := hf 0 (by decide) 0 _ (by decide) rfl
  have zf1 : w7.cell? ⟨bf, of + 1, none⟩ = some (.int .i64 1) := hf 0 (by decide) 1 _ (by decide) rfl
  have zf2 : w7.cell? ⟨bf, of + 2, none⟩ = some (.int .i64 13) := hf 0 (by decide) 2 _ (by decide) rfl
  have zf3 : w7.cell? ⟨bf, of + 3, none⟩ = some (.int .u64 0) := hf 0 (by decide) 3 _ (by decide) rfl
  have zf4 : w7.cell? ⟨bf, of + 4, none⟩ = some (.int .i64 0) := hf 0 (by decide) 4 _ (by decide) rfl
  clear hf
  obtain ⟨p2, q2, e2, _, hx | ⟨bh, oh, rfl, _, hh⟩⟩ := R7.out.ex
  · exact absurd hx (by decide)
  simp only [Value.slice.injEq] at e2
  obtain ⟨rfl, hx2, rfl⟩ := e2
  clear hx2
  have zh : w7.cell? ⟨bh, oh, none⟩ = some (.int .i64 3) := hh 0 (by decide)
  have he1 : ∀ w : World, (binOp .eql rpT (.agg #[.int .i64 2, .int .i64 1, .int .i64 0, .int .u64 2, .int .i64 0]) (.agg #[.int .i64 2, .int .i64 1, .int .i64 0, .int .u64 2, .int .i64 0])).run Try.prog w = .ok (.bool true) w := fun w => by kernel_rfl
  have he2 : ∀ w : World, (binOp .eql rpT (.agg #[.int .i64 3, .int .i64 1, .int .i64 0, .int .u64 2, .int .i64 0]) (.agg #[.int .i64 3, .int .i64 1, .int .i64 0, .int .u64 2, .int .i64 0])).run Try.prog w = .ok (.bool true) w := fun w => by kernel_rfl
  have HT : Hid (Calls Try.prog 20 #[.pointer (some ⟨D, 0, none⟩)] w7 fun e w' => e = .returned (.int .u64 2) ∧ w' = w7) := H7.out.token
  clear hh
  go_wp2_with (go_at_call 20; refine Calls.mono HT.out ?_; rintro r w8 ⟨rfl, hz⟩; obtain rfl : w7 = w8 := hz.symm)
  go_ret
  exact ⟨rfl, B7.out⟩
end Go.Proofs.Ytmfadmhbkgemmaa
