/-
  Parts of the proof, laid together: ScStep, ScYield, ScCall. The conditions stand at each part.
-/
import Derived.Test.YthhlglbohibekaaSPackR
namespace Go.Proofs.Ythhlglbohibekaa
open Go.RowKit

theorem infoE : (Try.prog.info? 32).map (·.size) = some 3 := by kernel_rfl
theorem infoP : (Try.prog.info? 45).map (·.size) = some 3 := by kernel_rfl
theorem results_ev {fn : Func} {p u : Tmp} (h : fn.results = #[.cell p 32, .tmp u]) (tmps : Array Value) (w : World) (g : Nat) (cs : Array Value) (hp : tmps.getD p undef = .pointer (some ⟨g, 0, none⟩)) (hg : w.heap[g]? = some (.cells cs 32 (0, 0))) (hc : cs.size = 3) :
    (results fn tmps).run Try.prog w = .ok (.tuple #[.agg cs, tmps.getD u undef]) w := by
  have hp' : tmps[p]?.getD undef = .pointer (some ⟨g, 0, none⟩) := by simpa using hp
  simp [results, h, hp', asAddr, run_loadVar_row w g 32 32 cs (0, 0) _ hg Try.underlying32 rfl (by rw [hc]; exact infoE)]
section
variable {w w1 wE : World} {base D : Nat} {ro : Nat → Option Nat} {vT vL : Value} {tv : List Tv} {od : List Nat} {T : List Tk} {L : List (Int × Ob)}
theorem SkAt.opAt (h : SkAt w base D ro vT vL tv od T L) (i : Nat) (hi : i < T.length) (hp : T[i].pos < T[i].ops.length) : ∃ bT off cap bo oo co, vT = .slice (some ⟨bT, off, none⟩) T.length cap ∧ w.cell? ⟨D, 0, none⟩ = some (.slice (some ⟨bT, off, none⟩) T.length cap) ∧ w.cell? ⟨bT, off + i * 4, none⟩ = some (.slice (some ⟨bo, oo, none⟩) T[i].ops.length co) ∧ w.cell? ⟨bT, off + i * 4 + 1, none⟩ = some (.int .i64 (T[i].pos : Int)) ∧ w.cell? ⟨bo, oo + T[i].pos * 3, none⟩ = some (.int .i64 T[i].ops[T[i].pos].1) ∧ w.cell? ⟨bo, oo + T[i].pos * 3 + 1, none⟩ = some (.int .i64 T[i].ops[T[i].pos].2.1) ∧ w.cell? ⟨bo, oo + T[i].pos * 3 + 2, none⟩ = some (.int .i64 T[i].ops[T[i].pos].2.2) ∧ bT < w.heap.size ∧ bo < w.heap.size ∧ (∀ j, w.frozen? ⟨bT, j, none⟩ = false) := by
  have hit : i < tv.length := by rw [h.tl]; exact hi
  have e1 : (tv.zip T).length = T.length := by rw [List.length_zip, h.tl, Nat.min_self]
  obtain ⟨bT, off, cap, ev, _, hb, hx⟩ := (h.ts.at'.row tkC_len).cells tkC_len (by omega)
  have hz : (tv.zip T)[i]'(by omega) = (tv[i], T[i]) := List.getElem_zip
  obtain ⟨bo, oo, co, eo, _, hbo, hxo⟩ := ((h.op i hit hi).at'.row opC_len).cells opC_len (by omega)
  rw [e1] at ev
  have z0 : w.cell? ⟨bT, off + i * 4 + 0, none⟩ = some tv[i].1 := hx i (by omega) 0 _ (by decide) (by rw [hz]; rfl)
  have z1 : w.cell? ⟨bT, off + i * 4 + 1, none⟩ = some (.int .i64 (T[i].pos : Int)) := hx i (by omega) 1 _ (by decide) (by rw [hz]; rfl)
  rw [eo] at z0
  obtain ⟨_, _, c0, _⟩ := h.cells
  rw [ev] at c0
  have hf := h.ts.at'
  rw [ev] at hf
  exact ⟨bT, off, cap, bo, oo, co, ev, c0, z0, z1, hxo _ hp 0 _ (by decide) rfl, hxo _ hp 1 _ (by decide) rfl, hxo _ hp 2 _ (by decide) rfl, hb, hbo, fun j => hf.free j⟩
theorem SkAt.fin {bT off n cap : Nat} (h : SkAt w base D ro (.slice (some ⟨bT, off, none⟩) n cap) vL tv od T L) (i : Nat) (hi : i < T.length) (b : Bool) (u : Value) (V R : Nat) (hV : ro V = none) (hR : ro R = none) (gE : ((w.setCell ⟨bT, off + i * 4 + 2, none⟩ (.bool b)).setCell ⟨V, 2, none⟩ u).grownBy wE (some R)) :
    SkAt wE base D ro (.slice (some ⟨bT, off, none⟩) n cap) vL tv od (T.set i { T[i] with bl := b }) L ∧ ∀ (w0 : World) (ro0 : Nat → Option Nat), Kept w0 w (fun b => ro0 b ≠ none) (fun b => ro b ≠ none) → w0.heap.size ≤ V → w0.heap.size ≤ R → Kept w0 wE (fun b => ro0 b ≠ none) (fun b => ro b ≠ none) := by
  obtain ⟨h1, k1⟩ := h.setTask rfl i hi 2 { T[i] with bl := b } (.bool b) (Or.inr ⟨rfl, rfl, rfl⟩) rfl rfl
  have hs := gE.size
  have hs1 := k1.size
  have hsz : ((w.setCell ⟨bT, off + i * 4 + 2, none⟩ (.bool b)).setCell ⟨V, 2, none⟩ u).heap.size = (w.setCell ⟨bT, off + i * 4 + 2, none⟩ (.bool b)).heap.size := by simp
  have hk : ∀ c, c < (w.setCell ⟨bT, off + i * 4 + 2, none⟩ (.bool b)).heap.size → c ≠ V → c ≠ R → wE.heap[c]? = (w.setCell ⟨bT, off + i * 4 + 2, none⟩ (.bool b)).heap[c]? := fun c hc hcV hcR => by
    rw [gE.block c (by omega) (fun e => hcR (Option.some.inj e)), heap_setCell_other _ _ _ _ (by simpa using hcV)]
  refine ⟨h1.keep (by omega) (fun c hc => hk c (h1.bd c hc).2 (fun e => hc (by rw [e]; exact hV)) (fun e => hc (by rw [e]; exact hR))), fun w0 ro0 k0 h0V h0R => ?_⟩
  have k2 := k0.trans k1
  have hs2 := k2.size
  exact ⟨gE.os.trans k2.os, gE.tape.trans k2.tape, gE.output.trans k2.output, by omega, k2.old, fun c hc hn => (hk c (by omega) (by omega) (by omega)).trans (k2.kept c hc hn)⟩
set_option maxHeartbeats 6400000 in
set_option maxRecDepth 100000 in
theorem step_no (h : SkAt w base D ro vT vL tv od T L) (z : Int) (hz : rdB T z = false) : Calls Try.prog 14 #[.pointer (some ⟨D, 0, none⟩), .int .i64 z] w fun e w' => e = .returned (.tuple #[.agg #[.int .i64 0, .int .i64 0, .int .i64 0], .int .i64 1]) ∧ SkAt w' base D ro vT vL tv od T L ∧ Below w.heap.size w w' := by
  have B1 : Hid _ := (Below.refl _ w).alloc (Nat.le_refl _) (.cells #[.int .i64 0, .int .i64 0, .int .i64 0] 32)
  have R1 : Hid _ := heap_alloc_new w (.cells #[.int .i64 0, .int .i64 0, .int .i64 0] 32)
  have HS1 : Hid _ := h.fresh B1.out
  have HS0 : Hid _ := h
  clear h
  go_enter Try.func14, Try.ntmps14
  go_wp2_with (first
    | (show wpList _ _ _ (⟨_, Op.store 32 _ _, _, _, _, _⟩ :: _) _ _; refine store_row_g rfl 32 _ _ rfl w.heap.size #[.int .i64 0, .int .i64 0, .int .i64 0] rfl rfl 32 #[.int .i64 0, .int .i64 0, .int .i64 0] hR2 infoE rfl (by simp [Value.oneCell']) ?_; intro wE hE gE)
    | (go_at_call 33; refine (sk_ready HS1.out z).mono ?_; rw [hz]; rintro e w2 ⟨rfl, b2⟩; have hR2 := (b2.block w.heap.size (by simp)).trans R1.out))
  refine bodyPost_ret (results_ev Try.results14 _ _ w.heap.size _ rfl hE rfl) rfl ?_
  have hB : Below w.heap.size w wE := (bmm B1.out B1.out.size b2).grown gE (by have := b2.size; simp at this; omega) (fun q hq => by rw [← Option.some.inj hq]; exact Nat.le_refl _)
  exact ⟨rfl, HS0.out.fresh hB, hB⟩
end
end Go.Proofs.Ythhlglbohibekaa
namespace Go.Proofs.Ythhlglbohibekaa
open Go.RowKit

section
variable {w w1 wE : World} {base D : Nat} {ro : Nat → Option Nat} {vT vL : Value} {tv : List Tv} {od : List Nat} {T : List Tk} {L : List (Int × Ob)}
set_option maxHeartbeats 6400000 in
set_option maxRecDepth 100000 in
theorem step_yield (h : SkAt w base D ro vT vL tv od T L) (i : Nat) (hi : i < T.length) (hbl : T[i].bl = false) (hp : T[i].pos < T[i].ops.length) (hlo : T[i].ops.length ≤ 65536) (p1 : Nat) (hp1 : p1 = T[i].pos + 1) (num N : Int) (hop : T[i].ops[T[i].pos] = (9, num, N)) : Calls Try.prog 14 #[.pointer (some ⟨D, 0, none⟩), .int .i64 (i : Int)] w fun e w' => e = .returned (.tuple #[.agg #[.int .i64 (i : Int), .int .i64 (T[i].pos : Int), .int .i64 0], .int .i64 0]) ∧ ∃ ro' vL' tv' od', SkAt w' base D ro' vT vL' tv' od' ((T.set i { T[i] with pos := p1 }).set i { (T.set i { T[i] with pos := p1 })[i]'(by rw [List.length_set]; exact hi) with bl := false }) L ∧ Kept w w' (fun b => ro b ≠ none) (fun b => ro' b ≠ none) := by
  have B1 : Hid _ := (Below.refl _ w).alloc (Nat.le_refl _) (.cells #[.int .i64 0, .int .i64 0, .int .i64 0] 32)
  have R1 : Hid _ := heap_alloc_new w (.cells #[.int .i64 0, .int .i64 0, .int .i64 0] 32)
  have HS1 : Hid _ := h.fresh B1.out
  have HS0 : Hid _ := h
  have hDl := lt_of_block h.hd
  have hrd : rdB T (i : Int) = true := by
    unfold rdB tkR
    rw [Int.toNat_natCast, List.getElem?_eq_getElem hi]
    simp [hbl, hp]
  obtain ⟨bT, off, cap, bo, oo, co, ev, c0', z0', z1', y0', y1', y2', hbT, hbo, hfz'⟩ := h.opAt i hi hp
  rw [hop] at y0' y1' y2'
  have q6 : IntKind.i64.wrap ((T[i].pos : Int) + 1) = (p1 : Int) := by rw [IntKind.wrap_i64]; omega
  have hpl : (T[i].pos : Int) < (T[i].ops.length : Int) := by omega
  have HP1 : Hid _ := hp1
  clear h hbl hop hp1
  subst ev
  go_enter Try.func14, Try.ntmps14
  go_wp2_with (first
    | (show wpList _ _ _ (⟨_, Op.store 32 _ _, _, _, _, _⟩ :: _) _ _; refine store_row_g rfl 32 _ _ rfl w2.heap.size #[.int .i64 (i : Int), .int .i64 (T[i].pos : Int), .int .i64 0] rfl rfl 32 #[.int .i64 0, .int .i64 0, .int .i64 0] (heap_alloc_new w2 _) infoE rfl (by simp [Value.oneCell']) ?_; intro w3 hV3 g3)
    | (go_at_call 33; refine (sk_ready HS1.out (i : Int)).mono ?_; rw [hrd]; rintro e w2 ⟨rfl, b2⟩; have B2 : Below w.heap.size w w2 := bmm B1.out B1.out.size b2; have c0 := (B2.cell (p := ⟨D, 0, none⟩) (by exact hDl)).trans c0'; have z1 := (B2.cell (p := ⟨bT, off + i * 4 + 1, none⟩) (by exact hbT)).trans z1'))
  have hs2 := B2.size
  have hsb2 := b2.size
  have hR2 := (b2.block w.heap.size (by simp)).trans R1.out
  have hRl : w.heap.size < w2.heap.size := lt_of_block hR2
  have B3 : Below w.heap.size w w3.drew := ((B2.alloc hs2 _).grown g3 (by simp; omega) (fun q hq => by rw [← Option.some.inj hq]; exact hs2)).drew
  have hVl : w2.heap.size < w3.heap.size := lt_of_block hV3
  have hR3 : w3.drew.heap[w.heap.size]? = some (.cells #[.int .i64 0, .int .i64 0, .int .i64 0] 32 (0, 0)) := ((g3.block _ (by simp; omega) (fun e => by have := Option.some.inj e; omega)).trans (Below.heap_alloc w2 _ _ hRl)).trans hR2
  have hd3 : w3.drew.heap.size = w3.heap.size := rfl
  have hV3d : w3.drew.heap[w2.heap.size]? = some (.cells #[.int .i64 (i : Int), .int .i64 (T[i].pos : Int), .int .i64 0] 32 (0, 0)) := hV3
  have HSB : Hid (∀ w', Below w3.drew.heap.size w3.drew w' → (fun w' : World => w'.cell? ⟨bT, off + i * 4, none⟩ = some (.slice (some ⟨bo, oo, none⟩) T[i].ops.length co) ∧ w'.cell? ⟨bT, off + i * 4 + 1, none⟩ = some (.int .i64 (T[i].pos : Int)) ∧ w'.cell? ⟨bo, oo + T[i].pos * 3, none⟩ = some (.int .i64 9) ∧ w'.cell? ⟨bo, oo + T[i].pos * 3 + 1, none⟩ = some (.int .i64 num) ∧ w'.cell? ⟨bo, oo + T[i].pos * 3 + 2, none⟩ = some (.int .i64 N)) w') := fun w' b => by
    have b' : Below w.heap.size w w' := bmm B3 B3.size b
    exact ⟨(b'.cell (p := ⟨bT, off + i * 4, none⟩) (by exact hbT)).trans z0', (b'.cell (p := ⟨bT, off + i * 4 + 1, none⟩) (by exact hbT)).trans z1', (b'.cell (p := ⟨bo, oo + T[i].pos * 3, none⟩) (by exact hbo)).trans y0', (b'.cell (p := ⟨bo, oo + T[i].pos * 3 + 1, none⟩) (by exact hbo)).trans y1', (b'.cell (p := ⟨bo, oo + T[i].pos * 3 + 2, none⟩) (by exact hbo)).trans y2'⟩
  have HN : Hid (∀ w5 : World, Below w3.drew.heap.size w3.drew w5 → w5.heap[w3.drew.heap.size]? = some (.cells #[.int .i64 9, .int .i64 num, .int .i64 N] 45 (0, 0)) → (w5.cell? ⟨bT, off + i * 4 + 1, none⟩ = some (.int .i64 (T[i].pos : Int)) ∧ w5.frozen? ⟨bT, off + i * 4 + 1, none⟩ = false ∧ (w5.setCell ⟨bT, off + i * 4 + 1, none⟩ (.int .i64 (p1 : Int))).cell? ⟨w3.drew.heap.size, 0, none⟩ = some (.int .i64 9) ∧ (w5.setCell ⟨bT, off + i * 4 + 1, none⟩ (.int .i64 (p1 : Int))).heap[w3.drew.heap.size]? = some (.cells #[.int .i64 9, .int .i64 num, .int .i64 N] 45 (0, 0)) ∧ (w5.setCell ⟨bT, off + i * 4 + 1, none⟩ (.int .i64 (p1 : Int))).heap[w2.heap.size]? = some (.cells #[.int .i64 (i : Int), .int .i64 (T[i].pos : Int), .int .i64 0] 32 (0, 0)) ∧ (w5.setCell ⟨bT, off + i * 4 + 1, none⟩ (.int .i64 (p1 : Int))).heap[w.heap.size]? = some (.cells #[.int .i64 0, .int .i64 0, .int .i64 0] 32 (0, 0))) ∧ SkAt (w5.setCell ⟨bT, off + i * 4 + 1, none⟩ (.int .i64 (p1 : Int))) base D ro (.slice (some ⟨bT, off, none⟩) T.length cap) vL tv od (T.set i { T[i] with pos := p1 }) L ∧ Kept w (w5.setCell ⟨bT, off + i * 4 + 1, none⟩ (.int .i64 (p1 : Int))) (fun b => ro b ≠ none) (fun b => ro b ≠ none)) := fun w5 b5 hOB => by
    have b' : Below w.heap.size w w5 := bmm B3 B3.size b5
    have hs6 := HS0.out.fresh b'
    obtain ⟨k1, k2⟩ := hs6.setTask rfl i hi 1 { T[i] with pos := p1 } (.int .i64 (p1 : Int)) (Or.inl ⟨rfl, rfl, rfl⟩) rfl rfl
    have ho : ∀ c, c ≠ bT → (w5.setCell ⟨bT, off + i * 4 + 1, none⟩ (.int .i64 (p1 : Int))).heap[c]? = w5.heap[c]? := fun c hc => heap_setCell_other _ _ _ _ (by simpa using hc)
    refine ⟨⟨(b'.cell (p := ⟨bT, off + i * 4 + 1, none⟩) (by exact hbT)).trans z1', (b'.frozen (p := ⟨bT, off + i * 4 + 1, none⟩) (by exact hbT)).trans (hfz' _), ?_, (ho _ (by omega)).trans hOB, ?_, ?_⟩, k1, (Kept.of b').trans k2⟩
    · have := (ho w3.drew.heap.size (by omega)).trans hOB
      simp only [World.cell?, this]
      rfl
    · rw [ho _ (by omega), b5.block _ (by omega)]
      exact hV3d
    · rw [ho _ (by omega), b5.block _ (by omega)]
      exact hR3
  have hVR : w.heap.size ≤ w2.heap.size ∧ w.heap.size ≠ w2.heap.size ∧ w2.heap.size ≠ bT ∧ w.heap.size ≠ bT := ⟨hs2, by omega, by omega, by omega⟩
  have HB : Hid (∀ b, ro b ≠ none → b < w.heap.size) := fun b hb => (HS0.out.bd b hb).2
  clear B3 hV3d hR3 hd3 hVl hsb2 g3 hV3 z1 c0 z0' z1' y0' y1' y2' hR2 b2 B2 HS1 HS0 R1 B1
  have TF : Hid (∀ wK : World, wK.heap[w2.heap.size]? = some (.cells #[.int .i64 (i : Int), .int .i64 (T[i].pos : Int), .int .i64 0] 32 (0, 0)) → wK.heap[w.heap.size]? = some (.cells #[.int .i64 0, .int .i64 0, .int .i64 0] 32 (0, 0)) → ∀ (b : Bool) (e : Int), (wK.setCell ⟨bT, off + i * 4 + 2, none⟩ (.bool b)).cell? ⟨w2.heap.size, 2, none⟩ = some (.int .i64 0) ∧ (wK.setCell ⟨bT, off + i * 4 + 2, none⟩ (.bool b)).frozen? ⟨w2.heap.size, 2, none⟩ = false ∧ ((wK.setCell ⟨bT, off + i * 4 + 2, none⟩ (.bool b)).setCell ⟨w2.heap.size, 2, none⟩ (.int .i64 e)).cell? ⟨w2.heap.size, 0, none⟩ = some (.int .i64 (i : Int)) ∧ ((wK.setCell ⟨bT, off + i * 4 + 2, none⟩ (.bool b)).setCell ⟨w2.heap.size, 2, none⟩ (.int .i64 e)).cell? ⟨w2.heap.size, 1, none⟩ = some (.int .i64 (T[i].pos : Int)) ∧ ((wK.setCell ⟨bT, off + i * 4 + 2, none⟩ (.bool b)).setCell ⟨w2.heap.size, 2, none⟩ (.int .i64 e)).cell? ⟨w2.heap.size, 2, none⟩ = some (.int .i64 e) ∧ ((wK.setCell ⟨bT, off + i * 4 + 2, none⟩ (.bool b)).setCell ⟨w2.heap.size, 2, none⟩ (.int .i64 e)).heap[w.heap.size]? = some (.cells #[.int .i64 0, .int .i64 0, .int .i64 0] 32 (0, 0))) := fun wK h1 h2 b e => by
    have e1 : (wK.setCell ⟨bT, off + i * 4 + 2, none⟩ (.bool b)).heap[w2.heap.size]? = some (.cells #[.int .i64 (i : Int), .int .i64 (T[i].pos : Int), .int .i64 0] 32 (0, 0)) := (heap_setCell_other _ _ _ _ (by simpa using hVR.2.2.1)).trans h1
    have e2 : ((wK.setCell ⟨bT, off + i * 4 + 2, none⟩ (.bool b)).setCell ⟨w2.heap.size, 2, none⟩ (.int .i64 e)).heap[w2.heap.size]? = some (.cells #[.int .i64 (i : Int), .int .i64 (T[i].pos : Int), .int .i64 e] 32 (0, 0)) := by
      rw [heap_setCell_same _ w2.heap.size 2 _ _ _ e1]
      rfl
    refine ⟨by simp only [World.cell?, e1]; rfl, by simp only [World.frozen?, e1]; rfl, by simp only [World.cell?, e2]; rfl, by simp only [World.cell?, e2]; rfl, by simp only [World.cell?, e2]; rfl, ?_⟩
    rw [heap_setCell_other _ _ _ _ (by simpa using hVR.2.1), heap_setCell_other _ _ _ _ (by simpa using hVR.2.2.2)]
    exact h2
  refine wp_region_held_drew (S := (fun w' : World => w'.cell? ⟨bT, off + i * 4, none⟩ = some (.slice (some ⟨bo, oo, none⟩) T[i].ops.length co) ∧ w'.cell? ⟨bT, off + i * 4 + 1, none⟩ = some (.int .i64 (T[i].pos : Int)) ∧ w'.cell? ⟨bo, oo + T[i].pos * 3, none⟩ = some (.int .i64 9) ∧ w'.cell? ⟨bo, oo + T[i].pos * 3 + 1, none⟩ = some (.int .i64 num) ∧ w'.cell? ⟨bo, oo + T[i].pos * 3 + 2, none⟩ = some (.int .i64 N))) (by kernel_rfl) ?_ (fun hHeld0 => ?_)
  · exact HSB.out _ (Below.refl _ _)
  generalize w3.drew = w4 at *
  clear hHeld0
  have hHeld0 := HSB.out w4 (Below.refl _ _)
  refine tk0 (.pointer (some ⟨bT, off + i * 4, none⟩)) ?_ (fun w hSw => by (try dsimp only at hSw); obtain ⟨y0, y1, y2, y3, y4⟩ := hSw; go_simp)
  try simp only [Act.put, pu1, pu2, pu3]
  refine tk1 (.pointer (some ⟨bT, off + i * 4, none⟩)) ?_ (fun w hSw => by (try dsimp only at hSw); obtain ⟨y0, y1, y2, y3, y4⟩ := hSw; go_simp)
  try simp only [Act.put, pu1, pu2, pu3]
  refine tk2 (.pointer (some ⟨bT, off + i * 4, none⟩)) ?_ (fun w hSw => by (try dsimp only at hSw); obtain ⟨y0, y1, y2, y3, y4⟩ := hSw; go_simp)
  try simp only [Act.put, pu1, pu2, pu3]
  refine tk3 (.slice (some ⟨bo, oo, none⟩) T[i].ops.length co) ?_ (fun w hSw => by (try dsimp only at hSw); obtain ⟨y0, y1, y2, y3, y4⟩ := hSw; go_simp)
  try simp only [Act.put, pu1, pu2, pu3]
  refine tk4 (.pointer (some ⟨bT, off + i * 4, none⟩)) ?_ (fun w hSw => by (try dsimp only at hSw); obtain ⟨y0, y1, y2, y3, y4⟩ := hSw; go_simp)
  try simp only [Act.put, pu1, pu2, pu3]
  refine tk5 (.pointer (some ⟨bT, off + i * 4, none⟩)) ?_ (fun w hSw => by (try dsimp only at hSw); obtain ⟨y0, y1, y2, y3, y4⟩ := hSw; go_simp)
  try simp only [Act.put, pu1, pu2, pu3]
  refine tk6 (.pointer (some ⟨bT, off + i * 4 + 1, none⟩)) ?_ (fun w hSw => by (try dsimp only at hSw); obtain ⟨y0, y1, y2, y3, y4⟩ := hSw; go_simp)
  try simp only [Act.put, pu1, pu2, pu3]
  refine tk7 (.int .i64 (T[i].pos : Int)) ?_ (fun w hSw => by (try dsimp only at hSw); obtain ⟨y0, y1, y2, y3, y4⟩ := hSw; go_simp)
  try simp only [Act.put, pu1, pu2, pu3]
  refine tk8 (.pointer (some ⟨bo, oo + T[i].pos * 3, none⟩)) ?_ (fun w hSw => by (try dsimp only at hSw); obtain ⟨y0, y1, y2, y3, y4⟩ := hSw; go_simp)
  try simp only [Act.put, pu1, pu2, pu3]
  refine tk9 (.agg #[.int .i64 9, .int .i64 num, .int .i64 N]) ?_ (fun w hSw => by (try dsimp only at hSw); obtain ⟨y0, y1, y2, y3, y4⟩ := hSw; go_simp)
  try simp only [Act.put, pu1, pu2, pu3]
  refine cl10 (by kernel_rfl) rfl (fun K hK => ?_)
  go_simp
  refine hK.out _ _ ?_ (fun hHeld => ?_)
  · exact HSB.out _ ((Below.refl _ w4).alloc (Nat.le_refl _) _)
  clear hK K
  try simp only [Act.put, pu1, pu2, pu3]
  refine cl11 (by kernel_rfl) rfl (fun K hK => ?_)
  refine wp_store_row 45 (.tmp 8) (.tmp 41) rfl w4.heap.size #[.int .i64 9, .int .i64 num, .int .i64 N] rfl rfl 45 #[.int .i64 0, .int .i64 0, .int .i64 0] (heap_alloc_new w4 _) infoP rfl (by simp [Value.oneCell']) ?_
  refine hK.out _ _ ?_ (fun hHeld => ?_)
  · exact HSB.out _ (((Below.refl _ w4).alloc (Nat.le_refl _) _).grown (grown_setRow_g _ _ _) (by simp) (fun q hq => by rw [← Option.some.inj hq]; exact Nat.le_refl _))
  clear hK K
  refine wpAnyH_done (by kernel_rfl) ?_ _
  simp only [Act.put]
  have hOB := setRow_heap (w4.alloc (.cells #[.int .i64 0, .int .i64 0, .int .i64 0] 45)) w4.heap.size #[.int .i64 0, .int .i64 0, .int .i64 0] #[.int .i64 9, .int .i64 num, .int .i64 N] 45 (0, 0) (heap_alloc_new w4 _)
  have B5 : Below w4.heap.size w4 ((w4.alloc (.cells #[.int .i64 0, .int .i64 0, .int .i64 0] 45)).setRow w4.heap.size #[.int .i64 9, .int .i64 num, .int .i64 N]) := ((Below.refl _ w4).alloc (Nat.le_refl _) _).grown (grown_setRow_g _ _ _) (by simp) (fun q hq => by rw [← Option.some.inj hq]; exact Nat.le_refl _)
  generalize (w4.alloc (.cells #[.int .i64 0, .int .i64 0, .int .i64 0] 45)).setRow w4.heap.size #[.int .i64 9, .int .i64 num, .int .i64 N] = w5 at *
  clear hHeld
  clear hHeld0
  obtain ⟨X5, HS6, HK6⟩ := HN.out w5 B5 hOB
  have hiT : i < (T.set i { T[i] with pos := p1 }).length := by rw [List.length_set]; exact hi
  obtain ⟨x1, x2, x3, x4, x5, x6⟩ := X5
  obtain ⟨t1, t2, t3, t4, t5, t6⟩ := TF.out _ x5 x6 false 0
  obtain ⟨bT9, off9, cap9, ao9, co9, ar9, cr9, ev9, hb9, _, _, z29, _⟩ := HS6.task i hiT
  simp only [Value.slice.injEq, Option.some.injEq, Addr.mk.injEq] at ev9
  obtain ⟨⟨rfl, rfl, _⟩, _, _⟩ := ev9
  have hf9 : (w5.setCell ⟨bT, off + i * 4 + 1, none⟩ (.int .i64 (p1 : Int))).frozen? ⟨bT, off + i * 4 + 2, none⟩ = false := HS6.ts.at'.free _
  have HS7 : Hid _ := HS6
  have HK7 : Hid _ := HK6
  have HT6 : Hid _ := t6
  clear HS6 HK6 t6 x4 x5 x6
  go_wp2_with (show wpList _ _ _ (⟨_, Op.store 32 _ _, _, _, _, _⟩ :: _) _ _; refine store_row_g rfl 32 _ _ rfl w.heap.size #[.int .i64 (i : Int), .int .i64 (T[i].pos : Int), .int .i64 0] rfl rfl 32 #[.int .i64 0, .int .i64 0, .int .i64 0] HT6.out infoE rfl (by simp [Value.oneCell']) ?_; intro wE hE gE)
  simp only [Act.put]
  go_wp2
  refine bodyPost_ret (results_ev Try.results14 _ _ w.heap.size _ rfl hE rfl) rfl ?_
  have hn : ∀ b, w.heap.size ≤ b → ro b = none := fun b hb => by
    cases h : ro b with
    | none => rfl
    | some x =>
      have := HB.out b (by rw [h]; simp)
      omega
  obtain ⟨k1, k2⟩ := HS7.out.fin i hiT false (.int .i64 0) w2.heap.size w.heap.size (hn _ hVR.1) (hn _ (Nat.le_refl _)) gE
  exact ⟨rfl, ro, vL, tv, od, k1, k2 w ro HK7.out hVR.1 (Nat.le_refl _)⟩
end
end Go.Proofs.Ythhlglbohibekaa
namespace Go.Proofs.Ythhlglbohibekaa
open Go.RowKit

section
variable {w w1 wE : World} {base D : Nat} {ro : Nat → Option Nat} {vT vL : Value} {tv : List Tv} {od : List Nat} {T : List Tk} {L : List (Int × Ob)}
theorem SkAt.cell2 {bT off n cap : Nat} (h : SkAt w base D ro (.slice (some ⟨bT, off, none⟩) n cap) vL tv od T L) (i : Nat) (hi : i < T.length) : w.cell? ⟨bT, off + i * 4 + 2, none⟩ = some (.bool T[i].bl) := by
  obtain ⟨bT9, off9, cap9, ao9, co9, ar9, cr9, ev9, _, _, _, z29, _⟩ := h.task i hi
  simp only [Value.slice.injEq, Option.some.injEq, Addr.mk.injEq] at ev9
  obtain ⟨⟨rfl, rfl, _⟩, _, _⟩ := ev9
  exact z29
set_option maxHeartbeats 6400000 in
set_option maxRecDepth 100000 in
theorem step_lockF (h : SkAt w base D ro vT vL tv od T L) (i : Nat) (hi : i < T.length) (hbl : T[i].bl = false) (hp : T[i].pos < T[i].ops.length) (hlo : T[i].ops.length ≤ 65536) (p1 : Nat) (hp1 : p1 = T[i].pos + 1) (kd num N : Int) (hop : T[i].ops[T[i].pos] = (kd, num, N)) (hk5 : kd ≠ 5) (hk6 : kd ≠ 6) (hk7 : kd ≠ 7) (hk8 : kd ≠ 8) (hk9 : kd ≠ 9) (ez : Int) (T2 : List Tk) (L2 : List (Int × Ob)) (hiT2 : i < T2.length) (hcall' : ∀ w6 : World, SkAt w6 base D ro vT vL tv od (T.set i { T[i] with pos := p1 }) L → Calls Try.prog 39 #[.pointer (some ⟨D, 0, none⟩), .int .i64 (i : Int), .agg #[.int .i64 kd, .int .i64 num, .int .i64 N]] w6 fun e w' => e = .returned (.tuple #[.bool false, .int .i64 ez]) ∧ ∃ ro' vL' tv' od', SkAt w' base D ro' vT vL' tv' od' T2 L2 ∧ Kept w6 w' (fun b => ro b ≠ none) (fun b => ro' b ≠ none)) : Calls Try.prog 14 #[.pointer (some ⟨D, 0, none⟩), .int .i64 (i : Int)] w fun e w' => e = .returned (.tuple #[.agg #[.int .i64 (i : Int), .int .i64 (T[i].pos : Int), .int .i64 ez], .int .i64 0]) ∧ ∃ ro' vL' tv' od', SkAt w' base D ro' vT vL' tv' od' (T2.set i { T2[i] with bl := false }) L2 ∧ Kept w w' (fun b => ro b ≠ none) (fun b => ro' b ≠ none) := by
  have q5 : (kd == 5) = false := beq_eq_false_iff_ne.2 hk5
  have q7 : (kd == 7) = false := beq_eq_false_iff_ne.2 hk7
  have q8 : (kd == 8) = false := beq_eq_false_iff_ne.2 hk8
  have q9 : (kd == 9) = false := beq_eq_false_iff_ne.2 hk9
  have q06 : (kd == 6) = false := beq_eq_false_iff_ne.2 hk6
  have HCL : Hid _ := hcall'
  clear hcall'
  have B1 : Hid _ := (Below.refl _ w).alloc (Nat.le_refl _) (.cells #[.int .i64 0, .int .i64 0, .int .i64 0] 32)
  have R1 : Hid _ := heap_alloc_new w (.cells #[.int .i64 0, .int .i64 0, .int .i64 0] 32)
  have HS1 : Hid _ := h.fresh B1.out
  have HS0 : Hid _ := h
  have hDl := lt_of_block h.hd
  have hrd : rdB T (i : Int) = true := by
    unfold rdB tkR
    rw [Int.toNat_natCast, List.getElem?_eq_getElem hi]
    simp [hbl, hp]
  obtain ⟨bT, off, cap, bo, oo, co, ev, c0', z0', z1', y0', y1', y2', hbT, hbo, hfz'⟩ := h.opAt i hi hp
  rw [hop] at y0' y1' y2'
  have q6 : IntKind.i64.wrap ((T[i].pos : Int) + 1) = (p1 : Int) := by rw [IntKind.wrap_i64]; omega
  have hpl : (T[i].pos : Int) < (T[i].ops.length : Int) := by omega
  have HP1 : Hid _ := hp1
  clear h hbl hop hp1
  subst ev
  go_enter Try.func14, Try.ntmps14
  go_wp2_with (first
    | (show wpList _ _ _ (⟨_, Op.store 32 _ _, _, _, _, _⟩ :: _) _ _; refine store_row_g rfl 32 _ _ rfl w2.heap.size #[.int .i64 (i : Int), .int .i64 (T[i].pos : Int), .int .i64 0] rfl rfl 32 #[.int .i64 0, .int .i64 0, .int .i64 0] (heap_alloc_new w2 _) infoE rfl (by simp [Value.oneCell']) ?_; intro w3 hV3 g3)
    | (go_at_call 33; refine (sk_ready HS1.out (i : Int)).mono ?_; rw [hrd]; rintro e w2 ⟨rfl, b2⟩; have B2 : Below w.heap.size w w2 := bmm B1.out B1.out.size b2; have c0 := (B2.cell (p := ⟨D, 0, none⟩) (by exact hDl)).trans c0'; have z1 := (B2.cell (p := ⟨bT, off + i * 4 + 1, none⟩) (by exact hbT)).trans z1'))
  have hs2 := B2.size
  have hsb2 := b2.size
  have hR2 := (b2.block w.heap.size (by simp)).trans R1.out
  have hRl : w.heap.size < w2.heap.size := lt_of_block hR2
  have B3 : Below w.heap.size w w3.drew := ((B2.alloc hs2 _).grown g3 (by simp; omega) (fun q hq => by rw [← Option.some.inj hq]; exact hs2)).drew
  have hVl : w2.heap.size < w3.heap.size := lt_of_block hV3
  have hR3 : w3.drew.heap[w.heap.size]? = some (.cells #[.int .i64 0, .int .i64 0, .int .i64 0] 32 (0, 0)) := ((g3.block _ (by simp; omega) (fun e => by have := Option.some.inj e; omega)).trans (Below.heap_alloc w2 _ _ hRl)).trans hR2
  have hd3 : w3.drew.heap.size = w3.heap.size := rfl
  have hV3d : w3.drew.heap[w2.heap.size]? = some (.cells #[.int .i64 (i : Int), .int .i64 (T[i].pos : Int), .int .i64 0] 32 (0, 0)) := hV3
  have HSB : Hid (∀ w', Below w3.drew.heap.size w3.drew w' → (fun w' : World => w'.cell? ⟨bT, off + i * 4, none⟩ = some (.slice (some ⟨bo, oo, none⟩) T[i].ops.length co) ∧ w'.cell? ⟨bT, off + i * 4 + 1, none⟩ = some (.int .i64 (T[i].pos : Int)) ∧ w'.cell? ⟨bo, oo + T[i].pos * 3, none⟩ = some (.int .i64 kd) ∧ w'.cell? ⟨bo, oo + T[i].pos * 3 + 1, none⟩ = some (.int .i64 num) ∧ w'.cell? ⟨bo, oo + T[i].pos * 3 + 2, none⟩ = some (.int .i64 N)) w') := fun w' b => by
    have b' : Below w.heap.size w w' := bmm B3 B3.size b
    exact ⟨(b'.cell (p := ⟨bT, off + i * 4, none⟩) (by exact hbT)).trans z0', (b'.cell (p := ⟨bT, off + i * 4 + 1, none⟩) (by exact hbT)).trans z1', (b'.cell (p := ⟨bo, oo + T[i].pos * 3, none⟩) (by exact hbo)).trans y0', (b'.cell (p := ⟨bo, oo + T[i].pos * 3 + 1, none⟩) (by exact hbo)).trans y1', (b'.cell (p := ⟨bo, oo + T[i].pos * 3 + 2, none⟩) (by exact hbo)).trans y2'⟩
  have HN : Hid (∀ w5 : World, Below w3.drew.heap.size w3.drew w5 → w5.heap[w3.drew.heap.size]? = some (.cells #[.int .i64 kd, .int .i64 num, .int .i64 N] 45 (0, 0)) → (w5.cell? ⟨bT, off + i * 4 + 1, none⟩ = some (.int .i64 (T[i].pos : Int)) ∧ w5.frozen? ⟨bT, off + i * 4 + 1, none⟩ = false ∧ (w5.setCell ⟨bT, off + i * 4 + 1, none⟩ (.int .i64 (p1 : Int))).cell? ⟨w3.drew.heap.size, 0, none⟩ = some (.int .i64 kd) ∧ (w5.setCell ⟨bT, off + i * 4 + 1, none⟩ (.int .i64 (p1 : Int))).heap[w3.drew.heap.size]? = some (.cells #[.int .i64 kd, .int .i64 num, .int .i64 N] 45 (0, 0)) ∧ (w5.setCell ⟨bT, off + i * 4 + 1, none⟩ (.int .i64 (p1 : Int))).heap[w2.heap.size]? = some (.cells #[.int .i64 (i : Int), .int .i64 (T[i].pos : Int), .int .i64 0] 32 (0, 0)) ∧ (w5.setCell ⟨bT, off + i * 4 + 1, none⟩ (.int .i64 (p1 : Int))).heap[w.heap.size]? = some (.cells #[.int .i64 0, .int .i64 0, .int .i64 0] 32 (0, 0))) ∧ SkAt (w5.setCell ⟨bT, off + i * 4 + 1, none⟩ (.int .i64 (p1 : Int))) base D ro (.slice (some ⟨bT, off, none⟩) T.length cap) vL tv od (T.set i { T[i] with pos := p1 }) L ∧ Kept w (w5.setCell ⟨bT, off + i * 4 + 1, none⟩ (.int .i64 (p1 : Int))) (fun b => ro b ≠ none) (fun b => ro b ≠ none)) := fun w5 b5 hOB => by
    have b' : Below w.heap.size w w5 := bmm B3 B3.size b5
    have hs6 := HS0.out.fresh b'
    obtain ⟨k1, k2⟩ := hs6.setTask rfl i hi 1 { T[i] with pos := p1 } (.int .i64 (p1 : Int)) (Or.inl ⟨rfl, rfl, rfl⟩) rfl rfl
    have ho : ∀ c, c ≠ bT → (w5.setCell ⟨bT, off + i * 4 + 1, none⟩ (.int .i64 (p1 : Int))).heap[c]? = w5.heap[c]? := fun c hc => heap_setCell_other _ _ _ _ (by simpa using hc)
    refine ⟨⟨(b'.cell (p := ⟨bT, off + i * 4 + 1, none⟩) (by exact hbT)).trans z1', (b'.frozen (p := ⟨bT, off + i * 4 + 1, none⟩) (by exact hbT)).trans (hfz' _), ?_, (ho _ (by omega)).trans hOB, ?_, ?_⟩, k1, (Kept.of b').trans k2⟩
    · have := (ho w3.drew.heap.size (by omega)).trans hOB
      simp only [World.cell?, this]
      rfl
    · rw [ho _ (by omega), b5.block _ (by omega)]
      exact hV3d
    · rw [ho _ (by omega), b5.block _ (by omega)]
      exact hR3
  have hVR : w.heap.size ≤ w2.heap.size ∧ w.heap.size ≠ w2.heap.size ∧ w2.heap.size ≠ bT ∧ w.heap.size ≠ bT := ⟨hs2, by omega, by omega, by omega⟩
  have HB : Hid (∀ b, ro b ≠ none → b < w.heap.size) := fun b hb => (HS0.out.bd b hb).2
  clear B3 hV3d hR3 hd3 hVl hsb2 g3 hV3 z1 c0 z0' z1' y0' y1' y2' hR2 b2 B2 HS1 HS0 R1 B1
  have TF : Hid (∀ wK : World, wK.heap[w2.heap.size]? = some (.cells #[.int .i64 (i : Int), .int .i64 (T[i].pos : Int), .int .i64 0] 32 (0, 0)) → wK.heap[w.heap.size]? = some (.cells #[.int .i64 0, .int .i64 0, .int .i64 0] 32 (0, 0)) → ∀ (b : Bool) (e : Int), (wK.setCell ⟨bT, off + i * 4 + 2, none⟩ (.bool b)).cell? ⟨w2.heap.size, 2, none⟩ = some (.int .i64 0) ∧ (wK.setCell ⟨bT, off + i * 4 + 2, none⟩ (.bool b)).frozen? ⟨w2.heap.size, 2, none⟩ = false ∧ ((wK.setCell ⟨bT, off + i * 4 + 2, none⟩ (.bool b)).setCell ⟨w2.heap.size, 2, none⟩ (.int .i64 e)).cell? ⟨w2.heap.size, 0, none⟩ = some (.int .i64 (i : Int)) ∧ ((wK.setCell ⟨bT, off + i * 4 + 2, none⟩ (.bool b)).setCell ⟨w2.heap.size, 2, none⟩ (.int .i64 e)).cell? ⟨w2.heap.size, 1, none⟩ = some (.int .i64 (T[i].pos : Int)) ∧ ((wK.setCell ⟨bT, off + i * 4 + 2, none⟩ (.bool b)).setCell ⟨w2.heap.size, 2, none⟩ (.int .i64 e)).cell? ⟨w2.heap.size, 2, none⟩ = some (.int .i64 e) ∧ ((wK.setCell ⟨bT, off + i * 4 + 2, none⟩ (.bool b)).setCell ⟨w2.heap.size, 2, none⟩ (.int .i64 e)).heap[w.heap.size]? = some (.cells #[.int .i64 0, .int .i64 0, .int .i64 0] 32 (0, 0))) := fun wK h1 h2 b e => by
    have e1 : (wK.setCell ⟨bT, off + i * 4 + 2, none⟩ (.bool b)).heap[w2.heap.size]? = some (.cells #[.int .i64 (i : Int), .int .i64 (T[i].pos : Int), .int .i64 0] 32 (0, 0)) := (heap_setCell_other _ _ _ _ (by simpa using hVR.2.2.1)).trans h1
    have e2 : ((wK.setCell ⟨bT, off + i * 4 + 2, none⟩ (.bool b)).setCell ⟨w2.heap.size, 2, none⟩ (.int .i64 e)).heap[w2.heap.size]? = some (.cells #[.int .i64 (i : Int), .int .i64 (T[i].pos : Int), .int .i64 e] 32 (0, 0)) := by
      rw [heap_setCell_same _ w2.heap.size 2 _ _ _ e1]
      rfl
    refine ⟨by simp only [World.cell?, e1]; rfl, by simp only [World.frozen?, e1]; rfl, by simp only [World.cell?, e2]; rfl, by simp only [World.cell?, e2]; rfl, by simp only [World.cell?, e2]; rfl, ?_⟩
    rw [heap_setCell_other _ _ _ _ (by simpa using hVR.2.1), heap_setCell_other _ _ _ _ (by simpa using hVR.2.2.2)]
    exact h2
  refine wp_region_held_drew (S := (fun w' : World => w'.cell? ⟨bT, off + i * 4, none⟩ = some (.slice (some ⟨bo, oo, none⟩) T[i].ops.length co) ∧ w'.cell? ⟨bT, off + i * 4 + 1, none⟩ = some (.int .i64 (T[i].pos : Int)) ∧ w'.cell? ⟨bo, oo + T[i].pos * 3, none⟩ = some (.int .i64 kd) ∧ w'.cell? ⟨bo, oo + T[i].pos * 3 + 1, none⟩ = some (.int .i64 num) ∧ w'.cell? ⟨bo, oo + T[i].pos * 3 + 2, none⟩ = some (.int .i64 N))) (by kernel_rfl) ?_ (fun hHeld0 => ?_)
  · exact HSB.out _ (Below.refl _ _)
  generalize w3.drew = w4 at *
  clear hHeld0
  have hHeld0 := HSB.out w4 (Below.refl _ _)
  refine tk0 (.pointer (some ⟨bT, off + i * 4, none⟩)) ?_ (fun w hSw => by (try dsimp only at hSw); obtain ⟨y0, y1, y2, y3, y4⟩ := hSw; go_simp)
  try simp only [Act.put, pu1, pu2, pu3]
  refine tk1 (.pointer (some ⟨bT, off + i * 4, none⟩)) ?_ (fun w hSw => by (try dsimp only at hSw); obtain ⟨y0, y1, y2, y3, y4⟩ := hSw; go_simp)
  try simp only [Act.put, pu1, pu2, pu3]
  refine tk2 (.pointer (some ⟨bT, off + i * 4, none⟩)) ?_ (fun w hSw => by (try dsimp only at hSw); obtain ⟨y0, y1, y2, y3, y4⟩ := hSw; go_simp)
  try simp only [Act.put, pu1, pu2, pu3]
  refine tk3 (.slice (some ⟨bo, oo, none⟩) T[i].ops.length co) ?_ (fun w hSw => by (try dsimp only at hSw); obtain ⟨y0, y1, y2, y3, y4⟩ := hSw; go_simp)
  try simp only [Act.put, pu1, pu2, pu3]
  refine tk4 (.pointer (some ⟨bT, off + i * 4, none⟩)) ?_ (fun w hSw => by (try dsimp only at hSw); obtain ⟨y0, y1, y2, y3, y4⟩ := hSw; go_simp)
  try simp only [Act.put, pu1, pu2, pu3]
  refine tk5 (.pointer (some ⟨bT, off + i * 4, none⟩)) ?_ (fun w hSw => by (try dsimp only at hSw); obtain ⟨y0, y1, y2, y3, y4⟩ := hSw; go_simp)
  try simp only [Act.put, pu1, pu2, pu3]
  refine tk6 (.pointer (some ⟨bT, off + i * 4 + 1, none⟩)) ?_ (fun w hSw => by (try dsimp only at hSw); obtain ⟨y0, y1, y2, y3, y4⟩ := hSw; go_simp)
  try simp only [Act.put, pu1, pu2, pu3]
  refine tk7 (.int .i64 (T[i].pos : Int)) ?_ (fun w hSw => by (try dsimp only at hSw); obtain ⟨y0, y1, y2, y3, y4⟩ := hSw; go_simp)
  try simp only [Act.put, pu1, pu2, pu3]
  refine tk8 (.pointer (some ⟨bo, oo + T[i].pos * 3, none⟩)) ?_ (fun w hSw => by (try dsimp only at hSw); obtain ⟨y0, y1, y2, y3, y4⟩ := hSw; go_simp)
  try simp only [Act.put, pu1, pu2, pu3]
  refine tk9 (.agg #[.int .i64 kd, .int .i64 num, .int .i64 N]) ?_ (fun w hSw => by (try dsimp only at hSw); obtain ⟨y0, y1, y2, y3, y4⟩ := hSw; go_simp)
  try simp only [Act.put, pu1, pu2, pu3]
  refine cl10 (by kernel_rfl) rfl (fun K hK => ?_)
  go_simp
  refine hK.out _ _ ?_ (fun hHeld => ?_)
  · exact HSB.out _ ((Below.refl _ w4).alloc (Nat.le_refl _) _)
  clear hK K
  try simp only [Act.put, pu1, pu2, pu3]
  refine cl11 (by kernel_rfl) rfl (fun K hK => ?_)
  refine wp_store_row 45 (.tmp 8) (.tmp 41) rfl w4.heap.size #[.int .i64 kd, .int .i64 num, .int .i64 N] rfl rfl 45 #[.int .i64 0, .int .i64 0, .int .i64 0] (heap_alloc_new w4 _) infoP rfl (by simp [Value.oneCell']) ?_
  refine hK.out _ _ ?_ (fun hHeld => ?_)
  · exact HSB.out _ (((Below.refl _ w4).alloc (Nat.le_refl _) _).grown (grown_setRow_g _ _ _) (by simp) (fun q hq => by rw [← Option.some.inj hq]; exact Nat.le_refl _))
  clear hK K
  refine wpAnyH_done (by kernel_rfl) ?_ _
  simp only [Act.put]
  have hOB := setRow_heap (w4.alloc (.cells #[.int .i64 0, .int .i64 0, .int .i64 0] 45)) w4.heap.size #[.int .i64 0, .int .i64 0, .int .i64 0] #[.int .i64 kd, .int .i64 num, .int .i64 N] 45 (0, 0) (heap_alloc_new w4 _)
  have B5 : Below w4.heap.size w4 ((w4.alloc (.cells #[.int .i64 0, .int .i64 0, .int .i64 0] 45)).setRow w4.heap.size #[.int .i64 kd, .int .i64 num, .int .i64 N]) := ((Below.refl _ w4).alloc (Nat.le_refl _) _).grown (grown_setRow_g _ _ _) (by simp) (fun q hq => by rw [← Option.some.inj hq]; exact Nat.le_refl _)
  generalize (w4.alloc (.cells #[.int .i64 0, .int .i64 0, .int .i64 0] 45)).setRow w4.heap.size #[.int .i64 kd, .int .i64 num, .int .i64 N] = w5 at *
  clear hHeld
  clear hHeld0
  obtain ⟨X5, HS6, HK6⟩ := HN.out w5 B5 hOB
  obtain ⟨x1, x2, x3, x4, x5, x6⟩ := X5
  have HKV : Hid (∀ (w7 : World) (ro7 : Nat → Option Nat), Kept (w5.setCell ⟨bT, off + i * 4 + 1, none⟩ (.int .i64 (p1 : Int))) w7 (fun b => ro b ≠ none) (fun b => ro7 b ≠ none) → w7.heap[w2.heap.size]? = some (.cells #[.int .i64 (i : Int), .int .i64 (T[i].pos : Int), .int .i64 0] 32 (0, 0)) ∧ w7.heap[w.heap.size]? = some (.cells #[.int .i64 0, .int .i64 0, .int .i64 0] 32 (0, 0)) ∧ ro7 w2.heap.size = none ∧ ro7 w.heap.size = none) := fun w7 ro7 k => by
    have l1 := lt_of_block x5
    have l2 := lt_of_block x6
    have hn : ∀ b, w.heap.size ≤ b → ¬ ro b ≠ none := fun b hb e => by
      have := HB.out b e
      omega
    have ho : ∀ b, w.heap.size ≤ b → b < _ → ro7 b = none := fun b hb hl => by
      cases h : ro7 b with
      | none => rfl
      | some x =>
        rcases k.old b (by rw [h]; simp) with h1 | h1
        · exact absurd h1 (hn b hb)
        · exact absurd hl (Nat.not_lt.2 h1)
    exact ⟨(k.kept _ l1 (hn _ hVR.1)).trans x5, (k.kept _ l2 (hn _ (Nat.le_refl _))).trans x6, ho _ hVR.1 l1, ho _ (Nat.le_refl _) l2⟩
  have o0 : (w5.setCell ⟨bT, off + i * 4 + 1, none⟩ (.int .i64 (p1 : Int))).cell? ⟨w4.heap.size, 0, none⟩ = some (.int .i64 kd) := x3
  have o1 : (w5.setCell ⟨bT, off + i * 4 + 1, none⟩ (.int .i64 (p1 : Int))).cell? ⟨w4.heap.size, 1, none⟩ = some (.int .i64 num) := by simp only [World.cell?, x4]; rfl
  have o2 : (w5.setCell ⟨bT, off + i * 4 + 1, none⟩ (.int .i64 (p1 : Int))).cell? ⟨w4.heap.size, 2, none⟩ = some (.int .i64 N) := by simp only [World.cell?, x4]; rfl
  have HS7 : Hid _ := HS6
  have HK7 : Hid _ := HK6
  clear HS6 HK6 x4 x5 x6 o0
  go_wp2_with (first | (show wpList _ _ _ (⟨_, Op.store 32 _ _, _, _, _, _⟩ :: _) _ _; refine store_row_g rfl 32 _ _ rfl w.heap.size #[.int .i64 (i : Int), .int .i64 (T[i].pos : Int), .int .i64 ez] rfl rfl 32 #[.int .i64 0, .int .i64 0, .int .i64 0] HT6.out infoE rfl (by simp [Value.oneCell']) ?_; intro wE hE gE) | (go_at_call 39; refine (HCL.out _ HS7.out).mono ?_; rintro e w7 ⟨rfl, ro7, vL7, tv7, od7, h7', k7'⟩; have h7 : Hid _ := h7'; have k7 : Hid _ := k7'; clear h7' k7'; obtain ⟨v1, v2, v3, v4⟩ := HKV.out w7 ro7 k7.out; obtain ⟨t1, t2, t3, t4, t5, t6⟩ := TF.out w7 v1 v2 false ez; have z29 := h7.out.cell2 i hiT2; have hf9 : w7.frozen? ⟨bT, off + i * 4 + 2, none⟩ = false := h7.out.ts.at'.free _; have HT6 : Hid _ := t6; have HV7 : Hid _ := (⟨v3, v4⟩ : ro7 _ = none ∧ ro7 _ = none); clear t6 v1 v2 v3 v4))
  refine bodyPost_ret (results_ev Try.results14 _ _ w.heap.size _ rfl hE rfl) rfl ?_
  obtain ⟨k1, k2⟩ := h7.out.fin i hiT2 false (.int .i64 ez) w2.heap.size w.heap.size HV7.out.1 HV7.out.2 gE
  exact ⟨rfl, ro7, vL7, tv7, od7, k1, k2 w ro (HK7.out.trans k7.out) hVR.1 (Nat.le_refl _)⟩
set_option maxHeartbeats 6400000 in
set_option maxRecDepth 100000 in
theorem step_lockT (h : SkAt w base D ro vT vL tv od T L) (i : Nat) (hi : i < T.length) (hbl : T[i].bl = false) (hp : T[i].pos < T[i].ops.length) (hlo : T[i].ops.length ≤ 65536) (p1 : Nat) (hp1 : p1 = T[i].pos + 1) (kd num N : Int) (hop : T[i].ops[T[i].pos] = (kd, num, N)) (hk5 : kd ≠ 5) (hk6 : kd ≠ 6) (hk7 : kd ≠ 7) (hk8 : kd ≠ 8) (hk9 : kd ≠ 9) (ez : Int) (T2 : List Tk) (L2 : List (Int × Ob)) (hiT2 : i < T2.length) (hcall' : ∀ w6 : World, SkAt w6 base D ro vT vL tv od (T.set i { T[i] with pos := p1 }) L → Calls Try.prog 39 #[.pointer (some ⟨D, 0, none⟩), .int .i64 (i : Int), .agg #[.int .i64 kd, .int .i64 num, .int .i64 N]] w6 fun e w' => e = .returned (.tuple #[.bool true, .int .i64 ez]) ∧ ∃ ro' vL' tv' od', SkAt w' base D ro' vT vL' tv' od' T2 L2 ∧ Kept w6 w' (fun b => ro b ≠ none) (fun b => ro' b ≠ none)) : Calls Try.prog 14 #[.pointer (some ⟨D, 0, none⟩), .int .i64 (i : Int)] w fun e w' => e = .returned (.tuple #[.agg #[.int .i64 (i : Int), .int .i64 (T[i].pos : Int), .int .i64 ez], .int .i64 0]) ∧ ∃ ro' vL' tv' od', SkAt w' base D ro' vT vL' tv' od' (T2.set i { T2[i] with bl := (ez == 0) }) L2 ∧ Kept w w' (fun b => ro b ≠ none) (fun b => ro' b ≠ none) := by
  have q5 : (kd == 5) = false := beq_eq_false_iff_ne.2 hk5
  have q7 : (kd == 7) = false := beq_eq_false_iff_ne.2 hk7
  have q8 : (kd == 8) = false := beq_eq_false_iff_ne.2 hk8
  have q9 : (kd == 9) = false := beq_eq_false_iff_ne.2 hk9
  have q06 : (kd == 6) = false := beq_eq_false_iff_ne.2 hk6
  have HCL : Hid _ := hcall'
  clear hcall'
  have B1 : Hid _ := (Below.refl _ w).alloc (Nat.le_refl _) (.cells #[.int .i64 0, .int .i64 0, .int .i64 0] 32)
  have R1 : Hid _ := heap_alloc_new w (.cells #[.int .i64 0, .int .i64 0, .int .i64 0] 32)
  have HS1 : Hid _ := h.fresh B1.out
  have HS0 : Hid _ := h
  have hDl := lt_of_block h.hd
  have hrd : rdB T (i : Int) = true := by
    unfold rdB tkR
    rw [Int.toNat_natCast, List.getElem?_eq_getElem hi]
    simp [hbl, hp]
  obtain ⟨bT, off, cap, bo, oo, co, ev, c0', z0', z1', y0', y1', y2', hbT, hbo, hfz'⟩ := h.opAt i hi hp
  rw [hop] at y0' y1' y2'
  have q6 : IntKind.i64.wrap ((T[i].pos : Int) + 1) = (p1 : Int) := by rw [IntKind.wrap_i64]; omega
  have hpl : (T[i].pos : Int) < (T[i].ops.length : Int) := by omega
  have HP1 : Hid _ := hp1
  clear h hbl hop hp1
  subst ev
  go_enter Try.func14, Try.ntmps14
  go_wp2_with (first
    | (show wpList _ _ _ (⟨_, Op.store 32 _ _, _, _, _, _⟩ :: _) _ _; refine store_row_g rfl 32 _ _ rfl w2.heap.size #[.int .i64 (i : Int), .int .i64 (T[i].pos : Int), .int .i64 0] rfl rfl 32 #[.int .i64 0, .int .i64 0, .int .i64 0] (heap_alloc_new w2 _) infoE rfl (by simp [Value.oneCell']) ?_; intro w3 hV3 g3)
    | (go_at_call 33; refine (sk_ready HS1.out (i : Int)).mono ?_; rw [hrd]; rintro e w2 ⟨rfl, b2⟩; have B2 : Below w.heap.size w w2 := bmm B1.out B1.out.size b2; have c0 := (B2.cell (p := ⟨D, 0, none⟩) (by exact hDl)).trans c0'; have z1 := (B2.cell (p := ⟨bT, off + i * 4 + 1, none⟩) (by exact hbT)).trans z1'))
  have hs2 := B2.size
  have hsb2 := b2.size
  have hR2 := (b2.block w.heap.size (by simp)).trans R1.out
  have hRl : w.heap.size < w2.heap.size := lt_of_block hR2
  have B3 : Below w.heap.size w w3.drew := ((B2.alloc hs2 _).grown g3 (by simp; omega) (fun q hq => by rw [← Option.some.inj hq]; exact hs2)).drew
  have hVl : w2.heap.size < w3.heap.size := lt_of_block hV3
  have hR3 : w3.drew.heap[w.heap.size]? = some (.cells #[.int .i64 0, .int .i64 0, .int .i64 0] 32 (0, 0)) := ((g3.block _ (by simp; omega) (fun e => by have := Option.some.inj e; omega)).trans (Below.heap_alloc w2 _ _ hRl)).trans hR2
  have hd3 : w3.drew.heap.size = w3.heap.size := rfl
  have hV3d : w3.drew.heap[w2.heap.size]? = some (.cells #[.int .i64 (i : Int), .int .i64 (T[i].pos : Int), .int .i64 0] 32 (0, 0)) := hV3
  have HSB : Hid (∀ w', Below w3.drew.heap.size w3.drew w' → (fun w' : World => w'.cell? ⟨bT, off + i * 4, none⟩ = some (.slice (some ⟨bo, oo, none⟩) T[i].ops.length co) ∧ w'.cell? ⟨bT, off + i * 4 + 1, none⟩ = some (.int .i64 (T[i].pos : Int)) ∧ w'.cell? ⟨bo, oo + T[i].pos * 3, none⟩ = some (.int .i64 kd) ∧ w'.cell? ⟨bo, oo + T[i].pos * 3 + 1, none⟩ = some (.int .i64 num) ∧ w'.cell? ⟨bo, oo + T[i].pos * 3 + 2, none⟩ = some (.int .i64 N)) w') := fun w' b => by
    have b' : Below w.heap.size w w' := bmm B3 B3.size b
    exact ⟨(b'.cell (p := ⟨bT, off + i * 4, none⟩) (by exact hbT)).trans z0', (b'.cell (p := ⟨bT, off + i * 4 + 1, none⟩) (by exact hbT)).trans z1', (b'.cell (p := ⟨bo, oo + T[i].pos * 3, none⟩) (by exact hbo)).trans y0', (b'.cell (p := ⟨bo, oo + T[i].pos * 3 + 1, none⟩) (by exact hbo)).trans y1', (b'.cell (p := ⟨bo, oo + T[i].pos * 3 + 2, none⟩) (by exact hbo)).trans y2'⟩
  have HN : Hid (∀ w5 : World, Below w3.drew.heap.size w3.drew w5 → w5.heap[w3.drew.heap.size]? = some (.cells #[.int .i64 kd, .int .i64 num, .int .i64 N] 45 (0, 0)) → (w5.cell? ⟨bT, off + i * 4 + 1, none⟩ = some (.int .i64 (T[i].pos : Int)) ∧ w5.frozen? ⟨bT, off + i * 4 + 1, none⟩ = false ∧ (w5.setCell ⟨bT, off + i * 4 + 1, none⟩ (.int .i64 (p1 : Int))).cell? ⟨w3.drew.heap.size, 0, none⟩ = some (.int .i64 kd) ∧ (w5.setCell ⟨bT, off + i * 4 + 1, none⟩ (.int .i64 (p1 : Int))).heap[w3.drew.heap.size]? = some (.cells #[.int .i64 kd, .int .i64 num, .int .i64 N] 45 (0, 0)) ∧ (w5.setCell ⟨bT, off + i * 4 + 1, none⟩ (.int .i64 (p1 : Int))).heap[w2.heap.size]? = some (.cells #[.int .i64 (i : Int), .int .i64 (T[i].pos : Int), .int .i64 0] 32 (0, 0)) ∧ (w5.setCell ⟨bT, off + i * 4 + 1, none⟩ (.int .i64 (p1 : Int))).heap[w.heap.size]? = some (.cells #[.int .i64 0, .int .i64 0, .int .i64 0] 32 (0, 0))) ∧ SkAt (w5.setCell ⟨bT, off + i * 4 + 1, none⟩ (.int .i64 (p1 : Int))) base D ro (.slice (some ⟨bT, off, none⟩) T.length cap) vL tv od (T.set i { T[i] with pos := p1 }) L ∧ Kept w (w5.setCell ⟨bT, off + i * 4 + 1, none⟩ (.int .i64 (p1 : Int))) (fun b => ro b ≠ none) (fun b => ro b ≠ none)) := fun w5 b5 hOB => by
    have b' : Below w.heap.size w w5 := bmm B3 B3.size b5
    have hs6 := HS0.out.fresh b'
    obtain ⟨k1, k2⟩ := hs6.setTask rfl i hi 1 { T[i] with pos := p1 } (.int .i64 (p1 : Int)) (Or.inl ⟨rfl, rfl, rfl⟩) rfl rfl
    have ho : ∀ c, c ≠ bT → (w5.setCell ⟨bT, off + i * 4 + 1, none⟩ (.int .i64 (p1 : Int))).heap[c]? = w5.heap[c]? := fun c hc => heap_setCell_other _ _ _ _ (by simpa using hc)
    refine ⟨⟨(b'.cell (p := ⟨bT, off + i * 4 + 1, none⟩) (by exact hbT)).trans z1', (b'.frozen (p := ⟨bT, off + i * 4 + 1, none⟩) (by exact hbT)).trans (hfz' _), ?_, (ho _ (by omega)).trans hOB, ?_, ?_⟩, k1, (Kept.of b').trans k2⟩
    · have := (ho w3.drew.heap.size (by omega)).trans hOB
      simp only [World.cell?, this]
      rfl
    · rw [ho _ (by omega), b5.block _ (by omega)]
      exact hV3d
    · rw [ho _ (by omega), b5.block _ (by omega)]
      exact hR3
  have hVR : w.heap.size ≤ w2.heap.size ∧ w.heap.size ≠ w2.heap.size ∧ w2.heap.size ≠ bT ∧ w.heap.size ≠ bT := ⟨hs2, by omega, by omega, by omega⟩
  have HB : Hid (∀ b, ro b ≠ none → b < w.heap.size) := fun b hb => (HS0.out.bd b hb).2
  clear B3 hV3d hR3 hd3 hVl hsb2 g3 hV3 z1 c0 z0' z1' y0' y1' y2' hR2 b2 B2 HS1 HS0 R1 B1
  have TF : Hid (∀ wK : World, wK.heap[w2.heap.size]? = some (.cells #[.int .i64 (i : Int), .int .i64 (T[i].pos : Int), .int .i64 0] 32 (0, 0)) → wK.heap[w.heap.size]? = some (.cells #[.int .i64 0, .int .i64 0, .int .i64 0] 32 (0, 0)) → ∀ (b : Bool) (e : Int), (wK.setCell ⟨bT, off + i * 4 + 2, none⟩ (.bool b)).cell? ⟨w2.heap.size, 2, none⟩ = some (.int .i64 0) ∧ (wK.setCell ⟨bT, off + i * 4 + 2, none⟩ (.bool b)).frozen? ⟨w2.heap.size, 2, none⟩ = false ∧ ((wK.setCell ⟨bT, off + i * 4 + 2, none⟩ (.bool b)).setCell ⟨w2.heap.size, 2, none⟩ (.int .i64 e)).cell? ⟨w2.heap.size, 0, none⟩ = some (.int .i64 (i : Int)) ∧ ((wK.setCell ⟨bT, off + i * 4 + 2, none⟩ (.bool b)).setCell ⟨w2.heap.size, 2, none⟩ (.int .i64 e)).cell? ⟨w2.heap.size, 1, none⟩ = some (.int .i64 (T[i].pos : Int)) ∧ ((wK.setCell ⟨bT, off + i * 4 + 2, none⟩ (.bool b)).setCell ⟨w2.heap.size, 2, none⟩ (.int .i64 e)).cell? ⟨w2.heap.size, 2, none⟩ = some (.int .i64 e) ∧ ((wK.setCell ⟨bT, off + i * 4 + 2, none⟩ (.bool b)).setCell ⟨w2.heap.size, 2, none⟩ (.int .i64 e)).heap[w.heap.size]? = some (.cells #[.int .i64 0, .int .i64 0, .int .i64 0] 32 (0, 0))) := fun wK h1 h2 b e => by
    have e1 : (wK.setCell ⟨bT, off + i * 4 + 2, none⟩ (.bool b)).heap[w2.heap.size]? = some (.cells #[.int .i64 (i : Int), .int .i64 (T[i].pos : Int), .int .i64 0] 32 (0, 0)) := (heap_setCell_other _ _ _ _ (by simpa using hVR.2.2.1)).trans h1
    have e2 : ((wK.setCell ⟨bT, off + i * 4 + 2, none⟩ (.bool b)).setCell ⟨w2.heap.size, 2, none⟩ (.int .i64 e)).heap[w2.heap.size]? = some (.cells #[.int .i64 (i : Int), .int .i64 (T[i].pos : Int), .int .i64 e] 32 (0, 0)) := by
      rw [heap_setCell_same _ w2.heap.size 2 _ _ _ e1]
      rfl
    refine ⟨by simp only [World.cell?, e1]; rfl, by simp only [World.frozen?, e1]; rfl, by simp only [World.cell?, e2]; rfl, by simp only [World.cell?, e2]; rfl, by simp only [World.cell?, e2]; rfl, ?_⟩
    rw [heap_setCell_other _ _ _ _ (by simpa using hVR.2.1), heap_setCell_other _ _ _ _ (by simpa using hVR.2.2.2)]
    exact h2
  refine wp_region_held_drew (S := (fun w' : World => w'.cell? ⟨bT, off + i * 4, none⟩ = some (.slice (some ⟨bo, oo, none⟩) T[i].ops.length co) ∧ w'.cell? ⟨bT, off + i * 4 + 1, none⟩ = some (.int .i64 (T[i].pos : Int)) ∧ w'.cell? ⟨bo, oo + T[i].pos * 3, none⟩ = some (.int .i64 kd) ∧ w'.cell? ⟨bo, oo + T[i].pos * 3 + 1, none⟩ = some (.int .i64 num) ∧ w'.cell? ⟨bo, oo + T[i].pos * 3 + 2, none⟩ = some (.int .i64 N))) (by kernel_rfl) ?_ (fun hHeld0 => ?_)
  · exact HSB.out _ (Below.refl _ _)
  generalize w3.drew = w4 at *
  clear hHeld0
  have hHeld0 := HSB.out w4 (Below.refl _ _)
  refine tk0 (.pointer (some ⟨bT, off + i * 4, none⟩)) ?_ (fun w hSw => by (try dsimp only at hSw); obtain ⟨y0, y1, y2, y3, y4⟩ := hSw; go_simp)
  try simp only [Act.put, pu1, pu2, pu3]
  refine tk1 (.pointer (some ⟨bT, off + i * 4, none⟩)) ?_ (fun w hSw => by (try dsimp only at hSw); obtain ⟨y0, y1, y2, y3, y4⟩ := hSw; go_simp)
  try simp only [Act.put, pu1, pu2, pu3]
  refine tk2 (.pointer (some ⟨bT, off + i * 4, none⟩)) ?_ (fun w hSw => by (try dsimp only at hSw); obtain ⟨y0, y1, y2, y3, y4⟩ := hSw; go_simp)
  try simp only [Act.put, pu1, pu2, pu3]
  refine tk3 (.slice (some ⟨bo, oo, none⟩) T[i].ops.length co) ?_ (fun w hSw => by (try dsimp only at hSw); obtain ⟨y0, y1, y2, y3, y4⟩ := hSw; go_simp)
  try simp only [Act.put, pu1, pu2, pu3]
  refine tk4 (.pointer (some ⟨bT, off + i * 4, none⟩)) ?_ (fun w hSw => by (try dsimp only at hSw); obtain ⟨y0, y1, y2, y3, y4⟩ := hSw; go_simp)
  try simp only [Act.put, pu1, pu2, pu3]
  refine tk5 (.pointer (some ⟨bT, off + i * 4, none⟩)) ?_ (fun w hSw => by (try dsimp only at hSw); obtain ⟨y0, y1, y2, y3, y4⟩ := hSw; go_simp)
  try simp only [Act.put, pu1, pu2, pu3]
  refine tk6 (.pointer (some ⟨bT, off + i * 4 + 1, none⟩)) ?_ (fun w hSw => by (try dsimp only at hSw); obtain ⟨y0, y1, y2, y3, y4⟩ := hSw; go_simp)
  try simp only [Act.put, pu1, pu2, pu3]
  refine tk7 (.int .i64 (T[i].pos : Int)) ?_ (fun w hSw => by (try dsimp only at hSw); obtain ⟨y0, y1, y2, y3, y4⟩ := hSw; go_simp)
  try simp only [Act.put, pu1, pu2, pu3]
  refine tk8 (.pointer (some ⟨bo, oo + T[i].pos * 3, none⟩)) ?_ (fun w hSw => by (try dsimp only at hSw); obtain ⟨y0, y1, y2, y3, y4⟩ := hSw; go_simp)
  try simp only [Act.put, pu1, pu2, pu3]
  refine tk9 (.agg #[.int .i64 kd, .int .i64 num, .int .i64 N]) ?_ (fun w hSw => by (try dsimp only at hSw); obtain ⟨y0, y1, y2, y3, y4⟩ := hSw; go_simp)
  try simp only [Act.put, pu1, pu2, pu3]
  refine cl10 (by kernel_rfl) rfl (fun K hK => ?_)
  go_simp
  refine hK.out _ _ ?_ (fun hHeld => ?_)
  · exact HSB.out _ ((Below.refl _ w4).alloc (Nat.le_refl _) _)
  clear hK K
  try simp only [Act.put, pu1, pu2, pu3]
  refine cl11 (by kernel_rfl) rfl (fun K hK => ?_)
  refine wp_store_row 45 (.tmp 8) (.tmp 41) rfl w4.heap.size #[.int .i64 kd, .int .i64 num, .int .i64 N] rfl rfl 45 #[.int .i64 0, .int .i64 0, .int .i64 0] (heap_alloc_new w4 _) infoP rfl (by simp [Value.oneCell']) ?_
  refine hK.out _ _ ?_ (fun hHeld => ?_)
  · exact HSB.out _ (((Below.refl _ w4).alloc (Nat.le_refl _) _).grown (grown_setRow_g _ _ _) (by simp) (fun q hq => by rw [← Option.some.inj hq]; exact Nat.le_refl _))
  clear hK K
  refine wpAnyH_done (by kernel_rfl) ?_ _
  simp only [Act.put]
  have hOB := setRow_heap (w4.alloc (.cells #[.int .i64 0, .int .i64 0, .int .i64 0] 45)) w4.heap.size #[.int .i64 0, .int .i64 0, .int .i64 0] #[.int .i64 kd, .int .i64 num, .int .i64 N] 45 (0, 0) (heap_alloc_new w4 _)
  have B5 : Below w4.heap.size w4 ((w4.alloc (.cells #[.int .i64 0, .int .i64 0, .int .i64 0] 45)).setRow w4.heap.size #[.int .i64 kd, .int .i64 num, .int .i64 N]) := ((Below.refl _ w4).alloc (Nat.le_refl _) _).grown (grown_setRow_g _ _ _) (by simp) (fun q hq => by rw [← Option.some.inj hq]; exact Nat.le_refl _)
  generalize (w4.alloc (.cells #[.int .i64 0, .int .i64 0, .int .i64 0] 45)).setRow w4.heap.size #[.int .i64 kd, .int .i64 num, .int .i64 N] = w5 at *
  clear hHeld
  clear hHeld0
  obtain ⟨X5, HS6, HK6⟩ := HN.out w5 B5 hOB
  obtain ⟨x1, x2, x3, x4, x5, x6⟩ := X5
  have HKV : Hid (∀ (w7 : World) (ro7 : Nat → Option Nat), Kept (w5.setCell ⟨bT, off + i * 4 + 1, none⟩ (.int .i64 (p1 : Int))) w7 (fun b => ro b ≠ none) (fun b => ro7 b ≠ none) → w7.heap[w2.heap.size]? = some (.cells #[.int .i64 (i : Int), .int .i64 (T[i].pos : Int), .int .i64 0] 32 (0, 0)) ∧ w7.heap[w.heap.size]? = some (.cells #[.int .i64 0, .int .i64 0, .int .i64 0] 32 (0, 0)) ∧ ro7 w2.heap.size = none ∧ ro7 w.heap.size = none) := fun w7 ro7 k => by
    have l1 := lt_of_block x5
    have l2 := lt_of_block x6
    have hn : ∀ b, w.heap.size ≤ b → ¬ ro b ≠ none := fun b hb e => by
      have := HB.out b e
      omega
    have ho : ∀ b, w.heap.size ≤ b → b < _ → ro7 b = none := fun b hb hl => by
      cases h : ro7 b with
      | none => rfl
      | some x =>
        rcases k.old b (by rw [h]; simp) with h1 | h1
        · exact absurd h1 (hn b hb)
        · exact absurd hl (Nat.not_lt.2 h1)
    exact ⟨(k.kept _ l1 (hn _ hVR.1)).trans x5, (k.kept _ l2 (hn _ (Nat.le_refl _))).trans x6, ho _ hVR.1 l1, ho _ (Nat.le_refl _) l2⟩
  have o0 : (w5.setCell ⟨bT, off + i * 4 + 1, none⟩ (.int .i64 (p1 : Int))).cell? ⟨w4.heap.size, 0, none⟩ = some (.int .i64 kd) := x3
  have o1 : (w5.setCell ⟨bT, off + i * 4 + 1, none⟩ (.int .i64 (p1 : Int))).cell? ⟨w4.heap.size, 1, none⟩ = some (.int .i64 num) := by simp only [World.cell?, x4]; rfl
  have o2 : (w5.setCell ⟨bT, off + i * 4 + 1, none⟩ (.int .i64 (p1 : Int))).cell? ⟨w4.heap.size, 2, none⟩ = some (.int .i64 N) := by simp only [World.cell?, x4]; rfl
  have HS7 : Hid _ := HS6
  have HK7 : Hid _ := HK6
  clear HS6 HK6 x4 x5 x6 o0
  go_wp2_with (first | (show wpList _ _ _ (⟨_, Op.store 32 _ _, _, _, _, _⟩ :: _) _ _; refine store_row_g rfl 32 _ _ rfl w.heap.size #[.int .i64 (i : Int), .int .i64 (T[i].pos : Int), .int .i64 ez] rfl rfl 32 #[.int .i64 0, .int .i64 0, .int .i64 0] HT6.out infoE rfl (by simp [Value.oneCell']) ?_; intro wE hE gE) | (go_at_call 39; refine (HCL.out _ HS7.out).mono ?_; rintro e w7 ⟨rfl, ro7, vL7, tv7, od7, h7', k7'⟩; have h7 : Hid _ := h7'; have k7 : Hid _ := k7'; clear h7' k7'; obtain ⟨v1, v2, v3, v4⟩ := HKV.out w7 ro7 k7.out; obtain ⟨t1, t2, t3, t4, t5, t6⟩ := TF.out w7 v1 v2 (ez == 0) ez; have z29 := h7.out.cell2 i hiT2; have hf9 : w7.frozen? ⟨bT, off + i * 4 + 2, none⟩ = false := h7.out.ts.at'.free _; have HT6 : Hid _ := t6; have HV7 : Hid _ := (⟨v3, v4⟩ : ro7 _ = none ∧ ro7 _ = none); clear t6 v1 v2 v3 v4))
  refine bodyPost_ret (results_ev Try.results14 _ _ w.heap.size _ rfl hE rfl) rfl ?_
  obtain ⟨k1, k2⟩ := h7.out.fin i hiT2 (ez == 0) (.int .i64 ez) w2.heap.size w.heap.size HV7.out.1 HV7.out.2 gE
  exact ⟨rfl, ro7, vL7, tv7, od7, k1, k2 w ro (HK7.out.trans k7.out) hVR.1 (Nat.le_refl _)⟩
end
end Go.Proofs.Ythhlglbohibekaa
