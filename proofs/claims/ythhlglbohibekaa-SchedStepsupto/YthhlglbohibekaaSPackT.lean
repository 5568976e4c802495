/-
  Parts of the proof, laid together: ScCallO, ScWait, ScAdd. The conditions stand at each part.
-/
import Derived.Test.YthhlglbohibekaaSPackS
namespace Go.Proofs.Ythhlglbohibekaa
open Go.RowKit

section
variable {w w1 wE : World} {base D : Nat} {ro : Nat → Option Nat} {vT vL : Value} {tv : List Tv} {od : List Nat} {T : List Tk} {L : List (Int × Ob)}
set_option maxHeartbeats 6400000 in
set_option maxRecDepth 100000 in
theorem step_doF (h : SkAt w base D ro vT vL tv od T L) (i : Nat) (hi : i < T.length) (hbl : T[i].bl = false) (hp : T[i].pos < T[i].ops.length) (hlo : T[i].ops.length ≤ 65536) (p1 : Nat) (hp1 : p1 = T[i].pos + 1) (num N : Int) (hop : T[i].ops[T[i].pos] = (7, num, N))  (ez : Int) (T2 : List Tk) (L2 : List (Int × Ob)) (hiT2 : i < T2.length) (hcall' : ∀ w6 : World, SkAt w6 base D ro vT vL tv od (T.set i { T[i] with pos := p1 }) L → Calls Try.prog 38 #[.pointer (some ⟨D, 0, none⟩), .int .i64 (i : Int), .agg #[.int .i64 7, .int .i64 num, .int .i64 N]] w6 fun e w' => e = .returned (.tuple #[.bool false, .int .i64 ez]) ∧ ∃ ro' vL' tv' od', SkAt w' base D ro' vT vL' tv' od' T2 L2 ∧ Kept w6 w' (fun b => ro b ≠ none) (fun b => ro' b ≠ none)) : Calls Try.prog 14 #[.pointer (some ⟨D, 0, none⟩), .int .i64 (i : Int)] w fun e w' => e = .returned (.tuple #[.agg #[.int .i64 (i : Int), .int .i64 (T[i].pos : Int), .int .i64 ez], .int .i64 0]) ∧ ∃ ro' vL' tv' od', SkAt w' base D ro' vT vL' tv' od' (T2.set i { T2[i] with bl := false }) L2 ∧ Kept w w' (fun b => ro b ≠ none) (fun b => ro' b ≠ none) := by
  have HCL : Hid _ := hcall'
  clear hcall'
  have B1 : Hid _ := (Below.refl _ w).alloc (Nat.le_refl _) (.cells #[.int .i64 0, .int .i64 0, .int .i64 0] 32)
  have R1 : Hid _ := heap_alloc_new w (.cells #[.int .i64 0, .int .i64 0, .int .i64 0] 32)
  have HS1 : Hid _ := h.fresh B1.out
  have HS0 : Hid _ := h
  have hDl := lt_of_block h.hd
  have hrd : rdB T (i : Int) = true := by
    unfold rdB tkR
    rw [Int.toNat_natCast, List.getElem?_eq_getElem hi]
    simp [hbl, hp]
  obtain ⟨bT, off, cap, bo, oo, co, ev, c0', z0', z1', y0', y1', y2', hbT, hbo, hfz'⟩ := h.opAt i hi hp
  rw [hop] at y0' y1' y2'
  have q6 : IntKind.i64.wrap ((T[i].pos : Int) + 1) = (p1 : Int) := by rw [IntKind.wrap_i64]; omega
  have hpl : (T[i].pos : Int) < (T[i].ops.length : Int) := by omega
  have HP1 : Hid _ := hp1
  clear h hbl hop hp1
  subst ev
  go_enter Try.func14, Try.ntmps14
  go_wp2_with (first
    | (show wpList _ _ _ (⟨_, Op.store 32 _ _, _, _, _, _⟩ :: _) _ _; refine store_row_g rfl 32 _ _ rfl w2.heap.size #[.int .i64 (i : Int), .int .i64 (T[i].pos : Int), .int .i64 0] rfl rfl 32 #[.int .i64 0, .int .i64 0, .int .i64 0] (heap_alloc_new w2 _) infoE rfl (by simp [Value.oneCell']) ?_; intro w3 hV3 g3)
    | (go_at_call 33; refine (sk_ready HS1.out (i : Int)).mono ?_; rw [hrd]; rintro e w2 ⟨rfl, b2⟩; have B2 : Below w.heap.size w w2 := bmm B1.out B1.out.size b2; have c0 := (B2.cell (p := ⟨D, 0, none⟩) (by exact hDl)).trans c0'; have z1 := (B2.cell (p := ⟨bT, off + i * 4 + 1, none⟩) (by exact hbT)).trans z1'))
  have hs2 := B2.size
  have hsb2 := b2.size
  have hR2 := (b2.block w.heap.size (by simp)).trans R1.out
  have hRl : w.heap.size < w2.heap.size := lt_of_block hR2
  have B3 : Below w.heap.size w w3.drew := ((B2.alloc hs2 _).grown g3 (by simp; omega) (fun q hq => by rw [← Option.some.inj hq]; exact hs2)).drew
  have hVl : w2.heap.size < w3.heap.size := lt_of_block hV3
  have hR3 : w3.drew.heap[w.heap.size]? = some (.cells #[.int .i64 0, .int .i64 0, .int .i64 0] 32 (0, 0)) := ((g3.block _ (by simp; omega) (fun e => by have := Option.some.inj e; omega)).trans (Below.heap_alloc w2 _ _ hRl)).trans hR2
  have hd3 : w3.drew.heap.size = w3.heap.size := rfl
  have hV3d : w3.drew.heap[w2.heap.size]? = some (.cells #[.int .i64 (i : Int), .int .i64 (T[i].pos : Int), .int .i64 0] 32 (0, 0)) := hV3
  have HSB : Hid (∀ w', Below w3.drew.heap.size w3.drew w' → (fun w' : World => w'.cell? ⟨bT, off + i * 4, none⟩ = some (.slice (some ⟨bo, oo, none⟩) T[i].ops.length co) ∧ w'.cell? ⟨bT, off + i * 4 + 1, none⟩ = some (.int .i64 (T[i].pos : Int)) ∧ w'.cell? ⟨bo, oo + T[i].pos * 3, none⟩ = some (.int .i64 7) ∧ w'.cell? ⟨bo, oo + T[i].pos * 3 + 1, none⟩ = some (.int .i64 num) ∧ w'.cell? ⟨bo, oo + T[i].pos * 3 + 2, none⟩ = some (.int .i64 N)) w') := fun w' b => by
    have b' : Below w.heap.size w w' := bmm B3 B3.size b
    exact ⟨(b'.cell (p := ⟨bT, off + i * 4, none⟩) (by exact hbT)).trans z0', (b'.cell (p := ⟨bT, off + i * 4 + 1, none⟩) (by exact hbT)).trans z1', (b'.cell (p := ⟨bo, oo + T[i].pos * 3, none⟩) (by exact hbo)).trans y0', (b'.cell (p := ⟨bo, oo + T[i].pos * 3 + 1, none⟩) (by exact hbo)).trans y1', (b'.cell (p := ⟨bo, oo + T[i].pos * 3 + 2, none⟩) (by exact hbo)).trans y2'⟩
  have HN : Hid (∀ w5 : World, Below w3.drew.heap.size w3.drew w5 → w5.heap[w3.drew.heap.size]? = some (.cells #[.int .i64 7, .int .i64 num, .int .i64 N] 45 (0, 0)) → (w5.cell? ⟨bT, off + i * 4 + 1, none⟩ = some (.int .i64 (T[i].pos : Int)) ∧ w5.frozen? ⟨bT, off + i * 4 + 1, none⟩ = false ∧ (w5.setCell ⟨bT, off + i * 4 + 1, none⟩ (.int .i64 (p1 : Int))).cell? ⟨w3.drew.heap.size, 0, none⟩ = some (.int .i64 7) ∧ (w5.setCell ⟨bT, off + i * 4 + 1, none⟩ (.int .i64 (p1 : Int))).heap[w3.drew.heap.size]? = some (.cells #[.int .i64 7, .int .i64 num, .int .i64 N] 45 (0, 0)) ∧ (w5.setCell ⟨bT, off + i * 4 + 1, none⟩ (.int .i64 (p1 : Int))).heap[w2.heap.size]? = some (.cells #[.int .i64 (i : Int), .int .i64 (T[i].pos : Int), .int .i64 0] 32 (0, 0)) ∧ (w5.setCell ⟨bT, off + i * 4 + 1, none⟩ (.int .i64 (p1 : Int))).heap[w.heap.size]? = some (.cells #[.int .i64 0, .int .i64 0, .int .i64 0] 32 (0, 0))) ∧ SkAt (w5.setCell ⟨bT, off + i * 4 + 1, none⟩ (.int .i64 (p1 : Int))) base D ro (.slice (some ⟨bT, off, none⟩) T.length cap) vL tv od (T.set i { T[i] with pos := p1 }) L ∧ Kept w (w5.setCell ⟨bT, off + i * 4 + 1, none⟩ (.int .i64 (p1 : Int))) (fun b => ro b ≠ none) (fun b => ro b ≠ none)) := fun w5 b5 hOB => by
    have b' : Below w.heap.size w w5 := bmm B3 B3.size b5
    have hs6 := HS0.out.fresh b'
    obtain ⟨k1, k2⟩ := hs6.setTask rfl i hi 1 { T[i] with pos := p1 } (.int .i64 (p1 : Int)) (Or.inl ⟨rfl, rfl, rfl⟩) rfl rfl
    have ho : ∀ c, c ≠ bT → (w5.setCell ⟨bT, off + i * 4 + 1, none⟩ (.int .i64 (p1 : Int))).heap[c]? = w5.heap[c]? := fun c hc => heap_setCell_other _ _ _ _ (by simpa using hc)
    refine ⟨⟨(b'.cell (p := ⟨bT, off + i * 4 + 1, none⟩) (by exact hbT)).trans z1', (b'.frozen (p := ⟨bT, off + i * 4 + 1, none⟩) (by exact hbT)).trans (hfz' _), ?_, (ho _ (by omega)).trans hOB, ?_, ?_⟩, k1, (Kept.of b').trans k2⟩
    · have := (ho w3.drew.heap.size (by omega)).trans hOB
      simp only [World.cell?, this]
      rfl
    · rw [ho _ (by omega), b5.block _ (by omega)]
      exact hV3d
    · rw [ho _ (by omega), b5.block _ (by omega)]
      exact hR3
  have hVR : w.heap.size ≤ w2.heap.size ∧ w.heap.size ≠ w2.heap.size ∧ w2.heap.size ≠ bT ∧ w.heap.size ≠ bT := ⟨hs2, by omega, by omega, by omega⟩
  have HB : Hid (∀ b, ro b ≠ none → b < w.heap.size) := fun b hb => (HS0.out.bd b hb).2
  clear B3 hV3d hR3 hd3 hVl hsb2 g3 hV3 z1 c0 z0' z1' y0' y1' y2' hR2 b2 B2 HS1 HS0 R1 B1
  have TF : Hid (∀ wK : World, wK.heap[w2.heap.size]? = some (.cells #[.int .i64 (i : Int), .int .i64 (T[i].pos : Int), .int .i64 0] 32 (0, 0)) → wK.heap[w.heap.size]? = some (.cells #[.int .i64 0, .int .i64 0, .int .i64 0] 32 (0, 0)) → ∀ (b : Bool) (e : Int), (wK.setCell ⟨bT, off + i * 4 + 2, none⟩ (.bool b)).cell? ⟨w2.heap.size, 2, none⟩ = some (.int .i64 0) ∧ (wK.setCell ⟨bT, off + i * 4 + 2, none⟩ (.bool b)).frozen? ⟨w2.heap.size, 2, none⟩ = false ∧ ((wK.setCell ⟨bT, off + i * 4 + 2, none⟩ (.bool b)).setCell ⟨w2.heap.size, 2, none⟩ (.int .i64 e)).cell? ⟨w2.heap.size, 0, none⟩ = some (.int .i64 (i : Int)) ∧ ((wK.setCell ⟨bT, off + i * 4 + 2, none⟩ (.bool b)).setCell ⟨w2.heap.size, 2, none⟩ (.int .i64 e)).cell? ⟨w2.heap.size, 1, none⟩ = some (.int .i64 (T[i].pos : Int)) ∧ ((wK.setCell ⟨bT, off + i * 4 + 2, none⟩ (.bool b)).setCell ⟨w2.heap.size, 2, none⟩ (.int .i64 e)).cell? ⟨w2.heap.size, 2, none⟩ = some (.int .i64 e) ∧ ((wK.setCell ⟨bT, off + i * 4 + 2, none⟩ (.bool b)).setCell ⟨w2.heap.size, 2, none⟩ (.int .i64 e)).heap[w.heap.size]? = some (.cells #[.int .i64 0, .int .i64 0, .int .i64 0] 32 (0, 0))) := fun wK h1 h2 b e => by
    have e1 : (wK.setCell ⟨bT, off + i * 4 + 2, none⟩ (.bool b)).heap[w2.heap.size]? = some (.cells #[.int .i64 (i : Int), .int .i64 (T[i].pos : Int), .int .i64 0] 32 (0, 0)) := (heap_setCell_other _ _ _ _ (by simpa using hVR.2.2.1)).trans h1
    have e2 : ((wK.setCell ⟨bT, off + i * 4 + 2, none⟩ (.bool b)).setCell ⟨w2.heap.size, 2, none⟩ (.int .i64 e)).heap[w2.heap.size]? = some (.cells #[.int .i64 (i : Int), .int .i64 (T[i].pos : Int), .int .i64 e] 32 (0, 0)) := by
      rw [heap_setCell_same _ w2.heap.size 2 _ _ _ e1]
      rfl
    refine ⟨by simp only [World.cell?, e1]; rfl, by simp only [World.frozen?, e1]; rfl, by simp only [World.cell?, e2]; rfl, by simp only [World.cell?, e2]; rfl, by simp only [World.cell?, e2]; rfl, ?_⟩
    rw [heap_setCell_other _ _ _ _ (by simpa using hVR.2.1), heap_setCell_other _ _ _ _ (by simpa using hVR.2.2.2)]
    exact h2
  refine wp_region_held_drew (S := (fun w' : World => w'.cell? ⟨bT, off + i * 4, none⟩ = some (.slice (some ⟨bo, oo, none⟩) T[i].ops.length co) ∧ w'.cell? ⟨bT, off + i * 4 + 1, none⟩ = some (.int .i64 (T[i].pos : Int)) ∧ w'.cell? ⟨bo, oo + T[i].pos * 3, none⟩ = some (.int .i64 7) ∧ w'.cell? ⟨bo, oo + T[i].pos * 3 + 1, none⟩ = some (.int .i64 num) ∧ w'.cell? ⟨bo, oo + T[i].pos * 3 + 2, none⟩ = some (.int .i64 N))) (by kernel_rfl) ?_ (fun hHeld0 => ?_)
  · exact HSB.out _ (Below.refl _ _)
  generalize w3.drew = w4 at *
  clear hHeld0
  have hHeld0 := HSB.out w4 (Below.refl _ _)
  refine tk0 (.pointer (some ⟨bT, off + i * 4, none⟩)) ?_ (fun w hSw => by (try dsimp only at hSw); obtain ⟨y0, y1, y2, y3, y4⟩ := hSw; go_simp)
  try simp only [Act.put, pu1, pu2, pu3]
  refine tk1 (.pointer (some ⟨bT, off + i * 4, none⟩)) ?_ (fun w hSw => by (try dsimp only at hSw); obtain ⟨y0, y1, y2, y3, y4⟩ := hSw; go_simp)
  try simp only [Act.put, pu1, pu2, pu3]
  refine tk2 (.pointer (some ⟨bT, off + i * 4, none⟩)) ?_ (fun w hSw => by (try dsimp only at hSw); obtain ⟨y0, y1, y2, y3, y4⟩ := hSw; go_simp)
  try simp only [Act.put, pu1, pu2, pu3]
  refine tk3 (.slice (some ⟨bo, oo, none⟩) T[i].ops.length co) ?_ (fun w hSw => by (try dsimp only at hSw); obtain ⟨y0, y1, y2, y3, y4⟩ := hSw; go_simp)
  try simp only [Act.put, pu1, pu2, pu3]
  refine tk4 (.pointer (some ⟨bT, off + i * 4, none⟩)) ?_ (fun w hSw => by (try dsimp only at hSw); obtain ⟨y0, y1, y2, y3, y4⟩ := hSw; go_simp)
  try simp only [Act.put, pu1, pu2, pu3]
  refine tk5 (.pointer (some ⟨bT, off + i * 4, none⟩)) ?_ (fun w hSw => by (try dsimp only at hSw); obtain ⟨y0, y1, y2, y3, y4⟩ := hSw; go_simp)
  try simp only [Act.put, pu1, pu2, pu3]
  refine tk6 (.pointer (some ⟨bT, off + i * 4 + 1, none⟩)) ?_ (fun w hSw => by (try dsimp only at hSw); obtain ⟨y0, y1, y2, y3, y4⟩ := hSw; go_simp)
  try simp only [Act.put, pu1, pu2, pu3]
  refine tk7 (.int .i64 (T[i].pos : Int)) ?_ (fun w hSw => by (try dsimp only at hSw); obtain ⟨y0, y1, y2, y3, y4⟩ := hSw; go_simp)
  try simp only [Act.put, pu1, pu2, pu3]
  refine tk8 (.pointer (some ⟨bo, oo + T[i].pos * 3, none⟩)) ?_ (fun w hSw => by (try dsimp only at hSw); obtain ⟨y0, y1, y2, y3, y4⟩ := hSw; go_simp)
  try simp only [Act.put, pu1, pu2, pu3]
  refine tk9 (.agg #[.int .i64 7, .int .i64 num, .int .i64 N]) ?_ (fun w hSw => by (try dsimp only at hSw); obtain ⟨y0, y1, y2, y3, y4⟩ := hSw; go_simp)
  try simp only [Act.put, pu1, pu2, pu3]
  refine cl10 (by kernel_rfl) rfl (fun K hK => ?_)
  go_simp
  refine hK.out _ _ ?_ (fun hHeld => ?_)
  · exact HSB.out _ ((Below.refl _ w4).alloc (Nat.le_refl _) _)
  clear hK K
  try simp only [Act.put, pu1, pu2, pu3]
  refine cl11 (by kernel_rfl) rfl (fun K hK => ?_)
  refine wp_store_row 45 (.tmp 8) (.tmp 41) rfl w4.heap.size #[.int .i64 7, .int .i64 num, .int .i64 N] rfl rfl 45 #[.int .i64 0, .int .i64 0, .int .i64 0] (heap_alloc_new w4 _) infoP rfl (by simp [Value.oneCell']) ?_
  refine hK.out _ _ ?_ (fun hHeld => ?_)
  · exact HSB.out _ (((Below.refl _ w4).alloc (Nat.le_refl _) _).grown (grown_setRow_g _ _ _) (by simp) (fun q hq => by rw [← Option.some.inj hq]; exact Nat.le_refl _))
  clear hK K
  refine wpAnyH_done (by kernel_rfl) ?_ _
  simp only [Act.put]
  have hOB := setRow_heap (w4.alloc (.cells #[.int .i64 0, .int .i64 0, .int .i64 0] 45)) w4.heap.size #[.int .i64 0, .int .i64 0, .int .i64 0] #[.int .i64 7, .int .i64 num, .int .i64 N] 45 (0, 0) (heap_alloc_new w4 _)
  have B5 : Below w4.heap.size w4 ((w4.alloc (.cells #[.int .i64 0, .int .i64 0, .int .i64 0] 45)).setRow w4.heap.size #[.int .i64 7, .int .i64 num, .int .i64 N]) := ((Below.refl _ w4).alloc (Nat.le_refl _) _).grown (grown_setRow_g _ _ _) (by simp) (fun q hq => by rw [← Option.some.inj hq]; exact Nat.le_refl _)
  generalize (w4.alloc (.cells #[.int .i64 0, .int .i64 0, .int .i64 0] 45)).setRow w4.heap.size #[.int .i64 7, .int .i64 num, .int .i64 N] = w5 at *
  clear hHeld
  clear hHeld0
  obtain ⟨X5, HS6, HK6⟩ := HN.out w5 B5 hOB
  obtain ⟨x1, x2, x3, x4, x5, x6⟩ := X5
  have HKV : Hid (∀ (w7 : World) (ro7 : Nat → Option Nat), Kept (w5.setCell ⟨bT, off + i * 4 + 1, none⟩ (.int .i64 (p1 : Int))) w7 (fun b => ro b ≠ none) (fun b => ro7 b ≠ none) → w7.heap[w2.heap.size]? = some (.cells #[.int .i64 (i : Int), .int .i64 (T[i].pos : Int), .int .i64 0] 32 (0, 0)) ∧ w7.heap[w.heap.size]? = some (.cells #[.int .i64 0, .int .i64 0, .int .i64 0] 32 (0, 0)) ∧ ro7 w2.heap.size = none ∧ ro7 w.heap.size = none) := fun w7 ro7 k => by
    have l1 := lt_of_block x5
    have l2 := lt_of_block x6
    have hn : ∀ b, w.heap.size ≤ b → ¬ ro b ≠ none := fun b hb e => by
      have := HB.out b e
      omega
    have ho : ∀ b, w.heap.size ≤ b → b < _ → ro7 b = none := fun b hb hl => by
      cases h : ro7 b with
      | none => rfl
      | some x =>
        rcases k.old b (by rw [h]; simp) with h1 | h1
        · exact absurd h1 (hn b hb)
        · exact absurd hl (Nat.not_lt.2 h1)
    exact ⟨(k.kept _ l1 (hn _ hVR.1)).trans x5, (k.kept _ l2 (hn _ (Nat.le_refl _))).trans x6, ho _ hVR.1 l1, ho _ (Nat.le_refl _) l2⟩
  have o0 : (w5.setCell ⟨bT, off + i * 4 + 1, none⟩ (.int .i64 (p1 : Int))).cell? ⟨w4.heap.size, 0, none⟩ = some (.int .i64 7) := x3
  have o1 : (w5.setCell ⟨bT, off + i * 4 + 1, none⟩ (.int .i64 (p1 : Int))).cell? ⟨w4.heap.size, 1, none⟩ = some (.int .i64 num) := by simp only [World.cell?, x4]; rfl
  have o2 : (w5.setCell ⟨bT, off + i * 4 + 1, none⟩ (.int .i64 (p1 : Int))).cell? ⟨w4.heap.size, 2, none⟩ = some (.int .i64 N) := by simp only [World.cell?, x4]; rfl
  have HS7 : Hid _ := HS6
  have HK7 : Hid _ := HK6
  clear HS6 HK6 x4 x5 x6 o0
  go_wp2_with (first | (show wpList _ _ _ (⟨_, Op.store 32 _ _, _, _, _, _⟩ :: _) _ _; refine store_row_g rfl 32 _ _ rfl w.heap.size #[.int .i64 (i : Int), .int .i64 (T[i].pos : Int), .int .i64 ez] rfl rfl 32 #[.int .i64 0, .int .i64 0, .int .i64 0] HT6.out infoE rfl (by simp [Value.oneCell']) ?_; intro wE hE gE) | (go_at_call 38; refine (HCL.out _ HS7.out).mono ?_; rintro e w7 ⟨rfl, ro7, vL7, tv7, od7, h7', k7'⟩; have h7 : Hid _ := h7'; have k7 : Hid _ := k7'; clear h7' k7'; obtain ⟨v1, v2, v3, v4⟩ := HKV.out w7 ro7 k7.out; obtain ⟨t1, t2, t3, t4, t5, t6⟩ := TF.out w7 v1 v2 false ez; have z29 := h7.out.cell2 i hiT2; have hf9 : w7.frozen? ⟨bT, off + i * 4 + 2, none⟩ = false := h7.out.ts.at'.free _; have HT6 : Hid _ := t6; have HV7 : Hid _ := (⟨v3, v4⟩ : ro7 _ = none ∧ ro7 _ = none); clear t6 v1 v2 v3 v4))
  refine bodyPost_ret (results_ev Try.results14 _ _ w.heap.size _ rfl hE rfl) rfl ?_
  obtain ⟨k1, k2⟩ := h7.out.fin i hiT2 false (.int .i64 ez) w2.heap.size w.heap.size HV7.out.1 HV7.out.2 gE
  exact ⟨rfl, ro7, vL7, tv7, od7, k1, k2 w ro (HK7.out.trans k7.out) hVR.1 (Nat.le_refl _)⟩
set_option maxHeartbeats 6400000 in
set_option maxRecDepth 100000 in
theorem step_doT (h : SkAt w base D ro vT vL tv od T L) (i : Nat) (hi : i < T.length) (hbl : T[i].bl = false) (hp : T[i].pos < T[i].ops.length) (hlo : T[i].ops.length ≤ 65536) (p1 : Nat) (hp1 : p1 = T[i].pos + 1) (num N : Int) (hop : T[i].ops[T[i].pos] = (7, num, N))  (ez : Int) (T2 : List Tk) (L2 : List (Int × Ob)) (hiT2 : i < T2.length) (hcall' : ∀ w6 : World, SkAt w6 base D ro vT vL tv od (T.set i { T[i] with pos := p1 }) L → Calls Try.prog 38 #[.pointer (some ⟨D, 0, none⟩), .int .i64 (i : Int), .agg #[.int .i64 7, .int .i64 num, .int .i64 N]] w6 fun e w' => e = .returned (.tuple #[.bool true, .int .i64 ez]) ∧ ∃ ro' vL' tv' od', SkAt w' base D ro' vT vL' tv' od' T2 L2 ∧ Kept w6 w' (fun b => ro b ≠ none) (fun b => ro' b ≠ none)) : Calls Try.prog 14 #[.pointer (some ⟨D, 0, none⟩), .int .i64 (i : Int)] w fun e w' => e = .returned (.tuple #[.agg #[.int .i64 (i : Int), .int .i64 (T[i].pos : Int), .int .i64 ez], .int .i64 0]) ∧ ∃ ro' vL' tv' od', SkAt w' base D ro' vT vL' tv' od' (T2.set i { T2[i] with bl := (ez == 0) }) L2 ∧ Kept w w' (fun b => ro b ≠ none) (fun b => ro' b ≠ none) := by
  have HCL : Hid _ := hcall'
  clear hcall'
  have B1 : Hid _ := (Below.refl _ w).alloc (Nat.le_refl _) (.cells #[.int .i64 0, .int .i64 0, .int .i64 0] 32)
  have R1 : Hid _ := heap_alloc_new w (.cells #[.int .i64 0, .int .i64 0, .int .i64 0] 32)
  have HS1 : Hid _ := h.fresh B1.out
  have HS0 : Hid _ := h
  have hDl := lt_of_block h.hd
  have hrd : rdB T (i : Int) = true := by
    unfold rdB tkR
    rw [Int.toNat_natCast, List.getElem?_eq_getElem hi]
    simp [hbl, hp]
  obtain ⟨bT, off, cap, bo, oo, co, ev, c0', z0', z1', y0', y1', y2', hbT, hbo, hfz'⟩ := h.opAt i hi hp
  rw [hop] at y0' y1' y2'
  have q6 : IntKind.i64.wrap ((T[i].pos : Int) + 1) = (p1 : Int) := by rw [IntKind.wrap_i64]; omega
  have hpl : (T[i].pos : Int) < (T[i].ops.length : Int) := by omega
  have HP1 : Hid _ := hp1
  clear h hbl hop hp1
  subst ev
  go_enter Try.func14, Try.ntmps14
  go_wp2_with (first
    | (show wpList _ _ _ (⟨_, Op.store 32 _ _, _, _, _, _⟩ :: _) _ _; refine store_row_g rfl 32 _ _ rfl w2.heap.size #[.int .i64 (i : Int), .int .i64 (T[i].pos : Int), .int .i64 0] rfl rfl 32 #[.int .i64 0, .int .i64 0, .int .i64 0] (heap_alloc_new w2 _) infoE rfl (by simp [Value.oneCell']) ?_; intro w3 hV3 g3)
    | (go_at_call 33; refine (sk_ready HS1.out (i : Int)).mono ?_; rw [hrd]; rintro e w2 ⟨rfl, b2⟩; have B2 : Below w.heap.size w w2 := bmm B1.out B1.out.size b2; have c0 := (B2.cell (p := ⟨D, 0, none⟩) (by exact hDl)).trans c0'; have z1 := (B2.cell (p := ⟨bT, off + i * 4 + 1, none⟩) (by exact hbT)).trans z1'))
  have hs2 := B2.size
  have hsb2 := b2.size
  have hR2 := (b2.block w.heap.size (by simp)).trans R1.out
  have hRl : w.heap.size < w2.heap.size := lt_of_block hR2
  have B3 : Below w.heap.size w w3.drew := ((B2.alloc hs2 _).grown g3 (by simp; omega) (fun q hq => by rw [← Option.some.inj hq]; exact hs2)).drew
  have hVl : w2.heap.size < w3.heap.size := lt_of_block hV3
  have hR3 : w3.drew.heap[w.heap.size]? = some (.cells #[.int .i64 0, .int .i64 0, .int .i64 0] 32 (0, 0)) := ((g3.block _ (by simp; omega) (fun e => by have := Option.some.inj e; omega)).trans (Below.heap_alloc w2 _ _ hRl)).trans hR2
  have hd3 : w3.drew.heap.size = w3.heap.size := rfl
  have hV3d : w3.drew.heap[w2.heap.size]? = some (.cells #[.int .i64 (i : Int), .int .i64 (T[i].pos : Int), .int .i64 0] 32 (0, 0)) := hV3
  have HSB : Hid (∀ w', Below w3.drew.heap.size w3.drew w' → (fun w' : World => w'.cell? ⟨bT, off + i * 4, none⟩ = some (.slice (some ⟨bo, oo, none⟩) T[i].ops.length co) ∧ w'.cell? ⟨bT, off + i * 4 + 1, none⟩ = some (.int .i64 (T[i].pos : Int)) ∧ w'.cell? ⟨bo, oo + T[i].pos * 3, none⟩ = some (.int .i64 7) ∧ w'.cell? ⟨bo, oo + T[i].pos * 3 + 1, none⟩ = some (.int .i64 num) ∧ w'.cell? ⟨bo, oo + T[i].pos * 3 + 2, none⟩ = some (.int .i64 N)) w') := fun w' b => by
    have b' : Below w.heap.size w w' := bmm B3 B3.size b
    exact ⟨(b'.cell (p := ⟨bT, off + i * 4, none⟩) (by exact hbT)).trans z0', (b'.cell (p := ⟨bT, off + i * 4 + 1, none⟩) (by exact hbT)).trans z1', (b'.cell (p := ⟨bo, oo + T[i].pos * 3, none⟩) (by exact hbo)).trans y0', (b'.cell (p := ⟨bo, oo + T[i].pos * 3 + 1, none⟩) (by exact hbo)).trans y1', (b'.cell (p := ⟨bo, oo + T[i].pos * 3 + 2, none⟩) (by exact hbo)).trans y2'⟩
  have HN : Hid (∀ w5 : World, Below w3.drew.heap.size w3.drew w5 → w5.heap[w3.drew.heap.size]? = some (.cells #[.int .i64 7, .int .i64 num, .int .i64 N] 45 (0, 0)) → (w5.cell? ⟨bT, off + i * 4 + 1, none⟩ = some (.int .i64 (T[i].pos : Int)) ∧ w5.frozen? ⟨bT, off + i * 4 + 1, none⟩ = false ∧ (w5.setCell ⟨bT, off + i * 4 + 1, none⟩ (.int .i64 (p1 : Int))).cell? ⟨w3.drew.heap.size, 0, none⟩ = some (.int .i64 7) ∧ (w5.setCell ⟨bT, off + i * 4 + 1, none⟩ (.int .i64 (p1 : Int))).heap[w3.drew.heap.size]? = some (.cells #[.int .i64 7, .int .i64 num, .int .i64 N] 45 (0, 0)) ∧ (w5.setCell ⟨bT, off + i * 4 + 1, none⟩ (.int .i64 (p1 : Int))).heap[w2.heap.size]? = some (.cells #[.int .i64 (i : Int), .int .i64 (T[i].pos : Int), .int .i64 0] 32 (0, 0)) ∧ (w5.setCell ⟨bT, off + i * 4 + 1, none⟩ (.int .i64 (p1 : Int))).heap[w.heap.size]? = some (.cells #[.int .i64 0, .int .i64 0, .int .i64 0] 32 (0, 0))) ∧ SkAt (w5.setCell ⟨bT, off + i * 4 + 1, none⟩ (.int .i64 (p1 : Int))) base D ro (.slice (some ⟨bT, off, none⟩) T.length cap) vL tv od (T.set i { T[i] with pos := p1 }) L ∧ Kept w (w5.setCell ⟨bT, off + i * 4 + 1, none⟩ (.int .i64 (p1 : Int))) (fun b => ro b ≠ none) (fun b => ro b ≠ none)) := fun w5 b5 hOB => by
    have b' : Below w.heap.size w w5 := bmm B3 B3.size b5
    have hs6 := HS0.out.fresh b'
    obtain ⟨k1, k2⟩ := hs6.setTask rfl i hi 1 { T[i] with pos := p1 } (.int .i64 (p1 : Int)) (Or.inl ⟨rfl, rfl, rfl⟩) rfl rfl
    have ho : ∀ c, c ≠ bT → (w5.setCell ⟨bT, off + i * 4 + 1, none⟩ (.int .i64 (p1 : Int))).heap[c]? = w5.heap[c]? := fun c hc => heap_setCell_other _ _ _ _ (by simpa using hc)
    refine ⟨⟨(b'.cell (p := ⟨bT, off + i * 4 + 1, none⟩) (by exact hbT)).trans z1', (b'.frozen (p := ⟨bT, off + i * 4 + 1, none⟩) (by exact hbT)).trans (hfz' _), ?_, (ho _ (by omega)).trans hOB, ?_, ?_⟩, k1, (Kept.of b').trans k2⟩
    · have := (ho w3.drew.heap.size (by omega)).trans hOB
      simp only [World.cell?, this]
      rfl
    · rw [ho _ (by omega), b5.block _ (by omega)]
      exact hV3d
    · rw [ho _ (by omega), b5.block _ (by omega)]
      exact hR3
  have hVR : w.heap.size ≤ w2.heap.size ∧ w.heap.size ≠ w2.heap.size ∧ w2.heap.size ≠ bT ∧ w.heap.size ≠ bT := ⟨hs2, by omega, by omega, by omega⟩
  have HB : Hid (∀ b, ro b ≠ none → b < w.heap.size) := fun b hb => (HS0.out.bd b hb).2
  clear B3 hV3d hR3 hd3 hVl hsb2 g3 hV3 z1 c0 z0' z1' y0' y1' y2' hR2 b2 B2 HS1 HS0 R1 B1
  have TF : Hid (∀ wK : World, wK.heap[w2.heap.size]? = some (.cells #[.int .i64 (i : Int), .int .i64 (T[i].pos : Int), .int .i64 0] 32 (0, 0)) → wK.heap[w.heap.size]? = some (.cells #[.int .i64 0, .int .i64 0, .int .i64 0] 32 (0, 0)) → ∀ (b : Bool) (e : Int), (wK.setCell ⟨bT, off + i * 4 + 2, none⟩ (.bool b)).cell? ⟨w2.heap.size, 2, none⟩ = some (.int .i64 0) ∧ (wK.setCell ⟨bT, off + i * 4 + 2, none⟩ (.bool b)).frozen? ⟨w2.heap.size, 2, none⟩ = false ∧ ((wK.setCell ⟨bT, off + i * 4 + 2, none⟩ (.bool b)).setCell ⟨w2.heap.size, 2, none⟩ (.int .i64 e)).cell? ⟨w2.heap.size, 0, none⟩ = some (.int .i64 (i : Int)) ∧ ((wK.setCell ⟨bT, off + i * 4 + 2, none⟩ (.bool b)).setCell ⟨w2.heap.size, 2, none⟩ (.int .i64 e)).cell? ⟨w2.heap.size, 1, none⟩ = some (.int .i64 (T[i].pos : Int)) ∧ ((wK.setCell ⟨bT, off + i * 4 + 2, none⟩ (.bool b)).setCell ⟨w2.heap.size, 2, none⟩ (.int .i64 e)).cell? ⟨w2.heap.size, 2, none⟩ = some (.int .i64 e) ∧ ((wK.setCell ⟨bT, off + i * 4 + 2, none⟩ (.bool b)).setCell ⟨w2.heap.size, 2, none⟩ (.int .i64 e)).heap[w.heap.size]? = some (.cells #[.int .i64 0, .int .i64 0, .int .i64 0] 32 (0, 0))) := fun wK h1 h2 b e => by
    have e1 : (wK.setCell ⟨bT, off + i * 4 + 2, none⟩ (.bool b)).heap[w2.heap.size]? = some (.cells #[.int .i64 (i : Int), .int .i64 (T[i].pos : Int), .int .i64 0] 32 (0, 0)) := (heap_setCell_other _ _ _ _ (by simpa using hVR.2.2.1)).trans h1
    have e2 : ((wK.setCell ⟨bT, off + i * 4 + 2, none⟩ (.bool b)).setCell ⟨w2.heap.size, 2, none⟩ (.int .i64 e)).heap[w2.heap.size]? = some (.cells #[.int .i64 (i : Int), .int .i64 (T[i].pos : Int), .int .i64 e] 32 (0, 0)) := by
      rw [heap_setCell_same _ w2.heap.size 2 _ _ _ e1]
      rfl
    refine ⟨by simp only [World.cell?, e1]; rfl, by simp only [World.frozen?, e1]; rfl, by simp only [World.cell?, e2]; rfl, by simp only [World.cell?, e2]; rfl, by simp only [World.cell?, e2]; rfl, ?_⟩
    rw [heap_setCell_other _ _ _ _ (by simpa using hVR.2.1), heap_setCell_other _ _ _ _ (by simpa using hVR.2.2.2)]
    exact h2
  refine wp_region_held_drew (S := (fun w' : World => w'.cell? ⟨bT, off + i * 4, none⟩ = some (.slice (some ⟨bo, oo, none⟩) T[i].ops.length co) ∧ w'.cell? ⟨bT, off + i * 4 + 1, none⟩ = some (.int .i64 (T[i].pos : Int)) ∧ w'.cell? ⟨bo, oo + T[i].pos * 3, none⟩ = some (.int .i64 7) ∧ w'.cell? ⟨bo, oo + T[i].pos * 3 + 1, none⟩ = some (.int .i64 num) ∧ w'.cell? ⟨bo, oo + T[i].pos * 3 + 2, none⟩ = some (.int .i64 N))) (by kernel_rfl) ?_ (fun hHeld0 => ?_)
  · exact HSB.out _ (Below.refl _ _)
  generalize w3.drew = w4 at *
  clear hHeld0
  have hHeld0 := HSB.out w4 (Below.refl _ _)
  refine tk0 (.pointer (some ⟨bT, off + i * 4, none⟩)) ?_ (fun w hSw => by (try dsimp only at hSw); obtain ⟨y0, y1, y2, y3, y4⟩ := hSw; go_simp)
  try simp only [Act.put, pu1, pu2, pu3]
  refine tk1 (.pointer (some ⟨bT, off + i * 4, none⟩)) ?_ (fun w hSw => by (try dsimp only at hSw); obtain ⟨y0, y1, y2, y3, y4⟩ := hSw; go_simp)
  try simp only [Act.put, pu1, pu2, pu3]
  refine tk2 (.pointer (some ⟨bT, off + i * 4, none⟩)) ?_ (fun w hSw => by (try dsimp only at hSw); obtain ⟨y0, y1, y2, y3, y4⟩ := hSw; go_simp)
  try simp only [Act.put, pu1, pu2, pu3]
  refine tk3 (.slice (some ⟨bo, oo, none⟩) T[i].ops.length co) ?_ (fun w hSw => by (try dsimp only at hSw); obtain ⟨y0, y1, y2, y3, y4⟩ := hSw; go_simp)
  try simp only [Act.put, pu1, pu2, pu3]
  refine tk4 (.pointer (some ⟨bT, off + i * 4, none⟩)) ?_ (fun w hSw => by (try dsimp only at hSw); obtain ⟨y0, y1, y2, y3, y4⟩ := hSw; go_simp)
  try simp only [Act.put, pu1, pu2, pu3]
  refine tk5 (.pointer (some ⟨bT, off + i * 4, none⟩)) ?_ (fun w hSw => by (try dsimp only at hSw); obtain ⟨y0, y1, y2, y3, y4⟩ := hSw; go_simp)
  try simp only [Act.put, pu1, pu2, pu3]
  refine tk6 (.pointer (some ⟨bT, off + i * 4 + 1, none⟩)) ?_ (fun w hSw => by (try dsimp only at hSw); obtain ⟨y0, y1, y2, y3, y4⟩ := hSw; go_simp)
  try simp only [Act.put, pu1, pu2, pu3]
  refine tk7 (.int .i64 (T[i].pos : Int)) ?_ (fun w hSw => by (try dsimp only at hSw); obtain ⟨y0, y1, y2, y3, y4⟩ := hSw; go_simp)
  try simp only [Act.put, pu1, pu2, pu3]
  refine tk8 (.pointer (some ⟨bo, oo + T[i].pos * 3, none⟩)) ?_ (fun w hSw => by (try dsimp only at hSw); obtain ⟨y0, y1, y2, y3, y4⟩ := hSw; go_simp)
  try simp only [Act.put, pu1, pu2, pu3]
  refine tk9 (.agg #[.int .i64 7, .int .i64 num, .int .i64 N]) ?_ (fun w hSw => by (try dsimp only at hSw); obtain ⟨y0, y1, y2, y3, y4⟩ := hSw; go_simp)
  try simp only [Act.put, pu1, pu2, pu3]
  refine cl10 (by kernel_rfl) rfl (fun K hK => ?_)
  go_simp
  refine hK.out _ _ ?_ (fun hHeld => ?_)
  · exact HSB.out _ ((Below.refl _ w4).alloc (Nat.le_refl _) _)
  clear hK K
  try simp only [Act.put, pu1, pu2, pu3]
  refine cl11 (by kernel_rfl) rfl (fun K hK => ?_)
  refine wp_store_row 45 (.tmp 8) (.tmp 41) rfl w4.heap.size #[.int .i64 7, .int .i64 num, .int .i64 N] rfl rfl 45 #[.int .i64 0, .int .i64 0, .int .i64 0] (heap_alloc_new w4 _) infoP rfl (by simp [Value.oneCell']) ?_
  refine hK.out _ _ ?_ (fun hHeld => ?_)
  · exact HSB.out _ (((Below.refl _ w4).alloc (Nat.le_refl _) _).grown (grown_setRow_g _ _ _) (by simp) (fun q hq => by rw [← Option.some.inj hq]; exact Nat.le_refl _))
  clear hK K
  refine wpAnyH_done (by kernel_rfl) ?_ _
  simp only [Act.put]
  have hOB := setRow_heap (w4.alloc (.cells #[.int .i64 0, .int .i64 0, .int .i64 0] 45)) w4.heap.size #[.int .i64 0, .int .i64 0, .int .i64 0] #[.int .i64 7, .int .i64 num, .int .i64 N] 45 (0, 0) (heap_alloc_new w4 _)
  have B5 : Below w4.heap.size w4 ((w4.alloc (.cells #[.int .i64 0, .int .i64 0, .int .i64 0] 45)).setRow w4.heap.size #[.int .i64 7, .int .i64 num, .int .i64 N]) := ((Below.refl _ w4).alloc (Nat.le_refl _) _).grown (grown_setRow_g _ _ _) (by simp) (fun q hq => by rw [← Option.some.inj hq]; exact Nat.le_refl _)
  generalize (w4.alloc (.cells #[.int .i64 0, .int .i64 0, .int .i64 0] 45)).setRow w4.heap.size #[.int .i64 7, .int .i64 num, .int .i64 N] = w5 at *
  clear hHeld
  clear hHeld0
  obtain ⟨X5, HS6, HK6⟩ := HN.out w5 B5 hOB
  obtain ⟨x1, x2, x3, x4, x5, x6⟩ := X5
  have HKV : Hid (∀ (w7 : World) (ro7 : Nat → Option Nat), Kept (w5.setCell ⟨bT, off + i * 4 + 1, none⟩ (.int .i64 (p1 : Int))) w7 (fun b => ro b ≠ none) (fun b => ro7 b ≠ none) → w7.heap[w2.heap.size]? = some (.cells #[.int .i64 (i : Int), .int .i64 (T[i].pos : Int), .int .i64 0] 32 (0, 0)) ∧ w7.heap[w.heap.size]? = some (.cells #[.int .i64 0, .int .i64 0, .int .i64 0] 32 (0, 0)) ∧ ro7 w2.heap.size = none ∧ ro7 w.heap.size = none) := fun w7 ro7 k => by
    have l1 := lt_of_block x5
    have l2 := lt_of_block x6
    have hn : ∀ b, w.heap.size ≤ b → ¬ ro b ≠ none := fun b hb e => by
      have := HB.out b e
      omega
    have ho : ∀ b, w.heap.size ≤ b → b < _ → ro7 b = none := fun b hb hl => by
      cases h : ro7 b with
      | none => rfl
      | some x =>
        rcases k.old b (by rw [h]; simp) with h1 | h1
        · exact absurd h1 (hn b hb)
        · exact absurd hl (Nat.not_lt.2 h1)
    exact ⟨(k.kept _ l1 (hn _ hVR.1)).trans x5, (k.kept _ l2 (hn _ (Nat.le_refl _))).trans x6, ho _ hVR.1 l1, ho _ (Nat.le_refl _) l2⟩
  have o0 : (w5.setCell ⟨bT, off + i * 4 + 1, none⟩ (.int .i64 (p1 : Int))).cell? ⟨w4.heap.size, 0, none⟩ = some (.int .i64 7) := x3
  have o1 : (w5.setCell ⟨bT, off + i * 4 + 1, none⟩ (.int .i64 (p1 : Int))).cell? ⟨w4.heap.size, 1, none⟩ = some (.int .i64 num) := by simp only [World.cell?, x4]; rfl
  have o2 : (w5.setCell ⟨bT, off + i * 4 + 1, none⟩ (.int .i64 (p1 : Int))).cell? ⟨w4.heap.size, 2, none⟩ = some (.int .i64 N) := by simp only [World.cell?, x4]; rfl
  have HS7 : Hid _ := HS6
  have HK7 : Hid _ := HK6
  clear HS6 HK6 x4 x5 x6 o0
  go_wp2_with (first | (show wpList _ _ _ (⟨_, Op.store 32 _ _, _, _, _, _⟩ :: _) _ _; refine store_row_g rfl 32 _ _ rfl w.heap.size #[.int .i64 (i : Int), .int .i64 (T[i].pos : Int), .int .i64 ez] rfl rfl 32 #[.int .i64 0, .int .i64 0, .int .i64 0] HT6.out infoE rfl (by simp [Value.oneCell']) ?_; intro wE hE gE) | (go_at_call 38; refine (HCL.out _ HS7.out).mono ?_; rintro e w7 ⟨rfl, ro7, vL7, tv7, od7, h7', k7'⟩; have h7 : Hid _ := h7'; have k7 : Hid _ := k7'; clear h7' k7'; obtain ⟨v1, v2, v3, v4⟩ := HKV.out w7 ro7 k7.out; obtain ⟨t1, t2, t3, t4, t5, t6⟩ := TF.out w7 v1 v2 (ez == 0) ez; have z29 := h7.out.cell2 i hiT2; have hf9 : w7.frozen? ⟨bT, off + i * 4 + 2, none⟩ = false := h7.out.ts.at'.free _; have HT6 : Hid _ := t6; have HV7 : Hid _ := (⟨v3, v4⟩ : ro7 _ = none ∧ ro7 _ = none); clear t6 v1 v2 v3 v4))
  refine bodyPost_ret (results_ev Try.results14 _ _ w.heap.size _ rfl hE rfl) rfl ?_
  obtain ⟨k1, k2⟩ := h7.out.fin i hiT2 (ez == 0) (.int .i64 ez) w2.heap.size w.heap.size HV7.out.1 HV7.out.2 gE
  exact ⟨rfl, ro7, vL7, tv7, od7, k1, k2 w ro (HK7.out.trans k7.out) hVR.1 (Nat.le_refl _)⟩
set_option maxHeartbeats 6400000 in
set_option maxRecDepth 100000 in
theorem step_endF (h : SkAt w base D ro vT vL tv od T L) (i : Nat) (hi : i < T.length) (hbl : T[i].bl = false) (hp : T[i].pos < T[i].ops.length) (hlo : T[i].ops.length ≤ 65536) (p1 : Nat) (hp1 : p1 = T[i].pos + 1) (num N : Int) (hop : T[i].ops[T[i].pos] = (8, num, N))  (ez : Int) (T2 : List Tk) (L2 : List (Int × Ob)) (hiT2 : i < T2.length) (hcall' : ∀ w6 : World, SkAt w6 base D ro vT vL tv od (T.set i { T[i] with pos := p1 }) L → Calls Try.prog 38 #[.pointer (some ⟨D, 0, none⟩), .int .i64 (i : Int), .agg #[.int .i64 8, .int .i64 num, .int .i64 N]] w6 fun e w' => e = .returned (.tuple #[.bool false, .int .i64 ez]) ∧ ∃ ro' vL' tv' od', SkAt w' base D ro' vT vL' tv' od' T2 L2 ∧ Kept w6 w' (fun b => ro b ≠ none) (fun b => ro' b ≠ none)) : Calls Try.prog 14 #[.pointer (some ⟨D, 0, none⟩), .int .i64 (i : Int)] w fun e w' => e = .returned (.tuple #[.agg #[.int .i64 (i : Int), .int .i64 (T[i].pos : Int), .int .i64 ez], .int .i64 0]) ∧ ∃ ro' vL' tv' od', SkAt w' base D ro' vT vL' tv' od' (T2.set i { T2[i] with bl := false }) L2 ∧ Kept w w' (fun b => ro b ≠ none) (fun b => ro' b ≠ none) := by
  have HCL : Hid _ := hcall'
  clear hcall'
  have B1 : Hid _ := (Below.refl _ w).alloc (Nat.le_refl _) (.cells #[.int .i64 0, .int .i64 0, .int .i64 0] 32)
  have R1 : Hid _ := heap_alloc_new w (.cells #[.int .i64 0, .int .i64 0, .int .i64 0] 32)
  have HS1 : Hid _ := h.fresh B1.out
  have HS0 : Hid _ := h
  have hDl := lt_of_block h.hd
  have hrd : rdB T (i : Int) = true := by
    unfold rdB tkR
    rw [Int.toNat_natCast, List.getElem?_eq_getElem hi]
    simp [hbl, hp]
  obtain ⟨bT, off, cap, bo, oo, co, ev, c0', z0', z1', y0', y1', y2', hbT, hbo, hfz'⟩ := h.opAt i hi hp
  rw [hop] at y0' y1' y2'
  have q6 : IntKind.i64.wrap ((T[i].pos : Int) + 1) = (p1 : Int) := by rw [IntKind.wrap_i64]; omega
  have hpl : (T[i].pos : Int) < (T[i].ops.length : Int) := by omega
  have HP1 : Hid _ := hp1
  clear h hbl hop hp1
  subst ev
  go_enter Try.func14, Try.ntmps14
  go_wp2_with (first
    | (show wpList _ _ _ (⟨_, Op.store 32 _ _, _, _, _, _⟩ :: _) _ _; refine store_row_g rfl 32 _ _ rfl w2.heap.size #[.int .i64 (i : Int), .int .i64 (T[i].pos : Int), .int .i64 0] rfl rfl 32 #[.int .i64 0, .int .i64 0, .int .i64 0] (heap_alloc_new w2 _) infoE rfl (by simp [Value.oneCell']) ?_; intro w3 hV3 g3)
    | (go_at_call 33; refine (sk_ready HS1.out (i : Int)).mono ?_; rw [hrd]; rintro e w2 ⟨rfl, b2⟩; have B2 : Below w.heap.size w w2 := bmm B1.out B1.out.size b2; have c0 := (B2.cell (p := ⟨D, 0, none⟩) (by exact hDl)).trans c0'; have z1 := (B2.cell (p := ⟨bT, off + i * 4 + 1, none⟩) (by exact hbT)).trans z1'))
  have hs2 := B2.size
  have hsb2 := b2.size
  have hR2 := (b2.block w.heap.size (by simp)).trans R1.out
  have hRl : w.heap.size < w2.heap.size := lt_of_block hR2
  have B3 : Below w.heap.size w w3.drew := ((B2.alloc hs2 _).grown g3 (by simp; omega) (fun q hq => by rw [← Option.some.inj hq]; exact hs2)).drew
  have hVl : w2.heap.size < w3.heap.size := lt_of_block hV3
  have hR3 : w3.drew.heap[w.heap.size]? = some (.cells #[.int .i64 0, .int .i64 0, .int .i64 0] 32 (0, 0)) := ((g3.block _ (by simp; omega) (fun e => by have := Option.some.inj e; omega)).trans (Below.heap_alloc w2 _ _ hRl)).trans hR2
  have hd3 : w3.drew.heap.size = w3.heap.size := rfl
  have hV3d : w3.drew.heap[w2.heap.size]? = some (.cells #[.int .i64 (i : Int), .int .i64 (T[i].pos : Int), .int .i64 0] 32 (0, 0)) := hV3
  have HSB : Hid (∀ w', Below w3.drew.heap.size w3.drew w' → (fun w' : World => w'.cell? ⟨bT, off + i * 4, none⟩ = some (.slice (some ⟨bo, oo, none⟩) T[i].ops.length co) ∧ w'.cell? ⟨bT, off + i * 4 + 1, none⟩ = some (.int .i64 (T[i].pos : Int)) ∧ w'.cell? ⟨bo, oo + T[i].pos * 3, none⟩ = some (.int .i64 8) ∧ w'.cell? ⟨bo, oo + T[i].pos * 3 + 1, none⟩ = some (.int .i64 num) ∧ w'.cell? ⟨bo, oo + T[i].pos * 3 + 2, none⟩ = some (.int .i64 N)) w') := fun w' b => by
    have b' : Below w.heap.size w w' := bmm B3 B3.size b
    exact ⟨(b'.cell (p := ⟨bT, off + i * 4, none⟩) (by exact hbT)).trans z0', (b'.cell (p := ⟨bT, off + i * 4 + 1, none⟩) (by exact hbT)).trans z1', (b'.cell (p := ⟨bo, oo + T[i].pos * 3, none⟩) (by exact hbo)).trans y0', (b'.cell (p := ⟨bo, oo + T[i].pos * 3 + 1, none⟩) (by exact hbo)).trans y1', (b'.cell (p := ⟨bo, oo + T[i].pos * 3 + 2, none⟩) (by exact hbo)).trans y2'⟩
  have HN : Hid (∀ w5 : World, Below w3.drew.heap.size w3.drew w5 → w5.heap[w3.drew.heap.size]? = some (.cells #[.int .i64 8, .int .i64 num, .int .i64 N] 45 (0, 0)) → (w5.cell? ⟨bT, off + i * 4 + 1, none⟩ = some (.int .i64 (T[i].pos : Int)) ∧ w5.frozen? ⟨bT, off + i * 4 + 1, none⟩ = false ∧ (w5.setCell ⟨bT, off + i * 4 + 1, none⟩ (.int .i64 (p1 : Int))).cell? ⟨w3.drew.heap.size, 0, none⟩ = some (.int .i64 8) ∧ (w5.setCell ⟨bT, off + i * 4 + 1, none⟩ (.int .i64 (p1 : Int))).heap[w3.drew.heap.size]? = some (.cells #[.int .i64 8, .int .i64 num, .int .i64 N] 45 (0, 0)) ∧ (w5.setCell ⟨bT, off + i * 4 + 1, none⟩ (.int .i64 (p1 : Int))).heap[w2.heap.size]? = some (.cells #[.int .i64 (i : Int), .int .i64 (T[i].pos : Int), .int .i64 0] 32 (0, 0)) ∧ (w5.setCell ⟨bT, off + i * 4 + 1, none⟩ (.int .i64 (p1 : Int))).heap[w.heap.size]? = some (.cells #[.int .i64 0, .int .i64 0, .int .i64 0] 32 (0, 0))) ∧ SkAt (w5.setCell ⟨bT, off + i * 4 + 1, none⟩ (.int .i64 (p1 : Int))) base D ro (.slice (some ⟨bT, off, none⟩) T.length cap) vL tv od (T.set i { T[i] with pos := p1 }) L ∧ Kept w (w5.setCell ⟨bT, off + i * 4 + 1, none⟩ (.int .i64 (p1 : Int))) (fun b => ro b ≠ none) (fun b => ro b ≠ none)) := fun w5 b5 hOB => by
    have b' : Below w.heap.size w w5 := bmm B3 B3.size b5
    have hs6 := HS0.out.fresh b'
    obtain ⟨k1, k2⟩ := hs6.setTask rfl i hi 1 { T[i] with pos := p1 } (.int .i64 (p1 : Int)) (Or.inl ⟨rfl, rfl, rfl⟩) rfl rfl
    have ho : ∀ c, c ≠ bT → (w5.setCell ⟨bT, off + i * 4 + 1, none⟩ (.int .i64 (p1 : Int))).heap[c]? = w5.heap[c]? := fun c hc => heap_setCell_other _ _ _ _ (by simpa using hc)
    refine ⟨⟨(b'.cell (p := ⟨bT, off + i * 4 + 1, none⟩) (by exact hbT)).trans z1', (b'.frozen (p := ⟨bT, off + i * 4 + 1, none⟩) (by exact hbT)).trans (hfz' _), ?_, (ho _ (by omega)).trans hOB, ?_, ?_⟩, k1, (Kept.of b').trans k2⟩
    · have := (ho w3.drew.heap.size (by omega)).trans hOB
      simp only [World.cell?, this]
      rfl
    · rw [ho _ (by omega), b5.block _ (by omega)]
      exact hV3d
    · rw [ho _ (by omega), b5.block _ (by omega)]
      exact hR3
  have hVR : w.heap.size ≤ w2.heap.size ∧ w.heap.size ≠ w2.heap.size ∧ w2.heap.size ≠ bT ∧ w.heap.size ≠ bT := ⟨hs2, by omega, by omega, by omega⟩
  have HB : Hid (∀ b, ro b ≠ none → b < w.heap.size) := fun b hb => (HS0.out.bd b hb).2
  clear B3 hV3d hR3 hd3 hVl hsb2 g3 hV3 z1 c0 z0' z1' y0' y1' y2' hR2 b2 B2 HS1 HS0 R1 B1
  have TF : Hid (∀ wK : World, wK.heap[w2.heap.size]? = some (.cells #[.int .i64 (i : Int), .int .i64 (T[i].pos : Int), .int .i64 0] 32 (0, 0)) → wK.heap[w.heap.size]? = some (.cells #[.int .i64 0, .int .i64 0, .int .i64 0] 32 (0, 0)) → ∀ (b : Bool) (e : Int), (wK.setCell ⟨bT, off + i * 4 + 2, none⟩ (.bool b)).cell? ⟨w2.heap.size, 2, none⟩ = some (.int .i64 0) ∧ (wK.setCell ⟨bT, off + i * 4 + 2, none⟩ (.bool b)).frozen? ⟨w2.heap.size, 2, none⟩ = false ∧ ((wK.setCell ⟨bT, off + i * 4 + 2, none⟩ (.bool b)).setCell ⟨w2.heap.size, 2, none⟩ (.int .i64 e)).cell? ⟨w2.heap.size, 0, none⟩ = some (.int .i64 (i : Int)) ∧ ((wK.setCell ⟨bT, off + i * 4 + 2, none⟩ (.bool b)).setCell ⟨w2.heap.size, 2, none⟩ (.int .i64 e)).cell? ⟨w2.heap.size, 1, none⟩ = some (.int .i64 (T[i].pos : Int)) ∧ ((wK.setCell ⟨bT, off + i * 4 + 2, none⟩ (.bool b)).setCell ⟨w2.heap.size, 2, none⟩ (.int .i64 e)).cell? ⟨w2.heap.size, 2, none⟩ = some (.int .i64 e) ∧ ((wK.setCell ⟨bT, off + i * 4 + 2, none⟩ (.bool b)).setCell ⟨w2.heap.size, 2, none⟩ (.int .i64 e)).heap[w.heap.size]? = some (.cells #[.int .i64 0, .int .i64 0, .int .i64 0] 32 (0, 0))) := fun wK h1 h2 b e => by
    have e1 : (wK.setCell ⟨bT, off + i * 4 + 2, none⟩ (.bool b)).heap[w2.heap.size]? = some (.cells #[.int .i64 (i : Int), .int .i64 (T[i].pos : Int), .int .i64 0] 32 (0, 0)) := (heap_setCell_other _ _ _ _ (by simpa using hVR.2.2.1)).trans h1
    have e2 : ((wK.setCell ⟨bT, off + i * 4 + 2, none⟩ (.bool b)).setCell ⟨w2.heap.size, 2, none⟩ (.int .i64 e)).heap[w2.heap.size]? = some (.cells #[.int .i64 (i : Int), .int .i64 (T[i].pos : Int), .int .i64 e] 32 (0, 0)) := by
      rw [heap_setCell_same _ w2.heap.size 2 _ _ _ e1]
      rfl
    refine ⟨by simp only [World.cell?, e1]; rfl, by simp only [World.frozen?, e1]; rfl, by simp only [World.cell?, e2]; rfl, by simp only [World.cell?, e2]; rfl, by simp only [World.cell?, e2]; rfl, ?_⟩
    rw [heap_setCell_other _ _ _ _ (by simpa using hVR.2.1), heap_setCell_other _ _ _ _ (by simpa using hVR.2.2.2)]
    exact h2
  refine wp_region_held_drew (S := (fun w' : World => w'.cell? ⟨bT, off + i * 4, none⟩ = some (.slice (some ⟨bo, oo, none⟩) T[i].ops.length co) ∧ w'.cell? ⟨bT, off + i * 4 + 1, none⟩ = some (.int .i64 (T[i].pos : Int)) ∧ w'.cell? ⟨bo, oo + T[i].pos * 3, none⟩ = some (.int .i64 8) ∧ w'.cell? ⟨bo, oo + T[i].pos * 3 + 1, none⟩ = some (.int .i64 num) ∧ w'.cell? ⟨bo, oo + T[i].pos * 3 + 2, none⟩ = some (.int .i64 N))) (by kernel_rfl) ?_ (fun hHeld0 => ?_)
  · exact HSB.out _ (Below.refl _ _)
  generalize w3.drew = w4 at *
  clear hHeld0
  have hHeld0 := HSB.out w4 (Below.refl _ _)
  refine tk0 (.pointer (some ⟨bT, off + i * 4, none⟩)) ?_ (fun w hSw => by (try dsimp only at hSw); obtain ⟨y0, y1, y2, y3, y4⟩ := hSw; go_simp)
  try simp only [Act.put, pu1, pu2, pu3]
  refine tk1 (.pointer (some ⟨bT, off + i * 4, none⟩)) ?_ (fun w hSw => by (try dsimp only at hSw); obtain ⟨y0, y1, y2, y3, y4⟩ := hSw; go_simp)
  try simp only [Act.put, pu1, pu2, pu3]
  refine tk2 (.pointer (some ⟨bT, off + i * 4, none⟩)) ?_ (fun w hSw => by (try dsimp only at hSw); obtain ⟨y0, y1, y2, y3, y4⟩ := hSw; go_simp)
  try simp only [Act.put, pu1, pu2, pu3]
  refine tk3 (.slice (some ⟨bo, oo, none⟩) T[i].ops.length co) ?_ (fun w hSw => by (try dsimp only at hSw); obtain ⟨y0, y1, y2, y3, y4⟩ := hSw; go_simp)
  try simp only [Act.put, pu1, pu2, pu3]
  refine tk4 (.pointer (some ⟨bT, off + i * 4, none⟩)) ?_ (fun w hSw => by (try dsimp only at hSw); obtain ⟨y0, y1, y2, y3, y4⟩ := hSw; go_simp)
  try simp only [Act.put, pu1, pu2, pu3]
  refine tk5 (.pointer (some ⟨bT, off + i * 4, none⟩)) ?_ (fun w hSw => by (try dsimp only at hSw); obtain ⟨y0, y1, y2, y3, y4⟩ := hSw; go_simp)
  try simp only [Act.put, pu1, pu2, pu3]
  refine tk6 (.pointer (some ⟨bT, off + i * 4 + 1, none⟩)) ?_ (fun w hSw => by (try dsimp only at hSw); obtain ⟨y0, y1, y2, y3, y4⟩ := hSw; go_simp)
  try simp only [Act.put, pu1, pu2, pu3]
  refine tk7 (.int .i64 (T[i].pos : Int)) ?_ (fun w hSw => by (try dsimp only at hSw); obtain ⟨y0, y1, y2, y3, y4⟩ := hSw; go_simp)
  try simp only [Act.put, pu1, pu2, pu3]
  refine tk8 (.pointer (some ⟨bo, oo + T[i].pos * 3, none⟩)) ?_ (fun w hSw => by (try dsimp only at hSw); obtain ⟨y0, y1, y2, y3, y4⟩ := hSw; go_simp)
  try simp only [Act.put, pu1, pu2, pu3]
  refine tk9 (.agg #[.int .i64 8, .int .i64 num, .int .i64 N]) ?_ (fun w hSw => by (try dsimp only at hSw); obtain ⟨y0, y1, y2, y3, y4⟩ := hSw; go_simp)
  try simp only [Act.put, pu1, pu2, pu3]
  refine cl10 (by kernel_rfl) rfl (fun K hK => ?_)
  go_simp
  refine hK.out _ _ ?_ (fun hHeld => ?_)
  · exact HSB.out _ ((Below.refl _ w4).alloc (Nat.le_refl _) _)
  clear hK K
  try simp only [Act.put, pu1, pu2, pu3]
  refine cl11 (by kernel_rfl) rfl (fun K hK => ?_)
  refine wp_store_row 45 (.tmp 8) (.tmp 41) rfl w4.heap.size #[.int .i64 8, .int .i64 num, .int .i64 N] rfl rfl 45 #[.int .i64 0, .int .i64 0, .int .i64 0] (heap_alloc_new w4 _) infoP rfl (by simp [Value.oneCell']) ?_
  refine hK.out _ _ ?_ (fun hHeld => ?_)
  · exact HSB.out _ (((Below.refl _ w4).alloc (Nat.le_refl _) _).grown (grown_setRow_g _ _ _) (by simp) (fun q hq => by rw [← Option.some.inj hq]; exact Nat.le_refl _))
  clear hK K
  refine wpAnyH_done (by kernel_rfl) ?_ _
  simp only [Act.put]
  have hOB := setRow_heap (w4.alloc (.cells #[.int .i64 0, .int .i64 0, .int .i64 0] 45)) w4.heap.size #[.int .i64 0, .int .i64 0, .int .i64 0] #[.int .i64 8, .int .i64 num, .int .i64 N] 45 (0, 0) (heap_alloc_new w4 _)
  have B5 : Below w4.heap.size w4 ((w4.alloc (.cells #[.int .i64 0, .int .i64 0, .int .i64 0] 45)).setRow w4.heap.size #[.int .i64 8, .int .i64 num, .int .i64 N]) := ((Below.refl _ w4).alloc (Nat.le_refl _) _).grown (grown_setRow_g _ _ _) (by simp) (fun q hq => by rw [← Option.some.inj hq]; exact Nat.le_refl _)
  generalize (w4.alloc (.cells #[.int .i64 0, .int .i64 0, .int .i64 0] 45)).setRow w4.heap.size #[.int .i64 8, .int .i64 num, .int .i64 N] = w5 at *
  clear hHeld
  clear hHeld0
  obtain ⟨X5, HS6, HK6⟩ := HN.out w5 B5 hOB
  obtain ⟨x1, x2, x3, x4, x5, x6⟩ := X5
  have HKV : Hid (∀ (w7 : World) (ro7 : Nat → Option Nat), Kept (w5.setCell ⟨bT, off + i * 4 + 1, none⟩ (.int .i64 (p1 : Int))) w7 (fun b => ro b ≠ none) (fun b => ro7 b ≠ none) → w7.heap[w2.heap.size]? = some (.cells #[.int .i64 (i : Int), .int .i64 (T[i].pos : Int), .int .i64 0] 32 (0, 0)) ∧ w7.heap[w.heap.size]? = some (.cells #[.int .i64 0, .int .i64 0, .int .i64 0] 32 (0, 0)) ∧ ro7 w2.heap.size = none ∧ ro7 w.heap.size = none) := fun w7 ro7 k => by
    have l1 := lt_of_block x5
    have l2 := lt_of_block x6
    have hn : ∀ b, w.heap.size ≤ b → ¬ ro b ≠ none := fun b hb e => by
      have := HB.out b e
      omega
    have ho : ∀ b, w.heap.size ≤ b → b < _ → ro7 b = none := fun b hb hl => by
      cases h : ro7 b with
      | none => rfl
      | some x =>
        rcases k.old b (by rw [h]; simp) with h1 | h1
        · exact absurd h1 (hn b hb)
        · exact absurd hl (Nat.not_lt.2 h1)
    exact ⟨(k.kept _ l1 (hn _ hVR.1)).trans x5, (k.kept _ l2 (hn _ (Nat.le_refl _))).trans x6, ho _ hVR.1 l1, ho _ (Nat.le_refl _) l2⟩
  have o0 : (w5.setCell ⟨bT, off + i * 4 + 1, none⟩ (.int .i64 (p1 : Int))).cell? ⟨w4.heap.size, 0, none⟩ = some (.int .i64 8) := x3
  have o1 : (w5.setCell ⟨bT, off + i * 4 + 1, none⟩ (.int .i64 (p1 : Int))).cell? ⟨w4.heap.size, 1, none⟩ = some (.int .i64 num) := by simp only [World.cell?, x4]; rfl
  have o2 : (w5.setCell ⟨bT, off + i * 4 + 1, none⟩ (.int .i64 (p1 : Int))).cell? ⟨w4.heap.size, 2, none⟩ = some (.int .i64 N) := by simp only [World.cell?, x4]; rfl
  have HS7 : Hid _ := HS6
  have HK7 : Hid _ := HK6
  clear HS6 HK6 x4 x5 x6 o0
  go_wp2_with (first | (show wpList _ _ _ (⟨_, Op.store 32 _ _, _, _, _, _⟩ :: _) _ _; refine store_row_g rfl 32 _ _ rfl w.heap.size #[.int .i64 (i : Int), .int .i64 (T[i].pos : Int), .int .i64 ez] rfl rfl 32 #[.int .i64 0, .int .i64 0, .int .i64 0] HT6.out infoE rfl (by simp [Value.oneCell']) ?_; intro wE hE gE) | (go_at_call 38; refine (HCL.out _ HS7.out).mono ?_; rintro e w7 ⟨rfl, ro7, vL7, tv7, od7, h7', k7'⟩; have h7 : Hid _ := h7'; have k7 : Hid _ := k7'; clear h7' k7'; obtain ⟨v1, v2, v3, v4⟩ := HKV.out w7 ro7 k7.out; obtain ⟨t1, t2, t3, t4, t5, t6⟩ := TF.out w7 v1 v2 false ez; have z29 := h7.out.cell2 i hiT2; have hf9 : w7.frozen? ⟨bT, off + i * 4 + 2, none⟩ = false := h7.out.ts.at'.free _; have HT6 : Hid _ := t6; have HV7 : Hid _ := (⟨v3, v4⟩ : ro7 _ = none ∧ ro7 _ = none); clear t6 v1 v2 v3 v4))
  refine bodyPost_ret (results_ev Try.results14 _ _ w.heap.size _ rfl hE rfl) rfl ?_
  obtain ⟨k1, k2⟩ := h7.out.fin i hiT2 false (.int .i64 ez) w2.heap.size w.heap.size HV7.out.1 HV7.out.2 gE
  exact ⟨rfl, ro7, vL7, tv7, od7, k1, k2 w ro (HK7.out.trans k7.out) hVR.1 (Nat.le_refl _)⟩
end
end Go.Proofs.Ythhlglbohibekaa
namespace Go.Proofs.Ythhlglbohibekaa
open Go.RowKit

def grWt (o : Ob) (t : Int) : Ob := { o with l := gWL o.h o.l t }
section
variable {w w1 wE : World} {base D : Nat} {ro : Nat → Option Nat} {vT vL : Value} {tv : List Tv} {od : List Nat} {T : List Tk} {L : List (Int × Ob)}
set_option maxHeartbeats 6400000 in
set_option maxRecDepth 100000 in
theorem step_waitF (h : SkAt w base D ro vT vL tv od T L) (i : Nat) (hi : i < T.length) (hbl : T[i].bl = false) (hp : T[i].pos < T[i].ops.length) (hlo : T[i].ops.length ≤ 65536) (p1 : Nat) (hp1 : p1 = T[i].pos + 1) (num N : Int) (hop : T[i].ops[T[i].pos] = (6, num, N)) (hL : L.length < 65536) (hq : (obG L 2 num).l.length < 65536) (hiK : i ≤ 65536) (hgb : gWB (obG L 2 num).h (obG L 2 num).l (i : Int) = true) (hiT2 : i < (T.set i { T[i] with pos := p1 }).length) : Calls Try.prog 14 #[.pointer (some ⟨D, 0, none⟩), .int .i64 (i : Int)] w fun e w' => e = .returned (.tuple #[.agg #[.int .i64 (i : Int), .int .i64 (T[i].pos : Int), .int .i64 (gWZ (obG L 2 num).l (i : Int))], .int .i64 0]) ∧ ∃ ro' vL' tv' od', SkAt w' base D ro' vT vL' tv' od' ((T.set i { T[i] with pos := p1 }).set i { (T.set i { T[i] with pos := p1 })[i] with bl := false }) (obPut L 2 num (grWt (obG L 2 num) (i : Int))) ∧ Kept w w' (fun b => ro b ≠ none) (fun b => ro' b ≠ none) := by
  have hti : okI (i : Int) := by unfold okI; omega
  have hfd := field_ob2
  have B1 : Hid _ := (Below.refl _ w).alloc (Nat.le_refl _) (.cells #[.int .i64 0, .int .i64 0, .int .i64 0] 32)
  have R1 : Hid _ := heap_alloc_new w (.cells #[.int .i64 0, .int .i64 0, .int .i64 0] 32)
  have HS1 : Hid _ := h.fresh B1.out
  have HS0 : Hid _ := h
  have hDl := lt_of_block h.hd
  have hrd : rdB T (i : Int) = true := by
    unfold rdB tkR
    rw [Int.toNat_natCast, List.getElem?_eq_getElem hi]
    simp [hbl, hp]
  obtain ⟨bT, off, cap, bo, oo, co, ev, c0', z0', z1', y0', y1', y2', hbT, hbo, hfz'⟩ := h.opAt i hi hp
  rw [hop] at y0' y1' y2'
  have q6 : IntKind.i64.wrap ((T[i].pos : Int) + 1) = (p1 : Int) := by rw [IntKind.wrap_i64]; omega
  have hpl : (T[i].pos : Int) < (T[i].ops.length : Int) := by omega
  have HP1 : Hid _ := hp1
  clear h hbl hop hp1
  subst ev
  go_enter Try.func14, Try.ntmps14
  go_wp2_with (first
    | (show wpList _ _ _ (⟨_, Op.store 32 _ _, _, _, _, _⟩ :: _) _ _; refine store_row_g rfl 32 _ _ rfl w2.heap.size #[.int .i64 (i : Int), .int .i64 (T[i].pos : Int), .int .i64 0] rfl rfl 32 #[.int .i64 0, .int .i64 0, .int .i64 0] (heap_alloc_new w2 _) infoE rfl (by simp [Value.oneCell']) ?_; intro w3 hV3 g3)
    | (go_at_call 33; refine (sk_ready HS1.out (i : Int)).mono ?_; rw [hrd]; rintro e w2 ⟨rfl, b2⟩; have B2 : Below w.heap.size w w2 := bmm B1.out B1.out.size b2; have c0 := (B2.cell (p := ⟨D, 0, none⟩) (by exact hDl)).trans c0'; have z1 := (B2.cell (p := ⟨bT, off + i * 4 + 1, none⟩) (by exact hbT)).trans z1'))
  have hs2 := B2.size
  have hsb2 := b2.size
  have hR2 := (b2.block w.heap.size (by simp)).trans R1.out
  have hRl : w.heap.size < w2.heap.size := lt_of_block hR2
  have B3 : Below w.heap.size w w3.drew := ((B2.alloc hs2 _).grown g3 (by simp; omega) (fun q hq => by rw [← Option.some.inj hq]; exact hs2)).drew
  have hVl : w2.heap.size < w3.heap.size := lt_of_block hV3
  have hR3 : w3.drew.heap[w.heap.size]? = some (.cells #[.int .i64 0, .int .i64 0, .int .i64 0] 32 (0, 0)) := ((g3.block _ (by simp; omega) (fun e => by have := Option.some.inj e; omega)).trans (Below.heap_alloc w2 _ _ hRl)).trans hR2
  have hd3 : w3.drew.heap.size = w3.heap.size := rfl
  have hV3d : w3.drew.heap[w2.heap.size]? = some (.cells #[.int .i64 (i : Int), .int .i64 (T[i].pos : Int), .int .i64 0] 32 (0, 0)) := hV3
  have HSB : Hid (∀ w', Below w3.drew.heap.size w3.drew w' → (fun w' : World => w'.cell? ⟨bT, off + i * 4, none⟩ = some (.slice (some ⟨bo, oo, none⟩) T[i].ops.length co) ∧ w'.cell? ⟨bT, off + i * 4 + 1, none⟩ = some (.int .i64 (T[i].pos : Int)) ∧ w'.cell? ⟨bo, oo + T[i].pos * 3, none⟩ = some (.int .i64 6) ∧ w'.cell? ⟨bo, oo + T[i].pos * 3 + 1, none⟩ = some (.int .i64 num) ∧ w'.cell? ⟨bo, oo + T[i].pos * 3 + 2, none⟩ = some (.int .i64 N)) w') := fun w' b => by
    have b' : Below w.heap.size w w' := bmm B3 B3.size b
    exact ⟨(b'.cell (p := ⟨bT, off + i * 4, none⟩) (by exact hbT)).trans z0', (b'.cell (p := ⟨bT, off + i * 4 + 1, none⟩) (by exact hbT)).trans z1', (b'.cell (p := ⟨bo, oo + T[i].pos * 3, none⟩) (by exact hbo)).trans y0', (b'.cell (p := ⟨bo, oo + T[i].pos * 3 + 1, none⟩) (by exact hbo)).trans y1', (b'.cell (p := ⟨bo, oo + T[i].pos * 3 + 2, none⟩) (by exact hbo)).trans y2'⟩
  have HN : Hid (∀ w5 : World, Below w3.drew.heap.size w3.drew w5 → w5.heap[w3.drew.heap.size]? = some (.cells #[.int .i64 6, .int .i64 num, .int .i64 N] 45 (0, 0)) → (w5.cell? ⟨bT, off + i * 4 + 1, none⟩ = some (.int .i64 (T[i].pos : Int)) ∧ w5.frozen? ⟨bT, off + i * 4 + 1, none⟩ = false ∧ (w5.setCell ⟨bT, off + i * 4 + 1, none⟩ (.int .i64 (p1 : Int))).cell? ⟨w3.drew.heap.size, 0, none⟩ = some (.int .i64 6) ∧ (w5.setCell ⟨bT, off + i * 4 + 1, none⟩ (.int .i64 (p1 : Int))).heap[w3.drew.heap.size]? = some (.cells #[.int .i64 6, .int .i64 num, .int .i64 N] 45 (0, 0)) ∧ (w5.setCell ⟨bT, off + i * 4 + 1, none⟩ (.int .i64 (p1 : Int))).heap[w2.heap.size]? = some (.cells #[.int .i64 (i : Int), .int .i64 (T[i].pos : Int), .int .i64 0] 32 (0, 0)) ∧ (w5.setCell ⟨bT, off + i * 4 + 1, none⟩ (.int .i64 (p1 : Int))).heap[w.heap.size]? = some (.cells #[.int .i64 0, .int .i64 0, .int .i64 0] 32 (0, 0))) ∧ SkAt (w5.setCell ⟨bT, off + i * 4 + 1, none⟩ (.int .i64 (p1 : Int))) base D ro (.slice (some ⟨bT, off, none⟩) T.length cap) vL tv od (T.set i { T[i] with pos := p1 }) L ∧ Kept w (w5.setCell ⟨bT, off + i * 4 + 1, none⟩ (.int .i64 (p1 : Int))) (fun b => ro b ≠ none) (fun b => ro b ≠ none)) := fun w5 b5 hOB => by
    have b' : Below w.heap.size w w5 := bmm B3 B3.size b5
    have hs6 := HS0.out.fresh b'
    obtain ⟨k1, k2⟩ := hs6.setTask rfl i hi 1 { T[i] with pos := p1 } (.int .i64 (p1 : Int)) (Or.inl ⟨rfl, rfl, rfl⟩) rfl rfl
    have ho : ∀ c, c ≠ bT → (w5.setCell ⟨bT, off + i * 4 + 1, none⟩ (.int .i64 (p1 : Int))).heap[c]? = w5.heap[c]? := fun c hc => heap_setCell_other _ _ _ _ (by simpa using hc)
    refine ⟨⟨(b'.cell (p := ⟨bT, off + i * 4 + 1, none⟩) (by exact hbT)).trans z1', (b'.frozen (p := ⟨bT, off + i * 4 + 1, none⟩) (by exact hbT)).trans (hfz' _), ?_, (ho _ (by omega)).trans hOB, ?_, ?_⟩, k1, (Kept.of b').trans k2⟩
    · have := (ho w3.drew.heap.size (by omega)).trans hOB
      simp only [World.cell?, this]
      rfl
    · rw [ho _ (by omega), b5.block _ (by omega)]
      exact hV3d
    · rw [ho _ (by omega), b5.block _ (by omega)]
      exact hR3
  have hVR : w.heap.size ≤ w2.heap.size ∧ w.heap.size ≠ w2.heap.size ∧ w2.heap.size ≠ bT ∧ w.heap.size ≠ bT := ⟨hs2, by omega, by omega, by omega⟩
  have HB : Hid (∀ b, ro b ≠ none → b < w.heap.size) := fun b hb => (HS0.out.bd b hb).2
  clear B3 hV3d hR3 hd3 hVl hsb2 g3 hV3 z1 c0 z0' z1' y0' y1' y2' hR2 b2 B2 HS1 HS0 R1 B1
  have TF : Hid (∀ wK : World, wK.heap[w2.heap.size]? = some (.cells #[.int .i64 (i : Int), .int .i64 (T[i].pos : Int), .int .i64 0] 32 (0, 0)) → wK.heap[w.heap.size]? = some (.cells #[.int .i64 0, .int .i64 0, .int .i64 0] 32 (0, 0)) → ∀ (b : Bool) (e : Int), (wK.setCell ⟨bT, off + i * 4 + 2, none⟩ (.bool b)).cell? ⟨w2.heap.size, 2, none⟩ = some (.int .i64 0) ∧ (wK.setCell ⟨bT, off + i * 4 + 2, none⟩ (.bool b)).frozen? ⟨w2.heap.size, 2, none⟩ = false ∧ ((wK.setCell ⟨bT, off + i * 4 + 2, none⟩ (.bool b)).setCell ⟨w2.heap.size, 2, none⟩ (.int .i64 e)).cell? ⟨w2.heap.size, 0, none⟩ = some (.int .i64 (i : Int)) ∧ ((wK.setCell ⟨bT, off + i * 4 + 2, none⟩ (.bool b)).setCell ⟨w2.heap.size, 2, none⟩ (.int .i64 e)).cell? ⟨w2.heap.size, 1, none⟩ = some (.int .i64 (T[i].pos : Int)) ∧ ((wK.setCell ⟨bT, off + i * 4 + 2, none⟩ (.bool b)).setCell ⟨w2.heap.size, 2, none⟩ (.int .i64 e)).cell? ⟨w2.heap.size, 2, none⟩ = some (.int .i64 e) ∧ ((wK.setCell ⟨bT, off + i * 4 + 2, none⟩ (.bool b)).setCell ⟨w2.heap.size, 2, none⟩ (.int .i64 e)).heap[w.heap.size]? = some (.cells #[.int .i64 0, .int .i64 0, .int .i64 0] 32 (0, 0))) := fun wK h1 h2 b e => by
    have e1 : (wK.setCell ⟨bT, off + i * 4 + 2, none⟩ (.bool b)).heap[w2.heap.size]? = some (.cells #[.int .i64 (i : Int), .int .i64 (T[i].pos : Int), .int .i64 0] 32 (0, 0)) := (heap_setCell_other _ _ _ _ (by simpa using hVR.2.2.1)).trans h1
    have e2 : ((wK.setCell ⟨bT, off + i * 4 + 2, none⟩ (.bool b)).setCell ⟨w2.heap.size, 2, none⟩ (.int .i64 e)).heap[w2.heap.size]? = some (.cells #[.int .i64 (i : Int), .int .i64 (T[i].pos : Int), .int .i64 e] 32 (0, 0)) := by
      rw [heap_setCell_same _ w2.heap.size 2 _ _ _ e1]
      rfl
    refine ⟨by simp only [World.cell?, e1]; rfl, by simp only [World.frozen?, e1]; rfl, by simp only [World.cell?, e2]; rfl, by simp only [World.cell?, e2]; rfl, by simp only [World.cell?, e2]; rfl, ?_⟩
    rw [heap_setCell_other _ _ _ _ (by simpa using hVR.2.1), heap_setCell_other _ _ _ _ (by simpa using hVR.2.2.2)]
    exact h2
  refine wp_region_held_drew (S := (fun w' : World => w'.cell? ⟨bT, off + i * 4, none⟩ = some (.slice (some ⟨bo, oo, none⟩) T[i].ops.length co) ∧ w'.cell? ⟨bT, off + i * 4 + 1, none⟩ = some (.int .i64 (T[i].pos : Int)) ∧ w'.cell? ⟨bo, oo + T[i].pos * 3, none⟩ = some (.int .i64 6) ∧ w'.cell? ⟨bo, oo + T[i].pos * 3 + 1, none⟩ = some (.int .i64 num) ∧ w'.cell? ⟨bo, oo + T[i].pos * 3 + 2, none⟩ = some (.int .i64 N))) (by kernel_rfl) ?_ (fun hHeld0 => ?_)
  · exact HSB.out _ (Below.refl _ _)
  generalize w3.drew = w4 at *
  clear hHeld0
  have hHeld0 := HSB.out w4 (Below.refl _ _)
  refine tk0 (.pointer (some ⟨bT, off + i * 4, none⟩)) ?_ (fun w hSw => by (try dsimp only at hSw); obtain ⟨y0, y1, y2, y3, y4⟩ := hSw; go_simp)
  try simp only [Act.put, pu1, pu2, pu3]
  refine tk1 (.pointer (some ⟨bT, off + i * 4, none⟩)) ?_ (fun w hSw => by (try dsimp only at hSw); obtain ⟨y0, y1, y2, y3, y4⟩ := hSw; go_simp)
  try simp only [Act.put, pu1, pu2, pu3]
  refine tk2 (.pointer (some ⟨bT, off + i * 4, none⟩)) ?_ (fun w hSw => by (try dsimp only at hSw); obtain ⟨y0, y1, y2, y3, y4⟩ := hSw; go_simp)
  try simp only [Act.put, pu1, pu2, pu3]
  refine tk3 (.slice (some ⟨bo, oo, none⟩) T[i].ops.length co) ?_ (fun w hSw => by (try dsimp only at hSw); obtain ⟨y0, y1, y2, y3, y4⟩ := hSw; go_simp)
  try simp only [Act.put, pu1, pu2, pu3]
  refine tk4 (.pointer (some ⟨bT, off + i * 4, none⟩)) ?_ (fun w hSw => by (try dsimp only at hSw); obtain ⟨y0, y1, y2, y3, y4⟩ := hSw; go_simp)
  try simp only [Act.put, pu1, pu2, pu3]
  refine tk5 (.pointer (some ⟨bT, off + i * 4, none⟩)) ?_ (fun w hSw => by (try dsimp only at hSw); obtain ⟨y0, y1, y2, y3, y4⟩ := hSw; go_simp)
  try simp only [Act.put, pu1, pu2, pu3]
  refine tk6 (.pointer (some ⟨bT, off + i * 4 + 1, none⟩)) ?_ (fun w hSw => by (try dsimp only at hSw); obtain ⟨y0, y1, y2, y3, y4⟩ := hSw; go_simp)
  try simp only [Act.put, pu1, pu2, pu3]
  refine tk7 (.int .i64 (T[i].pos : Int)) ?_ (fun w hSw => by (try dsimp only at hSw); obtain ⟨y0, y1, y2, y3, y4⟩ := hSw; go_simp)
  try simp only [Act.put, pu1, pu2, pu3]
  refine tk8 (.pointer (some ⟨bo, oo + T[i].pos * 3, none⟩)) ?_ (fun w hSw => by (try dsimp only at hSw); obtain ⟨y0, y1, y2, y3, y4⟩ := hSw; go_simp)
  try simp only [Act.put, pu1, pu2, pu3]
  refine tk9 (.agg #[.int .i64 6, .int .i64 num, .int .i64 N]) ?_ (fun w hSw => by (try dsimp only at hSw); obtain ⟨y0, y1, y2, y3, y4⟩ := hSw; go_simp)
  try simp only [Act.put, pu1, pu2, pu3]
  refine cl10 (by kernel_rfl) rfl (fun K hK => ?_)
  go_simp
  refine hK.out _ _ ?_ (fun hHeld => ?_)
  · exact HSB.out _ ((Below.refl _ w4).alloc (Nat.le_refl _) _)
  clear hK K
  try simp only [Act.put, pu1, pu2, pu3]
  refine cl11 (by kernel_rfl) rfl (fun K hK => ?_)
  refine wp_store_row 45 (.tmp 8) (.tmp 41) rfl w4.heap.size #[.int .i64 6, .int .i64 num, .int .i64 N] rfl rfl 45 #[.int .i64 0, .int .i64 0, .int .i64 0] (heap_alloc_new w4 _) infoP rfl (by simp [Value.oneCell']) ?_
  refine hK.out _ _ ?_ (fun hHeld => ?_)
  · exact HSB.out _ (((Below.refl _ w4).alloc (Nat.le_refl _) _).grown (grown_setRow_g _ _ _) (by simp) (fun q hq => by rw [← Option.some.inj hq]; exact Nat.le_refl _))
  clear hK K
  refine wpAnyH_done (by kernel_rfl) ?_ _
  simp only [Act.put]
  have hOB := setRow_heap (w4.alloc (.cells #[.int .i64 0, .int .i64 0, .int .i64 0] 45)) w4.heap.size #[.int .i64 0, .int .i64 0, .int .i64 0] #[.int .i64 6, .int .i64 num, .int .i64 N] 45 (0, 0) (heap_alloc_new w4 _)
  have B5 : Below w4.heap.size w4 ((w4.alloc (.cells #[.int .i64 0, .int .i64 0, .int .i64 0] 45)).setRow w4.heap.size #[.int .i64 6, .int .i64 num, .int .i64 N]) := ((Below.refl _ w4).alloc (Nat.le_refl _) _).grown (grown_setRow_g _ _ _) (by simp) (fun q hq => by rw [← Option.some.inj hq]; exact Nat.le_refl _)
  generalize (w4.alloc (.cells #[.int .i64 0, .int .i64 0, .int .i64 0] 45)).setRow w4.heap.size #[.int .i64 6, .int .i64 num, .int .i64 N] = w5 at *
  clear hHeld
  clear hHeld0
  obtain ⟨X5, HS6, HK6⟩ := HN.out w5 B5 hOB
  obtain ⟨x1, x2, x3, x4, x5, x6⟩ := X5
  have HKV : Hid (∀ (w7 : World) (ro7 : Nat → Option Nat), Kept (w5.setCell ⟨bT, off + i * 4 + 1, none⟩ (.int .i64 (p1 : Int))) w7 (fun b => ro b ≠ none) (fun b => ro7 b ≠ none) → w7.heap[w2.heap.size]? = some (.cells #[.int .i64 (i : Int), .int .i64 (T[i].pos : Int), .int .i64 0] 32 (0, 0)) ∧ w7.heap[w.heap.size]? = some (.cells #[.int .i64 0, .int .i64 0, .int .i64 0] 32 (0, 0)) ∧ ro7 w2.heap.size = none ∧ ro7 w.heap.size = none) := fun w7 ro7 k => by
    have l1 := lt_of_block x5
    have l2 := lt_of_block x6
    have hn : ∀ b, w.heap.size ≤ b → ¬ ro b ≠ none := fun b hb e => by
      have := HB.out b e
      omega
    have ho : ∀ b, w.heap.size ≤ b → b < _ → ro7 b = none := fun b hb hl => by
      cases h : ro7 b with
      | none => rfl
      | some x =>
        rcases k.old b (by rw [h]; simp) with h1 | h1
        · exact absurd h1 (hn b hb)
        · exact absurd hl (Nat.not_lt.2 h1)
    exact ⟨(k.kept _ l1 (hn _ hVR.1)).trans x5, (k.kept _ l2 (hn _ (Nat.le_refl _))).trans x6, ho _ hVR.1 l1, ho _ (Nat.le_refl _) l2⟩
  have o0 : (w5.setCell ⟨bT, off + i * 4 + 1, none⟩ (.int .i64 (p1 : Int))).cell? ⟨w4.heap.size, 0, none⟩ = some (.int .i64 6) := x3
  have o1 : (w5.setCell ⟨bT, off + i * 4 + 1, none⟩ (.int .i64 (p1 : Int))).cell? ⟨w4.heap.size, 1, none⟩ = some (.int .i64 num) := by simp only [World.cell?, x4]; rfl
  have o2 : (w5.setCell ⟨bT, off + i * 4 + 1, none⟩ (.int .i64 (p1 : Int))).cell? ⟨w4.heap.size, 2, none⟩ = some (.int .i64 N) := by simp only [World.cell?, x4]; rfl
  have HS7 : Hid _ := HS6
  have HK7 : Hid _ := HK6
  clear HS6 HK6 x4 x5 x6 o0
  go_wp2_with (first | (show wpList _ _ _ (⟨_, Op.store 32 _ _, _, _, _, _⟩ :: _) _ _; refine store_row_g rfl 32 _ _ rfl w.heap.size #[.int .i64 (i : Int), .int .i64 (T[i].pos : Int), .int .i64 (gWZ (obG L 2 num).l (i : Int))] rfl rfl 32 #[.int .i64 0, .int .i64 0, .int .i64 0] HT6.out infoE rfl (by simp [Value.oneCell']) ?_; intro wE hE gE) | (go_at_call 37; refine (gr_wait hm7.1 (i : Int) hti hq).mono ?_; rw [hgb]; rintro e w8 ⟨rfl, S8, g8, j8⟩; obtain ⟨ro8, hs8', kk8', _⟩ := h7.out.did hd.out (o := grWt (obG L 2 num) (i : Int)) (obG_at L 2 num).2 (ObAt.ofGr (obG_at L 2 num).2 g8 hm7.2) j8; have h8 : Hid _ := hs8'; have k8 : Hid _ := k7.out.trans kk8'; clear hs8' kk8' g8 j8 hm7; obtain ⟨v1, v2, v3, v4⟩ := HKV.out w8 ro8 k8.out; obtain ⟨t1, t2, t3, t4, t5, t6⟩ := TF.out w8 v1 v2 false (gWZ (obG L 2 num).l (i : Int)); have z29 := h8.out.cell2 i hiT2; have hf9 : w8.frozen? ⟨bT, off + i * 4 + 2, none⟩ = false := h8.out.ts.at'.free _; have HT6 : Hid _ := t6; have HV7 : Hid _ := (⟨v3, v4⟩ : ro8 _ = none ∧ ro8 _ = none); clear t6 v1 v2 v3 v4) | (go_at_call 34; refine (sk_obj2 HS7.out num hL).mono ?_; rintro e w7 ⟨ro7, vL7, od7, d, rfl, hd', h7', k7'⟩; have hd : Hid _ := hd'; have h7 : Hid _ := h7'; have k7 : Hid _ := k7'; clear hd' h7' k7'; have hm7 := (h7.out.obj hd.out).gr (obG_at L 2 num).2))
  refine bodyPost_ret (results_ev Try.results14 _ _ w.heap.size _ rfl hE rfl) rfl ?_
  obtain ⟨k1, k2⟩ := h8.out.fin i hiT2 false (.int .i64 (gWZ (obG L 2 num).l (i : Int))) w2.heap.size w.heap.size HV7.out.1 HV7.out.2 gE
  exact ⟨rfl, ro8, vL7, tv, od7, k1, k2 w ro (HK7.out.trans k8.out) hVR.1 (Nat.le_refl _)⟩
set_option maxHeartbeats 6400000 in
set_option maxRecDepth 100000 in
theorem step_waitT (h : SkAt w base D ro vT vL tv od T L) (i : Nat) (hi : i < T.length) (hbl : T[i].bl = false) (hp : T[i].pos < T[i].ops.length) (hlo : T[i].ops.length ≤ 65536) (p1 : Nat) (hp1 : p1 = T[i].pos + 1) (num N : Int) (hop : T[i].ops[T[i].pos] = (6, num, N)) (hL : L.length < 65536) (hq : (obG L 2 num).l.length < 65536) (hiK : i ≤ 65536) (hgb : gWB (obG L 2 num).h (obG L 2 num).l (i : Int) = false) (hiT2 : i < (T.set i { T[i] with pos := p1 }).length) : Calls Try.prog 14 #[.pointer (some ⟨D, 0, none⟩), .int .i64 (i : Int)] w fun e w' => e = .returned (.tuple #[.agg #[.int .i64 (i : Int), .int .i64 (T[i].pos : Int), .int .i64 (gWZ (obG L 2 num).l (i : Int))], .int .i64 0]) ∧ ∃ ro' vL' tv' od', SkAt w' base D ro' vT vL' tv' od' ((T.set i { T[i] with pos := p1 }).set i { (T.set i { T[i] with pos := p1 })[i] with bl := (gWZ (obG L 2 num).l (i : Int) == 0) }) (obPut L 2 num (grWt (obG L 2 num) (i : Int))) ∧ Kept w w' (fun b => ro b ≠ none) (fun b => ro' b ≠ none) := by
  have hti : okI (i : Int) := by unfold okI; omega
  have hfd := field_ob2
  have B1 : Hid _ := (Below.refl _ w).alloc (Nat.le_refl _) (.cells #[.int .i64 0, .int .i64 0, .int .i64 0] 32)
  have R1 : Hid _ := heap_alloc_new w (.cells #[.int .i64 0, .int .i64 0, .int .i64 0] 32)
  have HS1 : Hid _ := h.fresh B1.out
  have HS0 : Hid _ := h
  have hDl := lt_of_block h.hd
  have hrd : rdB T (i : Int) = true := by
    unfold rdB tkR
    rw [Int.toNat_natCast, List.getElem?_eq_getElem hi]
    simp [hbl, hp]
  obtain ⟨bT, off, cap, bo, oo, co, ev, c0', z0', z1', y0', y1', y2', hbT, hbo, hfz'⟩ := h.opAt i hi hp
  rw [hop] at y0' y1' y2'
  have q6 : IntKind.i64.wrap ((T[i].pos : Int) + 1) = (p1 : Int) := by rw [IntKind.wrap_i64]; omega
  have hpl : (T[i].pos : Int) < (T[i].ops.length : Int) := by omega
  have HP1 : Hid _ := hp1
  clear h hbl hop hp1
  subst ev
  go_enter Try.func14, Try.ntmps14
  go_wp2_with (first
    | (show wpList _ _ _ (⟨_, Op.store 32 _ _, _, _, _, _⟩ :: _) _ _; refine store_row_g rfl 32 _ _ rfl w2.heap.size #[.int .i64 (i : Int), .int .i64 (T[i].pos : Int), .int .i64 0] rfl rfl 32 #[.int .i64 0, .int .i64 0, .int .i64 0] (heap_alloc_new w2 _) infoE rfl (by simp [Value.oneCell']) ?_; intro w3 hV3 g3)
    | (go_at_call 33; refine (sk_ready HS1.out (i : Int)).mono ?_; rw [hrd]; rintro e w2 ⟨rfl, b2⟩; have B2 : Below w.heap.size w w2 := bmm B1.out B1.out.size b2; have c0 := (B2.cell (p := ⟨D, 0, none⟩) (by exact hDl)).trans c0'; have z1 := (B2.cell (p := ⟨bT, off + i * 4 + 1, none⟩) (by exact hbT)).trans z1'))
  have hs2 := B2.size
  have hsb2 := b2.size
  have hR2 := (b2.block w.heap.size (by simp)).trans R1.out
  have hRl : w.heap.size < w2.heap.size := lt_of_block hR2
  have B3 : Below w.heap.size w w3.drew := ((B2.alloc hs2 _).grown g3 (by simp; omega) (fun q hq => by rw [← Option.some.inj hq]; exact hs2)).drew
  have hVl : w2.heap.size < w3.heap.size := lt_of_block hV3
  have hR3 : w3.drew.heap[w.heap.size]? = some (.cells #[.int .i64 0, .int .i64 0, .int .i64 0] 32 (0, 0)) := ((g3.block _ (by simp; omega) (fun e => by have := Option.some.inj e; omega)).trans (Below.heap_alloc w2 _ _ hRl)).trans hR2
  have hd3 : w3.drew.heap.size = w3.heap.size := rfl
  have hV3d : w3.drew.heap[w2.heap.size]? = some (.cells #[.int .i64 (i : Int), .int .i64 (T[i].pos : Int), .int .i64 0] 32 (0, 0)) := hV3
  have HSB : Hid (∀ w', Below w3.drew.heap.size w3.drew w' → (fun w' : World => w'.cell? ⟨bT, off + i * 4, none⟩ = some (.slice (some ⟨bo, oo, none⟩) T[i].ops.length co) ∧ w'.cell? ⟨bT, off + i * 4 + 1, none⟩ = some (.int .i64 (T[i].pos : Int)) ∧ w'.cell? ⟨bo, oo + T[i].pos * 3, none⟩ = some (.int .i64 6) ∧ w'.cell? ⟨bo, oo + T[i].pos * 3 + 1, none⟩ = some (.int .i64 num) ∧ w'.cell? ⟨bo, oo + T[i].pos * 3 + 2, none⟩ = some (.int .i64 N)) w') := fun w' b => by
    have b' : Below w.heap.size w w' := bmm B3 B3.size b
    exact ⟨(b'.cell (p := ⟨bT, off + i * 4, none⟩) (by exact hbT)).trans z0', (b'.cell (p := ⟨bT, off + i * 4 + 1, none⟩) (by exact hbT)).trans z1', (b'.cell (p := ⟨bo, oo + T[i].pos * 3, none⟩) (by exact hbo)).trans y0', (b'.cell (p := ⟨bo, oo + T[i].pos * 3 + 1, none⟩) (by exact hbo)).trans y1', (b'.cell (p := ⟨bo, oo + T[i].pos * 3 + 2, none⟩) (by exact hbo)).trans y2'⟩
  have HN : Hid (∀ w5 : World, Below w3.drew.heap.size w3.drew w5 → w5.heap[w3.drew.heap.size]? = some (.cells #[.int .i64 6, .int .i64 num, .int .i64 N] 45 (0, 0)) → (w5.cell? ⟨bT, off + i * 4 + 1, none⟩ = some (.int .i64 (T[i].pos : Int)) ∧ w5.frozen? ⟨bT, off + i * 4 + 1, none⟩ = false ∧ (w5.setCell ⟨bT, off + i * 4 + 1, none⟩ (.int .i64 (p1 : Int))).cell? ⟨w3.drew.heap.size, 0, none⟩ = some (.int .i64 6) ∧ (w5.setCell ⟨bT, off + i * 4 + 1, none⟩ (.int .i64 (p1 : Int))).heap[w3.drew.heap.size]? = some (.cells #[.int .i64 6, .int .i64 num, .int .i64 N] 45 (0, 0)) ∧ (w5.setCell ⟨bT, off + i * 4 + 1, none⟩ (.int .i64 (p1 : Int))).heap[w2.heap.size]? = some (.cells #[.int .i64 (i : Int), .int .i64 (T[i].pos : Int), .int .i64 0] 32 (0, 0)) ∧ (w5.setCell ⟨bT, off + i * 4 + 1, none⟩ (.int .i64 (p1 : Int))).heap[w.heap.size]? = some (.cells #[.int .i64 0, .int .i64 0, .int .i64 0] 32 (0, 0))) ∧ SkAt (w5.setCell ⟨bT, off + i * 4 + 1, none⟩ (.int .i64 (p1 : Int))) base D ro (.slice (some ⟨bT, off, none⟩) T.length cap) vL tv od (T.set i { T[i] with pos := p1 }) L ∧ Kept w (w5.setCell ⟨bT, off + i * 4 + 1, none⟩ (.int .i64 (p1 : Int))) (fun b => ro b ≠ none) (fun b => ro b ≠ none)) := fun w5 b5 hOB => by
    have b' : Below w.heap.size w w5 := bmm B3 B3.size b5
    have hs6 := HS0.out.fresh b'
    obtain ⟨k1, k2⟩ := hs6.setTask rfl i hi 1 { T[i] with pos := p1 } (.int .i64 (p1 : Int)) (Or.inl ⟨rfl, rfl, rfl⟩) rfl rfl
    have ho : ∀ c, c ≠ bT → (w5.setCell ⟨bT, off + i * 4 + 1, none⟩ (.int .i64 (p1 : Int))).heap[c]? = w5.heap[c]? := fun c hc => heap_setCell_other _ _ _ _ (by simpa using hc)
    refine ⟨⟨(b'.cell (p := ⟨bT, off + i * 4 + 1, none⟩) (by exact hbT)).trans z1', (b'.frozen (p := ⟨bT, off + i * 4 + 1, none⟩) (by exact hbT)).trans (hfz' _), ?_, (ho _ (by omega)).trans hOB, ?_, ?_⟩, k1, (Kept.of b').trans k2⟩
    · have := (ho w3.drew.heap.size (by omega)).trans hOB
      simp only [World.cell?, this]
      rfl
    · rw [ho _ (by omega), b5.block _ (by omega)]
      exact hV3d
    · rw [ho _ (by omega), b5.block _ (by omega)]
      exact hR3
  have hVR : w.heap.size ≤ w2.heap.size ∧ w.heap.size ≠ w2.heap.size ∧ w2.heap.size ≠ bT ∧ w.heap.size ≠ bT := ⟨hs2, by omega, by omega, by omega⟩
  have HB : Hid (∀ b, ro b ≠ none → b < w.heap.size) := fun b hb => (HS0.out.bd b hb).2
  clear B3 hV3d hR3 hd3 hVl hsb2 g3 hV3 z1 c0 z0' z1' y0' y1' y2' hR2 b2 B2 HS1 HS0 R1 B1
  have TF : Hid (∀ wK : World, wK.heap[w2.heap.size]? = some (.cells #[.int .i64 (i : Int), .int .i64 (T[i].pos : Int), .int .i64 0] 32 (0, 0)) → wK.heap[w.heap.size]? = some (.cells #[.int .i64 0, .int .i64 0, .int .i64 0] 32 (0, 0)) → ∀ (b : Bool) (e : Int), (wK.setCell ⟨bT, off + i * 4 + 2, none⟩ (.bool b)).cell? ⟨w2.heap.size, 2, none⟩ = some (.int .i64 0) ∧ (wK.setCell ⟨bT, off + i * 4 + 2, none⟩ (.bool b)).frozen? ⟨w2.heap.size, 2, none⟩ = false ∧ ((wK.setCell ⟨bT, off + i * 4 + 2, none⟩ (.bool b)).setCell ⟨w2.heap.size, 2, none⟩ (.int .i64 e)).cell? ⟨w2.heap.size, 0, none⟩ = some (.int .i64 (i : Int)) ∧ ((wK.setCell ⟨bT, off + i * 4 + 2, none⟩ (.bool b)).setCell ⟨w2.heap.size, 2, none⟩ (.int .i64 e)).cell? ⟨w2.heap.size, 1, none⟩ = some (.int .i64 (T[i].pos : Int)) ∧ ((wK.setCell ⟨bT, off + i * 4 + 2, none⟩ (.bool b)).setCell ⟨w2.heap.size, 2, none⟩ (.int .i64 e)).cell? ⟨w2.heap.size, 2, none⟩ = some (.int .i64 e) ∧ ((wK.setCell ⟨bT, off + i * 4 + 2, none⟩ (.bool b)).setCell ⟨w2.heap.size, 2, none⟩ (.int .i64 e)).heap[w.heap.size]? = some (.cells #[.int .i64 0, .int .i64 0, .int .i64 0] 32 (0, 0))) := fun wK h1 h2 b e => by
    have e1 : (wK.setCell ⟨bT, off + i * 4 + 2, none⟩ (.bool b)).heap[w2.heap.size]? = some (.cells #[.int .i64 (i : Int), .int .i64 (T[i].pos : Int), .int .i64 0] 32 (0, 0)) := (heap_setCell_other _ _ _ _ (by simpa using hVR.2.2.1)).trans h1
    have e2 : ((wK.setCell ⟨bT, off + i * 4 + 2, none⟩ (.bool b)).setCell ⟨w2.heap.size, 2, none⟩ (.int .i64 e)).heap[w2.heap.size]? = some (.cells #[.int .i64 (i : Int), .int .i64 (T[i].pos : Int), .int .i64 e] 32 (0, 0)) := by
      rw [heap_setCell_same _ w2.heap.size 2 _ _ _ e1]
      rfl
    refine ⟨by simp only [World.cell?, e1]; rfl, by simp only [World.frozen?, e1]; rfl, by simp only [World.cell?, e2]; rfl, by simp only [World.cell?, e2]; rfl, by simp only [World.cell?, e2]; rfl, ?_⟩
    rw [heap_setCell_other _ _ _ _ (by simpa using hVR.2.1), heap_setCell_other _ _ _ _ (by simpa using hVR.2.2.2)]
    exact h2
  refine wp_region_held_drew (S := (fun w' : World => w'.cell? ⟨bT, off + i * 4, none⟩ = some (.slice (some ⟨bo, oo, none⟩) T[i].ops.length co) ∧ w'.cell? ⟨bT, off + i * 4 + 1, none⟩ = some (.int .i64 (T[i].pos : Int)) ∧ w'.cell? ⟨bo, oo + T[i].pos * 3, none⟩ = some (.int .i64 6) ∧ w'.cell? ⟨bo, oo + T[i].pos * 3 + 1, none⟩ = some (.int .i64 num) ∧ w'.cell? ⟨bo, oo + T[i].pos * 3 + 2, none⟩ = some (.int .i64 N))) (by kernel_rfl) ?_ (fun hHeld0 => ?_)
  · exact HSB.out _ (Below.refl _ _)
  generalize w3.drew = w4 at *
  clear hHeld0
  have hHeld0 := HSB.out w4 (Below.refl _ _)
  refine tk0 (.pointer (some ⟨bT, off + i * 4, none⟩)) ?_ (fun w hSw => by (try dsimp only at hSw); obtain ⟨y0, y1, y2, y3, y4⟩ := hSw; go_simp)
  try simp only [Act.put, pu1, pu2, pu3]
  refine tk1 (.pointer (some ⟨bT, off + i * 4, none⟩)) ?_ (fun w hSw => by (try dsimp only at hSw); obtain ⟨y0, y1, y2, y3, y4⟩ := hSw; go_simp)
  try simp only [Act.put, pu1, pu2, pu3]
  refine tk2 (.pointer (some ⟨bT, off + i * 4, none⟩)) ?_ (fun w hSw => by (try dsimp only at hSw); obtain ⟨y0, y1, y2, y3, y4⟩ := hSw; go_simp)
  try simp only [Act.put, pu1, pu2, pu3]
  refine tk3 (.slice (some ⟨bo, oo, none⟩) T[i].ops.length co) ?_ (fun w hSw => by (try dsimp only at hSw); obtain ⟨y0, y1, y2, y3, y4⟩ := hSw; go_simp)
  try simp only [Act.put, pu1, pu2, pu3]
  refine tk4 (.pointer (some ⟨bT, off + i * 4, none⟩)) ?_ (fun w hSw => by (try dsimp only at hSw); obtain ⟨y0, y1, y2, y3, y4⟩ := hSw; go_simp)
  try simp only [Act.put, pu1, pu2, pu3]
  refine tk5 (.pointer (some ⟨bT, off + i * 4, none⟩)) ?_ (fun w hSw => by (try dsimp only at hSw); obtain ⟨y0, y1, y2, y3, y4⟩ := hSw; go_simp)
  try simp only [Act.put, pu1, pu2, pu3]
  refine tk6 (.pointer (some ⟨bT, off + i * 4 + 1, none⟩)) ?_ (fun w hSw => by (try dsimp only at hSw); obtain ⟨y0, y1, y2, y3, y4⟩ := hSw; go_simp)
  try simp only [Act.put, pu1, pu2, pu3]
  refine tk7 (.int .i64 (T[i].pos : Int)) ?_ (fun w hSw => by (try dsimp only at hSw); obtain ⟨y0, y1, y2, y3, y4⟩ := hSw; go_simp)
  try simp only [Act.put, pu1, pu2, pu3]
  refine tk8 (.pointer (some ⟨bo, oo + T[i].pos * 3, none⟩)) ?_ (fun w hSw => by (try dsimp only at hSw); obtain ⟨y0, y1, y2, y3, y4⟩ := hSw; go_simp)
  try simp only [Act.put, pu1, pu2, pu3]
  refine tk9 (.agg #[.int .i64 6, .int .i64 num, .int .i64 N]) ?_ (fun w hSw => by (try dsimp only at hSw); obtain ⟨y0, y1, y2, y3, y4⟩ := hSw; go_simp)
  try simp only [Act.put, pu1, pu2, pu3]
  refine cl10 (by kernel_rfl) rfl (fun K hK => ?_)
  go_simp
  refine hK.out _ _ ?_ (fun hHeld => ?_)
  · exact HSB.out _ ((Below.refl _ w4).alloc (Nat.le_refl _) _)
  clear hK K
  try simp only [Act.put, pu1, pu2, pu3]
  refine cl11 (by kernel_rfl) rfl (fun K hK => ?_)
  refine wp_store_row 45 (.tmp 8) (.tmp 41) rfl w4.heap.size #[.int .i64 6, .int .i64 num, .int .i64 N] rfl rfl 45 #[.int .i64 0, .int .i64 0, .int .i64 0] (heap_alloc_new w4 _) infoP rfl (by simp [Value.oneCell']) ?_
  refine hK.out _ _ ?_ (fun hHeld => ?_)
  · exact HSB.out _ (((Below.refl _ w4).alloc (Nat.le_refl _) _).grown (grown_setRow_g _ _ _) (by simp) (fun q hq => by rw [← Option.some.inj hq]; exact Nat.le_refl _))
  clear hK K
  refine wpAnyH_done (by kernel_rfl) ?_ _
  simp only [Act.put]
  have hOB := setRow_heap (w4.alloc (.cells #[.int .i64 0, .int .i64 0, .int .i64 0] 45)) w4.heap.size #[.int .i64 0, .int .i64 0, .int .i64 0] #[.int .i64 6, .int .i64 num, .int .i64 N] 45 (0, 0) (heap_alloc_new w4 _)
  have B5 : Below w4.heap.size w4 ((w4.alloc (.cells #[.int .i64 0, .int .i64 0, .int .i64 0] 45)).setRow w4.heap.size #[.int .i64 6, .int .i64 num, .int .i64 N]) := ((Below.refl _ w4).alloc (Nat.le_refl _) _).grown (grown_setRow_g _ _ _) (by simp) (fun q hq => by rw [← Option.some.inj hq]; exact Nat.le_refl _)
  generalize (w4.alloc (.cells #[.int .i64 0, .int .i64 0, .int .i64 0] 45)).setRow w4.heap.size #[.int .i64 6, .int .i64 num, .int .i64 N] = w5 at *
  clear hHeld
  clear hHeld0
  obtain ⟨X5, HS6, HK6⟩ := HN.out w5 B5 hOB
  obtain ⟨x1, x2, x3, x4, x5, x6⟩ := X5
  have HKV : Hid (∀ (w7 : World) (ro7 : Nat → Option Nat), Kept (w5.setCell ⟨bT, off + i * 4 + 1, none⟩ (.int .i64 (p1 : Int))) w7 (fun b => ro b ≠ none) (fun b => ro7 b ≠ none) → w7.heap[w2.heap.size]? = some (.cells #[.int .i64 (i : Int), .int .i64 (T[i].pos : Int), .int .i64 0] 32 (0, 0)) ∧ w7.heap[w.heap.size]? = some (.cells #[.int .i64 0, .int .i64 0, .int .i64 0] 32 (0, 0)) ∧ ro7 w2.heap.size = none ∧ ro7 w.heap.size = none) := fun w7 ro7 k => by
    have l1 := lt_of_block x5
    have l2 := lt_of_block x6
    have hn : ∀ b, w.heap.size ≤ b → ¬ ro b ≠ none := fun b hb e => by
      have := HB.out b e
      omega
    have ho : ∀ b, w.heap.size ≤ b → b < _ → ro7 b = none := fun b hb hl => by
      cases h : ro7 b with
      | none => rfl
      | some x =>
        rcases k.old b (by rw [h]; simp) with h1 | h1
        · exact absurd h1 (hn b hb)
        · exact absurd hl (Nat.not_lt.2 h1)
    exact ⟨(k.kept _ l1 (hn _ hVR.1)).trans x5, (k.kept _ l2 (hn _ (Nat.le_refl _))).trans x6, ho _ hVR.1 l1, ho _ (Nat.le_refl _) l2⟩
  have o0 : (w5.setCell ⟨bT, off + i * 4 + 1, none⟩ (.int .i64 (p1 : Int))).cell? ⟨w4.heap.size, 0, none⟩ = some (.int .i64 6) := x3
  have o1 : (w5.setCell ⟨bT, off + i * 4 + 1, none⟩ (.int .i64 (p1 : Int))).cell? ⟨w4.heap.size, 1, none⟩ = some (.int .i64 num) := by simp only [World.cell?, x4]; rfl
  have o2 : (w5.setCell ⟨bT, off + i * 4 + 1, none⟩ (.int .i64 (p1 : Int))).cell? ⟨w4.heap.size, 2, none⟩ = some (.int .i64 N) := by simp only [World.cell?, x4]; rfl
  have HS7 : Hid _ := HS6
  have HK7 : Hid _ := HK6
  clear HS6 HK6 x4 x5 x6 o0
  go_wp2_with (first | (show wpList _ _ _ (⟨_, Op.store 32 _ _, _, _, _, _⟩ :: _) _ _; refine store_row_g rfl 32 _ _ rfl w.heap.size #[.int .i64 (i : Int), .int .i64 (T[i].pos : Int), .int .i64 (gWZ (obG L 2 num).l (i : Int))] rfl rfl 32 #[.int .i64 0, .int .i64 0, .int .i64 0] HT6.out infoE rfl (by simp [Value.oneCell']) ?_; intro wE hE gE) | (go_at_call 37; refine (gr_wait hm7.1 (i : Int) hti hq).mono ?_; rw [hgb]; rintro e w8 ⟨rfl, S8, g8, j8⟩; obtain ⟨ro8, hs8', kk8', _⟩ := h7.out.did hd.out (o := grWt (obG L 2 num) (i : Int)) (obG_at L 2 num).2 (ObAt.ofGr (obG_at L 2 num).2 g8 hm7.2) j8; have h8 : Hid _ := hs8'; have k8 : Hid _ := k7.out.trans kk8'; clear hs8' kk8' g8 j8 hm7; obtain ⟨v1, v2, v3, v4⟩ := HKV.out w8 ro8 k8.out; obtain ⟨t1, t2, t3, t4, t5, t6⟩ := TF.out w8 v1 v2 (gWZ (obG L 2 num).l (i : Int) == 0) (gWZ (obG L 2 num).l (i : Int)); have z29 := h8.out.cell2 i hiT2; have hf9 : w8.frozen? ⟨bT, off + i * 4 + 2, none⟩ = false := h8.out.ts.at'.free _; have HT6 : Hid _ := t6; have HV7 : Hid _ := (⟨v3, v4⟩ : ro8 _ = none ∧ ro8 _ = none); clear t6 v1 v2 v3 v4) | (go_at_call 34; refine (sk_obj2 HS7.out num hL).mono ?_; rintro e w7 ⟨ro7, vL7, od7, d, rfl, hd', h7', k7'⟩; have hd : Hid _ := hd'; have h7 : Hid _ := h7'; have k7 : Hid _ := k7'; clear hd' h7' k7'; have hm7 := (h7.out.obj hd.out).gr (obG_at L 2 num).2))
  refine bodyPost_ret (results_ev Try.results14 _ _ w.heap.size _ rfl hE rfl) rfl ?_
  obtain ⟨k1, k2⟩ := h8.out.fin i hiT2 (gWZ (obG L 2 num).l (i : Int) == 0) (.int .i64 (gWZ (obG L 2 num).l (i : Int))) w2.heap.size w.heap.size HV7.out.1 HV7.out.2 gE
  exact ⟨rfl, ro8, vL7, tv, od7, k1, k2 w ro (HK7.out.trans k8.out) hVR.1 (Nat.le_refl _)⟩
end
end Go.Proofs.Ythhlglbohibekaa
namespace Go.Proofs.Ythhlglbohibekaa
open Go.RowKit

def grAd (o : Ob) (k : Int) : Ob := { o with h := gAN o.h k, l := gAL o.h o.l k }
theorem gAN_ok {n : Int} (h : 0 ≤ n ∧ n ≤ 1073741824) (k : Int) : 0 ≤ gAN n k ∧ gAN n k ≤ 1073741824 := by
  unfold gAN
  split
  · rename_i e
    unfold gAZ at e
    split at e
    · exact absurd e (by decide)
    · split at e
      · exact absurd e (by decide)
      · omega
  · exact h
section
variable {w w1 wE : World} {base D : Nat} {ro : Nat → Option Nat} {vT vL : Value} {tv : List Tv} {od : List Nat} {T : List Tk} {L : List (Int × Ob)}
set_option maxHeartbeats 6400000 in
set_option maxRecDepth 100000 in
theorem step_add (h : SkAt w base D ro vT vL tv od T L) (i : Nat) (hi : i < T.length) (hbl : T[i].bl = false) (hp : T[i].pos < T[i].ops.length) (hlo : T[i].ops.length ≤ 65536) (p1 : Nat) (hp1 : p1 = T[i].pos + 1) (num N : Int) (hop : T[i].ops[T[i].pos] = (5, num, N)) (hL : L.length < 65536) (hw : (gAO (obG L 2 num).h (obG L 2 num).l N).length ≤ 65536 ∧ ∀ x ∈ (gAO (obG L 2 num).h (obG L 2 num).l N), 0 ≤ x ∧ x < (T.length : Int)) (hiT2 : i < (wakeT (T.set i { T[i] with pos := p1 }) (gAO (obG L 2 num).h (obG L 2 num).l N)).length) : Calls Try.prog 14 #[.pointer (some ⟨D, 0, none⟩), .int .i64 (i : Int)] w fun e w' => e = .returned (.tuple #[.agg #[.int .i64 (i : Int), .int .i64 (T[i].pos : Int), .int .i64 (gAZ (obG L 2 num).h N)], .int .i64 0]) ∧ ∃ ro' vL' tv' od', SkAt w' base D ro' vT vL' tv' od' ((wakeT (T.set i { T[i] with pos := p1 }) (gAO (obG L 2 num).h (obG L 2 num).l N)).set i { (wakeT (T.set i { T[i] with pos := p1 }) (gAO (obG L 2 num).h (obG L 2 num).l N))[i] with bl := false }) (obPut L 2 num (grAd (obG L 2 num) N)) ∧ Kept w w' (fun b => ro b ≠ none) (fun b => ro' b ≠ none) := by
  have hfd := field_ob2
  have hW : Hid _ := hw
  clear hw
  have B1 : Hid _ := (Below.refl _ w).alloc (Nat.le_refl _) (.cells #[.int .i64 0, .int .i64 0, .int .i64 0] 32)
  have R1 : Hid _ := heap_alloc_new w (.cells #[.int .i64 0, .int .i64 0, .int .i64 0] 32)
  have HS1 : Hid _ := h.fresh B1.out
  have HS0 : Hid _ := h
  have hDl := lt_of_block h.hd
  have hrd : rdB T (i : Int) = true := by
    unfold rdB tkR
    rw [Int.toNat_natCast, List.getElem?_eq_getElem hi]
    simp [hbl, hp]
  obtain ⟨bT, off, cap, bo, oo, co, ev, c0', z0', z1', y0', y1', y2', hbT, hbo, hfz'⟩ := h.opAt i hi hp
  rw [hop] at y0' y1' y2'
  have q6 : IntKind.i64.wrap ((T[i].pos : Int) + 1) = (p1 : Int) := by rw [IntKind.wrap_i64]; omega
  have hpl : (T[i].pos : Int) < (T[i].ops.length : Int) := by omega
  have HP1 : Hid _ := hp1
  clear h hbl hop hp1
  subst ev
  go_enter Try.func14, Try.ntmps14
  go_wp2_with (first
    | (show wpList _ _ _ (⟨_, Op.store 32 _ _, _, _, _, _⟩ :: _) _ _; refine store_row_g rfl 32 _ _ rfl w2.heap.size #[.int .i64 (i : Int), .int .i64 (T[i].pos : Int), .int .i64 0] rfl rfl 32 #[.int .i64 0, .int .i64 0, .int .i64 0] (heap_alloc_new w2 _) infoE rfl (by simp [Value.oneCell']) ?_; intro w3 hV3 g3)
    | (go_at_call 33; refine (sk_ready HS1.out (i : Int)).mono ?_; rw [hrd]; rintro e w2 ⟨rfl, b2⟩; have B2 : Below w.heap.size w w2 := bmm B1.out B1.out.size b2; have c0 := (B2.cell (p := ⟨D, 0, none⟩) (by exact hDl)).trans c0'; have z1 := (B2.cell (p := ⟨bT, off + i * 4 + 1, none⟩) (by exact hbT)).trans z1'))
  have hs2 := B2.size
  have hsb2 := b2.size
  have hR2 := (b2.block w.heap.size (by simp)).trans R1.out
  have hRl : w.heap.size < w2.heap.size := lt_of_block hR2
  have B3 : Below w.heap.size w w3.drew := ((B2.alloc hs2 _).grown g3 (by simp; omega) (fun q hq => by rw [← Option.some.inj hq]; exact hs2)).drew
  have hVl : w2.heap.size < w3.heap.size := lt_of_block hV3
  have hR3 : w3.drew.heap[w.heap.size]? = some (.cells #[.int .i64 0, .int .i64 0, .int .i64 0] 32 (0, 0)) := ((g3.block _ (by simp; omega) (fun e => by have := Option.some.inj e; omega)).trans (Below.heap_alloc w2 _ _ hRl)).trans hR2
  have hd3 : w3.drew.heap.size = w3.heap.size := rfl
  have hV3d : w3.drew.heap[w2.heap.size]? = some (.cells #[.int .i64 (i : Int), .int .i64 (T[i].pos : Int), .int .i64 0] 32 (0, 0)) := hV3
  have HSB : Hid (∀ w', Below w3.drew.heap.size w3.drew w' → (fun w' : World => w'.cell? ⟨bT, off + i * 4, none⟩ = some (.slice (some ⟨bo, oo, none⟩) T[i].ops.length co) ∧ w'.cell? ⟨bT, off + i * 4 + 1, none⟩ = some (.int .i64 (T[i].pos : Int)) ∧ w'.cell? ⟨bo, oo + T[i].pos * 3, none⟩ = some (.int .i64 5) ∧ w'.cell? ⟨bo, oo + T[i].pos * 3 + 1, none⟩ = some (.int .i64 num) ∧ w'.cell? ⟨bo, oo + T[i].pos * 3 + 2, none⟩ = some (.int .i64 N)) w') := fun w' b => by
    have b' : Below w.heap.size w w' := bmm B3 B3.size b
    exact ⟨(b'.cell (p := ⟨bT, off + i * 4, none⟩) (by exact hbT)).trans z0', (b'.cell (p := ⟨bT, off + i * 4 + 1, none⟩) (by exact hbT)).trans z1', (b'.cell (p := ⟨bo, oo + T[i].pos * 3, none⟩) (by exact hbo)).trans y0', (b'.cell (p := ⟨bo, oo + T[i].pos * 3 + 1, none⟩) (by exact hbo)).trans y1', (b'.cell (p := ⟨bo, oo + T[i].pos * 3 + 2, none⟩) (by exact hbo)).trans y2'⟩
  have HN : Hid (∀ w5 : World, Below w3.drew.heap.size w3.drew w5 → w5.heap[w3.drew.heap.size]? = some (.cells #[.int .i64 5, .int .i64 num, .int .i64 N] 45 (0, 0)) → (w5.cell? ⟨bT, off + i * 4 + 1, none⟩ = some (.int .i64 (T[i].pos : Int)) ∧ w5.frozen? ⟨bT, off + i * 4 + 1, none⟩ = false ∧ (w5.setCell ⟨bT, off + i * 4 + 1, none⟩ (.int .i64 (p1 : Int))).cell? ⟨w3.drew.heap.size, 0, none⟩ = some (.int .i64 5) ∧ (w5.setCell ⟨bT, off + i * 4 + 1, none⟩ (.int .i64 (p1 : Int))).heap[w3.drew.heap.size]? = some (.cells #[.int .i64 5, .int .i64 num, .int .i64 N] 45 (0, 0)) ∧ (w5.setCell ⟨bT, off + i * 4 + 1, none⟩ (.int .i64 (p1 : Int))).heap[w2.heap.size]? = some (.cells #[.int .i64 (i : Int), .int .i64 (T[i].pos : Int), .int .i64 0] 32 (0, 0)) ∧ (w5.setCell ⟨bT, off + i * 4 + 1, none⟩ (.int .i64 (p1 : Int))).heap[w.heap.size]? = some (.cells #[.int .i64 0, .int .i64 0, .int .i64 0] 32 (0, 0))) ∧ SkAt (w5.setCell ⟨bT, off + i * 4 + 1, none⟩ (.int .i64 (p1 : Int))) base D ro (.slice (some ⟨bT, off, none⟩) T.length cap) vL tv od (T.set i { T[i] with pos := p1 }) L ∧ Kept w (w5.setCell ⟨bT, off + i * 4 + 1, none⟩ (.int .i64 (p1 : Int))) (fun b => ro b ≠ none) (fun b => ro b ≠ none)) := fun w5 b5 hOB => by
    have b' : Below w.heap.size w w5 := bmm B3 B3.size b5
    have hs6 := HS0.out.fresh b'
    obtain ⟨k1, k2⟩ := hs6.setTask rfl i hi 1 { T[i] with pos := p1 } (.int .i64 (p1 : Int)) (Or.inl ⟨rfl, rfl, rfl⟩) rfl rfl
    have ho : ∀ c, c ≠ bT → (w5.setCell ⟨bT, off + i * 4 + 1, none⟩ (.int .i64 (p1 : Int))).heap[c]? = w5.heap[c]? := fun c hc => heap_setCell_other _ _ _ _ (by simpa using hc)
    refine ⟨⟨(b'.cell (p := ⟨bT, off + i * 4 + 1, none⟩) (by exact hbT)).trans z1', (b'.frozen (p := ⟨bT, off + i * 4 + 1, none⟩) (by exact hbT)).trans (hfz' _), ?_, (ho _ (by omega)).trans hOB, ?_, ?_⟩, k1, (Kept.of b').trans k2⟩
    · have := (ho w3.drew.heap.size (by omega)).trans hOB
      simp only [World.cell?, this]
      rfl
    · rw [ho _ (by omega), b5.block _ (by omega)]
      exact hV3d
    · rw [ho _ (by omega), b5.block _ (by omega)]
      exact hR3
  have hVR : w.heap.size ≤ w2.heap.size ∧ w.heap.size ≠ w2.heap.size ∧ w2.heap.size ≠ bT ∧ w.heap.size ≠ bT := ⟨hs2, by omega, by omega, by omega⟩
  have hw4 : w.heap.size ≤ w3.drew.heap.size := by omega
  have HB : Hid (∀ b, ro b ≠ none → b < w.heap.size) := fun b hb => (HS0.out.bd b hb).2
  clear B3 hV3d hR3 hd3 hVl hsb2 g3 hV3 z1 c0 z0' z1' y0' y1' y2' hR2 b2 B2 HS1 HS0 R1 B1
  have TF : Hid (∀ wK : World, wK.heap[w2.heap.size]? = some (.cells #[.int .i64 (i : Int), .int .i64 (T[i].pos : Int), .int .i64 0] 32 (0, 0)) → wK.heap[w.heap.size]? = some (.cells #[.int .i64 0, .int .i64 0, .int .i64 0] 32 (0, 0)) → ∀ (b : Bool) (e : Int), (wK.setCell ⟨bT, off + i * 4 + 2, none⟩ (.bool b)).cell? ⟨w2.heap.size, 2, none⟩ = some (.int .i64 0) ∧ (wK.setCell ⟨bT, off + i * 4 + 2, none⟩ (.bool b)).frozen? ⟨w2.heap.size, 2, none⟩ = false ∧ ((wK.setCell ⟨bT, off + i * 4 + 2, none⟩ (.bool b)).setCell ⟨w2.heap.size, 2, none⟩ (.int .i64 e)).cell? ⟨w2.heap.size, 0, none⟩ = some (.int .i64 (i : Int)) ∧ ((wK.setCell ⟨bT, off + i * 4 + 2, none⟩ (.bool b)).setCell ⟨w2.heap.size, 2, none⟩ (.int .i64 e)).cell? ⟨w2.heap.size, 1, none⟩ = some (.int .i64 (T[i].pos : Int)) ∧ ((wK.setCell ⟨bT, off + i * 4 + 2, none⟩ (.bool b)).setCell ⟨w2.heap.size, 2, none⟩ (.int .i64 e)).cell? ⟨w2.heap.size, 2, none⟩ = some (.int .i64 e) ∧ ((wK.setCell ⟨bT, off + i * 4 + 2, none⟩ (.bool b)).setCell ⟨w2.heap.size, 2, none⟩ (.int .i64 e)).heap[w.heap.size]? = some (.cells #[.int .i64 0, .int .i64 0, .int .i64 0] 32 (0, 0))) := fun wK h1 h2 b e => by
    have e1 : (wK.setCell ⟨bT, off + i * 4 + 2, none⟩ (.bool b)).heap[w2.heap.size]? = some (.cells #[.int .i64 (i : Int), .int .i64 (T[i].pos : Int), .int .i64 0] 32 (0, 0)) := (heap_setCell_other _ _ _ _ (by simpa using hVR.2.2.1)).trans h1
    have e2 : ((wK.setCell ⟨bT, off + i * 4 + 2, none⟩ (.bool b)).setCell ⟨w2.heap.size, 2, none⟩ (.int .i64 e)).heap[w2.heap.size]? = some (.cells #[.int .i64 (i : Int), .int .i64 (T[i].pos : Int), .int .i64 e] 32 (0, 0)) := by
      rw [heap_setCell_same _ w2.heap.size 2 _ _ _ e1]
      rfl
    refine ⟨by simp only [World.cell?, e1]; rfl, by simp only [World.frozen?, e1]; rfl, by simp only [World.cell?, e2]; rfl, by simp only [World.cell?, e2]; rfl, by simp only [World.cell?, e2]; rfl, ?_⟩
    rw [heap_setCell_other _ _ _ _ (by simpa using hVR.2.1), heap_setCell_other _ _ _ _ (by simpa using hVR.2.2.2)]
    exact h2
  refine wp_region_held_drew (S := (fun w' : World => w'.cell? ⟨bT, off + i * 4, none⟩ = some (.slice (some ⟨bo, oo, none⟩) T[i].ops.length co) ∧ w'.cell? ⟨bT, off + i * 4 + 1, none⟩ = some (.int .i64 (T[i].pos : Int)) ∧ w'.cell? ⟨bo, oo + T[i].pos * 3, none⟩ = some (.int .i64 5) ∧ w'.cell? ⟨bo, oo + T[i].pos * 3 + 1, none⟩ = some (.int .i64 num) ∧ w'.cell? ⟨bo, oo + T[i].pos * 3 + 2, none⟩ = some (.int .i64 N))) (by kernel_rfl) ?_ (fun hHeld0 => ?_)
  · exact HSB.out _ (Below.refl _ _)
  generalize w3.drew = w4 at *
  clear hHeld0
  have hHeld0 := HSB.out w4 (Below.refl _ _)
  refine tk0 (.pointer (some ⟨bT, off + i * 4, none⟩)) ?_ (fun w hSw => by (try dsimp only at hSw); obtain ⟨y0, y1, y2, y3, y4⟩ := hSw; go_simp)
  try simp only [Act.put, pu1, pu2, pu3]
  refine tk1 (.pointer (some ⟨bT, off + i * 4, none⟩)) ?_ (fun w hSw => by (try dsimp only at hSw); obtain ⟨y0, y1, y2, y3, y4⟩ := hSw; go_simp)
  try simp only [Act.put, pu1, pu2, pu3]
  refine tk2 (.pointer (some ⟨bT, off + i * 4, none⟩)) ?_ (fun w hSw => by (try dsimp only at hSw); obtain ⟨y0, y1, y2, y3, y4⟩ := hSw; go_simp)
  try simp only [Act.put, pu1, pu2, pu3]
  refine tk3 (.slice (some ⟨bo, oo, none⟩) T[i].ops.length co) ?_ (fun w hSw => by (try dsimp only at hSw); obtain ⟨y0, y1, y2, y3, y4⟩ := hSw; go_simp)
  try simp only [Act.put, pu1, pu2, pu3]
  refine tk4 (.pointer (some ⟨bT, off + i * 4, none⟩)) ?_ (fun w hSw => by (try dsimp only at hSw); obtain ⟨y0, y1, y2, y3, y4⟩ := hSw; go_simp)
  try simp only [Act.put, pu1, pu2, pu3]
  refine tk5 (.pointer (some ⟨bT, off + i * 4, none⟩)) ?_ (fun w hSw => by (try dsimp only at hSw); obtain ⟨y0, y1, y2, y3, y4⟩ := hSw; go_simp)
  try simp only [Act.put, pu1, pu2, pu3]
  refine tk6 (.pointer (some ⟨bT, off + i * 4 + 1, none⟩)) ?_ (fun w hSw => by (try dsimp only at hSw); obtain ⟨y0, y1, y2, y3, y4⟩ := hSw; go_simp)
  try simp only [Act.put, pu1, pu2, pu3]
  refine tk7 (.int .i64 (T[i].pos : Int)) ?_ (fun w hSw => by (try dsimp only at hSw); obtain ⟨y0, y1, y2, y3, y4⟩ := hSw; go_simp)
  try simp only [Act.put, pu1, pu2, pu3]
  refine tk8 (.pointer (some ⟨bo, oo + T[i].pos * 3, none⟩)) ?_ (fun w hSw => by (try dsimp only at hSw); obtain ⟨y0, y1, y2, y3, y4⟩ := hSw; go_simp)
  try simp only [Act.put, pu1, pu2, pu3]
  refine tk9 (.agg #[.int .i64 5, .int .i64 num, .int .i64 N]) ?_ (fun w hSw => by (try dsimp only at hSw); obtain ⟨y0, y1, y2, y3, y4⟩ := hSw; go_simp)
  try simp only [Act.put, pu1, pu2, pu3]
  refine cl10 (by kernel_rfl) rfl (fun K hK => ?_)
  go_simp
  refine hK.out _ _ ?_ (fun hHeld => ?_)
  · exact HSB.out _ ((Below.refl _ w4).alloc (Nat.le_refl _) _)
  clear hK K
  try simp only [Act.put, pu1, pu2, pu3]
  refine cl11 (by kernel_rfl) rfl (fun K hK => ?_)
  refine wp_store_row 45 (.tmp 8) (.tmp 41) rfl w4.heap.size #[.int .i64 5, .int .i64 num, .int .i64 N] rfl rfl 45 #[.int .i64 0, .int .i64 0, .int .i64 0] (heap_alloc_new w4 _) infoP rfl (by simp [Value.oneCell']) ?_
  refine hK.out _ _ ?_ (fun hHeld => ?_)
  · exact HSB.out _ (((Below.refl _ w4).alloc (Nat.le_refl _) _).grown (grown_setRow_g _ _ _) (by simp) (fun q hq => by rw [← Option.some.inj hq]; exact Nat.le_refl _))
  clear hK K
  refine wpAnyH_done (by kernel_rfl) ?_ _
  simp only [Act.put]
  have hOB := setRow_heap (w4.alloc (.cells #[.int .i64 0, .int .i64 0, .int .i64 0] 45)) w4.heap.size #[.int .i64 0, .int .i64 0, .int .i64 0] #[.int .i64 5, .int .i64 num, .int .i64 N] 45 (0, 0) (heap_alloc_new w4 _)
  have B5 : Below w4.heap.size w4 ((w4.alloc (.cells #[.int .i64 0, .int .i64 0, .int .i64 0] 45)).setRow w4.heap.size #[.int .i64 5, .int .i64 num, .int .i64 N]) := ((Below.refl _ w4).alloc (Nat.le_refl _) _).grown (grown_setRow_g _ _ _) (by simp) (fun q hq => by rw [← Option.some.inj hq]; exact Nat.le_refl _)
  generalize (w4.alloc (.cells #[.int .i64 0, .int .i64 0, .int .i64 0] 45)).setRow w4.heap.size #[.int .i64 5, .int .i64 num, .int .i64 N] = w5 at *
  clear hHeld
  clear hHeld0
  obtain ⟨X5, HS6, HK6⟩ := HN.out w5 B5 hOB
  obtain ⟨x1, x2, x3, x4, x5, x6⟩ := X5
  have HKV : Hid (∀ (w7 : World) (ro7 : Nat → Option Nat), Kept (w5.setCell ⟨bT, off + i * 4 + 1, none⟩ (.int .i64 (p1 : Int))).drew w7 (fun b => ro b ≠ none) (fun b => ro7 b ≠ none) → w7.heap[w2.heap.size]? = some (.cells #[.int .i64 (i : Int), .int .i64 (T[i].pos : Int), .int .i64 0] 32 (0, 0)) ∧ w7.heap[w.heap.size]? = some (.cells #[.int .i64 0, .int .i64 0, .int .i64 0] 32 (0, 0)) ∧ ro7 w2.heap.size = none ∧ ro7 w.heap.size = none ∧ w7.heap[w4.heap.size]? = some (.cells #[.int .i64 5, .int .i64 num, .int .i64 N] 45 (0, 0))) := fun w7 ro7 k => by
    have l1 : w2.heap.size < (w5.setCell ⟨bT, off + i * 4 + 1, none⟩ (.int .i64 (p1 : Int))).drew.heap.size := lt_of_block x5
    have l2 : w.heap.size < (w5.setCell ⟨bT, off + i * 4 + 1, none⟩ (.int .i64 (p1 : Int))).drew.heap.size := lt_of_block x6
    have l3 : w4.heap.size < (w5.setCell ⟨bT, off + i * 4 + 1, none⟩ (.int .i64 (p1 : Int))).drew.heap.size := lt_of_block x4
    have hn : ∀ b, w.heap.size ≤ b → ¬ ro b ≠ none := fun b hb e => by
      have := HB.out b e
      omega
    have ho : ∀ b, w.heap.size ≤ b → b < (w5.setCell ⟨bT, off + i * 4 + 1, none⟩ (.int .i64 (p1 : Int))).drew.heap.size → ro7 b = none := fun b hb hl => by
      cases h : ro7 b with
      | none => rfl
      | some x =>
        rcases k.old b (by rw [h]; simp) with h1 | h1
        · exact absurd h1 (hn b hb)
        · exact absurd hl (Nat.not_lt.2 h1)
    exact ⟨(k.kept _ l1 (hn _ hVR.1)).trans x5, (k.kept _ l2 (hn _ (Nat.le_refl _))).trans x6, ho _ hVR.1 l1, ho _ (Nat.le_refl _) l2, (k.kept _ l3 (hn _ hw4)).trans x4⟩
  have HXO : Hid ((w5.setCell ⟨bT, off + i * 4 + 1, none⟩ (.int .i64 (p1 : Int))).drew.heap[w4.heap.size]? = some (.cells #[.int .i64 5, .int .i64 num, .int .i64 N] 45 (0, 0))) := x4
  have HS7 : Hid (SkAt (w5.setCell ⟨bT, off + i * 4 + 1, none⟩ (.int .i64 (p1 : Int))).drew base D ro (.slice (some ⟨bT, off, none⟩) T.length cap) vL tv od (T.set i { T[i] with pos := p1 }) L) := HS6.keep (Nat.le_refl _) (fun _ _ => rfl)
  have HK7 : Hid (Kept w (w5.setCell ⟨bT, off + i * 4 + 1, none⟩ (.int .i64 (p1 : Int))).drew (fun b => ro b ≠ none) (fun b => ro b ≠ none)) := ⟨HK6.os, HK6.tape, HK6.output, HK6.size, HK6.old, HK6.kept⟩
  clear HS6 HK6 x4 x5 x6
  go_wp2
  refine wp_region_held_drew (S := (fun w' : World => w'.heap[w4.heap.size]? = some (.cells #[.int .i64 5, .int .i64 num, .int .i64 N] 45 (0, 0)))) (by kernel_rfl) ?_ (fun hHeld0 => ?_)
  · exact HXO.out
  refine tk0 (.pointer (some ⟨D, 0, none⟩)) ?_
  try simp only [Act.put, pu1, pu2, pu3]
  refine tk1 (.pointer (some ⟨w4.heap.size, 1, none⟩)) ?_
  try simp only [Act.put, pu1, pu2, pu3]
  refine tk2 (.int .i64 num) ?_ (fun w hSw => by (try dsimp only at hSw); have x1 : w.cell? ⟨w4.heap.size, 1, none⟩ = some (.int .i64 num) := (by simp [World.cell?, hSw]); clear hSw; go_simp)
  try simp only [Act.put, pu1, pu2, pu3]
  refine tk5 (.pointer (some ⟨w4.heap.size, 2, none⟩)) ?_
  try simp only [Act.put, pu1, pu2, pu3]
  refine tk6 (.int .i64 N) ?_ (fun w hSw => by (try dsimp only at hSw); have x1 : w.cell? ⟨w4.heap.size, 2, none⟩ = some (.int .i64 N) := (by simp [World.cell?, hSw]); clear hSw; go_simp)
  try simp only [Act.put, pu1, pu2, pu3]
  refine cl3 (by kernel_rfl) rfl (fun K hK => ?_)
  go_simp
  go_at_call 34
  refine (sk_obj2 HS7.out num hL).mono ?_
  rintro e w7 ⟨ro7, vL7, od7, d, rfl, hd', h7', k7'⟩
  have hd : Hid _ := hd'
  have h7 : Hid _ := h7'
  have k7 : Hid _ := k7'
  clear hd' h7' k7'
  have hm7 := (h7.out.obj hd.out).gr (obG_at L 2 num).2
  have hX7 := (HKV.out w7 ro7 k7.out).2.2.2.2
  refine hK.out _ _ ?_ (fun hHeld => ?_)
  · exact hX7
  clear hK K
  try simp only [Act.put, pu1, pu2, pu3]
  refine tk4 (.pointer (some ⟨d, 0, none⟩)) ?_
  try simp only [Act.put, pu1, pu2, pu3]
  refine cl7 (by kernel_rfl) rfl (fun K hK => ?_)
  go_simp
  go_at_call 35
  refine (gr_addO hm7.1 N hm7.2).mono ?_
  rintro e w8 ⟨u8, rfl, ⟨hrow, hout⟩, S8, g8, j8⟩
  obtain ⟨ro8, hs8', kk8', hn8'⟩ := h7.out.did hd.out (o := grAd (obG L 2 num) N) (obG_at L 2 num).2 (ObAt.ofGr (obG_at L 2 num).2 g8 (gAN_ok hm7.2 N)) j8
  have hn8 : Hid _ := hn8' u8 hout
  have h8 : Hid _ := hs8'
  have k8 : Hid _ := k7.out.trans kk8'
  have hX8 := (HKV.out w8 ro8 k8.out).2.2.2.2
  clear hs8' kk8' hn8' g8 j8 hm7 hout
  refine hK.out _ _ ?_ (fun hHeld => ?_)
  · exact hX8
  clear hK K
  try simp only [Act.put, pu1, pu2, pu3]
  refine tk8 (.tuple #[u8, .int .i64 (gAZ (obG L 2 num).h N)]) ?_
  try simp only [Act.put, pu1, pu2, pu3]
  refine tk9 (u8) ?_
  try simp only [Act.put, pu1, pu2, pu3]
  refine tk10 (.int .i64 (gAZ (obG L 2 num).h N)) ?_
  try simp only [Act.put, pu1, pu2, pu3]
  refine tk11 (u8) ?_
  try simp only [Act.put, pu1, pu2, pu3]
  refine tk12 (.int .i64 (gAZ (obG L 2 num).h N)) ?_
  try simp only [Act.put, pu1, pu2, pu3]
  refine wpAnyH_done (by kernel_rfl) ?_ _
  clear hHeld
  go_wp2_with (first | (show wpList _ _ _ (⟨_, Op.store 32 _ _, _, _, _, _⟩ :: _) _ _; refine store_row_g rfl 32 _ _ rfl w.heap.size #[.int .i64 (i : Int), .int .i64 (T[i].pos : Int), .int .i64 (gAZ (obG L 2 num).h N)] rfl rfl 32 #[.int .i64 0, .int .i64 0, .int .i64 0] HT6.out infoE rfl (by simp [Value.oneCell']) ?_; intro wE hE gE) | (go_at_call 36; refine (sk_wake h8.out hrow hW.out.1 (fun x hx => by rw [List.length_set]; exact hW.out.2 x hx) hn8.out).mono ?_; rintro e w9 ⟨rfl, h9', k9'⟩; have h9 : Hid _ := h9'; have k9 : Hid _ := k8.out.trans k9'; clear h9' k9'; obtain ⟨v1, v2, v3, v4, _⟩ := HKV.out w9 ro8 k9.out; obtain ⟨t1, t2, t3, t4, t5, t6⟩ := TF.out w9 v1 v2 false (gAZ (obG L 2 num).h N); have z29 := h9.out.cell2 i hiT2; have hf9 : w9.frozen? ⟨bT, off + i * 4 + 2, none⟩ = false := h9.out.ts.at'.free _; have HT6 : Hid _ := t6; have HV7 : Hid _ := (⟨v3, v4⟩ : ro8 _ = none ∧ ro8 _ = none); clear t6 v1 v2 v3 v4))
  refine bodyPost_ret (results_ev Try.results14 _ _ w.heap.size _ rfl hE rfl) rfl ?_
  obtain ⟨k1, k2⟩ := h9.out.fin i hiT2 false (.int .i64 (gAZ (obG L 2 num).h N)) w2.heap.size w.heap.size HV7.out.1 HV7.out.2 gE
  first | exact ⟨rfl, ro8, vL7, tv, od7, k1, k2 w ro (HK7.out.trans k9.out) hVR.1 (Nat.le_refl _)⟩ | exact ⟨rfl, ro8, ⟨vL7, tv, od7, k1⟩, k2 w ro (HK7.out.trans k9.out) hVR.1 (Nat.le_refl _)⟩
end
end Go.Proofs.Ythhlglbohibekaa
