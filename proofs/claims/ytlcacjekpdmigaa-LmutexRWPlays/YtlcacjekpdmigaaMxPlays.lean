/-
  LmutexPlays of layer 8, walked: any deeds on the program's mutex and on the document's: each answer, who holds it, who waits. The condition: the deeds lie in memory as their reading says.
-/
import Derived.Test.YtlcacjekpdmigaaMxNone
namespace Go.Proofs.Ytlcacjekpdmigaa
open Go.RowKit

theorem ints_fresh {w w' : World} {v : Value} {l : List Int} (h : IntsAt w v l) (k : Below w.heap.size w w') : IntsAt w' v l := by
  obtain ⟨a, cap, hv, hc, he⟩ := h.ex
  refine ⟨⟨a, cap, hv, hc, ?_⟩, h.lo, h.mx⟩
  rcases he with h0 | ⟨bk, off, ha, hb, hx⟩
  · exact Or.inl h0
  · exact Or.inr ⟨bk, off, ha, Nat.lt_of_lt_of_le hb k.size, fun j hj => (k.cell (by exact hb)).trans (hx j hj)⟩
/-- Both mutexes. -/
structure MD (w : World) (B Dx Dy : Nat) (Sx Sy : Nat → Prop) (wx : Int) (lx : List Int) (wy : Int) (ly : List Int) : Prop where
  x : PMx w B Dx Sx wx lx
  y : MxAt w B Dy Sy wy ly
  ap : ∀ b, Sx b → ¬ Sy b
section
variable {w w' : World} {B Dx Dy : Nat} {Sx Sy S' : Nat → Prop} {wx wy w1 : Int} {lx ly l1 : List Int}
theorem MD.stepX (h : MD w B Dx Dy Sx Sy wx lx wy ly) (hx : PMx w' B Dx S' w1 l1) (k : Kept w w' Sx S') : MD w' B Dx Dy S' Sy w1 l1 wy ly :=
  ⟨hx, h.y.keep k.size (fun b hb => k.kept b (h.y.bd b hb).2 (fun h1 => h.ap b h1 hb)), apart_old (fun b hb => (h.y.bd b hb).2) h.ap k⟩
theorem MD.stepY (h : MD w B Dx Dy Sx Sy wx lx wy ly) (hy : MxAt w' B Dy S' w1 l1) (k : Kept w w' Sy S') : MD w' B Dx Dy Sx S' wx lx w1 l1 :=
  ⟨h.x.keep k.size (fun b hb => k.kept b (h.x.bd b hb).2 (fun h1 => h.ap b hb h1)), hy, fun b h1 h2 => apart_old (fun b hb => (h.x.bd b hb).2) (fun b h3 h4 => h.ap b h4 h3) k b h2 h1⟩
theorem MD.fresh (h : MD w B Dx Dy Sx Sy wx lx wy ly) (k : Below w.heap.size w w') : MD w' B Dx Dy Sx Sy wx lx wy ly := ⟨h.x.fresh k, h.y.fresh k, h.ap⟩
theorem MD.drew (h : MD w B Dx Dy Sx Sy wx lx wy ly) : MD w.drew B Dx Dy Sx Sy wx lx wy ly := ⟨h.x.drew, h.y.drew, h.ap⟩
end
theorem MxAt.low {w : World} {base base' D : Nat} {S : Nat → Prop} {who : Int} {l : List Int} (h : MxAt w base D S who l) (hb : base' ≤ base) : MxAt w base' D S who l :=
  ⟨h.ex, h.sD, fun b hb2 => ⟨Nat.le_trans hb (h.bd b hb2).1, (h.bd b hb2).2⟩⟩
theorem MD.start {w1 w2 : World} {B Dx Dy : Nat} {Sx Sy : Nat → Prop} {a c : Int} {l m : List Int} (h1 : PMx w1 B Dx Sx a l) (h2 : MxAt w2 w1.heap.size Dy Sy c m) (b2 : Below w1.heap.size w1 w2) : MD w2 B Dx Dy Sx Sy a l c m :=
  ⟨h1.fresh b2, h2.low h1.base_le, fun b h3 h4 => by have := (h1.bd b h3).2; have := (h2.bd b h4).1; omega⟩
theorem unL_le (who : Int) (l : List Int) (t : Int) : (unL who l t).length ≤ l.length := by
  unfold unL
  split
  · exact Nat.le_refl _
  · rw [List.length_tail]
    omega
theorem lockL_le (who : Int) (l : List Int) (t : Int) : (lockL who l t).length ≤ l.length + 1 := by
  unfold lockL
  split
  · simp
  · omega
set_option maxHeartbeats 6400000 in
set_option maxRecDepth 100000 in
theorem plays_walk (w : World) (v : Value) (ds : List Wt) (hv : RowAt waitC w v ds) (hlo : ∀ x ∈ ds, okI x.1) (hmx : ds.length ≤ 9223372036854775807) :
    Calls Try.prog 3 #[v] w fun e w' => e = .returned (.bool true) ∧ Below w.heap.size w w' := by
  have hn := pm_new w
  obtain ⟨a, cap, rfl⟩ := hv.form
  obtain ⟨B, hB⟩ : ∃ B, B = w.heap.size := ⟨_, rfl⟩
  have HBE : Hid (B = w.heap.size) := hB
  rw [← hB] at hn ⊢
  have HA : Hid _ := hv
  have HLO : Hid _ := hlo
  clear hv hlo hB
  go_enter Try.func3, Try.ntmps3
  go_wp2_with (first
    | (go_at_call 9; refine (rmnew w1).mono ?_; rintro e w2 ⟨rfl, k2, b2⟩; have hst := MD.start k1 k2 b2; have hst2 := bmm b1 k1.base_le b2)
    | (go_at_call 8; refine hn.mono ?_; rintro e w1 ⟨Dx, Sx, rfl, k1, b1⟩))
  have HST : Hid _ := hst
  have HST2 : Hid _ := hst2
  clear hst hst2 k1 k2 b2 b1 hn
  obtain ⟨Dy, hDy⟩ : ∃ Dy, Dy = w1.heap.size := ⟨_, rfl⟩
  rw [← hDy] at HST ⊢
  clear hDy
  go_loopw [5, 6, 7, 8, 9, 10, 11, 12, 13, 14, 15] (fun i _ _ _ _ _ _ _ _ _ _ wr => ∃ (k : Nat) (who : Int) (l : List Int) (Sx Sy : Nat → Prop), k ≤ ds.length ∧ k ≤ 300 ∧ i = .int .i64 k ∧ MD wr B Dx Dy Sx Sy who l who l ∧ l.length ≤ k ∧ Below B w wr) (fun i _ _ _ _ _ _ _ _ _ _ _ => ds.length - (RowKit.intOf i).toNat)
  case atStart => exact ⟨0, -1, [], _, _, Nat.zero_le _, Nat.zero_le _, rfl, HST.out, Nat.le_refl _, HST2.out⟩
  case round =>
    clear HST HST2
    obtain ⟨k, who, l, Sx, Sy, hk, hk2, rfl, hM, hlk, bel⟩ := hrel
    have hBw : B ≤ wr.heap.size := hM.x.base_le
    by_cases hkl : k < ds.length
    · by_cases hkm : k < 300
      · have q0 : decide ((k : Int) < (ds.length : Int)) = true := decide_eq_true (by omega)
        have q1 : decide ((k : Int) < (300 : Int)) = true := decide_eq_true (by omega)
        obtain ⟨bk, off, cp, e, _, hbk, hx⟩ := HA.out.cells waitC_len (by omega)
        simp only [Value.slice.injEq] at e
        obtain ⟨rfl, _, rfl⟩ := e
        rw [← HBE.out] at hbk
        have z0 := (bel.cell (p := ⟨bk, off + k * 3, none⟩) (by exact hbk)).trans (hx k hkl 0 _ (by decide) rfl)
        have z1 := (bel.cell (p := ⟨bk, off + k * 3 + 1, none⟩) (by exact hbk)).trans (hx k hkl 1 _ (by decide) rfl)
        have z2 := (bel.cell (p := ⟨bk, off + k * 3 + 2, none⟩) (by exact hbk)).trans (hx k hkl 2 _ (by decide) rfl)
        have hok := HLO.out _ (List.getElem_mem hkl)
        clear hx
        generalize ds[k] = D at *
        obtain ⟨t, un, rd⟩ := D
        simp only at z0 z1 z2 hok
        have HM : Hid _ := hM
        clear hM
        obtain ⟨u, hue⟩ : ∃ u, u = wr.alloc (.cells #[.int .i64 t, .bool un, .bool rd] 28) := ⟨_, rfl⟩
        have bu : Below wr.heap.size wr u := by rw [hue]; exact (Below.refl _ wr).alloc (Nat.le_refl _) _
        have hbu : u.heap[wr.heap.size]? = some (.cells #[.int .i64 t, .bool un, .bool rd] 28 (0, 0)) := by rw [hue]; exact heap_alloc_new wr _
        have hU := HM.out.fresh bu
        have hbl := lt_of_block hbu
        have e0 : u.cell? ⟨wr.heap.size, 0, none⟩ = some (.int .i64 t) := by simp [World.cell?, hbu]
        have e1 : u.cell? ⟨wr.heap.size, 1, none⟩ = some (.bool un) := by simp [World.cell?, hbu]
        have hbx : ¬ Sx wr.heap.size := fun h => by have := (HM.out.x.bd _ h).2; omega
        have belU : Below B w u := bmm bel hBw bu
        have HUE : Hid _ := hue
        have HU : Hid _ := hU
        clear hue hbu hU bu HM bel
        cases un with
        | true =>
          go_wp2_with (first
            | (go_at_call 11; refine (runlock_any k2.y t).mono ?_; rintro e w3 ⟨rfl, Sy3, g3, kk3⟩; have k3 := k2.stepY g3 kk3; have b3 := k2.y.below kk3; clear k2)
            | (go_at_call 10; rw [← HUE.out]; refine (pm_unlock HU.out.x t).mono ?_; rintro e w2 ⟨rfl, Sx2, g2, kk2⟩; have k2 := HU.out.stepX g2 kk2; have b2 := HU.out.x.below kk2; have x0 := (World.cell?_of_block (kk2.kept wr.heap.size hbl hbx)).trans e0; have x1 := (World.cell?_of_block (kk2.kept wr.heap.size hbl hbx)).trans e1))
          have belW : Below B w w3 := (belU.trans b2).trans b3
          have hle := unL_le who l t
          generalize hw1 : unW who l t = who1 at k3
          generalize hl1 : unL who l t = l1 at k3 hle
          have K3 : Hid _ := k3
          obtain ⟨ay, cy, hby, y0, y1, _, _, hoy⟩ := k3.y.cells
          have hlo := hoy.at'.lo
          have hDy : Dy < w3.heap.size := (k3.y.bd Dy k3.y.sD).2
          have HOY : Hid _ := hoy
          have HLO1 : Hid (∀ x ∈ l1, okI x) := hlo
          clear hby hoy hlo k3 HU HUE g2 kk2 g3 kk3 b2 b3 x0 x1 e0 e1 hw1 hl1 belU z0 z1 z2
          have hsame : sameB l1 l1 = true := decide_eq_true rfl
          refine wp_region_held_drew (S := (fun w' : World => w'.cell? ⟨Dy, 0, none⟩ = some (.int .i64 who1) ∧ w'.cell? ⟨Dy, 1, none⟩ = some (.slice ay l1.length cy))) (by kernel_rfl) ?_ (fun hHeld0 => ?_)
          · try dsimp only
            go_keep
          refine tk0 (.bool true) (by kernel_rfl) (by kernel_rfl) (by kernel_rfl) (fun _ _ _ h => h) rfl (fun w hSw => by (try dsimp only at hSw); obtain ⟨q0, q1⟩ := hSw; go_simp) (by assumption) ?_
          try simp only [Act.put, List.setIfInBounds_toArray, List.set_cons_zero, List.set_cons_succ]
          refine tk1 (.bool false) (by kernel_rfl) (by kernel_rfl) (by kernel_rfl) (fun _ _ _ h => h) rfl (fun w hSw => by (try dsimp only at hSw); obtain ⟨q0, q1⟩ := hSw; go_simp) (by assumption) ?_
          try simp only [Act.put, List.setIfInBounds_toArray, List.set_cons_zero, List.set_cons_succ]
          refine tk2 (.bool false) (by kernel_rfl) (by kernel_rfl) (by kernel_rfl) (fun _ _ _ h => h) rfl (fun w hSw => by (try dsimp only at hSw); obtain ⟨q0, q1⟩ := hSw; go_simp) (by assumption) ?_
          try simp only [Act.put, List.setIfInBounds_toArray, List.set_cons_zero, List.set_cons_succ]
          refine tk3 (.pointer (some ⟨Dx, 0, none⟩)) (by kernel_rfl) (by kernel_rfl) (by kernel_rfl) (fun _ _ _ h => h) rfl (fun w hSw => by (try dsimp only at hSw); obtain ⟨q0, q1⟩ := hSw; go_simp) (by assumption) ?_
          try simp only [Act.put, List.setIfInBounds_toArray, List.set_cons_zero, List.set_cons_succ]
          refine tk5 (.pointer (some ⟨Dy, 0, none⟩)) (by kernel_rfl) (by kernel_rfl) (by kernel_rfl) (fun _ _ _ h => h) rfl (fun w hSw => by (try dsimp only at hSw); obtain ⟨q0, q1⟩ := hSw; go_simp) (by assumption) ?_
          try simp only [Act.put, List.setIfInBounds_toArray, List.set_cons_zero, List.set_cons_succ]
          refine tk6 (.pointer (some ⟨Dy, 0, none⟩)) (by kernel_rfl) (by kernel_rfl) (by kernel_rfl) (fun _ _ _ h => h) rfl (fun w hSw => by (try dsimp only at hSw); obtain ⟨q0, q1⟩ := hSw; go_simp) (by assumption) ?_
          try simp only [Act.put, List.setIfInBounds_toArray, List.set_cons_zero, List.set_cons_succ]
          refine tk7 (.pointer (some ⟨Dy, 0, none⟩)) (by kernel_rfl) (by kernel_rfl) (by kernel_rfl) (fun _ _ _ h => h) rfl (fun w hSw => by (try dsimp only at hSw); obtain ⟨q0, q1⟩ := hSw; go_simp) (by assumption) ?_
          try simp only [Act.put, List.setIfInBounds_toArray, List.set_cons_zero, List.set_cons_succ]
          refine tk8 (.int .i64 who1) (by kernel_rfl) (by kernel_rfl) (by kernel_rfl) (fun _ _ _ h => h) rfl (fun w hSw => by (try dsimp only at hSw); obtain ⟨q0, q1⟩ := hSw; go_simp) (by assumption) ?_
          try simp only [Act.put, List.setIfInBounds_toArray, List.set_cons_zero, List.set_cons_succ]
          refine cl4 (by kernel_rfl) rfl (fun K hK => ?_)
          go_simp
          go_at_call 14
          refine (pm_holder K3.out.x.drew).mono ?_
          rintro e w7 ⟨rfl, rfl⟩
          refine hK.out _ _ ?_ (fun hHeld => ?_)
          · try dsimp only
            go_keep
          clear hK K
          try simp only [Act.put, List.setIfInBounds_toArray, List.set_cons_zero, List.set_cons_succ]
          refine tk9 (.bool false) (by kernel_rfl) (by kernel_rfl) (by kernel_rfl) (fun _ _ _ h => h) rfl (fun w hSw => by (try dsimp only at hSw); obtain ⟨q0, q1⟩ := hSw; go_simp) (by assumption) ?_
          try simp only [Act.put, List.setIfInBounds_toArray, List.set_cons_zero, List.set_cons_succ]
          refine tk10 (.bool false) (by kernel_rfl) (by kernel_rfl) (by kernel_rfl) (fun _ _ _ h => h) rfl (fun w hSw => by (try dsimp only at hSw); obtain ⟨q0, q1⟩ := hSw; go_simp) (by assumption) ?_
          try simp only [Act.put, List.setIfInBounds_toArray, List.set_cons_zero, List.set_cons_succ]
          refine tk11 (.bool false) (by kernel_rfl) (by kernel_rfl) (by kernel_rfl) (fun _ _ _ h => h) rfl (fun w hSw => by (try dsimp only at hSw); obtain ⟨q0, q1⟩ := hSw; go_simp) (by assumption) ?_
          try simp only [Act.put, List.setIfInBounds_toArray, List.set_cons_zero, List.set_cons_succ]
          refine tk12 (.pointer (some ⟨Dx, 0, none⟩)) (by kernel_rfl) (by kernel_rfl) (by kernel_rfl) (fun _ _ _ h => h) rfl (fun w hSw => by (try dsimp only at hSw); obtain ⟨q0, q1⟩ := hSw; go_simp) (by assumption) ?_
          try simp only [Act.put, List.setIfInBounds_toArray, List.set_cons_zero, List.set_cons_succ]
          refine tk14 (.pointer (some ⟨Dy, 0, none⟩)) (by kernel_rfl) (by kernel_rfl) (by kernel_rfl) (fun _ _ _ h => h) rfl (fun w hSw => by (try dsimp only at hSw); obtain ⟨q0, q1⟩ := hSw; go_simp) (by assumption) ?_
          try simp only [Act.put, List.setIfInBounds_toArray, List.set_cons_zero, List.set_cons_succ]
          refine tk15 (.pointer (some ⟨Dy, 0, none⟩)) (by kernel_rfl) (by kernel_rfl) (by kernel_rfl) (fun _ _ _ h => h) rfl (fun w hSw => by (try dsimp only at hSw); obtain ⟨q0, q1⟩ := hSw; go_simp) (by assumption) ?_
          try simp only [Act.put, List.setIfInBounds_toArray, List.set_cons_zero, List.set_cons_succ]
          refine tk16 (.pointer (some ⟨Dy, 1, none⟩)) (by kernel_rfl) (by kernel_rfl) (by kernel_rfl) (fun _ _ _ h => h) rfl (fun w hSw => by (try dsimp only at hSw); obtain ⟨q0, q1⟩ := hSw; go_simp) (by assumption) ?_
          try simp only [Act.put, List.setIfInBounds_toArray, List.set_cons_zero, List.set_cons_succ]
          refine tk17 (.slice ay l1.length cy) (by kernel_rfl) (by kernel_rfl) (by kernel_rfl) (fun _ _ _ h => h) rfl (fun w hSw => by (try dsimp only at hSw); obtain ⟨q0, q1⟩ := hSw; go_simp) (by assumption) ?_
          try simp only [Act.put, List.setIfInBounds_toArray, List.set_cons_zero, List.set_cons_succ]
          refine cl13 (by kernel_rfl) rfl (fun K hK => ?_)
          go_simp
          go_at_call 16
          refine (pm_queue K3.out.x.drew).mono ?_
          rintro e w8 ⟨u8, rfl, r8, b8⟩
          have s0 := (b8.cell (p := ⟨Dy, 0, none⟩) (by exact hDy)).trans y0
          have s1 := (b8.cell (p := ⟨Dy, 1, none⟩) (by exact hDy)).trans y1
          refine hK.out _ _ ?_ (fun hHeld => ?_)
          · try dsimp only
            go_keep
          clear hK K
          try simp only [Act.put, List.setIfInBounds_toArray, List.set_cons_zero, List.set_cons_succ]
          refine cl18 (by kernel_rfl) rfl (fun K hK => ?_)
          go_simp
          go_at_call 15
          refine (ints_same _ _ _ l1 l1 (r8.ints HLO1.out (by omega)) (ints_fresh HOY.out.at' (undrew b8))).mono ?_
          rw [hsame]
          rintro e w9 ⟨rfl, b9⟩
          have t0 := (b9.cell (p := ⟨Dy, 0, none⟩) (by exact Nat.lt_of_lt_of_le hDy b8.size)).trans s0
          have t1 := (b9.cell (p := ⟨Dy, 1, none⟩) (by exact Nat.lt_of_lt_of_le hDy b8.size)).trans s1
          refine hK.out _ _ ?_ (fun hHeld => ?_)
          · try dsimp only
            go_keep
          clear hK K
          try simp only [Act.put, List.setIfInBounds_toArray, List.set_cons_zero, List.set_cons_succ]
          refine tk19 (.bool false) (by kernel_rfl) (by kernel_rfl) (by kernel_rfl) (fun _ _ _ h => h) rfl (fun w hSw => by (try dsimp only at hSw); obtain ⟨q0, q1⟩ := hSw; go_simp) (by assumption) ?_
          try simp only [Act.put, List.setIfInBounds_toArray, List.set_cons_zero, List.set_cons_succ]
          refine tk20 (.bool false) (by kernel_rfl) (by kernel_rfl) (by kernel_rfl) (fun _ _ _ h => h) rfl (fun w hSw => by (try dsimp only at hSw); obtain ⟨q0, q1⟩ := hSw; go_simp) (by assumption) ?_
          try simp only [Act.put, List.setIfInBounds_toArray, List.set_cons_zero, List.set_cons_succ]
          refine wpAnyH_done (by kernel_rfl) ?_ _
          have b10 : Below w3.heap.size w3 w9 := bmm (undrew b8) b8.size b9
          have belX : Below B w w9 := bmm belW K3.out.x.base_le b10
          go_wp2
          go_roundw
          case rel => exact ⟨k + 1, who1, l1, _, _, hkl, by omega, by go_num, K3.out.fresh b10, by omega, belX⟩
          case measure => simp [RowKit.intOf]; omega
        | false =>
          go_wp2_with (first
            | (go_at_call 13; refine (rlock_any k2.y t hok.2 (by omega)).mono ?_; rintro e w3 ⟨rfl, Sy3, g3, kk3⟩; have k3 := k2.stepY g3 kk3; have b3 := k2.y.below kk3; clear k2)
            | (go_at_call 12; rw [← HUE.out]; refine (pm_lock HU.out.x t hok (by omega)).mono ?_; rintro e w2 ⟨rfl, Sx2, g2, kk2⟩; have k2 := HU.out.stepX g2 kk2; have b2 := HU.out.x.below kk2; have x0 := (World.cell?_of_block (kk2.kept wr.heap.size hbl hbx)).trans e0; have x1 := (World.cell?_of_block (kk2.kept wr.heap.size hbl hbx)).trans e1))
          have belW : Below B w w3 := (belU.trans b2).trans b3
          have hle := lockL_le who l t
          generalize hw1 : lockW who l t = who1 at k3
          generalize hl1 : lockL who l t = l1 at k3 hle
          have K3 : Hid _ := k3
          obtain ⟨ay, cy, hby, y0, y1, _, _, hoy⟩ := k3.y.cells
          have hlo := hoy.at'.lo
          have hDy : Dy < w3.heap.size := (k3.y.bd Dy k3.y.sD).2
          have HOY : Hid _ := hoy
          have HLO1 : Hid (∀ x ∈ l1, okI x) := hlo
          clear hby hoy hlo k3 HU HUE g2 kk2 g3 kk3 b2 b3 x0 x1 e0 e1 hw1 hl1 belU z0 z1 z2
          have hsame : sameB l1 l1 = true := decide_eq_true rfl
          refine wp_region_held_drew (S := (fun w' : World => w'.cell? ⟨Dy, 0, none⟩ = some (.int .i64 who1) ∧ w'.cell? ⟨Dy, 1, none⟩ = some (.slice ay l1.length cy))) (by kernel_rfl) ?_ (fun hHeld0 => ?_)
          · try dsimp only
            go_keep
          refine tk0 (.bool true) (by kernel_rfl) (by kernel_rfl) (by kernel_rfl) (fun _ _ _ h => h) rfl (fun w hSw => by (try dsimp only at hSw); obtain ⟨q0, q1⟩ := hSw; go_simp) (by assumption) ?_
          try simp only [Act.put, List.setIfInBounds_toArray, List.set_cons_zero, List.set_cons_succ]
          refine tk1 (.bool false) (by kernel_rfl) (by kernel_rfl) (by kernel_rfl) (fun _ _ _ h => h) rfl (fun w hSw => by (try dsimp only at hSw); obtain ⟨q0, q1⟩ := hSw; go_simp) (by assumption) ?_
          try simp only [Act.put, List.setIfInBounds_toArray, List.set_cons_zero, List.set_cons_succ]
          refine tk2 (.bool false) (by kernel_rfl) (by kernel_rfl) (by kernel_rfl) (fun _ _ _ h => h) rfl (fun w hSw => by (try dsimp only at hSw); obtain ⟨q0, q1⟩ := hSw; go_simp) (by assumption) ?_
          try simp only [Act.put, List.setIfInBounds_toArray, List.set_cons_zero, List.set_cons_succ]
          refine tk3 (.pointer (some ⟨Dx, 0, none⟩)) (by kernel_rfl) (by kernel_rfl) (by kernel_rfl) (fun _ _ _ h => h) rfl (fun w hSw => by (try dsimp only at hSw); obtain ⟨q0, q1⟩ := hSw; go_simp) (by assumption) ?_
          try simp only [Act.put, List.setIfInBounds_toArray, List.set_cons_zero, List.set_cons_succ]
          refine tk5 (.pointer (some ⟨Dy, 0, none⟩)) (by kernel_rfl) (by kernel_rfl) (by kernel_rfl) (fun _ _ _ h => h) rfl (fun w hSw => by (try dsimp only at hSw); obtain ⟨q0, q1⟩ := hSw; go_simp) (by assumption) ?_
          try simp only [Act.put, List.setIfInBounds_toArray, List.set_cons_zero, List.set_cons_succ]
          refine tk6 (.pointer (some ⟨Dy, 0, none⟩)) (by kernel_rfl) (by kernel_rfl) (by kernel_rfl) (fun _ _ _ h => h) rfl (fun w hSw => by (try dsimp only at hSw); obtain ⟨q0, q1⟩ := hSw; go_simp) (by assumption) ?_
          try simp only [Act.put, List.setIfInBounds_toArray, List.set_cons_zero, List.set_cons_succ]
          refine tk7 (.pointer (some ⟨Dy, 0, none⟩)) (by kernel_rfl) (by kernel_rfl) (by kernel_rfl) (fun _ _ _ h => h) rfl (fun w hSw => by (try dsimp only at hSw); obtain ⟨q0, q1⟩ := hSw; go_simp) (by assumption) ?_
          try simp only [Act.put, List.setIfInBounds_toArray, List.set_cons_zero, List.set_cons_succ]
          refine tk8 (.int .i64 who1) (by kernel_rfl) (by kernel_rfl) (by kernel_rfl) (fun _ _ _ h => h) rfl (fun w hSw => by (try dsimp only at hSw); obtain ⟨q0, q1⟩ := hSw; go_simp) (by assumption) ?_
          try simp only [Act.put, List.setIfInBounds_toArray, List.set_cons_zero, List.set_cons_succ]
          refine cl4 (by kernel_rfl) rfl (fun K hK => ?_)
          go_simp
          go_at_call 14
          refine (pm_holder K3.out.x.drew).mono ?_
          rintro e w7 ⟨rfl, rfl⟩
          refine hK.out _ _ ?_ (fun hHeld => ?_)
          · try dsimp only
            go_keep
          clear hK K
          try simp only [Act.put, List.setIfInBounds_toArray, List.set_cons_zero, List.set_cons_succ]
          refine tk9 (.bool false) (by kernel_rfl) (by kernel_rfl) (by kernel_rfl) (fun _ _ _ h => h) rfl (fun w hSw => by (try dsimp only at hSw); obtain ⟨q0, q1⟩ := hSw; go_simp) (by assumption) ?_
          try simp only [Act.put, List.setIfInBounds_toArray, List.set_cons_zero, List.set_cons_succ]
          refine tk10 (.bool false) (by kernel_rfl) (by kernel_rfl) (by kernel_rfl) (fun _ _ _ h => h) rfl (fun w hSw => by (try dsimp only at hSw); obtain ⟨q0, q1⟩ := hSw; go_simp) (by assumption) ?_
          try simp only [Act.put, List.setIfInBounds_toArray, List.set_cons_zero, List.set_cons_succ]
          refine tk11 (.bool false) (by kernel_rfl) (by kernel_rfl) (by kernel_rfl) (fun _ _ _ h => h) rfl (fun w hSw => by (try dsimp only at hSw); obtain ⟨q0, q1⟩ := hSw; go_simp) (by assumption) ?_
          try simp only [Act.put, List.setIfInBounds_toArray, List.set_cons_zero, List.set_cons_succ]
          refine tk12 (.pointer (some ⟨Dx, 0, none⟩)) (by kernel_rfl) (by kernel_rfl) (by kernel_rfl) (fun _ _ _ h => h) rfl (fun w hSw => by (try dsimp only at hSw); obtain ⟨q0, q1⟩ := hSw; go_simp) (by assumption) ?_
          try simp only [Act.put, List.setIfInBounds_toArray, List.set_cons_zero, List.set_cons_succ]
          refine tk14 (.pointer (some ⟨Dy, 0, none⟩)) (by kernel_rfl) (by kernel_rfl) (by kernel_rfl) (fun _ _ _ h => h) rfl (fun w hSw => by (try dsimp only at hSw); obtain ⟨q0, q1⟩ := hSw; go_simp) (by assumption) ?_
          try simp only [Act.put, List.setIfInBounds_toArray, List.set_cons_zero, List.set_cons_succ]
          refine tk15 (.pointer (some ⟨Dy, 0, none⟩)) (by kernel_rfl) (by kernel_rfl) (by kernel_rfl) (fun _ _ _ h => h) rfl (fun w hSw => by (try dsimp only at hSw); obtain ⟨q0, q1⟩ := hSw; go_simp) (by assumption) ?_
          try simp only [Act.put, List.setIfInBounds_toArray, List.set_cons_zero, List.set_cons_succ]
          refine tk16 (.pointer (some ⟨Dy, 1, none⟩)) (by kernel_rfl) (by kernel_rfl) (by kernel_rfl) (fun _ _ _ h => h) rfl (fun w hSw => by (try dsimp only at hSw); obtain ⟨q0, q1⟩ := hSw; go_simp) (by assumption) ?_
          try simp only [Act.put, List.setIfInBounds_toArray, List.set_cons_zero, List.set_cons_succ]
          refine tk17 (.slice ay l1.length cy) (by kernel_rfl) (by kernel_rfl) (by kernel_rfl) (fun _ _ _ h => h) rfl (fun w hSw => by (try dsimp only at hSw); obtain ⟨q0, q1⟩ := hSw; go_simp) (by assumption) ?_
          try simp only [Act.put, List.setIfInBounds_toArray, List.set_cons_zero, List.set_cons_succ]
          refine cl13 (by kernel_rfl) rfl (fun K hK => ?_)
          go_simp
          go_at_call 16
          refine (pm_queue K3.out.x.drew).mono ?_
          rintro e w8 ⟨u8, rfl, r8, b8⟩
          have s0 := (b8.cell (p := ⟨Dy, 0, none⟩) (by exact hDy)).trans y0
          have s1 := (b8.cell (p := ⟨Dy, 1, none⟩) (by exact hDy)).trans y1
          refine hK.out _ _ ?_ (fun hHeld => ?_)
          · try dsimp only
            go_keep
          clear hK K
          try simp only [Act.put, List.setIfInBounds_toArray, List.set_cons_zero, List.set_cons_succ]
          refine cl18 (by kernel_rfl) rfl (fun K hK => ?_)
          go_simp
          go_at_call 15
          refine (ints_same _ _ _ l1 l1 (r8.ints HLO1.out (by omega)) (ints_fresh HOY.out.at' (undrew b8))).mono ?_
          rw [hsame]
          rintro e w9 ⟨rfl, b9⟩
          have t0 := (b9.cell (p := ⟨Dy, 0, none⟩) (by exact Nat.lt_of_lt_of_le hDy b8.size)).trans s0
          have t1 := (b9.cell (p := ⟨Dy, 1, none⟩) (by exact Nat.lt_of_lt_of_le hDy b8.size)).trans s1
          refine hK.out _ _ ?_ (fun hHeld => ?_)
          · try dsimp only
            go_keep
          clear hK K
          try simp only [Act.put, List.setIfInBounds_toArray, List.set_cons_zero, List.set_cons_succ]
          refine tk19 (.bool false) (by kernel_rfl) (by kernel_rfl) (by kernel_rfl) (fun _ _ _ h => h) rfl (fun w hSw => by (try dsimp only at hSw); obtain ⟨q0, q1⟩ := hSw; go_simp) (by assumption) ?_
          try simp only [Act.put, List.setIfInBounds_toArray, List.set_cons_zero, List.set_cons_succ]
          refine tk20 (.bool false) (by kernel_rfl) (by kernel_rfl) (by kernel_rfl) (fun _ _ _ h => h) rfl (fun w hSw => by (try dsimp only at hSw); obtain ⟨q0, q1⟩ := hSw; go_simp) (by assumption) ?_
          try simp only [Act.put, List.setIfInBounds_toArray, List.set_cons_zero, List.set_cons_succ]
          refine wpAnyH_done (by kernel_rfl) ?_ _
          have b10 : Below w3.heap.size w3 w9 := bmm (undrew b8) b8.size b9
          have belX : Below B w w9 := bmm belW K3.out.x.base_le b10
          go_wp2
          go_roundw
          case rel => exact ⟨k + 1, who1, l1, _, _, hkl, by omega, by go_num, K3.out.fresh b10, by omega, belX⟩
          case measure => simp [RowKit.intOf]; omega
      · have hke : k = 300 := by omega
        have q0 : decide ((k : Int) < (ds.length : Int)) = true := decide_eq_true (by omega)
        have q1 : decide ((k : Int) < (300 : Int)) = false := decide_eq_false (by omega)
        clear hM
        go_wp2_with (go_at_call 17; refine (awake_any _).mono ?_; rintro e w9 ⟨rfl, b9⟩)
        go_ret
        exact ⟨rfl, bmm bel hBw b9⟩
    · have q0 : decide ((k : Int) < (ds.length : Int)) = false := decide_eq_false (by omega)
      clear hM
      go_wp2_with (go_at_call 17; refine (awake_any _).mono ?_; rintro e w9 ⟨rfl, b9⟩)
      go_ret
      exact ⟨rfl, bmm bel hBw b9⟩
end Go.Proofs.Ytlcacjekpdmigaa
