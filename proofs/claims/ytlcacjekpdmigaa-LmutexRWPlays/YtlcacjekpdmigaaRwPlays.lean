/-
  LmutexRWPlays of layer 8, walked: any deeds on the program's rwlock and on the document's: each answer, who holds it, who waits. The condition: the deeds lie in memory as their reading says.
-/
import Derived.Test.YtlcacjekpdmigaaMxPlays
import Derived.Test.YtlcacjekpdmigaaRTakeB
namespace Go.Proofs.Ytlcacjekpdmigaa
open Go.RowKit

theorem rwGo_got : ∀ (q : List Wt) (L : List Int) (wt : Bool), ∀ x ∈ (rwGo L wt q).1, ∃ y ∈ q, x = y.1
  | [], L, wt, x, hx => by simp [rwGo] at hx
  | y :: q, L, wt, x, hx => by
    rw [rwGo] at hx
    split at hx
    · rcases List.mem_cons.1 hx with h | h
      · exact ⟨y, by simp, h⟩
      · obtain ⟨z, hz, e⟩ := rwGo_got q _ _ x h
        exact ⟨z, List.mem_cons_of_mem _ hz, e⟩
    · simp at hx
theorem rwGo_len : ∀ (q : List Wt) (L : List Int) (wt : Bool), (rwGo L wt q).2.1.length + (rwGo L wt q).2.2.2.length = L.length + q.length ∧ (rwGo L wt q).1.length ≤ q.length
  | [], L, wt => by simp [rwGo]
  | y :: q, L, wt => by
    rw [rwGo]
    split
    · have h := rwGo_len q (putL L y.1) (!y.2.1)
      have h2 := putL_length L y.1
      simp only [List.length_cons]
      omega
    · simp
theorem rwU_ok {L : List Int} {wt : Bool} {q : List Wt} (t : Int) (rd : Bool) (h : ∀ x ∈ q, okI x.1) : ∀ x ∈ (rwU L wt q t rd).1, okI x := fun x hx => by
  unfold rwU at hx
  split at hx
  · simp at hx
  · obtain ⟨y, hy, e⟩ := rwGo_got q _ _ x hx
    rw [e]
    exact h y hy
theorem rwU_len (L : List Int) (wt : Bool) (q : List Wt) (t : Int) (rd : Bool) : (rwU L wt q t rd).2.1.length + (rwU L wt q t rd).2.2.2.length ≤ L.length + q.length ∧ (rwU L wt q t rd).1.length ≤ q.length := by
  unfold rwU
  split
  · simp
  · have h := rwGo_len q (dropL L t) wt
    have h2 := dropL_le L t
    omega
theorem rwSt_len (L : List Int) (wt : Bool) (q : List Wt) (t : Int) (rd : Bool) : (rwSt L wt q t rd).1.length + (rwSt L wt q t rd).2.2.length ≤ L.length + q.length + 1 := by
  unfold rwSt
  split
  · split
    · have := putL_length L t
      simp only
      omega
    · simp
      omega
  · simp only
    omega
theorem RowAt.lt {α : Type} {enc : α → List Value} {w : World} {v : Value} {l : List α} (h : RowAt enc w v l) {bk off n cap : Nat} (h0 : 0 < n) (e : v = .slice (some ⟨bk, off, none⟩) n cap) : bk < w.heap.size := by
  obtain ⟨a, c, e1, _, _, h3⟩ := h.ex
  rw [e] at e1
  simp only [Value.slice.injEq] at e1
  obtain ⟨e1, e2, _⟩ := e1
  rcases h3 with h3 | ⟨bk', off', e4, hb, _⟩
  · omega
  · rw [← e1] at e4
    cases e4
    exact hb
/-- Both rwlocks. -/
structure RD2 (w : World) (B Dx Dy : Nat) (Sx Sy : Nat → Prop) (Lx : List Int) (tx : Bool) (qx : List Wt) (Ly : List Int) (ty : Bool) (qy : List Wt) : Prop where
  x : PRw w B Dx Sx Lx tx qx
  y : RwAt w B Dy Sy Ly ty qy
  ap : ∀ b, Sx b → ¬ Sy b
section
variable {w w' : World} {B Dx Dy : Nat} {Sx Sy S' : Nat → Prop} {Lx Ly L1 : List Int} {tx ty t1 : Bool} {qx qy q1 : List Wt}
theorem RD2.stepX (h : RD2 w B Dx Dy Sx Sy Lx tx qx Ly ty qy) (hx : PRw w' B Dx S' L1 t1 q1) (k : Kept w w' Sx S') : RD2 w' B Dx Dy S' Sy L1 t1 q1 Ly ty qy :=
  ⟨hx, h.y.keep k.size (fun b hb => k.kept b (h.y.bd b hb).2 (fun h1 => h.ap b h1 hb)), apart_old (fun b hb => (h.y.bd b hb).2) h.ap k⟩
theorem RD2.stepY (h : RD2 w B Dx Dy Sx Sy Lx tx qx Ly ty qy) (hy : RwAt w' B Dy S' L1 t1 q1) (k : Kept w w' Sy S') : RD2 w' B Dx Dy Sx S' Lx tx qx L1 t1 q1 :=
  ⟨h.x.keep k.size (fun b hb => k.kept b (h.x.bd b hb).2 (fun h1 => h.ap b hb h1)), hy, fun b h1 h2 => apart_old (fun b hb => (h.x.bd b hb).2) (fun b h3 h4 => h.ap b h4 h3) k b h2 h1⟩
theorem RD2.fresh (h : RD2 w B Dx Dy Sx Sy Lx tx qx Ly ty qy) (k : Below w.heap.size w w') : RD2 w' B Dx Dy Sx Sy Lx tx qx Ly ty qy := ⟨h.x.fresh k, h.y.fresh k, h.ap⟩
end
theorem RwAt.low {w : World} {base base' D : Nat} {S : Nat → Prop} {L : List Int} {wt : Bool} {q : List Wt} (h : RwAt w base D S L wt q) (hb : base' ≤ base) : RwAt w base' D S L wt q :=
  ⟨h.ex, h.sD, fun b hb2 => ⟨Nat.le_trans hb (h.bd b hb2).1, (h.bd b hb2).2⟩, h.lo, h.qlo⟩
theorem RwAt.new (w : World) : RwAt (w.alloc (.cells #[.slice none 0 0, .bool false, .slice none 0 0] RWT)) w.heap.size w.heap.size (fun b => b = w.heap.size) [] false [] :=
  ⟨⟨_, _, heap_alloc_new w _, OwnRow.nil _ _ _, OwnRow.nil _ _ _⟩, rfl, fun b hb => ⟨by omega, by simp; omega⟩, fun x hx => (by cases hx), fun x hx => (by cases hx)⟩
theorem RD2.start {w1 : World} {B Dx : Nat} {Sx : Nat → Prop} (h1 : PRw w1 B Dx Sx [] false []) : RD2 (w1.alloc (.cells #[.slice none 0 0, .bool false, .slice none 0 0] RWT)) B Dx w1.heap.size Sx (fun b => b = w1.heap.size) [] false [] [] false [] :=
  ⟨h1.fresh ((Below.refl _ w1).alloc (Nat.le_refl _) _), (RwAt.new w1).low h1.base_le, fun b h3 h4 => by have := (h1.bd b h3).2; omega⟩
set_option maxHeartbeats 12800000 in
set_option maxRecDepth 100000 in
theorem rwplays_walk (w : World) (v : Value) (ds : List Wt) (hv : RowAt waitC w v ds) (hlo : ∀ x ∈ ds, okI x.1) (hmx : ds.length ≤ 9223372036854775807) :
    Calls Try.prog 4 #[v] w fun e w' => e = .returned (.bool true) ∧ Below w.heap.size w w' := by
  have hn := pr_new w
  obtain ⟨a, cap, rfl⟩ := hv.form
  obtain ⟨B, hB⟩ : ∃ B, B = w.heap.size := ⟨_, rfl⟩
  have HBE : Hid (B = w.heap.size) := hB
  rw [← hB] at hn ⊢
  have HA : Hid _ := hv
  have HLO : Hid _ := hlo
  clear hv hlo hB
  go_enter Try.func4, Try.ntmps4
  go_wp2_with (go_at_call 18; refine hn.mono ?_; rintro e w1 ⟨Dx, Sx, rfl, k1, b1⟩)
  have hst := RD2.start k1
  have HST : Hid _ := hst
  have HST2 : Hid _ := b1.alloc k1.base_le (.cells #[.slice none 0 0, .bool false, .slice none 0 0] RWT)
  clear hst k1 b1 hn
  obtain ⟨Dy, hDy⟩ : ∃ Dy, Dy = w1.heap.size := ⟨_, rfl⟩
  rw [← hDy] at HST ⊢
  clear hDy
  go_loopw [5, 6, 7, 8, 9, 10, 11, 12, 13, 14, 15, 16, 17] (fun i _ _ _ _ _ _ _ _ _ _ _ _ wr => ∃ (k : Nat) (L : List Int) (wt : Bool) (q : List Wt) (Sx Sy : Nat → Prop), k ≤ ds.length ∧ k ≤ 300 ∧ i = .int .i64 k ∧ RD2 wr B Dx Dy Sx Sy L wt q L wt q ∧ L.length + q.length ≤ k ∧ Below B w wr) (fun i _ _ _ _ _ _ _ _ _ _ _ _ _ => ds.length - (RowKit.intOf i).toNat)
  case atStart => exact ⟨0, [], false, [], _, _, Nat.zero_le _, Nat.zero_le _, rfl, HST.out, Nat.le_refl _, HST2.out⟩
  case round =>
    clear HST HST2
    obtain ⟨k, L, wt, q, Sx, Sy, hk, hk2, rfl, hM, hlk, bel⟩ := hrel
    have hBw : B ≤ wr.heap.size := hM.x.base_le
    by_cases hkl : k < ds.length
    · by_cases hkm : k < 300
      · have q0 : decide ((k : Int) < (ds.length : Int)) = true := decide_eq_true (by omega)
        have q1 : decide ((k : Int) < (300 : Int)) = true := decide_eq_true (by omega)
        obtain ⟨bk, off, cp, e, _, hbk, hx⟩ := HA.out.cells waitC_len (by omega)
        simp only [Value.slice.injEq] at e
        obtain ⟨rfl, _, rfl⟩ := e
        rw [← HBE.out] at hbk
        have z0 := (bel.cell (p := ⟨bk, off + k * 3, none⟩) (by exact hbk)).trans (hx k hkl 0 _ (by decide) rfl)
        have z1 := (bel.cell (p := ⟨bk, off + k * 3 + 1, none⟩) (by exact hbk)).trans (hx k hkl 1 _ (by decide) rfl)
        have z2 := (bel.cell (p := ⟨bk, off + k * 3 + 2, none⟩) (by exact hbk)).trans (hx k hkl 2 _ (by decide) rfl)
        have hok := HLO.out _ (List.getElem_mem hkl)
        clear hx
        generalize ds[k] = D at *
        obtain ⟨t, un, rd⟩ := D
        simp only at z0 z1 z2 hok
        have HM : Hid _ := hM
        clear hM
        obtain ⟨u, hue⟩ : ∃ u, u = wr.alloc (.cells #[.int .i64 t, .bool un, .bool rd] 28) := ⟨_, rfl⟩
        have bu : Below wr.heap.size wr u := by rw [hue]; exact (Below.refl _ wr).alloc (Nat.le_refl _) _
        have hbu : u.heap[wr.heap.size]? = some (.cells #[.int .i64 t, .bool un, .bool rd] 28 (0, 0)) := by rw [hue]; exact heap_alloc_new wr _
        have hU := HM.out.fresh bu
        have hbl := lt_of_block hbu
        have e0 : u.cell? ⟨wr.heap.size, 0, none⟩ = some (.int .i64 t) := by simp [World.cell?, hbu]
        have e2 : u.cell? ⟨wr.heap.size, 2, none⟩ = some (.bool rd) := by simp [World.cell?, hbu]
        have hbx : ¬ Sx wr.heap.size := fun h => by have := (HM.out.x.bd _ h).2; omega
        have belU : Below B w u := bmm bel hBw bu
        have HUE : Hid _ := hue
        have HU : Hid _ := hU
        clear hue hbu hU bu HM bel
        cases un with
        | true =>
          have HGO : Hid _ := rwU_ok (L := L) (wt := wt) t rd HU.out.y.qlo
          have hsg : sameB (rwU L wt q t rd).1 (rwU L wt q t rd).1 = true := decide_eq_true rfl
          have hle := rwU_len L wt q t rd
          go_wp2_with (first
            | (go_at_call 23; have k4 := k3.fresh b4; refine (pr_holders k4.x).mono ?_; rintro e w5 ⟨u5, rfl, r5, b5⟩)
            | (go_at_call 15; refine (ints_same _ _ _ _ _ (gx3.ints HGO.out (by omega)) (gy3.ints HGO.out (by omega))).mono ?_; rw [hsg]; rintro e w4 ⟨rfl, b4⟩)
            | (go_at_call 20; refine (rwunlock_any k2.y t rd (by omega)).mono ?_; rintro e w3 ⟨uy, rfl, gy3, Sy3, g3, kk3⟩; have gx3 := gx2.keep kk3.size (fun bq oq nq cq h0 eq => kk3.kept bq (RowAt.lt gx2 h0 eq) (fun hs => absurd (HU.out.y.bd bq hs).2 (Nat.not_lt.2 (nx2 bq oq nq cq h0 eq)))); have k3 := k2.stepY g3 kk3; have b3 := k2.y.below kk3; clear k2)
            | (go_at_call 19; rw [← HUE.out]; refine (pr_unlock HU.out.x t hok rd (by omega)).mono ?_; rintro e w2 ⟨ux, rfl, gx2, nx2, Sx2, g2, kk2⟩; have k2 := HU.out.stepX g2 kk2; have b2 := HU.out.x.below kk2; have x0 := (World.cell?_of_block (kk2.kept wr.heap.size hbl hbx)).trans e0; have x2 := (World.cell?_of_block (kk2.kept wr.heap.size hbl hbx)).trans e2))
          have belW : Below B w w5 := bmm (bmm ((belU.trans b2).trans b3) k3.x.base_le b4) k4.x.base_le b5
          have k5 := k4.fresh b5
          generalize hL1 : (rwU L wt q t rd).2.1 = L1 at k5 r5 hle k4
          generalize hq1 : (rwU L wt q t rd).2.2.2 = qq1 at k5 hle k4
          generalize hT1 : (rwU L wt q t rd).2.2.1 = T1 at k5 k4
          have K5 : Hid _ := k5
          obtain ⟨ay, cy, by', cy2, hby, y0, y1, y2, _, _, _, hol, hoq, hDy⟩ := k5.y.cells
          have HIX : Hid _ := r5.ints k5.y.lo (by omega)
          have HIY : Hid _ := hol.at'.ints k5.y.lo (by omega)
          have HQY : Hid _ := hoq.at'
          have hsame : sameB L1 L1 = true := decide_eq_true rfl
          have hwsame : wsameB qq1 qq1 = true := decide_eq_true rfl
          clear hby hol hoq k5 r5 k4 HU HUE hL1 hq1 hT1 belU z0 z1 z2 b2 b3 b5 x0 x2 e0 e2 g2 kk2 g3 kk3 gx3 gy3 gx2 nx2 hsg HGO b4 k3
          cases T1 with
          | true =>
            go_wp2
            refine wp_region_held_drew (S := (fun w' : World => w'.cell? ⟨Dy, 0, none⟩ = some (.slice ay L1.length cy) ∧ w'.cell? ⟨Dy, 1, none⟩ = some (.bool true) ∧ w'.cell? ⟨Dy, 2, none⟩ = some (.slice by' qq1.length cy2))) (by kernel_rfl) ?_ (fun hHeld0 => ?_)
            · try dsimp only
              go_keep
            refine tk0 (.bool true) (by kernel_rfl) (by kernel_rfl) (by kernel_rfl) (fun _ _ _ h => h) rfl (fun w hSw => by (try dsimp only at hSw); obtain ⟨q0, q1, q2⟩ := hSw; go_simp) (by assumption) ?_
            try simp only [Act.put, List.setIfInBounds_toArray, List.set_cons_zero, List.set_cons_succ]
            refine tk1 (.bool false) (by kernel_rfl) (by kernel_rfl) (by kernel_rfl) (fun _ _ _ h => h) rfl (fun w hSw => by (try dsimp only at hSw); obtain ⟨q0, q1, q2⟩ := hSw; go_simp) (by assumption) ?_
            try simp only [Act.put, List.setIfInBounds_toArray, List.set_cons_zero, List.set_cons_succ]
            refine tk2 (.bool false) (by kernel_rfl) (by kernel_rfl) (by kernel_rfl) (fun _ _ _ h => h) rfl (fun w hSw => by (try dsimp only at hSw); obtain ⟨q0, q1, q2⟩ := hSw; go_simp) (by assumption) ?_
            try simp only [Act.put, List.setIfInBounds_toArray, List.set_cons_zero, List.set_cons_succ]
            refine tk3 (u5) (by kernel_rfl) (by kernel_rfl) (by kernel_rfl) (fun _ _ _ h => h) rfl (fun w hSw => by (try dsimp only at hSw); obtain ⟨q0, q1, q2⟩ := hSw; go_simp) (by assumption) ?_
            try simp only [Act.put, List.setIfInBounds_toArray, List.set_cons_zero, List.set_cons_succ]
            refine tk4 (.pointer (some ⟨Dy, 0, none⟩)) (by kernel_rfl) (by kernel_rfl) (by kernel_rfl) (fun _ _ _ h => h) rfl (fun w hSw => by (try dsimp only at hSw); obtain ⟨q0, q1, q2⟩ := hSw; go_simp) (by assumption) ?_
            try simp only [Act.put, List.setIfInBounds_toArray, List.set_cons_zero, List.set_cons_succ]
            refine tk5 (.pointer (some ⟨Dy, 0, none⟩)) (by kernel_rfl) (by kernel_rfl) (by kernel_rfl) (fun _ _ _ h => h) rfl (fun w hSw => by (try dsimp only at hSw); obtain ⟨q0, q1, q2⟩ := hSw; go_simp) (by assumption) ?_
            try simp only [Act.put, List.setIfInBounds_toArray, List.set_cons_zero, List.set_cons_succ]
            refine tk6 (.pointer (some ⟨Dy, 0, none⟩)) (by kernel_rfl) (by kernel_rfl) (by kernel_rfl) (fun _ _ _ h => h) rfl (fun w hSw => by (try dsimp only at hSw); obtain ⟨q0, q1, q2⟩ := hSw; go_simp) (by assumption) ?_
            try simp only [Act.put, List.setIfInBounds_toArray, List.set_cons_zero, List.set_cons_succ]
            refine tk7 (.slice ay L1.length cy) (by kernel_rfl) (by kernel_rfl) (by kernel_rfl) (fun _ _ _ h => h) rfl (fun w hSw => by (try dsimp only at hSw); obtain ⟨q0, q1, q2⟩ := hSw; go_simp) (by assumption) ?_
            try simp only [Act.put, List.setIfInBounds_toArray, List.set_cons_zero, List.set_cons_succ]
            refine cl8 (by kernel_rfl) rfl (fun K hK => ?_)
            go_simp
            go_at_call 15
            refine (ints_same w5.drew _ _ L1 L1 (ints_fresh HIX.out (undrB2 (Below.refl _ _))) (ints_fresh HIY.out (undrB2 (Below.refl _ _)))).mono ?_
            rw [hsame]
            rintro e w7 ⟨rfl, b7⟩
            have s0 := (b7.cell (p := ⟨Dy, 0, none⟩) (by exact hDy)).trans y0
            have s1 := (b7.cell (p := ⟨Dy, 1, none⟩) (by exact hDy)).trans y1
            have s2 := (b7.cell (p := ⟨Dy, 2, none⟩) (by exact hDy)).trans y2
            refine hK.out _ _ ?_ (fun hHeld => ?_)
            · try dsimp only
              go_keep
            clear hK K
            try simp only [Act.put, List.setIfInBounds_toArray, List.set_cons_zero, List.set_cons_succ]
            refine tk9 (.bool false) (by kernel_rfl) (by kernel_rfl) (by kernel_rfl) (fun _ _ _ h => h) rfl (fun w hSw => by (try dsimp only at hSw); obtain ⟨q0, q1, q2⟩ := hSw; go_simp) (by assumption) ?_
            try simp only [Act.put, List.setIfInBounds_toArray, List.set_cons_zero, List.set_cons_succ]
            refine tk10 (.bool false) (by kernel_rfl) (by kernel_rfl) (by kernel_rfl) (fun _ _ _ h => h) rfl (fun w hSw => by (try dsimp only at hSw); obtain ⟨q0, q1, q2⟩ := hSw; go_simp) (by assumption) ?_
            try simp only [Act.put, List.setIfInBounds_toArray, List.set_cons_zero, List.set_cons_succ]
            refine tk11 (.bool false) (by kernel_rfl) (by kernel_rfl) (by kernel_rfl) (fun _ _ _ h => h) rfl (fun w hSw => by (try dsimp only at hSw); obtain ⟨q0, q1, q2⟩ := hSw; go_simp) (by assumption) ?_
            try simp only [Act.put, List.setIfInBounds_toArray, List.set_cons_zero, List.set_cons_succ]
            refine tk12 (.bool (decide (0 < L1.length))) (by kernel_rfl) (by kernel_rfl) (by kernel_rfl) (fun _ _ _ h => h) rfl (fun w hSw => by (try dsimp only at hSw); obtain ⟨q0, q1, q2⟩ := hSw; go_simp) (by assumption) ?_
            try simp only [Act.put, List.setIfInBounds_toArray, List.set_cons_zero, List.set_cons_succ]
            refine tk13 (.pointer (some ⟨Dy, 0, none⟩)) (by kernel_rfl) (by kernel_rfl) (by kernel_rfl) (fun _ _ _ h => h) rfl (fun w hSw => by (try dsimp only at hSw); obtain ⟨q0, q1, q2⟩ := hSw; go_simp) (by assumption) ?_
            try simp only [Act.put, List.setIfInBounds_toArray, List.set_cons_zero, List.set_cons_succ]
            refine tk14 (.pointer (some ⟨Dy, 0, none⟩)) (by kernel_rfl) (by kernel_rfl) (by kernel_rfl) (fun _ _ _ h => h) rfl (fun w hSw => by (try dsimp only at hSw); obtain ⟨q0, q1, q2⟩ := hSw; go_simp) (by assumption) ?_
            try simp only [Act.put, List.setIfInBounds_toArray, List.set_cons_zero, List.set_cons_succ]
            refine tk15 (.pointer (some ⟨Dy, 1, none⟩)) (by kernel_rfl) (by kernel_rfl) (by kernel_rfl) (fun _ _ _ h => h) rfl (fun w hSw => by (try dsimp only at hSw); obtain ⟨q0, q1, q2⟩ := hSw; go_simp) (by assumption) ?_
            try simp only [Act.put, List.setIfInBounds_toArray, List.set_cons_zero, List.set_cons_succ]
            refine tk16 (.bool true) (by kernel_rfl) (by kernel_rfl) (by kernel_rfl) (fun _ _ _ h => h) rfl (fun w hSw => by (try dsimp only at hSw); obtain ⟨q0, q1, q2⟩ := hSw; go_simp) (by assumption) ?_
            try simp only [Act.put, List.setIfInBounds_toArray, List.set_cons_zero, List.set_cons_succ]
            refine tk17 (.bool true) (by kernel_rfl) (by kernel_rfl) (by kernel_rfl) (fun _ _ _ h => h) rfl (fun w hSw => by (try dsimp only at hSw); obtain ⟨q0, q1, q2⟩ := hSw; go_simp) (by assumption) ?_
            try simp only [Act.put, List.setIfInBounds_toArray, List.set_cons_zero, List.set_cons_succ]
            refine tk18 (.pointer (some ⟨Dy, 0, none⟩)) (by kernel_rfl) (by kernel_rfl) (by kernel_rfl) (fun _ _ _ h => h) rfl (fun w hSw => by (try dsimp only at hSw); obtain ⟨q0, q1, q2⟩ := hSw; go_simp) (by assumption) ?_
            try simp only [Act.put, List.setIfInBounds_toArray, List.set_cons_zero, List.set_cons_succ]
            refine tk19 (.pointer (some ⟨Dy, 0, none⟩)) (by kernel_rfl) (by kernel_rfl) (by kernel_rfl) (fun _ _ _ h => h) rfl (fun w hSw => by (try dsimp only at hSw); obtain ⟨q0, q1, q2⟩ := hSw; go_simp) (by assumption) ?_
            try simp only [Act.put, List.setIfInBounds_toArray, List.set_cons_zero, List.set_cons_succ]
            refine tk20 (.pointer (some ⟨Dy, 0, none⟩)) (by kernel_rfl) (by kernel_rfl) (by kernel_rfl) (fun _ _ _ h => h) rfl (fun w hSw => by (try dsimp only at hSw); obtain ⟨q0, q1, q2⟩ := hSw; go_simp) (by assumption) ?_
            try simp only [Act.put, List.setIfInBounds_toArray, List.set_cons_zero, List.set_cons_succ]
            refine tk21 (.slice ay L1.length cy) (by kernel_rfl) (by kernel_rfl) (by kernel_rfl) (fun _ _ _ h => h) rfl (fun w hSw => by (try dsimp only at hSw); obtain ⟨q0, q1, q2⟩ := hSw; go_simp) (by assumption) ?_
            try simp only [Act.put, List.setIfInBounds_toArray, List.set_cons_zero, List.set_cons_succ]
            refine tk22 (.int .i64 (L1.length : Int)) (by kernel_rfl) (by kernel_rfl) (by kernel_rfl) (fun _ _ _ h => h) rfl (fun w hSw => by (try dsimp only at hSw); obtain ⟨q0, q1, q2⟩ := hSw; go_simp) (by assumption) ?_
            try simp only [Act.put, List.setIfInBounds_toArray, List.set_cons_zero, List.set_cons_succ]
            refine tk23 (.bool (decide (0 < L1.length))) (by kernel_rfl) (by kernel_rfl) (by kernel_rfl) (fun _ _ _ h => h) rfl (fun w hSw => by (try dsimp only at hSw); obtain ⟨q0, q1, q2⟩ := hSw; go_simp) (by assumption) ?_
            try simp only [Act.put, List.setIfInBounds_toArray, List.set_cons_zero, List.set_cons_succ]
            refine tk24 (.bool (decide (0 < L1.length))) (by kernel_rfl) (by kernel_rfl) (by kernel_rfl) (fun _ _ _ h => h) rfl (fun w hSw => by (try dsimp only at hSw); obtain ⟨q0, q1, q2⟩ := hSw; go_simp) (by assumption) ?_
            try simp only [Act.put, List.setIfInBounds_toArray, List.set_cons_zero, List.set_cons_succ]
            refine tk25 (.bool false) (by kernel_rfl) (by kernel_rfl) (by kernel_rfl) (fun _ _ _ h => h) rfl (fun w hSw => by (try dsimp only at hSw); obtain ⟨q0, q1, q2⟩ := hSw; go_simp) (by assumption) ?_
            try simp only [Act.put, List.setIfInBounds_toArray, List.set_cons_zero, List.set_cons_succ]
            refine tk26 (.bool false) (by kernel_rfl) (by kernel_rfl) (by kernel_rfl) (fun _ _ _ h => h) rfl (fun w hSw => by (try dsimp only at hSw); obtain ⟨q0, q1, q2⟩ := hSw; go_simp) (by assumption) ?_
            try simp only [Act.put, List.setIfInBounds_toArray, List.set_cons_zero, List.set_cons_succ]
            refine tk27 (.bool false) (by kernel_rfl) (by kernel_rfl) (by kernel_rfl) (fun _ _ _ h => h) rfl (fun w hSw => by (try dsimp only at hSw); obtain ⟨q0, q1, q2⟩ := hSw; go_simp) (by assumption) ?_
            try simp only [Act.put, List.setIfInBounds_toArray, List.set_cons_zero, List.set_cons_succ]
            refine tk28 (.pointer (some ⟨Dx, 0, none⟩)) (by kernel_rfl) (by kernel_rfl) (by kernel_rfl) (fun _ _ _ h => h) rfl (fun w hSw => by (try dsimp only at hSw); obtain ⟨q0, q1, q2⟩ := hSw; go_simp) (by assumption) ?_
            try simp only [Act.put, List.setIfInBounds_toArray, List.set_cons_zero, List.set_cons_succ]
            refine tk30 (.pointer (some ⟨Dy, 0, none⟩)) (by kernel_rfl) (by kernel_rfl) (by kernel_rfl) (fun _ _ _ h => h) rfl (fun w hSw => by (try dsimp only at hSw); obtain ⟨q0, q1, q2⟩ := hSw; go_simp) (by assumption) ?_
            try simp only [Act.put, List.setIfInBounds_toArray, List.set_cons_zero, List.set_cons_succ]
            refine tk31 (.pointer (some ⟨Dy, 0, none⟩)) (by kernel_rfl) (by kernel_rfl) (by kernel_rfl) (fun _ _ _ h => h) rfl (fun w hSw => by (try dsimp only at hSw); obtain ⟨q0, q1, q2⟩ := hSw; go_simp) (by assumption) ?_
            try simp only [Act.put, List.setIfInBounds_toArray, List.set_cons_zero, List.set_cons_succ]
            refine tk32 (.pointer (some ⟨Dy, 2, none⟩)) (by kernel_rfl) (by kernel_rfl) (by kernel_rfl) (fun _ _ _ h => h) rfl (fun w hSw => by (try dsimp only at hSw); obtain ⟨q0, q1, q2⟩ := hSw; go_simp) (by assumption) ?_
            try simp only [Act.put, List.setIfInBounds_toArray, List.set_cons_zero, List.set_cons_succ]
            refine tk33 (.slice by' qq1.length cy2) (by kernel_rfl) (by kernel_rfl) (by kernel_rfl) (fun _ _ _ h => h) rfl (fun w hSw => by (try dsimp only at hSw); obtain ⟨q0, q1, q2⟩ := hSw; go_simp) (by assumption) ?_
            try simp only [Act.put, List.setIfInBounds_toArray, List.set_cons_zero, List.set_cons_succ]
            refine cl29 (by kernel_rfl) rfl (fun K hK => ?_)
            go_simp
            go_at_call 25
            refine (pr_queue (K5.out.fresh (undrew b7)).x).mono ?_
            rintro e w8 ⟨u8, rfl, r8, b8⟩
            have p0 := (b8.cell (p := ⟨Dy, 0, none⟩) (by exact Nat.lt_of_lt_of_le hDy b7.size)).trans s0
            have p1 := (b8.cell (p := ⟨Dy, 1, none⟩) (by exact Nat.lt_of_lt_of_le hDy b7.size)).trans s1
            have p2 := (b8.cell (p := ⟨Dy, 2, none⟩) (by exact Nat.lt_of_lt_of_le hDy b7.size)).trans s2
            refine hK.out _ _ ?_ (fun hHeld => ?_)
            · try dsimp only
              go_keep
            clear hK K
            try simp only [Act.put, List.setIfInBounds_toArray, List.set_cons_zero, List.set_cons_succ]
            refine cl34 (by kernel_rfl) rfl (fun K hK => ?_)
            go_simp
            go_at_call 24
            refine (waits_same w8 _ _ qq1 qq1 r8 (HQY.out.fresh (bmm (undrew b7) b7.size b8)) (by omega)).mono ?_
            rw [hwsame]
            rintro e w9 ⟨rfl, b9⟩
            have o0 := (b9.cell (p := ⟨Dy, 0, none⟩) (by exact Nat.lt_of_lt_of_le (Nat.lt_of_lt_of_le hDy b7.size) b8.size)).trans p0
            have o1 := (b9.cell (p := ⟨Dy, 1, none⟩) (by exact Nat.lt_of_lt_of_le (Nat.lt_of_lt_of_le hDy b7.size) b8.size)).trans p1
            have o2 := (b9.cell (p := ⟨Dy, 2, none⟩) (by exact Nat.lt_of_lt_of_le (Nat.lt_of_lt_of_le hDy b7.size) b8.size)).trans p2
            refine hK.out _ _ ?_ (fun hHeld => ?_)
            · try dsimp only
              go_keep
            clear hK K
            try simp only [Act.put, List.setIfInBounds_toArray, List.set_cons_zero, List.set_cons_succ]
            refine tk35 (.bool false) (by kernel_rfl) (by kernel_rfl) (by kernel_rfl) (fun _ _ _ h => h) rfl (fun w hSw => by (try dsimp only at hSw); obtain ⟨q0, q1, q2⟩ := hSw; go_simp) (by assumption) ?_
            try simp only [Act.put, List.setIfInBounds_toArray, List.set_cons_zero, List.set_cons_succ]
            refine tk36 (.bool false) (by kernel_rfl) (by kernel_rfl) (by kernel_rfl) (fun _ _ _ h => h) rfl (fun w hSw => by (try dsimp only at hSw); obtain ⟨q0, q1, q2⟩ := hSw; go_simp) (by assumption) ?_
            try simp only [Act.put, List.setIfInBounds_toArray, List.set_cons_zero, List.set_cons_succ]
            refine wpAnyH_done (by kernel_rfl) ?_ _
            have b10 : Below w5.heap.size w5 w9 := bmm (bmm (undrew b7) b7.size b8) (Nat.le_trans b7.size b8.size) b9
            have belX : Below B w w9 := bmm belW K5.out.x.base_le b10
            go_wp2
            go_roundw
            case rel => exact ⟨k + 1, L1, _, qq1, _, _, hkl, by omega, by go_num, K5.out.fresh b10, by omega, belX⟩
            case measure => simp [RowKit.intOf]; omega
          | false =>
            go_wp2
            refine wp_region_held_drew (S := (fun w' : World => w'.cell? ⟨Dy, 0, none⟩ = some (.slice ay L1.length cy) ∧ w'.cell? ⟨Dy, 1, none⟩ = some (.bool false) ∧ w'.cell? ⟨Dy, 2, none⟩ = some (.slice by' qq1.length cy2))) (by kernel_rfl) ?_ (fun hHeld0 => ?_)
            · try dsimp only
              go_keep
            refine tk0 (.bool true) (by kernel_rfl) (by kernel_rfl) (by kernel_rfl) (fun _ _ _ h => h) rfl (fun w hSw => by (try dsimp only at hSw); obtain ⟨q0, q1, q2⟩ := hSw; go_simp) (by assumption) ?_
            try simp only [Act.put, List.setIfInBounds_toArray, List.set_cons_zero, List.set_cons_succ]
            refine tk1 (.bool false) (by kernel_rfl) (by kernel_rfl) (by kernel_rfl) (fun _ _ _ h => h) rfl (fun w hSw => by (try dsimp only at hSw); obtain ⟨q0, q1, q2⟩ := hSw; go_simp) (by assumption) ?_
            try simp only [Act.put, List.setIfInBounds_toArray, List.set_cons_zero, List.set_cons_succ]
            refine tk2 (.bool false) (by kernel_rfl) (by kernel_rfl) (by kernel_rfl) (fun _ _ _ h => h) rfl (fun w hSw => by (try dsimp only at hSw); obtain ⟨q0, q1, q2⟩ := hSw; go_simp) (by assumption) ?_
            try simp only [Act.put, List.setIfInBounds_toArray, List.set_cons_zero, List.set_cons_succ]
            refine tk3 (u5) (by kernel_rfl) (by kernel_rfl) (by kernel_rfl) (fun _ _ _ h => h) rfl (fun w hSw => by (try dsimp only at hSw); obtain ⟨q0, q1, q2⟩ := hSw; go_simp) (by assumption) ?_
            try simp only [Act.put, List.setIfInBounds_toArray, List.set_cons_zero, List.set_cons_succ]
            refine tk4 (.pointer (some ⟨Dy, 0, none⟩)) (by kernel_rfl) (by kernel_rfl) (by kernel_rfl) (fun _ _ _ h => h) rfl (fun w hSw => by (try dsimp only at hSw); obtain ⟨q0, q1, q2⟩ := hSw; go_simp) (by assumption) ?_
            try simp only [Act.put, List.setIfInBounds_toArray, List.set_cons_zero, List.set_cons_succ]
            refine tk5 (.pointer (some ⟨Dy, 0, none⟩)) (by kernel_rfl) (by kernel_rfl) (by kernel_rfl) (fun _ _ _ h => h) rfl (fun w hSw => by (try dsimp only at hSw); obtain ⟨q0, q1, q2⟩ := hSw; go_simp) (by assumption) ?_
            try simp only [Act.put, List.setIfInBounds_toArray, List.set_cons_zero, List.set_cons_succ]
            refine tk6 (.pointer (some ⟨Dy, 0, none⟩)) (by kernel_rfl) (by kernel_rfl) (by kernel_rfl) (fun _ _ _ h => h) rfl (fun w hSw => by (try dsimp only at hSw); obtain ⟨q0, q1, q2⟩ := hSw; go_simp) (by assumption) ?_
            try simp only [Act.put, List.setIfInBounds_toArray, List.set_cons_zero, List.set_cons_succ]
            refine tk7 (.slice ay L1.length cy) (by kernel_rfl) (by kernel_rfl) (by kernel_rfl) (fun _ _ _ h => h) rfl (fun w hSw => by (try dsimp only at hSw); obtain ⟨q0, q1, q2⟩ := hSw; go_simp) (by assumption) ?_
            try simp only [Act.put, List.setIfInBounds_toArray, List.set_cons_zero, List.set_cons_succ]
            refine cl8 (by kernel_rfl) rfl (fun K hK => ?_)
            go_simp
            go_at_call 15
            refine (ints_same w5.drew _ _ L1 L1 (ints_fresh HIX.out (undrB2 (Below.refl _ _))) (ints_fresh HIY.out (undrB2 (Below.refl _ _)))).mono ?_
            rw [hsame]
            rintro e w7 ⟨rfl, b7⟩
            have s0 := (b7.cell (p := ⟨Dy, 0, none⟩) (by exact hDy)).trans y0
            have s1 := (b7.cell (p := ⟨Dy, 1, none⟩) (by exact hDy)).trans y1
            have s2 := (b7.cell (p := ⟨Dy, 2, none⟩) (by exact hDy)).trans y2
            refine hK.out _ _ ?_ (fun hHeld => ?_)
            · try dsimp only
              go_keep
            clear hK K
            try simp only [Act.put, List.setIfInBounds_toArray, List.set_cons_zero, List.set_cons_succ]
            refine tk9 (.bool false) (by kernel_rfl) (by kernel_rfl) (by kernel_rfl) (fun _ _ _ h => h) rfl (fun w hSw => by (try dsimp only at hSw); obtain ⟨q0, q1, q2⟩ := hSw; go_simp) (by assumption) ?_
            try simp only [Act.put, List.setIfInBounds_toArray, List.set_cons_zero, List.set_cons_succ]
            refine tk10 (.bool false) (by kernel_rfl) (by kernel_rfl) (by kernel_rfl) (fun _ _ _ h => h) rfl (fun w hSw => by (try dsimp only at hSw); obtain ⟨q0, q1, q2⟩ := hSw; go_simp) (by assumption) ?_
            try simp only [Act.put, List.setIfInBounds_toArray, List.set_cons_zero, List.set_cons_succ]
            refine tk11 (.bool false) (by kernel_rfl) (by kernel_rfl) (by kernel_rfl) (fun _ _ _ h => h) rfl (fun w hSw => by (try dsimp only at hSw); obtain ⟨q0, q1, q2⟩ := hSw; go_simp) (by assumption) ?_
            try simp only [Act.put, List.setIfInBounds_toArray, List.set_cons_zero, List.set_cons_succ]
            refine tk12 (.bool false) (by kernel_rfl) (by kernel_rfl) (by kernel_rfl) (fun _ _ _ h => h) rfl (fun w hSw => by (try dsimp only at hSw); obtain ⟨q0, q1, q2⟩ := hSw; go_simp) (by assumption) ?_
            try simp only [Act.put, List.setIfInBounds_toArray, List.set_cons_zero, List.set_cons_succ]
            refine tk13 (.pointer (some ⟨Dy, 0, none⟩)) (by kernel_rfl) (by kernel_rfl) (by kernel_rfl) (fun _ _ _ h => h) rfl (fun w hSw => by (try dsimp only at hSw); obtain ⟨q0, q1, q2⟩ := hSw; go_simp) (by assumption) ?_
            try simp only [Act.put, List.setIfInBounds_toArray, List.set_cons_zero, List.set_cons_succ]
            refine tk14 (.pointer (some ⟨Dy, 0, none⟩)) (by kernel_rfl) (by kernel_rfl) (by kernel_rfl) (fun _ _ _ h => h) rfl (fun w hSw => by (try dsimp only at hSw); obtain ⟨q0, q1, q2⟩ := hSw; go_simp) (by assumption) ?_
            try simp only [Act.put, List.setIfInBounds_toArray, List.set_cons_zero, List.set_cons_succ]
            refine tk15 (.pointer (some ⟨Dy, 1, none⟩)) (by kernel_rfl) (by kernel_rfl) (by kernel_rfl) (fun _ _ _ h => h) rfl (fun w hSw => by (try dsimp only at hSw); obtain ⟨q0, q1, q2⟩ := hSw; go_simp) (by assumption) ?_
            try simp only [Act.put, List.setIfInBounds_toArray, List.set_cons_zero, List.set_cons_succ]
            refine tk16 (.bool false) (by kernel_rfl) (by kernel_rfl) (by kernel_rfl) (fun _ _ _ h => h) rfl (fun w hSw => by (try dsimp only at hSw); obtain ⟨q0, q1, q2⟩ := hSw; go_simp) (by assumption) ?_
            try simp only [Act.put, List.setIfInBounds_toArray, List.set_cons_zero, List.set_cons_succ]
            refine tk17 (.bool false) (by kernel_rfl) (by kernel_rfl) (by kernel_rfl) (fun _ _ _ h => h) rfl (fun w hSw => by (try dsimp only at hSw); obtain ⟨q0, q1, q2⟩ := hSw; go_simp) (by assumption) ?_
            try simp only [Act.put, List.setIfInBounds_toArray, List.set_cons_zero, List.set_cons_succ]
            refine sk18 (by kernel_rfl) (by kernel_rfl) (by kernel_rfl) (fun _ _ _ h => h) rfl (by assumption) ?_
            try simp only [Act.put, List.setIfInBounds_toArray, List.set_cons_zero, List.set_cons_succ]
            refine sk19 (by kernel_rfl) (by kernel_rfl) (by kernel_rfl) (fun _ _ _ h => h) rfl (by assumption) ?_
            try simp only [Act.put, List.setIfInBounds_toArray, List.set_cons_zero, List.set_cons_succ]
            refine sk20 (by kernel_rfl) (by kernel_rfl) (by kernel_rfl) (fun _ _ _ h => h) rfl (by assumption) ?_
            try simp only [Act.put, List.setIfInBounds_toArray, List.set_cons_zero, List.set_cons_succ]
            refine sk21 (by kernel_rfl) (by kernel_rfl) (by kernel_rfl) (fun _ _ _ h => h) rfl (by assumption) ?_
            try simp only [Act.put, List.setIfInBounds_toArray, List.set_cons_zero, List.set_cons_succ]
            refine sk22 (by kernel_rfl) (by kernel_rfl) (by kernel_rfl) (fun _ _ _ h => h) rfl (by assumption) ?_
            try simp only [Act.put, List.setIfInBounds_toArray, List.set_cons_zero, List.set_cons_succ]
            refine sk23 (by kernel_rfl) (by kernel_rfl) (by kernel_rfl) (fun _ _ _ h => h) rfl (by assumption) ?_
            try simp only [Act.put, List.setIfInBounds_toArray, List.set_cons_zero, List.set_cons_succ]
            refine tk24 (.bool false) (by kernel_rfl) (by kernel_rfl) (by kernel_rfl) (fun _ _ _ h => h) rfl (fun w hSw => by (try dsimp only at hSw); obtain ⟨q0, q1, q2⟩ := hSw; go_simp) (by assumption) ?_
            try simp only [Act.put, List.setIfInBounds_toArray, List.set_cons_zero, List.set_cons_succ]
            refine tk25 (.bool false) (by kernel_rfl) (by kernel_rfl) (by kernel_rfl) (fun _ _ _ h => h) rfl (fun w hSw => by (try dsimp only at hSw); obtain ⟨q0, q1, q2⟩ := hSw; go_simp) (by assumption) ?_
            try simp only [Act.put, List.setIfInBounds_toArray, List.set_cons_zero, List.set_cons_succ]
            refine tk26 (.bool false) (by kernel_rfl) (by kernel_rfl) (by kernel_rfl) (fun _ _ _ h => h) rfl (fun w hSw => by (try dsimp only at hSw); obtain ⟨q0, q1, q2⟩ := hSw; go_simp) (by assumption) ?_
            try simp only [Act.put, List.setIfInBounds_toArray, List.set_cons_zero, List.set_cons_succ]
            refine tk27 (.bool false) (by kernel_rfl) (by kernel_rfl) (by kernel_rfl) (fun _ _ _ h => h) rfl (fun w hSw => by (try dsimp only at hSw); obtain ⟨q0, q1, q2⟩ := hSw; go_simp) (by assumption) ?_
            try simp only [Act.put, List.setIfInBounds_toArray, List.set_cons_zero, List.set_cons_succ]
            refine tk28 (.pointer (some ⟨Dx, 0, none⟩)) (by kernel_rfl) (by kernel_rfl) (by kernel_rfl) (fun _ _ _ h => h) rfl (fun w hSw => by (try dsimp only at hSw); obtain ⟨q0, q1, q2⟩ := hSw; go_simp) (by assumption) ?_
            try simp only [Act.put, List.setIfInBounds_toArray, List.set_cons_zero, List.set_cons_succ]
            refine tk30 (.pointer (some ⟨Dy, 0, none⟩)) (by kernel_rfl) (by kernel_rfl) (by kernel_rfl) (fun _ _ _ h => h) rfl (fun w hSw => by (try dsimp only at hSw); obtain ⟨q0, q1, q2⟩ := hSw; go_simp) (by assumption) ?_
            try simp only [Act.put, List.setIfInBounds_toArray, List.set_cons_zero, List.set_cons_succ]
            refine tk31 (.pointer (some ⟨Dy, 0, none⟩)) (by kernel_rfl) (by kernel_rfl) (by kernel_rfl) (fun _ _ _ h => h) rfl (fun w hSw => by (try dsimp only at hSw); obtain ⟨q0, q1, q2⟩ := hSw; go_simp) (by assumption) ?_
            try simp only [Act.put, List.setIfInBounds_toArray, List.set_cons_zero, List.set_cons_succ]
            refine tk32 (.pointer (some ⟨Dy, 2, none⟩)) (by kernel_rfl) (by kernel_rfl) (by kernel_rfl) (fun _ _ _ h => h) rfl (fun w hSw => by (try dsimp only at hSw); obtain ⟨q0, q1, q2⟩ := hSw; go_simp) (by assumption) ?_
            try simp only [Act.put, List.setIfInBounds_toArray, List.set_cons_zero, List.set_cons_succ]
            refine tk33 (.slice by' qq1.length cy2) (by kernel_rfl) (by kernel_rfl) (by kernel_rfl) (fun _ _ _ h => h) rfl (fun w hSw => by (try dsimp only at hSw); obtain ⟨q0, q1, q2⟩ := hSw; go_simp) (by assumption) ?_
            try simp only [Act.put, List.setIfInBounds_toArray, List.set_cons_zero, List.set_cons_succ]
            refine cl29 (by kernel_rfl) rfl (fun K hK => ?_)
            go_simp
            go_at_call 25
            refine (pr_queue (K5.out.fresh (undrew b7)).x).mono ?_
            rintro e w8 ⟨u8, rfl, r8, b8⟩
            have p0 := (b8.cell (p := ⟨Dy, 0, none⟩) (by exact Nat.lt_of_lt_of_le hDy b7.size)).trans s0
            have p1 := (b8.cell (p := ⟨Dy, 1, none⟩) (by exact Nat.lt_of_lt_of_le hDy b7.size)).trans s1
            have p2 := (b8.cell (p := ⟨Dy, 2, none⟩) (by exact Nat.lt_of_lt_of_le hDy b7.size)).trans s2
            refine hK.out _ _ ?_ (fun hHeld => ?_)
            · try dsimp only
              go_keep
            clear hK K
            try simp only [Act.put, List.setIfInBounds_toArray, List.set_cons_zero, List.set_cons_succ]
            refine cl34 (by kernel_rfl) rfl (fun K hK => ?_)
            go_simp
            go_at_call 24
            refine (waits_same w8 _ _ qq1 qq1 r8 (HQY.out.fresh (bmm (undrew b7) b7.size b8)) (by omega)).mono ?_
            rw [hwsame]
            rintro e w9 ⟨rfl, b9⟩
            have o0 := (b9.cell (p := ⟨Dy, 0, none⟩) (by exact Nat.lt_of_lt_of_le (Nat.lt_of_lt_of_le hDy b7.size) b8.size)).trans p0
            have o1 := (b9.cell (p := ⟨Dy, 1, none⟩) (by exact Nat.lt_of_lt_of_le (Nat.lt_of_lt_of_le hDy b7.size) b8.size)).trans p1
            have o2 := (b9.cell (p := ⟨Dy, 2, none⟩) (by exact Nat.lt_of_lt_of_le (Nat.lt_of_lt_of_le hDy b7.size) b8.size)).trans p2
            refine hK.out _ _ ?_ (fun hHeld => ?_)
            · try dsimp only
              go_keep
            clear hK K
            try simp only [Act.put, List.setIfInBounds_toArray, List.set_cons_zero, List.set_cons_succ]
            refine tk35 (.bool false) (by kernel_rfl) (by kernel_rfl) (by kernel_rfl) (fun _ _ _ h => h) rfl (fun w hSw => by (try dsimp only at hSw); obtain ⟨q0, q1, q2⟩ := hSw; go_simp) (by assumption) ?_
            try simp only [Act.put, List.setIfInBounds_toArray, List.set_cons_zero, List.set_cons_succ]
            refine tk36 (.bool false) (by kernel_rfl) (by kernel_rfl) (by kernel_rfl) (fun _ _ _ h => h) rfl (fun w hSw => by (try dsimp only at hSw); obtain ⟨q0, q1, q2⟩ := hSw; go_simp) (by assumption) ?_
            try simp only [Act.put, List.setIfInBounds_toArray, List.set_cons_zero, List.set_cons_succ]
            refine wpAnyH_done (by kernel_rfl) ?_ _
            have b10 : Below w5.heap.size w5 w9 := bmm (bmm (undrew b7) b7.size b8) (Nat.le_trans b7.size b8.size) b9
            have belX : Below B w w9 := bmm belW K5.out.x.base_le b10
            go_wp2
            go_roundw
            case rel => exact ⟨k + 1, L1, _, qq1, _, _, hkl, by omega, by go_num, K5.out.fresh b10, by omega, belX⟩
            case measure => simp [RowKit.intOf]; omega
        | false =>
          have hle := rwSt_len L wt q t rd
          go_wp2_with (first
            | (go_at_call 23; refine (pr_holders k3.x).mono ?_; rintro e w5 ⟨u5, rfl, r5, b5⟩)
            | (go_at_call 22; refine (rwlock_any k2.y t hok rd (by omega) (by omega)).mono ?_; rintro e w3 ⟨rfl, Sy3, g3, kk3⟩; have k3 := k2.stepY g3 kk3; have b3 := k2.y.below kk3; clear k2)
            | (go_at_call 21; rw [← HUE.out]; refine (pr_lock HU.out.x t hok rd (by omega)).mono ?_; rintro e w2 ⟨rfl, Sx2, g2, kk2⟩; have k2 := HU.out.stepX g2 kk2; have b2 := HU.out.x.below kk2; have x0 := (World.cell?_of_block (kk2.kept wr.heap.size hbl hbx)).trans e0; have x2 := (World.cell?_of_block (kk2.kept wr.heap.size hbl hbx)).trans e2))
          have belW : Below B w w5 := bmm ((belU.trans b2).trans b3) k3.x.base_le b5
          have k5 := k3.fresh b5
          generalize hL1 : (rwSt L wt q t rd).1 = L1 at k5 r5 hle k3
          generalize hq1 : (rwSt L wt q t rd).2.2 = qq1 at k5 hle k3
          generalize hT1 : (rwSt L wt q t rd).2.1 = T1 at k5 k3
          have K5 : Hid _ := k5
          obtain ⟨ay, cy, by', cy2, hby, y0, y1, y2, _, _, _, hol, hoq, hDy⟩ := k5.y.cells
          have HIX : Hid _ := r5.ints k5.y.lo (by omega)
          have HIY : Hid _ := hol.at'.ints k5.y.lo (by omega)
          have HQY : Hid _ := hoq.at'
          have hsame : sameB L1 L1 = true := decide_eq_true rfl
          have hwsame : wsameB qq1 qq1 = true := decide_eq_true rfl
          clear hby hol hoq k5 r5 k3 HU HUE hL1 hq1 hT1 belU z0 z1 z2 b2 b3 b5 x0 x2 e0 e2 g2 kk2 g3 kk3
          cases T1 with
          | true =>
            go_wp2
            refine wp_region_held_drew (S := (fun w' : World => w'.cell? ⟨Dy, 0, none⟩ = some (.slice ay L1.length cy) ∧ w'.cell? ⟨Dy, 1, none⟩ = some (.bool true) ∧ w'.cell? ⟨Dy, 2, none⟩ = some (.slice by' qq1.length cy2))) (by kernel_rfl) ?_ (fun hHeld0 => ?_)
            · try dsimp only
              go_keep
            refine tk0 (.bool true) (by kernel_rfl) (by kernel_rfl) (by kernel_rfl) (fun _ _ _ h => h) rfl (fun w hSw => by (try dsimp only at hSw); obtain ⟨q0, q1, q2⟩ := hSw; go_simp) (by assumption) ?_
            try simp only [Act.put, List.setIfInBounds_toArray, List.set_cons_zero, List.set_cons_succ]
            refine tk1 (.bool false) (by kernel_rfl) (by kernel_rfl) (by kernel_rfl) (fun _ _ _ h => h) rfl (fun w hSw => by (try dsimp only at hSw); obtain ⟨q0, q1, q2⟩ := hSw; go_simp) (by assumption) ?_
            try simp only [Act.put, List.setIfInBounds_toArray, List.set_cons_zero, List.set_cons_succ]
            refine tk2 (.bool false) (by kernel_rfl) (by kernel_rfl) (by kernel_rfl) (fun _ _ _ h => h) rfl (fun w hSw => by (try dsimp only at hSw); obtain ⟨q0, q1, q2⟩ := hSw; go_simp) (by assumption) ?_
            try simp only [Act.put, List.setIfInBounds_toArray, List.set_cons_zero, List.set_cons_succ]
            refine tk3 (u5) (by kernel_rfl) (by kernel_rfl) (by kernel_rfl) (fun _ _ _ h => h) rfl (fun w hSw => by (try dsimp only at hSw); obtain ⟨q0, q1, q2⟩ := hSw; go_simp) (by assumption) ?_
            try simp only [Act.put, List.setIfInBounds_toArray, List.set_cons_zero, List.set_cons_succ]
            refine tk4 (.pointer (some ⟨Dy, 0, none⟩)) (by kernel_rfl) (by kernel_rfl) (by kernel_rfl) (fun _ _ _ h => h) rfl (fun w hSw => by (try dsimp only at hSw); obtain ⟨q0, q1, q2⟩ := hSw; go_simp) (by assumption) ?_
            try simp only [Act.put, List.setIfInBounds_toArray, List.set_cons_zero, List.set_cons_succ]
            refine tk5 (.pointer (some ⟨Dy, 0, none⟩)) (by kernel_rfl) (by kernel_rfl) (by kernel_rfl) (fun _ _ _ h => h) rfl (fun w hSw => by (try dsimp only at hSw); obtain ⟨q0, q1, q2⟩ := hSw; go_simp) (by assumption) ?_
            try simp only [Act.put, List.setIfInBounds_toArray, List.set_cons_zero, List.set_cons_succ]
            refine tk6 (.pointer (some ⟨Dy, 0, none⟩)) (by kernel_rfl) (by kernel_rfl) (by kernel_rfl) (fun _ _ _ h => h) rfl (fun w hSw => by (try dsimp only at hSw); obtain ⟨q0, q1, q2⟩ := hSw; go_simp) (by assumption) ?_
            try simp only [Act.put, List.setIfInBounds_toArray, List.set_cons_zero, List.set_cons_succ]
            refine tk7 (.slice ay L1.length cy) (by kernel_rfl) (by kernel_rfl) (by kernel_rfl) (fun _ _ _ h => h) rfl (fun w hSw => by (try dsimp only at hSw); obtain ⟨q0, q1, q2⟩ := hSw; go_simp) (by assumption) ?_
            try simp only [Act.put, List.setIfInBounds_toArray, List.set_cons_zero, List.set_cons_succ]
            refine cl8 (by kernel_rfl) rfl (fun K hK => ?_)
            go_simp
            go_at_call 15
            refine (ints_same w5.drew _ _ L1 L1 (ints_fresh HIX.out (undrB2 (Below.refl _ _))) (ints_fresh HIY.out (undrB2 (Below.refl _ _)))).mono ?_
            rw [hsame]
            rintro e w7 ⟨rfl, b7⟩
            have s0 := (b7.cell (p := ⟨Dy, 0, none⟩) (by exact hDy)).trans y0
            have s1 := (b7.cell (p := ⟨Dy, 1, none⟩) (by exact hDy)).trans y1
            have s2 := (b7.cell (p := ⟨Dy, 2, none⟩) (by exact hDy)).trans y2
            refine hK.out _ _ ?_ (fun hHeld => ?_)
            · try dsimp only
              go_keep
            clear hK K
            try simp only [Act.put, List.setIfInBounds_toArray, List.set_cons_zero, List.set_cons_succ]
            refine tk9 (.bool false) (by kernel_rfl) (by kernel_rfl) (by kernel_rfl) (fun _ _ _ h => h) rfl (fun w hSw => by (try dsimp only at hSw); obtain ⟨q0, q1, q2⟩ := hSw; go_simp) (by assumption) ?_
            try simp only [Act.put, List.setIfInBounds_toArray, List.set_cons_zero, List.set_cons_succ]
            refine tk10 (.bool false) (by kernel_rfl) (by kernel_rfl) (by kernel_rfl) (fun _ _ _ h => h) rfl (fun w hSw => by (try dsimp only at hSw); obtain ⟨q0, q1, q2⟩ := hSw; go_simp) (by assumption) ?_
            try simp only [Act.put, List.setIfInBounds_toArray, List.set_cons_zero, List.set_cons_succ]
            refine tk11 (.bool false) (by kernel_rfl) (by kernel_rfl) (by kernel_rfl) (fun _ _ _ h => h) rfl (fun w hSw => by (try dsimp only at hSw); obtain ⟨q0, q1, q2⟩ := hSw; go_simp) (by assumption) ?_
            try simp only [Act.put, List.setIfInBounds_toArray, List.set_cons_zero, List.set_cons_succ]
            refine tk12 (.bool (decide (0 < L1.length))) (by kernel_rfl) (by kernel_rfl) (by kernel_rfl) (fun _ _ _ h => h) rfl (fun w hSw => by (try dsimp only at hSw); obtain ⟨q0, q1, q2⟩ := hSw; go_simp) (by assumption) ?_
            try simp only [Act.put, List.setIfInBounds_toArray, List.set_cons_zero, List.set_cons_succ]
            refine tk13 (.pointer (some ⟨Dy, 0, none⟩)) (by kernel_rfl) (by kernel_rfl) (by kernel_rfl) (fun _ _ _ h => h) rfl (fun w hSw => by (try dsimp only at hSw); obtain ⟨q0, q1, q2⟩ := hSw; go_simp) (by assumption) ?_
            try simp only [Act.put, List.setIfInBounds_toArray, List.set_cons_zero, List.set_cons_succ]
            refine tk14 (.pointer (some ⟨Dy, 0, none⟩)) (by kernel_rfl) (by kernel_rfl) (by kernel_rfl) (fun _ _ _ h => h) rfl (fun w hSw => by (try dsimp only at hSw); obtain ⟨q0, q1, q2⟩ := hSw; go_simp) (by assumption) ?_
            try simp only [Act.put, List.setIfInBounds_toArray, List.set_cons_zero, List.set_cons_succ]
            refine tk15 (.pointer (some ⟨Dy, 1, none⟩)) (by kernel_rfl) (by kernel_rfl) (by kernel_rfl) (fun _ _ _ h => h) rfl (fun w hSw => by (try dsimp only at hSw); obtain ⟨q0, q1, q2⟩ := hSw; go_simp) (by assumption) ?_
            try simp only [Act.put, List.setIfInBounds_toArray, List.set_cons_zero, List.set_cons_succ]
            refine tk16 (.bool true) (by kernel_rfl) (by kernel_rfl) (by kernel_rfl) (fun _ _ _ h => h) rfl (fun w hSw => by (try dsimp only at hSw); obtain ⟨q0, q1, q2⟩ := hSw; go_simp) (by assumption) ?_
            try simp only [Act.put, List.setIfInBounds_toArray, List.set_cons_zero, List.set_cons_succ]
            refine tk17 (.bool true) (by kernel_rfl) (by kernel_rfl) (by kernel_rfl) (fun _ _ _ h => h) rfl (fun w hSw => by (try dsimp only at hSw); obtain ⟨q0, q1, q2⟩ := hSw; go_simp) (by assumption) ?_
            try simp only [Act.put, List.setIfInBounds_toArray, List.set_cons_zero, List.set_cons_succ]
            refine tk18 (.pointer (some ⟨Dy, 0, none⟩)) (by kernel_rfl) (by kernel_rfl) (by kernel_rfl) (fun _ _ _ h => h) rfl (fun w hSw => by (try dsimp only at hSw); obtain ⟨q0, q1, q2⟩ := hSw; go_simp) (by assumption) ?_
            try simp only [Act.put, List.setIfInBounds_toArray, List.set_cons_zero, List.set_cons_succ]
            refine tk19 (.pointer (some ⟨Dy, 0, none⟩)) (by kernel_rfl) (by kernel_rfl) (by kernel_rfl) (fun _ _ _ h => h) rfl (fun w hSw => by (try dsimp only at hSw); obtain ⟨q0, q1, q2⟩ := hSw; go_simp) (by assumption) ?_
            try simp only [Act.put, List.setIfInBounds_toArray, List.set_cons_zero, List.set_cons_succ]
            refine tk20 (.pointer (some ⟨Dy, 0, none⟩)) (by kernel_rfl) (by kernel_rfl) (by kernel_rfl) (fun _ _ _ h => h) rfl (fun w hSw => by (try dsimp only at hSw); obtain ⟨q0, q1, q2⟩ := hSw; go_simp) (by assumption) ?_
            try simp only [Act.put, List.setIfInBounds_toArray, List.set_cons_zero, List.set_cons_succ]
            refine tk21 (.slice ay L1.length cy) (by kernel_rfl) (by kernel_rfl) (by kernel_rfl) (fun _ _ _ h => h) rfl (fun w hSw => by (try dsimp only at hSw); obtain ⟨q0, q1, q2⟩ := hSw; go_simp) (by assumption) ?_
            try simp only [Act.put, List.setIfInBounds_toArray, List.set_cons_zero, List.set_cons_succ]
            refine tk22 (.int .i64 (L1.length : Int)) (by kernel_rfl) (by kernel_rfl) (by kernel_rfl) (fun _ _ _ h => h) rfl (fun w hSw => by (try dsimp only at hSw); obtain ⟨q0, q1, q2⟩ := hSw; go_simp) (by assumption) ?_
            try simp only [Act.put, List.setIfInBounds_toArray, List.set_cons_zero, List.set_cons_succ]
            refine tk23 (.bool (decide (0 < L1.length))) (by kernel_rfl) (by kernel_rfl) (by kernel_rfl) (fun _ _ _ h => h) rfl (fun w hSw => by (try dsimp only at hSw); obtain ⟨q0, q1, q2⟩ := hSw; go_simp) (by assumption) ?_
            try simp only [Act.put, List.setIfInBounds_toArray, List.set_cons_zero, List.set_cons_succ]
            refine tk24 (.bool (decide (0 < L1.length))) (by kernel_rfl) (by kernel_rfl) (by kernel_rfl) (fun _ _ _ h => h) rfl (fun w hSw => by (try dsimp only at hSw); obtain ⟨q0, q1, q2⟩ := hSw; go_simp) (by assumption) ?_
            try simp only [Act.put, List.setIfInBounds_toArray, List.set_cons_zero, List.set_cons_succ]
            refine tk25 (.bool false) (by kernel_rfl) (by kernel_rfl) (by kernel_rfl) (fun _ _ _ h => h) rfl (fun w hSw => by (try dsimp only at hSw); obtain ⟨q0, q1, q2⟩ := hSw; go_simp) (by assumption) ?_
            try simp only [Act.put, List.setIfInBounds_toArray, List.set_cons_zero, List.set_cons_succ]
            refine tk26 (.bool false) (by kernel_rfl) (by kernel_rfl) (by kernel_rfl) (fun _ _ _ h => h) rfl (fun w hSw => by (try dsimp only at hSw); obtain ⟨q0, q1, q2⟩ := hSw; go_simp) (by assumption) ?_
            try simp only [Act.put, List.setIfInBounds_toArray, List.set_cons_zero, List.set_cons_succ]
            refine tk27 (.bool false) (by kernel_rfl) (by kernel_rfl) (by kernel_rfl) (fun _ _ _ h => h) rfl (fun w hSw => by (try dsimp only at hSw); obtain ⟨q0, q1, q2⟩ := hSw; go_simp) (by assumption) ?_
            try simp only [Act.put, List.setIfInBounds_toArray, List.set_cons_zero, List.set_cons_succ]
            refine tk28 (.pointer (some ⟨Dx, 0, none⟩)) (by kernel_rfl) (by kernel_rfl) (by kernel_rfl) (fun _ _ _ h => h) rfl (fun w hSw => by (try dsimp only at hSw); obtain ⟨q0, q1, q2⟩ := hSw; go_simp) (by assumption) ?_
            try simp only [Act.put, List.setIfInBounds_toArray, List.set_cons_zero, List.set_cons_succ]
            refine tk30 (.pointer (some ⟨Dy, 0, none⟩)) (by kernel_rfl) (by kernel_rfl) (by kernel_rfl) (fun _ _ _ h => h) rfl (fun w hSw => by (try dsimp only at hSw); obtain ⟨q0, q1, q2⟩ := hSw; go_simp) (by assumption) ?_
            try simp only [Act.put, List.setIfInBounds_toArray, List.set_cons_zero, List.set_cons_succ]
            refine tk31 (.pointer (some ⟨Dy, 0, none⟩)) (by kernel_rfl) (by kernel_rfl) (by kernel_rfl) (fun _ _ _ h => h) rfl (fun w hSw => by (try dsimp only at hSw); obtain ⟨q0, q1, q2⟩ := hSw; go_simp) (by assumption) ?_
            try simp only [Act.put, List.setIfInBounds_toArray, List.set_cons_zero, List.set_cons_succ]
            refine tk32 (.pointer (some ⟨Dy, 2, none⟩)) (by kernel_rfl) (by kernel_rfl) (by kernel_rfl) (fun _ _ _ h => h) rfl (fun w hSw => by (try dsimp only at hSw); obtain ⟨q0, q1, q2⟩ := hSw; go_simp) (by assumption) ?_
            try simp only [Act.put, List.setIfInBounds_toArray, List.set_cons_zero, List.set_cons_succ]
            refine tk33 (.slice by' qq1.length cy2) (by kernel_rfl) (by kernel_rfl) (by kernel_rfl) (fun _ _ _ h => h) rfl (fun w hSw => by (try dsimp only at hSw); obtain ⟨q0, q1, q2⟩ := hSw; go_simp) (by assumption) ?_
            try simp only [Act.put, List.setIfInBounds_toArray, List.set_cons_zero, List.set_cons_succ]
            refine cl29 (by kernel_rfl) rfl (fun K hK => ?_)
            go_simp
            go_at_call 25
            refine (pr_queue (K5.out.fresh (undrew b7)).x).mono ?_
            rintro e w8 ⟨u8, rfl, r8, b8⟩
            have p0 := (b8.cell (p := ⟨Dy, 0, none⟩) (by exact Nat.lt_of_lt_of_le hDy b7.size)).trans s0
            have p1 := (b8.cell (p := ⟨Dy, 1, none⟩) (by exact Nat.lt_of_lt_of_le hDy b7.size)).trans s1
            have p2 := (b8.cell (p := ⟨Dy, 2, none⟩) (by exact Nat.lt_of_lt_of_le hDy b7.size)).trans s2
            refine hK.out _ _ ?_ (fun hHeld => ?_)
            · try dsimp only
              go_keep
            clear hK K
            try simp only [Act.put, List.setIfInBounds_toArray, List.set_cons_zero, List.set_cons_succ]
            refine cl34 (by kernel_rfl) rfl (fun K hK => ?_)
            go_simp
            go_at_call 24
            refine (waits_same w8 _ _ qq1 qq1 r8 (HQY.out.fresh (bmm (undrew b7) b7.size b8)) (by omega)).mono ?_
            rw [hwsame]
            rintro e w9 ⟨rfl, b9⟩
            have o0 := (b9.cell (p := ⟨Dy, 0, none⟩) (by exact Nat.lt_of_lt_of_le (Nat.lt_of_lt_of_le hDy b7.size) b8.size)).trans p0
            have o1 := (b9.cell (p := ⟨Dy, 1, none⟩) (by exact Nat.lt_of_lt_of_le (Nat.lt_of_lt_of_le hDy b7.size) b8.size)).trans p1
            have o2 := (b9.cell (p := ⟨Dy, 2, none⟩) (by exact Nat.lt_of_lt_of_le (Nat.lt_of_lt_of_le hDy b7.size) b8.size)).trans p2
            refine hK.out _ _ ?_ (fun hHeld => ?_)
            · try dsimp only
              go_keep
            clear hK K
            try simp only [Act.put, List.setIfInBounds_toArray, List.set_cons_zero, List.set_cons_succ]
            refine tk35 (.bool false) (by kernel_rfl) (by kernel_rfl) (by kernel_rfl) (fun _ _ _ h => h) rfl (fun w hSw => by (try dsimp only at hSw); obtain ⟨q0, q1, q2⟩ := hSw; go_simp) (by assumption) ?_
            try simp only [Act.put, List.setIfInBounds_toArray, List.set_cons_zero, List.set_cons_succ]
            refine tk36 (.bool false) (by kernel_rfl) (by kernel_rfl) (by kernel_rfl) (fun _ _ _ h => h) rfl (fun w hSw => by (try dsimp only at hSw); obtain ⟨q0, q1, q2⟩ := hSw; go_simp) (by assumption) ?_
            try simp only [Act.put, List.setIfInBounds_toArray, List.set_cons_zero, List.set_cons_succ]
            refine wpAnyH_done (by kernel_rfl) ?_ _
            have b10 : Below w5.heap.size w5 w9 := bmm (bmm (undrew b7) b7.size b8) (Nat.le_trans b7.size b8.size) b9
            have belX : Below B w w9 := bmm belW K5.out.x.base_le b10
            go_wp2
            go_roundw
            case rel => exact ⟨k + 1, L1, _, qq1, _, _, hkl, by omega, by go_num, K5.out.fresh b10, by omega, belX⟩
            case measure => simp [RowKit.intOf]; omega
          | false =>
            go_wp2
            refine wp_region_held_drew (S := (fun w' : World => w'.cell? ⟨Dy, 0, none⟩ = some (.slice ay L1.length cy) ∧ w'.cell? ⟨Dy, 1, none⟩ = some (.bool false) ∧ w'.cell? ⟨Dy, 2, none⟩ = some (.slice by' qq1.length cy2))) (by kernel_rfl) ?_ (fun hHeld0 => ?_)
            · try dsimp only
              go_keep
            refine tk0 (.bool true) (by kernel_rfl) (by kernel_rfl) (by kernel_rfl) (fun _ _ _ h => h) rfl (fun w hSw => by (try dsimp only at hSw); obtain ⟨q0, q1, q2⟩ := hSw; go_simp) (by assumption) ?_
            try simp only [Act.put, List.setIfInBounds_toArray, List.set_cons_zero, List.set_cons_succ]
            refine tk1 (.bool false) (by kernel_rfl) (by kernel_rfl) (by kernel_rfl) (fun _ _ _ h => h) rfl (fun w hSw => by (try dsimp only at hSw); obtain ⟨q0, q1, q2⟩ := hSw; go_simp) (by assumption) ?_
            try simp only [Act.put, List.setIfInBounds_toArray, List.set_cons_zero, List.set_cons_succ]
            refine tk2 (.bool false) (by kernel_rfl) (by kernel_rfl) (by kernel_rfl) (fun _ _ _ h => h) rfl (fun w hSw => by (try dsimp only at hSw); obtain ⟨q0, q1, q2⟩ := hSw; go_simp) (by assumption) ?_
            try simp only [Act.put, List.setIfInBounds_toArray, List.set_cons_zero, List.set_cons_succ]
            refine tk3 (u5) (by kernel_rfl) (by kernel_rfl) (by kernel_rfl) (fun _ _ _ h => h) rfl (fun w hSw => by (try dsimp only at hSw); obtain ⟨q0, q1, q2⟩ := hSw; go_simp) (by assumption) ?_
            try simp only [Act.put, List.setIfInBounds_toArray, List.set_cons_zero, List.set_cons_succ]
            refine tk4 (.pointer (some ⟨Dy, 0, none⟩)) (by kernel_rfl) (by kernel_rfl) (by kernel_rfl) (fun _ _ _ h => h) rfl (fun w hSw => by (try dsimp only at hSw); obtain ⟨q0, q1, q2⟩ := hSw; go_simp) (by assumption) ?_
            try simp only [Act.put, List.setIfInBounds_toArray, List.set_cons_zero, List.set_cons_succ]
            refine tk5 (.pointer (some ⟨Dy, 0, none⟩)) (by kernel_rfl) (by kernel_rfl) (by kernel_rfl) (fun _ _ _ h => h) rfl (fun w hSw => by (try dsimp only at hSw); obtain ⟨q0, q1, q2⟩ := hSw; go_simp) (by assumption) ?_
            try simp only [Act.put, List.setIfInBounds_toArray, List.set_cons_zero, List.set_cons_succ]
            refine tk6 (.pointer (some ⟨Dy, 0, none⟩)) (by kernel_rfl) (by kernel_rfl) (by kernel_rfl) (fun _ _ _ h => h) rfl (fun w hSw => by (try dsimp only at hSw); obtain ⟨q0, q1, q2⟩ := hSw; go_simp) (by assumption) ?_
            try simp only [Act.put, List.setIfInBounds_toArray, List.set_cons_zero, List.set_cons_succ]
            refine tk7 (.slice ay L1.length cy) (by kernel_rfl) (by kernel_rfl) (by kernel_rfl) (fun _ _ _ h => h) rfl (fun w hSw => by (try dsimp only at hSw); obtain ⟨q0, q1, q2⟩ := hSw; go_simp) (by assumption) ?_
            try simp only [Act.put, List.setIfInBounds_toArray, List.set_cons_zero, List.set_cons_succ]
            refine cl8 (by kernel_rfl) rfl (fun K hK => ?_)
            go_simp
            go_at_call 15
            refine (ints_same w5.drew _ _ L1 L1 (ints_fresh HIX.out (undrB2 (Below.refl _ _))) (ints_fresh HIY.out (undrB2 (Below.refl _ _)))).mono ?_
            rw [hsame]
            rintro e w7 ⟨rfl, b7⟩
            have s0 := (b7.cell (p := ⟨Dy, 0, none⟩) (by exact hDy)).trans y0
            have s1 := (b7.cell (p := ⟨Dy, 1, none⟩) (by exact hDy)).trans y1
            have s2 := (b7.cell (p := ⟨Dy, 2, none⟩) (by exact hDy)).trans y2
            refine hK.out _ _ ?_ (fun hHeld => ?_)
            · try dsimp only
              go_keep
            clear hK K
            try simp only [Act.put, List.setIfInBounds_toArray, List.set_cons_zero, List.set_cons_succ]
            refine tk9 (.bool false) (by kernel_rfl) (by kernel_rfl) (by kernel_rfl) (fun _ _ _ h => h) rfl (fun w hSw => by (try dsimp only at hSw); obtain ⟨q0, q1, q2⟩ := hSw; go_simp) (by assumption) ?_
            try simp only [Act.put, List.setIfInBounds_toArray, List.set_cons_zero, List.set_cons_succ]
            refine tk10 (.bool false) (by kernel_rfl) (by kernel_rfl) (by kernel_rfl) (fun _ _ _ h => h) rfl (fun w hSw => by (try dsimp only at hSw); obtain ⟨q0, q1, q2⟩ := hSw; go_simp) (by assumption) ?_
            try simp only [Act.put, List.setIfInBounds_toArray, List.set_cons_zero, List.set_cons_succ]
            refine tk11 (.bool false) (by kernel_rfl) (by kernel_rfl) (by kernel_rfl) (fun _ _ _ h => h) rfl (fun w hSw => by (try dsimp only at hSw); obtain ⟨q0, q1, q2⟩ := hSw; go_simp) (by assumption) ?_
            try simp only [Act.put, List.setIfInBounds_toArray, List.set_cons_zero, List.set_cons_succ]
            refine tk12 (.bool false) (by kernel_rfl) (by kernel_rfl) (by kernel_rfl) (fun _ _ _ h => h) rfl (fun w hSw => by (try dsimp only at hSw); obtain ⟨q0, q1, q2⟩ := hSw; go_simp) (by assumption) ?_
            try simp only [Act.put, List.setIfInBounds_toArray, List.set_cons_zero, List.set_cons_succ]
            refine tk13 (.pointer (some ⟨Dy, 0, none⟩)) (by kernel_rfl) (by kernel_rfl) (by kernel_rfl) (fun _ _ _ h => h) rfl (fun w hSw => by (try dsimp only at hSw); obtain ⟨q0, q1, q2⟩ := hSw; go_simp) (by assumption) ?_
            try simp only [Act.put, List.setIfInBounds_toArray, List.set_cons_zero, List.set_cons_succ]
            refine tk14 (.pointer (some ⟨Dy, 0, none⟩)) (by kernel_rfl) (by kernel_rfl) (by kernel_rfl) (fun _ _ _ h => h) rfl (fun w hSw => by (try dsimp only at hSw); obtain ⟨q0, q1, q2⟩ := hSw; go_simp) (by assumption) ?_
            try simp only [Act.put, List.setIfInBounds_toArray, List.set_cons_zero, List.set_cons_succ]
            refine tk15 (.pointer (some ⟨Dy, 1, none⟩)) (by kernel_rfl) (by kernel_rfl) (by kernel_rfl) (fun _ _ _ h => h) rfl (fun w hSw => by (try dsimp only at hSw); obtain ⟨q0, q1, q2⟩ := hSw; go_simp) (by assumption) ?_
            try simp only [Act.put, List.setIfInBounds_toArray, List.set_cons_zero, List.set_cons_succ]
            refine tk16 (.bool false) (by kernel_rfl) (by kernel_rfl) (by kernel_rfl) (fun _ _ _ h => h) rfl (fun w hSw => by (try dsimp only at hSw); obtain ⟨q0, q1, q2⟩ := hSw; go_simp) (by assumption) ?_
            try simp only [Act.put, List.setIfInBounds_toArray, List.set_cons_zero, List.set_cons_succ]
            refine tk17 (.bool false) (by kernel_rfl) (by kernel_rfl) (by kernel_rfl) (fun _ _ _ h => h) rfl (fun w hSw => by (try dsimp only at hSw); obtain ⟨q0, q1, q2⟩ := hSw; go_simp) (by assumption) ?_
            try simp only [Act.put, List.setIfInBounds_toArray, List.set_cons_zero, List.set_cons_succ]
            refine sk18 (by kernel_rfl) (by kernel_rfl) (by kernel_rfl) (fun _ _ _ h => h) rfl (by assumption) ?_
            try simp only [Act.put, List.setIfInBounds_toArray, List.set_cons_zero, List.set_cons_succ]
            refine sk19 (by kernel_rfl) (by kernel_rfl) (by kernel_rfl) (fun _ _ _ h => h) rfl (by assumption) ?_
            try simp only [Act.put, List.setIfInBounds_toArray, List.set_cons_zero, List.set_cons_succ]
            refine sk20 (by kernel_rfl) (by kernel_rfl) (by kernel_rfl) (fun _ _ _ h => h) rfl (by assumption) ?_
            try simp only [Act.put, List.setIfInBounds_toArray, List.set_cons_zero, List.set_cons_succ]
            refine sk21 (by kernel_rfl) (by kernel_rfl) (by kernel_rfl) (fun _ _ _ h => h) rfl (by assumption) ?_
            try simp only [Act.put, List.setIfInBounds_toArray, List.set_cons_zero, List.set_cons_succ]
            refine sk22 (by kernel_rfl) (by kernel_rfl) (by kernel_rfl) (fun _ _ _ h => h) rfl (by assumption) ?_
            try simp only [Act.put, List.setIfInBounds_toArray, List.set_cons_zero, List.set_cons_succ]
            refine sk23 (by kernel_rfl) (by kernel_rfl) (by kernel_rfl) (fun _ _ _ h => h) rfl (by assumption) ?_
            try simp only [Act.put, List.setIfInBounds_toArray, List.set_cons_zero, List.set_cons_succ]
            refine tk24 (.bool false) (by kernel_rfl) (by kernel_rfl) (by kernel_rfl) (fun _ _ _ h => h) rfl (fun w hSw => by (try dsimp only at hSw); obtain ⟨q0, q1, q2⟩ := hSw; go_simp) (by assumption) ?_
            try simp only [Act.put, List.setIfInBounds_toArray, List.set_cons_zero, List.set_cons_succ]
            refine tk25 (.bool false) (by kernel_rfl) (by kernel_rfl) (by kernel_rfl) (fun _ _ _ h => h) rfl (fun w hSw => by (try dsimp only at hSw); obtain ⟨q0, q1, q2⟩ := hSw; go_simp) (by assumption) ?_
            try simp only [Act.put, List.setIfInBounds_toArray, List.set_cons_zero, List.set_cons_succ]
            refine tk26 (.bool false) (by kernel_rfl) (by kernel_rfl) (by kernel_rfl) (fun _ _ _ h => h) rfl (fun w hSw => by (try dsimp only at hSw); obtain ⟨q0, q1, q2⟩ := hSw; go_simp) (by assumption) ?_
            try simp only [Act.put, List.setIfInBounds_toArray, List.set_cons_zero, List.set_cons_succ]
            refine tk27 (.bool false) (by kernel_rfl) (by kernel_rfl) (by kernel_rfl) (fun _ _ _ h => h) rfl (fun w hSw => by (try dsimp only at hSw); obtain ⟨q0, q1, q2⟩ := hSw; go_simp) (by assumption) ?_
            try simp only [Act.put, List.setIfInBounds_toArray, List.set_cons_zero, List.set_cons_succ]
            refine tk28 (.pointer (some ⟨Dx, 0, none⟩)) (by kernel_rfl) (by kernel_rfl) (by kernel_rfl) (fun _ _ _ h => h) rfl (fun w hSw => by (try dsimp only at hSw); obtain ⟨q0, q1, q2⟩ := hSw; go_simp) (by assumption) ?_
            try simp only [Act.put, List.setIfInBounds_toArray, List.set_cons_zero, List.set_cons_succ]
            refine tk30 (.pointer (some ⟨Dy, 0, none⟩)) (by kernel_rfl) (by kernel_rfl) (by kernel_rfl) (fun _ _ _ h => h) rfl (fun w hSw => by (try dsimp only at hSw); obtain ⟨q0, q1, q2⟩ := hSw; go_simp) (by assumption) ?_
            try simp only [Act.put, List.setIfInBounds_toArray, List.set_cons_zero, List.set_cons_succ]
            refine tk31 (.pointer (some ⟨Dy, 0, none⟩)) (by kernel_rfl) (by kernel_rfl) (by kernel_rfl) (fun _ _ _ h => h) rfl (fun w hSw => by (try dsimp only at hSw); obtain ⟨q0, q1, q2⟩ := hSw; go_simp) (by assumption) ?_
            try simp only [Act.put, List.setIfInBounds_toArray, List.set_cons_zero, List.set_cons_succ]
            refine tk32 (.pointer (some ⟨Dy, 2, none⟩)) (by kernel_rfl) (by kernel_rfl) (by kernel_rfl) (fun _ _ _ h => h) rfl (fun w hSw => by (try dsimp only at hSw); obtain ⟨q0, q1, q2⟩ := hSw; go_simp) (by assumption) ?_
            try simp only [Act.put, List.setIfInBounds_toArray, List.set_cons_zero, List.set_cons_succ]
            refine tk33 (.slice by' qq1.length cy2) (by kernel_rfl) (by kernel_rfl) (by kernel_rfl) (fun _ _ _ h => h) rfl (fun w hSw => by (try dsimp only at hSw); obtain ⟨q0, q1, q2⟩ := hSw; go_simp) (by assumption) ?_
            try simp only [Act.put, List.setIfInBounds_toArray, List.set_cons_zero, List.set_cons_succ]
            refine cl29 (by kernel_rfl) rfl (fun K hK => ?_)
            go_simp
            go_at_call 25
            refine (pr_queue (K5.out.fresh (undrew b7)).x).mono ?_
            rintro e w8 ⟨u8, rfl, r8, b8⟩
            have p0 := (b8.cell (p := ⟨Dy, 0, none⟩) (by exact Nat.lt_of_lt_of_le hDy b7.size)).trans s0
            have p1 := (b8.cell (p := ⟨Dy, 1, none⟩) (by exact Nat.lt_of_lt_of_le hDy b7.size)).trans s1
            have p2 := (b8.cell (p := ⟨Dy, 2, none⟩) (by exact Nat.lt_of_lt_of_le hDy b7.size)).trans s2
            refine hK.out _ _ ?_ (fun hHeld => ?_)
            · try dsimp only
              go_keep
            clear hK K
            try simp only [Act.put, List.setIfInBounds_toArray, List.set_cons_zero, List.set_cons_succ]
            refine cl34 (by kernel_rfl) rfl (fun K hK => ?_)
            go_simp
            go_at_call 24
            refine (waits_same w8 _ _ qq1 qq1 r8 (HQY.out.fresh (bmm (undrew b7) b7.size b8)) (by omega)).mono ?_
            rw [hwsame]
            rintro e w9 ⟨rfl, b9⟩
            have o0 := (b9.cell (p := ⟨Dy, 0, none⟩) (by exact Nat.lt_of_lt_of_le (Nat.lt_of_lt_of_le hDy b7.size) b8.size)).trans p0
            have o1 := (b9.cell (p := ⟨Dy, 1, none⟩) (by exact Nat.lt_of_lt_of_le (Nat.lt_of_lt_of_le hDy b7.size) b8.size)).trans p1
            have o2 := (b9.cell (p := ⟨Dy, 2, none⟩) (by exact Nat.lt_of_lt_of_le (Nat.lt_of_lt_of_le hDy b7.size) b8.size)).trans p2
            refine hK.out _ _ ?_ (fun hHeld => ?_)
            · try dsimp only
              go_keep
            clear hK K
            try simp only [Act.put, List.setIfInBounds_toArray, List.set_cons_zero, List.set_cons_succ]
            refine tk35 (.bool false) (by kernel_rfl) (by kernel_rfl) (by kernel_rfl) (fun _ _ _ h => h) rfl (fun w hSw => by (try dsimp only at hSw); obtain ⟨q0, q1, q2⟩ := hSw; go_simp) (by assumption) ?_
            try simp only [Act.put, List.setIfInBounds_toArray, List.set_cons_zero, List.set_cons_succ]
            refine tk36 (.bool false) (by kernel_rfl) (by kernel_rfl) (by kernel_rfl) (fun _ _ _ h => h) rfl (fun w hSw => by (try dsimp only at hSw); obtain ⟨q0, q1, q2⟩ := hSw; go_simp) (by assumption) ?_
            try simp only [Act.put, List.setIfInBounds_toArray, List.set_cons_zero, List.set_cons_succ]
            refine wpAnyH_done (by kernel_rfl) ?_ _
            have b10 : Below w5.heap.size w5 w9 := bmm (bmm (undrew b7) b7.size b8) (Nat.le_trans b7.size b8.size) b9
            have belX : Below B w w9 := bmm belW K5.out.x.base_le b10
            go_wp2
            go_roundw
            case rel => exact ⟨k + 1, L1, _, qq1, _, _, hkl, by omega, by go_num, K5.out.fresh b10, by omega, belX⟩
            case measure => simp [RowKit.intOf]; omega
      · have hke : k = 300 := by omega
        have q0 : decide ((k : Int) < (ds.length : Int)) = true := decide_eq_true (by omega)
        have q1 : decide ((k : Int) < (300 : Int)) = false := decide_eq_false (by omega)
        clear hM
        go_wp2_with (go_at_call 17; refine (awake_any _).mono ?_; rintro e w9 ⟨rfl, b9⟩)
        go_ret
        exact ⟨rfl, bmm bel hBw b9⟩
    · have q0 : decide ((k : Int) < (ds.length : Int)) = false := decide_eq_false (by omega)
      clear hM
      go_wp2_with (go_at_call 17; refine (awake_any _).mono ?_; rintro e w9 ⟨rfl, b9⟩)
      go_ret
      exact ⟨rfl, bmm bel hBw b9⟩
end Go.Proofs.Ytlcacjekpdmigaa
