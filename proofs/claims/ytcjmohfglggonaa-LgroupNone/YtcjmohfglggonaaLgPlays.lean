/-
  LgroupPlays of layer 9, walked: any deeds on the program's waitgroup and on the document's: each answer, the count, who waits. The condition: the deeds lie in memory as their reading says.
-/
import Derived.Test.YtcjmohfglggonaaLgNone
namespace Go.Proofs.Ytcjmohfglggonaa
open Go.RowKit

/-- A deed: a task, a number, the second kind. -/
abbrev Dd : Type := Int × Int × Bool
def ddC (x : Dd) : List Value := [.int .i64 x.1, .int .i64 x.2.1, .bool x.2.2]
theorem ddC_len (x : Dd) : (ddC x).length = 3 := rfl
/-- Both waitgroups. -/
structure GD (w : World) (B Dx Dy : Nat) (Sx Sy : Nat → Prop) (nx : Int) (lx : List Int) (ny : Int) (ly : List Int) : Prop where
  x : PGr w B Dx Sx nx lx
  y : GrAt w B Dy Sy ny ly
  ap : ∀ b, Sx b → ¬ Sy b
section
variable {w w' : World} {B Dx Dy : Nat} {Sx Sy S' : Nat → Prop} {nx ny n1 : Int} {lx ly l1 : List Int}
theorem GD.stepX (h : GD w B Dx Dy Sx Sy nx lx ny ly) (hx : PGr w' B Dx S' n1 l1) (k : Kept w w' Sx S') : GD w' B Dx Dy S' Sy n1 l1 ny ly :=
  ⟨hx, h.y.keep k.size (fun b hb => k.kept b (h.y.bd b hb).2 (fun h1 => h.ap b h1 hb)), apart_old (fun b hb => (h.y.bd b hb).2) h.ap k⟩
theorem GD.stepY (h : GD w B Dx Dy Sx Sy nx lx ny ly) (hy : GrAt w' B Dy S' n1 l1) (k : Kept w w' Sy S') : GD w' B Dx Dy Sx S' nx lx n1 l1 :=
  ⟨h.x.keep k.size (fun b hb => k.kept b (h.x.bd b hb).2 (fun h1 => h.ap b hb h1)), hy, fun b h1 h2 => apart_old (fun b hb => (h.x.bd b hb).2) (fun b h3 h4 => h.ap b h4 h3) k b h2 h1⟩
theorem GD.fresh (h : GD w B Dx Dy Sx Sy nx lx ny ly) (k : Below w.heap.size w w') : GD w' B Dx Dy Sx Sy nx lx ny ly := ⟨h.x.fresh k, h.y.fresh k, h.ap⟩
/-- What was handed out by one lies apart from the other. -/
theorem GD.handed (h : GD w B Dx Dy Sx Sy nx lx ny ly) {u : Value} (hd : Handed w Sx S' u) : ∀ bk off m cap, 0 < m → u = .slice (some ⟨bk, off, none⟩) m cap → ¬ Sy bk := fun bk off m cap h0 e hs => by
  rcases (hd bk off m cap h0 e).1 with h1 | h1
  · exact h.ap bk h1 hs
  · have := (h.y.bd bk hs).2
    omega
end
theorem GD.start {w1 : World} {B Dx : Nat} {Sx : Nat → Prop} (h1 : PGr w1 B Dx Sx 0 []) : GD (w1.alloc (.cells #[.int .i64 0, .slice none 0 0] GrT)) B Dx w1.heap.size Sx (fun b => b = w1.heap.size) 0 [] 0 [] :=
  ⟨h1.fresh ((Below.refl _ w1).alloc (Nat.le_refl _) _), (GrAt.new w1).low h1.base_le, fun b h3 h4 => by have := (h1.bd b h3).2; omega⟩
theorem gWL_le (n : Int) (l : List Int) (t : Int) : (gWL n l t).length ≤ l.length + 1 := by
  unfold gWL
  split
  · simp
  · omega
theorem gAL_le (n : Int) (l : List Int) (k : Int) : (gAL n l k).length ≤ l.length := by
  unfold gAL
  split
  · simp
  · omega
theorem gAO_ok {n : Int} {l : List Int} (k : Int) (h : ∀ x ∈ l, okI x) : ∀ x ∈ gAO n l k, okI x := fun x hx => by
  unfold gAO at hx
  split at hx
  · exact h x hx
  · cases hx
theorem gAO_le (n : Int) (l : List Int) (k : Int) : (gAO n l k).length ≤ l.length := by
  unfold gAO
  split
  · omega
  · simp
theorem gAN_ok {n : Int} (k : Int) (h : 0 ≤ n ∧ n ≤ 1073741824) : 0 ≤ gAN n k ∧ gAN n k ≤ 1073741824 := by
  unfold gAN gAZ
  by_cases h1 : 1073741824 < k ∨ k < -1073741824 ∨ 1073741824 < n + k
  · rw [if_pos h1, if_neg (by decide)]
    exact h
  · rw [if_neg h1]
    by_cases h2 : n + k < 0
    · rw [if_pos h2, if_neg (by decide)]
      exact h
    · rw [if_neg h2, if_pos rfl]
      omega
set_option maxHeartbeats 6400000 in
set_option maxRecDepth 100000 in
theorem gplays_walk (w : World) (v : Value) (ds : List Dd) (hv : RowAt ddC w v ds) (hlo : ∀ x ∈ ds, okI x.1 ∧ okI x.2.1) (hmx : ds.length ≤ 9223372036854775807) :
    Calls Try.prog 3 #[v] w fun e w' => e = .returned (.bool true) ∧ Below w.heap.size w w' := by
  have hn := pg_new w
  obtain ⟨a, cap, rfl⟩ := hv.form
  obtain ⟨B, hB⟩ : ∃ B, B = w.heap.size := ⟨_, rfl⟩
  have HBE : Hid (B = w.heap.size) := hB
  rw [← hB] at hn ⊢
  have HA : Hid _ := hv
  have HLO : Hid _ := hlo
  clear hv hlo hB
  go_enter Try.func3, Try.ntmps3
  go_wp2_with (go_at_call 8; refine hn.mono ?_; rintro e w1 ⟨Dx, Sx, rfl, k1, b1⟩)
  have HST : Hid _ := GD.start k1
  have HST2 : Hid _ := b1.alloc k1.base_le (.cells #[.int .i64 0, .slice none 0 0] GrT)
  clear k1 b1 hn
  obtain ⟨Dy, hDy⟩ : ∃ Dy, Dy = w1.heap.size := ⟨_, rfl⟩
  rw [← hDy] at HST ⊢
  clear hDy
  go_loopw [5, 6, 7, 8, 9, 10, 11, 12, 13, 14] (fun i _ _ _ _ _ _ _ _ _ wr => ∃ (k : Nat) (n : Int) (l : List Int) (Sx Sy : Nat → Prop), k ≤ ds.length ∧ k ≤ 300 ∧ i = .int .i64 k ∧ GD wr B Dx Dy Sx Sy n l n l ∧ (0 ≤ n ∧ n ≤ 1073741824) ∧ l.length ≤ k ∧ Below B w wr) (fun i _ _ _ _ _ _ _ _ _ _ => ds.length - (RowKit.intOf i).toNat)
  case atStart => exact ⟨0, 0, [], _, _, Nat.zero_le _, Nat.zero_le _, rfl, HST.out, by decide, Nat.le_refl _, HST2.out⟩
  case round =>
    clear HST HST2
    obtain ⟨k, n, l, Sx, Sy, hk, hk2, rfl, hM, hnb, hlk, bel⟩ := hrel
    have hBw : B ≤ wr.heap.size := hM.x.base_le
    by_cases hkl : k < ds.length
    · by_cases hkm : k < 300
      · have q0 : decide ((k : Int) < (ds.length : Int)) = true := decide_eq_true (by omega)
        have q1 : decide ((k : Int) < (300 : Int)) = true := decide_eq_true (by omega)
        obtain ⟨bk, off, cp, e, _, hbk, hx⟩ := HA.out.cells ddC_len (by omega)
        simp only [Value.slice.injEq] at e
        obtain ⟨rfl, _, rfl⟩ := e
        rw [← HBE.out] at hbk
        have z0 := (bel.cell (p := ⟨bk, off + k * 3, none⟩) (by exact hbk)).trans (hx k hkl 0 _ (by decide) rfl)
        have z1 := (bel.cell (p := ⟨bk, off + k * 3 + 1, none⟩) (by exact hbk)).trans (hx k hkl 1 _ (by decide) rfl)
        have z2 := (bel.cell (p := ⟨bk, off + k * 3 + 2, none⟩) (by exact hbk)).trans (hx k hkl 2 _ (by decide) rfl)
        have hok := HLO.out _ (List.getElem_mem hkl)
        clear hx
        generalize ds[k] = D at *
        obtain ⟨t, kn, sc⟩ := D
        simp only at z0 z1 z2 hok
        obtain ⟨hok, hok2⟩ := hok
        have HM : Hid (GD wr B Dx Dy Sx Sy n l n l) := hM
        clear hM
        cases sc with
        | true =>
          go_wp2_with (first
            | (go_at_call 10; refine (gr_wait k2.y t hok (by omega)).mono ?_; rintro e w3 ⟨rfl, Sy3, g3, kk3⟩; have k3 := k2.stepY g3 kk3; have b3 := k2.y.below kk3; clear k2)
            | (go_at_call 9; refine (pg_wait HM.out.x t hok (by omega)).mono ?_; rintro e w2 ⟨rfl, Sx2, g2, kk2⟩; have k2 := HM.out.stepX g2 kk2; have b2 := HM.out.x.below kk2; have x0 := (b2.cell (p := ⟨bk, off + k * 3, none⟩) (by exact hbk)).trans z0))
          have belW : Below B w w3 := (bel.trans b2).trans b3
          have hle := gWL_le n l t
          have hn1 := hnb
          obtain ⟨n1, hn1e⟩ : ∃ n1, n1 = n := ⟨_, rfl⟩
          rw [← hn1e] at k3 hn1
          generalize hl1 : gWL n1 l t = l1 at k3
          rw [← hn1e] at hle
          rw [hl1] at hle
          have hcl : True := trivial
          clear hl1 hn1e
          have K3 : Hid (GD w3 B Dx Dy _ _ n1 l1 n1 l1) := k3
          obtain ⟨ay, cy, hby, y0, y1, _, _, hoy, hDy⟩ := k3.y.cells
          have HOY : Hid _ := hoy.at'.ints k3.y.lo (by omega)
          have HLO1 : Hid (∀ x ∈ l1, okI x) := k3.y.lo
          clear hby hoy k3 HM g2 kk2 g3 kk3 b2 b3 x0 z0 z1 z2 bel
          have hsame : sameB l1 l1 = true := decide_eq_true rfl
          refine wp_region_held_drew (S := (fun w' : World => w'.cell? ⟨Dy, 0, none⟩ = some (.int .i64 n1) ∧ w'.cell? ⟨Dy, 1, none⟩ = some (.slice ay l1.length cy))) (by kernel_rfl) ?_ (fun hHeld0 => ?_)
          · try dsimp only
            go_keep
          refine tk0 (.bool true) (by kernel_rfl) (by kernel_rfl) (by kernel_rfl) (fun _ _ _ h => h) rfl (fun w hSw => by (try dsimp only at hSw); obtain ⟨q0, q1⟩ := hSw; go_simp) (by assumption) ?_
          try simp only [Act.put, List.setIfInBounds_toArray, List.set_cons_zero, List.set_cons_succ]
          refine tk1 (.bool false) (by kernel_rfl) (by kernel_rfl) (by kernel_rfl) (fun _ _ _ h => h) rfl (fun w hSw => by (try dsimp only at hSw); obtain ⟨q0, q1⟩ := hSw; go_simp) (by assumption) ?_
          try simp only [Act.put, List.setIfInBounds_toArray, List.set_cons_zero, List.set_cons_succ]
          refine tk2 (.bool false) (by kernel_rfl) (by kernel_rfl) (by kernel_rfl) (fun _ _ _ h => h) rfl (fun w hSw => by (try dsimp only at hSw); obtain ⟨q0, q1⟩ := hSw; go_simp) (by assumption) ?_
          try simp only [Act.put, List.setIfInBounds_toArray, List.set_cons_zero, List.set_cons_succ]
          refine tk3 (.pointer (some ⟨Dx, 0, none⟩)) (by kernel_rfl) (by kernel_rfl) (by kernel_rfl) (fun _ _ _ h => h) rfl (fun w hSw => by (try dsimp only at hSw); obtain ⟨q0, q1⟩ := hSw; go_simp) (by assumption) ?_
          try simp only [Act.put, List.setIfInBounds_toArray, List.set_cons_zero, List.set_cons_succ]
          refine tk5 (.pointer (some ⟨Dy, 0, none⟩)) (by kernel_rfl) (by kernel_rfl) (by kernel_rfl) (fun _ _ _ h => h) rfl (fun w hSw => by (try dsimp only at hSw); obtain ⟨q0, q1⟩ := hSw; go_simp) (by assumption) ?_
          try simp only [Act.put, List.setIfInBounds_toArray, List.set_cons_zero, List.set_cons_succ]
          refine tk6 (.pointer (some ⟨Dy, 0, none⟩)) (by kernel_rfl) (by kernel_rfl) (by kernel_rfl) (fun _ _ _ h => h) rfl (fun w hSw => by (try dsimp only at hSw); obtain ⟨q0, q1⟩ := hSw; go_simp) (by assumption) ?_
          try simp only [Act.put, List.setIfInBounds_toArray, List.set_cons_zero, List.set_cons_succ]
          refine tk7 (.pointer (some ⟨Dy, 0, none⟩)) (by kernel_rfl) (by kernel_rfl) (by kernel_rfl) (fun _ _ _ h => h) rfl (fun w hSw => by (try dsimp only at hSw); obtain ⟨q0, q1⟩ := hSw; go_simp) (by assumption) ?_
          try simp only [Act.put, List.setIfInBounds_toArray, List.set_cons_zero, List.set_cons_succ]
          refine tk8 (.int .i64 n1) (by kernel_rfl) (by kernel_rfl) (by kernel_rfl) (fun _ _ _ h => h) rfl (fun w hSw => by (try dsimp only at hSw); obtain ⟨q0, q1⟩ := hSw; go_simp) (by assumption) ?_
          try simp only [Act.put, List.setIfInBounds_toArray, List.set_cons_zero, List.set_cons_succ]
          refine cl4 (by kernel_rfl) rfl (fun K hK => ?_)
          go_simp
          go_at_call 14
          refine (pg_count K3.out.x.drew).mono ?_
          rintro e w7 ⟨rfl, rfl⟩
          refine hK.out _ _ ?_ (fun hHeld => ?_)
          · try dsimp only
            go_keep
          clear hK K
          try simp only [Act.put, List.setIfInBounds_toArray, List.set_cons_zero, List.set_cons_succ]
          refine tk9 (.bool false) (by kernel_rfl) (by kernel_rfl) (by kernel_rfl) (fun _ _ _ h => h) rfl (fun w hSw => by (try dsimp only at hSw); obtain ⟨q0, q1⟩ := hSw; go_simp) (by assumption) ?_
          try simp only [Act.put, List.setIfInBounds_toArray, List.set_cons_zero, List.set_cons_succ]
          refine tk10 (.bool false) (by kernel_rfl) (by kernel_rfl) (by kernel_rfl) (fun _ _ _ h => h) rfl (fun w hSw => by (try dsimp only at hSw); obtain ⟨q0, q1⟩ := hSw; go_simp) (by assumption) ?_
          try simp only [Act.put, List.setIfInBounds_toArray, List.set_cons_zero, List.set_cons_succ]
          refine tk11 (.bool false) (by kernel_rfl) (by kernel_rfl) (by kernel_rfl) (fun _ _ _ h => h) rfl (fun w hSw => by (try dsimp only at hSw); obtain ⟨q0, q1⟩ := hSw; go_simp) (by assumption) ?_
          try simp only [Act.put, List.setIfInBounds_toArray, List.set_cons_zero, List.set_cons_succ]
          refine tk12 (.pointer (some ⟨Dx, 0, none⟩)) (by kernel_rfl) (by kernel_rfl) (by kernel_rfl) (fun _ _ _ h => h) rfl (fun w hSw => by (try dsimp only at hSw); obtain ⟨q0, q1⟩ := hSw; go_simp) (by assumption) ?_
          try simp only [Act.put, List.setIfInBounds_toArray, List.set_cons_zero, List.set_cons_succ]
          refine tk14 (.pointer (some ⟨Dy, 0, none⟩)) (by kernel_rfl) (by kernel_rfl) (by kernel_rfl) (fun _ _ _ h => h) rfl (fun w hSw => by (try dsimp only at hSw); obtain ⟨q0, q1⟩ := hSw; go_simp) (by assumption) ?_
          try simp only [Act.put, List.setIfInBounds_toArray, List.set_cons_zero, List.set_cons_succ]
          refine tk15 (.pointer (some ⟨Dy, 0, none⟩)) (by kernel_rfl) (by kernel_rfl) (by kernel_rfl) (fun _ _ _ h => h) rfl (fun w hSw => by (try dsimp only at hSw); obtain ⟨q0, q1⟩ := hSw; go_simp) (by assumption) ?_
          try simp only [Act.put, List.setIfInBounds_toArray, List.set_cons_zero, List.set_cons_succ]
          refine tk16 (.pointer (some ⟨Dy, 1, none⟩)) (by kernel_rfl) (by kernel_rfl) (by kernel_rfl) (fun _ _ _ h => h) rfl (fun w hSw => by (try dsimp only at hSw); obtain ⟨q0, q1⟩ := hSw; go_simp) (by assumption) ?_
          try simp only [Act.put, List.setIfInBounds_toArray, List.set_cons_zero, List.set_cons_succ]
          refine tk17 (.slice ay l1.length cy) (by kernel_rfl) (by kernel_rfl) (by kernel_rfl) (fun _ _ _ h => h) rfl (fun w hSw => by (try dsimp only at hSw); obtain ⟨q0, q1⟩ := hSw; go_simp) (by assumption) ?_
          try simp only [Act.put, List.setIfInBounds_toArray, List.set_cons_zero, List.set_cons_succ]
          refine cl13 (by kernel_rfl) rfl (fun K hK => ?_)
          go_simp
          go_at_call 15
          refine (pg_queue K3.out.x.drew).mono ?_
          rintro e w8 ⟨u8, rfl, r8, b8⟩
          have s0 := (b8.cell (p := ⟨Dy, 0, none⟩) (by exact hDy)).trans y0
          have s1 := (b8.cell (p := ⟨Dy, 1, none⟩) (by exact hDy)).trans y1
          refine hK.out _ _ ?_ (fun hHeld => ?_)
          · try dsimp only
            go_keep
          clear hK K
          try simp only [Act.put, List.setIfInBounds_toArray, List.set_cons_zero, List.set_cons_succ]
          refine cl18 (by kernel_rfl) rfl (fun K hK => ?_)
          go_simp
          go_at_call 13
          refine (ints_same _ _ _ l1 l1 (r8.ints HLO1.out (by omega)) (ints_fresh HOY.out (undrew b8))).mono ?_
          rw [hsame]
          rintro e w9 ⟨rfl, b9⟩
          have t0 := (b9.cell (p := ⟨Dy, 0, none⟩) (by exact Nat.lt_of_lt_of_le hDy b8.size)).trans s0
          have t1 := (b9.cell (p := ⟨Dy, 1, none⟩) (by exact Nat.lt_of_lt_of_le hDy b8.size)).trans s1
          refine hK.out _ _ ?_ (fun hHeld => ?_)
          · try dsimp only
            go_keep
          clear hK K
          try simp only [Act.put, List.setIfInBounds_toArray, List.set_cons_zero, List.set_cons_succ]
          refine tk19 (.bool false) (by kernel_rfl) (by kernel_rfl) (by kernel_rfl) (fun _ _ _ h => h) rfl (fun w hSw => by (try dsimp only at hSw); obtain ⟨q0, q1⟩ := hSw; go_simp) (by assumption) ?_
          try simp only [Act.put, List.setIfInBounds_toArray, List.set_cons_zero, List.set_cons_succ]
          refine tk20 (.bool false) (by kernel_rfl) (by kernel_rfl) (by kernel_rfl) (fun _ _ _ h => h) rfl (fun w hSw => by (try dsimp only at hSw); obtain ⟨q0, q1⟩ := hSw; go_simp) (by assumption) ?_
          try simp only [Act.put, List.setIfInBounds_toArray, List.set_cons_zero, List.set_cons_succ]
          refine wpAnyH_done (by kernel_rfl) ?_ _
          have b10 : Below w3.heap.size w3 w9 := bmm (undrew b8) b8.size b9
          have belX : Below B w w9 := bmm belW K3.out.x.base_le b10
          go_wp2
          go_roundw
          case rel => exact ⟨k + 1, n1, l1, _, _, hkl, by omega, by go_num, K3.out.fresh b10, hn1, by omega, belX⟩
          case measure => simp [RowKit.intOf]; omega
        | false =>
          have HGO : Hid _ := gAO_ok (n := n) kn HM.out.y.lo
          have hsg : sameB (gAO n l kn) (gAO n l kn) = true := decide_eq_true rfl
          have hgl := gAO_le n l kn
          go_wp2_with (first
            | (go_at_call 13; refine (ints_same _ _ _ _ _ (gx3.ints HGO.out (by omega)) (gy3.ints HGO.out (by omega))).mono ?_; rw [hsg]; rintro e w4 ⟨rfl, b4⟩)
            | (go_at_call 12; refine (gr_add k2.y kn hnb).mono ?_; rintro e w3' ⟨uy, rfl, gy3, Sy3, g3, kk3⟩; have gx3 := gx2.keep kk3.size (fun bq oq nq cq h0 eq => kk3.kept bq (RowAt.lt gx2 h0 eq) (HM.out.handed hd2 bq oq nq cq h0 eq)); have k3' := k2.stepY g3 kk3; have b3 := k2.y.below kk3; clear k2)
            | (go_at_call 11; refine (pg_add HM.out.x kn hok2 hnb (by omega)).mono ?_; rintro e w2 ⟨ux, rfl, gx2, Sx2, g2, kk2, hd2⟩; have k2 := HM.out.stepX g2 kk2; have b2 := HM.out.x.below kk2; have x0 := (b2.cell (p := ⟨bk, off + k * 3 + 1, none⟩) (by exact hbk)).trans z1))
          have belW : Below B w w4 := bmm ((bel.trans b2).trans b3) k3'.x.base_le b4
          have k3 := k3'.fresh b4
          have hle := gAL_le n l kn
          have hn1 := gAN_ok kn hnb
          generalize hn1e : gAN n kn = n1 at k3 hn1
          generalize hl1 : gAL n l kn = l1 at k3 hle
          clear hl1 hn1e gx3 gy3 gx2 hd2 hsg HGO k3' b4 hgl
          obtain ⟨w3, hw3⟩ : ∃ w3, w3 = w4 := ⟨_, rfl⟩
          rw [← hw3] at k3 belW ⊢
          clear hw3
          have K3 : Hid (GD w3 B Dx Dy _ _ n1 l1 n1 l1) := k3
          obtain ⟨ay, cy, hby, y0, y1, _, _, hoy, hDy⟩ := k3.y.cells
          have HOY : Hid _ := hoy.at'.ints k3.y.lo (by omega)
          have HLO1 : Hid (∀ x ∈ l1, okI x) := k3.y.lo
          clear hby hoy k3 HM g2 kk2 g3 kk3 b2 b3 x0 z0 z1 z2 bel
          have hsame : sameB l1 l1 = true := decide_eq_true rfl
          refine wp_region_held_drew (S := (fun w' : World => w'.cell? ⟨Dy, 0, none⟩ = some (.int .i64 n1) ∧ w'.cell? ⟨Dy, 1, none⟩ = some (.slice ay l1.length cy))) (by kernel_rfl) ?_ (fun hHeld0 => ?_)
          · try dsimp only
            go_keep
          refine tk0 (.bool true) (by kernel_rfl) (by kernel_rfl) (by kernel_rfl) (fun _ _ _ h => h) rfl (fun w hSw => by (try dsimp only at hSw); obtain ⟨q0, q1⟩ := hSw; go_simp) (by assumption) ?_
          try simp only [Act.put, List.setIfInBounds_toArray, List.set_cons_zero, List.set_cons_succ]
          refine tk1 (.bool false) (by kernel_rfl) (by kernel_rfl) (by kernel_rfl) (fun _ _ _ h => h) rfl (fun w hSw => by (try dsimp only at hSw); obtain ⟨q0, q1⟩ := hSw; go_simp) (by assumption) ?_
          try simp only [Act.put, List.setIfInBounds_toArray, List.set_cons_zero, List.set_cons_succ]
          refine tk2 (.bool false) (by kernel_rfl) (by kernel_rfl) (by kernel_rfl) (fun _ _ _ h => h) rfl (fun w hSw => by (try dsimp only at hSw); obtain ⟨q0, q1⟩ := hSw; go_simp) (by assumption) ?_
          try simp only [Act.put, List.setIfInBounds_toArray, List.set_cons_zero, List.set_cons_succ]
          refine tk3 (.pointer (some ⟨Dx, 0, none⟩)) (by kernel_rfl) (by kernel_rfl) (by kernel_rfl) (fun _ _ _ h => h) rfl (fun w hSw => by (try dsimp only at hSw); obtain ⟨q0, q1⟩ := hSw; go_simp) (by assumption) ?_
          try simp only [Act.put, List.setIfInBounds_toArray, List.set_cons_zero, List.set_cons_succ]
          refine tk5 (.pointer (some ⟨Dy, 0, none⟩)) (by kernel_rfl) (by kernel_rfl) (by kernel_rfl) (fun _ _ _ h => h) rfl (fun w hSw => by (try dsimp only at hSw); obtain ⟨q0, q1⟩ := hSw; go_simp) (by assumption) ?_
          try simp only [Act.put, List.setIfInBounds_toArray, List.set_cons_zero, List.set_cons_succ]
          refine tk6 (.pointer (some ⟨Dy, 0, none⟩)) (by kernel_rfl) (by kernel_rfl) (by kernel_rfl) (fun _ _ _ h => h) rfl (fun w hSw => by (try dsimp only at hSw); obtain ⟨q0, q1⟩ := hSw; go_simp) (by assumption) ?_
          try simp only [Act.put, List.setIfInBounds_toArray, List.set_cons_zero, List.set_cons_succ]
          refine tk7 (.pointer (some ⟨Dy, 0, none⟩)) (by kernel_rfl) (by kernel_rfl) (by kernel_rfl) (fun _ _ _ h => h) rfl (fun w hSw => by (try dsimp only at hSw); obtain ⟨q0, q1⟩ := hSw; go_simp) (by assumption) ?_
          try simp only [Act.put, List.setIfInBounds_toArray, List.set_cons_zero, List.set_cons_succ]
          refine tk8 (.int .i64 n1) (by kernel_rfl) (by kernel_rfl) (by kernel_rfl) (fun _ _ _ h => h) rfl (fun w hSw => by (try dsimp only at hSw); obtain ⟨q0, q1⟩ := hSw; go_simp) (by assumption) ?_
          try simp only [Act.put, List.setIfInBounds_toArray, List.set_cons_zero, List.set_cons_succ]
          refine cl4 (by kernel_rfl) rfl (fun K hK => ?_)
          go_simp
          go_at_call 14
          refine (pg_count K3.out.x.drew).mono ?_
          rintro e w7 ⟨rfl, rfl⟩
          refine hK.out _ _ ?_ (fun hHeld => ?_)
          · try dsimp only
            go_keep
          clear hK K
          try simp only [Act.put, List.setIfInBounds_toArray, List.set_cons_zero, List.set_cons_succ]
          refine tk9 (.bool false) (by kernel_rfl) (by kernel_rfl) (by kernel_rfl) (fun _ _ _ h => h) rfl (fun w hSw => by (try dsimp only at hSw); obtain ⟨q0, q1⟩ := hSw; go_simp) (by assumption) ?_
          try simp only [Act.put, List.setIfInBounds_toArray, List.set_cons_zero, List.set_cons_succ]
          refine tk10 (.bool false) (by kernel_rfl) (by kernel_rfl) (by kernel_rfl) (fun _ _ _ h => h) rfl (fun w hSw => by (try dsimp only at hSw); obtain ⟨q0, q1⟩ := hSw; go_simp) (by assumption) ?_
          try simp only [Act.put, List.setIfInBounds_toArray, List.set_cons_zero, List.set_cons_succ]
          refine tk11 (.bool false) (by kernel_rfl) (by kernel_rfl) (by kernel_rfl) (fun _ _ _ h => h) rfl (fun w hSw => by (try dsimp only at hSw); obtain ⟨q0, q1⟩ := hSw; go_simp) (by assumption) ?_
          try simp only [Act.put, List.setIfInBounds_toArray, List.set_cons_zero, List.set_cons_succ]
          refine tk12 (.pointer (some ⟨Dx, 0, none⟩)) (by kernel_rfl) (by kernel_rfl) (by kernel_rfl) (fun _ _ _ h => h) rfl (fun w hSw => by (try dsimp only at hSw); obtain ⟨q0, q1⟩ := hSw; go_simp) (by assumption) ?_
          try simp only [Act.put, List.setIfInBounds_toArray, List.set_cons_zero, List.set_cons_succ]
          refine tk14 (.pointer (some ⟨Dy, 0, none⟩)) (by kernel_rfl) (by kernel_rfl) (by kernel_rfl) (fun _ _ _ h => h) rfl (fun w hSw => by (try dsimp only at hSw); obtain ⟨q0, q1⟩ := hSw; go_simp) (by assumption) ?_
          try simp only [Act.put, List.setIfInBounds_toArray, List.set_cons_zero, List.set_cons_succ]
          refine tk15 (.pointer (some ⟨Dy, 0, none⟩)) (by kernel_rfl) (by kernel_rfl) (by kernel_rfl) (fun _ _ _ h => h) rfl (fun w hSw => by (try dsimp only at hSw); obtain ⟨q0, q1⟩ := hSw; go_simp) (by assumption) ?_
          try simp only [Act.put, List.setIfInBounds_toArray, List.set_cons_zero, List.set_cons_succ]
          refine tk16 (.pointer (some ⟨Dy, 1, none⟩)) (by kernel_rfl) (by kernel_rfl) (by kernel_rfl) (fun _ _ _ h => h) rfl (fun w hSw => by (try dsimp only at hSw); obtain ⟨q0, q1⟩ := hSw; go_simp) (by assumption) ?_
          try simp only [Act.put, List.setIfInBounds_toArray, List.set_cons_zero, List.set_cons_succ]
          refine tk17 (.slice ay l1.length cy) (by kernel_rfl) (by kernel_rfl) (by kernel_rfl) (fun _ _ _ h => h) rfl (fun w hSw => by (try dsimp only at hSw); obtain ⟨q0, q1⟩ := hSw; go_simp) (by assumption) ?_
          try simp only [Act.put, List.setIfInBounds_toArray, List.set_cons_zero, List.set_cons_succ]
          refine cl13 (by kernel_rfl) rfl (fun K hK => ?_)
          go_simp
          go_at_call 15
          refine (pg_queue K3.out.x.drew).mono ?_
          rintro e w8 ⟨u8, rfl, r8, b8⟩
          have s0 := (b8.cell (p := ⟨Dy, 0, none⟩) (by exact hDy)).trans y0
          have s1 := (b8.cell (p := ⟨Dy, 1, none⟩) (by exact hDy)).trans y1
          refine hK.out _ _ ?_ (fun hHeld => ?_)
          · try dsimp only
            go_keep
          clear hK K
          try simp only [Act.put, List.setIfInBounds_toArray, List.set_cons_zero, List.set_cons_succ]
          refine cl18 (by kernel_rfl) rfl (fun K hK => ?_)
          go_simp
          go_at_call 13
          refine (ints_same _ _ _ l1 l1 (r8.ints HLO1.out (by omega)) (ints_fresh HOY.out (undrew b8))).mono ?_
          rw [hsame]
          rintro e w9 ⟨rfl, b9⟩
          have t0 := (b9.cell (p := ⟨Dy, 0, none⟩) (by exact Nat.lt_of_lt_of_le hDy b8.size)).trans s0
          have t1 := (b9.cell (p := ⟨Dy, 1, none⟩) (by exact Nat.lt_of_lt_of_le hDy b8.size)).trans s1
          refine hK.out _ _ ?_ (fun hHeld => ?_)
          · try dsimp only
            go_keep
          clear hK K
          try simp only [Act.put, List.setIfInBounds_toArray, List.set_cons_zero, List.set_cons_succ]
          refine tk19 (.bool false) (by kernel_rfl) (by kernel_rfl) (by kernel_rfl) (fun _ _ _ h => h) rfl (fun w hSw => by (try dsimp only at hSw); obtain ⟨q0, q1⟩ := hSw; go_simp) (by assumption) ?_
          try simp only [Act.put, List.setIfInBounds_toArray, List.set_cons_zero, List.set_cons_succ]
          refine tk20 (.bool false) (by kernel_rfl) (by kernel_rfl) (by kernel_rfl) (fun _ _ _ h => h) rfl (fun w hSw => by (try dsimp only at hSw); obtain ⟨q0, q1⟩ := hSw; go_simp) (by assumption) ?_
          try simp only [Act.put, List.setIfInBounds_toArray, List.set_cons_zero, List.set_cons_succ]
          refine wpAnyH_done (by kernel_rfl) ?_ _
          have b10 : Below w3.heap.size w3 w9 := bmm (undrew b8) b8.size b9
          have belX : Below B w w9 := bmm belW K3.out.x.base_le b10
          go_wp2
          go_roundw
          case rel => exact ⟨k + 1, n1, l1, _, _, hkl, by omega, by go_num, K3.out.fresh b10, hn1, by omega, belX⟩
          case measure => simp [RowKit.intOf]; omega
      · have hke : k = 300 := by omega
        have q0 : decide ((k : Int) < (ds.length : Int)) = true := decide_eq_true (by omega)
        have q1 : decide ((k : Int) < (300 : Int)) = false := decide_eq_false (by omega)
        clear hM
        go_wp2_with (go_at_call 16; refine (awake9_any _).mono ?_; rintro e w9 ⟨rfl, b9⟩)
        go_ret
        exact ⟨rfl, bmm bel hBw b9⟩
    · have q0 : decide ((k : Int) < (ds.length : Int)) = false := decide_eq_false (by omega)
      clear hM
      go_wp2_with (go_at_call 16; refine (awake9_any _).mono ?_; rintro e w9 ⟨rfl, b9⟩)
      go_ret
      exact ⟨rfl, bmm bel hBw b9⟩
end Go.Proofs.Ytcjmohfglggonaa
