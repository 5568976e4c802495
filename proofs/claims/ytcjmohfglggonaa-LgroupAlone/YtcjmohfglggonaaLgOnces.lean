/-
  LgroupOnces of layer 9, walked: any deeds on the program's once and on the document's: each answer, who runs it, whether it is done. The condition: the deeds lie in memory as their reading says.
-/
import Derived.Test.YtcjmohfglggonaaLgPlays
namespace Go.Proofs.Ytcjmohfglggonaa
open Go.RowKit

/-- Both onces. -/
structure OD (w : World) (B Dx Dy : Nat) (Sx Sy : Nat → Prop) (hx : Int) (vx : Bool) (lx : List Int) (hy : Int) (vy : Bool) (ly : List Int) : Prop where
  x : POn w B Dx Sx hx vx lx
  y : OnAt w B Dy Sy hy vy ly
  ap : ∀ b, Sx b → ¬ Sy b
section
variable {w w' : World} {B Dx Dy : Nat} {Sx Sy S' : Nat → Prop} {hx hy h1 : Int} {vx vy v1 : Bool} {lx ly l1 : List Int}
theorem OD.stepX (h : OD w B Dx Dy Sx Sy hx vx lx hy vy ly) (hp : POn w' B Dx S' h1 v1 l1) (k : Kept w w' Sx S') : OD w' B Dx Dy S' Sy h1 v1 l1 hy vy ly :=
  ⟨hp, h.y.keep k.size (fun b hb => k.kept b (h.y.bd b hb).2 (fun h1 => h.ap b h1 hb)), apart_old (fun b hb => (h.y.bd b hb).2) h.ap k⟩
theorem OD.stepY (h : OD w B Dx Dy Sx Sy hx vx lx hy vy ly) (hp : OnAt w' B Dy S' h1 v1 l1) (k : Kept w w' Sy S') : OD w' B Dx Dy Sx S' hx vx lx h1 v1 l1 :=
  ⟨h.x.keep k.size (fun b hb => k.kept b (h.x.bd b hb).2 (fun h1 => h.ap b hb h1)), hp, fun b h1 h2 => apart_old (fun b hb => (h.x.bd b hb).2) (fun b h3 h4 => h.ap b h4 h3) k b h2 h1⟩
theorem OD.fresh (h : OD w B Dx Dy Sx Sy hx vx lx hy vy ly) (k : Below w.heap.size w w') : OD w' B Dx Dy Sx Sy hx vx lx hy vy ly := ⟨h.x.fresh k, h.y.fresh k, h.ap⟩
theorem OD.handed (h : OD w B Dx Dy Sx Sy hx vx lx hy vy ly) {u : Value} (hd : Handed w Sx S' u) : ∀ bk off m cap, 0 < m → u = .slice (some ⟨bk, off, none⟩) m cap → ¬ Sy bk := fun bk off m cap h0 e hs => by
  rcases (hd bk off m cap h0 e).1 with h1 | h1
  · exact h.ap bk h1 hs
  · have := (h.y.bd bk hs).2
    omega
theorem OD.start {w1 w2 : World} (h1 : POn w1 B Dx Sx hx vx lx) (h2 : OnAt w2 w1.heap.size Dy Sy hy vy ly) (b2 : Below w1.heap.size w1 w2) : OD w2 B Dx Dy Sx Sy hx vx lx hy vy ly :=
  ⟨h1.fresh b2, h2.low h1.base_le, fun b h3 h4 => by have := (h1.bd b h3).2; have := (h2.bd b h4).1; omega⟩
end
theorem oDL_le (who : Int) (ov : Bool) (l : List Int) (t : Int) : (oDL who ov l t).length ≤ l.length + 1 := by
  unfold oDL
  split
  · simp
  · omega
theorem oEL_le (who : Int) (l : List Int) (t : Int) : (oEL who l t).length ≤ l.length := by
  unfold oEL
  split
  · omega
  · simp
theorem oEO_ok {who : Int} {l : List Int} (t : Int) (h : ∀ x ∈ l, okI x) : ∀ x ∈ oEO who l t, okI x := fun x hx => by
  unfold oEO at hx
  split at hx
  · cases hx
  · exact h x hx
theorem oEO_le (who : Int) (l : List Int) (t : Int) : (oEO who l t).length ≤ l.length := by
  unfold oEO
  split
  · simp
  · omega
set_option maxHeartbeats 6400000 in
set_option maxRecDepth 100000 in
theorem onces_walk (w : World) (v : Value) (ds : List Dd) (hv : RowAt ddC w v ds) (hlo : ∀ x ∈ ds, okI x.1 ∧ okI x.2.1) (hmx : ds.length ≤ 9223372036854775807) :
    Calls Try.prog 4 #[v] w fun e w' => e = .returned (.bool true) ∧ Below w.heap.size w w' := by
  have hn := po_new w
  obtain ⟨a, cap, rfl⟩ := hv.form
  obtain ⟨B, hB⟩ : ∃ B, B = w.heap.size := ⟨_, rfl⟩
  have HBE : Hid (B = w.heap.size) := hB
  rw [← hB] at hn ⊢
  have HA : Hid _ := hv
  have HLO : Hid _ := hlo
  clear hv hlo hB
  go_enter Try.func4, Try.ntmps4
  go_wp2_with (first
    | (go_at_call 18; refine (on_new w1).mono ?_; rintro e w2 ⟨rfl, k2, b2⟩; have hst := OD.start k1 k2 b2; have hst2 := bmm b1 k1.base_le b2)
    | (go_at_call 17; refine hn.mono ?_; rintro e w1 ⟨Dx, Sx, rfl, k1, b1⟩))
  have HST : Hid (OD w2 B Dx w1.heap.size Sx (fun b => b = w1.heap.size) (-1) false [] (-1) false []) := hst
  have HST2 : Hid _ := hst2
  clear hst hst2 k1 k2 b2 b1 hn
  obtain ⟨Dy, hDy⟩ : ∃ Dy, Dy = w1.heap.size := ⟨_, rfl⟩
  rw [← hDy] at HST ⊢
  clear hDy
  go_loopw [5, 6, 7, 8, 9, 10, 11, 12, 13, 14, 15, 16, 17, 18] (fun i _ _ _ _ _ _ _ _ _ _ _ _ _ wr => ∃ (k : Nat) (who : Int) (ov : Bool) (l : List Int) (Sx Sy : Nat → Prop), k ≤ ds.length ∧ k ≤ 300 ∧ i = .int .i64 k ∧ OD wr B Dx Dy Sx Sy who ov l who ov l ∧ l.length ≤ k ∧ Below B w wr) (fun i _ _ _ _ _ _ _ _ _ _ _ _ _ _ => ds.length - (RowKit.intOf i).toNat)
  case atStart => exact ⟨0, -1, false, [], _, _, Nat.zero_le _, Nat.zero_le _, rfl, HST.out, Nat.le_refl _, HST2.out⟩
  case round =>
    clear HST HST2
    obtain ⟨k, who, ov, l, Sx, Sy, hk, hk2, rfl, hM, hlk, bel⟩ := hrel
    have hBw : B ≤ wr.heap.size := hM.x.base_le
    by_cases hkl : k < ds.length
    · by_cases hkm : k < 300
      · have q0 : decide ((k : Int) < (ds.length : Int)) = true := decide_eq_true (by omega)
        have q1 : decide ((k : Int) < (300 : Int)) = true := decide_eq_true (by omega)
        obtain ⟨bk, off, cp, e, _, hbk, hx⟩ := HA.out.cells ddC_len (by omega)
        simp only [Value.slice.injEq] at e
        obtain ⟨rfl, _, rfl⟩ := e
        rw [← HBE.out] at hbk
        have z0 := (bel.cell (p := ⟨bk, off + k * 3, none⟩) (by exact hbk)).trans (hx k hkl 0 _ (by decide) rfl)
        have z2 := (bel.cell (p := ⟨bk, off + k * 3 + 2, none⟩) (by exact hbk)).trans (hx k hkl 2 _ (by decide) rfl)
        have hok := HLO.out _ (List.getElem_mem hkl)
        clear hx
        generalize ds[k] = D at *
        obtain ⟨t, kn, sc⟩ := D
        simp only at z0 z2 hok
        obtain ⟨hok, hok2⟩ := hok
        have HM : Hid (OD wr B Dx Dy Sx Sy who ov l who ov l) := hM
        clear hM
        cases sc with
        | true =>
          have HGO : Hid _ := oEO_ok (who := who) t HM.out.y.lo
          have hsg : sameB (oEO who l t) (oEO who l t) = true := decide_eq_true rfl
          have hgl := oEO_le who l t
          have hle := oEL_le who l t
          go_wp2_with (first
            | (go_at_call 23; have k4 := k3.fresh b4; refine (po_state k4.x).mono ?_; rintro e w5 ⟨rfl, b5⟩; have k5 := k4.fresh b5; obtain ⟨ay, cy, _, y0, y1, _⟩ := k5.y.cells)
            | (go_at_call 13; refine (ints_same _ _ _ _ _ (gx3.ints HGO.out (by omega)) (gy3.ints HGO.out (by omega))).mono ?_; rw [hsg]; rintro e w4 ⟨rfl, b4⟩)
            | (go_at_call 20; refine (on_done k2.y t).mono ?_; rintro e w3 ⟨uy, rfl, gy3, Sy3, g3, kk3⟩; have gx3 := gx2.keep kk3.size (fun bq oq nq cq h0 eq => kk3.kept bq (RowAt.lt gx2 h0 eq) (HM.out.handed hd2 bq oq nq cq h0 eq)); have k3 := k2.stepY g3 kk3; have b3 := k2.y.below kk3; clear k2)
            | (go_at_call 19; refine (po_done HM.out.x t hok (by omega)).mono ?_; rintro e w2 ⟨ux, rfl, gx2, Sx2, g2, kk2, hd2⟩; have k2 := HM.out.stepX g2 kk2; have b2 := HM.out.x.below kk2; have x0 := (b2.cell (p := ⟨bk, off + k * 3, none⟩) (by exact hbk)).trans z0))
          have belW : Below B w w5 := bmm (bmm ((bel.trans b2).trans b3) k3.x.base_le b4) k4.x.base_le b5
          go_roundw
          case rel => exact ⟨k + 1, _, _, _, _, _, hkl, by omega, by go_num, k5, by omega, belW⟩
          case measure => simp [RowKit.intOf]; omega
        | false =>
          have hle := oDL_le who ov l t
          go_wp2_with (first
            | (go_at_call 23; refine (po_state k3.x).mono ?_; rintro e w5 ⟨rfl, b5⟩; have k5 := k3.fresh b5; obtain ⟨ay, cy, _, y0, y1, _⟩ := k5.y.cells)
            | (go_at_call 22; refine (on_do k2.y t hok (by omega)).mono ?_; rintro e w3 ⟨rfl, Sy3, g3, kk3⟩; have k3 := k2.stepY g3 kk3; have b3 := k2.y.below kk3; clear k2)
            | (go_at_call 21; refine (po_do HM.out.x t hok (by omega)).mono ?_; rintro e w2 ⟨rfl, Sx2, g2, kk2⟩; have k2 := HM.out.stepX g2 kk2; have b2 := HM.out.x.below kk2; have x0 := (b2.cell (p := ⟨bk, off + k * 3, none⟩) (by exact hbk)).trans z0))
          have belW : Below B w w5 := bmm ((bel.trans b2).trans b3) k3.x.base_le b5
          go_roundw
          case rel => exact ⟨k + 1, _, _, _, _, _, hkl, by omega, by go_num, k5, by omega, belW⟩
          case measure => simp [RowKit.intOf]; omega
      · have hke : k = 300 := by omega
        have q0 : decide ((k : Int) < (ds.length : Int)) = true := decide_eq_true (by omega)
        have q1 : decide ((k : Int) < (300 : Int)) = false := decide_eq_false (by omega)
        clear hM
        go_wp2_with (go_at_call 16; refine (awake9_any _).mono ?_; rintro e w9 ⟨rfl, b9⟩)
        go_ret
        exact ⟨rfl, bmm bel hBw b9⟩
    · have q0 : decide ((k : Int) < (ds.length : Int)) = false := decide_eq_false (by omega)
      clear hM
      go_wp2_with (go_at_call 16; refine (awake9_any _).mono ?_; rintro e w9 ⟨rfl, b9⟩)
      go_ret
      exact ⟨rfl, bmm bel hBw b9⟩
end Go.Proofs.Ytcjmohfglggonaa
