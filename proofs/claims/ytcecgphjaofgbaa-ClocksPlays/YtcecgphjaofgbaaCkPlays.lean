/-
  ClocksPlays of layer 7, walked to its end. The conditions: the slice of deeds lies in memory as its reading says, and no deed has more than 17592186043904 numbers.
-/
import Derived.Test.YtcecgphjaofgbaaCkTwo
namespace Go.Proofs.Ytcecgphjaofgbaa
open Go.RowKit

theorem CkAt.low {T : TypeId} {w : World} {base base' D : Nat} {S : Nat → Prop} {l : List Nat} {real : Nat} (h : CkAt T w base D S l real) (hb : base' ≤ base) : CkAt T w base' D S l real := by
  obtain ⟨g, c, h1, h2, h3⟩ := h.ex
  exact ⟨⟨g, c, h1, own_mono h2 hb, h3⟩, h.sD, fun b hs => ⟨Nat.le_trans hb (h.bd b hs).1, (h.bd b hs).2⟩, h.n1, h.n2, h.le, h.rl⟩
/-- Both. -/
structure CT (w : World) (B Dx Dy : Nat) (Sx Sy : Nat → Prop) (l : List Nat) (r : Nat) : Prop where
  x : CkAt PT w B Dx Sx l r
  y : CkAt RT w B Dy Sy l r
  dj : ∀ i, Sx i → ¬ Sy i
theorem CT.box {w : World} {B Dx Dy : Nat} {Sx Sy : Nat → Prop} {l : List Nat} {r : Nat} (h : CT w B Dx Dy Sx Sy l r) (d : Kd) : DK (w.alloc (.cells (kdL d) KD)) B Dx Dy Sx Sy l r l r w.heap.size d := by
  have k : Below w.heap.size w (w.alloc (.cells (kdL d) KD)) := (Below.refl _ _).alloc (Nat.le_refl _) _
  exact ⟨h.x.fresh k, h.y.fresh k, h.dj, heap_alloc_new w _, fun hs => by have := (h.x.bd _ hs).2; omega, fun hs => by have := (h.y.bd _ hs).2; omega⟩
theorem CT.start {w w1 : World} {B D : Nat} {S : Nat → Prop} {n : Nat} (h1 : 1 ≤ n) (h2 : n ≤ 13) (h : CkAt PT w1 B D S (List.replicate n 0) 0) (b : Below B w w1) (hB : B ≤ w.heap.size) :
    CT ((zi w1 n).alloc (.cells #[.slice (some ⟨w1.heap.size, 0, none⟩) n n, .int .i64 0] RT)) B D (w1.heap.size + 1) S (fun b => b = w1.heap.size ∨ b = w1.heap.size + 1) (List.replicate n 0) 0 ∧ Below B w ((zi w1 n).alloc (.cells #[.slice (some ⟨w1.heap.size, 0, none⟩) n n, .int .i64 0] RT)) := by
  have hBw : B ≤ w1.heap.size := Nat.le_trans hB b.size
  have k : Below w1.heap.size w1 ((zi w1 n).alloc (.cells #[.slice (some ⟨w1.heap.size, 0, none⟩) n n, .int .i64 0] RT)) := ((Below.refl _ w1).alloc (Nat.le_refl _) _).alloc (by simp) _
  exact ⟨⟨h.fresh k, (CkAt.new w1 n h1 h2).low hBw, fun i hi hs => by have := (h.bd i hi).2; omega⟩, bmm b hBw k⟩
/-- A deed in a row. -/
structure IsKd (w : World) (B bk o : Nat) (d : Kd) : Prop where
  c0 : w.cell? ⟨bk, o, none⟩ = some (.bool d.st)
  c1 : w.cell? ⟨bk, o + 1, none⟩ = some (.int .i64 d.R)
  c2 : w.cell? ⟨bk, o + 2, none⟩ = some (.int .i64 d.N)
  c3 : w.cell? ⟨bk, o + 3, none⟩ = some (.int .i64 d.A)
  c4 : w.cell? ⟨bk, o + 4, none⟩ = some d.v
  hv : InAt w B d.v d.bs
  hl : d.bs.length ≤ 17592186043904
  lo : ∀ x ∈ d.bs, -9223372036854775808 ≤ x ∧ x ≤ 9223372036854775807
  hR : d.R ≤ 9223372036854775807
theorem IsKd.below {w w' : World} {B bk o : Nat} {d : Kd} (h : IsKd w B bk o d) (k : Below B w w') (hb : bk < B) : IsKd w' B bk o d :=
  ⟨(k.cell (by exact hb)).trans h.c0, (k.cell (by exact hb)).trans h.c1, (k.cell (by exact hb)).trans h.c2, (k.cell (by exact hb)).trans h.c3, (k.cell (by exact hb)).trans h.c4, h.hv.below k, h.hl, h.lo, h.hR⟩
theorem InAt.form {w : World} {B : Nat} {v : Value} {bs : List Int} (h : InAt w B v bs) : ∃ av nv cv, v = .slice av nv cv := by
  rcases h with ⟨rfl, _⟩ | ⟨x, cap, rfl, _⟩
  · exact ⟨_, _, _, rfl⟩
  · exact ⟨_, _, _, rfl⟩
set_option maxHeartbeats 3200000 in
set_option maxRecDepth 100000 in
theorem plays_no (n : Int) (hn : n < 1 ∨ 13 < n) (a : Option Addr) (len cap : Nat) (w : World) : Calls Try.prog 3 #[.int .i64 n, .slice a len cap] w fun e w' => e = .returned (.bool true) ∧ Below w.heap.size w w' := by
  by_cases h0 : len = 0
  · subst h0
    go_enter Try.func3, Try.ntmps3
    go_wp2_with (first
      | (go_at_call 9; refine (rnew_no n hn _).mono ?_; rintro e w2 ⟨rfl, rfl⟩)
      | (go_at_call 8; refine (pnew_no n hn _).mono ?_; rintro e w1 ⟨rfl, rfl⟩))
    refine wp_loop_rounds 1 ?_
    rw [rounds_succ]
    go_wp2_with (go_at_call 17; refine (awake_any _).mono ?_; rintro e w9 ⟨rfl, b9⟩)
    go_ret
    exact ⟨rfl, b9⟩
  · have h1 : 0 < len := by omega
    have q1 : decide ((0 : Int) < (len : Int)) = true := decide_eq_true (by omega)
    go_enter Try.func3, Try.ntmps3
    go_wp2_with (first
      | (go_at_call 9; refine (rnew_no n hn _).mono ?_; rintro e w2 ⟨rfl, rfl⟩)
      | (go_at_call 8; refine (pnew_no n hn _).mono ?_; rintro e w1 ⟨rfl, rfl⟩))
    refine wp_loop_rounds 1 ?_
    rw [rounds_succ]
    go_wp2_with (go_at_call 17; refine (awake_any _).mono ?_; rintro e w9 ⟨rfl, b9⟩)
    go_ret
    exact ⟨rfl, b9⟩
set_option maxHeartbeats 6400000 in
set_option maxRecDepth 100000 in
theorem plays_yes (n : Nat) (h1 : 1 ≤ n) (h2 : n ≤ 13) (a : Option Addr) (len cap : Nat) (w : World) (hX : len = 0 ∨ ∃ (bk off : Nat) (Z : Nat → Kd), a = some ⟨bk, off, none⟩ ∧ bk < w.heap.size ∧ ∀ j, j < len → IsKd w w.heap.size bk (off + j * 5) (Z j)) :
    Calls Try.prog 3 #[.int .i64 (n : Int), .slice a len cap] w fun e w' => e = .returned (.bool true) ∧ Below w.heap.size w w' := by
  have hn := pnew_yes n h1 h2 w
  obtain ⟨B, hB⟩ : ∃ B, B = w.heap.size := ⟨_, rfl⟩
  have HBE : Hid (B = w.heap.size) := hB
  rw [← hB] at hX hn ⊢
  have HA : Hid _ := hX
  clear hX hB
  go_enter Try.func3, Try.ntmps3
  go_wp2_with (first
    | (go_at_call 9; refine (rnew_yes n h1 h2 _).mono ?_; rintro e w2 ⟨rfl, rfl⟩)
    | (go_at_call 8; refine hn.mono ?_; rintro e w1 ⟨Dx, Sx, rfl, k1, b1⟩))
  have hst := CT.start h1 h2 k1 b1 (by rw [HBE.out]; exact Nat.le_refl _)
  have HST : Hid _ := hst
  clear hst k1 hn
  obtain ⟨Dy, hDy⟩ : ∃ Dy, Dy = w1.heap.size + 1 := ⟨_, rfl⟩
  rw [← hDy] at HST ⊢
  obtain ⟨Sy, hSy⟩ : ∃ Sy : Nat → Prop, Sy = (fun b => b = w1.heap.size ∨ b = Dy) := ⟨_, rfl⟩
  rw [← hSy] at HST
  clear hDy hSy b1
  go_loopw [7] (fun i wr => ∃ (k : Nat) (l : List Nat) (r : Nat), k ≤ len ∧ k ≤ 100 ∧ i = .int .i64 k ∧ CT wr B Dx Dy Sx Sy l r ∧ Below B w wr) (fun i _ => len - (intOf i).toNat)
  case atStart => exact ⟨0, _, 0, Nat.zero_le _, Nat.zero_le _, rfl, HST.out.1, HST.out.2⟩
  case round =>
    obtain ⟨k, l, r, hk, hk2, rfl, hT, bel⟩ := hrel
    clear HST
    have hBw : B ≤ wr.heap.size := hT.x.base_le
    by_cases hkl : k < len
    · by_cases hkm : k < 100
      · rcases HA.out with h0 | ⟨bk, off, Z, rfl, hbk, hZ⟩
        · omega
        have q0 : decide ((k : Int) < (len : Int)) = true := decide_eq_true (by omega)
        have q1 : decide ((k : Int) < (100 : Int)) = true := decide_eq_true (by omega)
        have hd := (hZ k hkl).below bel hbk
        clear hZ HA
        obtain ⟨⟨st, R, N, A, v, bs⟩, hx⟩ : ∃ x, x = Z k := ⟨_, rfl⟩
        rw [← hx] at hd
        have d0 := hd.c0
        have d1 := hd.c1
        have d2 := hd.c2
        have d3 := hd.c3
        have d4 := hd.c4
        have hin0 := hd.hv
        have hbl := hd.hl
        have hlo := hd.lo
        have hRb := hd.hR
        simp only at d0 d1 d2 d3 d4 hin0 hbl hlo hRb
        clear hd hx
        obtain ⟨av, nv, cv, rfl⟩ := hin0.form
        have HIN : Hid (InAt wr B (.slice av nv cv) bs) := hin0
        have HT : Hid _ := hT
        clear hT hin0
        cases st with
        | true =>
          go_wp2
          obtain ⟨u, hue⟩ : ∃ u, u = wr.alloc (.cells #[.bool true, .int .i64 R, .int .i64 N, .int .i64 A, .slice av nv cv] KD) := ⟨_, rfl⟩
          have hu := HT.out.box ⟨true, R, N, A, .slice av nv cv, bs⟩
          change DK (wr.alloc (.cells #[.bool true, .int .i64 R, .int .i64 N, .int .i64 A, .slice av nv cv] KD)) B Dx Dy Sx Sy l r l r wr.heap.size _ at hu
          have belU : Below B w u := by rw [hue]; exact bel.alloc hBw _
          have hin : InAt u B (.slice av nv cv) bs := by rw [hue]; exact HIN.out.below ((Below.refl _ wr).alloc hBw _)
          rw [← hue] at hu ⊢
          have hBu : B ≤ u.heap.size := hu.x.base_le
          have e2 : u.cell? ⟨wr.heap.size, 2, none⟩ = some (.int .i64 N) := hu.c2
          have e3 : u.cell? ⟨wr.heap.size, 3, none⟩ = some (.int .i64 A) := hu.c3
          clear hue HT HIN bel d0 d1 d2 d3 d4
          refine wp_region_held_drew (S := (fun w' : World => w'.cell? ⟨wr.heap.size, 2, none⟩ = some (.int .i64 N) ∧ w'.cell? ⟨wr.heap.size, 3, none⟩ = some (.int .i64 A))) (by kernel_rfl) ?_ (fun hHeld0 => ?_)
          · try dsimp only
            go_keep
          refine tk0 (.pointer (some ⟨Dx, 0, none⟩)) (by kernel_rfl) (by kernel_rfl) (by kernel_rfl) (fun _ _ _ h => h) rfl (fun w hSw => by (try dsimp only at hSw); obtain ⟨q0, q1⟩ := hSw; go_simp) (by assumption) ?_
          try simp only [Act.put, List.setIfInBounds_toArray, List.set_cons_zero, List.set_cons_succ]
          refine tk1 (.pointer (some ⟨wr.heap.size, 2, none⟩)) (by kernel_rfl) (by kernel_rfl) (by kernel_rfl) (fun _ _ _ h => h) rfl (fun w hSw => by (try dsimp only at hSw); obtain ⟨q0, q1⟩ := hSw; go_simp) (by assumption) ?_
          try simp only [Act.put, List.setIfInBounds_toArray, List.set_cons_zero, List.set_cons_succ]
          refine tk2 (.int .i64 N) (by kernel_rfl) (by kernel_rfl) (by kernel_rfl) (fun _ _ _ h => h) rfl (fun w hSw => by (try dsimp only at hSw); obtain ⟨q0, q1⟩ := hSw; go_simp) (by assumption) ?_
          try simp only [Act.put, List.setIfInBounds_toArray, List.set_cons_zero, List.set_cons_succ]
          refine tk3 (.pointer (some ⟨wr.heap.size, 3, none⟩)) (by kernel_rfl) (by kernel_rfl) (by kernel_rfl) (fun _ _ _ h => h) rfl (fun w hSw => by (try dsimp only at hSw); obtain ⟨q0, q1⟩ := hSw; go_simp) (by assumption) ?_
          try simp only [Act.put, List.setIfInBounds_toArray, List.set_cons_zero, List.set_cons_succ]
          refine tk4 (.int .i64 A) (by kernel_rfl) (by kernel_rfl) (by kernel_rfl) (fun _ _ _ h => h) rfl (fun w hSw => by (try dsimp only at hSw); obtain ⟨q0, q1⟩ := hSw; go_simp) (by assumption) ?_
          try simp only [Act.put, List.setIfInBounds_toArray, List.set_cons_zero, List.set_cons_succ]
          refine tk6 (.pointer (some ⟨Dy, 0, none⟩)) (by kernel_rfl) (by kernel_rfl) (by kernel_rfl) (fun _ _ _ h => h) rfl (fun w hSw => by (try dsimp only at hSw); obtain ⟨q0, q1⟩ := hSw; go_simp) (by assumption) ?_
          try simp only [Act.put, List.setIfInBounds_toArray, List.set_cons_zero, List.set_cons_succ]
          refine tk7 (.pointer (some ⟨wr.heap.size, 2, none⟩)) (by kernel_rfl) (by kernel_rfl) (by kernel_rfl) (fun _ _ _ h => h) rfl (fun w hSw => by (try dsimp only at hSw); obtain ⟨q0, q1⟩ := hSw; go_simp) (by assumption) ?_
          try simp only [Act.put, List.setIfInBounds_toArray, List.set_cons_zero, List.set_cons_succ]
          refine tk8 (.int .i64 N) (by kernel_rfl) (by kernel_rfl) (by kernel_rfl) (fun _ _ _ h => h) rfl (fun w hSw => by (try dsimp only at hSw); obtain ⟨q0, q1⟩ := hSw; go_simp) (by assumption) ?_
          try simp only [Act.put, List.setIfInBounds_toArray, List.set_cons_zero, List.set_cons_succ]
          refine tk9 (.pointer (some ⟨wr.heap.size, 3, none⟩)) (by kernel_rfl) (by kernel_rfl) (by kernel_rfl) (fun _ _ _ h => h) rfl (fun w hSw => by (try dsimp only at hSw); obtain ⟨q0, q1⟩ := hSw; go_simp) (by assumption) ?_
          try simp only [Act.put, List.setIfInBounds_toArray, List.set_cons_zero, List.set_cons_succ]
          refine tk10 (.int .i64 A) (by kernel_rfl) (by kernel_rfl) (by kernel_rfl) (fun _ _ _ h => h) rfl (fun w hSw => by (try dsimp only at hSw); obtain ⟨q0, q1⟩ := hSw; go_simp) (by assumption) ?_
          try simp only [Act.put, List.setIfInBounds_toArray, List.set_cons_zero, List.set_cons_succ]
          refine cl5 (by kernel_rfl) rfl (fun K hK => ?_)
          go_simp
          go_at_call 10
          refine hu.drew.setX.mono ?_
          rintro e w2 ⟨rfl, h2, b2⟩
          have x2 := h2.c2
          have x3 := h2.c3
          refine hK.out _ _ ?_ (fun hHeld => ?_)
          · try dsimp only
            go_keep
          clear hK K
          refine cl11 (by kernel_rfl) rfl (fun K hK => ?_)
          go_simp
          go_at_call 11
          refine h2.setY.mono ?_
          rintro e w3 ⟨rfl, h3, b3⟩
          have z2 := h3.c2
          have z3 := h3.c3
          refine hK.out _ _ ?_ (fun hHeld => ?_)
          · try dsimp only
            go_keep
          clear hK K
          refine tk12 (.bool true) (by kernel_rfl) (by kernel_rfl) (by kernel_rfl) (fun _ _ _ h => h) rfl (fun w hSw => by (try dsimp only at hSw); obtain ⟨q0, q1⟩ := hSw; go_simp) (by assumption) ?_
          try simp only [Act.put, List.setIfInBounds_toArray, List.set_cons_zero, List.set_cons_succ]
          refine tk13 (.bool true) (by kernel_rfl) (by kernel_rfl) (by kernel_rfl) (fun _ _ _ h => h) rfl (fun w hSw => by (try dsimp only at hSw); obtain ⟨q0, q1⟩ := hSw; go_simp) (by assumption) ?_
          try simp only [Act.put, List.setIfInBounds_toArray, List.set_cons_zero, List.set_cons_succ]
          refine wpAnyH_done (by kernel_rfl) ?_ _
          have belW : Below B w w3 := (belU.trans (undrB b2)).trans b3
          generalize setL l N A = l1 at h3
          obtain ⟨r1, hr1⟩ : ∃ r1, r1 = r := ⟨_, rfl⟩
          rw [← hr1] at h3
          clear hr1
          have hB3 : B ≤ w3.heap.size := h3.x.base_le
          obtain ⟨_, _, _, _, yR, _⟩ := h3.y.cells
          have hAt := fun j => pat_any h3.x j
          have hAr := fun j => rat_any h3.y j
          clear b2 b3 h2 hu belU x2 x3 z2 z3 e2 e3
          go_wp2
          go_loop [9, 10] (fun ok i => ok = .bool true ∧ ∃ j : Int, i = .int .i64 j ∧ -1 ≤ j ∧ j ≤ (n : Int) + 1) (fun _ i => ((n : Int) + 1 - intOf i).toNat)
          case atStart => exact ⟨rfl, -1, rfl, by omega, by omega⟩
          case round =>
            obtain ⟨rfl, j, rfl, hj1, hj2⟩ := hrel
            by_cases hjn : j ≤ (n : Int)
            · have p1 : decide (j ≤ (n : Int)) = true := decide_eq_true hjn
              go_wp2_with (first
                | (go_at_call 15; refine (hAr j).mono ?_; rintro e w6 ⟨rfl, rfl⟩)
                | (go_at_call 14; refine (hAt j).mono ?_; rintro e w5 ⟨rfl, rfl⟩))
              go_round
              case rel => exact ⟨by simp, j + 1, by go_num, by omega, by omega⟩
              case measure => simp [intOf]; omega
            · have p1 : decide (j ≤ (n : Int)) = false := decide_eq_false hjn
              go_wp2
              refine wp_region_held_drew (S := (fun w' : World => w'.cell? ⟨Dy, 1, none⟩ = some (.int .i64 (r1 : Int)))) (by kernel_rfl) ?_ (fun hHeld0 => ?_)
              · try dsimp only
                go_keep
              refine tk0 (.bool true) (by kernel_rfl) (by kernel_rfl) (by kernel_rfl) (fun _ _ _ h => h) rfl (fun w hSw => by (try dsimp only at hSw); go_simp) (by assumption) ?_
              try simp only [Act.put, List.setIfInBounds_toArray, List.set_cons_zero, List.set_cons_succ]
              refine tk1 (.bool false) (by kernel_rfl) (by kernel_rfl) (by kernel_rfl) (fun _ _ _ h => h) rfl (fun w hSw => by (try dsimp only at hSw); go_simp) (by assumption) ?_
              try simp only [Act.put, List.setIfInBounds_toArray, List.set_cons_zero, List.set_cons_succ]
              refine tk2 (.bool false) (by kernel_rfl) (by kernel_rfl) (by kernel_rfl) (fun _ _ _ h => h) rfl (fun w hSw => by (try dsimp only at hSw); go_simp) (by assumption) ?_
              try simp only [Act.put, List.setIfInBounds_toArray, List.set_cons_zero, List.set_cons_succ]
              refine tk3 (.pointer (some ⟨Dx, 0, none⟩)) (by kernel_rfl) (by kernel_rfl) (by kernel_rfl) (fun _ _ _ h => h) rfl (fun w hSw => by (try dsimp only at hSw); go_simp) (by assumption) ?_
              try simp only [Act.put, List.setIfInBounds_toArray, List.set_cons_zero, List.set_cons_succ]
              refine tk5 (.pointer (some ⟨Dy, 0, none⟩)) (by kernel_rfl) (by kernel_rfl) (by kernel_rfl) (fun _ _ _ h => h) rfl (fun w hSw => by (try dsimp only at hSw); go_simp) (by assumption) ?_
              try simp only [Act.put, List.setIfInBounds_toArray, List.set_cons_zero, List.set_cons_succ]
              refine tk6 (.pointer (some ⟨Dy, 0, none⟩)) (by kernel_rfl) (by kernel_rfl) (by kernel_rfl) (fun _ _ _ h => h) rfl (fun w hSw => by (try dsimp only at hSw); go_simp) (by assumption) ?_
              try simp only [Act.put, List.setIfInBounds_toArray, List.set_cons_zero, List.set_cons_succ]
              refine tk7 (.pointer (some ⟨Dy, 1, none⟩)) (by kernel_rfl) (by kernel_rfl) (by kernel_rfl) (fun _ _ _ h => h) rfl (fun w hSw => by (try dsimp only at hSw); go_simp) (by assumption) ?_
              try simp only [Act.put, List.setIfInBounds_toArray, List.set_cons_zero, List.set_cons_succ]
              refine tk8 (.int .i64 (r1 : Int)) (by kernel_rfl) (by kernel_rfl) (by kernel_rfl) (fun _ _ _ h => h) rfl (fun w hSw => by (try dsimp only at hSw); go_simp) (by assumption) ?_
              try simp only [Act.put, List.setIfInBounds_toArray, List.set_cons_zero, List.set_cons_succ]
              refine cl4 (by kernel_rfl) rfl (fun K hK => ?_)
              go_simp
              go_at_call 16
              refine (preal_any h3.x.drew).mono ?_
              rintro e w7 ⟨rfl, rfl⟩
              refine hK.out _ _ ?_ (fun hHeld => ?_)
              · try dsimp only
                go_keep
              clear hK K
              try simp only [Act.put, List.setIfInBounds_toArray, List.set_cons_zero, List.set_cons_succ]
              refine tk9 (.bool false) (by kernel_rfl) (by kernel_rfl) (by kernel_rfl) (fun _ _ _ h => h) rfl (fun w hSw => by (try dsimp only at hSw); go_simp) (by assumption) ?_
              try simp only [Act.put, List.setIfInBounds_toArray, List.set_cons_zero, List.set_cons_succ]
              refine tk10 (.bool false) (by kernel_rfl) (by kernel_rfl) (by kernel_rfl) (fun _ _ _ h => h) rfl (fun w hSw => by (try dsimp only at hSw); go_simp) (by assumption) ?_
              try simp only [Act.put, List.setIfInBounds_toArray, List.set_cons_zero, List.set_cons_succ]
              refine wpAnyH_done (by kernel_rfl) ?_ _
              go_wp2
              go_roundw
              case rel => exact ⟨k + 1, l1, r1, hkl, by omega, by go_num, ⟨h3.x.drew, h3.y.drew, h3.dj⟩, bmm belW hB3 ⟨rfl, rfl, rfl, Nat.le_refl _, fun _ _ => rfl⟩⟩
              case measure => simp [intOf]; omega
        | false =>
          go_wp2
          obtain ⟨u, hue⟩ : ∃ u, u = wr.alloc (.cells #[.bool false, .int .i64 R, .int .i64 N, .int .i64 A, .slice av nv cv] KD) := ⟨_, rfl⟩
          have hu := HT.out.box ⟨false, R, N, A, .slice av nv cv, bs⟩
          change DK (wr.alloc (.cells #[.bool false, .int .i64 R, .int .i64 N, .int .i64 A, .slice av nv cv] KD)) B Dx Dy Sx Sy l r l r wr.heap.size _ at hu
          have belU : Below B w u := by rw [hue]; exact bel.alloc hBw _
          have hin : InAt u B (.slice av nv cv) bs := by rw [hue]; exact HIN.out.below ((Below.refl _ wr).alloc hBw _)
          rw [← hue] at hu ⊢
          have hBu : B ≤ u.heap.size := hu.x.base_le
          have e1 : u.cell? ⟨wr.heap.size, 1, none⟩ = some (.int .i64 R) := hu.c1
          have e4 : u.cell? ⟨wr.heap.size, 4, none⟩ = some (.slice av nv cv) := hu.c4
          clear hue HT HIN bel d0 d1 d2 d3 d4
          refine wp_region_held_drew (S := (fun w' : World => w'.cell? ⟨wr.heap.size, 1, none⟩ = some (.int .i64 R) ∧ w'.cell? ⟨wr.heap.size, 4, none⟩ = some (.slice av nv cv))) (by kernel_rfl) ?_ (fun hHeld0 => ?_)
          · try dsimp only
            go_keep
          refine tk0 (.pointer (some ⟨Dx, 0, none⟩)) (by kernel_rfl) (by kernel_rfl) (by kernel_rfl) (fun _ _ _ h => h) rfl (fun w hSw => by (try dsimp only at hSw); obtain ⟨q0, q1⟩ := hSw; go_simp) (by assumption) ?_
          try simp only [Act.put, List.setIfInBounds_toArray, List.set_cons_zero, List.set_cons_succ]
          refine tk1 (.pointer (some ⟨wr.heap.size, 1, none⟩)) (by kernel_rfl) (by kernel_rfl) (by kernel_rfl) (fun _ _ _ h => h) rfl (fun w hSw => by (try dsimp only at hSw); obtain ⟨q0, q1⟩ := hSw; go_simp) (by assumption) ?_
          try simp only [Act.put, List.setIfInBounds_toArray, List.set_cons_zero, List.set_cons_succ]
          refine tk2 (.int .i64 R) (by kernel_rfl) (by kernel_rfl) (by kernel_rfl) (fun _ _ _ h => h) rfl (fun w hSw => by (try dsimp only at hSw); obtain ⟨q0, q1⟩ := hSw; go_simp) (by assumption) ?_
          try simp only [Act.put, List.setIfInBounds_toArray, List.set_cons_zero, List.set_cons_succ]
          refine tk3 (.pointer (some ⟨wr.heap.size, 4, none⟩)) (by kernel_rfl) (by kernel_rfl) (by kernel_rfl) (fun _ _ _ h => h) rfl (fun w hSw => by (try dsimp only at hSw); obtain ⟨q0, q1⟩ := hSw; go_simp) (by assumption) ?_
          try simp only [Act.put, List.setIfInBounds_toArray, List.set_cons_zero, List.set_cons_succ]
          refine tk4 (.slice av nv cv) (by kernel_rfl) (by kernel_rfl) (by kernel_rfl) (fun _ _ _ h => h) rfl (fun w hSw => by (try dsimp only at hSw); obtain ⟨q0, q1⟩ := hSw; go_simp) (by assumption) ?_
          try simp only [Act.put, List.setIfInBounds_toArray, List.set_cons_zero, List.set_cons_succ]
          refine tk7 (.pointer (some ⟨Dy, 0, none⟩)) (by kernel_rfl) (by kernel_rfl) (by kernel_rfl) (fun _ _ _ h => h) rfl (fun w hSw => by (try dsimp only at hSw); obtain ⟨q0, q1⟩ := hSw; go_simp) (by assumption) ?_
          try simp only [Act.put, List.setIfInBounds_toArray, List.set_cons_zero, List.set_cons_succ]
          refine tk8 (.pointer (some ⟨wr.heap.size, 1, none⟩)) (by kernel_rfl) (by kernel_rfl) (by kernel_rfl) (fun _ _ _ h => h) rfl (fun w hSw => by (try dsimp only at hSw); obtain ⟨q0, q1⟩ := hSw; go_simp) (by assumption) ?_
          try simp only [Act.put, List.setIfInBounds_toArray, List.set_cons_zero, List.set_cons_succ]
          refine tk9 (.int .i64 R) (by kernel_rfl) (by kernel_rfl) (by kernel_rfl) (fun _ _ _ h => h) rfl (fun w hSw => by (try dsimp only at hSw); obtain ⟨q0, q1⟩ := hSw; go_simp) (by assumption) ?_
          try simp only [Act.put, List.setIfInBounds_toArray, List.set_cons_zero, List.set_cons_succ]
          refine tk10 (.pointer (some ⟨wr.heap.size, 4, none⟩)) (by kernel_rfl) (by kernel_rfl) (by kernel_rfl) (fun _ _ _ h => h) rfl (fun w hSw => by (try dsimp only at hSw); obtain ⟨q0, q1⟩ := hSw; go_simp) (by assumption) ?_
          try simp only [Act.put, List.setIfInBounds_toArray, List.set_cons_zero, List.set_cons_succ]
          refine tk11 (.slice av nv cv) (by kernel_rfl) (by kernel_rfl) (by kernel_rfl) (fun _ _ _ h => h) rfl (fun w hSw => by (try dsimp only at hSw); obtain ⟨q0, q1⟩ := hSw; go_simp) (by assumption) ?_
          try simp only [Act.put, List.setIfInBounds_toArray, List.set_cons_zero, List.set_cons_succ]
          refine cl5 (by kernel_rfl) rfl (fun K hK => ?_)
          refine wp_copy (.tmp 57) rfl rfl (hin.below (B := B) ⟨rfl, rfl, rfl, Nat.le_refl _, fun _ _ => rfl⟩) hbl hlo ?_
          intro u5 w5 hi5 b5 hf5
          have h5 := hu.drew.fresh b5
          have hin5 := (hin.below (w' := u.drew) (B := B) ⟨rfl, rfl, rfl, Nat.le_refl _, fun _ _ => rfl⟩).below (b5.mono hBu)
          have y1 := h5.c1
          have y4 := h5.c4
          refine hK.out _ _ ?_ (fun hHeld => ?_)
          · try dsimp only
            go_keep
          clear hK K
          try simp only [Act.put, List.setIfInBounds_toArray, List.set_cons_zero, List.set_cons_succ]
          refine cl6 (by kernel_rfl) rfl (fun K hK => ?_)
          go_simp
          go_at_call 12
          refine (h5.goXc hRb u5 hi5 (fun a bk off n cap _ e1 e2 hs => by have h8 := hf5 a bk off n cap e1 e2; have h9 := (hu.x.bd bk hs).2; have h10 : u.heap.size ≤ bk := h8; omega)).mono ?_
          rintro e w2 ⟨rfl, h2, b2'⟩
          have b2 : Below B u.drew w2 := (b5.mono hBu).trans b2'
          have hin2 := hin5.below b2'
          have x1 := h2.c1
          have x4 := h2.c4
          refine hK.out _ _ ?_ (fun hHeld => ?_)
          · try dsimp only
            go_keep
          clear hK K
          refine cl12 (by kernel_rfl) rfl (fun K hK => ?_)
          go_simp
          go_at_call 13
          refine (h2.goYc hRb (hin2.ints h2.x.base_le hbl hlo) (hin2.far h2.y)).mono ?_
          rintro e w3 ⟨rfl, h3, b3⟩
          have z1 := h3.c1
          have z4 := h3.c4
          refine hK.out _ _ ?_ (fun hHeld => ?_)
          · try dsimp only
            go_keep
          clear hK K
          refine tk13 (.bool true) (by kernel_rfl) (by kernel_rfl) (by kernel_rfl) (fun _ _ _ h => h) rfl (fun w hSw => by (try dsimp only at hSw); obtain ⟨q0, q1⟩ := hSw; go_simp) (by assumption) ?_
          try simp only [Act.put, List.setIfInBounds_toArray, List.set_cons_zero, List.set_cons_succ]
          refine tk14 (.bool true) (by kernel_rfl) (by kernel_rfl) (by kernel_rfl) (fun _ _ _ h => h) rfl (fun w hSw => by (try dsimp only at hSw); obtain ⟨q0, q1⟩ := hSw; go_simp) (by assumption) ?_
          try simp only [Act.put, List.setIfInBounds_toArray, List.set_cons_zero, List.set_cons_succ]
          refine wpAnyH_done (by kernel_rfl) ?_ _
          have belW : Below B w w3 := (belU.trans (undrB b2)).trans b3
          generalize goL2 l r R bs = l1 at h3
          generalize goR2 l r R bs = r1 at h3
          have hB3 : B ≤ w3.heap.size := h3.x.base_le
          obtain ⟨_, _, _, _, yR, _⟩ := h3.y.cells
          have hAt := fun j => pat_any h3.x j
          have hAr := fun j => rat_any h3.y j
          clear b2 b3 h2 hu belU x1 x4 z1 z4 y1 y4 e1 e4 h5 hin5 hin2 hi5
          go_wp2
          go_loop [9, 10] (fun ok i => ok = .bool true ∧ ∃ j : Int, i = .int .i64 j ∧ -1 ≤ j ∧ j ≤ (n : Int) + 1) (fun _ i => ((n : Int) + 1 - intOf i).toNat)
          case atStart => exact ⟨rfl, -1, rfl, by omega, by omega⟩
          case round =>
            obtain ⟨rfl, j, rfl, hj1, hj2⟩ := hrel
            by_cases hjn : j ≤ (n : Int)
            · have p1 : decide (j ≤ (n : Int)) = true := decide_eq_true hjn
              go_wp2_with (first
                | (go_at_call 15; refine (hAr j).mono ?_; rintro e w6 ⟨rfl, rfl⟩)
                | (go_at_call 14; refine (hAt j).mono ?_; rintro e w5 ⟨rfl, rfl⟩))
              go_round
              case rel => exact ⟨by simp, j + 1, by go_num, by omega, by omega⟩
              case measure => simp [intOf]; omega
            · have p1 : decide (j ≤ (n : Int)) = false := decide_eq_false hjn
              go_wp2
              refine wp_region_held_drew (S := (fun w' : World => w'.cell? ⟨Dy, 1, none⟩ = some (.int .i64 (r1 : Int)))) (by kernel_rfl) ?_ (fun hHeld0 => ?_)
              · try dsimp only
                go_keep
              refine tk0 (.bool true) (by kernel_rfl) (by kernel_rfl) (by kernel_rfl) (fun _ _ _ h => h) rfl (fun w hSw => by (try dsimp only at hSw); go_simp) (by assumption) ?_
              try simp only [Act.put, List.setIfInBounds_toArray, List.set_cons_zero, List.set_cons_succ]
              refine tk1 (.bool false) (by kernel_rfl) (by kernel_rfl) (by kernel_rfl) (fun _ _ _ h => h) rfl (fun w hSw => by (try dsimp only at hSw); go_simp) (by assumption) ?_
              try simp only [Act.put, List.setIfInBounds_toArray, List.set_cons_zero, List.set_cons_succ]
              refine tk2 (.bool false) (by kernel_rfl) (by kernel_rfl) (by kernel_rfl) (fun _ _ _ h => h) rfl (fun w hSw => by (try dsimp only at hSw); go_simp) (by assumption) ?_
              try simp only [Act.put, List.setIfInBounds_toArray, List.set_cons_zero, List.set_cons_succ]
              refine tk3 (.pointer (some ⟨Dx, 0, none⟩)) (by kernel_rfl) (by kernel_rfl) (by kernel_rfl) (fun _ _ _ h => h) rfl (fun w hSw => by (try dsimp only at hSw); go_simp) (by assumption) ?_
              try simp only [Act.put, List.setIfInBounds_toArray, List.set_cons_zero, List.set_cons_succ]
              refine tk5 (.pointer (some ⟨Dy, 0, none⟩)) (by kernel_rfl) (by kernel_rfl) (by kernel_rfl) (fun _ _ _ h => h) rfl (fun w hSw => by (try dsimp only at hSw); go_simp) (by assumption) ?_
              try simp only [Act.put, List.setIfInBounds_toArray, List.set_cons_zero, List.set_cons_succ]
              refine tk6 (.pointer (some ⟨Dy, 0, none⟩)) (by kernel_rfl) (by kernel_rfl) (by kernel_rfl) (fun _ _ _ h => h) rfl (fun w hSw => by (try dsimp only at hSw); go_simp) (by assumption) ?_
              try simp only [Act.put, List.setIfInBounds_toArray, List.set_cons_zero, List.set_cons_succ]
              refine tk7 (.pointer (some ⟨Dy, 1, none⟩)) (by kernel_rfl) (by kernel_rfl) (by kernel_rfl) (fun _ _ _ h => h) rfl (fun w hSw => by (try dsimp only at hSw); go_simp) (by assumption) ?_
              try simp only [Act.put, List.setIfInBounds_toArray, List.set_cons_zero, List.set_cons_succ]
              refine tk8 (.int .i64 (r1 : Int)) (by kernel_rfl) (by kernel_rfl) (by kernel_rfl) (fun _ _ _ h => h) rfl (fun w hSw => by (try dsimp only at hSw); go_simp) (by assumption) ?_
              try simp only [Act.put, List.setIfInBounds_toArray, List.set_cons_zero, List.set_cons_succ]
              refine cl4 (by kernel_rfl) rfl (fun K hK => ?_)
              go_simp
              go_at_call 16
              refine (preal_any h3.x.drew).mono ?_
              rintro e w7 ⟨rfl, rfl⟩
              refine hK.out _ _ ?_ (fun hHeld => ?_)
              · try dsimp only
                go_keep
              clear hK K
              try simp only [Act.put, List.setIfInBounds_toArray, List.set_cons_zero, List.set_cons_succ]
              refine tk9 (.bool false) (by kernel_rfl) (by kernel_rfl) (by kernel_rfl) (fun _ _ _ h => h) rfl (fun w hSw => by (try dsimp only at hSw); go_simp) (by assumption) ?_
              try simp only [Act.put, List.setIfInBounds_toArray, List.set_cons_zero, List.set_cons_succ]
              refine tk10 (.bool false) (by kernel_rfl) (by kernel_rfl) (by kernel_rfl) (fun _ _ _ h => h) rfl (fun w hSw => by (try dsimp only at hSw); go_simp) (by assumption) ?_
              try simp only [Act.put, List.setIfInBounds_toArray, List.set_cons_zero, List.set_cons_succ]
              refine wpAnyH_done (by kernel_rfl) ?_ _
              go_wp2
              go_roundw
              case rel => exact ⟨k + 1, l1, r1, hkl, by omega, by go_num, ⟨h3.x.drew, h3.y.drew, h3.dj⟩, bmm belW hB3 ⟨rfl, rfl, rfl, Nat.le_refl _, fun _ _ => rfl⟩⟩
              case measure => simp [intOf]; omega
      · have hke : k = 100 := by omega
        subst hke
        have q0 : decide (((100 : Nat) : Int) < (len : Int)) = true := decide_eq_true (by omega)
        clear hT
        go_wp2_with (go_at_call 17; refine (awake_any _).mono ?_; rintro e w9 ⟨rfl, b9⟩)
        go_ret
        exact ⟨rfl, bmm bel hBw b9⟩
    · have hke : k = len := by omega
      subst hke
      clear hT
      go_wp2_with (go_at_call 17; refine (awake_any _).mono ?_; rintro e w9 ⟨rfl, b9⟩)
      go_ret
      exact ⟨rfl, bmm bel hBw b9⟩
end Go.Proofs.Ytcecgphjaofgbaa
