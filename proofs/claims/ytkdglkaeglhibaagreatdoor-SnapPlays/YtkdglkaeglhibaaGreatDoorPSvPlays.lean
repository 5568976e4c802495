/-
  SnapPlays of layer 12, walked: any deeds on the program's disk and on the document's: each answer, what is loaded behind each, all files. The conditions: the slice of deeds lies in memory as its reading says; the program's variables as its text lays them.
-/
import Derived.Test.YtkdglkaeglhibaaGreatDoorPSvPair
import Derived.Test.YtkdglkaeglhibaaGreatDoorPRTake
import Derived.Test.YtkdglkaeglhibaaGreatDoorPDkTexts
namespace Go.Proofs.YtkdglkaeglhibaaGreatDoor
open Go.RowKit

/-- A deed. -/
structure Sd where
  K : Int
  N : Int
  F : ByteArray
  s : ByteArray
/-- A deed in a row. -/
structure IsSd (w : World) (bk o : Nat) (x : Sd) : Prop where
  c0 : w.cell? ⟨bk, o, none⟩ = some (.int .i64 x.K)
  c1 : w.cell? ⟨bk, o + 1, none⟩ = some (.int .i64 x.N)
  c2 : w.cell? ⟨bk, o + 2, none⟩ = some (.string x.F)
  c3 : w.cell? ⟨bk, o + 3, none⟩ = some (.string x.s)
  hF : x.F.size ≤ maxLen
  n1 : -9223372036854775808 ≤ x.N
  n2 : x.N ≤ 9223372036854775807
theorem IsSd.below {w w' : World} {bk o B : Nat} {x : Sd} (h : IsSd w bk o x) (k : Below B w w') (hb : bk < B) : IsSd w' bk o x :=
  ⟨(k.cell (by exact hb)).trans h.c0, (k.cell (by exact hb)).trans h.c1, (k.cell (by exact hb)).trans h.c2, (k.cell (by exact hb)).trans h.c3, h.hF, h.n1, h.n2⟩
set_option maxHeartbeats 12800000 in
set_option maxRecDepth 100000 in
theorem splays_walk (a : Option Addr) (len cap : Nat) (w : World) (hE : Env w w.heap.size) (hX : len = 0 ∨ ∃ (bk off : Nat) (X : Nat → Sd), a = some ⟨bk, off, none⟩ ∧ bk < w.heap.size ∧ ∀ j, j < len → IsSd w bk (off + j * 4) (X j)) :
    Calls Tryz.prog 3 #[.slice a len cap] w fun e w' => e = .returned (.bool true) ∧ Below w.heap.size w w' := by
  obtain ⟨ro0, S0, hB0⟩ := Bis.start w
  have QA : Hid (∀ w1, Below w.heap.size w w1 → Calls Tryz.prog 16 #[] w1 fun e w' => e = .returned (.bool true) ∧ Below w.heap.size w w') := fun w1 b => (sAwake w1 w.heap.size (hE.below b (Nat.le_refl _))).mono fun _ _ ⟨g1, g2⟩ => ⟨g1, bmm b b.size g2⟩
  have HE : Hid (Env w w.heap.size) := hE
  have I0 : Hid (Bis ((w.alloc (.cells #[.map none, .int .i64 0] 48)).alloc (.cells #[.slice none 0 0, .int .i64 0] 28)) w.heap.size w.heap.size (w.heap.size + 1) [] (fun _ => none) 0 0 0 ro0 S0) := hB0
  have B0 : Hid (Below w.heap.size w ((w.alloc (.cells #[.map none, .int .i64 0] 48)).alloc (.cells #[.slice none 0 0, .int .i64 0] 28))) := (((Below.refl _ w).alloc (Nat.le_refl _) _).alloc (by simp) _)
  have HA : Hid (len = 0 ∨ ∃ (bk off : Nat) (X : Nat → Sd), a = some ⟨bk, off, none⟩ ∧ bk < w.heap.size ∧ ∀ j, j < len → IsSd w bk (off + j * 4) (X j)) := hX
  clear hX hB0 hE
  go_enter Tryz.func3, Tryz.ntmps3
  go_wp2_with (go_at_call 4; refine (knew_any _).mono ?_; rintro e w1 ⟨rfl, rfl⟩)
  generalize hB : w.heap.size = B at *
  go_loopw [5] (fun i wr => ∃ (k : Nat) (A : List CF) (L : Look) (turns clock cnt : Nat) (ro : Nat → Option Nat) (S : Nat → Prop), k ≤ len ∧ k ≤ 60 ∧ i = .int .i64 k ∧ Bis wr B B (B + 1) A L turns clock cnt ro S ∧ Ok A L turns clock cnt k ∧ Below B w wr) (fun i _ => len - (intOf i).toNat)
  case atStart => exact ⟨0, [], _, 0, 0, 0, ro0, S0, Nat.zero_le _, Nat.zero_le _, rfl, I0.out, Ok.new, B0.out⟩
  case round =>
    obtain ⟨k, A, L, turns, clock, cnt, ro, S, hk, hk2, rfl, hT, hO, bel⟩ := hrel
    clear I0 B0
    have hBw : B ≤ wr.heap.size := hT.x.base
    by_cases hkl : k < len
    · by_cases hkm : k < 60
      · have q0 : decide ((k : Int) < (len : Int)) = true := by simp; omega
        have q1 : decide ((k : Int) < (60 : Int)) = true := by simp; omega
        rcases HA.out with h0 | ⟨bk, off, Z, rfl, hbk, hXX⟩
        · omega
        have hd := (hXX k hkl).below bel (by omega)
        clear hXX HA
        obtain ⟨⟨K, N, F, s⟩, hx⟩ : ∃ x, x = Z k := ⟨_, rfl⟩
        rw [← hx] at hd
        have d0 := hd.c0
        have d1 := hd.c1
        have d2 := hd.c2
        have d3 := hd.c3
        have n1 := hd.n1
        have n2 := hd.n2
        have hFz := hd.hF
        simp only at d0 d1 d2 d3 n1 n2 hFz
        clear hd hx
        have HQ : Hid (w.heap.size = B) := hB
        have bU : Below B w (wr.alloc (.cells #[.int .i64 K, .int .i64 N, .string F, .string s] 30)) := bel.alloc hBw _
        have HU : Hid (Duo (wr.alloc (.cells #[.int .i64 K, .int .i64 N, .string F, .string s] 30)) B B (B + 1) A L turns clock cnt ro S wr.heap.size (#[.int .i64 K, .int .i64 N, .string F, .string s], 30)) := hT.box (#[.int .i64 K, .int .i64 N, .string F, .string s], 30)
        by_cases hs : 1000 < s.size
        · have hs' : decide ((1000 : Int) < (s.size : Int)) = true := by simp; omega
          clear hT hB
          go_wp2
          go_roundw
          case rel => exact ⟨k + 1, A, L, turns, clock, cnt, ro, S, hkl, by omega, by go_num, HU.out.bis, hO.more, bU⟩
          case measure => simp [intOf]; omega
        · have hs' : decide ((1000 : Int) < (s.size : Int)) = false := by simp; omega
          have hok := hT.x.ok
          clear hT hB
          by_cases k0 : K = 0
          · subst k0
            obtain ⟨z, PX, PY, hX, hY, hJ⟩ := pair_save (base := B) (Dx := B) (Dy := B + 1) (b := wr.heap.size) (S := S) (B := B) (d := (#[.int .i64 0, .int .i64 N, .string F, .string s], 30)) hO (by omega) N s
            clear hok
            go_wp2
            obtain ⟨u, hue⟩ : ∃ u, u = wr.alloc (.cells #[.int .i64 0, .int .i64 N, .string F, .string s] 30) := ⟨_, rfl⟩
            have hu := HU.out
            change Duo (wr.alloc (.cells #[.int .i64 0, .int .i64 N, .string F, .string s] 30)) B B (B + 1) A L turns clock cnt ro S wr.heap.size _ at hu
            rw [← hue] at hu bU ⊢
            have e1 : u.cell? ⟨wr.heap.size, 1, none⟩ = some (.int .i64 N) := hu.cell 1 (.int .i64 N) rfl
            have e3 : u.cell? ⟨wr.heap.size, 3, none⟩ = some (.string s) := hu.cell 3 (.string s) rfl
            clear hue HU
            refine wp_region_held_drew (S := (fun w' : World => w'.cell? ⟨wr.heap.size, 1, none⟩ = some (.int .i64 N) ∧ w'.cell? ⟨wr.heap.size, 3, none⟩ = some (.string s))) (by kernel_rfl) ?_ (fun hHeld0 => ?_)
            · try dsimp only
              go_keep
            refine tk0 (.pointer (some ⟨B, 0, none⟩)) (by kernel_rfl) (by kernel_rfl) (by kernel_rfl) (fun _ _ _ h => h) rfl (fun w hSw => by (try dsimp only at hSw); obtain ⟨q0, q1⟩ := hSw; go_simp) (by assumption) ?_
            try simp only [Act.put, List.setIfInBounds_toArray, List.set_cons_zero, List.set_cons_succ]
            refine tk1 (.pointer (some ⟨wr.heap.size, 1, none⟩)) (by kernel_rfl) (by kernel_rfl) (by kernel_rfl) (fun _ _ _ h => h) rfl (fun w hSw => by (try dsimp only at hSw); obtain ⟨q0, q1⟩ := hSw; go_simp) (by assumption) ?_
            try simp only [Act.put, List.setIfInBounds_toArray, List.set_cons_zero, List.set_cons_succ]
            refine tk2 (.int .i64 N) (by kernel_rfl) (by kernel_rfl) (by kernel_rfl) (fun _ _ _ h => h) rfl (fun w hSw => by (try dsimp only at hSw); obtain ⟨q0, q1⟩ := hSw; go_simp) (by assumption) ?_
            try simp only [Act.put, List.setIfInBounds_toArray, List.set_cons_zero, List.set_cons_succ]
            refine tk3 (.pointer (some ⟨wr.heap.size, 3, none⟩)) (by kernel_rfl) (by kernel_rfl) (by kernel_rfl) (fun _ _ _ h => h) rfl (fun w hSw => by (try dsimp only at hSw); obtain ⟨q0, q1⟩ := hSw; go_simp) (by assumption) ?_
            try simp only [Act.put, List.setIfInBounds_toArray, List.set_cons_zero, List.set_cons_succ]
            refine tk4 (.string s) (by kernel_rfl) (by kernel_rfl) (by kernel_rfl) (fun _ _ _ h => h) rfl (fun w hSw => by (try dsimp only at hSw); obtain ⟨q0, q1⟩ := hSw; go_simp) (by assumption) ?_
            try simp only [Act.put, List.setIfInBounds_toArray, List.set_cons_zero, List.set_cons_succ]
            refine tk6 (.pointer (some ⟨B + 1, 0, none⟩)) (by kernel_rfl) (by kernel_rfl) (by kernel_rfl) (fun _ _ _ h => h) rfl (fun w hSw => by (try dsimp only at hSw); obtain ⟨q0, q1⟩ := hSw; go_simp) (by assumption) ?_
            try simp only [Act.put, List.setIfInBounds_toArray, List.set_cons_zero, List.set_cons_succ]
            refine tk7 (.pointer (some ⟨wr.heap.size, 1, none⟩)) (by kernel_rfl) (by kernel_rfl) (by kernel_rfl) (fun _ _ _ h => h) rfl (fun w hSw => by (try dsimp only at hSw); obtain ⟨q0, q1⟩ := hSw; go_simp) (by assumption) ?_
            try simp only [Act.put, List.setIfInBounds_toArray, List.set_cons_zero, List.set_cons_succ]
            refine tk8 (.int .i64 N) (by kernel_rfl) (by kernel_rfl) (by kernel_rfl) (fun _ _ _ h => h) rfl (fun w hSw => by (try dsimp only at hSw); obtain ⟨q0, q1⟩ := hSw; go_simp) (by assumption) ?_
            try simp only [Act.put, List.setIfInBounds_toArray, List.set_cons_zero, List.set_cons_succ]
            refine tk9 (.pointer (some ⟨wr.heap.size, 3, none⟩)) (by kernel_rfl) (by kernel_rfl) (by kernel_rfl) (fun _ _ _ h => h) rfl (fun w hSw => by (try dsimp only at hSw); obtain ⟨q0, q1⟩ := hSw; go_simp) (by assumption) ?_
            try simp only [Act.put, List.setIfInBounds_toArray, List.set_cons_zero, List.set_cons_succ]
            refine tk10 (.string s) (by kernel_rfl) (by kernel_rfl) (by kernel_rfl) (fun _ _ _ h => h) rfl (fun w hSw => by (try dsimp only at hSw); obtain ⟨q0, q1⟩ := hSw; go_simp) (by assumption) ?_
            try simp only [Act.put, List.setIfInBounds_toArray, List.set_cons_zero, List.set_cons_succ]
            refine cl5 (by kernel_rfl) rfl (fun K hK => ?_)
            go_simp
            go_at_call 5
            refine (hX _ _ hu.drew (HE.out.below (bU.trans ⟨rfl, rfl, rfl, Nat.le_refl _, fun _ _ => rfl⟩) (Nat.le_refl _))).mono ?_
            rintro e w2 ⟨rfl, A2, t2, ro2, h2, p2, b2⟩
            have y1 := h2.cell 1 (.int .i64 N) rfl
            have y3 := h2.cell 3 (.string s) rfl
            refine hK.out _ _ ?_ (fun hHeld => ?_)
            · try dsimp only
              go_keep
            clear hK K
            try simp only [Act.put, List.setIfInBounds_toArray, List.set_cons_zero, List.set_cons_succ]
            refine cl11 (by kernel_rfl) rfl (fun K hK => ?_)
            go_simp
            go_at_call 6
            refine (hY _ _ _ _ h2).mono ?_
            rintro e w3 ⟨rfl, L3, c3, n3, S3, h3, p3, b3⟩
            have x1 := h3.cell 1 (.int .i64 N) rfl
            have x3 := h3.cell 3 (.string s) rfl
            refine hK.out _ _ ?_ (fun hHeld => ?_)
            · try dsimp only
              go_keep
            clear hK K
            try simp only [Act.put, List.setIfInBounds_toArray, List.set_cons_zero, List.set_cons_succ]
            refine tk12 (.bool true) (by kernel_rfl) (by kernel_rfl) (by kernel_rfl) (fun _ _ _ h => h) rfl (fun w hSw => by (try dsimp only at hSw); obtain ⟨q0, q1⟩ := hSw; go_simp) (by assumption) ?_
            try simp only [Act.put, List.setIfInBounds_toArray, List.set_cons_zero, List.set_cons_succ]
            refine tk13 (.bool true) (by kernel_rfl) (by kernel_rfl) (by kernel_rfl) (fun _ _ _ h => h) rfl (fun w hSw => by (try dsimp only at hSw); obtain ⟨q0, q1⟩ := hSw; go_simp) (by assumption) ?_
            try simp only [Act.put, List.setIfInBounds_toArray, List.set_cons_zero, List.set_cons_succ]
            refine wpAnyH_done (by kernel_rfl) ?_ _
            have hO3 := hJ _ _ _ _ _ p2 p3
            have b03 : Below B w w3 := (bU.trans (undrB b2)).trans b3
            clear hX hY hJ p2 p3 b2 b3 bU h2 hu
            have hb3 := h3.bis
            obtain ⟨n, t, c, tx, ty, tf, tg⟩ := tails hb3 hO3 (by omega) (HE.out.below b03 (Nat.le_refl _))
            have TX : Hid _ := tx
            have TY : Hid _ := ty
            have TF : Hid _ := tf
            have TG : Hid _ := tg
            have HB3 : Hid _ := hb3
            have HO3 : Hid _ := hO3
            have B03 : Hid (Below B w w3) := b03
            have HR : Hid (Below w3.heap.size w3 w3) := Below.refl _ _
            clear tx ty tf tg hb3 hO3 b03 h3 y1 x1 e1 y3 x3 e3
            go_wp2_with (first
              | (go_at_call 13; refine (texts_any ns ns _ _ _ s7 t7 (by omega) true (by simp)).mono ?_; rintro e w8 ⟨rfl, c8⟩; have b8 := bmm b7 b7.size c8)
              | (go_at_call 15; refine (TG.out _ b6).mono ?_; rintro e w7 ⟨u7, ns, rfl, t7, p7, m7, l7, c7, b7⟩; have s7 := (F6.out ns p7 m7).below c7; clear p7 m7)
              | (go_at_call 14; refine (TF.out _ b5).mono ?_; rintro e w6 ⟨v6, rfl, ff, b6⟩; have F6 : Hid (∀ ns : List ByteArray, ns.Pairwise (fun a b => ltN a b = true) → _ → StrAt w6 v6 ns) := ff; clear ff)
              | (go_at_call 12; refine (TY.out _ b4).mono ?_; rintro e w5 ⟨rfl, b5⟩)
              | (go_at_call 11; refine (TX.out _ HR.out).mono ?_; rintro e w4 ⟨rfl, b4⟩))
            go_roundw
            case rel => exact ⟨k + 1, _, _, _, _, _, _, _, hkl, by omega, by go_num, HB3.out.fresh b8, HO3.out, B03.out.trans (b8.mono (HB3.out.x.base))⟩
            case measure => simp [intOf]; omega
          · have f0 : (K == 0) = false := by simpa using k0
            by_cases k1 : K = 1
            · subst k1
              obtain ⟨z, PX, PY, rfl, hX, hY, hJ⟩ := pair_crash (base := B) (Dx := B) (Dy := B + 1) (b := wr.heap.size) (S := S) (d := (#[.int .i64 1, .int .i64 N, .string F, .string s], 30)) hO (by omega) hok N n1 n2
              have hu := HU.out
              have u1 : (wr.alloc (.cells #[.int .i64 1, .int .i64 N, .string F, .string s] 30)).cell? ⟨wr.heap.size, 1, none⟩ = some (.int .i64 N) := hu.cell 1 (.int .i64 N) rfl
              have HX : Hid _ := hX
              have HY' : Hid _ := hY
              clear hok HU hX hY
              have HU : Hid (Duo (wr.alloc (.cells #[.int .i64 1, .int .i64 N, .string F, .string s] 30)) B B (B + 1) A L turns clock cnt ro S wr.heap.size (#[.int .i64 1, .int .i64 N, .string F, .string s], 30)) := hu
              clear hu
              go_wp2_with (first
                | (go_at_call 13; refine (texts_any ns ns _ _ _ s7 t7 (by omega) true (by simp)).mono ?_; rintro e w8 ⟨rfl, c8⟩; have b8 := bmm b7 b7.size c8)
                | (go_at_call 15; refine (TG.out _ b6).mono ?_; rintro e w7 ⟨u7, ns, rfl, t7, p7, m7, l7, c7, b7⟩; have s7 := (F6.out ns p7 m7).below c7; clear p7 m7)
                | (go_at_call 14; refine (TF.out _ b5).mono ?_; rintro e w6 ⟨v6, rfl, ff, b6⟩; have F6 : Hid (∀ ns : List ByteArray, ns.Pairwise (fun a b => ltN a b = true) → _ → StrAt w6 v6 ns) := ff; clear ff)
                | (go_at_call 12; refine (TY.out _ b4).mono ?_; rintro e w5 ⟨rfl, b5⟩)
                | (go_at_call 11; refine (TX.out _ HR.out).mono ?_; rintro e w4 ⟨rfl, b4⟩)
                | (go_at_call 8; refine (HY'.out _ _ _ _ h2.out).mono ?_; rintro e w3 ⟨rfl, L3, c3, n3, S3, h3, p3, b3⟩; have hO3 := hJ _ _ _ _ _ p2 p3; have b03 : Below B w w3 := (bU.trans b2).trans b3; have hb3 := h3.bis; obtain ⟨n, t, c, tx, ty, tf, tg⟩ := tails hb3 hO3 (by omega) (HE.out.below b03 (Nat.le_refl _)); have TX : Hid _ := tx; have TY : Hid _ := ty; have TF : Hid _ := tf; have TG : Hid _ := tg; have HB3 : Hid _ := hb3; have HO3 : Hid _ := hO3; have B03 : Hid (Below B w w3) := b03; have HR : Hid (Below w3.heap.size w3 w3) := Below.refl _ _; clear tx ty tf tg hb3 hO3 b03 h3 p3 b3 h2 HU y1)
                | (go_at_call 7; refine (HX.out _ _ HU.out).mono ?_; rintro e w2 ⟨rfl, A2, t2, ro2, hh, p2, b2⟩; have h2 : Hid (Duo w2 B B (B + 1) A2 L t2 clock cnt ro2 S wr.heap.size (#[.int .i64 1, .int .i64 N, .string F, .string s], 30)) := hh; have y1 := hh.cell 1 (.int .i64 N) rfl; clear hh u1))
              go_roundw
              case rel => exact ⟨k + 1, _, _, _, _, _, _, _, hkl, by omega, by go_num, HB3.out.fresh b8, HO3.out, B03.out.trans (b8.mono (HB3.out.x.base))⟩
              case measure => simp [intOf]; omega
            · have f1 : (K == 1) = false := by simpa using k1
              by_cases k2 : K = 2
              · subst k2
                obtain ⟨z, PX, PY, ⟨zi, rfl⟩, hX, hY, hJ⟩ := pair_append (base := B) (Dx := B) (Dy := B + 1) (b := wr.heap.size) (S := S) (d := (#[.int .i64 2, .int .i64 N, .string F, .string s], 30)) hO (by omega) hok F s (by omega)
                clear hok
                go_wp2
                obtain ⟨u, hue⟩ : ∃ u, u = wr.alloc (.cells #[.int .i64 2, .int .i64 N, .string F, .string s] 30) := ⟨_, rfl⟩
                have hu := HU.out
                change Duo (wr.alloc (.cells #[.int .i64 2, .int .i64 N, .string F, .string s] 30)) B B (B + 1) A L turns clock cnt ro S wr.heap.size _ at hu
                rw [← hue] at hu bU ⊢
                have e2 : u.cell? ⟨wr.heap.size, 2, none⟩ = some (.string F) := hu.cell 2 (.string F) rfl
                have e3 : u.cell? ⟨wr.heap.size, 3, none⟩ = some (.string s) := hu.cell 3 (.string s) rfl
                clear hue HU
                refine wp_region_held_drew (S := (fun w' : World => w'.cell? ⟨wr.heap.size, 2, none⟩ = some (.string F) ∧ w'.cell? ⟨wr.heap.size, 3, none⟩ = some (.string s))) (by kernel_rfl) ?_ (fun hHeld0 => ?_)
                · try dsimp only
                  go_keep
                refine tk0 (.pointer (some ⟨B, 0, none⟩)) (by kernel_rfl) (by kernel_rfl) (by kernel_rfl) (fun _ _ _ h => h) rfl (fun w hSw => by (try dsimp only at hSw); obtain ⟨q0, q1⟩ := hSw; go_simp) (by assumption) ?_
                try simp only [Act.put, List.setIfInBounds_toArray, List.set_cons_zero, List.set_cons_succ]
                refine tk1 (.pointer (some ⟨wr.heap.size, 2, none⟩)) (by kernel_rfl) (by kernel_rfl) (by kernel_rfl) (fun _ _ _ h => h) rfl (fun w hSw => by (try dsimp only at hSw); obtain ⟨q0, q1⟩ := hSw; go_simp) (by assumption) ?_
                try simp only [Act.put, List.setIfInBounds_toArray, List.set_cons_zero, List.set_cons_succ]
                refine tk2 (.string F) (by kernel_rfl) (by kernel_rfl) (by kernel_rfl) (fun _ _ _ h => h) rfl (fun w hSw => by (try dsimp only at hSw); obtain ⟨q0, q1⟩ := hSw; go_simp) (by assumption) ?_
                try simp only [Act.put, List.setIfInBounds_toArray, List.set_cons_zero, List.set_cons_succ]
                refine tk3 (.pointer (some ⟨wr.heap.size, 3, none⟩)) (by kernel_rfl) (by kernel_rfl) (by kernel_rfl) (fun _ _ _ h => h) rfl (fun w hSw => by (try dsimp only at hSw); obtain ⟨q0, q1⟩ := hSw; go_simp) (by assumption) ?_
                try simp only [Act.put, List.setIfInBounds_toArray, List.set_cons_zero, List.set_cons_succ]
                refine tk4 (.string s) (by kernel_rfl) (by kernel_rfl) (by kernel_rfl) (fun _ _ _ h => h) rfl (fun w hSw => by (try dsimp only at hSw); obtain ⟨q0, q1⟩ := hSw; go_simp) (by assumption) ?_
                try simp only [Act.put, List.setIfInBounds_toArray, List.set_cons_zero, List.set_cons_succ]
                refine tk6 (.pointer (some ⟨B + 1, 0, none⟩)) (by kernel_rfl) (by kernel_rfl) (by kernel_rfl) (fun _ _ _ h => h) rfl (fun w hSw => by (try dsimp only at hSw); obtain ⟨q0, q1⟩ := hSw; go_simp) (by assumption) ?_
                try simp only [Act.put, List.setIfInBounds_toArray, List.set_cons_zero, List.set_cons_succ]
                refine tk7 (.pointer (some ⟨wr.heap.size, 2, none⟩)) (by kernel_rfl) (by kernel_rfl) (by kernel_rfl) (fun _ _ _ h => h) rfl (fun w hSw => by (try dsimp only at hSw); obtain ⟨q0, q1⟩ := hSw; go_simp) (by assumption) ?_
                try simp only [Act.put, List.setIfInBounds_toArray, List.set_cons_zero, List.set_cons_succ]
                refine tk8 (.string F) (by kernel_rfl) (by kernel_rfl) (by kernel_rfl) (fun _ _ _ h => h) rfl (fun w hSw => by (try dsimp only at hSw); obtain ⟨q0, q1⟩ := hSw; go_simp) (by assumption) ?_
                try simp only [Act.put, List.setIfInBounds_toArray, List.set_cons_zero, List.set_cons_succ]
                refine tk9 (.pointer (some ⟨wr.heap.size, 3, none⟩)) (by kernel_rfl) (by kernel_rfl) (by kernel_rfl) (fun _ _ _ h => h) rfl (fun w hSw => by (try dsimp only at hSw); obtain ⟨q0, q1⟩ := hSw; go_simp) (by assumption) ?_
                try simp only [Act.put, List.setIfInBounds_toArray, List.set_cons_zero, List.set_cons_succ]
                refine tk10 (.string s) (by kernel_rfl) (by kernel_rfl) (by kernel_rfl) (fun _ _ _ h => h) rfl (fun w hSw => by (try dsimp only at hSw); obtain ⟨q0, q1⟩ := hSw; go_simp) (by assumption) ?_
                try simp only [Act.put, List.setIfInBounds_toArray, List.set_cons_zero, List.set_cons_succ]
                refine cl5 (by kernel_rfl) rfl (fun K hK => ?_)
                go_simp
                go_at_call 9
                refine (hX _ _ hu.drew).mono ?_
                rintro e w2 ⟨rfl, A2, t2, ro2, h2, p2, b2⟩
                have y2 := h2.cell 2 (.string F) rfl
                have y3 := h2.cell 3 (.string s) rfl
                refine hK.out _ _ ?_ (fun hHeld => ?_)
                · try dsimp only
                  go_keep
                clear hK K
                try simp only [Act.put, List.setIfInBounds_toArray, List.set_cons_zero, List.set_cons_succ]
                refine cl11 (by kernel_rfl) rfl (fun K hK => ?_)
                go_simp
                go_at_call 10
                refine (hY _ _ _ _ h2).mono ?_
                rintro e w3 ⟨rfl, L3, c3, n3, S3, h3, p3, b3⟩
                have x2 := h3.cell 2 (.string F) rfl
                have x3 := h3.cell 3 (.string s) rfl
                refine hK.out _ _ ?_ (fun hHeld => ?_)
                · try dsimp only
                  go_keep
                clear hK K
                try simp only [Act.put, List.setIfInBounds_toArray, List.set_cons_zero, List.set_cons_succ]
                refine tk12 (.bool true) (by kernel_rfl) (by kernel_rfl) (by kernel_rfl) (fun _ _ _ h => h) rfl (fun w hSw => by (try dsimp only at hSw); obtain ⟨q0, q1⟩ := hSw; go_simp) (by assumption) ?_
                try simp only [Act.put, List.setIfInBounds_toArray, List.set_cons_zero, List.set_cons_succ]
                refine tk13 (.bool true) (by kernel_rfl) (by kernel_rfl) (by kernel_rfl) (fun _ _ _ h => h) rfl (fun w hSw => by (try dsimp only at hSw); obtain ⟨q0, q1⟩ := hSw; go_simp) (by assumption) ?_
                try simp only [Act.put, List.setIfInBounds_toArray, List.set_cons_zero, List.set_cons_succ]
                refine wpAnyH_done (by kernel_rfl) ?_ _
                have hO3 := hJ _ _ _ _ _ p2 p3
                have b03 : Below B w w3 := (bU.trans (undrB b2)).trans b3
                clear hX hY hJ p2 p3 b2 b3 bU h2 hu
                have hb3 := h3.bis
                obtain ⟨n, t, c, tx, ty, tf, tg⟩ := tails hb3 hO3 (by omega) (HE.out.below b03 (Nat.le_refl _))
                have TX : Hid _ := tx
                have TY : Hid _ := ty
                have TF : Hid _ := tf
                have TG : Hid _ := tg
                have HB3 : Hid _ := hb3
                have HO3 : Hid _ := hO3
                have B03 : Hid (Below B w w3) := b03
                have HR : Hid (Below w3.heap.size w3 w3) := Below.refl _ _
                clear tx ty tf tg hb3 hO3 b03 h3 y2 x2 e2 y3 x3 e3
                go_wp2_with (first
                  | (go_at_call 13; refine (texts_any ns ns _ _ _ s7 t7 (by omega) true (by simp)).mono ?_; rintro e w8 ⟨rfl, c8⟩; have b8 := bmm b7 b7.size c8)
                  | (go_at_call 15; refine (TG.out _ b6).mono ?_; rintro e w7 ⟨u7, ns, rfl, t7, p7, m7, l7, c7, b7⟩; have s7 := (F6.out ns p7 m7).below c7; clear p7 m7)
                  | (go_at_call 14; refine (TF.out _ b5).mono ?_; rintro e w6 ⟨v6, rfl, ff, b6⟩; have F6 : Hid (∀ ns : List ByteArray, ns.Pairwise (fun a b => ltN a b = true) → _ → StrAt w6 v6 ns) := ff; clear ff)
                  | (go_at_call 12; refine (TY.out _ b4).mono ?_; rintro e w5 ⟨rfl, b5⟩)
                  | (go_at_call 11; refine (TX.out _ HR.out).mono ?_; rintro e w4 ⟨rfl, b4⟩))
                go_roundw
                case rel => exact ⟨k + 1, _, _, _, _, _, _, _, hkl, by omega, by go_num, HB3.out.fresh b8, HO3.out, B03.out.trans (b8.mono (HB3.out.x.base))⟩
                case measure => simp [intOf]; omega
              · have f2 : (K == 2) = false := by simpa using k2
                have h3 := HU.out
                have hO3 := hO.more
                have u0 := h3.cell 0 (.int .i64 K) rfl
                have b03 := bU
                clear hok HU bU
                have hb3 := h3.bis
                obtain ⟨n, t, c, tx, ty, tf, tg⟩ := tails hb3 hO3 (by omega) (HE.out.below b03 (Nat.le_refl _))
                have TX : Hid _ := tx
                have TY : Hid _ := ty
                have TF : Hid _ := tf
                have TG : Hid _ := tg
                have HB3 : Hid _ := hb3
                have HO3 : Hid _ := hO3
                have B03 : Hid (Below B w (wr.alloc (.cells #[.int .i64 K, .int .i64 N, .string F, .string s] 30))) := b03
                have HR : Hid (Below (wr.alloc (.cells #[.int .i64 K, .int .i64 N, .string F, .string s] 30)).heap.size (wr.alloc (.cells #[.int .i64 K, .int .i64 N, .string F, .string s] 30)) (wr.alloc (.cells #[.int .i64 K, .int .i64 N, .string F, .string s] 30))) := Below.refl _ _
                clear tx ty tf tg hb3 hO3 b03 h3
                go_wp2_with (first
                  | (go_at_call 13; refine (texts_any ns ns _ _ _ s7 t7 (by omega) true (by simp)).mono ?_; rintro e w8 ⟨rfl, c8⟩; have b8 := bmm b7 b7.size c8)
                  | (go_at_call 15; refine (TG.out _ b6).mono ?_; rintro e w7 ⟨u7, ns, rfl, t7, p7, m7, l7, c7, b7⟩; have s7 := (F6.out ns p7 m7).below c7; clear p7 m7)
                  | (go_at_call 14; refine (TF.out _ b5).mono ?_; rintro e w6 ⟨v6, rfl, ff, b6⟩; have F6 : Hid (∀ ns : List ByteArray, ns.Pairwise (fun a b => ltN a b = true) → _ → StrAt w6 v6 ns) := ff; clear ff)
                  | (go_at_call 12; refine (TY.out _ b4).mono ?_; rintro e w5 ⟨rfl, b5⟩)
                  | (go_at_call 11; refine (TX.out _ HR.out).mono ?_; rintro e w4 ⟨rfl, b4⟩))
                go_roundw
                case rel => exact ⟨k + 1, _, _, _, _, _, _, _, hkl, by omega, by go_num, HB3.out.fresh b8, HO3.out, B03.out.trans (b8.mono (HB3.out.x.base))⟩
                case measure => simp [intOf]; omega
      · have q0 : decide ((k : Int) < (len : Int)) = true := by simp; omega
        have q1 : decide ((k : Int) < (60 : Int)) = false := by simp; omega
        have HQ : Hid (w.heap.size = B) := hB
        clear hT hO hB hBw
        go_wp2_with (go_at_call 16; refine (QA.out _ bel).mono ?_; rintro e w9 ⟨rfl, b9⟩)
        go_ret
        exact ⟨rfl, by rw [HQ.out]; exact b9⟩
    · have q0 : decide ((k : Int) < (len : Int)) = false := by simp; omega
      have HQ : Hid (w.heap.size = B) := hB
      clear hT hO hB hBw
      go_wp2_with (go_at_call 16; refine (QA.out _ bel).mono ?_; rintro e w9 ⟨rfl, b9⟩)
      go_ret
      exact ⟨rfl, by rw [HQ.out]; exact b9⟩
end Go.Proofs.YtkdglkaeglhibaaGreatDoor
