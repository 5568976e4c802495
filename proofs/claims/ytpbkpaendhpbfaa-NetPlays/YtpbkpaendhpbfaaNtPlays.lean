/-
  NetPlays of layer 6, walked: any deeds on the program's net and on the document's: each answer, and all packets behind each. The condition: the slice of deeds lies in memory as its reading says.
-/
import Derived.Test.YtpbkpaendhpbfaaNpStep
namespace Go.Proofs.Ytpbkpaendhpbfaa
open Go.RowKit

/-- A deed in a row. -/
structure IsDeed (w : World) (bk o : Nat) (x : Int × Int × ByteArray) : Prop where
  c0 : w.cell? ⟨bk, o, none⟩ = some (.int .i64 x.1)
  c1 : w.cell? ⟨bk, o + 1, none⟩ = some (.int .i64 x.2.1)
  c2 : w.cell? ⟨bk, o + 2, none⟩ = some (.string x.2.2)
theorem IsDeed.below {w w' : World} {bk o B : Nat} {x : Int × Int × ByteArray} (h : IsDeed w bk o x) (k : Below B w w') (hb : bk < B) : IsDeed w' bk o x :=
  ⟨(k.cell (by exact hb)).trans h.c0, (k.cell (by exact hb)).trans h.c1, (k.cell (by exact hb)).trans h.c2⟩
/-- Both nets. -/
structure Two (w : World) (B Dx Dy : Nat) (Sx Sy : Nat → Prop) (L : List ByteArray) : Prop where
  x : NtAt PT w B Dx Sx L
  y : NtAt RT w B Dy Sy L
  dj : ∀ i, Sx i → ¬ Sy i
theorem NtAt.mono {T : TypeId} {w : World} {base base' D : Nat} {S : Nat → Prop} {L : List ByteArray} (h : NtAt T w base D S L) (hb : base' ≤ base) : NtAt T w base' D S L := by
  obtain ⟨v, h1, h2, h3⟩ := h.ex
  exact ⟨⟨v, h1, nmono h2 hb, h3⟩, h.sD, fun b hs => ⟨Nat.le_trans hb (h.bd b hs).1, (h.bd b hs).2⟩, h.mx, h.sz⟩
theorem Two.start (w : World) : Two ((w.alloc (.cells #[.slice none 0 0] PT)).alloc (.cells #[.slice none 0 0] RT)) w.heap.size w.heap.size (w.heap.size + 1) (fun b => b = w.heap.size) (fun b => b = w.heap.size + 1) [] := by
  refine ⟨(NtAt.new PT w).fresh ((Below.refl _ _).alloc (Nat.le_refl _) _), ?_, fun i h1 h2 => by omega⟩
  have h := NtAt.new RT (w.alloc (.cells #[.slice none 0 0] PT))
  have e : (w.alloc (.cells #[.slice none 0 0] PT)).heap.size = w.heap.size + 1 := by simp
  rw [e] at h
  exact h.mono (by omega)
theorem Two.box {w : World} {B Dx Dy : Nat} {Sx Sy : Nat → Prop} {L : List ByteArray} (h : Two w B Dx Dy Sx Sy L) (K N : Int) (s : ByteArray) : Both (w.alloc (.cells #[.int .i64 K, .int .i64 N, .string s] DT)) B Dx Dy Sx Sy L L w.heap.size K N s :=
  ⟨h.x.fresh ((Below.refl _ _).alloc (Nat.le_refl _) _), h.y.fresh ((Below.refl _ _).alloc (Nat.le_refl _) _), h.dj, heap_alloc_new w _, fun hs => by have := (h.x.bd _ hs).2; omega, fun hs => by have := (h.y.bd _ hs).2; omega⟩
theorem Both.two {w : World} {B Dx Dy b : Nat} {Sx Sy : Nat → Prop} {L : List ByteArray} {K N : Int} {s : ByteArray} (h : Both w B Dx Dy Sx Sy L L b K N s) : Two w B Dx Dy Sx Sy L := ⟨h.x, h.y, h.dj⟩
set_option maxHeartbeats 6400000 in
set_option maxRecDepth 100000 in
theorem plays_walk (a : Option Addr) (len cap : Nat) (w : World) (hX : len = 0 ∨ ∃ (bk off : Nat) (X : Nat → Int × Int × ByteArray), a = some ⟨bk, off, none⟩ ∧ bk < w.heap.size ∧ ∀ j, j < len → IsDeed w bk (off + j * 3) (X j)) :
    Calls Try.prog 4 #[.slice a len cap] w fun e w' => e = .returned (.bool true) ∧ Below w.heap.size w w' := by
  have I0 : Hid (Two ((w.alloc (.cells #[.slice none 0 0] PT)).alloc (.cells #[.slice none 0 0] RT)) w.heap.size w.heap.size (w.heap.size + 1) (fun b => b = w.heap.size) (fun b => b = w.heap.size + 1) []) := Two.start w
  have B0 : Hid (Below w.heap.size w ((w.alloc (.cells #[.slice none 0 0] PT)).alloc (.cells #[.slice none 0 0] RT))) := (((Below.refl _ w).alloc (Nat.le_refl _) _).alloc (by simp) _)
  have HA : Hid (len = 0 ∨ ∃ (bk off : Nat) (X : Nat → Int × Int × ByteArray), a = some ⟨bk, off, none⟩ ∧ bk < w.heap.size ∧ ∀ j, j < len → IsDeed w bk (off + j * 3) (X j)) := hX
  clear hX
  go_enter Try.func4, Try.ntmps4
  go_wp2_with (go_at_call 12; refine (pnew_any _).mono ?_; rintro e w1 ⟨rfl, rfl⟩)
  generalize hB : w.heap.size = B at *
  go_loopw [5] (fun i wr => ∃ (k : Nat) (L : List ByteArray) (Sx Sy : Nat → Prop), k ≤ len ∧ k ≤ 200 ∧ i = .int .i64 k ∧ Two wr B B (B + 1) Sx Sy L ∧ Below B w wr) (fun i _ => len - (intOf i).toNat)
  case atStart => exact ⟨0, [], _, _, Nat.zero_le _, Nat.zero_le _, rfl, I0.out, B0.out⟩
  case round =>
    obtain ⟨k, L, Sx, Sy, hk, hk2, rfl, hT, bel⟩ := hrel
    clear I0 B0
    have hBw : B ≤ wr.heap.size := by have := hT.x.bd B hT.x.sD; omega
    by_cases hkl : k < len
    · by_cases hkm : k < 200
      · have q0 : decide ((k : Int) < (len : Int)) = true := by simp; omega
        have q1 : decide ((k : Int) < (200 : Int)) = true := by simp; omega
        rcases HA.out with h0 | ⟨bk, off, X, rfl, hbk, hXX⟩
        · omega
        have hd := (hXX k hkl).below bel (by omega)
        clear hXX HA
        obtain ⟨⟨K, N, s⟩, hx⟩ : ∃ x, x = X k := ⟨_, rfl⟩
        rw [← hx] at hd
        have d0 := hd.c0
        have d1 := hd.c1
        have d2 := hd.c2
        simp only at d0 d1 d2
        clear hd hx
        have HT : Hid _ := hT
        clear hT
        by_cases k0 : K = 0
        · subst k0
          go_wp2
          obtain ⟨u, hue⟩ : ∃ u, u = wr.alloc (.cells #[.int .i64 0, .int .i64 N, .string s] DT) := ⟨_, rfl⟩
          have hu := HT.out.box 0 N s
          have belU : Below B w u := by rw [hue]; exact bel.alloc hBw _
          rw [← hue] at hu ⊢
          have c2 := hu.c2
          clear hue HT bel
          refine wp_region_held_drew (S := (fun w' : World => w'.cell? ⟨wr.heap.size, 2, none⟩ = some (.string s))) (by kernel_rfl) ?_ (fun hHeld0 => ?_)
          · try dsimp only
            go_keep
          refine tk0 (.pointer (some ⟨B, 0, none⟩)) (by kernel_rfl) (by kernel_rfl) (by kernel_rfl) (fun _ _ _ h => h) rfl (fun w hSw => by (try dsimp only at hSw); go_simp) (by assumption) ?_
          try simp only [Act.put, List.setIfInBounds_toArray, List.set_cons_zero, List.set_cons_succ]
          refine tk1 (.pointer (some ⟨wr.heap.size, 2, none⟩)) (by kernel_rfl) (by kernel_rfl) (by kernel_rfl) (fun _ _ _ h => h) rfl (fun w hSw => by (try dsimp only at hSw); go_simp) (by assumption) ?_
          try simp only [Act.put, List.setIfInBounds_toArray, List.set_cons_zero, List.set_cons_succ]
          refine tk2 (.string s) (by kernel_rfl) (by kernel_rfl) (by kernel_rfl) (fun _ _ _ h => h) rfl (fun w hSw => by (try dsimp only at hSw); go_simp) (by assumption) ?_
          try simp only [Act.put, List.setIfInBounds_toArray, List.set_cons_zero, List.set_cons_succ]
          refine tk4 (.pointer (some ⟨B + 1, 0, none⟩)) (by kernel_rfl) (by kernel_rfl) (by kernel_rfl) (fun _ _ _ h => h) rfl (fun w hSw => by (try dsimp only at hSw); go_simp) (by assumption) ?_
          try simp only [Act.put, List.setIfInBounds_toArray, List.set_cons_zero, List.set_cons_succ]
          refine tk5 (.pointer (some ⟨wr.heap.size, 2, none⟩)) (by kernel_rfl) (by kernel_rfl) (by kernel_rfl) (fun _ _ _ h => h) rfl (fun w hSw => by (try dsimp only at hSw); go_simp) (by assumption) ?_
          try simp only [Act.put, List.setIfInBounds_toArray, List.set_cons_zero, List.set_cons_succ]
          refine tk6 (.string s) (by kernel_rfl) (by kernel_rfl) (by kernel_rfl) (fun _ _ _ h => h) rfl (fun w hSw => by (try dsimp only at hSw); go_simp) (by assumption) ?_
          try simp only [Act.put, List.setIfInBounds_toArray, List.set_cons_zero, List.set_cons_succ]
          refine cl3 (by kernel_rfl) rfl (fun K hK => ?_)
          go_simp
          go_at_call 13
          refine hu.drew.sendX.mono ?_
          rintro e w2 ⟨rfl, S2, h2, b2⟩
          have z2 := h2.c2
          refine hK.out _ _ ?_ (fun hHeld => ?_)
          · try dsimp only
            go_keep
          clear hK K
          try simp only [Act.put, List.setIfInBounds_toArray, List.set_cons_zero, List.set_cons_succ]
          refine cl7 (by kernel_rfl) rfl (fun K hK => ?_)
          go_simp
          go_at_call 14
          refine h2.sendY.mono ?_
          rintro e w3 ⟨rfl, S3, h3, b3⟩
          have z3 := h3.c2
          refine hK.out _ _ ?_ (fun hHeld => ?_)
          · try dsimp only
            go_keep
          clear hK K
          try simp only [Act.put, List.setIfInBounds_toArray, List.set_cons_zero, List.set_cons_succ]
          refine tk8 (.bool true) (by kernel_rfl) (by kernel_rfl) (by kernel_rfl) (fun _ _ _ h => h) rfl (fun w hSw => by (try dsimp only at hSw); go_simp) (by assumption) ?_
          try simp only [Act.put, List.setIfInBounds_toArray, List.set_cons_zero, List.set_cons_succ]
          refine tk9 (.bool true) (by kernel_rfl) (by kernel_rfl) (by kernel_rfl) (fun _ _ _ h => h) rfl (fun w hSw => by (try dsimp only at hSw); go_simp) (by assumption) ?_
          try simp only [Act.put, List.setIfInBounds_toArray, List.set_cons_zero, List.set_cons_succ]
          refine wpAnyH_done (by kernel_rfl) ?_ _
          have belW : Below B w w3 := (belU.trans (undrewB b2)).trans b3
          clear z2 z3 h2 b2 b3 belU hu
          generalize sendL L s = L1 at h3
          go_wp2
          obtain ⟨py, cy, hrow, hstr⟩ := h3.rowY
          have hyl : B + 1 < w3.heap.size := (h3.y.bd _ h3.y.sD).2
          have h3d := h3.drew
          have hstr : StrAt w3.drew (.slice py L1.length cy) L1 := ⟨hstr.ex⟩
          clear h3
          refine wp_region_held_drew (S := (fun w' : World => w'.cell? ⟨B + 1, 0, none⟩ = some (.slice py L1.length cy))) (by kernel_rfl) ?_ (fun hHeld0 => ?_)
          · try dsimp only
            go_keep
          refine tk0 (.bool true) (by kernel_rfl) (by kernel_rfl) (by kernel_rfl) (fun _ _ _ h => h) rfl (fun w hSw => by (try dsimp only at hSw); go_simp) (by assumption) ?_
          try simp only [Act.put, List.setIfInBounds_toArray, List.set_cons_zero, List.set_cons_succ]
          refine tk1 (.bool false) (by kernel_rfl) (by kernel_rfl) (by kernel_rfl) (fun _ _ _ h => h) rfl (fun w hSw => by (try dsimp only at hSw); go_simp) (by assumption) ?_
          try simp only [Act.put, List.setIfInBounds_toArray, List.set_cons_zero, List.set_cons_succ]
          refine tk2 (.bool false) (by kernel_rfl) (by kernel_rfl) (by kernel_rfl) (fun _ _ _ h => h) rfl (fun w hSw => by (try dsimp only at hSw); go_simp) (by assumption) ?_
          try simp only [Act.put, List.setIfInBounds_toArray, List.set_cons_zero, List.set_cons_succ]
          refine tk3 (.pointer (some ⟨B, 0, none⟩)) (by kernel_rfl) (by kernel_rfl) (by kernel_rfl) (fun _ _ _ h => h) rfl (fun w hSw => by (try dsimp only at hSw); go_simp) (by assumption) ?_
          try simp only [Act.put, List.setIfInBounds_toArray, List.set_cons_zero, List.set_cons_succ]
          refine tk5 (.pointer (some ⟨B + 1, 0, none⟩)) (by kernel_rfl) (by kernel_rfl) (by kernel_rfl) (fun _ _ _ h => h) rfl (fun w hSw => by (try dsimp only at hSw); go_simp) (by assumption) ?_
          try simp only [Act.put, List.setIfInBounds_toArray, List.set_cons_zero, List.set_cons_succ]
          refine tk6 (.pointer (some ⟨B + 1, 0, none⟩)) (by kernel_rfl) (by kernel_rfl) (by kernel_rfl) (fun _ _ _ h => h) rfl (fun w hSw => by (try dsimp only at hSw); go_simp) (by assumption) ?_
          try simp only [Act.put, List.setIfInBounds_toArray, List.set_cons_zero, List.set_cons_succ]
          refine tk7 (.pointer (some ⟨B + 1, 0, none⟩)) (by kernel_rfl) (by kernel_rfl) (by kernel_rfl) (fun _ _ _ h => h) rfl (fun w hSw => by (try dsimp only at hSw); go_simp) (by assumption) ?_
          try simp only [Act.put, List.setIfInBounds_toArray, List.set_cons_zero, List.set_cons_succ]
          refine tk8 (.slice py L1.length cy) (by kernel_rfl) (by kernel_rfl) (by kernel_rfl) (fun _ _ _ h => h) rfl (fun w hSw => by (try dsimp only at hSw); go_simp) (by assumption) ?_
          try simp only [Act.put, List.setIfInBounds_toArray, List.set_cons_zero, List.set_cons_succ]
          refine tk9 (.int .i64 (L1.length : Int)) (by kernel_rfl) (by kernel_rfl) (by kernel_rfl) (fun _ _ _ h => h) rfl (fun w hSw => by (try dsimp only at hSw); go_simp) (by assumption) ?_
          try simp only [Act.put, List.setIfInBounds_toArray, List.set_cons_zero, List.set_cons_succ]
          refine cl4 (by kernel_rfl) rfl (fun K hK => ?_)
          go_simp
          go_at_call 21
          refine h3d.len.mono ?_
          rintro e w4 ⟨rfl, rfl⟩
          refine hK.out _ _ ?_ (fun hHeld => ?_)
          · try dsimp only
            go_keep
          clear hK K
          try simp only [Act.put, List.setIfInBounds_toArray, List.set_cons_zero, List.set_cons_succ]
          refine tk10 (.bool false) (by kernel_rfl) (by kernel_rfl) (by kernel_rfl) (fun _ _ _ h => h) rfl (fun w hSw => by (try dsimp only at hSw); go_simp) (by assumption) ?_
          try simp only [Act.put, List.setIfInBounds_toArray, List.set_cons_zero, List.set_cons_succ]
          refine tk11 (.bool false) (by kernel_rfl) (by kernel_rfl) (by kernel_rfl) (fun _ _ _ h => h) rfl (fun w hSw => by (try dsimp only at hSw); go_simp) (by assumption) ?_
          try simp only [Act.put, List.setIfInBounds_toArray, List.set_cons_zero, List.set_cons_succ]
          refine tk12 (.bool false) (by kernel_rfl) (by kernel_rfl) (by kernel_rfl) (fun _ _ _ h => h) rfl (fun w hSw => by (try dsimp only at hSw); go_simp) (by assumption) ?_
          try simp only [Act.put, List.setIfInBounds_toArray, List.set_cons_zero, List.set_cons_succ]
          refine tk13 (.pointer (some ⟨B, 0, none⟩)) (by kernel_rfl) (by kernel_rfl) (by kernel_rfl) (fun _ _ _ h => h) rfl (fun w hSw => by (try dsimp only at hSw); go_simp) (by assumption) ?_
          try simp only [Act.put, List.setIfInBounds_toArray, List.set_cons_zero, List.set_cons_succ]
          refine tk15 (.pointer (some ⟨B + 1, 0, none⟩)) (by kernel_rfl) (by kernel_rfl) (by kernel_rfl) (fun _ _ _ h => h) rfl (fun w hSw => by (try dsimp only at hSw); go_simp) (by assumption) ?_
          try simp only [Act.put, List.setIfInBounds_toArray, List.set_cons_zero, List.set_cons_succ]
          refine tk16 (.pointer (some ⟨B + 1, 0, none⟩)) (by kernel_rfl) (by kernel_rfl) (by kernel_rfl) (fun _ _ _ h => h) rfl (fun w hSw => by (try dsimp only at hSw); go_simp) (by assumption) ?_
          try simp only [Act.put, List.setIfInBounds_toArray, List.set_cons_zero, List.set_cons_succ]
          refine tk17 (.pointer (some ⟨B + 1, 0, none⟩)) (by kernel_rfl) (by kernel_rfl) (by kernel_rfl) (fun _ _ _ h => h) rfl (fun w hSw => by (try dsimp only at hSw); go_simp) (by assumption) ?_
          try simp only [Act.put, List.setIfInBounds_toArray, List.set_cons_zero, List.set_cons_succ]
          refine tk18 (.slice py L1.length cy) (by kernel_rfl) (by kernel_rfl) (by kernel_rfl) (fun _ _ _ h => h) rfl (fun w hSw => by (try dsimp only at hSw); go_simp) (by assumption) ?_
          try simp only [Act.put, List.setIfInBounds_toArray, List.set_cons_zero, List.set_cons_succ]
          refine cl14 (by kernel_rfl) rfl (fun K hK => ?_)
          go_simp
          go_at_call 23
          refine h3d.all.mono ?_
          rintro e w5 ⟨v5, rfl, s5, h5, b5⟩
          have z5 := (b5.cell (p := ⟨B + 1, 0, none⟩) (by exact hyl)).trans hrow
          have t5 := hstr.below b5
          refine hK.out _ _ ?_ (fun hHeld => ?_)
          · try dsimp only
            go_keep
          clear hK K
          try simp only [Act.put, List.setIfInBounds_toArray, List.set_cons_zero, List.set_cons_succ]
          refine cl19 (by kernel_rfl) rfl (fun K hK => ?_)
          go_simp
          go_at_call 22
          refine (h5.texts s5 t5).mono ?_
          rintro e w6 ⟨rfl, h6, b6⟩
          have z6 := (b6.cell (p := ⟨B + 1, 0, none⟩) (by exact Nat.lt_of_lt_of_le hyl b5.size)).trans z5
          refine hK.out _ _ ?_ (fun hHeld => ?_)
          · try dsimp only
            go_keep
          clear hK K
          try simp only [Act.put, List.setIfInBounds_toArray, List.set_cons_zero, List.set_cons_succ]
          refine tk20 (.bool false) (by kernel_rfl) (by kernel_rfl) (by kernel_rfl) (fun _ _ _ h => h) rfl (fun w hSw => by (try dsimp only at hSw); go_simp) (by assumption) ?_
          try simp only [Act.put, List.setIfInBounds_toArray, List.set_cons_zero, List.set_cons_succ]
          refine tk21 (.bool false) (by kernel_rfl) (by kernel_rfl) (by kernel_rfl) (fun _ _ _ h => h) rfl (fun w hSw => by (try dsimp only at hSw); go_simp) (by assumption) ?_
          try simp only [Act.put, List.setIfInBounds_toArray, List.set_cons_zero, List.set_cons_succ]
          refine wpAnyH_done (by kernel_rfl) ?_ _
          go_wp2
          go_roundw
          case rel => exact ⟨k + 1, L1, _, _, hkl, by omega, by go_num, h6.two, (belW.trans (undrewB (b5.mono h3d.base))).trans (b6.mono h5.base)⟩
          case measure => simp [intOf]; omega
        · have e0 : (K == 0) = false := by simpa using k0
          by_cases k1 : K = 1
          · subst k1
            have HU : Hid (Both (wr.alloc (.cells #[.int .i64 1, .int .i64 N, .string s] DT)) B B (B + 1) Sx Sy L L wr.heap.size 1 N s) := HT.out.box 1 N s
            have belU : Below B w (wr.alloc (.cells #[.int .i64 1, .int .i64 N, .string s] DT)) := bel.alloc hBw _
            have z1 := HU.out.c1
            clear HT bel
            go_wp2_with (first
              | (go_at_call 16; refine h2.takeY.mono ?_; rintro e w3 ⟨rfl, S3, h3, b3⟩; have belW : Below B w w3 := (belU.trans b2).trans b3; clear h2 b2 b3 belU)
              | (go_at_call 15; refine HU.out.takeX.mono ?_; rintro e w2 ⟨rfl, S2, h2, b2⟩; have z2 := h2.c1))
            clear HU z2
            generalize takeL L N = L1 at h3
            obtain ⟨py, cy, hrow, hstr⟩ := h3.rowY
            have hyl : B + 1 < w3.heap.size := (h3.y.bd _ h3.y.sD).2
            have h3d := h3.drew
            have hstr : StrAt w3.drew (.slice py L1.length cy) L1 := ⟨hstr.ex⟩
            clear h3
            refine wp_region_held_drew (S := (fun w' : World => w'.cell? ⟨B + 1, 0, none⟩ = some (.slice py L1.length cy))) (by kernel_rfl) ?_ (fun hHeld0 => ?_)
            · try dsimp only
              go_keep
            refine tk0 (.bool true) (by kernel_rfl) (by kernel_rfl) (by kernel_rfl) (fun _ _ _ h => h) rfl (fun w hSw => by (try dsimp only at hSw); go_simp) (by assumption) ?_
            try simp only [Act.put, List.setIfInBounds_toArray, List.set_cons_zero, List.set_cons_succ]
            refine tk1 (.bool false) (by kernel_rfl) (by kernel_rfl) (by kernel_rfl) (fun _ _ _ h => h) rfl (fun w hSw => by (try dsimp only at hSw); go_simp) (by assumption) ?_
            try simp only [Act.put, List.setIfInBounds_toArray, List.set_cons_zero, List.set_cons_succ]
            refine tk2 (.bool false) (by kernel_rfl) (by kernel_rfl) (by kernel_rfl) (fun _ _ _ h => h) rfl (fun w hSw => by (try dsimp only at hSw); go_simp) (by assumption) ?_
            try simp only [Act.put, List.setIfInBounds_toArray, List.set_cons_zero, List.set_cons_succ]
            refine tk3 (.pointer (some ⟨B, 0, none⟩)) (by kernel_rfl) (by kernel_rfl) (by kernel_rfl) (fun _ _ _ h => h) rfl (fun w hSw => by (try dsimp only at hSw); go_simp) (by assumption) ?_
            try simp only [Act.put, List.setIfInBounds_toArray, List.set_cons_zero, List.set_cons_succ]
            refine tk5 (.pointer (some ⟨B + 1, 0, none⟩)) (by kernel_rfl) (by kernel_rfl) (by kernel_rfl) (fun _ _ _ h => h) rfl (fun w hSw => by (try dsimp only at hSw); go_simp) (by assumption) ?_
            try simp only [Act.put, List.setIfInBounds_toArray, List.set_cons_zero, List.set_cons_succ]
            refine tk6 (.pointer (some ⟨B + 1, 0, none⟩)) (by kernel_rfl) (by kernel_rfl) (by kernel_rfl) (fun _ _ _ h => h) rfl (fun w hSw => by (try dsimp only at hSw); go_simp) (by assumption) ?_
            try simp only [Act.put, List.setIfInBounds_toArray, List.set_cons_zero, List.set_cons_succ]
            refine tk7 (.pointer (some ⟨B + 1, 0, none⟩)) (by kernel_rfl) (by kernel_rfl) (by kernel_rfl) (fun _ _ _ h => h) rfl (fun w hSw => by (try dsimp only at hSw); go_simp) (by assumption) ?_
            try simp only [Act.put, List.setIfInBounds_toArray, List.set_cons_zero, List.set_cons_succ]
            refine tk8 (.slice py L1.length cy) (by kernel_rfl) (by kernel_rfl) (by kernel_rfl) (fun _ _ _ h => h) rfl (fun w hSw => by (try dsimp only at hSw); go_simp) (by assumption) ?_
            try simp only [Act.put, List.setIfInBounds_toArray, List.set_cons_zero, List.set_cons_succ]
            refine tk9 (.int .i64 (L1.length : Int)) (by kernel_rfl) (by kernel_rfl) (by kernel_rfl) (fun _ _ _ h => h) rfl (fun w hSw => by (try dsimp only at hSw); go_simp) (by assumption) ?_
            try simp only [Act.put, List.setIfInBounds_toArray, List.set_cons_zero, List.set_cons_succ]
            refine cl4 (by kernel_rfl) rfl (fun K hK => ?_)
            go_simp
            go_at_call 21
            refine h3d.len.mono ?_
            rintro e w4 ⟨rfl, rfl⟩
            refine hK.out _ _ ?_ (fun hHeld => ?_)
            · try dsimp only
              go_keep
            clear hK K
            try simp only [Act.put, List.setIfInBounds_toArray, List.set_cons_zero, List.set_cons_succ]
            refine tk10 (.bool false) (by kernel_rfl) (by kernel_rfl) (by kernel_rfl) (fun _ _ _ h => h) rfl (fun w hSw => by (try dsimp only at hSw); go_simp) (by assumption) ?_
            try simp only [Act.put, List.setIfInBounds_toArray, List.set_cons_zero, List.set_cons_succ]
            refine tk11 (.bool false) (by kernel_rfl) (by kernel_rfl) (by kernel_rfl) (fun _ _ _ h => h) rfl (fun w hSw => by (try dsimp only at hSw); go_simp) (by assumption) ?_
            try simp only [Act.put, List.setIfInBounds_toArray, List.set_cons_zero, List.set_cons_succ]
            refine tk12 (.bool false) (by kernel_rfl) (by kernel_rfl) (by kernel_rfl) (fun _ _ _ h => h) rfl (fun w hSw => by (try dsimp only at hSw); go_simp) (by assumption) ?_
            try simp only [Act.put, List.setIfInBounds_toArray, List.set_cons_zero, List.set_cons_succ]
            refine tk13 (.pointer (some ⟨B, 0, none⟩)) (by kernel_rfl) (by kernel_rfl) (by kernel_rfl) (fun _ _ _ h => h) rfl (fun w hSw => by (try dsimp only at hSw); go_simp) (by assumption) ?_
            try simp only [Act.put, List.setIfInBounds_toArray, List.set_cons_zero, List.set_cons_succ]
            refine tk15 (.pointer (some ⟨B + 1, 0, none⟩)) (by kernel_rfl) (by kernel_rfl) (by kernel_rfl) (fun _ _ _ h => h) rfl (fun w hSw => by (try dsimp only at hSw); go_simp) (by assumption) ?_
            try simp only [Act.put, List.setIfInBounds_toArray, List.set_cons_zero, List.set_cons_succ]
            refine tk16 (.pointer (some ⟨B + 1, 0, none⟩)) (by kernel_rfl) (by kernel_rfl) (by kernel_rfl) (fun _ _ _ h => h) rfl (fun w hSw => by (try dsimp only at hSw); go_simp) (by assumption) ?_
            try simp only [Act.put, List.setIfInBounds_toArray, List.set_cons_zero, List.set_cons_succ]
            refine tk17 (.pointer (some ⟨B + 1, 0, none⟩)) (by kernel_rfl) (by kernel_rfl) (by kernel_rfl) (fun _ _ _ h => h) rfl (fun w hSw => by (try dsimp only at hSw); go_simp) (by assumption) ?_
            try simp only [Act.put, List.setIfInBounds_toArray, List.set_cons_zero, List.set_cons_succ]
            refine tk18 (.slice py L1.length cy) (by kernel_rfl) (by kernel_rfl) (by kernel_rfl) (fun _ _ _ h => h) rfl (fun w hSw => by (try dsimp only at hSw); go_simp) (by assumption) ?_
            try simp only [Act.put, List.setIfInBounds_toArray, List.set_cons_zero, List.set_cons_succ]
            refine cl14 (by kernel_rfl) rfl (fun K hK => ?_)
            go_simp
            go_at_call 23
            refine h3d.all.mono ?_
            rintro e w5 ⟨v5, rfl, s5, h5, b5⟩
            have z5 := (b5.cell (p := ⟨B + 1, 0, none⟩) (by exact hyl)).trans hrow
            have t5 := hstr.below b5
            refine hK.out _ _ ?_ (fun hHeld => ?_)
            · try dsimp only
              go_keep
            clear hK K
            try simp only [Act.put, List.setIfInBounds_toArray, List.set_cons_zero, List.set_cons_succ]
            refine cl19 (by kernel_rfl) rfl (fun K hK => ?_)
            go_simp
            go_at_call 22
            refine (h5.texts s5 t5).mono ?_
            rintro e w6 ⟨rfl, h6, b6⟩
            have z6 := (b6.cell (p := ⟨B + 1, 0, none⟩) (by exact Nat.lt_of_lt_of_le hyl b5.size)).trans z5
            refine hK.out _ _ ?_ (fun hHeld => ?_)
            · try dsimp only
              go_keep
            clear hK K
            try simp only [Act.put, List.setIfInBounds_toArray, List.set_cons_zero, List.set_cons_succ]
            refine tk20 (.bool false) (by kernel_rfl) (by kernel_rfl) (by kernel_rfl) (fun _ _ _ h => h) rfl (fun w hSw => by (try dsimp only at hSw); go_simp) (by assumption) ?_
            try simp only [Act.put, List.setIfInBounds_toArray, List.set_cons_zero, List.set_cons_succ]
            refine tk21 (.bool false) (by kernel_rfl) (by kernel_rfl) (by kernel_rfl) (fun _ _ _ h => h) rfl (fun w hSw => by (try dsimp only at hSw); go_simp) (by assumption) ?_
            try simp only [Act.put, List.setIfInBounds_toArray, List.set_cons_zero, List.set_cons_succ]
            refine wpAnyH_done (by kernel_rfl) ?_ _
            go_wp2
            go_roundw
            case rel => exact ⟨k + 1, L1, _, _, hkl, by omega, by go_num, h6.two, (belW.trans (undrewB (b5.mono h3d.base))).trans (b6.mono h5.base)⟩
            case measure => simp [intOf]; omega
          · have e1 : (K == 1) = false := by simpa using k1
            by_cases k2 : K = 2
            · subst k2
              have HU : Hid (Both (wr.alloc (.cells #[.int .i64 2, .int .i64 N, .string s] DT)) B B (B + 1) Sx Sy L L wr.heap.size 2 N s) := HT.out.box 2 N s
              have belU : Below B w (wr.alloc (.cells #[.int .i64 2, .int .i64 N, .string s] DT)) := bel.alloc hBw _
              have z1 := HU.out.c1
              clear HT bel
              go_wp2_with (first
                | (go_at_call 18; refine h2.peekY.mono ?_; rintro e w3 ⟨rfl, rfl⟩; have h3 := h2; have belW : Below B w w2 := belU.trans b2; clear h2 b2 belU)
                | (go_at_call 17; refine HU.out.peekX.mono ?_; rintro e w2 ⟨rfl, h2, b2⟩; have z2 := h2.c1))
              clear HU z2
              obtain ⟨L1, hL1⟩ : ∃ L1, L1 = L := ⟨_, rfl⟩
              rw [← hL1] at h3
              obtain ⟨w3, hw3⟩ : ∃ w3, w3 = w2 := ⟨_, rfl⟩
              rw [← hw3] at h3 belW ⊢
              clear hL1 hw3
              obtain ⟨py, cy, hrow, hstr⟩ := h3.rowY
              have hyl : B + 1 < w3.heap.size := (h3.y.bd _ h3.y.sD).2
              have h3d := h3.drew
              have hstr : StrAt w3.drew (.slice py L1.length cy) L1 := ⟨hstr.ex⟩
              clear h3
              refine wp_region_held_drew (S := (fun w' : World => w'.cell? ⟨B + 1, 0, none⟩ = some (.slice py L1.length cy))) (by kernel_rfl) ?_ (fun hHeld0 => ?_)
              · try dsimp only
                go_keep
              refine tk0 (.bool true) (by kernel_rfl) (by kernel_rfl) (by kernel_rfl) (fun _ _ _ h => h) rfl (fun w hSw => by (try dsimp only at hSw); go_simp) (by assumption) ?_
              try simp only [Act.put, List.setIfInBounds_toArray, List.set_cons_zero, List.set_cons_succ]
              refine tk1 (.bool false) (by kernel_rfl) (by kernel_rfl) (by kernel_rfl) (fun _ _ _ h => h) rfl (fun w hSw => by (try dsimp only at hSw); go_simp) (by assumption) ?_
              try simp only [Act.put, List.setIfInBounds_toArray, List.set_cons_zero, List.set_cons_succ]
              refine tk2 (.bool false) (by kernel_rfl) (by kernel_rfl) (by kernel_rfl) (fun _ _ _ h => h) rfl (fun w hSw => by (try dsimp only at hSw); go_simp) (by assumption) ?_
              try simp only [Act.put, List.setIfInBounds_toArray, List.set_cons_zero, List.set_cons_succ]
              refine tk3 (.pointer (some ⟨B, 0, none⟩)) (by kernel_rfl) (by kernel_rfl) (by kernel_rfl) (fun _ _ _ h => h) rfl (fun w hSw => by (try dsimp only at hSw); go_simp) (by assumption) ?_
              try simp only [Act.put, List.setIfInBounds_toArray, List.set_cons_zero, List.set_cons_succ]
              refine tk5 (.pointer (some ⟨B + 1, 0, none⟩)) (by kernel_rfl) (by kernel_rfl) (by kernel_rfl) (fun _ _ _ h => h) rfl (fun w hSw => by (try dsimp only at hSw); go_simp) (by assumption) ?_
              try simp only [Act.put, List.setIfInBounds_toArray, List.set_cons_zero, List.set_cons_succ]
              refine tk6 (.pointer (some ⟨B + 1, 0, none⟩)) (by kernel_rfl) (by kernel_rfl) (by kernel_rfl) (fun _ _ _ h => h) rfl (fun w hSw => by (try dsimp only at hSw); go_simp) (by assumption) ?_
              try simp only [Act.put, List.setIfInBounds_toArray, List.set_cons_zero, List.set_cons_succ]
              refine tk7 (.pointer (some ⟨B + 1, 0, none⟩)) (by kernel_rfl) (by kernel_rfl) (by kernel_rfl) (fun _ _ _ h => h) rfl (fun w hSw => by (try dsimp only at hSw); go_simp) (by assumption) ?_
              try simp only [Act.put, List.setIfInBounds_toArray, List.set_cons_zero, List.set_cons_succ]
              refine tk8 (.slice py L1.length cy) (by kernel_rfl) (by kernel_rfl) (by kernel_rfl) (fun _ _ _ h => h) rfl (fun w hSw => by (try dsimp only at hSw); go_simp) (by assumption) ?_
              try simp only [Act.put, List.setIfInBounds_toArray, List.set_cons_zero, List.set_cons_succ]
              refine tk9 (.int .i64 (L1.length : Int)) (by kernel_rfl) (by kernel_rfl) (by kernel_rfl) (fun _ _ _ h => h) rfl (fun w hSw => by (try dsimp only at hSw); go_simp) (by assumption) ?_
              try simp only [Act.put, List.setIfInBounds_toArray, List.set_cons_zero, List.set_cons_succ]
              refine cl4 (by kernel_rfl) rfl (fun K hK => ?_)
              go_simp
              go_at_call 21
              refine h3d.len.mono ?_
              rintro e w4 ⟨rfl, rfl⟩
              refine hK.out _ _ ?_ (fun hHeld => ?_)
              · try dsimp only
                go_keep
              clear hK K
              try simp only [Act.put, List.setIfInBounds_toArray, List.set_cons_zero, List.set_cons_succ]
              refine tk10 (.bool false) (by kernel_rfl) (by kernel_rfl) (by kernel_rfl) (fun _ _ _ h => h) rfl (fun w hSw => by (try dsimp only at hSw); go_simp) (by assumption) ?_
              try simp only [Act.put, List.setIfInBounds_toArray, List.set_cons_zero, List.set_cons_succ]
              refine tk11 (.bool false) (by kernel_rfl) (by kernel_rfl) (by kernel_rfl) (fun _ _ _ h => h) rfl (fun w hSw => by (try dsimp only at hSw); go_simp) (by assumption) ?_
              try simp only [Act.put, List.setIfInBounds_toArray, List.set_cons_zero, List.set_cons_succ]
              refine tk12 (.bool false) (by kernel_rfl) (by kernel_rfl) (by kernel_rfl) (fun _ _ _ h => h) rfl (fun w hSw => by (try dsimp only at hSw); go_simp) (by assumption) ?_
              try simp only [Act.put, List.setIfInBounds_toArray, List.set_cons_zero, List.set_cons_succ]
              refine tk13 (.pointer (some ⟨B, 0, none⟩)) (by kernel_rfl) (by kernel_rfl) (by kernel_rfl) (fun _ _ _ h => h) rfl (fun w hSw => by (try dsimp only at hSw); go_simp) (by assumption) ?_
              try simp only [Act.put, List.setIfInBounds_toArray, List.set_cons_zero, List.set_cons_succ]
              refine tk15 (.pointer (some ⟨B + 1, 0, none⟩)) (by kernel_rfl) (by kernel_rfl) (by kernel_rfl) (fun _ _ _ h => h) rfl (fun w hSw => by (try dsimp only at hSw); go_simp) (by assumption) ?_
              try simp only [Act.put, List.setIfInBounds_toArray, List.set_cons_zero, List.set_cons_succ]
              refine tk16 (.pointer (some ⟨B + 1, 0, none⟩)) (by kernel_rfl) (by kernel_rfl) (by kernel_rfl) (fun _ _ _ h => h) rfl (fun w hSw => by (try dsimp only at hSw); go_simp) (by assumption) ?_
              try simp only [Act.put, List.setIfInBounds_toArray, List.set_cons_zero, List.set_cons_succ]
              refine tk17 (.pointer (some ⟨B + 1, 0, none⟩)) (by kernel_rfl) (by kernel_rfl) (by kernel_rfl) (fun _ _ _ h => h) rfl (fun w hSw => by (try dsimp only at hSw); go_simp) (by assumption) ?_
              try simp only [Act.put, List.setIfInBounds_toArray, List.set_cons_zero, List.set_cons_succ]
              refine tk18 (.slice py L1.length cy) (by kernel_rfl) (by kernel_rfl) (by kernel_rfl) (fun _ _ _ h => h) rfl (fun w hSw => by (try dsimp only at hSw); go_simp) (by assumption) ?_
              try simp only [Act.put, List.setIfInBounds_toArray, List.set_cons_zero, List.set_cons_succ]
              refine cl14 (by kernel_rfl) rfl (fun K hK => ?_)
              go_simp
              go_at_call 23
              refine h3d.all.mono ?_
              rintro e w5 ⟨v5, rfl, s5, h5, b5⟩
              have z5 := (b5.cell (p := ⟨B + 1, 0, none⟩) (by exact hyl)).trans hrow
              have t5 := hstr.below b5
              refine hK.out _ _ ?_ (fun hHeld => ?_)
              · try dsimp only
                go_keep
              clear hK K
              try simp only [Act.put, List.setIfInBounds_toArray, List.set_cons_zero, List.set_cons_succ]
              refine cl19 (by kernel_rfl) rfl (fun K hK => ?_)
              go_simp
              go_at_call 22
              refine (h5.texts s5 t5).mono ?_
              rintro e w6 ⟨rfl, h6, b6⟩
              have z6 := (b6.cell (p := ⟨B + 1, 0, none⟩) (by exact Nat.lt_of_lt_of_le hyl b5.size)).trans z5
              refine hK.out _ _ ?_ (fun hHeld => ?_)
              · try dsimp only
                go_keep
              clear hK K
              try simp only [Act.put, List.setIfInBounds_toArray, List.set_cons_zero, List.set_cons_succ]
              refine tk20 (.bool false) (by kernel_rfl) (by kernel_rfl) (by kernel_rfl) (fun _ _ _ h => h) rfl (fun w hSw => by (try dsimp only at hSw); go_simp) (by assumption) ?_
              try simp only [Act.put, List.setIfInBounds_toArray, List.set_cons_zero, List.set_cons_succ]
              refine tk21 (.bool false) (by kernel_rfl) (by kernel_rfl) (by kernel_rfl) (fun _ _ _ h => h) rfl (fun w hSw => by (try dsimp only at hSw); go_simp) (by assumption) ?_
              try simp only [Act.put, List.setIfInBounds_toArray, List.set_cons_zero, List.set_cons_succ]
              refine wpAnyH_done (by kernel_rfl) ?_ _
              go_wp2
              go_roundw
              case rel => exact ⟨k + 1, L1, _, _, hkl, by omega, by go_num, h6.two, (belW.trans (undrewB (b5.mono h3d.base))).trans (b6.mono h5.base)⟩
              case measure => simp [intOf]; omega
            · have e2 : (K == 2) = false := by simpa using k2
              go_wp2
              obtain ⟨u, hue⟩ : ∃ u, u = wr.alloc (.cells #[.int .i64 K, .int .i64 N, .string s] DT) := ⟨_, rfl⟩
              have hu := HT.out.box K N s
              have belU : Below B w u := by rw [hue]; exact bel.alloc hBw _
              rw [← hue] at hu ⊢
              have c2 := hu.c1
              clear hue HT bel
              refine wp_region_held_drew (S := (fun w' : World => w'.cell? ⟨wr.heap.size, 1, none⟩ = some (.int .i64 N))) (by kernel_rfl) ?_ (fun hHeld0 => ?_)
              · try dsimp only
                go_keep
              refine tk0 (.pointer (some ⟨B, 0, none⟩)) (by kernel_rfl) (by kernel_rfl) (by kernel_rfl) (fun _ _ _ h => h) rfl (fun w hSw => by (try dsimp only at hSw); go_simp) (by assumption) ?_
              try simp only [Act.put, List.setIfInBounds_toArray, List.set_cons_zero, List.set_cons_succ]
              refine tk1 (.pointer (some ⟨wr.heap.size, 1, none⟩)) (by kernel_rfl) (by kernel_rfl) (by kernel_rfl) (fun _ _ _ h => h) rfl (fun w hSw => by (try dsimp only at hSw); go_simp) (by assumption) ?_
              try simp only [Act.put, List.setIfInBounds_toArray, List.set_cons_zero, List.set_cons_succ]
              refine tk2 (.int .i64 N) (by kernel_rfl) (by kernel_rfl) (by kernel_rfl) (fun _ _ _ h => h) rfl (fun w hSw => by (try dsimp only at hSw); go_simp) (by assumption) ?_
              try simp only [Act.put, List.setIfInBounds_toArray, List.set_cons_zero, List.set_cons_succ]
              refine tk4 (.pointer (some ⟨B + 1, 0, none⟩)) (by kernel_rfl) (by kernel_rfl) (by kernel_rfl) (fun _ _ _ h => h) rfl (fun w hSw => by (try dsimp only at hSw); go_simp) (by assumption) ?_
              try simp only [Act.put, List.setIfInBounds_toArray, List.set_cons_zero, List.set_cons_succ]
              refine tk5 (.pointer (some ⟨wr.heap.size, 1, none⟩)) (by kernel_rfl) (by kernel_rfl) (by kernel_rfl) (fun _ _ _ h => h) rfl (fun w hSw => by (try dsimp only at hSw); go_simp) (by assumption) ?_
              try simp only [Act.put, List.setIfInBounds_toArray, List.set_cons_zero, List.set_cons_succ]
              refine tk6 (.int .i64 N) (by kernel_rfl) (by kernel_rfl) (by kernel_rfl) (fun _ _ _ h => h) rfl (fun w hSw => by (try dsimp only at hSw); go_simp) (by assumption) ?_
              try simp only [Act.put, List.setIfInBounds_toArray, List.set_cons_zero, List.set_cons_succ]
              refine cl3 (by kernel_rfl) rfl (fun K hK => ?_)
              go_simp
              go_at_call 19
              refine hu.drew.doubleX.mono ?_
              rintro e w2 ⟨rfl, S2, h2, b2⟩
              have z2 := h2.c1
              refine hK.out _ _ ?_ (fun hHeld => ?_)
              · try dsimp only
                go_keep
              clear hK K
              try simp only [Act.put, List.setIfInBounds_toArray, List.set_cons_zero, List.set_cons_succ]
              refine cl7 (by kernel_rfl) rfl (fun K hK => ?_)
              go_simp
              go_at_call 20
              refine h2.doubleY.mono ?_
              rintro e w3 ⟨rfl, S3, h3, b3⟩
              have z3 := h3.c1
              refine hK.out _ _ ?_ (fun hHeld => ?_)
              · try dsimp only
                go_keep
              clear hK K
              try simp only [Act.put, List.setIfInBounds_toArray, List.set_cons_zero, List.set_cons_succ]
              refine tk8 (.bool true) (by kernel_rfl) (by kernel_rfl) (by kernel_rfl) (fun _ _ _ h => h) rfl (fun w hSw => by (try dsimp only at hSw); go_simp) (by assumption) ?_
              try simp only [Act.put, List.setIfInBounds_toArray, List.set_cons_zero, List.set_cons_succ]
              refine tk9 (.bool true) (by kernel_rfl) (by kernel_rfl) (by kernel_rfl) (fun _ _ _ h => h) rfl (fun w hSw => by (try dsimp only at hSw); go_simp) (by assumption) ?_
              try simp only [Act.put, List.setIfInBounds_toArray, List.set_cons_zero, List.set_cons_succ]
              refine wpAnyH_done (by kernel_rfl) ?_ _
              have belW : Below B w w3 := (belU.trans (undrewB b2)).trans b3
              clear z2 z3 h2 b2 b3 belU hu
              generalize dblL L N = L1 at h3
              go_wp2
              obtain ⟨py, cy, hrow, hstr⟩ := h3.rowY
              have hyl : B + 1 < w3.heap.size := (h3.y.bd _ h3.y.sD).2
              have h3d := h3.drew
              have hstr : StrAt w3.drew (.slice py L1.length cy) L1 := ⟨hstr.ex⟩
              clear h3
              refine wp_region_held_drew (S := (fun w' : World => w'.cell? ⟨B + 1, 0, none⟩ = some (.slice py L1.length cy))) (by kernel_rfl) ?_ (fun hHeld0 => ?_)
              · try dsimp only
                go_keep
              refine tk0 (.bool true) (by kernel_rfl) (by kernel_rfl) (by kernel_rfl) (fun _ _ _ h => h) rfl (fun w hSw => by (try dsimp only at hSw); go_simp) (by assumption) ?_
              try simp only [Act.put, List.setIfInBounds_toArray, List.set_cons_zero, List.set_cons_succ]
              refine tk1 (.bool false) (by kernel_rfl) (by kernel_rfl) (by kernel_rfl) (fun _ _ _ h => h) rfl (fun w hSw => by (try dsimp only at hSw); go_simp) (by assumption) ?_
              try simp only [Act.put, List.setIfInBounds_toArray, List.set_cons_zero, List.set_cons_succ]
              refine tk2 (.bool false) (by kernel_rfl) (by kernel_rfl) (by kernel_rfl) (fun _ _ _ h => h) rfl (fun w hSw => by (try dsimp only at hSw); go_simp) (by assumption) ?_
              try simp only [Act.put, List.setIfInBounds_toArray, List.set_cons_zero, List.set_cons_succ]
              refine tk3 (.pointer (some ⟨B, 0, none⟩)) (by kernel_rfl) (by kernel_rfl) (by kernel_rfl) (fun _ _ _ h => h) rfl (fun w hSw => by (try dsimp only at hSw); go_simp) (by assumption) ?_
              try simp only [Act.put, List.setIfInBounds_toArray, List.set_cons_zero, List.set_cons_succ]
              refine tk5 (.pointer (some ⟨B + 1, 0, none⟩)) (by kernel_rfl) (by kernel_rfl) (by kernel_rfl) (fun _ _ _ h => h) rfl (fun w hSw => by (try dsimp only at hSw); go_simp) (by assumption) ?_
              try simp only [Act.put, List.setIfInBounds_toArray, List.set_cons_zero, List.set_cons_succ]
              refine tk6 (.pointer (some ⟨B + 1, 0, none⟩)) (by kernel_rfl) (by kernel_rfl) (by kernel_rfl) (fun _ _ _ h => h) rfl (fun w hSw => by (try dsimp only at hSw); go_simp) (by assumption) ?_
              try simp only [Act.put, List.setIfInBounds_toArray, List.set_cons_zero, List.set_cons_succ]
              refine tk7 (.pointer (some ⟨B + 1, 0, none⟩)) (by kernel_rfl) (by kernel_rfl) (by kernel_rfl) (fun _ _ _ h => h) rfl (fun w hSw => by (try dsimp only at hSw); go_simp) (by assumption) ?_
              try simp only [Act.put, List.setIfInBounds_toArray, List.set_cons_zero, List.set_cons_succ]
              refine tk8 (.slice py L1.length cy) (by kernel_rfl) (by kernel_rfl) (by kernel_rfl) (fun _ _ _ h => h) rfl (fun w hSw => by (try dsimp only at hSw); go_simp) (by assumption) ?_
              try simp only [Act.put, List.setIfInBounds_toArray, List.set_cons_zero, List.set_cons_succ]
              refine tk9 (.int .i64 (L1.length : Int)) (by kernel_rfl) (by kernel_rfl) (by kernel_rfl) (fun _ _ _ h => h) rfl (fun w hSw => by (try dsimp only at hSw); go_simp) (by assumption) ?_
              try simp only [Act.put, List.setIfInBounds_toArray, List.set_cons_zero, List.set_cons_succ]
              refine cl4 (by kernel_rfl) rfl (fun K hK => ?_)
              go_simp
              go_at_call 21
              refine h3d.len.mono ?_
              rintro e w4 ⟨rfl, rfl⟩
              refine hK.out _ _ ?_ (fun hHeld => ?_)
              · try dsimp only
                go_keep
              clear hK K
              try simp only [Act.put, List.setIfInBounds_toArray, List.set_cons_zero, List.set_cons_succ]
              refine tk10 (.bool false) (by kernel_rfl) (by kernel_rfl) (by kernel_rfl) (fun _ _ _ h => h) rfl (fun w hSw => by (try dsimp only at hSw); go_simp) (by assumption) ?_
              try simp only [Act.put, List.setIfInBounds_toArray, List.set_cons_zero, List.set_cons_succ]
              refine tk11 (.bool false) (by kernel_rfl) (by kernel_rfl) (by kernel_rfl) (fun _ _ _ h => h) rfl (fun w hSw => by (try dsimp only at hSw); go_simp) (by assumption) ?_
              try simp only [Act.put, List.setIfInBounds_toArray, List.set_cons_zero, List.set_cons_succ]
              refine tk12 (.bool false) (by kernel_rfl) (by kernel_rfl) (by kernel_rfl) (fun _ _ _ h => h) rfl (fun w hSw => by (try dsimp only at hSw); go_simp) (by assumption) ?_
              try simp only [Act.put, List.setIfInBounds_toArray, List.set_cons_zero, List.set_cons_succ]
              refine tk13 (.pointer (some ⟨B, 0, none⟩)) (by kernel_rfl) (by kernel_rfl) (by kernel_rfl) (fun _ _ _ h => h) rfl (fun w hSw => by (try dsimp only at hSw); go_simp) (by assumption) ?_
              try simp only [Act.put, List.setIfInBounds_toArray, List.set_cons_zero, List.set_cons_succ]
              refine tk15 (.pointer (some ⟨B + 1, 0, none⟩)) (by kernel_rfl) (by kernel_rfl) (by kernel_rfl) (fun _ _ _ h => h) rfl (fun w hSw => by (try dsimp only at hSw); go_simp) (by assumption) ?_
              try simp only [Act.put, List.setIfInBounds_toArray, List.set_cons_zero, List.set_cons_succ]
              refine tk16 (.pointer (some ⟨B + 1, 0, none⟩)) (by kernel_rfl) (by kernel_rfl) (by kernel_rfl) (fun _ _ _ h => h) rfl (fun w hSw => by (try dsimp only at hSw); go_simp) (by assumption) ?_
              try simp only [Act.put, List.setIfInBounds_toArray, List.set_cons_zero, List.set_cons_succ]
              refine tk17 (.pointer (some ⟨B + 1, 0, none⟩)) (by kernel_rfl) (by kernel_rfl) (by kernel_rfl) (fun _ _ _ h => h) rfl (fun w hSw => by (try dsimp only at hSw); go_simp) (by assumption) ?_
              try simp only [Act.put, List.setIfInBounds_toArray, List.set_cons_zero, List.set_cons_succ]
              refine tk18 (.slice py L1.length cy) (by kernel_rfl) (by kernel_rfl) (by kernel_rfl) (fun _ _ _ h => h) rfl (fun w hSw => by (try dsimp only at hSw); go_simp) (by assumption) ?_
              try simp only [Act.put, List.setIfInBounds_toArray, List.set_cons_zero, List.set_cons_succ]
              refine cl14 (by kernel_rfl) rfl (fun K hK => ?_)
              go_simp
              go_at_call 23
              refine h3d.all.mono ?_
              rintro e w5 ⟨v5, rfl, s5, h5, b5⟩
              have z5 := (b5.cell (p := ⟨B + 1, 0, none⟩) (by exact hyl)).trans hrow
              have t5 := hstr.below b5
              refine hK.out _ _ ?_ (fun hHeld => ?_)
              · try dsimp only
                go_keep
              clear hK K
              try simp only [Act.put, List.setIfInBounds_toArray, List.set_cons_zero, List.set_cons_succ]
              refine cl19 (by kernel_rfl) rfl (fun K hK => ?_)
              go_simp
              go_at_call 22
              refine (h5.texts s5 t5).mono ?_
              rintro e w6 ⟨rfl, h6, b6⟩
              have z6 := (b6.cell (p := ⟨B + 1, 0, none⟩) (by exact Nat.lt_of_lt_of_le hyl b5.size)).trans z5
              refine hK.out _ _ ?_ (fun hHeld => ?_)
              · try dsimp only
                go_keep
              clear hK K
              try simp only [Act.put, List.setIfInBounds_toArray, List.set_cons_zero, List.set_cons_succ]
              refine tk20 (.bool false) (by kernel_rfl) (by kernel_rfl) (by kernel_rfl) (fun _ _ _ h => h) rfl (fun w hSw => by (try dsimp only at hSw); go_simp) (by assumption) ?_
              try simp only [Act.put, List.setIfInBounds_toArray, List.set_cons_zero, List.set_cons_succ]
              refine tk21 (.bool false) (by kernel_rfl) (by kernel_rfl) (by kernel_rfl) (fun _ _ _ h => h) rfl (fun w hSw => by (try dsimp only at hSw); go_simp) (by assumption) ?_
              try simp only [Act.put, List.setIfInBounds_toArray, List.set_cons_zero, List.set_cons_succ]
              refine wpAnyH_done (by kernel_rfl) ?_ _
              go_wp2
              go_roundw
              case rel => exact ⟨k + 1, L1, _, _, hkl, by omega, by go_num, h6.two, (belW.trans (undrewB (b5.mono h3d.base))).trans (b6.mono h5.base)⟩
              case measure => simp [intOf]; omega
      · have q0 : decide ((k : Int) < (len : Int)) = true := by simp; omega
        have q1 : decide ((k : Int) < (200 : Int)) = false := by simp; omega
        have HB : Hid (B ≤ wr.heap.size) := hBw
        have HE : Hid (w.heap.size = B) := hB
        clear hT hB hBw
        go_wp2_with (go_at_call 24; refine (nawake_any _).mono ?_; rintro e w9 ⟨rfl, b9⟩)
        go_ret
        exact ⟨rfl, by rw [HE.out]; exact bmm bel HB.out b9⟩
    · have q0 : decide ((k : Int) < (len : Int)) = false := by simp; omega
      have HB : Hid (B ≤ wr.heap.size) := hBw
      have HE : Hid (w.heap.size = B) := hB
      clear hT hB hBw
      go_wp2_with (go_at_call 24; refine (nawake_any _).mono ?_; rintro e w9 ⟨rfl, b9⟩)
      go_ret
      exact ⟨rfl, by rw [HE.out]; exact bmm bel HB.out b9⟩
end Go.Proofs.Ytpbkpaendhpbfaa
