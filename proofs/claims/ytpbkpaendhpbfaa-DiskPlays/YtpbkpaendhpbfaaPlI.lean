/-
  DiskPlays of layer 5, walked: any deeds, crashes among them, on the program's disk and on the document's: each answer, and all files behind each. The condition: the slice of deeds lies in memory as its reading says.
-/
import Derived.Test.YtpbkpaendhpbfaaPlH
namespace Go.Proofs.Ytpbkpaendhpbfaa
open Go.RowKit

/-- A deed in a row. -/
structure IsDd (w : World) (bk o : Nat) (x : Dd) : Prop where
  c0 : w.cell? ⟨bk, o, none⟩ = some (.int .i64 x.K)
  c1 : w.cell? ⟨bk, o + 1, none⟩ = some (.int .i64 x.N)
  c2 : w.cell? ⟨bk, o + 2, none⟩ = some (.string x.F)
  c3 : w.cell? ⟨bk, o + 3, none⟩ = some (.string x.T)
  c4 : w.cell? ⟨bk, o + 4, none⟩ = some (.string x.s)
  hF : x.F.size ≤ maxLen
  hs : x.s.size ≤ maxLen
  n1 : -9223372036854775808 ≤ x.N
  n2 : x.N ≤ 9223372036854775807
theorem IsDd.below {w w' : World} {bk o B : Nat} {x : Dd} (h : IsDd w bk o x) (k : Below B w w') (hb : bk < B) : IsDd w' bk o x :=
  ⟨(k.cell (by exact hb)).trans h.c0, (k.cell (by exact hb)).trans h.c1, (k.cell (by exact hb)).trans h.c2, (k.cell (by exact hb)).trans h.c3, (k.cell (by exact hb)).trans h.c4, h.hF, h.hs, h.n1, h.n2⟩
theorem RD.low {w : World} {base base' D : Nat} {S : Nat → Prop} {L : Look} {clock cnt : Nat} (h : RD w base D S L clock cnt) (hb : base' ≤ base) : RD w base' D S L clock cnt := by
  obtain ⟨lv, v, hd, h1⟩ := h.ex
  exact ⟨⟨lv, v, ⟨hd.bl, own_mono hd.row hb, fun p hp => own_mono (hd.each p hp) hb, Nat.le_trans hb hd.lo, hd.nD, hd.eD, hd.sep⟩, h1⟩, h.sD, fun b hs => ⟨Nat.le_trans hb (h.bd b hs).1, (h.bd b hs).2⟩⟩
theorem Bis.start (w : World) : ∃ ro S, Bis ((w.alloc (.cells #[.map none, .int .i64 0] 63)).alloc (.cells #[.slice none 0 0, .int .i64 0] 28)) w.heap.size w.heap.size (w.heap.size + 1) [] (fun _ => none) 0 0 0 ro S := by
  have hy := RD.new (w.alloc (.cells #[.map none, .int .i64 0] 63))
  have e : (w.alloc (.cells #[.map none, .int .i64 0] 63)).heap.size = w.heap.size + 1 := by simp
  rw [e] at hy
  refine ⟨_, _, (DkS.new w).fresh ((Below.refl _ _).alloc (Nat.le_refl _) _), hy.low (by omega), fun i hi => ?_⟩
  subst hi
  simp
theorem Ok.new : Ok [] (fun _ => none) 0 0 0 0 := ⟨⟨_, Cp.new⟩, Nat.le_refl _, Nat.le_refl _, Nat.le_refl _, Nat.le_refl _⟩
set_option maxHeartbeats 6400000 in
set_option maxRecDepth 100000 in
theorem dplays_walk (a : Option Addr) (len cap : Nat) (w : World) (hX : len = 0 ∨ ∃ (bk off : Nat) (X : Nat → Dd), a = some ⟨bk, off, none⟩ ∧ bk < w.heap.size ∧ ∀ j, j < len → IsDd w bk (off + j * 5) (X j)) :
    Calls Try.prog 3 #[.slice a len cap] w fun e w' => e = .returned (.bool true) ∧ Below w.heap.size w w' := by
  obtain ⟨ro0, S0, hB0⟩ := Bis.start w
  have I0 : Hid (Bis ((w.alloc (.cells #[.map none, .int .i64 0] 63)).alloc (.cells #[.slice none 0 0, .int .i64 0] 28)) w.heap.size w.heap.size (w.heap.size + 1) [] (fun _ => none) 0 0 0 ro0 S0) := hB0
  have B0 : Hid (Below w.heap.size w ((w.alloc (.cells #[.map none, .int .i64 0] 63)).alloc (.cells #[.slice none 0 0, .int .i64 0] 28))) := (((Below.refl _ w).alloc (Nat.le_refl _) _).alloc (by simp) _)
  have HA : Hid (len = 0 ∨ ∃ (bk off : Nat) (X : Nat → Dd), a = some ⟨bk, off, none⟩ ∧ bk < w.heap.size ∧ ∀ j, j < len → IsDd w bk (off + j * 5) (X j)) := hX
  clear hX hB0
  go_enter Try.func3, Try.ntmps3
  go_wp2_with (go_at_call 8; refine (new_any _).mono ?_; rintro e w1 ⟨rfl, rfl⟩)
  generalize hB : w.heap.size = B at *
  go_loopw [5] (fun i wr => ∃ (k : Nat) (A : List CF) (L : Look) (turns clock cnt : Nat) (ro : Nat → Option Nat) (S : Nat → Prop), k ≤ len ∧ k ≤ 100 ∧ i = .int .i64 k ∧ Bis wr B B (B + 1) A L turns clock cnt ro S ∧ Ok A L turns clock cnt k ∧ Below B w wr) (fun i _ => len - (intOf i).toNat)
  case atStart => exact ⟨0, [], _, 0, 0, 0, ro0, S0, Nat.zero_le _, Nat.zero_le _, rfl, I0.out, Ok.new, B0.out⟩
  case round =>
    obtain ⟨k, A, L, turns, clock, cnt, ro, S, hk, hk2, rfl, hT, hO, bel⟩ := hrel
    clear I0 B0
    have hBw : B ≤ wr.heap.size := hT.x.base
    by_cases hkl : k < len
    · by_cases hkm : k < 100
      · have q0 : decide ((k : Int) < (len : Int)) = true := by simp; omega
        have q1 : decide ((k : Int) < (100 : Int)) = true := by simp; omega
        rcases HA.out with h0 | ⟨bk, off, X, rfl, hbk, hXX⟩
        · omega
        have hd := (hXX k hkl).below bel (by omega)
        clear hXX HA
        obtain ⟨⟨K, N, F, T, s⟩, hx⟩ : ∃ x, x = X k := ⟨_, rfl⟩
        rw [← hx] at hd
        have d0 := hd.c0
        have d1 := hd.c1
        have d2 := hd.c2
        have d3 := hd.c3
        have d4 := hd.c4
        have n1 := hd.n1
        have n2 := hd.n2
        have hFz := hd.hF
        simp only at d0 d1 d2 d3 d4 n1 n2 hFz
        clear hd hx
        have HE : Hid (w.heap.size = B) := hB
        by_cases hs : 1000 < s.size
        · have hs' : decide ((1000 : Int) < (s.size : Int)) = true := by simp; omega
          have HT : Hid _ := hT
          clear hT hB
          go_wp2
          go_roundw
          case rel => exact ⟨k + 1, A, L, turns, clock, cnt, ro, S, hkl, by omega, by go_num, HT.out, hO.more, bel⟩
          case measure => simp [intOf]; omega
        · have hs' : decide ((1000 : Int) < (s.size : Int)) = false := by simp; omega
          have hdo := do_any wr B B (B + 1) A L turns clock cnt k ro S hT hO (by omega) K N F T s (by omega) hFz n1 n2
          have HS : Hid (∀ w2, DoPost wr w2 B B (B + 1) k → Calls Try.prog 10 #[.pointer (some ⟨B, 0, none⟩), .pointer (some ⟨B + 1, 0, none⟩)] w2 fun e w' => e = .returned (.bool true) ∧ DoPost wr w' B B (B + 1) k) := fun w2 ⟨A', L', t', c', n', ro', S', hb, ho, hbl⟩ => (same_any w2 B B (B + 1) A' L' t' c' n' (k + 1) ro' S' hb ho (by omega)).mono fun _ _ ⟨g1, g2⟩ => ⟨g1, A', L', t', c', n', ro', S', hb.fresh g2, ho, hbl.trans (g2.mono hb.x.base)⟩
          clear hT hO hB
          go_wp2_with (first
            | (go_at_call 10; refine (HS.out _ hp2.out).mono ?_; rintro e w3 ⟨rfl, hp⟩; have HP3 : Hid _ := hp; clear hp)
            | (go_at_call 9; refine hdo.mono ?_; rintro e w2 ⟨rfl, hp⟩; have hp2 : Hid (DoPost wr w2 B B (B + 1) k) := hp; clear hp))
          go_roundw
          case rel =>
            obtain ⟨A', L', t', c', n', ro', S', hb, ho, hbl⟩ := HP3.out
            exact ⟨k + 1, A', L', t', c', n', ro', S', hkl, by omega, by go_num, hb, ho, bel.trans hbl⟩
          case measure => simp [intOf]; omega
      · have q0 : decide ((k : Int) < (len : Int)) = true := by simp; omega
        have q1 : decide ((k : Int) < (100 : Int)) = false := by simp; omega
        have HB : Hid (B ≤ wr.heap.size) := hBw
        have HE : Hid (w.heap.size = B) := hB
        clear hT hO hB hBw
        go_wp2_with (go_at_call 11; refine (awake_any _).mono ?_; rintro e w9 ⟨rfl, b9⟩)
        go_ret
        exact ⟨rfl, by rw [HE.out]; exact bmm bel HB.out b9⟩
    · have q0 : decide ((k : Int) < (len : Int)) = false := by simp; omega
      have HB : Hid (B ≤ wr.heap.size) := hBw
      have HE : Hid (w.heap.size = B) := hB
      clear hT hO hB hBw
      go_wp2_with (go_at_call 11; refine (awake_any _).mono ?_; rintro e w9 ⟨rfl, b9⟩)
      go_ret
      exact ⟨rfl, by rw [HE.out]; exact bmm bel HB.out b9⟩
end Go.Proofs.Ytpbkpaendhpbfaa
