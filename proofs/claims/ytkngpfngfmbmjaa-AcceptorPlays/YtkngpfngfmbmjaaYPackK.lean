/-
  Parts of the proof, laid together: StSwap, StRot, StSymA, StSymB. The conditions stand at each part.
-/
import Derived.Shelf.SlSortCmp.KitK
import Derived.Sort.WalkB2
import Derived.Sort.WalkB12
import Derived.Deep.LoopGhost
import Derived.Deep.CutBlock
import Derived.Deep.DeepCutAuto
import Derived.Test.YtkngpfngfmbmjaaYPackI
import Derived.Test.YtkngpfngfmbmjaaYPackJ
import Derived.Test.YtkngpfngfmbmjaaYSA
import Derived.Test.YtkngpfngfmbmjaaYSF
/-
  Entries compared by their slots; two pieces of a row of entries exchanged; a row of entries turned about a place: package slices at entries. The condition: fewer than 2^62 entries.
-/
namespace Go.Proofs.Ytkngpfngfmbmjaa
open Go.Shelf Go.RowKit Go.Lib Go.Sort

instance : Inhabited En := ⟨En.zero⟩
def cfE (x y : En) : Int := Lib.compareInt x.slot y.slot
set_option maxHeartbeats 1000000 in
/-- How two entries are compared. -/
theorem cmp_entries (x y : En) (W : World) : Calls Try.prog 57 #[.agg (enA x), .agg (enA y)] W fun e w' => e = .returned (.int .i64 (cfE x y)) ∧ ∃ q os', w' = grow (W.drewN q) os' := by
  have hcon := fun W' => Try.cmp_Compare_int x.slot y.slot W'
  show Calls Try.prog 57 #[.agg (enA x), .agg (enA y)] W fun e w' => e = .returned (.int .i64 (Lib.compareInt x.slot y.slot)) ∧ ∃ q os', w' = grow (W.drewN q) os'
  generalize Lib.compareInt x.slot y.slot = r at hcon ⊢
  go_enter Try.func57, Try.ntmps57
  go_wp2_with (go_at_call 55; refine (hcon _).mono ?_; rintro e w' ⟨rfl, rfl⟩)
  go_ret
  exact ⟨rfl, 0, _, by rw [alloc_eq_grow, alloc_eq_grow, grow_grow]; rfl⟩
theorem cmpLaysE (blk off size : Nat) (w : World) : CmpLays Try.prog 57 #[] enC 7 cfE blk off size w := fun _ _ _ _ x y => cmp_entries x y _
theorem cfE_neg (x y : En) : (cfE x y < 0) ↔ x.slot < y.slot := by
  unfold cfE Lib.compareInt
  by_cases h1 : x.slot < y.slot
  · simp [h1]
  · by_cases h2 : y.slot < x.slot
    · simp [h1, h2]
    · simp [h1, h2]
theorem cfE_zero (x y : En) : (cfE x y = 0) ↔ x.slot = y.slot := by
  unfold cfE Lib.compareInt
  by_cases h1 : x.slot < y.slot
  · simp [h1]
    omega
  · by_cases h2 : y.slot < x.slot
    · simp [h1, h2]
      omega
    · simp [h1, h2]
      omega
theorem ltE (x y : En) : ltOf cfE x y = decide (x.slot < y.slot) := by
  unfold ltOf
  rw [decide_eq_decide]
  exact cfE_neg x y
theorem egE : ∀ args w, (callFunc 57 args).run Try.prog w = .ok (.enter 57 args) w := enters_of Try.func57 (by kernel_rfl) rfl
section
variable {w0 W : World} {blk off cap len : Nat} {d0 d : Array En}

set_option maxHeartbeats 4000000 in
set_option maxRecDepth 1000000 in
theorem st_swapRange (R : RowK enC 7 w0 blk off d0) (hs0 : d0.size = len) (hs : d.size = len) (S : SWK enC 7 w0 blk off d W) (hsz : len < 4611686018427387904) (a b n : Nat) (h1 : a + n ≤ b) (h2 : b + n ≤ len) :
    Calls Try.prog 66 #[.slice (some ⟨blk, off, none⟩) len cap, .int .i64 a, .int .i64 b, .int .i64 n, .func (.func 57) #[] #[]] W fun e w' => e = .returned (.tuple #[]) ∧ ∃ d' : Array En, d'.size = len ∧ rd d' = swR (rd d) a b n ∧ SWK enC 7 w0 blk off d' w' := by
  have S0 : Aside (SWK enC 7 w0 blk off d W) := S
  clear S
  have mixed : Try.prog.follows Departure.mixedOrders = true := by kernel_rfl
  have FG := Try.func66
  have aE := Try.isAgg36
  have zE := Try.sizeOf36
  have t0 := Try.underlying0; have a0 := Try.isAgg0; have z0 := Try.sizeOf0; have v0 := Try.zeroValue0
  have t3 := Try.underlying3; have a3 := Try.isAgg3; have z3 := Try.sizeOf3; have v3 := Try.zeroValue3
  have t4 := Try.underlying4; have a4 := Try.isAgg4; have z4 := Try.sizeOf4; have v4 := Try.zeroValue4
  have t22 := Try.underlying22; have a22 := Try.isAgg22; have z22 := Try.sizeOf22; have v22 := Try.zeroValue22
  have t5 := Try.underlying97; have a5 := Try.isAgg97; have z5 := Try.sizeOf97; have v5 := Try.zeroValue97
  have t6 := Try.underlying92; have a6 := Try.isAgg92; have z6 := Try.sizeOf92; have v6 := Try.zeroValue92
  have u22 := run_underlying t22
  generalize Try.prog = P at *
  obtain ⟨k, hk⟩ : ∃ k, k = 7 := ⟨_, rfl⟩
  rw [← hk] at zE R S0 ⊢
  have HK : Hid (k = 7) := hk
  clear hk
  go_enter FG, Try.ntmps66
  go_wp2
  go_loopg [10] n (fun kx s wr => ∃ (i : Nat) (dk : Array En), s = .int .i64 i ∧ i ≤ n ∧ n - i ≤ kx ∧ dk.size = len ∧ Aside (SWK enC k w0 blk off dk wr) ∧ Hid (rd dk = swR (rd d) a b i))
  case atStart => exact ⟨0, d, rfl, by omega, by omega, hs, S0, (swR_zero _ _ _).symm⟩
  case round =>
    clear S0
    obtain ⟨i, dk, rfl, hi, hkx, hds, S1, HE⟩ := hrel
    by_cases hlt : i < n
    · have hltz : (i : Int) < (n : Int) := by omega
      obtain ⟨x, hx⟩ : ∃ x, x = a + i := ⟨_, rfl⟩
      obtain ⟨y, hy⟩ : ∃ y, y = b + i := ⟨_, rfl⟩
      have qx : (a : Int) + (i : Int) = (x : Int) := by omega
      have qy : (b : Int) + (i : Int) = (y : Int) := by omega
      have hxs : x < len := by omega
      have hys : y < len := by omega
      have HX : Hid (x = a + i ∧ y = b + i) := ⟨hx, hy⟩
      have H1 : Hid (a + n ≤ b) := h1
      clear hx hy h1 h2
      go_wp2_with fail
      have ea5 : ((x : Int)).toNat = x := by omega
      have pa5 : (0 : Int) ≤ (x : Int) := by omega
      have ba5 : (x : Int) < (len : Int) := by omega
      have ra5 : IntKind.i64.wrap ((x : Int)) = (x : Int) := by rw [IntKind.wrap_i64]; omega
      have ec5 : ((y : Int)).toNat = y := by omega
      have pc5 : (0 : Int) ≤ (y : Int) := by omega
      have bc5 : (y : Int) < (len : Int) := by omega
      have rc5 : IntKind.i64.wrap ((y : Int)) = (y : Int) := by rw [IntKind.wrap_i64]; omega
      have S2 : Aside (SWK enC k w0 blk off (swp dk (x) (y)) ((wr.drew.setCells blk (off + (x) * k) (enC dk[y]!)).setCells blk (off + (y) * k) (enC dk[x]!))) := S1.out.swapped R (x) (y) (by omega) (by omega)
      have l5a := S1.out.ld1 R (by omega) P (x) (by omega)
      have l5b := S1.out.ld1 R (by omega) P (y) (by omega)
      have s5a := S1.out.st1 R (by omega) P (x) (by omega) dk[y]!
      have s5b := S1.out.st2 R (by omega) P (x) (y) (by omega) (by omega) dk[y]! dk[x]!
      have n5a : (enC dk[x]!).length = k := R.hk _
      have n5b : (enC dk[y]!).length = k := R.hk _
      generalize enC dk[x]! = cI5 at S2 l5a s5b n5a
      generalize enC dk[y]! = cJ5 at S2 l5b s5a s5b n5b
      clear S1
      go_wp2_with fail
      go_big_region_o
      clear l5a l5b s5a s5b
      generalize (wr.drew.setCells blk (off + (x) * k) cJ5).setCells blk (off + (y) * k) cI5 = w2 at S2 ⊢
      go_wp2
      go_roundg (n - (i + 1))
      case measure => omega
      case rel =>
        refine ⟨i + 1, swp dk x y, by go_num, by omega, Nat.le_refl _, by rw [size_swp]; exact hds, S2, (show Hid _ from ?_)⟩
        show rd _ = _
        rw [rd_swp dk (by omega) (by omega), HE.out, HX.out.1, HX.out.2]
        exact swR_step _ _ _ _ (by have := H1.out; omega)
    · have hltz : ¬ (i : Int) < (n : Int) := by omega
      obtain rfl : i = n := by omega
      go_wp2
      go_end0
      exact ⟨rfl, dk, hds, HE.out, S1.out⟩
end
end Go.Proofs.Ytkngpfngfmbmjaa
/-
  A row of entries turned about a place: package slices at entries. The condition: fewer than 2^62 entries.
-/
namespace Go.Proofs.Ytkngpfngfmbmjaa
open Go.Shelf Go.RowKit Go.Lib Go.Sort
section
variable {w0 W : World} {blk off cap len : Nat} {d0 d : Array En}

set_option maxHeartbeats 4000000 in
set_option maxRecDepth 1000000 in
theorem st_rotate (R : RowK enC 7 w0 blk off d0) (hs0 : d0.size = len) (hs : d.size = len) (S : SWK enC 7 w0 blk off d W) (hsz : len < 4611686018427387904) (a m b : Nat) (h1 : a < m) (h2 : m < b) (h3 : b ≤ len) :
    Calls Try.prog 65 #[.slice (some ⟨blk, off, none⟩) len cap, .int .i64 a, .int .i64 m, .int .i64 b, .func (.func 57) #[] #[]] W fun e w' => e = .returned (.tuple #[]) ∧ ∃ d' : Array En, d'.size = len ∧ rd d' = rotF (rd d) a m b ∧ SWK enC 7 w0 blk off d' w' := by
  have HS : Aside (∀ (W : World) (d : Array En), d.size = len → SWK enC 7 w0 blk off d W → ∀ a b n : Nat, a + n ≤ b → b + n ≤ len → Calls Try.prog 66 #[.slice (some ⟨blk, off, none⟩) len cap, .int .i64 a, .int .i64 b, .int .i64 n, .func (.func 57) #[] #[]] W fun e w' => e = .returned (.tuple #[]) ∧ ∃ d' : Array En, d'.size = len ∧ rd d' = swR (rd d) a b n ∧ SWK enC 7 w0 blk off d' w') := fun W d hd S a b n h1 h2 => st_swapRange R hs0 hd S hsz a b n h1 h2
  have S0 : Aside (SWK enC 7 w0 blk off d W) := S
  clear S
  have mixed : Try.prog.follows Departure.mixedOrders = true := by kernel_rfl
  have FG := Try.func65
  have aE := Try.isAgg36
  have zE := Try.sizeOf36
  have en0 : ∀ args w, (callFunc 66 args).run Try.prog w = .ok (.enter 66 args) w := enters_of Try.func66 (by kernel_rfl) rfl
  have t0 := Try.underlying0; have a0 := Try.isAgg0; have z0 := Try.sizeOf0; have v0 := Try.zeroValue0
  have t3 := Try.underlying3; have a3 := Try.isAgg3; have z3 := Try.sizeOf3; have v3 := Try.zeroValue3
  have t4 := Try.underlying4; have a4 := Try.isAgg4; have z4 := Try.sizeOf4; have v4 := Try.zeroValue4
  have t22 := Try.underlying22; have a22 := Try.isAgg22; have z22 := Try.sizeOf22; have v22 := Try.zeroValue22
  have t5 := Try.underlying97; have a5 := Try.isAgg97; have z5 := Try.sizeOf97; have v5 := Try.zeroValue97
  have t6 := Try.underlying92; have a6 := Try.isAgg92; have z6 := Try.sizeOf92; have v6 := Try.zeroValue92
  have hu22 := run_underlying t22; have hu3 := run_underlying t3; have hu6 := run_underlying t6
  generalize Try.prog = P at *
  obtain ⟨k, hk⟩ : ∃ k, k = 7 := ⟨_, rfl⟩
  rw [← hk] at zE R S0 HS ⊢
  have HK : Hid (k = 7) := hk
  clear hk
  obtain ⟨i0, hi0⟩ : ∃ x, x = m - a := ⟨_, rfl⟩
  obtain ⟨j0, hj0⟩ : ∃ x, x = b - m := ⟨_, rfl⟩
  have q1 : (m : Int) - (a : Int) = (i0 : Int) := by omega
  have q2 : (b : Int) - (m : Int) = (j0 : Int) := by omega
  have r1 : IntKind.i64.wrap (i0 : Int) = (i0 : Int) := by rw [IntKind.wrap_i64]; omega
  have r2 : IntKind.i64.wrap (j0 : Int) = (j0 : Int) := by rw [IntKind.wrap_i64]; omega
  have H0 : Hid (i0 = m - a ∧ j0 = b - m ∧ a < m ∧ m < b ∧ b ≤ len) := ⟨hi0, hj0, h1, h2, h3⟩
  clear hi0 hj0
  go_enter FG, Try.ntmps65
  go_wp2
  go_loopw [10, 11] (fun s10 s11 wr => ∃ (i j : Nat) (dk : Array En), s10 = .int .i64 i ∧ s11 = .int .i64 j ∧ 0 < i ∧ 0 < j ∧ i ≤ m ∧ m + j ≤ len ∧ dk.size = len ∧ Aside (SWK enC k w0 blk off dk wr) ∧ Hid (rotF (rd dk) (m - i) m (m + j) = rotF (rd d) a m b)) (fun s10 s11 _ => (intOf s10).toNat + (intOf s11).toNat)
  case atStart =>
    obtain ⟨k1, k2, k3, k4, k5⟩ := H0.out
    refine ⟨i0, j0, d, rfl, rfl, by omega, by omega, by omega, by omega, hs, S0, (show Hid _ from ?_)⟩
    show rotF _ _ _ _ = _
    rw [show m - i0 = a by omega, show m + j0 = b by omega]
  case round =>
    clear S0 q1 q2 r1 r2 H0 h1 h2 h3
    obtain ⟨i, j, dk, rfl, rfl, hi, hj, him, hjl, hds, S1, HE⟩ := hrel
    obtain ⟨x, hx⟩ : ∃ x, x + i = m := ⟨m - i, by omega⟩
    have qx : (m : Int) - (i : Int) = (x : Int) := by omega
    have rx : IntKind.i64.wrap (x : Int) = (x : Int) := by rw [IntKind.wrap_i64]; omega
    by_cases he : i = j
    · subst he
      go_wp2_with (go_at_fn 66; refine (HS.out _ _ hds S1.out x m i (by omega) (by omega)).mono ?_; rintro e w2 ⟨rfl, d2, hs2, hh, ss⟩; have S2 : Aside _ := ss; have HE2 : Hid _ := hh; clear ss hh)
      go_end0
      refine ⟨rfl, d2, hs2, ?_, S2.out⟩
      rw [HE2.out, ← HE.out, show x = m - i by omega]
      exact rot_same _ _ _ him
    · have hne : ¬ (i : Int) = (j : Int) := by omega
      by_cases hg : j < i
      · have hgz : (j : Int) < (i : Int) := by omega
        obtain ⟨y, hy⟩ : ∃ y, y + j = i := ⟨i - j, by omega⟩
        have qy : (i : Int) - (j : Int) = (y : Int) := by omega
        have ry : IntKind.i64.wrap (y : Int) = (y : Int) := by rw [IntKind.wrap_i64]; omega
        go_wp2_with (go_at_fn 66; refine (HS.out _ _ hds S1.out x m j (by omega) (by omega)).mono ?_; rintro e w2 ⟨rfl, d2, hs2, hh, ss⟩; have S2 : Aside _ := ss; have HE2 : Hid _ := hh; clear ss hh)
        go_roundw
        case rel =>
          refine ⟨y, j, d2, rfl, rfl, by omega, hj, by omega, hjl, hs2, S2, (show Hid _ from ?_)⟩
          show rotF _ _ _ _ = _
          rw [HE2.out, ← HE.out, show x = m - i by omega, show y = i - j by omega]
          exact rot_more _ _ _ _ hg him
        case measure => simp [intOf]; omega
      · have hgz : ¬ (j : Int) < (i : Int) := by omega
        obtain ⟨y, hy⟩ : ∃ y, y + i = j := ⟨j - i, by omega⟩
        obtain ⟨s, hsum⟩ : ∃ s, m + j = s := ⟨_, rfl⟩
        obtain ⟨z, hz⟩ : ∃ z, z + i = s := ⟨s - i, by omega⟩
        have qy : (j : Int) - (i : Int) = (y : Int) := by omega
        have ry : IntKind.i64.wrap (y : Int) = (y : Int) := by rw [IntKind.wrap_i64]; omega
        have qs : (m : Int) + (j : Int) = (s : Int) := by omega
        have rs : IntKind.i64.wrap (s : Int) = (s : Int) := by rw [IntKind.wrap_i64]; omega
        have qz : (s : Int) - (i : Int) = (z : Int) := by omega
        have rz : IntKind.i64.wrap (z : Int) = (z : Int) := by rw [IntKind.wrap_i64]; omega
        go_wp2_with (go_at_fn 66; refine (HS.out _ _ hds S1.out x z i (by omega) (by omega)).mono ?_; rintro e w2 ⟨rfl, d2, hs2, hh, ss⟩; have S2 : Aside _ := ss; have HE2 : Hid _ := hh; clear ss hh)
        go_roundw
        case rel =>
          refine ⟨i, y, d2, rfl, rfl, hi, by omega, him, by omega, hs2, S2, (show Hid _ from ?_)⟩
          show rotF _ _ _ _ = _
          rw [HE2.out, ← HE.out, show x = m - i by omega, show y = j - i by omega, show z = m + j - i by omega]
          exact rot_less _ _ _ _ (by omega) him
        case measure => simp [intOf]; omega
end
end Go.Proofs.Ytkngpfngfmbmjaa
/-
  One entry put into its place among sorted ones behind it: package slices at entries. The condition: fewer than 2^62 entries.
-/
namespace Go.Proofs.Ytkngpfngfmbmjaa
open Go.Shelf Go.RowKit Go.Lib Go.Sort
section
variable {w0 W : World} {blk off cap len : Nat} {d0 d : Array En}

set_option maxHeartbeats 12800000 in
set_option maxRecDepth 1000000 in
theorem st_sym_left (R : RowK enC 7 w0 blk off d0) (hs0 : d0.size = len) (hs : d.size = len) (S : SWK enC 7 w0 blk off d W) (hsz : len < 4611686018427387904) (a m b : Nat) (h1 : a + 1 = m) (h2 : m < b) (h3 : b ≤ len) (hB : Srt (fun x : En => x.slot) (rd d) m b) :
    Calls Try.prog 64 #[.slice (some ⟨blk, off, none⟩) len cap, .int .i64 a, .int .i64 m, .int .i64 b, .func (.func 57) #[] #[]] W fun e w' => e = .returned (.tuple #[]) ∧ ∃ d' : Array En, d'.size = len ∧ Mrg (fun x : En => x.slot) (rd d) (rd d') a b ∧ SWK enC 7 w0 blk off d' w' := by
  have HC : Aside (CmpLays Try.prog 57 #[] enC 7 cfE blk off len w0) := cmpLaysE _ _ _ _
  have S0 : Aside (SWK enC 7 w0 blk off d W) := S
  clear S
  have mixed : Try.prog.follows Departure.mixedOrders = true := by kernel_rfl
  have FG := Try.func64
  have aE := Try.isAgg36
  have zE := Try.sizeOf36
  have en0 : ∀ args w, (callFunc 57 args).run Try.prog w = .ok (.enter 57 args) w := enters_of Try.func57 (by kernel_rfl) rfl
  have t0 := Try.underlying0; have a0 := Try.isAgg0; have z0 := Try.sizeOf0; have v0 := Try.zeroValue0
  have t3 := Try.underlying3; have a3 := Try.isAgg3; have z3 := Try.sizeOf3; have v3 := Try.zeroValue3
  have t4 := Try.underlying4; have a4 := Try.isAgg4; have z4 := Try.sizeOf4; have v4 := Try.zeroValue4
  have t22 := Try.underlying22; have a22 := Try.isAgg22; have z22 := Try.sizeOf22; have v22 := Try.zeroValue22
  have t5 := Try.underlying97; have a5 := Try.isAgg97; have z5 := Try.sizeOf97; have v5 := Try.zeroValue97
  have t6 := Try.underlying92; have a6 := Try.isAgg92; have z6 := Try.sizeOf92; have v6 := Try.zeroValue92
  have hu22 := run_underlying t22; have hu3 := run_underlying t3; have hu6 := run_underlying t6
  generalize Try.prog = P at *
  obtain ⟨k, hk⟩ : ∃ k, k = 7 := ⟨_, rfl⟩
  rw [← hk] at zE R S0 HC ⊢
  have HK : Hid (k = 7) := hk
  clear hk
  have q1 : (m : Int) - (a : Int) = 1 := by omega
  have HB : Hid (Srt (fun x : En => x.slot) (rd d) m b) := hB
  have H1 : Hid (a + 1 = m) := h1
  have h1' : a < m := by omega
  clear hB h1
  go_enter FG, Try.ntmps64
  go_wp2
  go_loopw [10, 11] (fun s10 s11 wr => ∃ i j : Nat, s10 = .int .i64 i ∧ s11 = .int .i64 j ∧ m ≤ i ∧ i ≤ j ∧ j ≤ b ∧ Aside (SWK enC k w0 blk off d wr) ∧ Hid ((∀ x, m ≤ x → x < i → (rd d x).slot < (rd d a).slot) ∧ ∀ x, j ≤ x → x < b → (rd d a).slot ≤ (rd d x).slot)) (fun s10 s11 _ => (intOf s11).toNat - (intOf s10).toNat)
  case atStart => exact ⟨m, b, rfl, rfl, Nat.le_refl _, by omega, Nat.le_refl _, S0, (show Hid _ from (⟨fun x c1 c2 => by omega, fun x c1 c2 => by omega⟩ : _ ∧ _))⟩
  case round =>
    clear S0
    obtain ⟨i, j, rfl, rfl, hi, hij, hjb, S1, I⟩ := hrel
    by_cases hlt : i < j
    · have hltz : (i : Int) < (j : Int) := by omega
      obtain ⟨h, hh1, hh2⟩ : ∃ h, i ≤ h ∧ h < j ∧ ((i : Int) + (j : Int)) / 2 = (h : Int) := ⟨(i + j) / 2, by omega, by omega, by omega⟩
      obtain ⟨hh2, qh⟩ := hh2
      have rh : IntKind.i64.wrap (h : Int) = (h : Int) := by rw [IntKind.wrap_i64]; omega
      by_cases hc : (rd d h).slot < (rd d a).slot
      · obtain ⟨h', hh'⟩ : ∃ h', h + 1 = h' := ⟨_, rfl⟩
        have qh' : (h : Int) + 1 = (h' : Int) := by omega
        have HCC : Hid ((rd d h).slot < (rd d a).slot) := hc
        clear hc
        have ea1 : ((h : Int)).toNat = h := by omega
        have pa1 : (0 : Int) ≤ (h : Int) := by omega
        have ba1 : (h : Int) < (len : Int) := by omega
        have ra1 : IntKind.i64.wrap ((h : Int)) = (h : Int) := by rw [IntKind.wrap_i64]; omega
        have ec1 : ((a : Int)).toNat = a := by omega
        have pc1 : (0 : Int) ≤ (a : Int) := by omega
        have bc1 : (a : Int) < (len : Int) := by omega
        have rc1 : IntKind.i64.wrap ((a : Int)) = (a : Int) := by rw [IntKind.wrap_i64]; omega
        obtain ⟨x1, hx1⟩ : ∃ z, z = d[h]! := ⟨_, rfl⟩
        obtain ⟨y1, hy1⟩ : ∃ z, z = d[a]! := ⟨_, rfl⟩
        have l1a := S1.out.ld R (by omega) P (h) (by omega)
        have l1b := S1.out.ld R (by omega) P (a) (by omega)
        rw [← hx1] at l1a
        rw [← hy1] at l1b
        have hc1 := S1.out.cmp HC.out (by omega) x1 y1
        have hv1 : cfE x1 y1 < 0 := by rw [hx1, hy1, cfE_neg]; exact HCC.out
        have hd1 : decide (cfE x1 y1 < 0) = true := decide_eq_true hv1
        clear hx1 hy1
        go_wp2_with fail
        go_quiet_grown (first | (go_at_fn 57; refine Calls.grown_of (hc1 _ _)))
        have S2 : Aside (SWK enC k w0 blk off d (grow (wr.drewN nq) osq)) := S1.out.grown nq osq
        clear l1a l1b hc1 S1
        generalize grow (wr.drewN nq) osq = w2 at S2 ⊢
        clear nq osq
        go_wp2
        go_roundw
        case rel =>
          refine ⟨h', j, by first | rfl | go_num, rfl, by omega, by omega, hjb, S2, (show Hid _ from (⟨fun x c1 c2 => ?_, I.out.2⟩ : _ ∧ _))⟩
          have k1 := HCC.out
          by_cases c3 : x = h
          · rw [c3]
            exact k1
          · have k2 := HB.out x h c1 (by omega) (by omega)
            exact Int.lt_of_le_of_lt k2 k1
        case measure => simp [intOf]; omega
      · have HCC : Hid ((rd d a).slot ≤ (rd d h).slot) := Int.not_lt.1 hc
        clear hc
        have ea2 : ((h : Int)).toNat = h := by omega
        have pa2 : (0 : Int) ≤ (h : Int) := by omega
        have ba2 : (h : Int) < (len : Int) := by omega
        have ra2 : IntKind.i64.wrap ((h : Int)) = (h : Int) := by rw [IntKind.wrap_i64]; omega
        have ec2 : ((a : Int)).toNat = a := by omega
        have pc2 : (0 : Int) ≤ (a : Int) := by omega
        have bc2 : (a : Int) < (len : Int) := by omega
        have rc2 : IntKind.i64.wrap ((a : Int)) = (a : Int) := by rw [IntKind.wrap_i64]; omega
        obtain ⟨x2, hx2⟩ : ∃ z, z = d[h]! := ⟨_, rfl⟩
        obtain ⟨y2, hy2⟩ : ∃ z, z = d[a]! := ⟨_, rfl⟩
        have l2a := S1.out.ld R (by omega) P (h) (by omega)
        have l2b := S1.out.ld R (by omega) P (a) (by omega)
        rw [← hx2] at l2a
        rw [← hy2] at l2b
        have hc2 := S1.out.cmp HC.out (by omega) x2 y2
        have hv2 : ¬ cfE x2 y2 < 0 := by rw [hx2, hy2, cfE_neg]; exact Int.not_lt.2 HCC.out
        have hd2 : decide (cfE x2 y2 < 0) = false := decide_eq_false hv2
        clear hx2 hy2
        go_wp2_with fail
        go_quiet_grown (first | (go_at_fn 57; refine Calls.grown_of (hc2 _ _)))
        have S2 : Aside (SWK enC k w0 blk off d (grow (wr.drewN nq) osq)) := S1.out.grown nq osq
        clear l2a l2b hc2 S1
        generalize grow (wr.drewN nq) osq = w2 at S2 ⊢
        clear nq osq
        go_wp2
        go_roundw
        case rel =>
          refine ⟨i, h, rfl, by first | rfl | go_num, hi, by omega, by omega, S2, (show Hid _ from (⟨I.out.1, fun x c1 c2 => ?_⟩ : _ ∧ _))⟩
          have k1 := HCC.out
          by_cases c3 : h = x
          · rw [← c3]
            exact k1
          · have k2 := HB.out h x (by omega) (by omega) (by omega)
            exact Int.le_trans k1 k2
        case measure => simp [intOf]; omega
    · obtain rfl : i = j := by omega
      clear hlt hij
      obtain ⟨i1, hi1⟩ : ∃ i1, i1 + 1 = i := ⟨i - 1, by omega⟩
      have qi : (i : Int) - 1 = (i1 : Int) := by omega
      have ri1 : IntKind.i64.wrap (i1 : Int) = (i1 : Int) := by rw [IntKind.wrap_i64]; omega
      go_wp2
      go_loopw [13] (fun s13 w3 => ∃ (p : Nat) (dk : Array En), s13 = .int .i64 p ∧ a ≤ p ∧ p ≤ i1 ∧ dk.size = len ∧ Aside (SWK enC k w0 blk off dk w3) ∧ Hid (rotF (rd dk) p (p + 1) i = rotF (rd d) a (a + 1) i)) (fun s13 _ => i1 - (intOf s13).toNat)
      case atStart => exact ⟨a, d, rfl, Nat.le_refl _, by omega, hs, S1, (show Hid _ from (rfl : _ = _))⟩
      case round =>
        clear S1
        obtain ⟨p, dk, rfl, hp1, hp2, hds, S1, HE⟩ := hrel
        by_cases hlt : p < i1
        · have hltz : (p : Int) < (i1 : Int) := by omega
          obtain ⟨y, hy⟩ : ∃ y, p + 1 = y := ⟨_, rfl⟩
          have qy : (p : Int) + 1 = (y : Int) := by omega
          have HY : Hid (p + 1 = y) := hy
          have hpy : p < y ∧ y ≤ i1 := by omega
          clear hy
          go_wp2_with fail
          have ea5 : ((p : Int)).toNat = p := by omega
          have pa5 : (0 : Int) ≤ (p : Int) := by omega
          have ba5 : (p : Int) < (len : Int) := by omega
          have ra5 : IntKind.i64.wrap ((p : Int)) = (p : Int) := by rw [IntKind.wrap_i64]; omega
          have ec5 : ((y : Int)).toNat = y := by omega
          have pc5 : (0 : Int) ≤ (y : Int) := by omega
          have bc5 : (y : Int) < (len : Int) := by omega
          have rc5 : IntKind.i64.wrap ((y : Int)) = (y : Int) := by rw [IntKind.wrap_i64]; omega
          have S2 : Aside (SWK enC k w0 blk off (swp dk (p) (y)) ((wr.drew.setCells blk (off + (p) * k) (enC dk[y]!)).setCells blk (off + (y) * k) (enC dk[p]!))) := S1.out.swapped R (p) (y) (by omega) (by omega)
          have l5a := S1.out.ld1 R (by omega) P (p) (by omega)
          have l5b := S1.out.ld1 R (by omega) P (y) (by omega)
          have s5a := S1.out.st1 R (by omega) P (p) (by omega) dk[y]!
          have s5b := S1.out.st2 R (by omega) P (p) (y) (by omega) (by omega) dk[y]! dk[p]!
          have n5a : (enC dk[p]!).length = k := R.hk _
          have n5b : (enC dk[y]!).length = k := R.hk _
          generalize enC dk[p]! = cI5 at S2 l5a s5b n5a
          generalize enC dk[y]! = cJ5 at S2 l5b s5a s5b n5b
          clear S1
          go_wp2_with fail
          go_big_region_o
          clear l5a l5b s5a s5b
          generalize (wr.drew.setCells blk (off + (p) * k) cJ5).setCells blk (off + (y) * k) cI5 = w2 at S2 ⊢
          go_wp2
          go_roundw
          case rel =>
            refine ⟨y, swp dk p y, by first | rfl | go_num, by omega, by omega, by rw [size_swp]; exact hds, S2, (show Hid _ from ?_)⟩
            show rotF _ _ _ _ = _
            rw [rd_swp dk (by omega) (by omega), ← HE.out, ← HY.out]
            exact rot_up _ _ _ (by have := HY.out; omega)
          case measure => simp [intOf]; have := HY.out; omega
        · have hltz : ¬ (p : Int) < (i1 : Int) := by omega
          go_wp2
          (try simp only [Exit.inBlock, Exit.then]); refine bodyPost_ret (results_none rfl _ _ _) rfl ?_
          refine ⟨rfl, dk, hds, ?_, S1.out⟩
          have e : rd dk = rotF (rd d) a (a + 1) i := by
            rw [← HE.out, show p + 1 = i by omega, rotF_left]
          rw [e]
          have k0 := H1.out
          exact mrg_left (by omega) hjb (by rw [k0]; exact HB.out) (fun x c1 c2 => I.out.1 x (by omega) c2) I.out.2
end
end Go.Proofs.Ytkngpfngfmbmjaa
/-
  One entry put into its place among sorted ones ahead of it: package slices at entries. The condition: fewer than 2^62 entries.
-/
namespace Go.Proofs.Ytkngpfngfmbmjaa
open Go.Shelf Go.RowKit Go.Lib Go.Sort
section
variable {w0 W : World} {blk off cap len : Nat} {d0 d : Array En}

set_option maxHeartbeats 12800000 in
set_option maxRecDepth 1000000 in
theorem st_sym_right (R : RowK enC 7 w0 blk off d0) (hs0 : d0.size = len) (hs : d.size = len) (S : SWK enC 7 w0 blk off d W) (hsz : len < 4611686018427387904) (a m b : Nat) (h1 : a + 1 < m) (h2 : m + 1 = b) (h3 : b ≤ len) (hA : Srt (fun x : En => x.slot) (rd d) a m) :
    Calls Try.prog 64 #[.slice (some ⟨blk, off, none⟩) len cap, .int .i64 a, .int .i64 m, .int .i64 b, .func (.func 57) #[] #[]] W fun e w' => e = .returned (.tuple #[]) ∧ ∃ d' : Array En, d'.size = len ∧ Mrg (fun x : En => x.slot) (rd d) (rd d') a b ∧ SWK enC 7 w0 blk off d' w' := by
  have HC : Aside (CmpLays Try.prog 57 #[] enC 7 cfE blk off len w0) := cmpLaysE _ _ _ _
  have S0 : Aside (SWK enC 7 w0 blk off d W) := S
  clear S
  have mixed : Try.prog.follows Departure.mixedOrders = true := by kernel_rfl
  have FG := Try.func64
  have aE := Try.isAgg36
  have zE := Try.sizeOf36
  have en0 : ∀ args w, (callFunc 57 args).run Try.prog w = .ok (.enter 57 args) w := enters_of Try.func57 (by kernel_rfl) rfl
  have t0 := Try.underlying0; have a0 := Try.isAgg0; have z0 := Try.sizeOf0; have v0 := Try.zeroValue0
  have t3 := Try.underlying3; have a3 := Try.isAgg3; have z3 := Try.sizeOf3; have v3 := Try.zeroValue3
  have t4 := Try.underlying4; have a4 := Try.isAgg4; have z4 := Try.sizeOf4; have v4 := Try.zeroValue4
  have t22 := Try.underlying22; have a22 := Try.isAgg22; have z22 := Try.sizeOf22; have v22 := Try.zeroValue22
  have t5 := Try.underlying97; have a5 := Try.isAgg97; have z5 := Try.sizeOf97; have v5 := Try.zeroValue97
  have t6 := Try.underlying92; have a6 := Try.isAgg92; have z6 := Try.sizeOf92; have v6 := Try.zeroValue92
  have hu22 := run_underlying t22; have hu3 := run_underlying t3; have hu6 := run_underlying t6
  generalize Try.prog = P at *
  obtain ⟨k, hk⟩ : ∃ k, k = 7 := ⟨_, rfl⟩
  rw [← hk] at zE R S0 HC ⊢
  have HK : Hid (k = 7) := hk
  clear hk
  obtain ⟨z1, hz1⟩ : ∃ z, z + a = m := ⟨m - a, by omega⟩
  have q1 : (m : Int) - (a : Int) = (z1 : Int) := by omega
  have rz1 : IntKind.i64.wrap (z1 : Int) = (z1 : Int) := by rw [IntKind.wrap_i64]; omega
  have q1' : ((z1 : Int) == 1) = false := by rw [beq_eq_false_iff_ne]; omega
  have q2 : (b : Int) - (m : Int) = 1 := by omega
  have HA : Hid (Srt (fun x : En => x.slot) (rd d) a m) := hA
  have H1 : Hid (m + 1 = b) := h2
  have h1' : a < m ∧ m < len := by omega
  clear hA h1 h2
  go_enter FG, Try.ntmps64
  go_wp2
  go_loopg [14, 15] (m - a) (fun kx s10 s11 wr => ∃ i j : Nat, s10 = .int .i64 i ∧ s11 = .int .i64 j ∧ a ≤ i ∧ i ≤ j ∧ j ≤ m ∧ j - i ≤ kx ∧ Aside (SWK enC k w0 blk off d wr) ∧ Hid ((∀ x, a ≤ x → x < i → (rd d x).slot ≤ (rd d m).slot) ∧ ∀ x, j ≤ x → x < m → (rd d m).slot < (rd d x).slot))
  case atStart => exact ⟨a, m, rfl, rfl, Nat.le_refl _, by omega, Nat.le_refl _, Nat.le_refl _, S0, (show Hid _ from (⟨fun x c1 c2 => by omega, fun x c1 c2 => by omega⟩ : _ ∧ _))⟩
  case round =>
    clear S0
    obtain ⟨i, j, rfl, rfl, hi, hij, hjb, hkx, S1, I⟩ := hrel
    by_cases hlt : i < j
    · have hltz : (i : Int) < (j : Int) := by omega
      obtain ⟨h, hh1, hh2⟩ : ∃ h, i ≤ h ∧ h < j ∧ ((i : Int) + (j : Int)) / 2 = (h : Int) := ⟨(i + j) / 2, by omega, by omega, by omega⟩
      obtain ⟨hh2, qh⟩ := hh2
      have rh : IntKind.i64.wrap (h : Int) = (h : Int) := by rw [IntKind.wrap_i64]; omega
      by_cases hc : (rd d m).slot < (rd d h).slot
      · have HCC : Hid ((rd d m).slot < (rd d h).slot) := hc
        clear hc
        have ea1 : ((m : Int)).toNat = m := by omega
        have pa1 : (0 : Int) ≤ (m : Int) := by omega
        have ba1 : (m : Int) < (len : Int) := by omega
        have ra1 : IntKind.i64.wrap ((m : Int)) = (m : Int) := by rw [IntKind.wrap_i64]; omega
        have ec1 : ((h : Int)).toNat = h := by omega
        have pc1 : (0 : Int) ≤ (h : Int) := by omega
        have bc1 : (h : Int) < (len : Int) := by omega
        have rc1 : IntKind.i64.wrap ((h : Int)) = (h : Int) := by rw [IntKind.wrap_i64]; omega
        obtain ⟨x1, hx1⟩ : ∃ z, z = d[m]! := ⟨_, rfl⟩
        obtain ⟨y1, hy1⟩ : ∃ z, z = d[h]! := ⟨_, rfl⟩
        have l1a := S1.out.ld R (by omega) P (m) (by omega)
        have l1b := S1.out.ld R (by omega) P (h) (by omega)
        rw [← hx1] at l1a
        rw [← hy1] at l1b
        have hc1 := S1.out.cmp HC.out (by omega) x1 y1
        have hv1 : cfE x1 y1 < 0 := by rw [hx1, hy1, cfE_neg]; exact HCC.out
        have hd1 : decide (cfE x1 y1 < 0) = true := decide_eq_true hv1
        clear hx1 hy1
        go_wp2_with fail
        go_quiet_grown (first | (go_at_fn 57; refine Calls.grown_of (hc1 _ _)))
        have S2 : Aside (SWK enC k w0 blk off d (grow (wr.drewN nq) osq)) := S1.out.grown nq osq
        clear l1a l1b hc1 S1
        generalize grow (wr.drewN nq) osq = w2 at S2 ⊢
        clear nq osq
        go_wp2
        go_roundg (h - i)
        case rel =>
          refine ⟨i, h, rfl, by first | rfl | go_num, hi, by omega, by omega, Nat.le_refl _, S2, (show Hid _ from (⟨I.out.1, fun x c1 c2 => ?_⟩ : _ ∧ _))⟩
          have k1 := HCC.out
          by_cases c3 : h = x
          · rw [← c3]
            exact k1
          · have k2 := HA.out h x (by omega) (by omega) (by omega)
            exact Int.lt_of_lt_of_le k1 k2
        case measure => omega
      · have HCC : Hid ((rd d h).slot ≤ (rd d m).slot) := Int.not_lt.1 hc
        obtain ⟨h', hh'⟩ : ∃ h', h + 1 = h' := ⟨_, rfl⟩
        have qh' : (h : Int) + 1 = (h' : Int) := by omega
        clear hc
        have ea2 : ((m : Int)).toNat = m := by omega
        have pa2 : (0 : Int) ≤ (m : Int) := by omega
        have ba2 : (m : Int) < (len : Int) := by omega
        have ra2 : IntKind.i64.wrap ((m : Int)) = (m : Int) := by rw [IntKind.wrap_i64]; omega
        have ec2 : ((h : Int)).toNat = h := by omega
        have pc2 : (0 : Int) ≤ (h : Int) := by omega
        have bc2 : (h : Int) < (len : Int) := by omega
        have rc2 : IntKind.i64.wrap ((h : Int)) = (h : Int) := by rw [IntKind.wrap_i64]; omega
        obtain ⟨x2, hx2⟩ : ∃ z, z = d[m]! := ⟨_, rfl⟩
        obtain ⟨y2, hy2⟩ : ∃ z, z = d[h]! := ⟨_, rfl⟩
        have l2a := S1.out.ld R (by omega) P (m) (by omega)
        have l2b := S1.out.ld R (by omega) P (h) (by omega)
        rw [← hx2] at l2a
        rw [← hy2] at l2b
        have hc2 := S1.out.cmp HC.out (by omega) x2 y2
        have hv2 : ¬ cfE x2 y2 < 0 := by rw [hx2, hy2, cfE_neg]; exact Int.not_lt.2 HCC.out
        have hd2 : decide (cfE x2 y2 < 0) = false := decide_eq_false hv2
        clear hx2 hy2
        go_wp2_with fail
        go_quiet_grown (first | (go_at_fn 57; refine Calls.grown_of (hc2 _ _)))
        have S2 : Aside (SWK enC k w0 blk off d (grow (wr.drewN nq) osq)) := S1.out.grown nq osq
        clear l2a l2b hc2 S1
        generalize grow (wr.drewN nq) osq = w2 at S2 ⊢
        clear nq osq
        go_wp2
        go_roundg (j - h')
        case rel =>
          refine ⟨h', j, by first | rfl | go_num, rfl, by omega, by omega, hjb, Nat.le_refl _, S2, (show Hid _ from (⟨fun x c1 c2 => ?_, I.out.2⟩ : _ ∧ _))⟩
          have k1 := HCC.out
          by_cases c3 : x = h
          · rw [c3]
            exact k1
          · have k2 := HA.out x h c1 (by omega) (by omega)
            exact Int.le_trans k2 k1
        case measure => omega
    · obtain rfl : i = j := by omega
      clear hlt hij
      go_wp2
      go_loopg [17] (m - i) (fun kx s13 w3 => ∃ (p : Nat) (dk : Array En), s13 = .int .i64 p ∧ i ≤ p ∧ p ≤ m ∧ p - i ≤ kx ∧ dk.size = len ∧ Aside (SWK enC k w0 blk off dk w3) ∧ Hid (rotF (rd dk) i p (p + 1) = rotF (rd d) i m (m + 1)))
      case atStart => exact ⟨m, d, rfl, hjb, Nat.le_refl _, Nat.le_refl _, hs, S1, (show Hid _ from (rfl : _ = _))⟩
      case round =>
        clear S1
        obtain ⟨p, dk, rfl, hp1, hp2, hkp, hds, S1, HE⟩ := hrel
        by_cases hlt : i < p
        · have hltz : (i : Int) < (p : Int) := by omega
          obtain ⟨y, hy⟩ : ∃ y, y + 1 = p := ⟨p - 1, by omega⟩
          have qy : (p : Int) - 1 = (y : Int) := by omega
          have HY : Hid (y + 1 = p) := hy
          have hpy : y < p ∧ i ≤ y := by omega
          clear hy
          go_wp2_with fail
          have ea5 : ((p : Int)).toNat = p := by omega
          have pa5 : (0 : Int) ≤ (p : Int) := by omega
          have ba5 : (p : Int) < (len : Int) := by omega
          have ra5 : IntKind.i64.wrap ((p : Int)) = (p : Int) := by rw [IntKind.wrap_i64]; omega
          have ec5 : ((y : Int)).toNat = y := by omega
          have pc5 : (0 : Int) ≤ (y : Int) := by omega
          have bc5 : (y : Int) < (len : Int) := by omega
          have rc5 : IntKind.i64.wrap ((y : Int)) = (y : Int) := by rw [IntKind.wrap_i64]; omega
          have S2 : Aside (SWK enC k w0 blk off (swp dk (p) (y)) ((wr.drew.setCells blk (off + (p) * k) (enC dk[y]!)).setCells blk (off + (y) * k) (enC dk[p]!))) := S1.out.swapped R (p) (y) (by omega) (by omega)
          have l5a := S1.out.ld1 R (by omega) P (p) (by omega)
          have l5b := S1.out.ld1 R (by omega) P (y) (by omega)
          have s5a := S1.out.st1 R (by omega) P (p) (by omega) dk[y]!
          have s5b := S1.out.st2 R (by omega) P (p) (y) (by omega) (by omega) dk[y]! dk[p]!
          have n5a : (enC dk[p]!).length = k := R.hk _
          have n5b : (enC dk[y]!).length = k := R.hk _
          generalize enC dk[p]! = cI5 at S2 l5a s5b n5a
          generalize enC dk[y]! = cJ5 at S2 l5b s5a s5b n5b
          clear S1
          go_wp2_with fail
          go_big_region_o
          clear l5a l5b s5a s5b
          generalize (wr.drew.setCells blk (off + (p) * k) cJ5).setCells blk (off + (y) * k) cI5 = w2 at S2 ⊢
          go_wp2
          go_roundg (y - i)
          case rel =>
            refine ⟨y, swp dk p y, by first | rfl | go_num, by omega, by omega, Nat.le_refl _, by rw [size_swp]; exact hds, S2, (show Hid _ from ?_)⟩
            show rotF _ _ _ _ = _
            have k0 := HY.out
            rw [rd_swp dk (by omega) (by omega), ← HE.out, show y = p - 1 by omega, show p - 1 + 1 = p by omega]
            exact rot_down _ _ _ hlt
          case measure => have := HY.out; omega
        · have hltz : ¬ (i : Int) < (p : Int) := by omega
          go_wp2
          (try simp only [Exit.inBlock, Exit.then]); refine bodyPost_ret (results_none rfl _ _ _) rfl ?_
          refine ⟨rfl, dk, hds, ?_, S1.out⟩
          have e : rd dk = rotF (rd d) i m (m + 1) := by
            rw [← HE.out, show p = i by omega, rotF_right]
          rw [e]
          have k0 := H1.out
          rw [← k0]
          exact mrg_right hi hjb HA.out I.out.1 I.out.2
end
end Go.Proofs.Ytkngpfngfmbmjaa
