/-
  Package acceptor: where a slot has its place among entries that rise. The condition: fewer than 2^60 entries.
-/
import Derived.Test.YtkngpfngfmbmjaaYSA
import Derived.Test.YtkngpfngfmbmjaaYPack6
namespace Go.Proofs.Ytkngpfngfmbmjaa
open Go.RowKit

/-- Where a slot has its place, and whether its entry is there. -/
structure FoundS (es : List En) (s : Int) (k : Nat) (b : Bool) : Prop where
  le : k ≤ es.length
  below : ∀ t (h : t < es.length), t < k → es[t].slot < s
  above : ∀ t (h : t < es.length), k ≤ t → s ≤ es[t].slot
  yes : b = true → ∃ h : k < es.length, es[k].slot = s
  no : b = false → ∀ h : k < es.length, es[k].slot ≠ s
/-- What a search by halves knows. -/
structure BsI (es : List En) (s : Int) (lo hi : Nat) : Prop where
  lo : ∀ t (h : t < es.length), t < lo → es[t].slot < s
  hi : ∀ t (h : t < es.length), hi ≤ t → s ≤ es[t].slot
/-- What it answers. -/
structure FindPost (es : List En) (s : Int) (w : World) (r : Ending) (w' : World) : Prop where
  ex : ∃ (k : Nat) (b : Bool), r = .returned (.tuple #[.int .i64 (k : Int), .bool b]) ∧ FoundS es s k b ∧ Below w.heap.size w w'
theorem cmp_neg (x y : Int) : Lib.compareInt x y < 0 ↔ x < y := by
  unfold Lib.compareInt
  split
  · simp; assumption
  · split <;> simp <;> omega
theorem cmp_zero (x y : Int) : Lib.compareInt x y = 0 ↔ x = y := by
  unfold Lib.compareInt
  split
  · simp; omega
  · split <;> simp <;> omega
theorem up_lt {es : List En} (h : es.Pairwise fun x y => x.slot < y.slot) {i j : Nat} (hij : i < j) (hj : j < es.length) : es[i].slot < es[j].slot := List.pairwise_iff_getElem.1 h i j (by omega) hj hij
set_option maxRecDepth 100000 in
theorem pby_any (w : World) (x : En) (s : Int) : Calls Try.prog 48 #[.agg (enA x), .int .i64 s] w fun e w' => e = .returned (.int .i64 (Lib.compareInt x.slot s)) ∧ Below w.heap.size w w' := by
  go_enter Try.func48, Try.ntmps48
  go_wp2_with (go_at_call 55; refine (Try.cmp_Compare_int _ _ _).mono ?_; rintro e w2 ⟨rfl, rfl⟩)
  go_ret
  exact ⟨rfl, (Below.refl _ w).alloc (Nat.le_refl _) _⟩
set_option maxHeartbeats 6400000 in
set_option maxRecDepth 100000 in
theorem bsi_any (w : World) (v : Value) (es : List En) (s : Int) (hr : RowAt enC w v es) (hu : es.Pairwise fun x y => x.slot < y.slot) (hl : es.length < 1152921504606846976) :
    Calls Try.prog 47 #[v, .int .i64 s, .func (.func 48) #[] #[]] w (FindPost es s w) := by
  obtain ⟨va, vc, rfl⟩ := hr.form
  have HR : Hid (∀ y, Below w.heap.size w y → RowAt enC y (.slice va es.length vc) es) := fun y b => hr.fresh b
  have HU : Hid _ := hu
  clear hr hu
  go_enter Try.func47, Try.ntmps47
  go_wp2
  go_loopw [9, 10] (fun s9 s10 wr => ∃ lo hi : Nat, s9 = .int .i64 (lo : Int) ∧ s10 = .int .i64 (hi : Int) ∧ lo ≤ hi ∧ hi ≤ es.length ∧ Hid (Below w.heap.size w wr) ∧ BsI es s lo hi) (fun s9 s10 _ => (intOf s10).toNat - (intOf s9).toNat)
  case atStart => exact ⟨0, es.length, rfl, rfl, Nat.zero_le _, Nat.le_refl _, Below.refl _ _, ⟨fun t h c => absurd c (Nat.not_lt_zero _), fun t h c => by omega⟩⟩
  case round =>
    obtain ⟨lo, hi, rfl, rfl, hlh, hin, BR, I⟩ := hrel
    by_cases hlt : lo < hi
    · have hltz : (lo : Int) < (hi : Int) := by omega
      obtain ⟨h, hh1, hh2, qh⟩ : ∃ h, lo ≤ h ∧ h < hi ∧ ((lo : Int) + (hi : Int)) / 2 = (h : Int) := ⟨(lo + hi) / 2, by omega, by omega, by omega⟩
      have rh : IntKind.i64.wrap (h : Int) = (h : Int) := by rw [IntKind.wrap_i64]; omega
      obtain ⟨bk, off, cap', hvv, hcap, hbk, hc⟩ := (HR.out wr BR.out).cells enC_len (by omega)
      injection hvv with e1 e2 e3
      subst e1 e3
      have hhl : h < es.length := by omega
      obtain ⟨x, hx⟩ : ∃ x, x = es[h] := ⟨_, rfl⟩
      have z0 := hc h hhl 0 (.int .i64 x.slot) (by decide) (by rw [hx]; rfl)
      have z1 := hc h hhl 1 (.int .i64 x.ballot) (by decide) (by rw [hx]; rfl)
      have z2 := hc h hhl 2 (.int .i64 x.cmd.kind) (by decide) (by rw [hx]; rfl)
      have z3 := hc h hhl 3 (.int .i64 x.cmd.session) (by decide) (by rw [hx]; rfl)
      have z4 := hc h hhl 4 (.int .i64 x.cmd.seq) (by decide) (by rw [hx]; rfl)
      have z5 := hc h hhl 5 (.string x.cmd.name) (by decide) (by rw [hx]; rfl)
      have z6 := hc h hhl 6 (.int .i64 x.cmd.n) (by decide) (by rw [hx]; rfl)
      rw [Nat.add_zero] at z0
      have HX : Hid (x = es[h]) := hx
      have hLH : Hid (lo < hi ∧ lo ≤ h ∧ h < hi) := ⟨hlt, hh1, hh2⟩
      clear hc hx hcap hbk
      by_cases hs : x.slot < s
      · have t1 : decide (Lib.compareInt x.slot s < 0) = true := decide_eq_true ((cmp_neg _ _).2 hs)
        have HS : Hid _ := hs
        clear hs
        go_wp2_with (go_at_call 48; refine (pby_any _ x s).mono ?_; rintro e w2 ⟨rfl, b2⟩; have B2 : Hid (Below w.heap.size w w2) := bmm BR.out BR.out.size b2; clear b2)
        go_roundw
        case rel =>
          refine ⟨h + 1, hi, by go_num, rfl, by omega, hin, B2, ⟨fun t ht c => ?_, I.hi⟩⟩
          have h1 := HS.out
          rw [HX.out] at h1
          by_cases c3 : t = h
          · subst c3
            exact h1
          · have := up_lt HU.out (i := t) (j := h) (by omega) hhl
            omega
        case measure => simp [intOf]; omega
      · have t1 : decide (Lib.compareInt x.slot s < 0) = false := decide_eq_false (fun c => hs ((cmp_neg _ _).1 c))
        have HS : Hid (s ≤ x.slot) := (by omega : s ≤ x.slot)
        clear hs
        go_wp2_with (go_at_call 48; refine (pby_any _ x s).mono ?_; rintro e w2 ⟨rfl, b2⟩; have B2 : Hid (Below w.heap.size w w2) := bmm BR.out BR.out.size b2; clear b2)
        go_roundw
        case rel =>
          refine ⟨lo, h, rfl, by go_num, hh1, by omega, B2, ⟨I.lo, fun t ht c => ?_⟩⟩
          have h1 := HS.out
          rw [HX.out] at h1
          by_cases c3 : t = h
          · subst c3
            omega
          · have hht : h < t := by clear rh qh; omega
            have := up_lt HU.out (i := h) (j := t) hht ht
            omega
        case measure => simp [intOf]; omega
    · have hltz : ¬ (lo : Int) < (hi : Int) := by omega
      obtain rfl : lo = hi := by omega
      have FD : Hid (∀ b : Bool, (b = true → ∃ h : lo < es.length, es[lo].slot = s) → (b = false → ∀ h : lo < es.length, es[lo].slot ≠ s) → FoundS es s lo b) := fun b h1 h2 => ⟨hin, I.lo, I.hi, h1, h2⟩
      clear hlt hlh
      by_cases hn : lo < es.length
      · have hnz : (lo : Int) < (es.length : Int) := by omega
        obtain ⟨bk, off, cap', hvv, hcap, hbk, hc⟩ := (HR.out wr BR.out).cells enC_len (by omega)
        injection hvv with e1 e2 e3
        subst e1 e3
        obtain ⟨x, hx⟩ : ∃ x, x = es[lo] := ⟨_, rfl⟩
        have z0 := hc lo hn 0 (.int .i64 x.slot) (by decide) (by rw [hx]; rfl)
        have z1 := hc lo hn 1 (.int .i64 x.ballot) (by decide) (by rw [hx]; rfl)
        have z2 := hc lo hn 2 (.int .i64 x.cmd.kind) (by decide) (by rw [hx]; rfl)
        have z3 := hc lo hn 3 (.int .i64 x.cmd.session) (by decide) (by rw [hx]; rfl)
        have z4 := hc lo hn 4 (.int .i64 x.cmd.seq) (by decide) (by rw [hx]; rfl)
        have z5 := hc lo hn 5 (.string x.cmd.name) (by decide) (by rw [hx]; rfl)
        have z6 := hc lo hn 6 (.int .i64 x.cmd.n) (by decide) (by rw [hx]; rfl)
        rw [Nat.add_zero] at z0
        have HX : Hid (x = es[lo]) := hx
        clear hc hx hcap hbk
        obtain ⟨r, hr⟩ : ∃ r, r = (Lib.compareInt x.slot s == 0) := ⟨_, rfl⟩
        have HN : Hid (FoundS es s lo r) := by
          refine FD.out r (fun h => ⟨hn, ?_⟩) (fun h _ => ?_)
          · rw [h] at hr
            have := (cmp_zero _ _).1 (eq_of_beq hr.symm)
            rw [← HX.out]
            exact this
          · rw [h] at hr
            intro c
            rw [← HX.out] at c
            rw [(cmp_zero _ _).2 c] at hr
            cases hr
        have t1 : (Lib.compareInt x.slot s == 0) = r := hr.symm
        clear hr
        go_wp2_with (go_at_call 48; refine (pby_any _ x s).mono ?_; rintro e w2 ⟨rfl, b2⟩; have B2 : Hid (Below w.heap.size w w2) := bmm BR.out BR.out.size b2; clear b2)
        go_ret2
        exact ⟨lo, r, rfl, HN.out, B2.out⟩
      · have hnz : ¬ (lo : Int) < (es.length : Int) := by omega
        have HN : Hid (FoundS es s lo false) := FD.out false (fun h => by cases h) (fun _ h => absurd h hn)
        go_wp2
        go_ret2
        exact ⟨lo, false, rfl, HN.out, BR.out⟩
end Go.Proofs.Ytkngpfngfmbmjaa
