/-
  Where a slot has its place among the rows of open slots: package sort's search by halves, and whether the slot is in a row. The conditions: the rows rise; fewer than 2^60 rows.
-/
import Derived.Test.YtmlgoecdefeapaaPPxIterB
import Derived.Deep.QuietTactic
import Derived.BigQuiet
namespace Go.Proofs.Ytmlgoecdefeapaa
open Go.RowKit

/-- The rows' last slots rise. -/
abbrev UpR (l : List (Int × Int)) : Prop := l.Pairwise fun a b => a.2 < b.2
/-- The first row that does not end below a slot. -/
structure FoundR (l : List (Int × Int)) (s : Int) (k : Nat) : Prop where
  le : k ≤ l.length
  below : ∀ t (h : t < l.length), t < k → l[t].2 < s
  above : ∀ t (h : t < l.length), k ≤ t → s ≤ l[t].2
theorem upr_lt {l : List (Int × Int)} (h : UpR l) {i j : Nat} (hij : i < j) (hj : j < l.length) : l[i].2 < l[j].2 := List.pairwise_iff_getElem.1 h i j (by omega) hj hij
structure FindP (l : List (Int × Int)) (s : Int) (w : World) (r : Ending) (w' : World) : Prop where
  ex : ∃ k : Nat, r = .returned (.int .i64 (k : Int)) ∧ FoundR l s k ∧ Below w.heap.size w w'
set_option maxHeartbeats 3200000 in
set_option maxRecDepth 100000 in
theorem pred_any {w : World} {B1 B2 : Nat} {v : Value} {l : List (Int × Int)} {s : Int} {k : Nat} (hk : k < l.length) (h1 : w.heap[B1]? = some (.cells #[v] 61 (0, 0))) (h2 : w.heap[B2]? = some (.cells #[.int .i64 s] 3 (0, 0))) (hv : RowAt roC w v l) :
    Calls Try.prog 48 #[.int .i64 (k : Int), .pointer (some ⟨B1, 0, none⟩), .pointer (some ⟨B2, 0, none⟩)] w fun e w' => e = .returned (.bool (decide (s ≤ l[k].2))) ∧ Below w.heap.size w w' := by
  obtain ⟨bk, off, cap', rfl, hcap, hbk, hc⟩ := hv.cells roC_len (by omega)
  obtain ⟨x, hx⟩ : ∃ x, x = l[k].2 := ⟨_, rfl⟩
  have z1 := hc k hk 1 (.int .i64 x) (by decide) (by rw [hx]; rfl)
  have c1 : w.cell? ⟨B1, 0, none⟩ = some (.slice (some ⟨bk, off, none⟩) l.length cap') := by simp [World.cell?, h1]
  have c2 : w.cell? ⟨B2, 0, none⟩ = some (.int .i64 s) := by simp [World.cell?, h2]
  rw [← hx]
  obtain ⟨r, hr⟩ : ∃ r, r = decide (s ≤ x) := ⟨_, rfl⟩
  rw [← hr]
  have t1 : decide (s ≤ x) = r := hr.symm
  clear hr hx hc hv h1 h2
  go_enter Try.func48, Try.ntmps48
  go_wp2
  go_quiet (fail)
  go_wp2
  go_ret
  exact ⟨rfl, below_drewN (Below.refl _ _) _⟩
set_option maxHeartbeats 6400000 in
set_option maxRecDepth 100000 in
theorem search_any {w : World} {B1 B2 : Nat} {v : Value} {l : List (Int × Int)} {s : Int} (hu : UpR l) (hl : l.length < 1152921504606846976) (h1 : w.heap[B1]? = some (.cells #[v] 61 (0, 0))) (h2 : w.heap[B2]? = some (.cells #[.int .i64 s] 3 (0, 0))) (hv : RowAt roC w v l) :
    Calls Try.prog 47 #[.int .i64 (l.length : Int), .func (.func 48) #[] #[.pointer (some ⟨B1, 0, none⟩), .pointer (some ⟨B2, 0, none⟩)]] w (FindP l s w) := by
  have HP : Hid (∀ y, Below w.heap.size w y → ∀ k (hk : k < l.length), Calls Try.prog 48 #[.int .i64 (k : Int), .pointer (some ⟨B1, 0, none⟩), .pointer (some ⟨B2, 0, none⟩)] y fun e w' => e = .returned (.bool (decide (s ≤ l[k].2))) ∧ Below y.heap.size y w') := fun y b k hk =>
    pred_any hk ((b.block _ (lt_of_block h1)).trans h1) ((b.block _ (lt_of_block h2)).trans h2) (hv.fresh b)
  have HU : Hid _ := hu
  clear hu h1 h2 hv
  go_enter Try.func47, Try.ntmps47
  go_wp2
  go_loopw [5, 6] (fun s5 s6 wr => ∃ lo hi : Nat, s5 = .int .i64 (lo : Int) ∧ s6 = .int .i64 (hi : Int) ∧ lo ≤ hi ∧ hi ≤ l.length ∧ Hid (Below w.heap.size w wr) ∧ Hid ((∀ t (h : t < l.length), t < lo → l[t].2 < s) ∧ ∀ t (h : t < l.length), hi ≤ t → s ≤ l[t].2)) (fun s5 s6 _ => (intOf s6).toNat - (intOf s5).toNat)
  case atStart => exact ⟨0, l.length, rfl, rfl, Nat.zero_le _, Nat.le_refl _, Below.refl _ _, (show Hid _ from (⟨fun t h c => absurd c (Nat.not_lt_zero _), fun t h c => by omega⟩ : _ ∧ _))⟩
  case round =>
    obtain ⟨lo, hi, rfl, rfl, hlh, hin, BR, I⟩ := hrel
    by_cases hlt : lo < hi
    · have hltz : (lo : Int) < (hi : Int) := by omega
      obtain ⟨h, hh1, hh2, qh⟩ : ∃ h, lo ≤ h ∧ h < hi ∧ ((lo : Int) + (hi : Int)) / 2 = (h : Int) := ⟨(lo + hi) / 2, by omega, by omega, by omega⟩
      have rh : IntKind.i64.wrap (h : Int) = (h : Int) := by rw [IntKind.wrap_i64]; omega
      have hhl : h < l.length := by omega
      have hLH : Hid (lo < hi ∧ lo ≤ h ∧ h < hi) := ⟨hlt, hh1, hh2⟩
      have HQ : Hid _ := HP.out wr BR.out h hhl
      by_cases hs : s ≤ l[h].2
      · have t1 : decide (s ≤ l[h].2) = true := decide_eq_true hs
        rw [t1] at HQ
        have HS : Hid _ := hs
        clear hs t1
        go_wp2_with (go_at_call 48; refine Calls.mono HQ.out ?_; rintro e w2 ⟨rfl, b2⟩; have B2 : Hid (Below w.heap.size w w2) := bmm BR.out BR.out.size b2; clear b2)
        go_roundw
        case rel =>
          refine ⟨lo, h, rfl, by go_num, hh1, by omega, B2, (show Hid _ from (⟨I.out.1, fun t ht c => ?_⟩ : _ ∧ _))⟩
          have h1 := HS.out
          by_cases c3 : t = h
          · subst c3
            exact h1
          · have hht : h < t := by clear rh qh; omega
            have := upr_lt HU.out (i := h) (j := t) hht ht
            omega
        case measure => simp [intOf]; omega
      · have t1 : decide (s ≤ l[h].2) = false := decide_eq_false hs
        rw [t1] at HQ
        have HS : Hid (l[h].2 < s) := (by omega : l[h].2 < s)
        clear hs t1
        go_wp2_with (go_at_call 48; refine Calls.mono HQ.out ?_; rintro e w2 ⟨rfl, b2⟩; have B2 : Hid (Below w.heap.size w w2) := bmm BR.out BR.out.size b2; clear b2)
        go_roundw
        case rel =>
          refine ⟨h + 1, hi, by go_num, rfl, by omega, hin, B2, (show Hid _ from (⟨fun t ht c => ?_, I.out.2⟩ : _ ∧ _))⟩
          have h1 := HS.out
          by_cases c3 : t = h
          · subst c3
            exact h1
          · have := upr_lt HU.out (i := t) (j := h) (by omega) hhl
            omega
        case measure => simp [intOf]; omega
    · have hltz : ¬ (lo : Int) < (hi : Int) := by omega
      obtain rfl : lo = hi := by omega
      go_wp2
      go_ret
      exact ⟨lo, rfl, ⟨hin, I.out.1, I.out.2⟩, BR.out⟩
set_option maxHeartbeats 3200000 in
set_option maxRecDepth 100000 in
theorem pfind_any {w : World} {v : Value} {l : List (Int × Int)} {s : Int} (hu : UpR l) (hl : l.length < 1152921504606846976) (hv : RowAt roC w v l) : Calls Try.prog 42 #[v, .int .i64 s] w (FindP l s w) := by
  obtain ⟨a, cap, rfl⟩ := hv.form
  obtain ⟨W, hW⟩ : ∃ W, W = (w.alloc (.cells #[.slice a l.length cap] 61)).alloc (.cells #[.int .i64 s] 3) := ⟨_, rfl⟩
  have b1 : Below w.heap.size w W := by rw [hW]; exact ((Below.refl _ w).alloc (Nat.le_refl _) _).alloc (by simp) _
  have h2 := two_blocks w (.cells #[.slice a l.length cap] 61) (.cells #[.int .i64 s] 3)
  have q1 : W.heap[w.heap.size]? = some (.cells #[.slice a l.length cap] 61 (0, 0)) := by rw [hW]; exact h2.1.trans (heap_alloc_new w _)
  have q2 : W.heap[w.heap.size + 1]? = some (.cells #[.int .i64 s] 3 (0, 0)) := by rw [hW]; exact h2.2.trans (heap_alloc_new _ _)
  have HC : Hid _ := search_any hu hl q1 q2 (hv.fresh b1)
  have c1 : W.cell? ⟨w.heap.size, 0, none⟩ = some (.slice a l.length cap) := by simp [World.cell?, q1]
  have HW : Hid ((w.alloc (.cells #[.slice a l.length cap] 61)).alloc (.cells #[.int .i64 s] 3) = W) := hW.symm
  have HB : Hid _ := b1
  clear h2 q1 q2 hW b1 hv hu
  go_enter Try.func42, Try.ntmps42
  go_upto_region 1 with fail
  rw [HW.out]
  go_wp2_with (go_at_call 47; refine Calls.mono HC.out ?_; rintro e w2 ⟨k, rfl, hk, b2⟩)
  go_ret
  exact ⟨k, rfl, hk, bmm HB.out HB.out.size b2⟩
/-- A slot is in a row. -/
theorem found_mem {l : List (Int × Int)} {s : Int} {k : Nat} (hu : l.Pairwise fun a b => a.2 < b.1) (hok : ∀ r ∈ l, r.1 ≤ r.2) (h : FoundR l s k) : s ∈ rowsS l ↔ ∃ hk : k < l.length, l[k].1 ≤ s := by
  unfold rowsS
  rw [List.mem_flatMap]
  have hm : ∀ r : Int × Int, r.1 ≤ r.2 → (s ∈ rowS r ↔ r.1 ≤ s ∧ s ≤ r.2) := fun r hr => by
    unfold rowS
    rw [slotsF_mem]
    omega
  constructor
  · rintro ⟨r, hr, hs⟩
    obtain ⟨t, ht, rfl⟩ := List.getElem_of_mem hr
    rw [hm _ (hok _ hr)] at hs
    have h1 : k ≤ t := by
      rcases Nat.lt_or_ge t k with c | c
      · have := h.below t ht c
        omega
      · exact c
    refine ⟨by omega, ?_⟩
    by_cases c : k = t
    · subst c
      exact hs.1
    · have h2 := List.pairwise_iff_getElem.1 hu k t (by omega) ht (by omega)
      have h3 := hok _ (List.getElem_mem (show k < l.length by omega))
      omega
  · rintro ⟨hk, h1⟩
    exact ⟨l[k], List.getElem_mem hk, (hm _ (hok _ (List.getElem_mem hk))).2 ⟨h1, h.above k hk (Nat.le_refl _)⟩⟩
theorem up_of {l : List (Int × Int)} (hu : l.Pairwise fun a b => a.2 < b.1) (hok : ∀ r ∈ l, r.1 ≤ r.2) : UpR l := by
  refine List.Pairwise.imp_of_mem (fun {a b} _ hb h => ?_) hu
  have := hok b hb
  omega
set_option maxHeartbeats 3200000 in
set_option maxRecDepth 100000 in
theorem phasR_any {w : World} {v : Value} {l : List (Int × Int)} {s : Int} (hu : l.Pairwise fun a b => a.2 < b.1) (hok : ∀ r ∈ l, r.1 ≤ r.2) (hl : l.length < 1152921504606846976) (hv : RowAt roC w v l) : Calls Try.prog 33 #[v, .int .i64 s] w fun e w' => e = .returned (.bool (decide (s ∈ rowsS l))) ∧ Below w.heap.size w w' := by
  have HC : Hid _ := pfind_any (s := s) (up_of hu hok) hl hv
  have HR : Hid (∀ y, Below w.heap.size w y → RowAt roC y v l) := fun y b => hv.fresh b
  have HM : Hid (∀ k, FoundR l s k → (s ∈ rowsS l ↔ ∃ hk : k < l.length, l[k].1 ≤ s)) := fun k h => found_mem hu hok h
  obtain ⟨a, cap, rfl⟩ := hv.form
  clear hu hok hv
  go_enter Try.func33, Try.ntmps33
  go_upto_region 2 with (go_at_call 42; refine Calls.mono HC.out ?_; rintro e w2 ⟨k, rfl, hk, b2⟩)
  have hm := HM.out k hk
  have hr := HR.out w2 b2
  have HB : Hid _ := b2
  clear HR HC b2
  by_cases hkl : k < l.length
  · have t0 : decide ((k : Int) < (l.length : Int)) = true := decide_eq_true (by omega)
    have t0' : (k : Int) < (l.length : Int) := by omega
    obtain ⟨bk, off, cap', hvv, hcap, hbk, hc⟩ := hr.cells roC_len (by omega)
    injection hvv with e1 e2 e3
    subst e1 e3
    clear e2
    obtain ⟨x, hx⟩ : ∃ x, x = l[k].1 := ⟨_, rfl⟩
    have z0 := hc k hkl 0 (.int .i64 x) (by decide) (by rw [hx]; rfl)
    rw [Nat.add_zero] at z0
    have e1 : decide (s ∈ rowsS l) = decide (x ≤ s) := decide_eq_decide.2 (by
      rw [hx]
      exact hm.trans ⟨fun ⟨_, h⟩ => h, fun h => ⟨hkl, h⟩⟩)
    obtain ⟨r, hr2⟩ : ∃ r, r = decide (x ≤ s) := ⟨_, rfl⟩
    rw [← hr2] at e1
    have t1 : decide (x ≤ s) = r := hr2.symm
    have HE : Hid _ := e1
    clear e1 hr2 hx hc hr hm hk
    go_wp2
    go_ret
    exact ⟨congrArg (fun z => Ending.returned (Value.bool z)) HE.out.symm, HB.out⟩
  · have t0 : decide ((k : Int) < (l.length : Int)) = false := decide_eq_false (by omega)
    have t0' : ¬ (k : Int) < (l.length : Int) := by omega
    have HE : Hid (decide (s ∈ rowsS l) = false) := decide_eq_false (fun h => hkl (hm.1 h).1)
    clear hm hk hr
    go_wp2
    go_ret
    exact ⟨congrArg (fun z => Ending.returned (Value.bool z)) HE.out.symm, HB.out⟩
end Go.Proofs.Ytmlgoecdefeapaa
