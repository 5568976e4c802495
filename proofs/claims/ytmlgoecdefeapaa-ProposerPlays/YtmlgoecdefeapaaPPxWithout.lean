/-
  The rows of open slots without one of them. The condition: fewer than 2^29 rows, slots within 2^62.
-/
import Derived.Test.YtmlgoecdefeapaaPPackR
import Derived.Test.YtmlgoecdefeapaaPPxChoR
namespace Go.Proofs.Ytmlgoecdefeapaa
open Go.RowKit

theorem RoPost.below {w w1 w' : World} {base : Nat} {v : Value} {l : List (Int × Int)} {r : Ending} (h : RoPost w1 base v l r w') (b : Below w.heap.size w w1) : RoPost w base v l r w' := by
  obtain ⟨v', e, o, ⟨a1, a2, a3, a4⟩, n, k⟩ := h.ex
  refine ⟨v', e, o, ⟨a1.trans b.os, a2.trans b.tape, a3.trans b.output, Nat.le_trans b.size a4⟩, fun g hg => (n g hg).imp id (fun h2 => Nat.le_trans b.size h2), fun x hx hn => (k x (Nat.lt_of_lt_of_le hx b.size) hn).trans (b.block x hx)⟩
/-- What is put in, in a later world. -/
theorem left_of {w y : World} {base : Nat} {v lv : Value} {l left : List (Int × Int)} (ho : OwnRo w base v l) (h : y.ownsRow w.heap.size 59 2 lv left.length (rowL roC left)) (hn : left = [] → lv = .slice none 0 0) : LeftAt y w.heap.size v lv left :=
  ⟨h, fun b hb e => by
    have h1 := (h.lt b hb).1
    have h2 := (ho.lt b e).2
    omega, hn⟩
theorem found_uniq {l : List (Int × Int)} {s : Int} {k t : Nat} (hu : l.Pairwise fun a b => a.2 < b.1) (ht : t < l.length) (h1 : l[t].1 ≤ s) (h2 : s ≤ l[t].2) (h : FoundR l s k) : k = t := by
  have a1 : ¬ t < k := fun h3 => by have := h.below t ht h3; omega
  have a2 : ¬ k < t := fun h3 => by
    have q1 := h.above k (by omega) (Nat.le_refl _)
    have q2 := List.pairwise_iff_getElem.1 hu k t (by omega) ht h3
    omega
  omega
set_option maxHeartbeats 6400000 in
set_option maxRecDepth 100000 in
theorem pwithout_any {w : World} {base : Nat} {v : Value} {l : List (Int × Int)} {s : Int} (ho : OwnRo w base v l) (hb : base ≤ w.heap.size) (hl : l.length ≤ 536870912) (hu : l.Pairwise fun a b => a.2 < b.1) (hok : ∀ r ∈ l, r.1 ≤ r.2) (hs : s ∈ rowsS l) (hs1 : -4611686018427387904 ≤ s) (hs2 : s ≤ 4611686018427387904) :
    ∃ k, ∃ hk : k < l.length, l[k].1 ≤ s ∧ s ≤ l[k].2 ∧ Calls Try.prog 37 #[v, .int .i64 s] w (RoPost w base v (withoutR l k s)) := by
  obtain ⟨r, hr, r1, r2⟩ := rowsS_mem hok hs
  obtain ⟨t, ht, rfl⟩ := List.mem_iff_getElem.1 hr
  refine ⟨t, ht, r1, r2, ?_⟩
  obtain ⟨i0, hi, hz0, hz1, hz2⟩ := info_parts infoRo
  have HF : Hid (Calls Try.prog 42 #[v, .int .i64 s] w fun e w' => e = .returned (.int .i64 (t : Int)) ∧ Below w.heap.size w w') := (pfind_any (up_of hu hok) (by omega) (OwnRo.row ho)).mono fun e w' h => by
    obtain ⟨k, rfl, hf, b⟩ := h.ex
    rw [found_uniq hu ht r1 r2 hf]
    exact ⟨rfl, b⟩
  obtain ⟨a, ha⟩ : ∃ a, a = l[t].1 := ⟨_, rfl⟩
  obtain ⟨b, hbb⟩ : ∃ b, b = l[t].2 := ⟨_, rfl⟩
  have hcut : cutR (l.getD t (0, 0)) s = (if a < s then [(a, s - 1)] else []) ++ (if s < b then [(s + 1, b)] else []) := by
    have g : l.getD t (0, 0) = l[t] := by simp [List.getD, ht]
    rw [g, ha, hbb]
    rfl
  obtain ⟨M, hM⟩ : ∃ M, M = withoutR l t s := ⟨_, rfl⟩
  obtain ⟨t1, ht1⟩ : ∃ t1 : Nat, (t : Int) + 1 = (t1 : Int) := ⟨t + 1, by omega⟩
  have wt : IntKind.i64.wrap (t1 : Int) = (t1 : Int) := by rw [IntKind.wrap_i64]; omega
  obtain ⟨va, vc, ev⟩ := (OwnRo.row ho).form
  subst ev
  have HR : Hid (∀ y Z lv left, Below w.heap.size w y → w.heap.size ≤ Z → y.ownsRow Z 59 2 lv left.length (rowL roC left) → (left = [] → lv = .slice none 0 0) → left = cutR (l.getD t (0, 0)) s → Calls Try.prog 44 #[.slice va l.length vc, .int .i64 (t : Int), .int .i64 (t1 : Int), lv] y (RoPost w base (.slice va l.length vc) M)) := fun y Z lv left bl hZ hy hn hle => by
    have oy : OwnRo y base (.slice va l.length vc) l := own_keep ho fun g e => bl.block g (ho.lt g e).2
    have hc : left.length ≤ 2 := by rw [hle]; exact cutR_len _ _
    have ht2 : t + 1 = t1 := by omega
    have hL := left_of ho (own_mono hy hZ) hn
    have hq := prepl_any oy (Nat.le_trans hb bl.size) ht ht2 hl hc hL
    have hM2 : M = l.take t ++ (left ++ l.drop (t + 1)) := by rw [hM, hle]; rfl
    rw [hM2]
    exact hq.mono fun e w' h => h.below bl
  have HC : Hid (∀ y, Below w.heap.size w y → ∃ bk off, va = some ⟨bk, off, none⟩ ∧ y.cell? ⟨bk, off + t * 2, none⟩ = some (.int .i64 a) ∧ y.cell? ⟨bk, off + t * 2 + 1, none⟩ = some (.int .i64 b)) := fun y bl => by
    obtain ⟨bk, off, cp, e, _, _, hc⟩ := ((OwnRo.row ho).fresh bl).cells roC_len (by omega)
    simp only [Value.slice.injEq] at e
    have z0 := hc t ht 0 (.int .i64 a) (by decide) (by rw [ha]; rfl)
    have z1 := hc t ht 1 (.int .i64 b) (by decide) (by rw [hbb]; rfl)
    exact ⟨bk, off, e.1, by simpa using z0, z1⟩
  have i1 : (t : Int) < (l.length : Int) := by omega
  have i2 : (0 : Int) ≤ (t : Int) := by omega
  have i3 : ((t : Int)).toNat = t := by omega
  have HCU : Hid _ := hcut
  rw [← hM]
  clear hr r1 r2 hu hok hs hM ha hbb hcut ho
  go_enter Try.func37, Try.ntmps37
  go_upto_region 2 with (go_at_call 42; refine Calls.mono HF.out ?_; rintro e w1 ⟨rfl, b1⟩)
  obtain ⟨bk, off, eva, z0, z1⟩ := HC.out w1 b1
  subst eva
  obtain ⟨W2, hW2⟩ : ∃ W2, W2 = w1.alloc (.cells #[.int .i64 a, .int .i64 b] 59) := ⟨_, rfl⟩
  obtain ⟨O, hO⟩ : ∃ O, O = w1.heap.size := ⟨_, rfl⟩
  obtain ⟨Z, hZ⟩ : ∃ Z, Z = W2.heap.size := ⟨_, rfl⟩
  have k2 : W2.heap[O]? = some (.cells #[.int .i64 a, .int .i64 b] 59 (0, 0)) := by rw [hO, hW2]; exact heap_alloc_new w1 _
  have OC : Hid (∀ y, Below Z W2 y → y.cell? ⟨O, 0, none⟩ = some (.int .i64 a) ∧ y.cell? ⟨O, 1, none⟩ = some (.int .i64 b)) := fun y bl => by
    have h := (bl.block O (by rw [hZ]; exact lt_of_block k2)).trans k2
    exact ⟨by simp [World.cell?, h], by simp [World.cell?, h]⟩
  have BW : Hid (Below w.heap.size w W2) := by show Below _ _ _; rw [hW2]; exact b1.alloc b1.size _
  have HZ : Hid (Z = W2.heap.size) := hZ
  have HZw : Hid (w.heap.size ≤ Z) := by show _ ≤ _; rw [hZ]; exact BW.out.size
  have HW2 : Hid (w1.alloc (.cells #[.int .i64 a, .int .i64 b] 59) = W2) := hW2.symm
  have HO : Hid (w1.heap.size = O) := hO.symm
  obtain ⟨x0, x1⟩ := OC.out W2 (Below.refl _ _)
  clear hW2 hO hZ k2 HF HC b1
  go_upto_region 3 with fail
  rw [HW2.out, HO.out]
  clear z0 z1 HW2 HO
  by_cases hc1 : a < s
  · by_cases hc2 : s < b
    · skip
      have d1 : decide (a < s) = true := decide_eq_true hc1
      have d2 : decide (s < b) = true := decide_eq_true hc2
      have ws1 : IntKind.i64.wrap (s - 1) = s - 1 := by rw [IntKind.wrap_i64]; omega
      have ws2 : IntKind.i64.wrap (s + 1) = s + 1 := by rw [IntKind.wrap_i64]; omega
      go_upto_region 5 with fail
      go_upto_region 6 with (at_builtin; refine wpList_app_row (k := 2) (enc := roC) (l := [(a, s - 1)]) rfl (.tmp 19) (.tmp 25) 61 59 rfl i0 _ 16 Try.underlying61 hi hz0 hz1 hz2 rfl (by decide) roC_len roC_one (base := Z) (n := 0) (xs := []) rfl rfl (World.ownsRow_nil _ _ _ _) (RowAt.built (heap_alloc_new _ _) rfl 1 rfl rfl) (by rw [HZ.out]; simp) (by simp) (by simp) ?_; intro u6 w6 o6 a6; obtain ⟨p6, n6, q6, rfl⟩ := own_form o6; have O6 : Hid (w6.ownsRow Z 59 2 (.slice p6 n6 q6) 1 (rowL roC [(a, s - 1)])) := o6; have B6 : Hid (Below Z W2 w6) := (((Below.refl _ W2).alloc (by rw [HZ.out]; exact Nat.le_refl _) _).trans a6.below); obtain ⟨y0, y1⟩ := OC.out w6 B6.out; clear o6 a6)
      go_upto_region 7 with fail
      go_upto_region 8 with (at_builtin; refine wpList_app_row (k := 2) (enc := roC) (l := [(s + 1, b)]) rfl (.tmp 31) (.tmp 37) 61 59 rfl i0 _ 16 Try.underlying61 hi hz0 hz1 hz2 rfl (by decide) roC_len roC_one (base := Z) (n := 1) (xs := rowL roC [(a, s - 1)]) rfl rfl (own_keep O6.out (fun g e => ((Below.refl _ w6).alloc (Nat.le_refl _) _).block g (O6.out.lt g e).2)) (RowAt.built (heap_alloc_new _ _) rfl 1 rfl rfl) (by have := B6.out.size; have := HZ.out; simp; omega) (by simp) (by simp) ?_; intro u7 w7 o7 a7; obtain ⟨p7, n7, q7, rfl⟩ := own_form o7; have O7 : Hid (w7.ownsRow Z 59 2 (.slice p7 n7 q7) 2 (rowL roC [(a, s - 1), (s + 1, b)])) := o7; have B7 : Hid (Below Z W2 w7) := (B6.out.trans ((((Below.refl _ w6).alloc (by have := B6.out.size; have := HZ.out; omega) _).trans a7.below))); clear o7 a7)
      go_wp2_with (go_at_call 44; refine Calls.mono (HR.out _ Z _ [(a, s - 1), (s + 1, b)] (bmm BW.out BW.out.size (by have := B7.out; rw [HZ.out] at this; exact this)) HZw.out O7.out (fun h => by cases h) (by rw [HCU.out]; simp [hc1, hc2])) ?_; intro r w9 h9; obtain ⟨v9, e9, h9'⟩ := h9.ex; subst e9; obtain ⟨p9, n9, q9, ev9⟩ := own_form h9'.1; subst ev9; have H9 : Hid (RoPost w base (.slice (some ⟨bk, off, none⟩) l.length vc) M (.returned (.slice p9 n9 q9)) w9) := h9; clear h9 h9')
      go_ret
      exact H9.out
    · skip
      have d1 : decide (a < s) = true := decide_eq_true hc1
      have d2 : decide (s < b) = false := decide_eq_false hc2
      have ws1 : IntKind.i64.wrap (s - 1) = s - 1 := by rw [IntKind.wrap_i64]; omega
      have ws2 : IntKind.i64.wrap (s + 1) = s + 1 := by rw [IntKind.wrap_i64]; omega
      go_upto_region 5 with fail
      go_upto_region 6 with (at_builtin; refine wpList_app_row (k := 2) (enc := roC) (l := [(a, s - 1)]) rfl (.tmp 19) (.tmp 25) 61 59 rfl i0 _ 16 Try.underlying61 hi hz0 hz1 hz2 rfl (by decide) roC_len roC_one (base := Z) (n := 0) (xs := []) rfl rfl (World.ownsRow_nil _ _ _ _) (RowAt.built (heap_alloc_new _ _) rfl 1 rfl rfl) (by rw [HZ.out]; simp) (by simp) (by simp) ?_; intro u6 w6 o6 a6; obtain ⟨p6, n6, q6, rfl⟩ := own_form o6; have O6 : Hid (w6.ownsRow Z 59 2 (.slice p6 n6 q6) 1 (rowL roC [(a, s - 1)])) := o6; have B6 : Hid (Below Z W2 w6) := (((Below.refl _ W2).alloc (by rw [HZ.out]; exact Nat.le_refl _) _).trans a6.below); obtain ⟨y0, y1⟩ := OC.out w6 B6.out; clear o6 a6)
      go_upto_region 8 with fail
      go_wp2_with (go_at_call 44; refine Calls.mono (HR.out _ Z _ [(a, s - 1)] (bmm BW.out BW.out.size (by have := B6.out; rw [HZ.out] at this; exact this)) HZw.out O6.out (fun h => by cases h) (by rw [HCU.out]; simp [hc1, hc2])) ?_; intro r w9 h9; obtain ⟨v9, e9, h9'⟩ := h9.ex; subst e9; obtain ⟨p9, n9, q9, ev9⟩ := own_form h9'.1; subst ev9; have H9 : Hid (RoPost w base (.slice (some ⟨bk, off, none⟩) l.length vc) M (.returned (.slice p9 n9 q9)) w9) := h9; clear h9 h9')
      go_ret
      exact H9.out
  · by_cases hc2 : s < b
    · skip
      have d1 : decide (a < s) = false := decide_eq_false hc1
      have d2 : decide (s < b) = true := decide_eq_true hc2
      have ws1 : IntKind.i64.wrap (s - 1) = s - 1 := by rw [IntKind.wrap_i64]; omega
      have ws2 : IntKind.i64.wrap (s + 1) = s + 1 := by rw [IntKind.wrap_i64]; omega
      go_upto_region 6 with fail
      go_upto_region 7 with fail
      go_upto_region 8 with (at_builtin; refine wpList_app_row (k := 2) (enc := roC) (l := [(s + 1, b)]) rfl (.tmp 31) (.tmp 37) 61 59 rfl i0 _ 16 Try.underlying61 hi hz0 hz1 hz2 rfl (by decide) roC_len roC_one (base := Z) (n := 0) (xs := []) rfl rfl (World.ownsRow_nil _ _ _ _) (RowAt.built (heap_alloc_new _ _) rfl 1 rfl rfl) (by rw [HZ.out]; simp) (by simp) (by simp) ?_; intro u7 w7 o7 a7; obtain ⟨p7, n7, q7, rfl⟩ := own_form o7; have O7 : Hid (w7.ownsRow Z 59 2 (.slice p7 n7 q7) 1 (rowL roC [(s + 1, b)])) := o7; have B7 : Hid (Below Z W2 w7) := (((Below.refl _ W2).alloc (by rw [HZ.out]; exact Nat.le_refl _) _).trans a7.below); clear o7 a7)
      go_wp2_with (go_at_call 44; refine Calls.mono (HR.out _ Z _ [(s + 1, b)] (bmm BW.out BW.out.size (by have := B7.out; rw [HZ.out] at this; exact this)) HZw.out O7.out (fun h => by cases h) (by rw [HCU.out]; simp [hc1, hc2])) ?_; intro r w9 h9; obtain ⟨v9, e9, h9'⟩ := h9.ex; subst e9; obtain ⟨p9, n9, q9, ev9⟩ := own_form h9'.1; subst ev9; have H9 : Hid (RoPost w base (.slice (some ⟨bk, off, none⟩) l.length vc) M (.returned (.slice p9 n9 q9)) w9) := h9; clear h9 h9')
      go_ret
      exact H9.out
    · skip
      have d1 : decide (a < s) = false := decide_eq_false hc1
      have d2 : decide (s < b) = false := decide_eq_false hc2
      have ws1 : IntKind.i64.wrap (s - 1) = s - 1 := by rw [IntKind.wrap_i64]; omega
      have ws2 : IntKind.i64.wrap (s + 1) = s + 1 := by rw [IntKind.wrap_i64]; omega
      go_upto_region 6 with fail
      go_upto_region 8 with fail
      go_wp2_with (go_at_call 44; refine Calls.mono (HR.out _ Z _ [] (bmm BW.out BW.out.size (by exact Below.refl _ _)) HZw.out (World.ownsRow_nil _ _ _ _) (fun _ => rfl) (by rw [HCU.out]; simp [hc1, hc2])) ?_; intro r w9 h9; obtain ⟨v9, e9, h9'⟩ := h9.ex; subst e9; obtain ⟨p9, n9, q9, ev9⟩ := own_form h9'.1; subst ev9; have H9 : Hid (RoPost w base (.slice (some ⟨bk, off, none⟩) l.length vc) M (.returned (.slice p9 n9 q9)) w9) := h9; clear h9 h9')
      go_ret
      exact H9.out
end Go.Proofs.Ytmlgoecdefeapaa
