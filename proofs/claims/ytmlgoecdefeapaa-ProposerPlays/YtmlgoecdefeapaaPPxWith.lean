/-
  The rows of open slots with one slot more behind all. The condition: fewer than 2^29 rows.
-/
import Derived.Test.YtmlgoecdefeapaaPPxFind
import Derived.Test.YtmlgoecdefeapaaPGCopy
namespace Go.Proofs.Ytmlgoecdefeapaa
open Go.RowKit

def withR (l : List (Int × Int)) (s : Int) : List (Int × Int) :=
  match l.getLast? with
  | some r => if r.2 = s - 1 then l.dropLast ++ [(r.1, s)] else l ++ [(s, s)]
  | none => [(s, s)]
theorem withR_join {ys : List (Int × Int)} {r : Int × Int} {s : Int} (h : r.2 = s - 1) : withR (ys ++ [r]) s = ys ++ [(r.1, s)] := by
  unfold withR
  rw [List.getLast?_append]
  simp [h]
theorem withR_new {ys : List (Int × Int)} {r : Int × Int} {s : Int} (h : ¬ r.2 = s - 1) : withR (ys ++ [r]) s = (ys ++ [r]) ++ [(s, s)] := by
  unfold withR
  rw [List.getLast?_append]
  simp [h]
/-- What a change of the rows leaves. -/
structure RoPost (w : World) (base : Nat) (v : Value) (l : List (Int × Int)) (r : Ending) (w' : World) : Prop where
  ex : ∃ v', r = .returned v' ∧ OwnRo w' base v' l ∧ (w'.os = w.os ∧ w'.tape = w.tape ∧ w'.output = w.output ∧ w.heap.size ≤ w'.heap.size) ∧ (∀ g, v'.ownBlock = some g → v.ownBlock = some g ∨ w.heap.size ≤ g) ∧ ∀ b, b < w.heap.size → v.ownBlock ≠ some b → w'.heap[b]? = w.heap[b]?
theorem rowL_setro (l : List (Int × Int)) : ∀ (k : Nat) (hk : k < l.length) (s : Int), (rowL roC l).set (k * 2 + 1) (.int .i64 s) = rowL roC (l.set k (l[k].1, s)) := by
  induction l with
  | nil => intro k hk; exact absurd hk (Nat.not_lt_zero _)
  | cons r l ih =>
    intro k hk s
    cases k with
    | zero => rfl
    | succ k =>
      have h := ih k (by simpa using hk) s
      have e1 : rowL roC (r :: l) = .int .i64 r.1 :: .int .i64 r.2 :: rowL roC l := rfl
      have e2 : rowL roC ((r :: l).set (k + 1) ((r :: l)[k + 1].1, s)) = .int .i64 r.1 :: .int .i64 r.2 :: rowL roC (l.set k (l[k]'(by simpa using hk) |>.1, s)) := rfl
      rw [e1, e2, ← h, show (k + 1) * 2 + 1 = (k * 2 + 1) + 1 + 1 by omega, List.set_cons_succ, List.set_cons_succ]
set_option maxHeartbeats 3200000 in
set_option maxRecDepth 100000 in
theorem pwith_any {w : World} {base : Nat} {v : Value} {l : List (Int × Int)} {s : Int} (ho : OwnRo w base v l) (hb : base ≤ w.heap.size) (hl : l.length ≤ 536870912) (hs : -4611686018427387904 ≤ s) (hs2 : s ≤ 4611686018427387904) : Calls Try.prog 34 #[v, .int .i64 s] w (RoPost w base v (withR l s)) := by
  obtain ⟨i0, hi, hz0, hz1, hz2⟩ := info_parts infoRo
  have happ : ∀ {w' : World}, Below w.heap.size w w' → ∀ u w6, w6.ownsRow base 59 2 u (l.length + 1) (rowL roC l ++ rowL roC [(s, s)]) → Appended base w' w6 v u → RoPost w base v (l ++ [(s, s)]) (.returned u) w6 := fun {w'} b u w6 o6 a6 => by
    refine ⟨u, rfl, by rw [OwnRo, rowL_append, List.length_append]; exact o6, ⟨a6.below.os.trans b.os, a6.below.tape.trans b.tape, a6.below.output.trans b.output, Nat.le_trans b.size a6.below.size⟩, fun g hg => ?_, fun x hx hn => ?_⟩
    · rcases a6.lies with h | h
      · exact Or.inl (by rw [← h]; exact hg)
      · rw [h] at hg
        have := Option.some.inj hg
        have := b.size
        exact Or.inr (by omega)
    · rw [a6.rest x (Nat.lt_of_lt_of_le hx b.size) (fun e => hn e.symm), b.block x hx]
  have hk : ∀ y, Below w.heap.size w y → OwnRo y base v l := fun y b => own_keep ho fun g e => b.block g (ho.lt g e).2
  have HK : Hid _ := hk
  have HA : Hid _ := @happ
  have hnew : ∀ w : World, RowAt roC (w.alloc (.cells #[.int .i64 s, .int .i64 s] 59)) (.slice (some ⟨w.heap.size, 0, none⟩) 1 1) [(s, s)] := fun w => RowAt.built (heap_alloc_new w _) (by rfl) 1 rfl rfl
  have HB : Hid (Below w.heap.size w (w.alloc (.cells #[.int .i64 s, .int .i64 s] 59))) := (Below.refl _ w).alloc (Nat.le_refl _) _
  cases hg : l.getLast? with
  | none =>
    have hl0 : l = [] := List.getLast?_eq_none_iff.1 hg
    subst hl0
    obtain ⟨a, cap, rfl⟩ := (OwnRo.row ho).form
    have HE : Hid (withR [] s = [] ++ [(s, s)]) := rfl
    have hlen : ([] : List (Int × Int)).length = 0 := rfl
    rw [hlen] at HK HA ⊢
    clear ho hk happ hg
    go_enter Try.func34, Try.ntmps34
    go_wp2_with (at_builtin; refine wpList_app_row (enc := roC) (l := [(s, s)]) rfl (.tmp 27) (.tmp 31) 61 59 rfl i0 _ 16 Try.underlying61 hi hz0 hz1 hz2 rfl (by decide) roC_len roC_one rfl rfl (HK.out _ HB.out) (hnew _) (by simp; omega) (by simp) (by simp) ?_; intro u6 w6 o6 a6)
    go_ret
    exact HA.out HB.out _ w6 o6 a6
  | some r =>
    obtain ⟨ys, rfl⟩ := List.getLast?_eq_some_iff.1 hg
    obtain ⟨a, cap, hform⟩ := (OwnRo.row ho).form
    have hlen : (ys ++ [r]).length = ys.length + 1 := by simp
    rw [hlen] at hform
    obtain ⟨g, off, cap', hvv, hcap, hbk, hc⟩ := (OwnRo.row ho).cells roC_len (by rw [hlen]; omega)
    have hoff : off = 0 := by
      rcases ho.2 with ⟨e1, _⟩ | ⟨g', cap, cur, e1, _⟩
      · rw [hvv] at e1
        simp at e1
      · rw [hvv] at e1
        injection e1 with e2 _ _
        injection e2 with e2
        injection e2 with _ e2 _
    subst hoff
    rw [hvv, hlen] at hform
    injection hform with e1 _ e3
    subst e1 e3
    rw [hlen] at hvv
    have e4 : (ys ++ [r])[ys.length]'(by simp) = r := by simp
    have z1 := hc ys.length (by simp) 1 (.int .i64 r.2) (by decide) (by rw [e4]; rfl)
    rw [Nat.zero_add] at z1
    subst hvv
    have t0 : ((ys.length : Int) + 1 - 1) = (ys.length : Int) := by omega
    have t1 : decide ((0 : Int) ≤ (ys.length : Int)) = true := decide_eq_true (by omega)
    have hly : ys.length ≤ 536870912 := by rw [hlen] at hl; omega
    have t6 : wrap64 (ys.length : Int) = (ys.length : Int) := by unfold wrap64; omega
    by_cases hs1 : r.2 = s - 1
    · have t2 : (r.2 == s - 1) = true := by simpa using hs1
      have HE : Hid (withR (ys ++ [r]) s = ys ++ [(r.1, s)]) := withR_join hs1
      have hz : w.frozen? ⟨g, ys.length * 2 + 1, none⟩ = false := by
        rcases ho.2 with ⟨e1, _⟩ | ⟨g', cap, cur, e1, _, hbl, _⟩
        · simp at e1
        · injection e1 with e2 _ _
          injection e2 with e2
          injection e2 with e2 _ _
          subst e2
          simp [World.frozen?, hbl]
      have ho2 : OwnRo (w.setCell ⟨g, ys.length * 2 + 1, none⟩ (.int .i64 s)) base (.slice (some ⟨g, 0, none⟩) (ys.length + 1) cap') (ys ++ [(r.1, s)]) := by
        have h1 := own_cell (show w.ownsRow base 59 2 (.slice (some ⟨g, 0, none⟩) (ys.length + 1) cap') (ys.length + 1) (rowL roC (ys ++ [r])) from by rw [← hlen]; rw [← hlen] at ho; exact ho) (ys.length * 2 + 1) (.int .i64 s)
        rw [rowL_setro (ys ++ [r]) ys.length (by simp) s, e4, List.set_append_right _ _ (Nat.le_refl _), Nat.sub_self] at h1
        have h2 : (ys ++ [(r.1, s)]).length = ys.length + 1 := by simp
        rw [OwnRo, h2]
        exact h1
      have HO2 : Hid (RoPost w base (.slice (some ⟨g, 0, none⟩) (ys.length + 1) cap') (ys ++ [(r.1, s)]) (.returned (.slice (some ⟨g, 0, none⟩) (ys.length + 1) cap')) (w.setCell ⟨g, ys.length * 2 + 1, none⟩ (.int .i64 s))) :=
        ⟨_, rfl, ho2, ⟨rfl, rfl, rfl, by simp⟩, fun _ h => Or.inl h, fun b _ hn => heap_setCell_other _ _ _ _ (fun e => hn (by rw [e]; rfl))⟩
      rw [HE.out]
      clear ho ho2 hk happ hg hc HK HA hnew HB hs1 e4 hlen
      go_enter Try.func34, Try.ntmps34
      go_wp2
      go_ret
      exact HO2.out
    · have t2 : (r.2 == s - 1) = false := by simpa using hs1
      have HE : Hid (withR (ys ++ [r]) s = (ys ++ [r]) ++ [(s, s)]) := withR_new hs1
      rw [HE.out]
      have hl2 : ys.length + 1 ≤ 536870912 := by rw [← hlen]; exact hl
      have HLN : Hid ((ys ++ [r]).length = ys.length + 1) := hlen
      clear ho hk happ hg hc hs1 e4 hlen hl
      go_enter Try.func34, Try.ntmps34
      go_wp2_with (at_builtin; refine wpList_app_row (enc := roC) (l := [(s, s)]) (n := (ys ++ [r]).length) rfl (.tmp 27) (.tmp 31) 61 59 rfl i0 _ 16 Try.underlying61 hi hz0 hz1 hz2 rfl (by decide) roC_len roC_one rfl rfl (HK.out _ HB.out) (hnew _) (by simp; omega) (by have := HLN.out; simp; omega) (by have := HLN.out; simp; omega) ?_; intro u6 w6 o6 a6)
      go_ret
      have hq := HA.out HB.out _ w6 o6 a6
      rw [List.append_assoc] at hq
      exact hq
end Go.Proofs.Ytmlgoecdefeapaa
