/-
  SchedOnce of layer 10, walked: tasks that all run a once with one operation within: whatever picks, it is done once, and all come to their ends. The condition: each pick is an int's.
-/
import Derived.Lib.MinMax
import Derived.Test.YthhlglbohibekaaWPackK
import Derived.Test.YthhlglbohibekaaWPackN
namespace Go.Proofs.Ythhlglbohibekaa
open Go.RowKit

theorem onTs_ok {m : Nat} (hm : m ≤ 8) : (List.replicate m onOps).length ≤ 65536 ∧ (∀ o ∈ List.replicate m onOps, o.length ≤ 65536) ∧ opsOk (List.replicate m onOps) := by
  refine ⟨by rw [List.length_replicate]; omega, fun o ho => ?_, fun o ho x hx => ?_⟩
  · rw [(List.mem_replicate.1 ho).2]
    decide
  · rw [(List.mem_replicate.1 ho).2] at hx
    simp only [onOps, List.mem_cons, List.not_mem_nil, or_false] at hx
    unfold okI
    rcases hx with rfl | rfl | rfl <;> simp
theorem countP_take {l : List Opx} {k : Nat} (hk : k < l.length) : ((l.take (k + 1)).countP fun e => e.2.1 == 1) = ((l.take k).countP fun e => e.2.1 == 1) + (if l[k].2.1 = 1 then 1 else 0) := by
  rw [List.take_succ_eq_append_getElem hk, List.countP_append, List.countP_cons, List.countP_nil]
  simp
section
variable {w : World} {vp : Value} {picks : List Int}
set_option maxHeartbeats 12800000 in
set_option maxRecDepth 100000 in
theorem sonce_walk (n : Int) (hp : RowAt intC w vp picks) (hpo : ∀ x ∈ picks, okI x) : Calls Try.prog 6 #[.int .i64 n, vp] w fun e w' => e = .returned (.bool true) ∧ Below w.heap.size w w' := by
  obtain ⟨i1, hi1, hz10, hz11, hz12⟩ := info_parts infoS1
  obtain ⟨ap, cp, rfl⟩ := hp.form
  have HP : Hid (RowAt intC w (.slice ap picks.length cp) picks) := hp
  have HPO : Hid (∀ x ∈ picks, okI x) := hpo
  clear hp hpo
  obtain ⟨m, hm, hm1, hm8⟩ : ∃ m : Nat, max 1 (min n 8) = (m : Int) ∧ 1 ≤ m ∧ m ≤ 8 := ⟨(max 1 (min n 8)).toNat, by omega, by omega, by omega⟩
  go_enter Try.func6, Try.ntmps6
  go_wp2
  go_loopw [5, 6] (fun v i wr => ∃ (k : Nat) (bs : List (Nat × Nat × Nat)), k ≤ m ∧ i = .int .i64 k ∧ Hid (OTs wr w.heap.size v bs (List.replicate k onOps)) ∧ Below w.heap.size w wr) (fun _ i _ => m - (RowKit.intOf i).toNat)
  case atStart => exact ⟨0, _, Nat.zero_le _, rfl, OTs.nil w _, Below.refl _ _⟩
  case round =>
    obtain ⟨k, bs, hk, rfl, HO', bel⟩ := hrel
    have HO'' := HO'
    obtain ⟨pv, cv, rfl⟩ := HO'.out.form
    have eL : (List.replicate k onOps).length = k := List.length_replicate
    rw [eL] at HO''
    have HO : Hid (OTs wr w.heap.size (.slice pv k cv) bs (List.replicate k onOps)) := HO''
    clear HO' HO''
    rw [eL]
    have hbs := bel.size
    by_cases hkm : k < m
    · have q0 : decide ((k : Int) < (m : Int)) = true := decide_eq_true (by omega)
      have OWA : Hid (∀ o1 o2, ((wr.alloc o1).alloc o2).ownsRow w.heap.size SoT 1 (.slice pv k cv) k (rowL slC bs)) := fun o1 o2 => by
        have := (HO.out.own.alloc o1).alloc o2
        rw [eL] at this
        exact this
      have HFIN : Hid (∀ (o2 : Obj) (u : Value) (w5 : World), w5.ownsRow w.heap.size SoT 1 u (k + 1) (rowL slC bs ++ rowL slC [(wr.heap.size, 3, 3)]) → Appended w.heap.size ((wr.alloc (.cells #[.int .i64 7, .int .i64 1, .int .i64 0, .int .i64 5, .int .i64 5, .int .i64 1, .int .i64 8, .int .i64 1, .int .i64 0] OpT)).alloc o2) w5 (.slice pv k cv) u → OTs w5 w.heap.size u (bs ++ [(wr.heap.size, 3, 3)]) (List.replicate (k + 1) onOps) ∧ Below w.heap.size w w5) := fun o2 u w5 h5 a5 => by
        have b0 : Below wr.heap.size wr ((wr.alloc (.cells #[.int .i64 7, .int .i64 1, .int .i64 0, .int .i64 5, .int .i64 5, .int .i64 1, .int .i64 8, .int .i64 1, .int .i64 0] OpT)).alloc o2) := ((Below.refl _ wr).alloc (Nat.le_refl _) _).alloc (by simp) o2
        rw [List.replicate_succ']
        exact ⟨(HO.out.fresh b0).add ((OwnOps.new wr onOps _ rfl 3 rfl).fresh ((Below.refl _ _).alloc (Nat.le_refl _) o2)) (by rw [eL]; exact h5) a5, (bmm bel bel.size b0).trans a5.below⟩
      clear eL
      go_wp2_with (at_builtin; refine wpList_app_row (l := [(wr.heap.size, 3, 3)]) (enc := slC) (k := 1) rfl (.tmp 19) (.tmp 24) 22 SoT rfl i1 _ 24 Try.underlying22 hi1 hz10 hz11 hz12 rfl (by decide) slC_len slC_one rfl rfl (OWA.out _ _) (RowAt.built (alloc2_new wr _ _ _) rfl 1 rfl rfl) (by simp; omega) (by simp; omega) (by simp; omega) ?_; intro u5 w5 h5 a5; have H5 : Hid _ := h5; have A5 : Hid _ := a5; obtain ⟨p5, c5, rfl⟩ := own_formN h5; clear h5 a5)
      obtain ⟨g1, g2⟩ := HFIN.out _ _ w5 H5.out A5.out
      go_roundw
      case rel => exact ⟨k + 1, _, hkm, by go_num, g1, g2⟩
      case measure => simp [RowKit.intOf]; omega
    · have q0 : decide ((k : Int) < (m : Int)) = false := decide_eq_false (by omega)
      obtain rfl : k = m := by omega
      by_cases hpl : picks.length ≤ 1000
      case neg =>
        have q1 : decide ((1000 : Int) < (picks.length : Int)) = true := decide_eq_true (by omega)
        clear eL hpl
        go_wp2_with (go_at_call 10; refine (awake10_any _).mono ?_; rintro e w9 ⟨rfl, b9⟩)
        go_ret
        exact ⟨rfl, bmm bel bel.size b9⟩
      case pos =>
        have q1 : decide ((1000 : Int) < (picks.length : Int)) = false := decide_eq_false (by omega)
        obtain ⟨s1, s2, s3⟩ := onTs_ok hm8
        have hx := ps_run HO.out.tasks s1 s2 s3 (HP.out.fresh bel) HPO.out (by omega)
        obtain ⟨g1, g2, g3⟩ := OI.run picks (k + 2) 10000 0 1 _ _ (OI.start k (by omega)) (by omega)
        have hlen := runR_len picks 10000 0 ((List.replicate k onOps).map tkNew) []
        generalize runR picks 10000 0 ((List.replicate k onOps).map tkNew) [] = r at *
        obtain ⟨evs, T2, L2⟩ := r
        simp only at hx g1 g2 g3 hlen
        rw [g3] at hx
        have G1 : Hid _ := g1
        have G2 : Hid _ := g2
        clear g1 g2 g3 s1 s2 s3 eL
        go_wp2_with (go_at_call 22; refine hx.mono ?_; rintro e w2 ⟨u, rfl, r2, b2⟩; obtain ⟨au, cu, rfl⟩ := r2.form; have R2 : Hid _ := r2; clear r2)
        go_loopw [9, 10] (fun ad i w4 => ∃ kk : Nat, kk ≤ evs.length ∧ ad = .int .i64 ((evs.take kk).countP fun e => e.2.1 == 1 : Nat) ∧ i = .int .i64 kk ∧ Below w2.heap.size w2 w4) (fun _ i _ => evs.length - (RowKit.intOf i).toNat)
        case atStart => exact ⟨0, Nat.zero_le _, rfl, rfl, Below.refl _ _⟩
        case round =>
          obtain ⟨kk, hkk, rfl, rfl, bel4⟩ := hrel
          by_cases hkl : kk < evs.length
          · have q2 : decide ((kk : Int) < (evs.length : Int)) = true := decide_eq_true (by omega)
            obtain ⟨be, oe, ce, ee, _, hbe, hxe⟩ := (R2.out.fresh bel4).cells opC_len (by omega)
            simp only [Value.slice.injEq] at ee
            obtain ⟨rfl, _, rfl⟩ := ee
            have x1 := hxe kk hkl 1 _ (by decide) rfl
            have x2 := hxe kk hkl 2 _ (by decide) rfl
            have hz := G1.out evs[kk] (List.getElem_mem hkl)
            have HCT : Hid _ := countP_take hkl
            have hcl : (evs.take kk).countP (fun e => e.2.1 == 1) ≤ 10000 := Nat.le_trans List.countP_le_length (by rw [List.length_take]; omega)
            rw [hz] at x2
            clear hxe hz
            generalize (evs.take kk).countP (fun e => e.2.1 == 1) = cc at *
            by_cases ha : evs[kk].2.1 = 1
            · rw [ha] at x1
              have HC2 : Hid ((evs.take (kk + 1)).countP (fun e => e.2.1 == 1) = cc + 1) := by
                have := HCT.out
                rw [if_pos ha] at this
                exact this
              clear ha HCT
              go_wp2
              go_roundw
              case rel => exact ⟨kk + 1, hkl, by rw [HC2.out]; go_num, by go_num, bel4⟩
              case measure => simp [RowKit.intOf]; omega
            · have HC2 : Hid ((evs.take (kk + 1)).countP (fun e => e.2.1 == 1) = cc) := by
                have := HCT.out
                rw [if_neg ha] at this
                exact this
              have q3 : (evs[kk].2.1 == 1) = false := beq_eq_false_iff_ne.2 ha
              clear ha HCT
              generalize evs[kk].2.1 = a1 at *
              go_wp2
              go_roundw
              case rel => exact ⟨kk + 1, hkl, by rw [HC2.out], by go_num, bel4⟩
              case measure => simp [RowKit.intOf]; omega
          · have q2 : decide ((kk : Int) < (evs.length : Int)) = false := decide_eq_false (by omega)
            have hct : (evs.take kk).countP (fun e => e.2.1 == 1) = 1 := by rw [List.take_of_length_le (by omega)]; exact G2.out
            rw [hct]
            clear hct
            go_wp2_with (go_at_call 10; refine (awake10_any _).mono ?_; rintro e w9 ⟨rfl, b9⟩)
            go_ret
            have f1 := bmm bel bel.size b2
            have f2 := bmm f1 f1.size bel4
            exact ⟨rfl, bmm f2 f2.size b9⟩
end
end Go.Proofs.Ythhlglbohibekaa
