/-
  Package clocks: scripts. The condition: the steps lie in memory as their reading says.
-/
import Derived.Test.YtcecgphjaofgbaaCkCC
import Derived.Deep.LoopGhost
import Derived.WalkMore
namespace Go.Proofs.Ytcecgphjaofgbaa
open Go.RowKit

set_option maxHeartbeats 6400000 in
set_option maxRecDepth 100000 in
theorem pscript_pos (w : World) (v : Value) (l : List Stp) (n : Int) (hn : 0 ≤ n) (hv : StepsAt w v l) :
    Calls Try.prog 18 #[v, .int .i64 n] w fun e w' => e = .returned (.tuple #[.int .i64 (scriptP l n : Int), .int .i64 (scriptZ l n)]) ∧ Below w.heap.size w w' := by
  obtain ⟨a, cap, rfl, hx⟩ := hv.ex
  have hmx : l.length ≤ 9223372036854775807 := hv.mx
  have HX : Hid (l.length = 0 ∨ ∃ bk off, a = some ⟨bk, off, none⟩ ∧ bk < w.heap.size ∧ ∀ j (hj : j < l.length), StepAt w bk (off + j * 9) l[j]) := hx
  clear hv hx
  go_enter Try.func18, Try.ntmps18
  go_wp2
  go_step3
  go_wp2
  go_step3
  go_wp2
  go_loopg [6, 7, 8, 13] l.length (fun g _ _ _ i wr => ∃ k : Nat, k + g = l.length ∧ i = .int .i64 k ∧ Hid (∀ j (hj : j < l.length), j < k → stepB n l[j] = true) ∧ Below w.heap.size w wr)
  case atStart => exact ⟨0, by omega, rfl, fun j hj h0 => by omega, Below.refl _ _⟩
  case round =>
    obtain ⟨k, hk, rfl, HP, bel⟩ := hrel
    cases gk with
    | zero =>
      have hke : k = l.length := by omega
      subst hke
      obtain ⟨e1, e2⟩ := script_none (fun j hj => HP.out j hj hj)
      have HE1 : Hid (scriptP l n = 0) := e1
      have HE2 : Hid (scriptZ l n = 0) := e2
      clear e1 e2 HP hk
      go_wp2
      try rw [Exit.noGoto_ret]
      go_ret2
      exact ⟨by rw [HE1.out, HE2.out]; rfl, bel⟩
    | succ go =>
      have hkl : k < l.length := by omega
      rcases HX.out with h0 | ⟨bk, off, rfl, hbk, hxx⟩
      · omega
      have hst := (hxx k hkl).fresh hbk bel
      obtain ⟨⟨K, N, cs⟩, hle⟩ : ∃ x, x = l[k] := ⟨_, rfl⟩
      rw [← hle] at hst
      have HLE : Hid (l[k] = (K, N, cs)) := hle.symm
      have HKG : Hid (k + (go + 1) = l.length) := hk
      clear hle hxx hk
      obtain ⟨cv, z8, hci⟩ := hst.c8
      have z0 : wr.cell? ⟨bk, off + k * 9, none⟩ = some (.int .i64 K) := hst.c0
      have z1 : wr.cell? ⟨bk, off + k * 9 + 1, none⟩ = some (.int .i64 N) := hst.c1
      obtain ⟨x2, x3, x4, x5, x6, x7, z2, z3, z4, z5, z6, z7⟩ := hst.cx
      obtain ⟨ca, cc, rfl, hcc, hcx⟩ := hci.ex
      have hcm : cs.length ≤ 9223372036854775807 := hci.mx
      simp only at z8 hcc hcx
      have HCX : Hid _ := hcx
      clear hst hci hcx
      by_cases hK : K = 5
      · subst hK
        have hbk2 : bk < wr.heap.size := Nat.lt_of_lt_of_le hbk bel.size
        obtain ⟨w1, hw1⟩ : ∃ w1, w1 = wr.alloc (.cells #[.int .i64 5, .int .i64 N, .int .i64 x2, .int .i64 x3, .int .i64 x4, .int .i64 x5, .string x6, .int .i64 x7, .slice ca cs.length cc] 61) := ⟨_, rfl⟩
        have bl1 : Below wr.heap.size wr w1 := by rw [hw1]; exact (Below.refl _ wr).alloc (Nat.le_refl _) _
        have hB : w1.heap[wr.heap.size]? = some (.cells #[.int .i64 5, .int .i64 N, .int .i64 x2, .int .i64 x3, .int .i64 x4, .int .i64 x5, .string x6, .int .i64 x7, .slice ca cs.length cc] 61 (0, 0)) := by rw [hw1]; exact heap_alloc_new wr _
        have hw1s := lt_of_block hB
        have v1 : w1.cell? ⟨wr.heap.size, 1, none⟩ = some (.int .i64 N) := by simp [World.cell?, hB]
        have v8 : w1.cell? ⟨wr.heap.size, 8, none⟩ = some (.slice ca cs.length cc) := by simp [World.cell?, hB]
        have HW1 : Hid _ := hw1
        have HV1 : Hid _ := v1
        have HV8 : Hid _ := v8
        clear hw1 hB v1 v8
        by_cases hL : (cs.length : Int) = n
        · have HL : Hid _ := hL
          have qL : ((cs.length : Int) == n) = true := by rw [beq_iff_eq]; exact hL
          clear hL
          go_wp2
          rw [← HW1.out]
          obtain ⟨B, hBe⟩ : ∃ B, B = wr.heap.size := ⟨_, rfl⟩
          rw [← hBe] at HV1 HV8 hw1s ⊢
          clear hBe
          go_loopg [8] cs.length (fun g i wi => ∃ m : Nat, m + g = cs.length ∧ i = .int .i64 m ∧ Hid (∀ j (hj : j < cs.length), j < m → boundB N cs[j] = true) ∧ Below w1.heap.size w1 wi)
          case atStart => exact ⟨0, by omega, rfl, fun j hj h0 => by omega, Below.refl _ _⟩
          case round =>
            obtain ⟨m, hm, rfl, HB, bel2⟩ := hrel
            have y1 := (bel2.cell (p := ⟨B, 1, none⟩) (by exact hw1s)).trans HV1.out
            have y8 := (bel2.cell (p := ⟨B, 8, none⟩) (by exact hw1s)).trans HV8.out
            have HM : Hid _ := hm
            cases gk with
            | zero =>
              have hme : m = cs.length := by omega
              subst hme
              have HP2 : Hid (∀ j (hj : j < l.length), j < k + 1 → stepB n l[j] = true) := fun j hj h0 => by
                by_cases e : j = k
                · subst e
                  rw [HLE.out]
                  unfold stepB
                  have h5 : cs.all (boundB N) = true := by
                    rw [List.all_eq_true]
                    intro x hx
                    obtain ⟨i, hi, rfl⟩ := List.getElem_of_mem hx
                    exact HB.out i hi hi
                  simp only [h5, qL, Bool.and_true, Bool.or_true]
                · exact HP.out j hj (by omega)
              clear HP HB hm HCX HLE
              go_wp2
              go_roundg go
              case rel => exact ⟨k + 1, by have := HKG.out; omega, by go_num, HP2, bmm bel bel.size (bmm bl1 bl1.size bel2)⟩
              case measure => omega
            | succ g2 =>
              have hml : m < cs.length := by omega
              have qm : ((m : Int) == n) = false := by
                have := HL.out
                rw [beq_eq_false_iff_ne]
                omega
              rcases HCX.out with h0 | ⟨cb, co, rfl, hcb, hcv⟩
              · omega
              have y2 := (bel2.cell (p := ⟨cb, co + m, none⟩) (by show cb < w1.heap.size; exact Nat.lt_of_lt_of_le hcb bl1.size)).trans ((bl1.cell (p := ⟨cb, co + m, none⟩) (by exact hcb)).trans (hcv m hml))
              clear hcv hm
              cases hob : boundB N cs[m] with
              | true =>
                have HB2 : Hid (∀ j (hj : j < cs.length), j < m + 1 → boundB N cs[j] = true) := fun j hj h0 => by
                  by_cases e : j = m
                  · subst e
                    exact hob
                  · exact HB.out j hj (by omega)
                clear HB
                go_wp2
                refine wp_region_held_drew (S := (fun w' : World => w'.cell? ⟨B, 1, none⟩ = some (.int .i64 N) ∧ w'.cell? ⟨B, 8, none⟩ = some (.slice (some ⟨cb, co, none⟩) cs.length cc) ∧ w'.cell? ⟨cb, co + m, none⟩ = some (.int .i64 cs[m]))) (by kernel_rfl) ?_ (fun hHeld0 => ?_)
                · try dsimp only
                  go_keep
                refine tk0 (.pointer (some ⟨B, 1, none⟩)) (by kernel_rfl) (by kernel_rfl) (by kernel_rfl) (fun _ _ _ h => h) rfl (fun w hSw => by (try dsimp only at hSw); obtain ⟨q0, q1, q2⟩ := hSw; go_simp) (by assumption) ?_
                try simp only [Act.put, List.setIfInBounds_toArray, List.set_cons_zero, List.set_cons_succ]
                refine tk1 (.int .i64 N) (by kernel_rfl) (by kernel_rfl) (by kernel_rfl) (fun _ _ _ h => h) rfl (fun w hSw => by (try dsimp only at hSw); obtain ⟨q0, q1, q2⟩ := hSw; go_simp) (by assumption) ?_
                try simp only [Act.put, List.setIfInBounds_toArray, List.set_cons_zero, List.set_cons_succ]
                refine tk2 (.pointer (some ⟨B, 8, none⟩)) (by kernel_rfl) (by kernel_rfl) (by kernel_rfl) (fun _ _ _ h => h) rfl (fun w hSw => by (try dsimp only at hSw); obtain ⟨q0, q1, q2⟩ := hSw; go_simp) (by assumption) ?_
                try simp only [Act.put, List.setIfInBounds_toArray, List.set_cons_zero, List.set_cons_succ]
                refine tk3 (.slice (some ⟨cb, co, none⟩) cs.length cc) (by kernel_rfl) (by kernel_rfl) (by kernel_rfl) (fun _ _ _ h => h) rfl (fun w hSw => by (try dsimp only at hSw); obtain ⟨q0, q1, q2⟩ := hSw; go_simp) (by assumption) ?_
                try simp only [Act.put, List.setIfInBounds_toArray, List.set_cons_zero, List.set_cons_succ]
                refine tk4 (.int .i64 (m : Int)) (by kernel_rfl) (by kernel_rfl) (by kernel_rfl) (fun _ _ _ h => h) rfl (fun w hSw => by (try dsimp only at hSw); obtain ⟨q0, q1, q2⟩ := hSw; go_simp) (by assumption) ?_
                try simp only [Act.put, List.setIfInBounds_toArray, List.set_cons_zero, List.set_cons_succ]
                refine tk5 (.pointer (some ⟨cb, co + m, none⟩)) (by kernel_rfl) (by kernel_rfl) (by kernel_rfl) (fun _ _ _ h => h) rfl (fun w hSw => by (try dsimp only at hSw); obtain ⟨q0, q1, q2⟩ := hSw; go_simp) (by assumption) ?_
                try simp only [Act.put, List.setIfInBounds_toArray, List.set_cons_zero, List.set_cons_succ]
                refine tk6 (.int .i64 cs[m]) (by kernel_rfl) (by kernel_rfl) (by kernel_rfl) (fun _ _ _ h => h) rfl (fun w hSw => by (try dsimp only at hSw); obtain ⟨q0, q1, q2⟩ := hSw; go_simp) (by assumption) ?_
                try simp only [Act.put, List.setIfInBounds_toArray, List.set_cons_zero, List.set_cons_succ]
                refine cl7 (by kernel_rfl) rfl (fun K hK => ?_)
                go_simp
                go_at_call 20
                refine (pbounded_any N cs[m] _).mono ?_
                rw [hob]
                rintro e w5 ⟨rfl, rfl⟩
                refine hK.out _ _ ?_ (fun hHeld => ?_)
                · try dsimp only
                  go_keep
                clear hK K
                try simp only [Act.put, List.setIfInBounds_toArray, List.set_cons_zero, List.set_cons_succ]
                refine tk8 (.bool false) (by kernel_rfl) (by kernel_rfl) (by kernel_rfl) (fun _ _ _ h => h) rfl (fun w hSw => by (try dsimp only at hSw); obtain ⟨q0, q1, q2⟩ := hSw; go_simp) (by assumption) ?_
                try simp only [Act.put, List.setIfInBounds_toArray, List.set_cons_zero, List.set_cons_succ]
                refine wpAnyH_done (by kernel_rfl) ?_ _
                go_wp2
                go_roundg g2
                case rel => exact ⟨m + 1, by have := HM.out; omega, by go_num, HB2, bmm bel2 bel2.size (undrew (Below.refl _ wr.drew))⟩
                case measure => omega

              | false =>
                obtain ⟨e1, e2⟩ := script_at (n := n) hkl (by
                  rw [HLE.out]
                  unfold stepB
                  have h5 : cs.all (boundB N) = false := by
                    rw [List.all_eq_false]
                    exact ⟨cs[m], List.getElem_mem hml, by rw [hob]; simp⟩
                  simp only [h5, Bool.and_false, Bool.or_false]
                  decide) HP.out
                have HE1 : Hid (scriptP l n = k) := e1
                have HE2 : Hid (scriptZ l n = 19) := e2
                clear HB e1 e2 HP HLE
                go_wp2
                refine wp_region_held_drew (S := (fun w' : World => w'.cell? ⟨B, 1, none⟩ = some (.int .i64 N) ∧ w'.cell? ⟨B, 8, none⟩ = some (.slice (some ⟨cb, co, none⟩) cs.length cc) ∧ w'.cell? ⟨cb, co + m, none⟩ = some (.int .i64 cs[m]))) (by kernel_rfl) ?_ (fun hHeld0 => ?_)
                · try dsimp only
                  go_keep
                refine tk0 (.pointer (some ⟨B, 1, none⟩)) (by kernel_rfl) (by kernel_rfl) (by kernel_rfl) (fun _ _ _ h => h) rfl (fun w hSw => by (try dsimp only at hSw); obtain ⟨q0, q1, q2⟩ := hSw; go_simp) (by assumption) ?_
                try simp only [Act.put, List.setIfInBounds_toArray, List.set_cons_zero, List.set_cons_succ]
                refine tk1 (.int .i64 N) (by kernel_rfl) (by kernel_rfl) (by kernel_rfl) (fun _ _ _ h => h) rfl (fun w hSw => by (try dsimp only at hSw); obtain ⟨q0, q1, q2⟩ := hSw; go_simp) (by assumption) ?_
                try simp only [Act.put, List.setIfInBounds_toArray, List.set_cons_zero, List.set_cons_succ]
                refine tk2 (.pointer (some ⟨B, 8, none⟩)) (by kernel_rfl) (by kernel_rfl) (by kernel_rfl) (fun _ _ _ h => h) rfl (fun w hSw => by (try dsimp only at hSw); obtain ⟨q0, q1, q2⟩ := hSw; go_simp) (by assumption) ?_
                try simp only [Act.put, List.setIfInBounds_toArray, List.set_cons_zero, List.set_cons_succ]
                refine tk3 (.slice (some ⟨cb, co, none⟩) cs.length cc) (by kernel_rfl) (by kernel_rfl) (by kernel_rfl) (fun _ _ _ h => h) rfl (fun w hSw => by (try dsimp only at hSw); obtain ⟨q0, q1, q2⟩ := hSw; go_simp) (by assumption) ?_
                try simp only [Act.put, List.setIfInBounds_toArray, List.set_cons_zero, List.set_cons_succ]
                refine tk4 (.int .i64 (m : Int)) (by kernel_rfl) (by kernel_rfl) (by kernel_rfl) (fun _ _ _ h => h) rfl (fun w hSw => by (try dsimp only at hSw); obtain ⟨q0, q1, q2⟩ := hSw; go_simp) (by assumption) ?_
                try simp only [Act.put, List.setIfInBounds_toArray, List.set_cons_zero, List.set_cons_succ]
                refine tk5 (.pointer (some ⟨cb, co + m, none⟩)) (by kernel_rfl) (by kernel_rfl) (by kernel_rfl) (fun _ _ _ h => h) rfl (fun w hSw => by (try dsimp only at hSw); obtain ⟨q0, q1, q2⟩ := hSw; go_simp) (by assumption) ?_
                try simp only [Act.put, List.setIfInBounds_toArray, List.set_cons_zero, List.set_cons_succ]
                refine tk6 (.int .i64 cs[m]) (by kernel_rfl) (by kernel_rfl) (by kernel_rfl) (fun _ _ _ h => h) rfl (fun w hSw => by (try dsimp only at hSw); obtain ⟨q0, q1, q2⟩ := hSw; go_simp) (by assumption) ?_
                try simp only [Act.put, List.setIfInBounds_toArray, List.set_cons_zero, List.set_cons_succ]
                refine cl7 (by kernel_rfl) rfl (fun K hK => ?_)
                go_simp
                go_at_call 20
                refine (pbounded_any N cs[m] _).mono ?_
                rw [hob]
                rintro e w5 ⟨rfl, rfl⟩
                refine hK.out _ _ ?_ (fun hHeld => ?_)
                · try dsimp only
                  go_keep
                clear hK K
                try simp only [Act.put, List.setIfInBounds_toArray, List.set_cons_zero, List.set_cons_succ]
                refine tk8 (.bool true) (by kernel_rfl) (by kernel_rfl) (by kernel_rfl) (fun _ _ _ h => h) rfl (fun w hSw => by (try dsimp only at hSw); obtain ⟨q0, q1, q2⟩ := hSw; go_simp) (by assumption) ?_
                try simp only [Act.put, List.setIfInBounds_toArray, List.set_cons_zero, List.set_cons_succ]
                refine wpAnyH_done (by kernel_rfl) ?_ _
                go_wp2
                try rw [Exit.noGoto_ret]
                go_ret2
                exact ⟨by rw [HE1.out, HE2.out]; rfl, bmm bel bel.size (bmm bl1 bl1.size (bmm bel2 bel2.size (undrew (Below.refl _ wr.drew))))⟩

        · have HL : Hid _ := hL
          have qL : ((cs.length : Int) == n) = false := by rw [beq_eq_false_iff_ne]; exact hL
          obtain ⟨e1, e2⟩ := script_at (n := n) hkl (by
            rw [HLE.out]
            unfold stepB
            simp only [qL, Bool.false_and, Bool.or_false]
            decide) HP.out
          have HE1 : Hid (scriptP l n = k) := e1
          have HE2 : Hid (scriptZ l n = 19) := e2
          clear e1 e2 HP HLE hL
          go_wp2
          rw [← HW1.out]
          obtain ⟨B, hBe⟩ : ∃ B, B = wr.heap.size := ⟨_, rfl⟩
          rw [← hBe] at HV8 hw1s ⊢
          clear hBe
          go_loopg [8] 0 (fun g i wi => i = .int .i64 0 ∧ Below w1.heap.size w1 wi)
          case atStart => exact ⟨rfl, Below.refl _ _⟩
          case round =>
            obtain ⟨rfl, bel2⟩ := hrel
            have y8 := (bel2.cell (p := ⟨B, 8, none⟩) (by exact hw1s)).trans HV8.out
            go_wp2
            try rw [Exit.noGoto_ret]
            go_ret2
            exact ⟨by rw [HE1.out, HE2.out]; rfl, bmm bel bel.size (bmm bl1 bl1.size bel2)⟩
      · have hKb : (K != 5) = true := by simpa using hK
        have HP2 : Hid (∀ j (hj : j < l.length), j < k + 1 → stepB n l[j] = true) := fun j hj h0 => by
          by_cases e : j = k
          · subst e
            rw [HLE.out]
            unfold stepB
            simp [hK]
          · exact HP.out j hj (by omega)
        clear HP HCX HLE
        go_wp2
        go_roundg go
        case rel => exact ⟨k + 1, by have := HKG.out; omega, by go_num, HP2, bmm bel bel.size ((Below.refl _ wr).alloc (Nat.le_refl _) _)⟩
        case measure => omega
set_option maxHeartbeats 6400000 in
set_option maxRecDepth 100000 in
theorem pscript_neg (w : World) (v : Value) (l : List Stp) (n : Int) (hn : ¬ 0 ≤ n) (hv : StepsAt w v l) :
    Calls Try.prog 18 #[v, .int .i64 n] w fun e w' => e = .returned (.tuple #[.int .i64 (scriptP l 0 : Int), .int .i64 (scriptZ l 0)]) ∧ Below w.heap.size w w' := by
  obtain ⟨a, cap, rfl, hx⟩ := hv.ex
  have hmx : l.length ≤ 9223372036854775807 := hv.mx
  have HX : Hid (l.length = 0 ∨ ∃ bk off, a = some ⟨bk, off, none⟩ ∧ bk < w.heap.size ∧ ∀ j (hj : j < l.length), StepAt w bk (off + j * 9) l[j]) := hx
  clear hv hx
  go_enter Try.func18, Try.ntmps18
  go_wp2
  go_step3
  go_wp2
  go_step3
  go_wp2
  go_loopg [6, 7, 8, 13] l.length (fun g _ _ _ i wr => ∃ k : Nat, k + g = l.length ∧ i = .int .i64 k ∧ Hid (∀ j (hj : j < l.length), j < k → stepB 0 l[j] = true) ∧ Below w.heap.size w wr)
  case atStart => exact ⟨0, by omega, rfl, fun j hj h0 => by omega, Below.refl _ _⟩
  case round =>
    obtain ⟨k, hk, rfl, HP, bel⟩ := hrel
    cases gk with
    | zero =>
      have hke : k = l.length := by omega
      subst hke
      obtain ⟨e1, e2⟩ := script_none (fun j hj => HP.out j hj hj)
      have HE1 : Hid (scriptP l 0 = 0) := e1
      have HE2 : Hid (scriptZ l 0 = 0) := e2
      clear e1 e2 HP hk
      go_wp2
      try rw [Exit.noGoto_ret]
      go_ret2
      exact ⟨by rw [HE1.out, HE2.out]; rfl, bel⟩
    | succ go =>
      have hkl : k < l.length := by omega
      rcases HX.out with h0 | ⟨bk, off, rfl, hbk, hxx⟩
      · omega
      have hst := (hxx k hkl).fresh hbk bel
      obtain ⟨⟨K, N, cs⟩, hle⟩ : ∃ x, x = l[k] := ⟨_, rfl⟩
      rw [← hle] at hst
      have HLE : Hid (l[k] = (K, N, cs)) := hle.symm
      have HKG : Hid (k + (go + 1) = l.length) := hk
      clear hle hxx hk
      obtain ⟨cv, z8, hci⟩ := hst.c8
      have z0 : wr.cell? ⟨bk, off + k * 9, none⟩ = some (.int .i64 K) := hst.c0
      have z1 : wr.cell? ⟨bk, off + k * 9 + 1, none⟩ = some (.int .i64 N) := hst.c1
      obtain ⟨x2, x3, x4, x5, x6, x7, z2, z3, z4, z5, z6, z7⟩ := hst.cx
      obtain ⟨ca, cc, rfl, hcc, hcx⟩ := hci.ex
      have hcm : cs.length ≤ 9223372036854775807 := hci.mx
      simp only at z8 hcc hcx
      have HCX : Hid _ := hcx
      clear hst hci hcx
      by_cases hK : K = 5
      · subst hK
        have hbk2 : bk < wr.heap.size := Nat.lt_of_lt_of_le hbk bel.size
        obtain ⟨w1, hw1⟩ : ∃ w1, w1 = wr.alloc (.cells #[.int .i64 5, .int .i64 N, .int .i64 x2, .int .i64 x3, .int .i64 x4, .int .i64 x5, .string x6, .int .i64 x7, .slice ca cs.length cc] 61) := ⟨_, rfl⟩
        have bl1 : Below wr.heap.size wr w1 := by rw [hw1]; exact (Below.refl _ wr).alloc (Nat.le_refl _) _
        have hB : w1.heap[wr.heap.size]? = some (.cells #[.int .i64 5, .int .i64 N, .int .i64 x2, .int .i64 x3, .int .i64 x4, .int .i64 x5, .string x6, .int .i64 x7, .slice ca cs.length cc] 61 (0, 0)) := by rw [hw1]; exact heap_alloc_new wr _
        have hw1s := lt_of_block hB
        have v1 : w1.cell? ⟨wr.heap.size, 1, none⟩ = some (.int .i64 N) := by simp [World.cell?, hB]
        have v8 : w1.cell? ⟨wr.heap.size, 8, none⟩ = some (.slice ca cs.length cc) := by simp [World.cell?, hB]
        have HW1 : Hid _ := hw1
        have HV1 : Hid _ := v1
        have HV8 : Hid _ := v8
        clear hw1 hB v1 v8
        by_cases hL : (cs.length : Int) = 0
        · have HL : Hid _ := hL
          have qL : ((cs.length : Int) == 0) = true := by rw [beq_iff_eq]; exact hL
          clear hL
          go_wp2
          rw [← HW1.out]
          obtain ⟨B, hBe⟩ : ∃ B, B = wr.heap.size := ⟨_, rfl⟩
          rw [← hBe] at HV1 HV8 hw1s ⊢
          clear hBe
          go_loopg [8] cs.length (fun g i wi => ∃ m : Nat, m + g = cs.length ∧ i = .int .i64 m ∧ Hid (∀ j (hj : j < cs.length), j < m → boundB N cs[j] = true) ∧ Below w1.heap.size w1 wi)
          case atStart => exact ⟨0, by omega, rfl, fun j hj h0 => by omega, Below.refl _ _⟩
          case round =>
            obtain ⟨m, hm, rfl, HB, bel2⟩ := hrel
            have y1 := (bel2.cell (p := ⟨B, 1, none⟩) (by exact hw1s)).trans HV1.out
            have y8 := (bel2.cell (p := ⟨B, 8, none⟩) (by exact hw1s)).trans HV8.out
            have HM : Hid _ := hm
            cases gk with
            | zero =>
              have hme : m = cs.length := by omega
              subst hme
              have HP2 : Hid (∀ j (hj : j < l.length), j < k + 1 → stepB 0 l[j] = true) := fun j hj h0 => by
                by_cases e : j = k
                · subst e
                  rw [HLE.out]
                  unfold stepB
                  have h5 : cs.all (boundB N) = true := by
                    rw [List.all_eq_true]
                    intro x hx
                    obtain ⟨i, hi, rfl⟩ := List.getElem_of_mem hx
                    exact HB.out i hi hi
                  simp only [h5, qL, Bool.and_true, Bool.or_true]
                · exact HP.out j hj (by omega)
              clear HP HB hm HCX HLE
              go_wp2
              go_roundg go
              case rel => exact ⟨k + 1, by have := HKG.out; omega, by go_num, HP2, bmm bel bel.size (bmm bl1 bl1.size bel2)⟩
              case measure => omega
            | succ g2 =>
              have hml : m < cs.length := by omega
              have qm : ((m : Int) == 0) = false := by
                have := HL.out
                rw [beq_eq_false_iff_ne]
                omega
              rcases HCX.out with h0 | ⟨cb, co, rfl, hcb, hcv⟩
              · omega
              have y2 := (bel2.cell (p := ⟨cb, co + m, none⟩) (by show cb < w1.heap.size; exact Nat.lt_of_lt_of_le hcb bl1.size)).trans ((bl1.cell (p := ⟨cb, co + m, none⟩) (by exact hcb)).trans (hcv m hml))
              clear hcv hm
              cases hob : boundB N cs[m] with
              | true =>
                have HB2 : Hid (∀ j (hj : j < cs.length), j < m + 1 → boundB N cs[j] = true) := fun j hj h0 => by
                  by_cases e : j = m
                  · subst e
                    exact hob
                  · exact HB.out j hj (by omega)
                clear HB
                go_wp2
                refine wp_region_held_drew (S := (fun w' : World => w'.cell? ⟨B, 1, none⟩ = some (.int .i64 N) ∧ w'.cell? ⟨B, 8, none⟩ = some (.slice (some ⟨cb, co, none⟩) cs.length cc) ∧ w'.cell? ⟨cb, co + m, none⟩ = some (.int .i64 cs[m]))) (by kernel_rfl) ?_ (fun hHeld0 => ?_)
                · try dsimp only
                  go_keep
                refine tk0 (.pointer (some ⟨B, 1, none⟩)) (by kernel_rfl) (by kernel_rfl) (by kernel_rfl) (fun _ _ _ h => h) rfl (fun w hSw => by (try dsimp only at hSw); obtain ⟨q0, q1, q2⟩ := hSw; go_simp) (by assumption) ?_
                try simp only [Act.put, List.setIfInBounds_toArray, List.set_cons_zero, List.set_cons_succ]
                refine tk1 (.int .i64 N) (by kernel_rfl) (by kernel_rfl) (by kernel_rfl) (fun _ _ _ h => h) rfl (fun w hSw => by (try dsimp only at hSw); obtain ⟨q0, q1, q2⟩ := hSw; go_simp) (by assumption) ?_
                try simp only [Act.put, List.setIfInBounds_toArray, List.set_cons_zero, List.set_cons_succ]
                refine tk2 (.pointer (some ⟨B, 8, none⟩)) (by kernel_rfl) (by kernel_rfl) (by kernel_rfl) (fun _ _ _ h => h) rfl (fun w hSw => by (try dsimp only at hSw); obtain ⟨q0, q1, q2⟩ := hSw; go_simp) (by assumption) ?_
                try simp only [Act.put, List.setIfInBounds_toArray, List.set_cons_zero, List.set_cons_succ]
                refine tk3 (.slice (some ⟨cb, co, none⟩) cs.length cc) (by kernel_rfl) (by kernel_rfl) (by kernel_rfl) (fun _ _ _ h => h) rfl (fun w hSw => by (try dsimp only at hSw); obtain ⟨q0, q1, q2⟩ := hSw; go_simp) (by assumption) ?_
                try simp only [Act.put, List.setIfInBounds_toArray, List.set_cons_zero, List.set_cons_succ]
                refine tk4 (.int .i64 (m : Int)) (by kernel_rfl) (by kernel_rfl) (by kernel_rfl) (fun _ _ _ h => h) rfl (fun w hSw => by (try dsimp only at hSw); obtain ⟨q0, q1, q2⟩ := hSw; go_simp) (by assumption) ?_
                try simp only [Act.put, List.setIfInBounds_toArray, List.set_cons_zero, List.set_cons_succ]
                refine tk5 (.pointer (some ⟨cb, co + m, none⟩)) (by kernel_rfl) (by kernel_rfl) (by kernel_rfl) (fun _ _ _ h => h) rfl (fun w hSw => by (try dsimp only at hSw); obtain ⟨q0, q1, q2⟩ := hSw; go_simp) (by assumption) ?_
                try simp only [Act.put, List.setIfInBounds_toArray, List.set_cons_zero, List.set_cons_succ]
                refine tk6 (.int .i64 cs[m]) (by kernel_rfl) (by kernel_rfl) (by kernel_rfl) (fun _ _ _ h => h) rfl (fun w hSw => by (try dsimp only at hSw); obtain ⟨q0, q1, q2⟩ := hSw; go_simp) (by assumption) ?_
                try simp only [Act.put, List.setIfInBounds_toArray, List.set_cons_zero, List.set_cons_succ]
                refine cl7 (by kernel_rfl) rfl (fun K hK => ?_)
                go_simp
                go_at_call 20
                refine (pbounded_any N cs[m] _).mono ?_
                rw [hob]
                rintro e w5 ⟨rfl, rfl⟩
                refine hK.out _ _ ?_ (fun hHeld => ?_)
                · try dsimp only
                  go_keep
                clear hK K
                try simp only [Act.put, List.setIfInBounds_toArray, List.set_cons_zero, List.set_cons_succ]
                refine tk8 (.bool false) (by kernel_rfl) (by kernel_rfl) (by kernel_rfl) (fun _ _ _ h => h) rfl (fun w hSw => by (try dsimp only at hSw); obtain ⟨q0, q1, q2⟩ := hSw; go_simp) (by assumption) ?_
                try simp only [Act.put, List.setIfInBounds_toArray, List.set_cons_zero, List.set_cons_succ]
                refine wpAnyH_done (by kernel_rfl) ?_ _
                go_wp2
                go_roundg g2
                case rel => exact ⟨m + 1, by have := HM.out; omega, by go_num, HB2, bmm bel2 bel2.size (undrew (Below.refl _ wr.drew))⟩
                case measure => omega

              | false =>
                obtain ⟨e1, e2⟩ := script_at (n := 0) hkl (by
                  rw [HLE.out]
                  unfold stepB
                  have h5 : cs.all (boundB N) = false := by
                    rw [List.all_eq_false]
                    exact ⟨cs[m], List.getElem_mem hml, by rw [hob]; simp⟩
                  simp only [h5, Bool.and_false, Bool.or_false]
                  decide) HP.out
                have HE1 : Hid (scriptP l 0 = k) := e1
                have HE2 : Hid (scriptZ l 0 = 19) := e2
                clear HB e1 e2 HP HLE
                go_wp2
                refine wp_region_held_drew (S := (fun w' : World => w'.cell? ⟨B, 1, none⟩ = some (.int .i64 N) ∧ w'.cell? ⟨B, 8, none⟩ = some (.slice (some ⟨cb, co, none⟩) cs.length cc) ∧ w'.cell? ⟨cb, co + m, none⟩ = some (.int .i64 cs[m]))) (by kernel_rfl) ?_ (fun hHeld0 => ?_)
                · try dsimp only
                  go_keep
                refine tk0 (.pointer (some ⟨B, 1, none⟩)) (by kernel_rfl) (by kernel_rfl) (by kernel_rfl) (fun _ _ _ h => h) rfl (fun w hSw => by (try dsimp only at hSw); obtain ⟨q0, q1, q2⟩ := hSw; go_simp) (by assumption) ?_
                try simp only [Act.put, List.setIfInBounds_toArray, List.set_cons_zero, List.set_cons_succ]
                refine tk1 (.int .i64 N) (by kernel_rfl) (by kernel_rfl) (by kernel_rfl) (fun _ _ _ h => h) rfl (fun w hSw => by (try dsimp only at hSw); obtain ⟨q0, q1, q2⟩ := hSw; go_simp) (by assumption) ?_
                try simp only [Act.put, List.setIfInBounds_toArray, List.set_cons_zero, List.set_cons_succ]
                refine tk2 (.pointer (some ⟨B, 8, none⟩)) (by kernel_rfl) (by kernel_rfl) (by kernel_rfl) (fun _ _ _ h => h) rfl (fun w hSw => by (try dsimp only at hSw); obtain ⟨q0, q1, q2⟩ := hSw; go_simp) (by assumption) ?_
                try simp only [Act.put, List.setIfInBounds_toArray, List.set_cons_zero, List.set_cons_succ]
                refine tk3 (.slice (some ⟨cb, co, none⟩) cs.length cc) (by kernel_rfl) (by kernel_rfl) (by kernel_rfl) (fun _ _ _ h => h) rfl (fun w hSw => by (try dsimp only at hSw); obtain ⟨q0, q1, q2⟩ := hSw; go_simp) (by assumption) ?_
                try simp only [Act.put, List.setIfInBounds_toArray, List.set_cons_zero, List.set_cons_succ]
                refine tk4 (.int .i64 (m : Int)) (by kernel_rfl) (by kernel_rfl) (by kernel_rfl) (fun _ _ _ h => h) rfl (fun w hSw => by (try dsimp only at hSw); obtain ⟨q0, q1, q2⟩ := hSw; go_simp) (by assumption) ?_
                try simp only [Act.put, List.setIfInBounds_toArray, List.set_cons_zero, List.set_cons_succ]
                refine tk5 (.pointer (some ⟨cb, co + m, none⟩)) (by kernel_rfl) (by kernel_rfl) (by kernel_rfl) (fun _ _ _ h => h) rfl (fun w hSw => by (try dsimp only at hSw); obtain ⟨q0, q1, q2⟩ := hSw; go_simp) (by assumption) ?_
                try simp only [Act.put, List.setIfInBounds_toArray, List.set_cons_zero, List.set_cons_succ]
                refine tk6 (.int .i64 cs[m]) (by kernel_rfl) (by kernel_rfl) (by kernel_rfl) (fun _ _ _ h => h) rfl (fun w hSw => by (try dsimp only at hSw); obtain ⟨q0, q1, q2⟩ := hSw; go_simp) (by assumption) ?_
                try simp only [Act.put, List.setIfInBounds_toArray, List.set_cons_zero, List.set_cons_succ]
                refine cl7 (by kernel_rfl) rfl (fun K hK => ?_)
                go_simp
                go_at_call 20
                refine (pbounded_any N cs[m] _).mono ?_
                rw [hob]
                rintro e w5 ⟨rfl, rfl⟩
                refine hK.out _ _ ?_ (fun hHeld => ?_)
                · try dsimp only
                  go_keep
                clear hK K
                try simp only [Act.put, List.setIfInBounds_toArray, List.set_cons_zero, List.set_cons_succ]
                refine tk8 (.bool true) (by kernel_rfl) (by kernel_rfl) (by kernel_rfl) (fun _ _ _ h => h) rfl (fun w hSw => by (try dsimp only at hSw); obtain ⟨q0, q1, q2⟩ := hSw; go_simp) (by assumption) ?_
                try simp only [Act.put, List.setIfInBounds_toArray, List.set_cons_zero, List.set_cons_succ]
                refine wpAnyH_done (by kernel_rfl) ?_ _
                go_wp2
                try rw [Exit.noGoto_ret]
                go_ret2
                exact ⟨by rw [HE1.out, HE2.out]; rfl, bmm bel bel.size (bmm bl1 bl1.size (bmm bel2 bel2.size (undrew (Below.refl _ wr.drew))))⟩

        · have HL : Hid _ := hL
          have qL : ((cs.length : Int) == 0) = false := by rw [beq_eq_false_iff_ne]; exact hL
          obtain ⟨e1, e2⟩ := script_at (n := 0) hkl (by
            rw [HLE.out]
            unfold stepB
            simp only [qL, Bool.false_and, Bool.or_false]
            decide) HP.out
          have HE1 : Hid (scriptP l 0 = k) := e1
          have HE2 : Hid (scriptZ l 0 = 19) := e2
          clear e1 e2 HP HLE hL
          go_wp2
          rw [← HW1.out]
          obtain ⟨B, hBe⟩ : ∃ B, B = wr.heap.size := ⟨_, rfl⟩
          rw [← hBe] at HV8 hw1s ⊢
          clear hBe
          go_loopg [8] 0 (fun g i wi => i = .int .i64 0 ∧ Below w1.heap.size w1 wi)
          case atStart => exact ⟨rfl, Below.refl _ _⟩
          case round =>
            obtain ⟨rfl, bel2⟩ := hrel
            have y8 := (bel2.cell (p := ⟨B, 8, none⟩) (by exact hw1s)).trans HV8.out
            go_wp2
            try rw [Exit.noGoto_ret]
            go_ret2
            exact ⟨by rw [HE1.out, HE2.out]; rfl, bmm bel bel.size (bmm bl1 bl1.size bel2)⟩
      · have hKb : (K != 5) = true := by simpa using hK
        have HP2 : Hid (∀ j (hj : j < l.length), j < k + 1 → stepB 0 l[j] = true) := fun j hj h0 => by
          by_cases e : j = k
          · subst e
            rw [HLE.out]
            unfold stepB
            simp [hK]
          · exact HP.out j hj (by omega)
        clear HP HCX HLE
        go_wp2
        go_roundg go
        case rel => exact ⟨k + 1, by have := HKG.out; omega, by go_num, HP2, bmm bel bel.size ((Below.refl _ wr).alloc (Nat.le_refl _) _)⟩
        case measure => omega
/-- A count below 0 counts as 0. -/
theorem pscript_any (w : World) (v : Value) (l : List Stp) (n : Int) (hv : StepsAt w v l) :
    Calls Try.prog 18 #[v, .int .i64 n] w fun e w' => e = .returned (.tuple #[.int .i64 (scriptP l (if 0 ≤ n then n else 0) : Int), .int .i64 (scriptZ l (if 0 ≤ n then n else 0))]) ∧ Below w.heap.size w w' := by
  by_cases hn : 0 ≤ n
  · rw [if_pos hn]
    exact pscript_pos w v l n hn hv
  · rw [if_neg hn]
    exact pscript_neg w v l n hn hv
end Go.Proofs.Ytcecgphjaofgbaa
