/-
  Are two rows of tasks that wait one (package latchkeyref08)? The condition: the rows lie in memory as their reading says.
-/
import Derived.Test.YtlcacjekpdmigaaRwMem
namespace Go.Proofs.Ytlcacjekpdmigaa
open Go.RowKit

def waitV (x : Wt) : Value := .agg #[.int .i64 x.1, .bool x.2.1, .bool x.2.2]
theorem wait_neq (x y : Wt) (w : World) : (binOp .neq 72 (.agg #[.int .i64 x.1, .bool x.2.1, .bool x.2.2]) (.agg #[.int .i64 y.1, .bool y.2.1, .bool y.2.2])).run Try.prog w = .ok (.bool (!decide (x = y))) w := by
  obtain ⟨x1, x2, x3⟩ := x
  obtain ⟨y1, y2, y3⟩ := y
  cases h0 : (x1 == y1) with
  | false =>
    have hn : ¬ x1 = y1 := by simpa using h0
    simp [go_sem, h0, hn]
  | true =>
    have he : x1 = y1 := by simpa using h0
    subst he
    cases x2 <;> cases y2 <;> cases x3 <;> cases y3 <;> simp [go_sem]
def wsameB (l m : List Wt) : Bool := decide (l = m)
set_option maxHeartbeats 3200000 in
set_option maxRecDepth 100000 in
theorem waits_same (w : World) (v u : Value) (l m : List Wt) (hv : RowAt waitC w v l) (hu : RowAt waitC w u m) (hmx : l.length ≤ 65536) : Calls Try.prog 24 #[v, u] w fun e w' => e = .returned (.bool (wsameB l m)) ∧ Below w.heap.size w w' := by
  obtain ⟨a, cap, rfl⟩ := hv.form
  obtain ⟨b, cup, rfl⟩ := hu.form
  have HX : Hid _ := hv
  have HY : Hid _ := hu
  clear hv hu
  by_cases hL : l.length = m.length
  · have q0 : ((l.length : Int) != (m.length : Int)) = false := by rw [bne_eq_false_iff_eq]; omega
    have HL : Hid (l.length = m.length) := hL
    clear hL
    go_enter Try.func24, Try.ntmps24
    go_wp2
    go_loopw [5] (fun i wr => ∃ k : Nat, k ≤ l.length ∧ i = .int .i64 k ∧ Hid (∀ j (hj : j < l.length) (hj' : j < m.length), j < k → l[j] = m[j]) ∧ Below w.heap.size w wr) (fun i _ => l.length - (intOf i).toNat)
    case atStart => exact ⟨0, Nat.zero_le _, rfl, fun j hj _ h0 => absurd h0 (Nat.not_lt_zero _), Below.refl _ _⟩
    case round =>
      obtain ⟨k, hk, rfl, HN, bel⟩ := hrel
      by_cases hkl : k < l.length
      · have hkm : k < m.length := by rw [← HL.out]; exact hkl
        obtain ⟨bk, off, cp, e, hcap, hbk, hxx⟩ := HX.out.cells waitC_len (by omega)
        simp only [Value.slice.injEq] at e
        obtain ⟨rfl, _, rfl⟩ := e
        obtain ⟨dk, uff, dp, e, hdap, hdk, hyy⟩ := HY.out.cells waitC_len (by omega)
        simp only [Value.slice.injEq] at e
        obtain ⟨rfl, _, rfl⟩ := e
        have z0 := (bel.cell (p := ⟨bk, off + k * 3, none⟩) (by exact hbk)).trans (hxx k hkl 0 _ (by decide) rfl)
        have z1 := (bel.cell (p := ⟨bk, off + k * 3 + 1, none⟩) (by exact hbk)).trans (hxx k hkl 1 _ (by decide) rfl)
        have z2 := (bel.cell (p := ⟨bk, off + k * 3 + 2, none⟩) (by exact hbk)).trans (hxx k hkl 2 _ (by decide) rfl)
        have z3 := (bel.cell (p := ⟨dk, uff + k * 3, none⟩) (by exact hdk)).trans (hyy k hkm 0 _ (by decide) rfl)
        have z4 := (bel.cell (p := ⟨dk, uff + k * 3 + 1, none⟩) (by exact hdk)).trans (hyy k hkm 1 _ (by decide) rfl)
        have z5 := (bel.cell (p := ⟨dk, uff + k * 3 + 2, none⟩) (by exact hdk)).trans (hyy k hkm 2 _ (by decide) rfl)
        have q1 : decide ((k : Int) < (l.length : Int)) = true := decide_eq_true (by omega)
        have q2 : decide ((k : Int) < (m.length : Int)) = true := decide_eq_true (by omega)
        have hneq := wait_neq l[k] m[k]
        clear hxx hyy
        by_cases he : l[k] = m[k]
        · have HN2 : Hid (∀ j (hj : j < l.length) (hj' : j < m.length), j < k + 1 → l[j] = m[j]) := fun j hj hj' h0 => by
            by_cases e : j = k
            · subst e
              exact he
            · exact HN.out j hj hj' (by omega)
          rw [decide_eq_true he] at hneq
          clear he HN
          generalize l[k] = X at *
          generalize m[k] = Y at *
          obtain ⟨X1, X2, X3⟩ := X
          obtain ⟨Y1, Y2, Y3⟩ := Y
          simp only at z0 z1 z2 z3 z4 z5 hneq
          go_wp2
          refine wp_region_held_drew (S := (fun w' : World => w'.cell? ⟨bk, off + k * 3, none⟩ = some (.int .i64 X1) ∧ w'.cell? ⟨bk, off + k * 3 + 1, none⟩ = some (.bool X2) ∧ w'.cell? ⟨bk, off + k * 3 + 2, none⟩ = some (.bool X3) ∧ w'.cell? ⟨dk, uff + k * 3, none⟩ = some (.int .i64 Y1) ∧ w'.cell? ⟨dk, uff + k * 3 + 1, none⟩ = some (.bool Y2) ∧ w'.cell? ⟨dk, uff + k * 3 + 2, none⟩ = some (.bool Y3))) (by kernel_rfl) ?_ (fun hHeld0 => ?_)
          · try dsimp only
            go_keep
          refine tk0 (.slice (some ⟨bk, off, none⟩) l.length cap) (by kernel_rfl) (by kernel_rfl) (by kernel_rfl) (fun _ _ _ h => h) rfl (fun w hSw => by (try dsimp only at hSw); obtain ⟨q0, q1, q2, q3, q4, q5⟩ := hSw; go_simp) (by assumption) ?_
          try simp only [Act.put, List.setIfInBounds_toArray, List.set_cons_zero, List.set_cons_succ]
          refine tk1 (.int .i64 (k : Int)) (by kernel_rfl) (by kernel_rfl) (by kernel_rfl) (fun _ _ _ h => h) rfl (fun w hSw => by (try dsimp only at hSw); obtain ⟨q0, q1, q2, q3, q4, q5⟩ := hSw; go_simp) (by assumption) ?_
          try simp only [Act.put, List.setIfInBounds_toArray, List.set_cons_zero, List.set_cons_succ]
          refine tk2 (.pointer (some ⟨bk, off + k * 3, none⟩)) (by kernel_rfl) (by kernel_rfl) (by kernel_rfl) (fun _ _ _ h => h) rfl (fun w hSw => by (try dsimp only at hSw); obtain ⟨q0, q1, q2, q3, q4, q5⟩ := hSw; go_simp) (by assumption) ?_
          try simp only [Act.put, List.setIfInBounds_toArray, List.set_cons_zero, List.set_cons_succ]
          refine tk3 (.agg #[.int .i64 X1, .bool X2, .bool X3]) (by kernel_rfl) (by kernel_rfl) (by kernel_rfl) (fun _ _ _ h => h) rfl (fun w hSw => by (try dsimp only at hSw); obtain ⟨q0, q1, q2, q3, q4, q5⟩ := hSw; go_simp) (by assumption) ?_
          try simp only [Act.put, List.setIfInBounds_toArray, List.set_cons_zero, List.set_cons_succ]
          refine tk4 (.slice (some ⟨dk, uff, none⟩) m.length cup) (by kernel_rfl) (by kernel_rfl) (by kernel_rfl) (fun _ _ _ h => h) rfl (fun w hSw => by (try dsimp only at hSw); obtain ⟨q0, q1, q2, q3, q4, q5⟩ := hSw; go_simp) (by assumption) ?_
          try simp only [Act.put, List.setIfInBounds_toArray, List.set_cons_zero, List.set_cons_succ]
          refine tk5 (.int .i64 (k : Int)) (by kernel_rfl) (by kernel_rfl) (by kernel_rfl) (fun _ _ _ h => h) rfl (fun w hSw => by (try dsimp only at hSw); obtain ⟨q0, q1, q2, q3, q4, q5⟩ := hSw; go_simp) (by assumption) ?_
          try simp only [Act.put, List.setIfInBounds_toArray, List.set_cons_zero, List.set_cons_succ]
          refine tk6 (.pointer (some ⟨dk, uff + k * 3, none⟩)) (by kernel_rfl) (by kernel_rfl) (by kernel_rfl) (fun _ _ _ h => h) rfl (fun w hSw => by (try dsimp only at hSw); obtain ⟨q0, q1, q2, q3, q4, q5⟩ := hSw; go_simp) (by assumption) ?_
          try simp only [Act.put, List.setIfInBounds_toArray, List.set_cons_zero, List.set_cons_succ]
          refine tk7 (.agg #[.int .i64 Y1, .bool Y2, .bool Y3]) (by kernel_rfl) (by kernel_rfl) (by kernel_rfl) (fun _ _ _ h => h) rfl (fun w hSw => by (try dsimp only at hSw); obtain ⟨q0, q1, q2, q3, q4, q5⟩ := hSw; go_simp) (by assumption) ?_
          try simp only [Act.put, List.setIfInBounds_toArray, List.set_cons_zero, List.set_cons_succ]
          refine tk8 (.bool false) (by kernel_rfl) (by kernel_rfl) (by kernel_rfl) (fun _ _ _ h => h) rfl (fun w hSw => by (try dsimp only at hSw); obtain ⟨q0, q1, q2, q3, q4, q5⟩ := hSw; go_simp) (by assumption) ?_
          try simp only [Act.put, List.setIfInBounds_toArray, List.set_cons_zero, List.set_cons_succ]
          refine wpAnyH_done (by kernel_rfl) ?_ _
          go_wp2
          go_roundw
          case rel => exact ⟨k + 1, hkl, by go_num, HN2, undrB2 bel⟩
          case measure => simp [intOf]; omega
        · have HE : Hid (wsameB l m = false) := by
            show decide _ = _
            rw [decide_eq_false_iff_not]
            intro e
            subst e
            exact he rfl
          rw [decide_eq_false he] at hneq
          clear he HN
          generalize l[k] = X at *
          generalize m[k] = Y at *
          obtain ⟨X1, X2, X3⟩ := X
          obtain ⟨Y1, Y2, Y3⟩ := Y
          simp only at z0 z1 z2 z3 z4 z5 hneq
          go_wp2
          refine wp_region_held_drew (S := (fun w' : World => w'.cell? ⟨bk, off + k * 3, none⟩ = some (.int .i64 X1) ∧ w'.cell? ⟨bk, off + k * 3 + 1, none⟩ = some (.bool X2) ∧ w'.cell? ⟨bk, off + k * 3 + 2, none⟩ = some (.bool X3) ∧ w'.cell? ⟨dk, uff + k * 3, none⟩ = some (.int .i64 Y1) ∧ w'.cell? ⟨dk, uff + k * 3 + 1, none⟩ = some (.bool Y2) ∧ w'.cell? ⟨dk, uff + k * 3 + 2, none⟩ = some (.bool Y3))) (by kernel_rfl) ?_ (fun hHeld0 => ?_)
          · try dsimp only
            go_keep
          refine tk0 (.slice (some ⟨bk, off, none⟩) l.length cap) (by kernel_rfl) (by kernel_rfl) (by kernel_rfl) (fun _ _ _ h => h) rfl (fun w hSw => by (try dsimp only at hSw); obtain ⟨q0, q1, q2, q3, q4, q5⟩ := hSw; go_simp) (by assumption) ?_
          try simp only [Act.put, List.setIfInBounds_toArray, List.set_cons_zero, List.set_cons_succ]
          refine tk1 (.int .i64 (k : Int)) (by kernel_rfl) (by kernel_rfl) (by kernel_rfl) (fun _ _ _ h => h) rfl (fun w hSw => by (try dsimp only at hSw); obtain ⟨q0, q1, q2, q3, q4, q5⟩ := hSw; go_simp) (by assumption) ?_
          try simp only [Act.put, List.setIfInBounds_toArray, List.set_cons_zero, List.set_cons_succ]
          refine tk2 (.pointer (some ⟨bk, off + k * 3, none⟩)) (by kernel_rfl) (by kernel_rfl) (by kernel_rfl) (fun _ _ _ h => h) rfl (fun w hSw => by (try dsimp only at hSw); obtain ⟨q0, q1, q2, q3, q4, q5⟩ := hSw; go_simp) (by assumption) ?_
          try simp only [Act.put, List.setIfInBounds_toArray, List.set_cons_zero, List.set_cons_succ]
          refine tk3 (.agg #[.int .i64 X1, .bool X2, .bool X3]) (by kernel_rfl) (by kernel_rfl) (by kernel_rfl) (fun _ _ _ h => h) rfl (fun w hSw => by (try dsimp only at hSw); obtain ⟨q0, q1, q2, q3, q4, q5⟩ := hSw; go_simp) (by assumption) ?_
          try simp only [Act.put, List.setIfInBounds_toArray, List.set_cons_zero, List.set_cons_succ]
          refine tk4 (.slice (some ⟨dk, uff, none⟩) m.length cup) (by kernel_rfl) (by kernel_rfl) (by kernel_rfl) (fun _ _ _ h => h) rfl (fun w hSw => by (try dsimp only at hSw); obtain ⟨q0, q1, q2, q3, q4, q5⟩ := hSw; go_simp) (by assumption) ?_
          try simp only [Act.put, List.setIfInBounds_toArray, List.set_cons_zero, List.set_cons_succ]
          refine tk5 (.int .i64 (k : Int)) (by kernel_rfl) (by kernel_rfl) (by kernel_rfl) (fun _ _ _ h => h) rfl (fun w hSw => by (try dsimp only at hSw); obtain ⟨q0, q1, q2, q3, q4, q5⟩ := hSw; go_simp) (by assumption) ?_
          try simp only [Act.put, List.setIfInBounds_toArray, List.set_cons_zero, List.set_cons_succ]
          refine tk6 (.pointer (some ⟨dk, uff + k * 3, none⟩)) (by kernel_rfl) (by kernel_rfl) (by kernel_rfl) (fun _ _ _ h => h) rfl (fun w hSw => by (try dsimp only at hSw); obtain ⟨q0, q1, q2, q3, q4, q5⟩ := hSw; go_simp) (by assumption) ?_
          try simp only [Act.put, List.setIfInBounds_toArray, List.set_cons_zero, List.set_cons_succ]
          refine tk7 (.agg #[.int .i64 Y1, .bool Y2, .bool Y3]) (by kernel_rfl) (by kernel_rfl) (by kernel_rfl) (fun _ _ _ h => h) rfl (fun w hSw => by (try dsimp only at hSw); obtain ⟨q0, q1, q2, q3, q4, q5⟩ := hSw; go_simp) (by assumption) ?_
          try simp only [Act.put, List.setIfInBounds_toArray, List.set_cons_zero, List.set_cons_succ]
          refine tk8 (.bool true) (by kernel_rfl) (by kernel_rfl) (by kernel_rfl) (fun _ _ _ h => h) rfl (fun w hSw => by (try dsimp only at hSw); obtain ⟨q0, q1, q2, q3, q4, q5⟩ := hSw; go_simp) (by assumption) ?_
          try simp only [Act.put, List.setIfInBounds_toArray, List.set_cons_zero, List.set_cons_succ]
          refine wpAnyH_done (by kernel_rfl) ?_ _
          go_wp2
          go_ret
          exact ⟨by rw [HE.out]; rfl, undrB2 bel⟩
      · have q1 : decide ((k : Int) < (l.length : Int)) = false := decide_eq_false (by omega)
        have HE : Hid (wsameB l m = true) := by
          show decide _ = _
          rw [decide_eq_true_eq]
          exact List.ext_getElem HL.out (fun j h1 h2 => HN.out j h1 h2 (by omega))
        clear HN
        go_wp2
        go_ret
        exact ⟨by rw [HE.out]; rfl, bel⟩
  · have q0 : ((l.length : Int) != (m.length : Int)) = true := by rw [bne_iff_ne]; omega
    have HE : Hid (wsameB l m = false) := decide_eq_false (fun e => hL (by rw [e]))
    clear hL
    go_enter Try.func24, Try.ntmps24
    go_wp2
    go_ret
    exact ⟨by rw [HE.out]; rfl, Below.refl _ _⟩
end Go.Proofs.Ytlcacjekpdmigaa
