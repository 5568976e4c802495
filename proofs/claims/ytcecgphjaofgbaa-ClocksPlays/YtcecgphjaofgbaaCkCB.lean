/-
  Package clocks: all go on. The condition: the numbers handed in lie in no block of the clocks' own.
-/
import Derived.Test.YtcecgphjaofgbaaCkCA
namespace Go.Proofs.Ytcecgphjaofgbaa
open Go.RowKit

theorem pneg_any (w : World) (v : Value) (bs : List Int) (hv : IntsAt w v bs) : Calls Try.prog 24 #[v] w fun e w' => e = .returned (.bool (negB bs)) ∧ w = w' := by
  obtain ⟨av, cv, rfl, _, hx⟩ := hv.ex
  have HX : Hid (bs.length = 0 ∨ ∃ bk off, av = some ⟨bk, off, none⟩ ∧ bk < w.heap.size ∧ ∀ j (hj : j < bs.length), w.cell? ⟨bk, off + j, none⟩ = some (.int .i64 bs[j])) := hx
  have hmx : bs.length ≤ 9223372036854775807 := hv.mx
  clear hv hx
  go_enter Try.func24, Try.ntmps24
  go_wp2
  go_loop [4, 7] (fun _ i => ∃ k : Nat, k ≤ bs.length ∧ i = .int .i64 k ∧ Hid (∀ j (hj : j < bs.length), j < k → ¬ bs[j] < 0)) (fun _ i => bs.length - (intOf i).toNat)
  case atStart => exact ⟨0, Nat.zero_le _, rfl, fun j hj h0 => by omega⟩
  case round =>
    obtain ⟨k, hk, rfl, HN⟩ := hrel
    by_cases hkl : k < bs.length
    · rcases HX.out with h0 | ⟨bk, off, rfl, hbk, hxx⟩
      · omega
      have z := hxx k hkl
      by_cases hneg : bs[k] < 0
      · have HZ : Hid (negB bs = true) := by
          show _ = _
          unfold negB
          rw [List.any_eq_true]
          exact ⟨bs[k], List.getElem_mem hkl, decide_eq_true hneg⟩
        clear hxx
        generalize bs[k] = X at *
        go_wp2
        go_ret
        exact ⟨by rw [HZ.out]; rfl, rfl⟩
      · have HN2 : Hid (∀ j (hj : j < bs.length), j < k + 1 → ¬ bs[j] < 0) := fun j hj h0 => by
          by_cases e : j = k
          · subst e
            exact hneg
          · exact HN.out j hj (by omega)
        clear hxx HN
        generalize bs[k] = X at *
        go_wp2
        go_round
        case rel => exact ⟨k + 1, hkl, by go_num, HN2⟩
        case measure => simp [intOf]; omega
    · have hke : k = bs.length := by omega
      subst hke
      have HZ : Hid (negB bs = false) := by
        show _ = _
        unfold negB
        rw [List.any_eq_false]
        intro x hx
        obtain ⟨j, hj, rfl⟩ := List.getElem_of_mem hx
        simpa using HN.out j hj hj
      clear HN
      go_wp2
      go_ret
      exact ⟨by rw [HZ.out]; rfl, rfl⟩
theorem pgo_nil (dr : Int) (v : Value) (w : World) : Calls Try.prog 12 #[.pointer none, .int .i64 dr, v] w fun e w' => e = .returned (.int .i64 1) ∧ w = w' := by
  go_enter Try.func12, Try.ntmps12
  go_wp2
  go_ret
  exact ⟨rfl, rfl⟩
section
variable {w : World} {base D : Nat} {S : Nat → Prop} {l : List Nat} {real : Nat}
theorem pmay_any (h : CkAt PT w base D S l real) (dr : Int) (v : Value) (bs : List Int) (hv : IntsAt w v bs) (hlen : bs.length = l.length) :
    Calls Try.prog 25 #[.pointer (some ⟨D, 0, none⟩), .int .i64 dr, v] w fun e w' => e = .returned (.bool (!farK l real dr bs bs.length)) ∧ w = w' := by
  obtain ⟨av, cv, rfl, _, hx⟩ := hv.ex
  have HX : Hid (bs.length = 0 ∨ ∃ bk off, av = some ⟨bk, off, none⟩ ∧ bk < w.heap.size ∧ ∀ j (hj : j < bs.length), w.cell? ⟨bk, off + j, none⟩ = some (.int .i64 bs[j])) := hx
  obtain ⟨g, c, _, c0, c1, _, _, _, hc, _, _⟩ := h.cellsP
  have HLEN : Hid (bs.length = l.length) := hlen
  have HLE : Hid _ := h.le
  have hrl := h.rl
  have hn2 := h.n2
  have hbl : bs.length ≤ 13 := by omega
  clear hv hx h hlen
  go_enter Try.func25, Try.ntmps25
  go_wp2
  go_loop [7, 8, 11] (fun _ _ i => ∃ k : Nat, k ≤ bs.length ∧ i = .int .i64 k ∧ Hid (∀ j, j < k → farI l bs j = false)) (fun _ _ i => bs.length - (intOf i).toNat)
  case atStart => exact ⟨0, Nat.zero_le _, rfl, fun j h0 => by omega⟩
  case round =>
    obtain ⟨k, hk, rfl, HN⟩ := hrel
    by_cases hkl : k < bs.length
    · rcases HX.out with h0 | ⟨bk, off, rfl, hbk, hxx⟩
      · omega
      have z := hxx k hkl
      have hkL : k < l.length := by have := HLEN.out; omega
      have zc := hc k hkL
      have hle := HLE.out _ (List.getElem_mem hkL)
      have hgb : bs.getD k 0 = bs[k] := by simp [List.getD, hkl]
      have hgl3 : l.getD k 0 = l[k] := by simp [List.getD, hkL]
      have HF : Hid (farI l bs k = decide ((1099511627776 : Int) - (l[k] : Int) < bs[k])) := by
        show _ = _
        unfold farI
        rw [hgb, hgl3]
      clear hxx hgb hgl3 hc
      by_cases hfar : (1099511627776 : Int) - (l[k] : Int) < bs[k]
      · have HZ : Hid (farK l real dr bs bs.length = true) := by
          show _ = _
          unfold farK
          rw [Bool.or_eq_true]
          refine Or.inr ?_
          rw [List.any_eq_true]
          exact ⟨k, List.mem_range.2 hkl, by rw [HF.out]; exact decide_eq_true hfar⟩
        clear HF
        generalize bs[k] = X at *
        generalize l[k] = Y at *
        go_wp2
        go_ret
        exact ⟨by rw [HZ.out]; rfl, rfl⟩
      · have HN2 : Hid (∀ j, j < k + 1 → farI l bs j = false) := fun j h0 => by
          by_cases e : j = k
          · subst e
            rw [HF.out]
            exact decide_eq_false hfar
          · exact HN.out j (by omega)
        clear HN HF
        generalize bs[k] = X at *
        generalize l[k] = Y at *
        go_wp2
        go_round
        case rel => exact ⟨k + 1, hkl, by go_num, HN2⟩
        case measure => simp [intOf]; omega
    · have hke : k = bs.length := by omega
      subst hke
      have HZ : Hid ((!farK l real dr bs bs.length) = decide (dr ≤ 1099511627776 - (real : Int))) := by
        show _ = _
        have h2 : (List.range bs.length).any (farI l bs) = false := by
          rw [List.any_eq_false]
          intro x hx
          rw [HN.out x (List.mem_range.1 hx)]
          simp
        unfold farK
        rw [h2, Bool.or_false, Bool.eq_iff_iff]
        simp only [Bool.not_eq_true', decide_eq_false_iff_not, decide_eq_true_eq]
        omega
      clear HN hc
      go_wp2
      go_ret
      exact ⟨by rw [HZ.out]; rfl, rfl⟩
end
end Go.Proofs.Ytcecgphjaofgbaa
