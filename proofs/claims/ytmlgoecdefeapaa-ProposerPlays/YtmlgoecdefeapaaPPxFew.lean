/-
  The law's own guard: numbers and slots that are near. The condition: lengths are numbers.
-/
import Derived.Test.YtmlgoecdefeapaaPPxNone
namespace Go.Proofs.Ytmlgoecdefeapaa
open Go.RowKit

/-- What the guard lets through. -/
structure FewF (n f : Int) (l : List Pd) : Prop where
  nb : 0 ≤ n ∧ n ≤ 100
  fb : 1 ≤ f ∧ f ≤ 1099511627776
  es : ∀ x ∈ l, x.es.length ≤ 1000 ∧ ∀ e ∈ x.es, e.slot ≤ f + 1000
structure FewPost (w : World) (n f : Int) (l : List Pd) (r : Ending) (w' : World) : Prop where
  ex : ∃ b : Bool, r = .returned (.bool b) ∧ (b = true → FewF n f l) ∧ w' = w
set_option maxHeartbeats 6400000 in
set_option maxRecDepth 100000 in
theorem few_any (w : World) (n f : Int) (v : Value) (l : List Pd) (hr : RowAt pdC w v l) (hus : ∀ x ∈ l, RowAt enC w x.u x.es) (hl : l.length ≤ 9223372036854775807) (hel : ∀ x ∈ l, x.es.length ≤ 9223372036854775807) : Calls Try.prog 7 #[.int .i64 n, .int .i64 f, v] w (FewPost w n f l) := by
  have HNO : Hid (FewPost w n f l (.returned (.bool false)) w) := ⟨false, rfl, (fun h => by cases h), rfl⟩
  obtain ⟨va, vc, rfl⟩ := hr.form
  have HR : Hid _ := hr
  have HU : Hid _ := hus
  have HEL : Hid _ := hel
  clear hr hus hel
  by_cases h1 : n < 0
  · have d1 : decide (n < 0) = true := decide_eq_true h1
    clear h1
    go_enter Try.func7, Try.ntmps7
    go_wp2
    go_ret
    exact HNO.out
  have d1 : decide (n < 0) = false := decide_eq_false h1
  by_cases h2 : 100 < n
  · have d2 : decide (100 < n) = true := decide_eq_true h2
    clear h1 h2
    go_enter Try.func7, Try.ntmps7
    go_wp2
    go_ret
    exact HNO.out
  have d2 : decide (100 < n) = false := decide_eq_false h2
  by_cases h3 : f < 1
  · have d3 : decide (f < 1) = true := decide_eq_true h3
    clear h1 h2 h3
    go_enter Try.func7, Try.ntmps7
    go_wp2
    go_ret
    exact HNO.out
  have d3 : decide (f < 1) = false := decide_eq_false h3
  by_cases h4 : 1099511627776 < f
  · have d4 : decide (1099511627776 < f) = true := decide_eq_true h4
    clear h1 h2 h3 h4
    go_enter Try.func7, Try.ntmps7
    go_wp2
    go_ret
    exact HNO.out
  have d4 : decide (1099511627776 < f) = false := decide_eq_false h4
  have wf : IntKind.i64.wrap (f + 1000) = f + 1000 := by rw [IntKind.wrap_i64]; omega
  have HB : Hid ((0 ≤ n ∧ n ≤ 100) ∧ 1 ≤ f ∧ f ≤ 1099511627776) := by
    show _ ∧ _
    omega
  clear h1 h2 h3 h4
  go_enter Try.func7, Try.ntmps7
  go_wp2
  go_loopw [7, 8, 9] (fun i _ _ y => ∃ k : Nat, k ≤ l.length ∧ i = .int .i64 (k : Int) ∧ (∀ x ∈ l.take k, x.es.length ≤ 1000 ∧ ∀ e ∈ x.es, e.slot ≤ f + 1000) ∧ y = w) (fun i _ _ _ => l.length - (intOf i).toNat)
  case atStart => exact ⟨0, Nat.zero_le _, rfl, fun x hx => by simp at hx, rfl⟩
  case round =>
    obtain ⟨k, hk, rfl, hok, rfl⟩ := hrel
    by_cases hkl : k < l.length
    · have q0 : decide ((k : Int) < (l.length : Int)) = true := decide_eq_true (by omega)
      obtain ⟨bk, off, cap', hvv, hcap, hbk, hc⟩ := HR.out.cells pdC_len (by omega)
      injection hvv with e1 e2 e3
      subst e1 e3
      clear e2
      obtain ⟨x, hx⟩ : ∃ x, x = l[k] := ⟨_, rfl⟩
      have hxl : x ∈ l := by rw [hx]; exact List.getElem_mem hkl
      obtain ⟨ua, uc, eu⟩ := (HU.out x hxl).form
      have z3 := hc k hkl 3 (.slice ua x.es.length uc) (by decide) (by rw [← eu, hx]; rfl)
      have hxe := HEL.out x hxl
      have HUX : Hid (RowAt enC wr (.slice ua x.es.length uc) x.es) := by show RowAt _ _ _ _; rw [← eu]; exact HU.out x hxl
      have HS : Hid ((x.es.length ≤ 1000 ∧ ∀ e ∈ x.es, e.slot ≤ f + 1000) → ∀ z ∈ l.take (k + 1), z.es.length ≤ 1000 ∧ ∀ e ∈ z.es, e.slot ≤ f + 1000) := fun h5 z hz => by
        rw [List.take_add_one, List.getElem?_eq_getElem hkl, ← hx] at hz
        rcases List.mem_append.1 hz with h6 | h6
        · exact hok z h6
        · have h7 : z = x := by simpa using h6
          rw [h7]
          exact h5
      clear hc hx hok eu hxl
      by_cases hlen : 1000 < x.es.length
      · have q1 : decide ((1000 : Int) < (x.es.length : Int)) = true := decide_eq_true (by omega)
        have q2 : decide (1000 < x.es.length) = true := decide_eq_true hlen
        go_wp2
        go_ret
        exact HNO.out
      · have q1 : decide ((1000 : Int) < (x.es.length : Int)) = false := decide_eq_false (by omega)
        have q2 : decide (1000 < x.es.length) = false := decide_eq_false hlen
        go_wp2
        go_loopw [8, 9] (fun i _ y => ∃ t : Nat, t ≤ x.es.length ∧ i = .int .i64 (t : Int) ∧ (∀ e ∈ x.es.take t, e.slot ≤ f + 1000) ∧ y = wr) (fun i _ _ => x.es.length - (intOf i).toNat)
        case atStart => exact ⟨0, Nat.zero_le _, rfl, fun x hx => by simp at hx, rfl⟩
        case round =>
          obtain ⟨t, ht, rfl, hoe, hwr⟩ := hrel
          subst hwr
          by_cases htl : t < x.es.length
          · have p0 : decide ((t : Int) < (x.es.length : Int)) = true := decide_eq_true (by omega)
            obtain ⟨bu, ou, cap2, huu, _, _, hu⟩ := HUX.out.cells enC_len (by omega)
            injection huu with e1 e2 e3
            subst e1 e3
            clear e2
            obtain ⟨e, he⟩ : ∃ e, e = x.es[t] := ⟨_, rfl⟩
            have y0 := hu t htl 0 (.int .i64 e.slot) (by decide) (by rw [he]; rfl)
            rw [Nat.add_zero] at y0
            have HT : Hid (e.slot ≤ f + 1000 → ∀ z ∈ x.es.take (t + 1), z.slot ≤ f + 1000) := fun h5 z hz => by
              rw [List.take_add_one, List.getElem?_eq_getElem htl, ← he] at hz
              rcases List.mem_append.1 hz with h6 | h6
              · exact hoe z h6
              · have h7 : z = e := by simpa using h6
                rw [h7]
                exact h5
            clear hu he hoe
            by_cases hf : f + 1000 < e.slot
            · have p1 : decide (f + 1000 < e.slot) = true := decide_eq_true hf
              go_wp2
              go_ret
              exact HNO.out
            · have p1 : decide (f + 1000 < e.slot) = false := decide_eq_false hf
              go_wp2
              go_roundw
              case rel => exact ⟨t + 1, htl, by go_num, HT.out (by omega), trivial⟩
              case measure => simp [intOf]; omega
          · have p0 : decide ((t : Int) < (x.es.length : Int)) = false := decide_eq_false (by omega)
            rw [List.take_of_length_le (by omega)] at hoe
            have HO : Hid _ := hoe
            clear hoe
            go_wp2
            go_roundw
            case rel => exact ⟨k + 1, hkl, by go_num, HS.out ⟨by omega, HO.out⟩, trivial⟩
            case measure => simp [intOf]; omega
    · have q0 : decide ((k : Int) < (l.length : Int)) = false := decide_eq_false (by omega)
      rw [List.take_of_length_le (by omega)] at hok
      have HO : Hid (FewPost wr n f l (.returned (.bool true)) wr) := ⟨true, rfl, fun _ => ⟨HB.out.1, HB.out.2, hok⟩, rfl⟩
      clear hok
      go_wp2
      go_ret
      exact HO.out
end Go.Proofs.Ytmlgoecdefeapaa
