/-
  The document's clocks (package latchkeyref07): all go on. The condition: the numbers handed in lie in no block of the clocks' own.
-/
import Derived.Test.YtcecgphjaofgbaaCkMem
namespace Go.Proofs.Ytcecgphjaofgbaa
open Go.RowKit

def negB (bs : List Int) : Bool := bs.any fun x => decide (x < 0)
def farI (l : List Nat) (bs : List Int) (i : Nat) : Bool := decide ((1099511627776 : Int) - ((l.getD i 0 : Nat) : Int) < bs.getD i 0)
def farK (l : List Nat) (real : Nat) (dr : Int) (bs : List Int) (k : Nat) : Bool := decide ((1099511627776 : Int) - (real : Int) < dr) || (List.range k).any (farI l bs)
theorem farK_succ (l : List Nat) (real : Nat) (dr : Int) (bs : List Int) (k : Nat) : farK l real dr bs (k + 1) = (farK l real dr bs k || farI l bs k) := by
  unfold farK
  rw [List.range_succ, List.any_append]
  simp [Bool.or_assoc]
theorem farK_at {l : List Nat} {real : Nat} {dr : Int} {bs : List Int} {n : Nat} (h : farK l real dr bs n = false) : dr ≤ 1099511627776 - (real : Int) ∧ ∀ k, k < n → bs.getD k 0 ≤ 1099511627776 - ((l.getD k 0 : Nat) : Int) := by
  unfold farK at h
  rw [Bool.or_eq_false_iff, decide_eq_false_iff_not] at h
  refine ⟨by omega, fun k hk => ?_⟩
  have h2 := h.2
  rw [List.any_eq_false] at h2
  have h3 := h2 k (List.mem_range.2 hk)
  unfold farI at h3
  rw [decide_eq_true_eq] at h3
  omega
/-- The clocks, the first k of them gone on. -/
def goL (l : List Nat) (bs : List Int) (k : Nat) : List Nat := (List.range l.length).map fun i => if i < k then l.getD i 0 + (bs.getD i 0).toNat else l.getD i 0
theorem goL_length (l : List Nat) (bs : List Int) (k : Nat) : (goL l bs k).length = l.length := by unfold goL; simp
theorem goL_zero (l : List Nat) (bs : List Int) : goL l bs 0 = l := by
  unfold goL
  refine List.ext_getElem (by simp) (fun i h1 h2 => ?_)
  simp [h2]
theorem goL_at (l : List Nat) (bs : List Int) (k : Nat) (hk : k < l.length) (h : k < (goL l bs k).length) : (goL l bs k)[k] = l[k] := by
  unfold goL
  simp [hk]
theorem goL_succ (l : List Nat) (bs : List Int) (k : Nat) (hk : k < l.length) : (goL l bs k).set k (l[k] + (bs.getD k 0).toNat) = goL l bs (k + 1) := by
  unfold goL
  refine List.ext_getElem (by simp) (fun i h1 h2 => ?_)
  have hi : i < l.length := by simpa using h2
  rw [List.getElem_set]
  by_cases e : k = i
  · subst e
    simp [hi]
  · rw [if_neg e]
    simp only [List.getElem_map, List.getElem_range]
    by_cases c : i < k
    · rw [if_pos c, if_pos (by omega)]
    · rw [if_neg c, if_neg (by omega)]
def goZ (l : List Nat) (real : Nat) (dr : Int) (bs : List Int) : Int := if dr < 0 ∨ bs.length ≠ l.length ∨ negB bs = true then 1 else if farK l real dr bs bs.length = true then 15 else 0
def GoPost (T : TypeId) (w w' : World) (base D : Nat) (S : Nat → Prop) (l : List Nat) (real : Nat) (dr : Int) (bs : List Int) : Prop :=
  (goZ l real dr bs = 0 → CkAt T w' base D S (goL l bs l.length) (real + dr.toNat)) ∧ (goZ l real dr bs ≠ 0 → CkAt T w' base D S l real) ∧ Kept w w' S S
theorem GoPost.no {T : TypeId} {w w' : World} {base D : Nat} {S : Nat → Prop} {l : List Nat} {real : Nat} {dr : Int} {bs : List Int} {z : Int} (h : CkAt T w base D S l real) (hz : goZ l real dr bs = z) (h0 : z ≠ 0) (k : Below w.heap.size w w') : GoPost T w w' base D S l real dr bs :=
  ⟨fun e => absurd (hz.symm.trans e) h0, fun _ => h.fresh k, Kept.of k⟩
set_option maxHeartbeats 6400000 in
set_option maxRecDepth 100000 in
theorem rgo_any {w : World} {base D : Nat} {S : Nat → Prop} {l : List Nat} {real : Nat} (h : CkAt RT w base D S l real) (dr : Int) (hd : dr ≤ 9223372036854775807) (v : Value) (bs : List Int) (hv : IntsAt w v bs) (hS : ∀ a bk off n cap, 0 < n → v = .slice a n cap → a = some ⟨bk, off, none⟩ → ¬ S bk) :
    Calls Try.prog 13 #[.pointer (some ⟨D, 0, none⟩), .int .i64 dr, v] w fun e w' => e = .returned (.int .i64 (goZ l real dr bs)) ∧ GoPost RT w w' base D S l real dr bs := by
  obtain ⟨av, cv, rfl, _, hx⟩ := hv.ex
  have HX : Hid (bs.length = 0 ∨ ∃ bk off, av = some ⟨bk, off, none⟩ ∧ bk < w.heap.size ∧ ∀ j (hj : j < bs.length), w.cell? ⟨bk, off + j, none⟩ = some (.int .i64 bs[j])) := hx
  have HS : Hid (0 < bs.length → ∀ bk off, av = some ⟨bk, off, none⟩ → ¬ S bk) := fun h0 bk off e => hS av bk off _ _ h0 rfl e
  have HLO : Hid _ := hv.lo
  have HC : Hid _ := h
  have hn2 := h.n2
  have hrl := h.rl
  obtain ⟨g, c, hb, c0, c1, f1, hSg, hgl, hc, hf, hgD⟩ := h.cells
  have hDl : D < w.heap.size := (h.bd D h.sD).2
  have HB : Hid _ := hb
  have HCC : Hid (∀ n (hn : n < l.length), w.cell? ⟨g, n, none⟩ = some (.int .i64 (l[n] : Int))) := hc
  clear hv hS hx h hb hc hf
  by_cases h1 : dr < 0
  · have q1 : decide (dr < 0) = true := decide_eq_true h1
    have e : goZ l real dr bs = 1 := by unfold goZ; rw [if_pos (Or.inl h1)]
    rw [e]
    have HP : Hid _ := GoPost.no HC.out e (by decide) (Below.refl _ w)
    clear e
    go_enter Try.func13, Try.ntmps13
    go_wp2
    go_ret
    exact ⟨rfl, HP.out⟩
  have q1 : decide (dr < 0) = false := decide_eq_false h1
  by_cases h2n : ¬ bs.length = l.length
  · have q2 : ((bs.length : Int) == (l.length : Int)) = false := by
      rw [beq_eq_false_iff_ne]
      omega
    have e : goZ l real dr bs = 1 := by unfold goZ; rw [if_pos (Or.inr (Or.inl h2n))]
    rw [e]
    have HP : Hid _ := GoPost.no HC.out e (by decide) (Below.refl _ w)
    clear e
    go_enter Try.func13, Try.ntmps13
    go_wp2
    go_ret
    exact ⟨rfl, HP.out⟩
  have HLEN : Hid (bs.length = l.length) := by show _ = _; omega
  have q2 : ((bs.length : Int) == (l.length : Int)) = true := by
    have := HLEN.out
    rw [beq_iff_eq]
    omega
  have hbl : bs.length ≤ 13 := by have := HLEN.out; omega
  clear h2n
  go_enter Try.func13, Try.ntmps13
  go_wp2
  go_loop [7] (fun i => ∃ k : Nat, k ≤ bs.length ∧ i = .int .i64 k ∧ Hid (∀ j (hj : j < bs.length), j < k → ¬ bs[j] < 0)) (fun i => bs.length - (intOf i).toNat)
  case atStart => exact ⟨0, Nat.zero_le _, rfl, fun j hj h0 => by omega⟩
  case round =>
    obtain ⟨k, hk, rfl, HN⟩ := hrel
    by_cases hkl : k < bs.length
    · rcases HX.out with h0 | ⟨bk, off, rfl, hbk, hxx⟩
      · omega
      have z := hxx k hkl
      by_cases hneg : bs[k] < 0
      · have HZ : Hid (goZ l real dr bs = 1) := by
          show _ = _
          unfold goZ
          rw [if_pos]
          refine Or.inr (Or.inr ?_)
          unfold negB
          rw [List.any_eq_true]
          exact ⟨bs[k], List.getElem_mem hkl, decide_eq_true hneg⟩
        have HP : Hid _ := GoPost.no HC.out HZ.out (by decide) (Below.refl _ w)
        clear hxx
        generalize bs[k] = X at *
        go_wp2
        go_ret
        exact ⟨by rw [HZ.out]; rfl, HP.out⟩
      · have HN2 : Hid (∀ j (hj : j < bs.length), j < k + 1 → ¬ bs[j] < 0) := fun j hj h0 => by
          by_cases e : j = k
          · subst e
            exact hneg
          · exact HN.out j hj (by omega)
        clear hxx HN
        generalize bs[k] = X at *
        go_wp2
        go_round
        case rel => exact ⟨k + 1, hkl, by go_num, HN2⟩
        case measure => simp [intOf]; omega
    · have hke : k = bs.length := by omega
      subst hke
      have hng : negB bs = false := by
        unfold negB
        rw [List.any_eq_false]
        intro x hx
        obtain ⟨j, hj, rfl⟩ := List.getElem_of_mem hx
        rw [decide_eq_true_eq]
        exact HN.out j hj hj
      have HNG : Hid (negB bs = false) := hng
      have HNN : Hid (∀ j (hj : j < bs.length), j < bs.length → ¬ bs[j] < 0) := HN.out
      have hF0 : decide ((1099511627776 : Int) - (real : Int) < dr) = farK l real dr bs 0 := by unfold farK; simp
      have HF0 : Hid _ := hF0
      clear hng HN hF0
      go_wp2
      go_loopw [8, 9] (fun f i wr => ∃ k : Nat, k ≤ bs.length ∧ f = .bool (farK l real dr bs k) ∧ i = .int .i64 k ∧ Below w.heap.size w wr) (fun _ i _ => bs.length - (intOf i).toNat)
      case atStart => exact ⟨0, Nat.zero_le _, by rw [← HF0.out], rfl, Below.refl _ _⟩
      case round =>
        obtain ⟨k, hk, rfl, rfl, bel⟩ := hrel
        by_cases hkl : k < bs.length
        · rcases HX.out with h0 | ⟨bk, off, rfl, hbk, hxx⟩
          · omega
          have hkL : k < l.length := by have := HLEN.out; omega
          have z0 := (bel.cell (p := ⟨bk, off + k, none⟩) (by exact hbk)).trans (hxx k hkl)
          have z1 := (bel.cell (p := ⟨D, 0, none⟩) (by exact hDl)).trans c0
          have z2 := (bel.cell (p := ⟨g, k, none⟩) (by exact hgl)).trans (HCC.out k hkL)
          have hlk := HC.out.le _ (List.getElem_mem hkL)
          have hfk : farI l bs k = decide ((1099511627776 : Int) - (l[k] : Int) < bs[k]) := by unfold farI; simp [List.getD, hkl, hkL]
          have hwr : IntKind.i64.wrap (1099511627776 - (l[k] : Int)) = 1099511627776 - (l[k] : Int) := IntWalk.i64_in _ ⟨by omega, by omega⟩
          cases hfb : farK l real dr bs k with
          | false =>
            have HFS : Hid (farK l real dr bs (k + 1) = decide ((1099511627776 : Int) - (l[k] : Int) < bs[k])) := by
              show _ = _
              rw [farK_succ, hfb, hfk, Bool.false_or]
            clear hxx hfk hfb HCC
            go_wp2
            refine wp_region_held_drew (S := (fun w' : World => w'.cell? ⟨bk, off + k, none⟩ = some (.int .i64 bs[k]) ∧ w'.cell? ⟨D, 0, none⟩ = some (.slice (some ⟨g, 0, none⟩) l.length c) ∧ w'.cell? ⟨g, k, none⟩ = some (.int .i64 (l[k] : Int)))) (by kernel_rfl) ?_ (fun hHeld0 => ?_)
            · try dsimp only
              go_keep
            refine tk0 (.bool false) (by kernel_rfl) (by kernel_rfl) (by kernel_rfl) (fun _ _ _ h => h) rfl (fun w hSw => by (try dsimp only at hSw); obtain ⟨q0, q1, q2⟩ := hSw; go_simp) (by assumption) ?_
            try simp only [Act.put, List.setIfInBounds_toArray, List.set_cons_zero, List.set_cons_succ]
            refine tk1 (.bool false) (by kernel_rfl) (by kernel_rfl) (by kernel_rfl) (fun _ _ _ h => h) rfl (fun w hSw => by (try dsimp only at hSw); obtain ⟨q0, q1, q2⟩ := hSw; go_simp) (by assumption) ?_
            try simp only [Act.put, List.setIfInBounds_toArray, List.set_cons_zero, List.set_cons_succ]
            refine tk2 (.slice (some ⟨bk, off, none⟩) bs.length cv) (by kernel_rfl) (by kernel_rfl) (by kernel_rfl) (fun _ _ _ h => h) rfl (fun w hSw => by (try dsimp only at hSw); obtain ⟨q0, q1, q2⟩ := hSw; go_simp) (by assumption) ?_
            try simp only [Act.put, List.setIfInBounds_toArray, List.set_cons_zero, List.set_cons_succ]
            refine tk3 (.int .i64 (k : Int)) (by kernel_rfl) (by kernel_rfl) (by kernel_rfl) (fun _ _ _ h => h) rfl (fun w hSw => by (try dsimp only at hSw); obtain ⟨q0, q1, q2⟩ := hSw; go_simp) (by assumption) ?_
            try simp only [Act.put, List.setIfInBounds_toArray, List.set_cons_zero, List.set_cons_succ]
            refine tk4 (.pointer (some ⟨bk, off + k, none⟩)) (by kernel_rfl) (by kernel_rfl) (by kernel_rfl) (fun _ _ _ h => h) rfl (fun w hSw => by (try dsimp only at hSw); obtain ⟨q0, q1, q2⟩ := hSw; go_simp) (by assumption) ?_
            try simp only [Act.put, List.setIfInBounds_toArray, List.set_cons_zero, List.set_cons_succ]
            refine tk5 (.int .i64 bs[k]) (by kernel_rfl) (by kernel_rfl) (by kernel_rfl) (fun _ _ _ h => h) rfl (fun w hSw => by (try dsimp only at hSw); obtain ⟨q0, q1, q2⟩ := hSw; go_simp) (by assumption) ?_
            try simp only [Act.put, List.setIfInBounds_toArray, List.set_cons_zero, List.set_cons_succ]
            refine tk6 (.pointer (some ⟨D, 0, none⟩)) (by kernel_rfl) (by kernel_rfl) (by kernel_rfl) (fun _ _ _ h => h) rfl (fun w hSw => by (try dsimp only at hSw); obtain ⟨q0, q1, q2⟩ := hSw; go_simp) (by assumption) ?_
            try simp only [Act.put, List.setIfInBounds_toArray, List.set_cons_zero, List.set_cons_succ]
            refine tk7 (.pointer (some ⟨D, 0, none⟩)) (by kernel_rfl) (by kernel_rfl) (by kernel_rfl) (fun _ _ _ h => h) rfl (fun w hSw => by (try dsimp only at hSw); obtain ⟨q0, q1, q2⟩ := hSw; go_simp) (by assumption) ?_
            try simp only [Act.put, List.setIfInBounds_toArray, List.set_cons_zero, List.set_cons_succ]
            refine tk8 (.pointer (some ⟨D, 0, none⟩)) (by kernel_rfl) (by kernel_rfl) (by kernel_rfl) (fun _ _ _ h => h) rfl (fun w hSw => by (try dsimp only at hSw); obtain ⟨q0, q1, q2⟩ := hSw; go_simp) (by assumption) ?_
            try simp only [Act.put, List.setIfInBounds_toArray, List.set_cons_zero, List.set_cons_succ]
            refine tk9 (.slice (some ⟨g, 0, none⟩) l.length c) (by kernel_rfl) (by kernel_rfl) (by kernel_rfl) (fun _ _ _ h => h) rfl (fun w hSw => by (try dsimp only at hSw); obtain ⟨q0, q1, q2⟩ := hSw; go_simp) (by assumption) ?_
            try simp only [Act.put, List.setIfInBounds_toArray, List.set_cons_zero, List.set_cons_succ]
            refine tk10 (.int .i64 (k : Int)) (by kernel_rfl) (by kernel_rfl) (by kernel_rfl) (fun _ _ _ h => h) rfl (fun w hSw => by (try dsimp only at hSw); obtain ⟨q0, q1, q2⟩ := hSw; go_simp) (by assumption) ?_
            try simp only [Act.put, List.setIfInBounds_toArray, List.set_cons_zero, List.set_cons_succ]
            refine tk11 (.pointer (some ⟨g, k, none⟩)) (by kernel_rfl) (by kernel_rfl) (by kernel_rfl) (fun _ _ _ h => h) rfl (fun w hSw => by (try dsimp only at hSw); obtain ⟨q0, q1, q2⟩ := hSw; go_simp) (by assumption) ?_
            try simp only [Act.put, List.setIfInBounds_toArray, List.set_cons_zero, List.set_cons_succ]
            refine tk12 (.int .i64 (l[k] : Int)) (by kernel_rfl) (by kernel_rfl) (by kernel_rfl) (fun _ _ _ h => h) rfl (fun w hSw => by (try dsimp only at hSw); obtain ⟨q0, q1, q2⟩ := hSw; go_simp) (by assumption) ?_
            try simp only [Act.put, List.setIfInBounds_toArray, List.set_cons_zero, List.set_cons_succ]
            refine tk13 (.int .i64 (1099511627776 - (l[k] : Int))) (by kernel_rfl) (by kernel_rfl) (by kernel_rfl) (fun _ _ _ h => h) rfl (fun w hSw => by (try dsimp only at hSw); obtain ⟨q0, q1, q2⟩ := hSw; go_simp) (by assumption) ?_
            try simp only [Act.put, List.setIfInBounds_toArray, List.set_cons_zero, List.set_cons_succ]
            refine tk14 (.bool (decide ((1099511627776 : Int) - (l[k] : Int) < bs[k]))) (by kernel_rfl) (by kernel_rfl) (by kernel_rfl) (fun _ _ _ h => h) rfl (fun w hSw => by (try dsimp only at hSw); obtain ⟨q0, q1, q2⟩ := hSw; go_simp) (by assumption) ?_
            try simp only [Act.put, List.setIfInBounds_toArray, List.set_cons_zero, List.set_cons_succ]
            refine tk15 (.bool (decide ((1099511627776 : Int) - (l[k] : Int) < bs[k]))) (by kernel_rfl) (by kernel_rfl) (by kernel_rfl) (fun _ _ _ h => h) rfl (fun w hSw => by (try dsimp only at hSw); obtain ⟨q0, q1, q2⟩ := hSw; go_simp) (by assumption) ?_
            try simp only [Act.put, List.setIfInBounds_toArray, List.set_cons_zero, List.set_cons_succ]
            refine tk16 (.bool (decide ((1099511627776 : Int) - (l[k] : Int) < bs[k]))) (by kernel_rfl) (by kernel_rfl) (by kernel_rfl) (fun _ _ _ h => h) rfl (fun w hSw => by (try dsimp only at hSw); obtain ⟨q0, q1, q2⟩ := hSw; go_simp) (by assumption) ?_
            try simp only [Act.put, List.setIfInBounds_toArray, List.set_cons_zero, List.set_cons_succ]
            refine wpAnyH_done (by kernel_rfl) ?_ _
            go_wp2
            go_roundw
            case rel => exact ⟨k + 1, hkl, by rw [HFS.out], by go_num, bmm bel bel.size (undrew (Below.refl _ wr.drew))⟩
            case measure => simp [intOf]; omega
          | true =>
            have HFS : Hid (farK l real dr bs (k + 1) = true) := by
              show _ = _
              rw [farK_succ, hfb, Bool.true_or]
            clear hxx hfk hfb HCC
            go_wp2
            refine wp_region_held_drew (S := (fun _ : World => True)) (by kernel_rfl) ?_ (fun hHeld0 => ?_)
            · trivial
            refine tk0 (.bool true) (by kernel_rfl) (by kernel_rfl) (by kernel_rfl) (fun _ _ _ h => h) rfl (fun w hSw => by (try dsimp only at hSw); go_simp) trivial ?_
            try simp only [Act.put, List.setIfInBounds_toArray, List.set_cons_zero, List.set_cons_succ]
            refine tk1 (.bool true) (by kernel_rfl) (by kernel_rfl) (by kernel_rfl) (fun _ _ _ h => h) rfl (fun w hSw => by (try dsimp only at hSw); go_simp) trivial ?_
            try simp only [Act.put, List.setIfInBounds_toArray, List.set_cons_zero, List.set_cons_succ]
            refine sk2 (by kernel_rfl) (by kernel_rfl) (by kernel_rfl) (fun _ _ _ h => h) rfl trivial ?_
            try simp only [Act.put, List.setIfInBounds_toArray, List.set_cons_zero, List.set_cons_succ]
            refine sk3 (by kernel_rfl) (by kernel_rfl) (by kernel_rfl) (fun _ _ _ h => h) rfl trivial ?_
            try simp only [Act.put, List.setIfInBounds_toArray, List.set_cons_zero, List.set_cons_succ]
            refine sk4 (by kernel_rfl) (by kernel_rfl) (by kernel_rfl) (fun _ _ _ h => h) rfl trivial ?_
            try simp only [Act.put, List.setIfInBounds_toArray, List.set_cons_zero, List.set_cons_succ]
            refine sk5 (by kernel_rfl) (by kernel_rfl) (by kernel_rfl) (fun _ _ _ h => h) rfl trivial ?_
            try simp only [Act.put, List.setIfInBounds_toArray, List.set_cons_zero, List.set_cons_succ]
            refine sk6 (by kernel_rfl) (by kernel_rfl) (by kernel_rfl) (fun _ _ _ h => h) rfl trivial ?_
            try simp only [Act.put, List.setIfInBounds_toArray, List.set_cons_zero, List.set_cons_succ]
            refine sk7 (by kernel_rfl) (by kernel_rfl) (by kernel_rfl) (fun _ _ _ h => h) rfl trivial ?_
            try simp only [Act.put, List.setIfInBounds_toArray, List.set_cons_zero, List.set_cons_succ]
            refine sk8 (by kernel_rfl) (by kernel_rfl) (by kernel_rfl) (fun _ _ _ h => h) rfl trivial ?_
            try simp only [Act.put, List.setIfInBounds_toArray, List.set_cons_zero, List.set_cons_succ]
            refine sk9 (by kernel_rfl) (by kernel_rfl) (by kernel_rfl) (fun _ _ _ h => h) rfl trivial ?_
            try simp only [Act.put, List.setIfInBounds_toArray, List.set_cons_zero, List.set_cons_succ]
            refine sk10 (by kernel_rfl) (by kernel_rfl) (by kernel_rfl) (fun _ _ _ h => h) rfl trivial ?_
            try simp only [Act.put, List.setIfInBounds_toArray, List.set_cons_zero, List.set_cons_succ]
            refine sk11 (by kernel_rfl) (by kernel_rfl) (by kernel_rfl) (fun _ _ _ h => h) rfl trivial ?_
            try simp only [Act.put, List.setIfInBounds_toArray, List.set_cons_zero, List.set_cons_succ]
            refine sk12 (by kernel_rfl) (by kernel_rfl) (by kernel_rfl) (fun _ _ _ h => h) rfl trivial ?_
            try simp only [Act.put, List.setIfInBounds_toArray, List.set_cons_zero, List.set_cons_succ]
            refine sk13 (by kernel_rfl) (by kernel_rfl) (by kernel_rfl) (fun _ _ _ h => h) rfl trivial ?_
            try simp only [Act.put, List.setIfInBounds_toArray, List.set_cons_zero, List.set_cons_succ]
            refine sk14 (by kernel_rfl) (by kernel_rfl) (by kernel_rfl) (fun _ _ _ h => h) rfl trivial ?_
            try simp only [Act.put, List.setIfInBounds_toArray, List.set_cons_zero, List.set_cons_succ]
            refine tk15 (.bool true) (by kernel_rfl) (by kernel_rfl) (by kernel_rfl) (fun _ _ _ h => h) rfl (fun w hSw => by (try dsimp only at hSw); go_simp) trivial ?_
            try simp only [Act.put, List.setIfInBounds_toArray, List.set_cons_zero, List.set_cons_succ]
            refine tk16 (.bool true) (by kernel_rfl) (by kernel_rfl) (by kernel_rfl) (fun _ _ _ h => h) rfl (fun w hSw => by (try dsimp only at hSw); go_simp) trivial ?_
            try simp only [Act.put, List.setIfInBounds_toArray, List.set_cons_zero, List.set_cons_succ]
            refine wpAnyH_done (by kernel_rfl) ?_ _
            go_wp2
            go_roundw
            case rel => exact ⟨k + 1, hkl, by rw [HFS.out], by go_num, bmm bel bel.size (undrew (Below.refl _ wr.drew))⟩
            case measure => simp [intOf]; omega
        · have hke : k = bs.length := by omega
          subst hke
          cases hfb : farK l real dr bs bs.length with
          | true =>
            have HZ : Hid (goZ l real dr bs = 15) := by
              show _ = _
              unfold goZ
              rw [if_neg (by have := HLEN.out; rw [HNG.out]; simp; omega), if_pos hfb]
            have HP : Hid _ := GoPost.no HC.out HZ.out (by decide) bel
            clear hfb
            go_wp2
            go_ret
            exact ⟨by rw [HZ.out]; rfl, HP.out⟩
          | false =>
            have HZ : Hid (goZ l real dr bs = 0) := by
              show _ = _
              unfold goZ
              rw [if_neg (by have := HLEN.out; rw [HNG.out]; simp; omega), if_neg (by rw [hfb]; simp)]
            obtain ⟨hdr, hall⟩ := farK_at hfb
            have HALL : Hid _ := hall
            obtain ⟨dn, rfl⟩ : ∃ dn : Nat, dr = (dn : Int) := ⟨dr.toNat, by omega⟩
            have hsum : real + dn ≤ 1099511627776 := by omega
            have hCw := HC.out.fresh bel
            have hbw := (bel.block D hDl).trans HB.out
            have HG0 := hCw.go hbw hsum
            have e5 : (((real + dn : Nat)) : Int) = (real : Int) + (dn : Int) := by omega
            rw [e5] at HG0
            obtain ⟨G1, G2, G3⟩ := HG0
            have K0 : Hid (Kept w (wr.setCell ⟨D, 1, none⟩ (.int .i64 ((real : Int) + (dn : Int)))) S S) := (Kept.of bel).trans G2
            have G1h : Hid _ := G1
            have z1 := (bel.cell (p := ⟨D, 1, none⟩) (by exact hDl)).trans c1
            have fz1 := (bel.frozen (p := ⟨D, 1, none⟩) (by exact hDl)).trans f1
            clear hfb hall hCw hbw G1 G2 G3 HCC HF0
            go_wp2
            go_loopw [10] (fun i wr => ∃ k : Nat, k ≤ bs.length ∧ i = .int .i64 k ∧ CkAt RT wr base D S (goL l bs k) (real + dn) ∧ Kept w wr S S) (fun i _ => bs.length - (intOf i).toNat)
            case atStart => exact ⟨0, Nat.zero_le _, rfl, by rw [goL_zero]; exact G1h.out, K0.out⟩
            case round =>
              clear bel z1 fz1 K0 G1h
              obtain ⟨k, hk, rfl, hCk, hK⟩ := hrel
              by_cases hkl : k < bs.length
              · rcases HX.out with h0 | ⟨bk, off, rfl, hbk, hxx⟩
                · omega
                have hkL : k < l.length := by have := HLEN.out; omega
                have hnS := HS.out (by omega) bk off rfl
                have z0 : wr.cell? ⟨bk, off + k, none⟩ = some (.int .i64 bs[k]) := (World.cell?_of_block (hK.kept bk hbk hnS)).trans (hxx k hkl)
                obtain ⟨g2, c2, hb2, a0, _, _, hSg2, hgl2, hcc, hff, hgD2⟩ := hCk.cells
                rw [goL_length] at hb2 a0
                have hne : bk ≠ g2 := fun e => hnS (by rw [e]; exact hSg2)
                have zc := hcc k (by rw [goL_length]; exact hkL)
                rw [goL_at l bs k hkL (by rw [goL_length]; exact hkL)] at zc
                have zf := hff k
                have hbd := HALL.out k hkl
                have hgb : bs.getD k 0 = bs[k] := by simp [List.getD, hkl]
                have hgl3 : l.getD k 0 = l[k] := by simp [List.getD, hkL]
                rw [hgb, hgl3] at hbd
                have hnn := HNN.out k hkl hkl
                have hlk := HC.out.le _ (List.getElem_mem hkL)
                obtain ⟨q, hq⟩ : ∃ q : Nat, bs[k] = (q : Int) := ⟨bs[k].toNat, by omega⟩
                have hP := hCk.put (n := k) (x := l[k] + q) (by rw [goL_length]; exact hb2) (by omega)
                have e6 : (((l[k] + q : Nat)) : Int) = (l[k] : Int) + (q : Int) := by omega
                have e7 : (goL l bs k).set k (l[k] + q) = goL l bs (k + 1) := by
                  rw [← goL_succ l bs k hkL, hgb, hq]
                  rfl
                rw [e6, e7, ← hq] at hP
                have HN : Hid (CkAt RT (wr.setCell ⟨g2, k, none⟩ (.int .i64 ((l[k] : Int) + bs[k]))).drew base D S (goL l bs (k + 1)) (real + dn) ∧ Kept w (wr.setCell ⟨g2, k, none⟩ (.int .i64 ((l[k] : Int) + bs[k]))).drew S S) := ⟨hP.1.drew, hK.trans ⟨hP.2.os, hP.2.tape, hP.2.output, hP.2.size, hP.2.old, hP.2.kept⟩⟩
                have hwr : IntKind.i64.wrap ((l[k] : Int) + bs[k]) = (l[k] : Int) + bs[k] := IntWalk.i64_in _ ⟨by omega, by omega⟩
                have y0 : ∀ x, (wr.setCell ⟨g2, k, none⟩ x).cell? ⟨bk, off + k, none⟩ = some (.int .i64 bs[k]) := fun x => by rw [World.cell?_of_block (heap_setCell_other _ _ _ _ (by simpa using hne))]; exact z0
                have y1 : ∀ x, (wr.setCell ⟨g2, k, none⟩ x).cell? ⟨D, 0, none⟩ = some (.slice (some ⟨g2, 0, none⟩) l.length c2) := fun x => by rw [World.cell?_of_block (heap_setCell_other _ _ _ _ (by simpa using Ne.symm hgD2))]; exact a0
                clear hxx hb2 hcc hff hP hCk hK e6 e7 hq hgb hgl3
                go_wp2
                refine wp_region_held_drew (S := (fun w' : World => w'.cell? ⟨bk, off + k, none⟩ = some (.int .i64 bs[k]) ∧ w'.cell? ⟨D, 0, none⟩ = some (.slice (some ⟨g2, 0, none⟩) l.length c2))) (by kernel_rfl) ?_ (fun hHeld0 => ?_)
                · try dsimp only
                  go_keep
                refine tk0 (.pointer (some ⟨D, 0, none⟩)) (by kernel_rfl) (by kernel_rfl) (by kernel_rfl) (fun _ _ _ h => h) rfl (fun w hSw => by (try dsimp only at hSw); obtain ⟨q0, q1⟩ := hSw; go_simp) (by assumption) ?_
                try simp only [Act.put, List.setIfInBounds_toArray, List.set_cons_zero, List.set_cons_succ]
                refine tk1 (.pointer (some ⟨D, 0, none⟩)) (by kernel_rfl) (by kernel_rfl) (by kernel_rfl) (fun _ _ _ h => h) rfl (fun w hSw => by (try dsimp only at hSw); obtain ⟨q0, q1⟩ := hSw; go_simp) (by assumption) ?_
                try simp only [Act.put, List.setIfInBounds_toArray, List.set_cons_zero, List.set_cons_succ]
                refine tk2 (.pointer (some ⟨D, 0, none⟩)) (by kernel_rfl) (by kernel_rfl) (by kernel_rfl) (fun _ _ _ h => h) rfl (fun w hSw => by (try dsimp only at hSw); obtain ⟨q0, q1⟩ := hSw; go_simp) (by assumption) ?_
                try simp only [Act.put, List.setIfInBounds_toArray, List.set_cons_zero, List.set_cons_succ]
                refine tk3 (.slice (some ⟨g2, 0, none⟩) l.length c2) (by kernel_rfl) (by kernel_rfl) (by kernel_rfl) (fun _ _ _ h => h) rfl (fun w hSw => by (try dsimp only at hSw); obtain ⟨q0, q1⟩ := hSw; go_simp) (by assumption) ?_
                try simp only [Act.put, List.setIfInBounds_toArray, List.set_cons_zero, List.set_cons_succ]
                refine tk4 (.int .i64 (k : Int)) (by kernel_rfl) (by kernel_rfl) (by kernel_rfl) (fun _ _ _ h => h) rfl (fun w hSw => by (try dsimp only at hSw); obtain ⟨q0, q1⟩ := hSw; go_simp) (by assumption) ?_
                try simp only [Act.put, List.setIfInBounds_toArray, List.set_cons_zero, List.set_cons_succ]
                refine tk5 (.pointer (some ⟨g2, k, none⟩)) (by kernel_rfl) (by kernel_rfl) (by kernel_rfl) (fun _ _ _ h => h) rfl (fun w hSw => by (try dsimp only at hSw); obtain ⟨q0, q1⟩ := hSw; go_simp) (by assumption) ?_
                try simp only [Act.put, List.setIfInBounds_toArray, List.set_cons_zero, List.set_cons_succ]
                refine tk7 (.slice (some ⟨bk, off, none⟩) bs.length cv) (by kernel_rfl) (by kernel_rfl) (by kernel_rfl) (fun _ _ _ h => h) rfl (fun w hSw => by (try dsimp only at hSw); obtain ⟨q0, q1⟩ := hSw; go_simp) (by assumption) ?_
                try simp only [Act.put, List.setIfInBounds_toArray, List.set_cons_zero, List.set_cons_succ]
                refine tk8 (.int .i64 (k : Int)) (by kernel_rfl) (by kernel_rfl) (by kernel_rfl) (fun _ _ _ h => h) rfl (fun w hSw => by (try dsimp only at hSw); obtain ⟨q0, q1⟩ := hSw; go_simp) (by assumption) ?_
                try simp only [Act.put, List.setIfInBounds_toArray, List.set_cons_zero, List.set_cons_succ]
                refine tk9 (.pointer (some ⟨bk, off + k, none⟩)) (by kernel_rfl) (by kernel_rfl) (by kernel_rfl) (fun _ _ _ h => h) rfl (fun w hSw => by (try dsimp only at hSw); obtain ⟨q0, q1⟩ := hSw; go_simp) (by assumption) ?_
                try simp only [Act.put, List.setIfInBounds_toArray, List.set_cons_zero, List.set_cons_succ]
                refine tk10 (.int .i64 bs[k]) (by kernel_rfl) (by kernel_rfl) (by kernel_rfl) (fun _ _ _ h => h) rfl (fun w hSw => by (try dsimp only at hSw); obtain ⟨q0, q1⟩ := hSw; go_simp) (by assumption) ?_
                try simp only [Act.put, List.setIfInBounds_toArray, List.set_cons_zero, List.set_cons_succ]
                refine cl6 (by kernel_rfl) rfl (fun K hK => ?_)
                go_simp
                refine hK.out _ _ ?_ (fun hHeld => ?_)
                · try dsimp only
                  go_keep
                clear hK K
                try simp only [Act.put, List.setIfInBounds_toArray, List.set_cons_zero, List.set_cons_succ]
                refine tk11 (.int .i64 ((l[k] : Int) + bs[k])) (by kernel_rfl) (by kernel_rfl) (by kernel_rfl) (fun _ _ _ h => h) rfl (fun w hSw => by (try dsimp only at hSw); obtain ⟨q0, q1⟩ := hSw; go_simp) (by assumption) ?_
                try simp only [Act.put, List.setIfInBounds_toArray, List.set_cons_zero, List.set_cons_succ]
                refine tk12 (.pointer (some ⟨g2, k, none⟩)) (by kernel_rfl) (by kernel_rfl) (by kernel_rfl) (fun _ _ _ h => h) rfl (fun w hSw => by (try dsimp only at hSw); obtain ⟨q0, q1⟩ := hSw; go_simp) (by assumption) ?_
                try simp only [Act.put, List.setIfInBounds_toArray, List.set_cons_zero, List.set_cons_succ]
                refine cl13 (by kernel_rfl) rfl (fun K hK => ?_)
                go_simp
                refine hK.out _ _ ?_ (fun hHeld => ?_)
                · try dsimp only
                  go_keep
                clear hK K
                try simp only [Act.put, List.setIfInBounds_toArray, List.set_cons_zero, List.set_cons_succ]
                refine wpAnyH_done (by kernel_rfl) ?_ _
                go_wp2
                go_roundw
                case rel => exact ⟨k + 1, hkl, by go_num, HN.out.1, HN.out.2⟩
                case measure => simp [intOf]; omega
              · have hke : k = bs.length := by omega
                subst hke
                have HP : Hid (GoPost RT w wr base D S l real (dn : Int) bs) := ⟨fun _ => by
                  rw [HLEN.out] at hCk
                  simpa using hCk, fun e => absurd HZ.out e, hK⟩
                clear hCk hK
                go_wp2
                go_ret
                exact ⟨by rw [HZ.out]; rfl, HP.out⟩
end Go.Proofs.Ytcecgphjaofgbaa
