/-
  The document's sessions: at, All, Client, Close, as plain data. The condition: numbers are ints.
-/
import Derived.Test.YthokbififjhflaaSxMem
import Derived.Test.YthokbififjhflaaSeAsk
import Derived.Test.YthokbififjhflaaSeAll
import Derived.Test.YthokbififjhflaaSeFin
namespace Go.Proofs.Ythokbififjhflaa
open Go.RowKit

set_option maxRecDepth 100000 in
theorem bit_any (b : Bool) (w : World) : Calls Try.prog 37 #[.bool b] w fun e w' => e = .returned (.int .i64 (seBit b)) ∧ w' = w := by
  cases b <;> (go_enter Try.func37, Try.ntmps37; go_wp2; go_ret; exact ⟨rfl, rfl⟩)
set_option maxRecDepth 100000 in
theorem at_none {w : World} {base X : Nat} {S : Nat → Prop} {raw : List SeX} {v : Value} {F I : Nat → Int} (h : SxM w base X S raw v F I) (_hl : raw.length ≤ 1000000) {id : Int} (_hi : okI id) (hx : seAt raw id = none) : Calls Try.prog 39 #[.pointer (some ⟨X, 0, none⟩), .int .i64 id] w fun e w' => e = .returned (.pointer none) ∧ w' = w := by
  have c0 : w.cell? ⟨X, 0, none⟩ = some v := h.cell 0 _ rfl
  obtain ⟨a, c, rfl⟩ := h.form
  by_cases h1 : id < 1
  · have t1 : decide (id < 1) = true := decide_eq_true h1
    clear h hx h1
    go_enter Try.func39, Try.ntmps39
    go_wp2
    go_ret
    exact ⟨rfl, rfl⟩
  · have t1 : decide (id < 1) = false := decide_eq_false h1
    have h2 : (raw.length : Int) < id := by
      unfold seAt at hx
      rw [if_pos (by omega), List.getElem?_eq_none_iff] at hx
      omega
    have t2 : decide ((raw.length : Int) < id) = true := decide_eq_true h2
    clear h hx h1 h2
    go_enter Try.func39, Try.ntmps39
    go_wp2
    go_ret
    exact ⟨rfl, rfl⟩
set_option maxRecDepth 100000 in
theorem at_some {w : World} {base X g c : Nat} {S : Nat → Prop} {raw : List SeX} {F I : Nat → Int} (h : SxM w base X S raw (.slice (some ⟨g, 0, none⟩) raw.length c) F I) (hl : raw.length ≤ 1000000) (_hcc : raw.length ≤ c) {k : Nat} (hk : k < raw.length) : Calls Try.prog 39 #[.pointer (some ⟨X, 0, none⟩), .int .i64 ((k : Int) + 1)] w fun e w' => e = .returned (.pointer (some ⟨g, k * 10, none⟩)) ∧ w' = w := by
  have c0 : w.cell? ⟨X, 0, none⟩ = some (.slice (some ⟨g, 0, none⟩) raw.length c) := h.cell 0 _ rfl
  have t1 : decide ((k : Int) + 1 < 1) = false := decide_eq_false (by omega)
  have t2 : decide ((raw.length : Int) < (k : Int) + 1) = false := decide_eq_false (by omega)
  clear h
  go_enter Try.func39, Try.ntmps39
  go_wp2
  go_ret
  exact ⟨rfl, rfl⟩
/-- An id that is there is a place and 1. -/
theorem seAt_place {l : List SeX} {id : Int} {x : SeX} (h : seAt l id = some x) : ∃ k : Nat, id = (k : Int) + 1 ∧ k < l.length ∧ l[k]? = some x ∧ id.toNat - 1 = k := by
  obtain ⟨h1, h2, h3⟩ := seAt_some h
  exact ⟨id.toNat - 1, by omega, (List.getElem?_eq_some_iff.1 h3).1, h3, rfl⟩
set_option maxRecDepth 100000 in
set_option maxHeartbeats 2000000 in
theorem xclient_any {w : World} {base X : Nat} {S : Nat → Prop} {l : List SeX} (h : SxAt w base X S l) {id : Int} (hi : okI id) : Calls Try.prog 18 #[.pointer (some ⟨X, 0, none⟩), .int .i64 id] w fun e w' => e = .returned (.tuple #[.int .i64 (seCli l id).1, .int .i64 (seCli l id).2.1, .bool (seCli l id).2.2]) ∧ Below w.heap.size w w' := by
  obtain ⟨raw, v, F, I, hM, rfl⟩ := h.ex
  have hl := h.len
  rw [List.length_map] at hl
  cases hx : seAt raw id with
  | none =>
    have e2 : seCli (raw.map sxN) id = (0, 0, false) := by unfold seCli; rw [seAt_map, hx]; rfl
    have HA : Hid _ := at_none hM hl hi hx
    rw [e2]
    clear hM h hx e2
    go_enter Try.func18, Try.ntmps18
    go_wp2_with (go_at_call 39; refine Calls.mono HA.out ?_; rintro r w1 ⟨rfl, hw1⟩; rw [hw1]; clear hw1)
    go_ret3
    exact ⟨rfl, Below.refl _ _⟩
  | some x =>
    obtain ⟨k, rfl, hk, hxk, _⟩ := seAt_place hx
    obtain ⟨g, c, rfl, _, _, hcc, hcell, _⟩ := hM.at hxk
    have e2 : seCli (raw.map sxN) ((k : Int) + 1) = (x.client, x.life, true) := by
      unfold seCli
      rw [seAt_map, hx]
      show ((sxN x).client, (sxN x).life, true) = _
      rw [sxN_client, sxN_life]
    have HA : Hid _ := at_some hM hl hcc hk
    rw [e2]
    have x0 : w.cell? ⟨g, k * 10, none⟩ = some (.int .i64 x.client) := hcell 0 _ rfl
    have x1 : w.cell? ⟨g, k * 10 + 1, none⟩ = some (.int .i64 x.life) := hcell 1 _ rfl
    clear hM h hx e2 hcell hxk
    go_enter Try.func18, Try.ntmps18
    go_wp2_with (go_at_call 39; refine Calls.mono HA.out ?_; rintro r w1 ⟨rfl, hw1⟩; rw [hw1]; clear hw1)
    go_quiet (fail)
    go_wp2
    go_ret3
    exact ⟨rfl, below_drewN (Below.refl _ _) _⟩
structure SxClP (w : World) (base X : Nat) (S : Nat → Prop) (q : List SeX × Bool) (e : Ending) (w' : World) : Prop where
  ex : e = .returned (.bool q.2) ∧ SxAt w' base X S q.1 ∧ Kept w w' S S
theorem map_set {raw : List SeX} {k : Nat} {y : SeX} : (raw.set k y).map sxN = (raw.map sxN).set k (sxN y) := by rw [List.map_set]
set_option maxRecDepth 100000 in
set_option maxHeartbeats 2000000 in
theorem xclose_any {w : World} {base X : Nat} {S : Nat → Prop} {l : List SeX} (h : SxAt w base X S l) {id : Int} (hi : okI id) : Calls Try.prog 27 #[.pointer (some ⟨X, 0, none⟩), .int .i64 id] w (SxClP w base X S (seClo l id)) := by
  obtain ⟨raw, v, F, I, hM, rfl⟩ := h.ex
  have hl := h.len
  rw [List.length_map] at hl
  cases hx : seAt raw id with
  | none =>
    have e2 : seClo (raw.map sxN) id = (raw.map sxN, false) := by unfold seClo; rw [seAt_map, hx]; rfl
    have HA : Hid _ := at_none hM hl hi hx
    rw [e2]
    have HH : Hid _ := h
    clear hM h hx e2
    go_enter Try.func27, Try.ntmps27
    go_wp2_with (go_at_call 39; refine Calls.mono HA.out ?_; rintro r w1 ⟨rfl, hw1⟩; rw [hw1]; clear hw1)
    go_ret
    exact ⟨rfl, HH.out, Kept.refl _ _⟩
  | some x =>
    obtain ⟨k, rfl, hk, hxk, hkk⟩ := seAt_place hx
    obtain ⟨g, c, rfl, hSg, _, hcc, hcell, hfz⟩ := hM.at hxk
    have HA : Hid _ := at_some hM hl hcc hk
    have HH : Hid _ := h
    have x2 : w.cell? ⟨g, k * 10 + 2, none⟩ = some (.bool x.op) := hcell 2 _ rfl
    have hsx : seAt (raw.map sxN) ((k : Int) + 1) = some (sxN x) := by rw [seAt_map, hx]; rfl
    by_cases ho : x.op = true
    · have e2 : seClo (raw.map sxN) ((k : Int) + 1) = ((raw.map sxN).set k { sxN x with op := false }, true) := by
        unfold seClo
        rw [hsx]
        show (if (sxN x).op = true then _ else _ : List SeX × Bool) = _
        rw [if_pos (by rw [sxN_op]; exact ho), hkk]
      have hok := h.ok.clo ((k : Int) + 1)
      rw [e2] at hok
      rw [e2]
      rw [ho] at x2
      have hM2 := hM.setc (j := 2) (y := { x with op := false }) (u := .bool false) hxk (by decide) rfl rfl rfl
      have HE : Hid (SxAt (w.setCell ⟨g, k * 10 + 2, none⟩ (.bool false)) base X S ((raw.map sxN).set k { sxN x with op := false }) ∧ Kept w (w.setCell ⟨g, k * 10 + 2, none⟩ (.bool false)) S S) := by
        refine (show Hid _ from (⟨⟨⟨_, _, _, _, hM2, ?_⟩, hok, by rw [List.length_set, List.length_map]; exact hl⟩, hM.kept _ _⟩ : _ ∧ _))
        rw [map_set]
        congr 1
        unfold sxN
        split <;> rfl
      clear hM h hx e2 hcell hxk hsx ho hok hM2
      go_enter Try.func27, Try.ntmps27
      go_wp2_with (go_at_call 39; refine Calls.mono HA.out ?_; rintro r w1 ⟨rfl, hw1⟩; rw [hw1]; clear hw1)
      go_ret
      exact ⟨rfl, HE.out.1, HE.out.2⟩
    · have ho' : x.op = false := by simpa using ho
      have e2 : seClo (raw.map sxN) ((k : Int) + 1) = (raw.map sxN, false) := by
        unfold seClo
        rw [hsx]
        show (if (sxN x).op = true then _ else _ : List SeX × Bool) = _
        rw [if_neg (by rw [sxN_op]; exact ho)]
      rw [e2]
      rw [ho'] at x2
      clear hM h hx e2 hcell hxk hsx ho ho'
      go_enter Try.func27, Try.ntmps27
      go_wp2_with (go_at_call 39; refine Calls.mono HA.out ?_; rintro r w1 ⟨rfl, hw1⟩; rw [hw1]; clear hw1)
      go_ret
      exact ⟨rfl, HH.out, Kept.refl _ _⟩
set_option maxRecDepth 100000 in
set_option maxHeartbeats 4000000 in
theorem xall_any {w : World} {base X : Nat} {S : Nat → Prop} {l : List SeX} (h : SxAt w base X S l) : Calls Try.prog 14 #[.pointer (some ⟨X, 0, none⟩)] w (AlP w l) := by
  obtain ⟨raw, v, F, I, hM, rfl⟩ := h.ex
  have hl := h.len
  rw [List.length_map] at hl
  have e0 : seAll (raw.map sxN) = seAllN raw raw.length := by unfold seAll; rw [List.length_map, seAllN_map]
  have HE : Hid (seAll (raw.map sxN) = seAllN raw raw.length) := e0
  have HM : Hid (SxM w base X S raw v F I) := hM
  obtain ⟨i0, hi, hz0, hz1, hz2⟩ := info_parts infoI
  obtain ⟨a0, c0, hv⟩ := hM.form
  have HB : Hid (∀ g, S g → g < w.heap.size) := fun g hg => (hM.bd g hg).2
  clear h e0 hM
  go_enter Try.func14, Try.ntmps14
  go_wp2
  go_loopw [3, 4] (fun u i wr => ∃ k : Nat, k ≤ raw.length ∧ i = .int .i64 k ∧ wr.ownsRow w.heap.size 3 1 u (seAllN raw k).length (intL (seAllN raw k)) ∧ Below w.heap.size w wr) (fun _ i _ => raw.length - (intOf i).toNat)
  case atStart => exact ⟨0, Nat.zero_le _, rfl, World.ownsRow_nil _ _ _ _, Below.refl _ _⟩
  case round =>
    obtain ⟨k, hk, rfl, hrow, hbel⟩ := hrel
    obtain ⟨pv, nv, cv, rfl⟩ := own_form hrow
    have hM := HM.out.keep (w' := wr) fun g hg => hbel.block g (HB.out g hg)
    have z0 : wr.cell? ⟨X, 0, none⟩ = some (.slice a0 raw.length c0) := by rw [← hv]; exact hM.cell 0 _ rfl
    by_cases hkl : k < raw.length
    · have t1 : decide ((k : Int) < (raw.length : Int)) = true := decide_eq_true (by omega)
      have t1' : decide (k < raw.length) = true := decide_eq_true hkl
      obtain ⟨x, hx⟩ : ∃ x, raw[k]? = some x := ⟨raw[k], List.getElem?_eq_getElem hkl⟩
      obtain ⟨g, c, hv2, _, _, hcc, hcell, _⟩ := hM.at hx
      have e : a0 = some ⟨g, 0, none⟩ ∧ c0 = c := by
        rw [hv] at hv2
        injection hv2 with q1 q2 q3
        exact ⟨q1, q3⟩
      obtain ⟨rfl, rfl⟩ := e
      have x2 : wr.cell? ⟨g, k * 10 + 2, none⟩ = some (.bool x.op) := hcell 2 _ rfl
      have hacc := seAllN_len raw k
      have HRow : Hid _ := hrow
      have HBel : Hid _ := hbel
      cases hop : x.op with
      | false =>
        have es : seAllN raw (k + 1) = seAllN raw k := by
          rw [seAllN_succ]
          have : seOne raw k = none := by unfold seOne; rw [hx]; simp [hop]
          rw [this]
          simp
        rw [hop] at x2
        clear hM hv2 hcell hx hop hrow hbel
        go_wp2
        exact ⟨⟨k + 1, by omega, by simp, by rw [es]; exact HRow.out, HBel.out⟩, by simp [intOf]; omega⟩
      | true =>
        have es : seAllN raw (k + 1) = seAllN raw k ++ [(k : Int) + 1] := by
          rw [seAllN_succ]
          have : seOne raw k = some ((k : Int) + 1) := by unfold seOne; rw [hx]; simp [hop]
          rw [this]
          rfl
        rw [hop] at x2
        clear hM hv2 hcell hx hop
        go_wp2_with (at_builtin; refine wpList_append_own _ rfl (.tmp 22) (.tmp 25) 41 rfl w.heap.size 3 i0 _ 1 8 Try.underlying41 hi hz0 hz1 hz2 rfl (by decide) (.slice pv nv cv) (seAllN raw k).length (intL (seAllN raw k)) rfl (hrow.alloc _) ⟨wr.heap.size, 0, none⟩ 1 1 [.int .i64 ((k : Int) + 1)] rfl rfl (World.news_of_block (cs := #[.int .i64 ((k : Int) + 1)]) (t := 3) (fr := (0, 0)) (heap_alloc_new wr _)) (by simp [Value.oneCell']) (by unfold maxLen; omega) (by have := hbel.size; omega) (by simp; have := hbel.size; omega) ?_; intro v4 w4 hrow4 hg4 _)
        refine ⟨⟨k + 1, by omega, by simp, ?_, ?_⟩, by simp [intOf]; omega⟩
        · have e : intL (seAllN raw k ++ [(k : Int) + 1]) = intL (seAllN raw k) ++ [.int .i64 ((k : Int) + 1)] := by unfold intL; rw [List.map_append]; rfl
          rw [es, List.length_append, List.length_singleton, e]
          exact hrow4
        · exact (hbel.alloc hbel.size _).grown hg4 (by simp; have := hbel.size; omega) (fun k hk => (hrow.lt k hk).1)
    · obtain rfl : k = raw.length := by omega
      have t1 : decide ((raw.length : Int) < (raw.length : Int)) = false := decide_eq_false (by omega)
      have HRow : Hid _ := hrow
      have HBel : Hid _ := hbel
      clear hM hrow hbel hkl
      go_wp2
      go_ret
      refine ⟨_, rfl, ?_, HBel.out⟩
      rw [HE.out]
      exact HRow.out
end Go.Proofs.Ythokbififjhflaa
