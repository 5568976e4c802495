/-
  Parts of the proof, laid together: DuLaw, EnEq, DuRefE, DuOk, EnSame. The conditions stand at each part.
-/
import Derived.WalkKit
import Derived.ChangeKeysEq
import Derived.Deep.QuietTactic
import Derived.BigQuiet
import Derived.Deep.RegionHeld3
import Derived.Test.YtodnnhidljfilaaGreatDoorFPackC
import Derived.Test.YtodnnhidljfilaaGreatDoorFPackD
import Derived.Test.YtodnnhidljfilaaGreatDoorFPackI
import Derived.Test.YtodnnhidljfilaaGreatDoorFPackO
/-
  Whether a state's entries rise (latchkeylaw13.rises), whether a state may be saved (latchkeyref13.May). The conditions: the entries lie in memory as their reading says; at most 2^29 of them.
-/
namespace Go.Proofs.YtodnnhidljfilaaGreatDoor
open Go.RowKit

/-- A state that layer 13's laws take. -/
def OkD (d : Du) : Prop := Rises d.b d.es ∧ 0 ≤ d.b ∧ 0 ≤ d.p ∧ d.es.length ≤ 1000
set_option maxHeartbeats 3200000 in
set_option maxRecDepth 100000 in
theorem rises_any (w : World) (d : Du) (v : Value) (hv : RowAt enC w v d.es) (hl : d.es.length ≤ 4611686018427387904) (r : Bool) (hr : r = true ↔ OkD d) :
    Calls Tryz.prog 8 #[.agg (duA d v)] w fun e w' => e = .returned (.bool r) ∧ Below w.heap.size w w' := by
  obtain ⟨a0, cap0, rfl⟩ := hv.form
  have HD : Hid (DuAt (w.alloc (.cells (duA d (.slice a0 d.es.length cap0)) 24)) w.heap.size d (.slice a0 d.es.length cap0)) := heap_alloc_new w _
  have BW : Hid (Below w.heap.size w (w.alloc (.cells (duA d (.slice a0 d.es.length cap0)) 24))) := (Below.refl _ w).alloc (Nat.le_refl _) _
  have y0 := HD.out.c0
  have y1 := HD.out.c1
  have YES : Hid (OkD d → r = true) := hr.2
  have NON : Hid (¬ OkD d → r = false) := fun h => by
    cases hrr : r with
    | false => rfl
    | true => exact absurd (hr.1 hrr) h
  have NO : Hid (¬ Rises d.b d.es → r = false) := fun h => NON.out (fun x => h x.1)
  clear hr
  go_enter Tryz.func8, Tryz.ntmps8
  go_wp2
  go_loopw [3, 4] (fun q i wr => ∃ k : Nat, k ≤ d.es.length ∧ q = .int .i64 (lastOf d.b (d.es.take k)) ∧ i = .int .i64 (k : Int) ∧ Rises d.b (d.es.take k) ∧ DuAt wr w.heap.size d (.slice a0 d.es.length cap0) ∧ Below w.heap.size w wr) (fun _ i _ => d.es.length - (intOf i).toNat)
  case atStart => exact ⟨0, Nat.zero_le _, rfl, rfl, rises_nil _, HD.out, BW.out⟩
  case round =>
    obtain ⟨k, hk, rfl, rfl, hR, hD, hb⟩ := hrel
    have c0 := hD.c0
    have c1 := hD.c1
    have c3 := hD.c3
    by_cases hkl : k < d.es.length
    · have q0 : decide ((k : Int) < (d.es.length : Int)) = true := decide_eq_true (by omega)
      obtain ⟨bk, off, cap', hvv, hcap, hbk, hc⟩ := (hv.fresh hb).cells enC_len (by omega)
      injection hvv with e1 e2 e3
      subst e1 e3
      obtain ⟨x, hx⟩ : ∃ x, x = d.es[k] := ⟨_, rfl⟩
      have z0 := hc k hkl 0 (.int .i64 x.slot) (by decide) (by rw [hx]; rfl)
      rw [Nat.add_zero] at z0
      have hnx : d.es.take (k + 1) = d.es.take k ++ [x] := by rw [List.take_add_one, List.getElem?_eq_getElem hkl, hx]; rfl
      obtain ⟨q, hq⟩ : ∃ q, q = lastOf d.b (d.es.take k) := ⟨_, rfl⟩
      rw [← hq]
      by_cases hlt : x.slot ≤ q
      · have f : decide (x.slot ≤ q) = true := decide_eq_true hlt
        have HN : Hid (¬ Rises d.b d.es) := fun h => by
          have := rises_take h (k + 1)
          rw [hnx, rises_snoc, ← hq] at this
          omega
        clear hc hx hnx hq hR hD
        go_wp2
        go_ret
        exact ⟨by rw [NO.out HN.out]; rfl, hb⟩
      · have f : decide (x.slot ≤ q) = false := decide_eq_false hlt
        have HR : Hid (Rises d.b (d.es.take (k + 1))) := by
          show Rises _ _
          rw [hnx, rises_snoc, ← hq]
          exact ⟨hR, by omega⟩
        have HQ : Hid (x.slot = lastOf d.b (d.es.take (k + 1))) := by
          show _ = _
          rw [hnx, lastOf_snoc]
        have HD2 : Hid _ := hD
        clear hc hx hnx hq hR hD
        go_wp2
        go_roundw
        case rel => exact ⟨k + 1, hkl, by rw [← HQ.out], by go_num, HR.out, HD2.out, hb⟩
        case measure => simp [intOf]; omega
    · have q0 : decide ((k : Int) < (d.es.length : Int)) = false := decide_eq_false (by omega)
      have ht : d.es.take k = d.es := List.take_of_length_le (by omega)
      rw [ht] at hR
      have HR : Hid (Rises d.b d.es) := hR
      have HD2 : Hid (DuAt wr w.heap.size d (.slice a0 d.es.length cap0)) := hD
      clear hR hD ht
      by_cases h1 : 0 ≤ d.b
      · have g1 : decide ((0 : Int) ≤ d.b) = true := decide_eq_true h1
        by_cases h2 : 0 ≤ d.p
        · have g2 : decide ((0 : Int) ≤ d.p) = true := decide_eq_true h2
          by_cases h3 : d.es.length ≤ 1000
          · have g3 : decide ((d.es.length : Int) ≤ (1000 : Int)) = true := decide_eq_true (by omega)
            have HY : Hid (r = true) := YES.out ⟨HR.out, h1, h2, h3⟩
            go_wp2
            go_ret
            exact ⟨by rw [HY.out]; rfl, hb⟩
          · have g3 : decide ((d.es.length : Int) ≤ (1000 : Int)) = false := decide_eq_false (by omega)
            have HY : Hid (r = false) := NON.out (fun h => h3 h.2.2.2)
            go_wp2
            go_ret
            exact ⟨by rw [HY.out]; rfl, hb⟩
        · have g2 : decide ((0 : Int) ≤ d.p) = false := decide_eq_false h2
          have HY : Hid (r = false) := NON.out (fun h => h2 h.2.2.1)
          go_wp2
          go_ret
          exact ⟨by rw [HY.out]; rfl, hb⟩
      · have g1 : decide ((0 : Int) ≤ d.b) = false := decide_eq_false h1
        have HY : Hid (r = false) := NON.out (fun h => h1 h.2.1)
        go_wp2
        go_ret
        exact ⟨by rw [HY.out]; rfl, hb⟩
end Go.Proofs.YtodnnhidljfilaaGreatDoor
/-
  When two commands, two entries are the same, as values are compared. No condition.
-/
namespace Go.Proofs.YtodnnhidljfilaaGreatDoor
open Go.RowKit

theorem toList_inj {x y : ByteArray} (h : x.toList = y.toList) : x = y := by
  rw [Lib.toList_data, Lib.toList_data] at h
  rw [← Lib.mk_data x, ← Lib.mk_data y, h]
theorem toList_beq (x y : ByteArray) : (x.toList == y.toList) = true ↔ x = y := ⟨fun h => toList_inj (by simpa using h), fun h => by rw [h]; simp⟩

/-- The same command, the same entry, reply, head: one bool each. -/
def eqC (a b : Cm) : Bool := a.kind == b.kind && (a.session == b.session && (a.seq == b.seq && (a.name.toList == b.name.toList && a.n == b.n)))
def eqE (a b : En) : Bool := a.slot == b.slot && (a.ballot == b.ballot && eqC a.cmd b.cmd)
theorem eqC_iff (a b : Cm) : eqC a b = true ↔ a = b := by
  obtain ⟨K, S, Q, T, N⟩ := a
  obtain ⟨K', S', Q', T', N'⟩ := b
  unfold eqC
  simp only [Bool.and_eq_true, beq_iff_eq, Cm.mk.injEq]
  constructor
  · rintro ⟨h1, h2, h3, h4, h5⟩
    exact ⟨h1, h2, h3, toList_inj h4, h5⟩
  · rintro ⟨h1, h2, h3, h4, h5⟩
    exact ⟨h1, h2, h3, by rw [h4], h5⟩
theorem eqE_iff (a b : En) : eqE a b = true ↔ a = b := by
  obtain ⟨A, B, C⟩ := a
  obtain ⟨A', B', C'⟩ := b
  unfold eqE
  simp only [Bool.and_eq_true, beq_iff_eq, eqC_iff, En.mk.injEq]

set_option maxRecDepth 100000 in
theorem ent_neq (a b : En) (w : World) : (binOp .neq 66 (.agg #[.int .i64 a.slot, .int .i64 a.ballot, .int .i64 a.cmd.kind, .int .i64 a.cmd.session, .int .i64 a.cmd.seq, .string a.cmd.name, .int .i64 a.cmd.n]) (.agg #[.int .i64 b.slot, .int .i64 b.ballot, .int .i64 b.cmd.kind, .int .i64 b.cmd.session, .int .i64 b.cmd.seq, .string b.cmd.name, .int .i64 b.cmd.n])).run Tryz.prog w = .ok (.bool (!eqE a b)) w := by
  unfold eqE eqC
  cases h0 : (a.slot == b.slot) with
  | false => simp [go_sem, h0]
  | true =>
    cases h1 : (a.ballot == b.ballot) with
    | false => simp [go_sem, h0, h1]
    | true =>
      cases h2 : (a.cmd.kind == b.cmd.kind) with
      | false => simp [go_sem, h0, h1, h2]
      | true =>
        cases h3 : (a.cmd.session == b.cmd.session) with
        | false => simp [go_sem, h0, h1, h2, h3]
        | true =>
          cases h4 : (a.cmd.seq == b.cmd.seq) with
          | false => simp [go_sem, h0, h1, h2, h3, h4]
          | true =>
            cases h5 : (a.cmd.name.toList == b.cmd.name.toList) with
            | false => simp [go_sem, h0, h1, h2, h3, h4, h5]
            | true =>
              cases h6 : (a.cmd.n == b.cmd.n) with
              | false => simp [go_sem, h0, h1, h2, h3, h4, h5, h6]
              | true =>
                simp [go_sem, h0, h1, h2, h3, h4, h5, h6]

end Go.Proofs.YtodnnhidljfilaaGreatDoor
/-
  Whether two states are the same, by the document (package latchkeyref13). The condition: the entries lie in memory as their readings say.
-/
namespace Go.Proofs.YtodnnhidljfilaaGreatDoor
open Go.RowKit

theorem Du.eq_iff (a b : Du) : a = b ↔ a.p = b.p ∧ a.b = b.b ∧ a.s = b.s ∧ a.es = b.es := by
  constructor
  · rintro rfl
    exact ⟨rfl, rfl, rfl, rfl⟩
  · cases a; cases b
    rintro ⟨h1, h2, h3, h4⟩
    simp only at h1 h2 h3 h4
    subst h1 h2 h3 h4
    rfl
set_option maxHeartbeats 3200000 in
set_option maxRecDepth 100000 in
theorem rsameD_any (w : World) (a b : Du) (va vb : Value) (ha : RowAt enC w va a.es) (hb : RowAt enC w vb b.es) (hn : a.es.length ≤ 1099511627776) (r : Bool) (hr : r = true ↔ a = b) :
    Calls Tryz.prog 12 #[.agg (duA a va), .agg (duA b vb)] w fun e w' => e = .returned (.bool r) ∧ Below w.heap.size w w' := by
  obtain ⟨pa, ca, rfl⟩ := ha.form
  obtain ⟨pb, cb, rfl⟩ := hb.form
  obtain ⟨W, hW⟩ : ∃ W, W = (w.alloc (.cells (duA a (.slice pa a.es.length ca)) 24)).alloc (.cells (duA b (.slice pb b.es.length cb)) 24) := ⟨_, rfl⟩
  have bW : Below w.heap.size w W := by rw [hW]; exact ((Below.refl _ w).alloc (Nat.le_refl _) _).alloc (by simp) _
  have hA : DuAt W w.heap.size a (.slice pa a.es.length ca) := by
    rw [hW]
    exact (Below.heap_alloc _ _ w.heap.size (by simp)).trans (heap_alloc_new w _)
  have hB : DuAt W (w.heap.size + 1) b (.slice pb b.es.length cb) := by
    rw [hW]
    exact (two_blocks w _ _).2.trans (heap_alloc_new _ _)
  rw [Du.eq_iff] at hr
  have a0 := hA.c0
  have a1 := hA.c1
  have a2 := hA.c2
  have a3 := hA.c3
  have b0 := hB.c0
  have b1 := hB.c1
  have b2 := hB.c2
  have b3 := hB.c3
  clear hA hB
  rw [hW] at a0 a1 a2 a3 b0 b1 b2 b3
  have no : ¬ (a.p = b.p ∧ a.b = b.b ∧ a.s = b.s ∧ a.es = b.es) → r = false := fun h => by
    cases r with
    | false => rfl
    | true => exact absurd (hr.1 rfl) h
  by_cases hp : a.p = b.p
  · have fp : (a.p != b.p) = false := by simpa using hp
    by_cases hb' : a.b = b.b
    · have fb : (a.b != b.b) = false := by simpa using hb'
      by_cases hs : a.s = b.s
      · have fs : (a.s.toList == b.s.toList) = true := by rw [hs]; simp
        by_cases hl : a.es.length = b.es.length
        · have fl : ((a.es.length : Int) != (b.es.length : Int)) = false := by simp; omega
          have HR : Hid (r = true ↔ a.es = b.es) := ⟨fun h => (hr.1 h).2.2.2, fun h => hr.2 ⟨hp, hb', hs, h⟩⟩
          have GA : Hid (RowAt enC W (.slice pa a.es.length ca) a.es) := ha.fresh bW
          have GB : Hid (RowAt enC W (.slice pb b.es.length cb) b.es) := hb.fresh bW
          have BW : Hid _ := bW
          have HW : Hid (W = _) := hW
          have HL : Hid (a.es.length = b.es.length) := hl
          clear hr no ha hb bW hp hb' hs hl
          go_enter Tryz.func12, Tryz.ntmps12
          go_wp2
          go_loopw [5] (fun i wr => ∃ k : Nat, k ≤ a.es.length ∧ i = .int .i64 k ∧ a.es.take k = b.es.take k ∧ Below W.heap.size W wr) (fun i _ => a.es.length - (intOf i).toNat)
          case atStart => exact ⟨0, Nat.zero_le _, rfl, rfl, by rw [HW.out]; exact Below.refl _ _⟩
          case round =>
            obtain ⟨k, hk, rfl, ht, hbw⟩ := hrel
            have hWs : w.heap.size + 2 ≤ W.heap.size := by rw [HW.out]; simp
            have g3 : wr.cell? ⟨w.heap.size, 3, none⟩ = some (.slice pa a.es.length ca) := (hbw.cell (p := ⟨w.heap.size, 3, none⟩) (by show w.heap.size < _; omega)).trans (by rw [HW.out]; exact a3)
            have h3 : wr.cell? ⟨w.heap.size + 1, 3, none⟩ = some (.slice pb b.es.length cb) := (hbw.cell (p := ⟨w.heap.size + 1, 3, none⟩) (by show w.heap.size + 1 < _; omega)).trans (by rw [HW.out]; exact b3)
            clear a0 a1 a2 a3 b0 b1 b2 b3
            by_cases hkx : k < a.es.length
            · have q0 : decide ((k : Int) < (a.es.length : Int)) = true := decide_eq_true (by omega)
              have hky : k < b.es.length := by have := HL.out; omega
              obtain ⟨ka, oa, ca', hva, _, la, xa⟩ := (GA.out.fresh hbw).cells enC_len (by omega)
              obtain ⟨kb, ob, cb', hvb, _, lb, xb⟩ := (GB.out.fresh hbw).cells enC_len (by have := HL.out; omega)
              injection hva with e1 e2 e3
              subst e1 e3
              injection hvb with e1 e2 e3
              subst e1 e3
              obtain ⟨x, hx⟩ : ∃ e, e = a.es[k] := ⟨_, rfl⟩
              obtain ⟨y, hy⟩ : ∃ e, e = b.es[k] := ⟨_, rfl⟩
              have x0 := xa k hkx 0 (.int .i64 x.slot) (by decide) (by rw [hx]; rfl)
              have x1 := xa k hkx 1 (.int .i64 x.ballot) (by decide) (by rw [hx]; rfl)
              have x2 := xa k hkx 2 (.int .i64 x.cmd.kind) (by decide) (by rw [hx]; rfl)
              have x3 := xa k hkx 3 (.int .i64 x.cmd.session) (by decide) (by rw [hx]; rfl)
              have x4 := xa k hkx 4 (.int .i64 x.cmd.seq) (by decide) (by rw [hx]; rfl)
              have x5 := xa k hkx 5 (.string x.cmd.name) (by decide) (by rw [hx]; rfl)
              have x6 := xa k hkx 6 (.int .i64 x.cmd.n) (by decide) (by rw [hx]; rfl)
              have y0 := xb k hky 0 (.int .i64 y.slot) (by decide) (by rw [hy]; rfl)
              have y1 := xb k hky 1 (.int .i64 y.ballot) (by decide) (by rw [hy]; rfl)
              have y2 := xb k hky 2 (.int .i64 y.cmd.kind) (by decide) (by rw [hy]; rfl)
              have y3 := xb k hky 3 (.int .i64 y.cmd.session) (by decide) (by rw [hy]; rfl)
              have y4 := xb k hky 4 (.int .i64 y.cmd.seq) (by decide) (by rw [hy]; rfl)
              have y5 := xb k hky 5 (.string y.cmd.name) (by decide) (by rw [hy]; rfl)
              have y6 := xb k hky 6 (.int .i64 y.cmd.n) (by decide) (by rw [hy]; rfl)
              rw [Nat.add_zero] at x0 y0
              have hkb : (k : Int) < (b.es.length : Int) := by omega
              have HX : Hid (x = a.es[k]) := hx
              have HY : Hid (y = b.es[k]) := hy
              have HT : Hid (a.es.take k = b.es.take k) := ht
              have q := ent_neq x y
              clear xa xb hx hy ht
              cases hxy : eqE x y with
              | true =>
                have HT2 : Hid (a.es.take (k + 1) = b.es.take (k + 1)) := by
                  show _ = _
                  rw [List.take_add_one, List.take_add_one, HT.out, List.getElem?_eq_getElem hkx, List.getElem?_eq_getElem hky, ← HX.out, ← HY.out, (eqE_iff x y).1 hxy]
                rw [hxy] at q
                simp only [Bool.not_true] at q
                clear HX HY HT hxy
                go_wp2
                go_quiet (fail)
                go_wp2
                go_roundw
                case rel => exact ⟨k + 1, hkx, by go_num, HT2.out, below_drewN hbw _⟩
                case measure => simp [intOf]; omega
              | false =>
                have HF : Hid (r = false) := by
                  show _ = _
                  cases hrr : r with
                  | false => rfl
                  | true =>
                    have e := HR.out.1 hrr
                    have : x = y := by
                      rw [HX.out, HY.out]
                      simp only [e]
                    rw [(eqE_iff x y).2 this] at hxy
                    cases hxy
                rw [hxy] at q
                simp only [Bool.not_false] at q
                clear HX HY HT hxy
                go_wp2
                go_quiet (fail)
                go_wp2
                go_ret
                exact ⟨by rw [HF.out]; rfl, BW.out.trans ((below_drewN hbw _).mono BW.out.size)⟩
            · have q0 : decide ((k : Int) < (a.es.length : Int)) = false := decide_eq_false (by omega)
              have HF : Hid (r = true) := HR.out.2 (by
                rw [List.take_of_length_le (by omega), List.take_of_length_le (by have := HL.out; omega)] at ht
                exact ht)
              clear ht
              go_wp2
              go_ret
              exact ⟨by rw [HF.out]; rfl, BW.out.trans (hbw.mono BW.out.size)⟩
        · have fl : ((a.es.length : Int) != (b.es.length : Int)) = true := by simp; omega
          have hf := no (fun h => hl (by rw [h.2.2.2]))
          subst hf
          rw [hW] at bW
          clear ha hb hr no hp hb' hs hl
          go_enter Tryz.func12, Tryz.ntmps12
          go_wp2
          go_ret
          exact ⟨rfl, bW⟩
      · have fs : (a.s.toList == b.s.toList) = false := by
          cases h : (a.s.toList == b.s.toList) with
          | true => exact absurd ((toList_beq _ _).1 h) hs
          | false => rfl
        have hf := no (fun h => hs h.2.2.1)
        subst hf
        rw [hW] at bW
        clear ha hb hr no hp hb' hs
        go_enter Tryz.func12, Tryz.ntmps12
        go_wp2
        go_ret
        exact ⟨rfl, bW⟩
    · have fb : (a.b != b.b) = true := by simpa using hb'
      have hf := no (fun h => hb' h.2.1)
      subst hf
      rw [hW] at bW
      clear ha hb hr no hp hb'
      go_enter Tryz.func12, Tryz.ntmps12
      go_wp2
      go_ret
      exact ⟨rfl, bW⟩
  · have fp : (a.p != b.p) = true := by simpa using hp
    have hf := no (fun h => hp h.1)
    subst hf
    rw [hW] at bW
    clear ha hb hr no hp
    go_enter Tryz.func12, Tryz.ntmps12
    go_wp2
    go_ret
    exact ⟨rfl, bW⟩
end Go.Proofs.YtodnnhidljfilaaGreatDoor
/-
  What package durable's Fold, Recs and Same must do, as one thing to be shown of the code. No condition.
-/
namespace Go.Proofs.YtodnnhidljfilaaGreatDoor
open Go.RowKit

/-- Texts that can be cloned. -/
structure SzD (d : Du) : Prop where
  s : d.s.size ≤ 281474976710656
  es : ∀ e ∈ d.es, e.cmd.name.size ≤ 281474976710656
abbrev SzR (l : List Rc) : Prop := ∀ r ∈ l, r.en.cmd.name.size ≤ 281474976710656
theorem SzD.recs {d : Du} (h : SzD d) : SzR (recsD d) := fun r hr => by
  unfold recsD at hr
  rw [List.mem_append] at hr
  rcases hr with hr | hr
  · split at hr
    · rw [List.mem_singleton] at hr
      rw [hr]
      show En.zero.cmd.name.size ≤ _
      decide
    · cases hr
  · obtain ⟨e, he, rfl⟩ := List.mem_map.1 hr
    exact h.es e he
structure DurPure : Prop where
  fold : ∀ (w : World) (d : Du) (v lv : Value) (l : List Rc), RowAt enC w v d.es → RowAt rcC w lv l → Rises d.b d.es → d.es.length ≤ 536870912 → l.length ≤ 536870912 → SzD d → SzR l →
    Calls Tryz.prog 10 #[.agg (duA d v), lv] w fun e w' => ∃ v', e = .returned (.agg (duA (foldD d l) v')) ∧ OwnEn w' w.heap.size v' (foldD d l).es ∧ Below w.heap.size w w'
  recs : ∀ (w : World) (d : Du) (v : Value), RowAt enC w v d.es → d.es.length ≤ 536870912 → SzD d →
    Calls Tryz.prog 14 #[.agg (duA d v)] w fun e w' => ∃ u, e = .returned u ∧ OwnRc w' w.heap.size u (recsD d) ∧ Below w.heap.size w w'
  same : ∀ (w : World) (a b : Du) (va vb : Value), RowAt enC w va a.es → RowAt enC w vb b.es → a.es.length ≤ 536870912 → b.es.length ≤ 536870912 → ∀ r : Bool, (r = true ↔ a = b) →
    Calls Tryz.prog 16 #[.agg (duA a va), .agg (duA b vb)] w fun e w' => e = .returned (.bool r) ∧ Below w.heap.size w w'
end Go.Proofs.YtodnnhidljfilaaGreatDoor
/-
  Whether two rows of entries are the same, by slices.Equal (taken out of MgVal, MgEqual). No condition but that there are no more than a slice may hold.
-/
namespace Go.Proofs.YtodnnhidljfilaaGreatDoor
open Go.RowKit

/-- An entry's seven cells, from cell o of block bk on. -/
structure IsEn (w : World) (bk o : Nat) (e : En) : Prop where
  c0 : w.cell? ⟨bk, o, none⟩ = some (.int .i64 e.slot)
  c1 : w.cell? ⟨bk, o + 1, none⟩ = some (.int .i64 e.ballot)
  c2 : w.cell? ⟨bk, o + 2, none⟩ = some (.int .i64 e.cmd.kind)
  c3 : w.cell? ⟨bk, o + 3, none⟩ = some (.int .i64 e.cmd.session)
  c4 : w.cell? ⟨bk, o + 4, none⟩ = some (.int .i64 e.cmd.seq)
  c5 : w.cell? ⟨bk, o + 5, none⟩ = some (.string e.cmd.name)
  c6 : w.cell? ⟨bk, o + 6, none⟩ = some (.int .i64 e.cmd.n)
theorem IsEn.below {w w' : World} {bk o B : Nat} {e : En} (h : IsEn w bk o e) (hb : bk < B) (k : Below B w w') : IsEn w' bk o e :=
  ⟨(k.cell (by exact hb)).trans h.c0, (k.cell (by exact hb)).trans h.c1, (k.cell (by exact hb)).trans h.c2, (k.cell (by exact hb)).trans h.c3, (k.cell (by exact hb)).trans h.c4, (k.cell (by exact hb)).trans h.c5, (k.cell (by exact hb)).trans h.c6⟩

/-- A row of entries, as a slice. -/
structure EntAt (w : World) (v : Value) (es : List En) : Prop where
  ex : ∃ (a : Option Addr) (cap : Nat), v = .slice a es.length cap ∧ (es.length = 0 ∨ ∃ bk off, a = some ⟨bk, off, none⟩ ∧ bk < w.heap.size ∧ ∀ j (hj : j < es.length), IsEn w bk (off + j * 7) es[j])
theorem EntAt.below {w w' : World} {v : Value} {es : List En} (h : EntAt w v es) (k : Below w.heap.size w w') : EntAt w' v es := by
  obtain ⟨a, cap, hv, he⟩ := h.ex
  refine ⟨⟨a, cap, hv, ?_⟩⟩
  rcases he with h | ⟨bk, off, ha, hb, hc⟩
  · exact Or.inl h
  · exact Or.inr ⟨bk, off, ha, Nat.lt_of_lt_of_le hb k.size, fun j hj => (hc j hj).below hb k⟩

set_option maxHeartbeats 3200000 in
set_option maxRecDepth 100000 in
/-- slices.Equal. -/
theorem equal_any (ea eb : List En) (va vb : Value) (w : World) (ha : EntAt w va ea) (hb : EntAt w vb eb) (hn : ea.length ≤ 9223372036854775807) (r : Bool) (hr : r = true ↔ ea = eb) :
    Calls Tryz.prog 38 #[va, vb] w fun e w' => e = .returned (.bool r) ∧ Below w.heap.size w w' := by
  obtain ⟨pa, ca, hva, ha'⟩ := ha.ex
  obtain ⟨pb, cb, hvb, hb'⟩ := hb.ex
  subst hva hvb
  have GA : Hid _ := ha'
  have GB : Hid _ := hb'
  have GR : Hid _ := hr
  clear ha hb ha' hb' hr
  by_cases hl : ea.length = eb.length
  · have hl' : ((ea.length : Int) == (eb.length : Int)) = true := by simp; omega
    go_enter Tryz.func38, Tryz.ntmps38
    go_wp2
    go_loopw [5, 13] (fun _ i wr => ∃ k : Nat, k ≤ ea.length ∧ i = .int .i64 k ∧ ea.take k = eb.take k ∧ Below w.heap.size w wr) (fun _ i _ => ea.length - (intOf i).toNat)
    case atStart => exact ⟨0, Nat.zero_le _, rfl, rfl, Below.refl _ _⟩
    case round =>
      obtain ⟨k, hk, rfl, ht, hbw⟩ := hrel
      by_cases hkl : k < ea.length
      · rcases GA.out with h | ⟨ka, oa, rfl, la, xa⟩
        · omega
        rcases GB.out with h | ⟨kb, ob, rfl, lb, xb⟩
        · omega
        have za := (xa k hkl).below la hbw
        have zb := (xb k (by omega)).below lb hbw
        obtain ⟨x, hea⟩ : ∃ e, e = ea[k] := ⟨_, rfl⟩
        obtain ⟨y, heb⟩ : ∃ e, e = eb[k]'(by omega) := ⟨_, rfl⟩
        rw [← hea] at za
        rw [← heb] at zb

        have a0 := za.c0
        have a1 := za.c1
        have a2 := za.c2
        have a3 := za.c3
        have a4 := za.c4
        have a5 := za.c5
        have a6 := za.c6
        have b0 := zb.c0
        have b1 := zb.c1
        have b2 := zb.c2
        have b3 := zb.c3
        have b4 := zb.c4
        have b5 := zb.c5
        have b6 := zb.c6
        have hkb : (k : Int) < (eb.length : Int) := by omega
        have HA : Hid (x = ea[k]) := hea
        have HB : Hid (y = eb[k]'(by omega)) := heb
        have HT : Hid (ea.take k = eb.take k) := ht
        have q := ent_neq x y
        clear xa xb za zb hea heb ht
        cases hxy : eqE x y with
        | true =>
          have HT2 : Hid (ea.take (k + 1) = eb.take (k + 1)) := by
            show _ = _
            rw [List.take_add_one, List.take_add_one, HT.out, List.getElem?_eq_getElem hkl, List.getElem?_eq_getElem (show k < eb.length by omega), ← HA.out, ← HB.out, (eqE_iff x y).1 hxy]
          rw [hxy] at q
          simp only [Bool.not_true] at q
          clear HA HB HT hxy
          go_wp2
          go_region_held3 (fun w' => w'.cell? ⟨ka, oa + k * 7, none⟩ = some (.int .i64 x.slot) ∧ w'.cell? ⟨ka, oa + k * 7 + 1, none⟩ = some (.int .i64 x.ballot) ∧ w'.cell? ⟨ka, oa + k * 7 + 2, none⟩ = some (.int .i64 x.cmd.kind) ∧ w'.cell? ⟨ka, oa + k * 7 + 3, none⟩ = some (.int .i64 x.cmd.session) ∧ w'.cell? ⟨ka, oa + k * 7 + 4, none⟩ = some (.int .i64 x.cmd.seq) ∧ w'.cell? ⟨ka, oa + k * 7 + 5, none⟩ = some (.string x.cmd.name) ∧ w'.cell? ⟨ka, oa + k * 7 + 6, none⟩ = some (.int .i64 x.cmd.n) ∧ w'.cell? ⟨kb, ob + k * 7, none⟩ = some (.int .i64 y.slot) ∧ w'.cell? ⟨kb, ob + k * 7 + 1, none⟩ = some (.int .i64 y.ballot) ∧ w'.cell? ⟨kb, ob + k * 7 + 2, none⟩ = some (.int .i64 y.cmd.kind) ∧ w'.cell? ⟨kb, ob + k * 7 + 3, none⟩ = some (.int .i64 y.cmd.session) ∧ w'.cell? ⟨kb, ob + k * 7 + 4, none⟩ = some (.int .i64 y.cmd.seq) ∧ w'.cell? ⟨kb, ob + k * 7 + 5, none⟩ = some (.string y.cmd.name) ∧ w'.cell? ⟨kb, ob + k * 7 + 6, none⟩ = some (.int .i64 y.cmd.n)) (go_keep) (first | fail)
          go_wp2
          go_roundw
          case rel => exact ⟨k + 1, hkl, by go_num, HT2.out, bmm hbw hbw.size (undrew (Below.refl _ wr.drew))⟩
          case measure => simp [intOf]; omega
        | false =>
          have HF : Hid (¬ ea = eb) := fun h => by
            have y1 := HA.out
            have y2 := HB.out
            subst h
            rw [← y1] at y2
            rw [(eqE_iff x y).2 y2.symm] at hxy
            cases hxy
          rw [hxy] at q
          simp only [Bool.not_false] at q
          clear HA HB HT hxy
          go_wp2
          go_region_held3 (fun w' => w'.cell? ⟨ka, oa + k * 7, none⟩ = some (.int .i64 x.slot) ∧ w'.cell? ⟨ka, oa + k * 7 + 1, none⟩ = some (.int .i64 x.ballot) ∧ w'.cell? ⟨ka, oa + k * 7 + 2, none⟩ = some (.int .i64 x.cmd.kind) ∧ w'.cell? ⟨ka, oa + k * 7 + 3, none⟩ = some (.int .i64 x.cmd.session) ∧ w'.cell? ⟨ka, oa + k * 7 + 4, none⟩ = some (.int .i64 x.cmd.seq) ∧ w'.cell? ⟨ka, oa + k * 7 + 5, none⟩ = some (.string x.cmd.name) ∧ w'.cell? ⟨ka, oa + k * 7 + 6, none⟩ = some (.int .i64 x.cmd.n) ∧ w'.cell? ⟨kb, ob + k * 7, none⟩ = some (.int .i64 y.slot) ∧ w'.cell? ⟨kb, ob + k * 7 + 1, none⟩ = some (.int .i64 y.ballot) ∧ w'.cell? ⟨kb, ob + k * 7 + 2, none⟩ = some (.int .i64 y.cmd.kind) ∧ w'.cell? ⟨kb, ob + k * 7 + 3, none⟩ = some (.int .i64 y.cmd.session) ∧ w'.cell? ⟨kb, ob + k * 7 + 4, none⟩ = some (.int .i64 y.cmd.seq) ∧ w'.cell? ⟨kb, ob + k * 7 + 5, none⟩ = some (.string y.cmd.name) ∧ w'.cell? ⟨kb, ob + k * 7 + 6, none⟩ = some (.int .i64 y.cmd.n)) (go_keep) (first | fail)
          go_wp2
          go_ret
          exact ⟨by rw [show r = false from (by cases hr : r with | false => rfl | true => exact absurd (GR.out.1 hr) HF.out)]; rfl, bmm hbw hbw.size (undrew (Below.refl _ wr.drew))⟩
      · have hke : k = ea.length := by omega
        subst hke
        rw [List.take_length, hl, List.take_length] at ht
        have HT : Hid (ea = eb) := ht
        clear ht
        go_wp2
        go_ret
        exact ⟨by rw [GR.out.2 HT.out]; rfl, hbw⟩
  · have hl' : ((ea.length : Int) == (eb.length : Int)) = false := by simp; omega
    go_enter Tryz.func38, Tryz.ntmps38
    go_wp2
    go_ret
    exact ⟨by rw [show r = false from (by cases hr : r with | false => rfl | true => exact absurd (congrArg List.length (GR.out.1 hr)) hl)]; rfl, Below.refl _ _⟩

end Go.Proofs.YtodnnhidljfilaaGreatDoor
