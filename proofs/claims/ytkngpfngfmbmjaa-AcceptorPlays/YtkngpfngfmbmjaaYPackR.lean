/-
  Parts of the proof, laid together: DuLaw, EnEq, DuRefE, DuOk, EnSame. The conditions stand at each part.
-/
import Derived.WalkKit
import Derived.ChangeKeysEq
import Derived.Deep.QuietTactic
import Derived.BigQuiet
import Derived.Deep.RegionHeld3
import Derived.Test.YtkngpfngfmbmjaaYPackC
import Derived.Test.YtkngpfngfmbmjaaYPackD
import Derived.Test.YtkngpfngfmbmjaaYPackI
import Derived.Test.YtkngpfngfmbmjaaYPackO
/-
  When two commands, two entries are the same, as values are compared. No condition.
-/
namespace Go.Proofs.Ytkngpfngfmbmjaa
open Go.RowKit

theorem toList_inj {x y : ByteArray} (h : x.toList = y.toList) : x = y := by
  rw [Lib.toList_data, Lib.toList_data] at h
  rw [← Lib.mk_data x, ← Lib.mk_data y, h]
theorem toList_beq (x y : ByteArray) : (x.toList == y.toList) = true ↔ x = y := ⟨fun h => toList_inj (by simpa using h), fun h => by rw [h]; simp⟩

/-- The same command, the same entry, reply, head: one bool each. -/
def eqC (a b : Cm) : Bool := a.kind == b.kind && (a.session == b.session && (a.seq == b.seq && (a.name.toList == b.name.toList && a.n == b.n)))
def eqE (a b : En) : Bool := a.slot == b.slot && (a.ballot == b.ballot && eqC a.cmd b.cmd)
theorem eqC_iff (a b : Cm) : eqC a b = true ↔ a = b := by
  obtain ⟨K, S, Q, T, N⟩ := a
  obtain ⟨K', S', Q', T', N'⟩ := b
  unfold eqC
  simp only [Bool.and_eq_true, beq_iff_eq, Cm.mk.injEq]
  constructor
  · rintro ⟨h1, h2, h3, h4, h5⟩
    exact ⟨h1, h2, h3, toList_inj h4, h5⟩
  · rintro ⟨h1, h2, h3, h4, h5⟩
    exact ⟨h1, h2, h3, by rw [h4], h5⟩
theorem eqE_iff (a b : En) : eqE a b = true ↔ a = b := by
  obtain ⟨A, B, C⟩ := a
  obtain ⟨A', B', C'⟩ := b
  unfold eqE
  simp only [Bool.and_eq_true, beq_iff_eq, eqC_iff, En.mk.injEq]

set_option maxRecDepth 100000 in
theorem ent_neq (a b : En) (w : World) : (binOp .neq 36 (.agg #[.int .i64 a.slot, .int .i64 a.ballot, .int .i64 a.cmd.kind, .int .i64 a.cmd.session, .int .i64 a.cmd.seq, .string a.cmd.name, .int .i64 a.cmd.n]) (.agg #[.int .i64 b.slot, .int .i64 b.ballot, .int .i64 b.cmd.kind, .int .i64 b.cmd.session, .int .i64 b.cmd.seq, .string b.cmd.name, .int .i64 b.cmd.n])).run Try.prog w = .ok (.bool (!eqE a b)) w := by
  unfold eqE eqC
  cases h0 : (a.slot == b.slot) with
  | false => simp [go_sem, h0]
  | true =>
    cases h1 : (a.ballot == b.ballot) with
    | false => simp [go_sem, h0, h1]
    | true =>
      cases h2 : (a.cmd.kind == b.cmd.kind) with
      | false => simp [go_sem, h0, h1, h2]
      | true =>
        cases h3 : (a.cmd.session == b.cmd.session) with
        | false => simp [go_sem, h0, h1, h2, h3]
        | true =>
          cases h4 : (a.cmd.seq == b.cmd.seq) with
          | false => simp [go_sem, h0, h1, h2, h3, h4]
          | true =>
            cases h5 : (a.cmd.name.toList == b.cmd.name.toList) with
            | false => simp [go_sem, h0, h1, h2, h3, h4, h5]
            | true =>
              cases h6 : (a.cmd.n == b.cmd.n) with
              | false => simp [go_sem, h0, h1, h2, h3, h4, h5, h6]
              | true =>
                simp [go_sem, h0, h1, h2, h3, h4, h5, h6]

end Go.Proofs.Ytkngpfngfmbmjaa
/-
  Whether two states are the same, by the document (package latchkeyref13). The condition: the entries lie in memory as their readings say.
-/
namespace Go.Proofs.Ytkngpfngfmbmjaa
open Go.RowKit

theorem Du.eq_iff (a b : Du) : a = b ↔ a.p = b.p ∧ a.b = b.b ∧ a.s = b.s ∧ a.es = b.es := by
  constructor
  · rintro rfl
    exact ⟨rfl, rfl, rfl, rfl⟩
  · cases a; cases b
    rintro ⟨h1, h2, h3, h4⟩
    simp only at h1 h2 h3 h4
    subst h1 h2 h3 h4
    rfl
set_option maxHeartbeats 3200000 in
set_option maxRecDepth 100000 in
theorem rsameD_any (w : World) (a b : Du) (va vb : Value) (ha : RowAt enC w va a.es) (hb : RowAt enC w vb b.es) (hn : a.es.length ≤ 1099511627776) (r : Bool) (hr : r = true ↔ a = b) :
    Calls Try.prog 23 #[.agg (duA a va), .agg (duA b vb)] w fun e w' => e = .returned (.bool r) ∧ Below w.heap.size w w' := by
  obtain ⟨pa, ca, rfl⟩ := ha.form
  obtain ⟨pb, cb, rfl⟩ := hb.form
  obtain ⟨W, hW⟩ : ∃ W, W = (w.alloc (.cells (duA a (.slice pa a.es.length ca)) 24)).alloc (.cells (duA b (.slice pb b.es.length cb)) 24) := ⟨_, rfl⟩
  have bW : Below w.heap.size w W := by rw [hW]; exact ((Below.refl _ w).alloc (Nat.le_refl _) _).alloc (by simp) _
  have hA : DuAt W w.heap.size a (.slice pa a.es.length ca) := by
    rw [hW]
    exact (Below.heap_alloc _ _ w.heap.size (by simp)).trans (heap_alloc_new w _)
  have hB : DuAt W (w.heap.size + 1) b (.slice pb b.es.length cb) := by
    rw [hW]
    exact (two_blocks w _ _).2.trans (heap_alloc_new _ _)
  rw [Du.eq_iff] at hr
  have a0 := hA.c0
  have a1 := hA.c1
  have a2 := hA.c2
  have a3 := hA.c3
  have b0 := hB.c0
  have b1 := hB.c1
  have b2 := hB.c2
  have b3 := hB.c3
  clear hA hB
  rw [hW] at a0 a1 a2 a3 b0 b1 b2 b3
  have no : ¬ (a.p = b.p ∧ a.b = b.b ∧ a.s = b.s ∧ a.es = b.es) → r = false := fun h => by
    cases r with
    | false => rfl
    | true => exact absurd (hr.1 rfl) h
  by_cases hp : a.p = b.p
  · have fp : (a.p != b.p) = false := by simpa using hp
    by_cases hb' : a.b = b.b
    · have fb : (a.b != b.b) = false := by simpa using hb'
      by_cases hs : a.s = b.s
      · have fs : (a.s.toList == b.s.toList) = true := by rw [hs]; simp
        by_cases hl : a.es.length = b.es.length
        · have fl : ((a.es.length : Int) != (b.es.length : Int)) = false := by simp; omega
          have HR : Hid (r = true ↔ a.es = b.es) := ⟨fun h => (hr.1 h).2.2.2, fun h => hr.2 ⟨hp, hb', hs, h⟩⟩
          have GA : Hid (RowAt enC W (.slice pa a.es.length ca) a.es) := ha.fresh bW
          have GB : Hid (RowAt enC W (.slice pb b.es.length cb) b.es) := hb.fresh bW
          have BW : Hid _ := bW
          have HW : Hid (W = _) := hW
          have HL : Hid (a.es.length = b.es.length) := hl
          clear hr no ha hb bW hp hb' hs hl
          go_enter Try.func23, Try.ntmps23
          go_wp2
          go_loopw [5] (fun i wr => ∃ k : Nat, k ≤ a.es.length ∧ i = .int .i64 k ∧ a.es.take k = b.es.take k ∧ Below W.heap.size W wr) (fun i _ => a.es.length - (intOf i).toNat)
          case atStart => exact ⟨0, Nat.zero_le _, rfl, rfl, by rw [HW.out]; exact Below.refl _ _⟩
          case round =>
            obtain ⟨k, hk, rfl, ht, hbw⟩ := hrel
            have hWs : w.heap.size + 2 ≤ W.heap.size := by rw [HW.out]; simp
            have g3 : wr.cell? ⟨w.heap.size, 3, none⟩ = some (.slice pa a.es.length ca) := (hbw.cell (p := ⟨w.heap.size, 3, none⟩) (by show w.heap.size < _; omega)).trans (by rw [HW.out]; exact a3)
            have h3 : wr.cell? ⟨w.heap.size + 1, 3, none⟩ = some (.slice pb b.es.length cb) := (hbw.cell (p := ⟨w.heap.size + 1, 3, none⟩) (by show w.heap.size + 1 < _; omega)).trans (by rw [HW.out]; exact b3)
            clear a0 a1 a2 a3 b0 b1 b2 b3
            by_cases hkx : k < a.es.length
            · have q0 : decide ((k : Int) < (a.es.length : Int)) = true := decide_eq_true (by omega)
              have hky : k < b.es.length := by have := HL.out; omega
              obtain ⟨ka, oa, ca', hva, _, la, xa⟩ := (GA.out.fresh hbw).cells enC_len (by omega)
              obtain ⟨kb, ob, cb', hvb, _, lb, xb⟩ := (GB.out.fresh hbw).cells enC_len (by have := HL.out; omega)
              injection hva with e1 e2 e3
              subst e1 e3
              injection hvb with e1 e2 e3
              subst e1 e3
              obtain ⟨x, hx⟩ : ∃ e, e = a.es[k] := ⟨_, rfl⟩
              obtain ⟨y, hy⟩ : ∃ e, e = b.es[k] := ⟨_, rfl⟩
              have x0 := xa k hkx 0 (.int .i64 x.slot) (by decide) (by rw [hx]; rfl)
              have x1 := xa k hkx 1 (.int .i64 x.ballot) (by decide) (by rw [hx]; rfl)
              have x2 := xa k hkx 2 (.int .i64 x.cmd.kind) (by decide) (by rw [hx]; rfl)
              have x3 := xa k hkx 3 (.int .i64 x.cmd.session) (by decide) (by rw [hx]; rfl)
              have x4 := xa k hkx 4 (.int .i64 x.cmd.seq) (by decide) (by rw [hx]; rfl)
              have x5 := xa k hkx 5 (.string x.cmd.name) (by decide) (by rw [hx]; rfl)
              have x6 := xa k hkx 6 (.int .i64 x.cmd.n) (by decide) (by rw [hx]; rfl)
              have y0 := xb k hky 0 (.int .i64 y.slot) (by decide) (by rw [hy]; rfl)
              have y1 := xb k hky 1 (.int .i64 y.ballot) (by decide) (by rw [hy]; rfl)
              have y2 := xb k hky 2 (.int .i64 y.cmd.kind) (by decide) (by rw [hy]; rfl)
              have y3 := xb k hky 3 (.int .i64 y.cmd.session) (by decide) (by rw [hy]; rfl)
              have y4 := xb k hky 4 (.int .i64 y.cmd.seq) (by decide) (by rw [hy]; rfl)
              have y5 := xb k hky 5 (.string y.cmd.name) (by decide) (by rw [hy]; rfl)
              have y6 := xb k hky 6 (.int .i64 y.cmd.n) (by decide) (by rw [hy]; rfl)
              rw [Nat.add_zero] at x0 y0
              have hkb : (k : Int) < (b.es.length : Int) := by omega
              have HX : Hid (x = a.es[k]) := hx
              have HY : Hid (y = b.es[k]) := hy
              have HT : Hid (a.es.take k = b.es.take k) := ht
              have q := ent_neq x y
              clear xa xb hx hy ht
              cases hxy : eqE x y with
              | true =>
                have HT2 : Hid (a.es.take (k + 1) = b.es.take (k + 1)) := by
                  show _ = _
                  rw [List.take_add_one, List.take_add_one, HT.out, List.getElem?_eq_getElem hkx, List.getElem?_eq_getElem hky, ← HX.out, ← HY.out, (eqE_iff x y).1 hxy]
                rw [hxy] at q
                simp only [Bool.not_true] at q
                clear HX HY HT hxy
                go_wp2
                go_quiet (fail)
                go_wp2
                go_roundw
                case rel => exact ⟨k + 1, hkx, by go_num, HT2.out, below_drewN hbw _⟩
                case measure => simp [intOf]; omega
              | false =>
                have HF : Hid (r = false) := by
                  show _ = _
                  cases hrr : r with
                  | false => rfl
                  | true =>
                    have e := HR.out.1 hrr
                    have : x = y := by
                      rw [HX.out, HY.out]
                      simp only [e]
                    rw [(eqE_iff x y).2 this] at hxy
                    cases hxy
                rw [hxy] at q
                simp only [Bool.not_false] at q
                clear HX HY HT hxy
                go_wp2
                go_quiet (fail)
                go_wp2
                go_ret
                exact ⟨by rw [HF.out]; rfl, BW.out.trans ((below_drewN hbw _).mono BW.out.size)⟩
            · have q0 : decide ((k : Int) < (a.es.length : Int)) = false := decide_eq_false (by omega)
              have HF : Hid (r = true) := HR.out.2 (by
                rw [List.take_of_length_le (by omega), List.take_of_length_le (by have := HL.out; omega)] at ht
                exact ht)
              clear ht
              go_wp2
              go_ret
              exact ⟨by rw [HF.out]; rfl, BW.out.trans (hbw.mono BW.out.size)⟩
        · have fl : ((a.es.length : Int) != (b.es.length : Int)) = true := by simp; omega
          have hf := no (fun h => hl (by rw [h.2.2.2]))
          subst hf
          rw [hW] at bW
          clear ha hb hr no hp hb' hs hl
          go_enter Try.func23, Try.ntmps23
          go_wp2
          go_ret
          exact ⟨rfl, bW⟩
      · have fs : (a.s.toList == b.s.toList) = false := by
          cases h : (a.s.toList == b.s.toList) with
          | true => exact absurd ((toList_beq _ _).1 h) hs
          | false => rfl
        have hf := no (fun h => hs h.2.2.1)
        subst hf
        rw [hW] at bW
        clear ha hb hr no hp hb' hs
        go_enter Try.func23, Try.ntmps23
        go_wp2
        go_ret
        exact ⟨rfl, bW⟩
    · have fb : (a.b != b.b) = true := by simpa using hb'
      have hf := no (fun h => hb' h.2.1)
      subst hf
      rw [hW] at bW
      clear ha hb hr no hp hb'
      go_enter Try.func23, Try.ntmps23
      go_wp2
      go_ret
      exact ⟨rfl, bW⟩
  · have fp : (a.p != b.p) = true := by simpa using hp
    have hf := no (fun h => hp h.1)
    subst hf
    rw [hW] at bW
    clear ha hb hr no hp
    go_enter Try.func23, Try.ntmps23
    go_wp2
    go_ret
    exact ⟨rfl, bW⟩
end Go.Proofs.Ytkngpfngfmbmjaa
/-
  What package durable's Fold, Recs and Same must do, as one thing to be shown of the code. No condition.
-/
namespace Go.Proofs.Ytkngpfngfmbmjaa
open Go.RowKit

/-- Texts that can be cloned. -/
structure SzD (d : Du) : Prop where
  s : d.s.size ≤ 281474976710656
  es : ∀ e ∈ d.es, e.cmd.name.size ≤ 281474976710656
abbrev SzR (l : List Rc) : Prop := ∀ r ∈ l, r.en.cmd.name.size ≤ 281474976710656
theorem SzD.recs {d : Du} (h : SzD d) : SzR (recsD d) := fun r hr => by
  unfold recsD at hr
  rw [List.mem_append] at hr
  rcases hr with hr | hr
  · split at hr
    · rw [List.mem_singleton] at hr
      rw [hr]
      show En.zero.cmd.name.size ≤ _
      decide
    · cases hr
  · obtain ⟨e, he, rfl⟩ := List.mem_map.1 hr
    exact h.es e he
end Go.Proofs.Ytkngpfngfmbmjaa
