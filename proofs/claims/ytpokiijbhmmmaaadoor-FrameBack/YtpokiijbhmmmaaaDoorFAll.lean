/-
  The contracts of the document's own reader of all frames (package latchkeyref02): All, Texts, for every text that is not too long. The condition: at most 2^40 bytes.
-/
import Derived.Test.YtpokiijbhmmmaaaDoorFRead
namespace Go.Proofs.YtpokiijbhmmmaaaDoor
open Go.RowKit

theorem Tryd.info9 : (Tryd.prog.info? 9).map (fun i => (i.zero, i.size, i.bytes)) = some (some (.string ⟨#[]⟩), 1, 16) := by kernel_rfl

theorem grownB {w w1 : World} (h : Below w.heap.size w w1) (row : Option Nat) : w.grownBy w1 row := ⟨h.os, h.tape, h.output, h.size, fun k hk _ => h.block k hk⟩

/-- Texts as cells. -/
def strs (l : List (List UInt8)) : List Value := l.map fun t => .string ⟨t.toArray⟩
theorem strs_push (l : List (List UInt8)) (t : List UInt8) : strs l ++ [.string ⟨t.toArray⟩] = strs (l ++ [t]) := by simp [strs]

/-- All frames of a text, and their bytes. -/
def allT (l : List UInt8) : List (List UInt8) × Nat := allOf (l.length + 1) l

theorem allOf_step {f : Nat} {l : List UInt8} (h : (firstOf l).2.2 = 0) : allOf (f + 1) l = ((firstOf l).1 :: (allOf f (l.drop (firstOf l).2.1)).1, (firstOf l).2.1 + (allOf f (l.drop (firstOf l).2.1)).2) := by
  rw [allOf, if_neg (by simpa using h)]
theorem allOf_stop {f : Nat} {l : List UInt8} (h : (firstOf l).2.2 ≠ 0) : allOf (f + 1) l = ([], 0) := by
  rw [allOf, if_pos h]

set_option maxHeartbeats 1600000 in
set_option maxRecDepth 100000 in
theorem rall_any (s : ByteArray) (hs : s.size ≤ 1099511627776) (w : World) :
    Calls Tryd.prog 15 #[.string s] w fun e w' => ∃ v, e = .returned (.tuple #[v, .int .i64 (allT s.data.toList).2]) ∧ w'.ownsRow w.heap.size 9 1 v (allT s.data.toList).1.length (strs (allT s.data.toList).1) ∧ Below w.heap.size w w' := by
  obtain ⟨i0, hi, hz0, hz1, hz2⟩ := info_parts Tryd.info9
  have hl := Lib.size_eq s
  have h0 : ∃ f, s.data.toList.length - 0 < f ∧ allT s.data.toList = ([] ++ (allOf f (s.data.toList.drop 0)).1, 0 + (allOf f (s.data.toList.drop 0)).2) := ⟨s.data.toList.length + 1, by omega, by simp [allT]⟩
  rw [← hl] at h0
  obtain ⟨base, hbase⟩ : ∃ base, w.heap.size = base := ⟨_, rfl⟩
  rw [hbase]
  clear hl
  go_enter Tryd.func15, Tryd.ntmps15
  go_wp2
  go_loopw [4, 5, 6, 7, 8] (fun v i _ _ _ wr => ∃ (a : Nat) (ts : List (List UInt8)), a ≤ s.size ∧ 8 * ts.length ≤ a ∧ i = .int .i64 a ∧ wr.ownsRow base 9 1 v ts.length (strs ts) ∧ Below base w wr ∧
      ∃ f, s.size - a < f ∧ allT s.data.toList = (ts ++ (allOf f (s.data.toList.drop a)).1, a + (allOf f (s.data.toList.drop a)).2)) (fun _ i _ _ _ _ => s.size - (intOf i).toNat)
  case atStart => exact ⟨0, [], by omega, by simp, rfl, World.ownsRow_nil _ _ _ _, Below.refl _ _, h0⟩
  case round =>
    clear h0
    obtain ⟨a, ts, ha, hts, rfl, hown, hbel, f, hf, hall⟩ := hrel
    have hsz : base ≤ wr.heap.size := by have := hbel.size; omega
    obtain ⟨g, rfl⟩ : ∃ g, f = g + 1 := ⟨f - 1, by omega⟩
    have hxs : (s.extract a s.size).size ≤ s.size := by rw [Lib.size_eq, Lib.extract_to_end, List.length_drop, ← Lib.size_eq]; omega
    have q1 := rfirst_any (s.extract a s.size) (by omega)
    have e1 : (s.extract a s.size).data.toList = s.data.toList.drop a := Lib.extract_to_end s a
    unfold firstT at q1
    rw [e1] at q1
    have hok := firstOf_ok (l := s.data.toList.drop a)
    rw [List.length_drop, ← Lib.size_eq] at hok
    by_cases herr : (firstOf (s.data.toList.drop a)).2.2 = 0
    · obtain ⟨n8, nle, tl⟩ := hok herr
      rw [allOf_step herr, List.drop_drop] at hall
      obtain ⟨t, ht⟩ : ∃ t, t = (firstOf (s.data.toList.drop a)).1 := ⟨_, rfl⟩
      obtain ⟨n, hn⟩ : ∃ n, n = (firstOf (s.data.toList.drop a)).2.1 := ⟨_, rfl⟩
      rw [← ht, ← hn, herr] at q1
      rw [← hn] at n8 nle
      rw [← ht, ← hn] at hall
      have HA : Hid (allT s.data.toList = (ts ++ t :: (allOf g (s.data.toList.drop (a + n))).1, a + (n + (allOf g (s.data.toList.drop (a + n))).2))) := hall
      have ia : (a : Int) ≤ (s.size : Int) := by omega
      clear hall hok herr tl e1 hxs ht hn
      go_wp2_with (first
        | (go_at_call 13; refine (q1 _).mono ?_; rintro e w1 ⟨rfl, b1⟩; have hown1 := hown.kept (grownB b1 Option.none) (by cases Value.ownBlock _ <;> simp); have hsz1 : base ≤ w1.heap.size := (by have := b1.size; omega))
        | (at_builtin; refine wpList_append_lies _ rfl (.tmp 21) (.tmp 23) 34 rfl base 9 i0 (.string ⟨#[]⟩) 1 16 Tryd.underlying34 hi hz0 hz1 hz2 rfl (by decide) _ ts.length _ rfl (hown1.alloc _) ⟨w1.heap.size, 0, none⟩ 1 1 [.string ⟨t.toArray⟩] rfl rfl ?c1 ?c2 (by decide) (by unfold maxLen; omega) (by omega) (by simp; omega) (w1.heap.size + 1) (by simp) ?_))
      case c1 =>
        intro j u hj
        match j, hj with
        | 0, hj => simp at hj; subst hj; simp [Addr.add]
      case c2 => intro u hu; simp at hu; subst hu; rfl
      intro g' cap w2 hown' hgrow _ _
      rw [strs_push] at hown'
      have R1 : w2.ownsRow base 9 1 (.slice (some ⟨g', 0, none⟩) (ts.length + 1) cap) (ts ++ [t]).length (strs (ts ++ [t])) := by simpa using hown'
      have R2 : Below base w w2 := ((hbel.trans (b1.mono hsz)).alloc hsz1 _).grown hgrow (by simp; omega) (fun k hk => (hown.lt k hk).1)
      clear hown' hgrow hown1
      go_wp2
      go_roundw
      case rel => exact ⟨a + n, ts ++ [t], by omega, by simp; omega, by go_num, R1, R2, g, by omega, by rw [HA.out, List.append_assoc, Nat.add_assoc]; rfl⟩
      case measure => simp [intOf]; omega
    · rw [allOf_stop herr] at hall
      obtain ⟨t, ht⟩ : ∃ t, t = (firstOf (s.data.toList.drop a)).1 := ⟨_, rfl⟩
      obtain ⟨n, hn⟩ : ∃ n, n = (firstOf (s.data.toList.drop a)).2.1 := ⟨_, rfl⟩
      obtain ⟨r, hr⟩ : ∃ r, r = (firstOf (s.data.toList.drop a)).2.2 := ⟨_, rfl⟩
      rw [← ht, ← hn, ← hr] at q1
      have hr0 : ((r : Int) != 0) = true := by rw [← hr] at herr; simp; omega
      have HA : Hid (allT s.data.toList = (ts, a)) := by show allT _ = _; rw [hall]; simp
      have ia : (a : Int) ≤ (s.size : Int) := by omega
      clear hall hok herr e1 hxs ht hn hr
      go_wp2_with (first
        | (go_at_call 13; refine (q1 _).mono ?_; rintro e w1 ⟨rfl, b1⟩; have hown1 := hown.kept (grownB b1 Option.none) (by cases Value.ownBlock _ <;> simp)))
      go_ret2
      rw [HA.out]
      exact ⟨_, rfl, hown1, hbel.trans (b1.mono hsz)⟩

/-- A row of texts in memory: nil, or cells that hold them. -/
def HasTexts (w : World) (v : Value) (l : List (List UInt8)) : Prop :=
  (v = .slice Option.none 0 0 ∧ l = []) ∨ ∃ b cap, v = .slice (some ⟨b, 0, none⟩) l.length cap ∧ b < w.heap.size ∧ ∀ j, j < l.length → w.cell? ⟨b, j, none⟩ = some (.string ⟨(l.getD j []).toArray⟩)

theorem has_of_owns {w : World} {base : Nat} {v : Value} {l : List (List UInt8)} (h : w.ownsRow base 9 1 v l.length (strs l)) : HasTexts w v l := by
  rcases h.2 with ⟨rfl, h0⟩ | ⟨g, cap, cur, rfl, _, hg, _, _, _, htk⟩
  · exact Or.inl ⟨rfl, List.eq_nil_of_length_eq_zero h0⟩
  · refine Or.inr ⟨g, cap, rfl, lt_of_block hg, fun j hj => ?_⟩
    have hc := Lib.cells_of_row hg (l.length * 1) j (.string ⟨(l.getD j []).toArray⟩) (by rw [htk]; simp [strs, hj])
    rw [Lib.addr_add, Nat.zero_add] at hc
    exact hc
theorem HasTexts.below {w w1 : World} {v : Value} {l : List (List UInt8)} (h : HasTexts w v l) (hb : Below w.heap.size w w1) : HasTexts w1 v l := by
  rcases h with h | ⟨b, cap, rfl, hlt, hc⟩
  · exact Or.inl h
  · exact Or.inr ⟨b, cap, rfl, Nat.lt_of_lt_of_le hlt hb.size, fun j hj => (hb.cell (by exact hlt)).trans (hc j hj)⟩

set_option maxHeartbeats 800000 in
set_option maxRecDepth 100000 in
theorem rtexts_same (v1 v2 : Value) (l : List (List UInt8)) (hlen : l.length ≤ 9223372036854775807) (w : World) (h1 : HasTexts w v1 l) (h2 : HasTexts w v2 l) :
    Calls Tryd.prog 16 #[v1, v2] w fun e w' => e = .returned (.bool true) ∧ Below w.heap.size w w' := by
  rcases h1 with ⟨rfl, rfl⟩ | ⟨b1, cap1, rfl, hlt1, hc1⟩
  · rcases h2 with ⟨rfl, _⟩ | ⟨b2, cap2, rfl, hlt2, hc2⟩
    · go_enter Tryd.func16, Tryd.ntmps16
      go_wp2
      refine wp_loop_rounds 1 ?_
      rw [rounds_succ]
      go_wp2
      go_ret
      exact ⟨rfl, Below.refl _ _⟩
    · go_enter Tryd.func16, Tryd.ntmps16
      go_wp2
      refine wp_loop_rounds 1 ?_
      rw [rounds_succ]
      go_wp2
      go_ret
      exact ⟨rfl, Below.refl _ _⟩
  · rcases h2 with ⟨rfl, rfl⟩ | ⟨b2, cap2, rfl, hlt2, hc2⟩
    · go_enter Tryd.func16, Tryd.ntmps16
      go_wp2
      refine wp_loop_rounds 1 ?_
      rw [rounds_succ]
      go_wp2
      go_ret
      exact ⟨rfl, Below.refl _ _⟩
    · obtain ⟨n, hn⟩ : ∃ n, n = l.length := ⟨_, rfl⟩
      rw [← hn] at hlen hc1 hc2 ⊢
      clear hn
      go_enter Tryd.func16, Tryd.ntmps16
      go_wp2
      go_loopw [5] (fun i wr => ∃ k : Nat, k ≤ n ∧ i = .int .i64 k ∧ ∃ m, wr = w.drewN m) (fun i _ => n - (intOf i).toNat)
      case atStart => exact ⟨0, by omega, rfl, 0, rfl⟩
      case round =>
        obtain ⟨k, hk, rfl, m, rfl⟩ := hrel
        by_cases hlt : k < n
        · have hk' : (k : Int) < (n : Int) := by omega
          have d1 := hc1 k hlt
          have d2 := hc2 k hlt
          obtain ⟨t, ht⟩ : ∃ t : ByteArray, t = ⟨(l.getD k []).toArray⟩ := ⟨_, rfl⟩
          rw [← ht] at d1 d2
          clear ht hc1 hc2
          go_wp2
          go_quiet (fail)
          go_wp2
          go_roundw
          case rel => exact ⟨k + 1, by omega, by go_num, m + nq, rfl⟩
          case measure => simp [intOf]; omega
        · have hk' : (n : Int) ≤ (k : Int) := by omega
          go_wp2
          go_ret
          exact ⟨rfl, below_drewN (Below.refl _ _) _⟩
end Go.Proofs.YtpokiijbhmmmaaaDoor
