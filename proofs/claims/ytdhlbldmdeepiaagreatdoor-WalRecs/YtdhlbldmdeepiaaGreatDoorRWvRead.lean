/-
  The records of a text, from its front on (package wal). The conditions: the text has at most 2^40 bytes, and package frame's table lies in memory.
-/
import Derived.Test.YtdhlbldmdeepiaaGreatDoorRWvDec
import Derived.Test.YtdhlbldmdeepiaaGreatDoorRPackH
import Derived.Test.YtdhlbldmdeepiaaGreatDoorRPackA
import Derived.WalkMore
import Derived.ScopeJumps
namespace Go.Proofs.YtdhlbldmdeepiaaGreatDoor
open Go.RowKit

theorem infoRc : (Tryz.prog.info? 27).map (fun i => (i.zero, i.size, i.bytes)) = some (some (.agg rz), 9, 80) := by kernel_rfl
theorem rcC_one : ∀ x : Rc, ∀ u ∈ rcC x, u.oneCell' = true := by
  intro x u hu
  unfold rcC at hu
  simp only [List.mem_cons, List.mem_nil_iff, or_false] at hu
  rcases hu with rfl | rfl | rfl | rfl | rfl | rfl | rfl | rfl | rfl <;> rfl
/-- What was read of a text: the records and how many bytes they have. -/
def RdPost (w w' : World) (s : ByteArray) (v : Value) (acc : List Rc) (at0 : Nat) : Prop :=
  recs s.data.toList = (acc, at0) ∧ w'.ownsRow w.heap.size 27 9 v acc.length (rowL rcC acc) ∧ Below w.heap.size w w'
theorem jump_ret {l : Nat} {J : Act → World → Prop} {Q : Exit → Act → World → Prop} {a : Act} {w : World} : Exit.jump l J Q .ret a w = Q .ret a w := rfl
theorem tail_at (s : ByteArray) (k : Nat) : (s.extract k s.size).data.toList = s.data.toList.drop k := by
  have hl := Lib.size_eq s
  rw [Lib.extract_data, List.take_of_length_le (by rw [List.length_drop]; omega)]
theorem firstT_at (s : ByteArray) (k : Nat) : firstT (s.extract k s.size) = ((⟨(firstOf (s.data.toList.drop k)).1.toArray⟩ : ByteArray), (firstOf (s.data.toList.drop k)).2.1, (firstOf (s.data.toList.drop k)).2.2) := by
  unfold firstT
  rw [tail_at]
set_option maxHeartbeats 6400000 in
set_option maxRecDepth 100000 in
theorem wread_any (s : ByteArray) (hs : s.size ≤ 1099511627776) (w : World) (hT : Tab w) :
    Calls Tryz.prog 85 #[.string s] w fun e w' => ∃ v, e = .returned (.tuple #[v, .int .i64 ((recs s.data.toList).2 : Int)]) ∧ w'.ownsRow w.heap.size 27 9 v (recs s.data.toList).1.length (rowL rcC (recs s.data.toList).1) ∧ Below w.heap.size w w' := by
  obtain ⟨i0, hi, hz0, hz1, hz2⟩ := info_parts infoRc
  have hls := Lib.size_eq s
  have HL : Hid (s.size = s.data.toList.length) := hls
  clear hls
  go_enter Tryz.func85, Tryz.ntmps85
  go_wp2
  refine wp_scope_jumps 0 (fun a' w' => ∃ (v : Value) (at0 : Nat) (acc : List Rc) (u6 u7 u8 u9 u10 u11 u12 u13 u14 u15 u16 u17 u18 u19 u20 u21 u22 u23 u24 u25 u26 u27 u28 u29 u30 u31 u32 u33 : Value), a' = { tmps := #[.string s, undef, .slice none 0 0, .int .i64 0, v, .int .i64 (at0 : Int), u6, u7, u8, u9, u10, u11, u12, u13, u14, u15, u16, u17, u18, u19, u20, u21, u22, u23, u24, u25, u26, u27, u28, u29, u30, u31, u32, u33, undef, undef], defers := [] } ∧ RdPost w w' s v acc at0) (fun _ _ => 0) rfl ?_ ?_
  · go_wp2
    go_loopw [4, 5] (fun v t wr => ∃ (acc : List Rc) (k : Nat), k ≤ s.size ∧ acc.length ≤ k ∧ t = .int .i64 (k : Int) ∧ Hid (recs s.data.toList = (acc ++ (recs (s.data.toList.drop k)).1, k + (recs (s.data.toList.drop k)).2)) ∧ Hid (wr.ownsRow w.heap.size 27 9 v acc.length (rowL rcC acc)) ∧ Below w.heap.size w wr) (fun _ t _ => s.size - (intOf t).toNat)
    case atStart => exact ⟨[], 0, Nat.zero_le _, Nat.le_refl _, rfl, by show recs s.data.toList = ([] ++ (recs s.data.toList).1, 0 + (recs s.data.toList).2); simp, World.ownsRow_nil _ _ _ _, Below.refl _ _⟩
    case round =>
      obtain ⟨acc, k, hk, hak, rfl, HR, HO, hb⟩ := hrel
      obtain ⟨pv, nv, cv, rfl⟩ := own_form HO.out
      have qf := first_any (s.extract k s.size) (by rw [Lib.size_eq, tail_at, List.length_drop, ← HL.out]; omega) wr (hT.below hb)
      rw [firstT_at] at qf
      have kk : (k : Int) ≤ (s.size : Int) := by omega
      have hok := fun h => @firstOf_ok (s.data.toList.drop k) h
      have hno := @recs_no (s.data.toList.drop k)
      have hnone := @recs_none (s.data.toList.drop k)
      have hmore := fun r => @recs_more (s.data.toList.drop k) r
      have hdl : (s.data.toList.drop k).length = s.size - k := by rw [List.length_drop, ← HL.out]
      obtain ⟨X, hx⟩ : ∃ x, x = firstOf (s.data.toList.drop k) := ⟨_, rfl⟩
      rw [← hx] at qf hok hno hnone
      simp only [← hx] at hmore
      obtain ⟨t, n, z⟩ := X
      simp only at qf hok hno hnone hmore
      obtain ⟨tB, htB⟩ : ∃ tB : ByteArray, tB = ⟨t.toArray⟩ := ⟨_, rfl⟩
      have htl : tB.data.toList = t := by rw [htB]
      rw [← htB] at qf
      clear hx htB
      by_cases hz : z = 0
      · subst hz
        obtain ⟨o1, o2, o3⟩ := hok rfl
        have zt : tB.size ≤ 9223372036854775807 := by rw [Lib.size_eq, htl]; omega
        have qd := fun w => wdecR_any tB w zt
        rw [htl] at qd
        cases hd : decR t with
        | none =>
          rw [hd] at qd
          have qd' : ∀ w, Calls Tryz.prog 10 #[.string tB] w fun e w' => e = .returned (.tuple #[.agg rz, .int .i64 2]) ∧ Below w.heap.size w w' := qd
          have HE : Hid (recs s.data.toList = (acc, k)) := by
            show _ = _
            rw [HR.out, hnone hd, List.append_nil, Nat.add_zero]
          clear hok hno hnone hmore hdl qd hd htl HR o1 o2 o3 zt
          go_wp2_with (first
            | (go_at_call 10; refine (qd' _).mono ?_; rintro e w3 ⟨rfl, b3⟩; have f3 := bmm f2 f2.size b3; have HO3 : Hid (w3.ownsRow w.heap.size 27 9 (.slice pv nv cv) acc.length (rowL rcC acc)) := own_keep HO2.out (fun g e => b3.block g (HO2.out.lt g e).2))
            | (go_at_call 114; refine qf.mono ?_; rintro e w2 ⟨rfl, b2⟩; have f2 := bmm hb hb.size b2; have HO2 : Hid (w2.ownsRow w.heap.size 27 9 (.slice pv nv cv) acc.length (rowL rcC acc)) := own_keep HO.out (fun g e => b2.block g (HO.out.lt g e).2)))
          go_step3
          exact ⟨rfl, _, k, acc, _, _, _, _, _, _, _, _, _, _, _, _, _, _, _, _, _, _, _, _, _, _, _, _, _, _, _, _, rfl, HE.out, HO3.out.alloc _, f3.alloc f3.size _⟩
        | some r =>
          rw [hd] at qd
          have qd' : ∀ w, Calls Tryz.prog 10 #[.string tB] w fun e w' => e = .returned (.tuple #[.agg (rcV r), .int .i64 0]) ∧ Below w.heap.size w w' := qd
          have HE : Hid (recs s.data.toList = ((acc ++ [r]) ++ (recs (s.data.toList.drop (k + n))).1, (k + n) + (recs (s.data.toList.drop (k + n))).2)) := by
            show _ = _
            have := hmore r rfl hd
            rw [List.drop_drop] at this
            rw [HR.out, this]
            simp [Nat.add_assoc]
          have kn : k + n ≤ s.size := by omega
          have kk2 : (k : Int) + (n : Int) ≤ 9223372036854775807 := by omega
          clear hok hno hnone hmore hdl qd hd htl HR zt
          go_wp2_with (first
            | (at_builtin; refine wpList_app_row (k := 9) (enc := rcC) (l := [r]) rfl (.tmp 27) (.tmp 29) 47 27 rfl i0 _ 80 Tryz.underlying47 hi hz0 hz1 hz2 rfl (by decide) rcC_len rcC_one rfl rfl ((HO3.out.alloc _).alloc _) (RowAt.built (two_new w3 (.cells (rcV r) 27) (.cells (rcV r) 27)).2 rfl 1 rfl rfl) (by have := f3.size; simp; omega) (by simp; omega) (by simp; omega) ?_; intro u4 w4 h4 a4; have f4 : Below w.heap.size w w4 := ((f3.alloc f3.size _).alloc (by have := f3.size; simp; omega) _).trans a4.below; obtain ⟨p4, n4, q4, rfl⟩ := own_form h4)
            | (go_at_call 10; refine (qd' _).mono ?_; rintro e w3 ⟨rfl, b3⟩; have f3 := bmm f2 f2.size b3; have HO3 : Hid (w3.ownsRow w.heap.size 27 9 (.slice pv nv cv) acc.length (rowL rcC acc)) := own_keep HO2.out (fun g e => b3.block g (HO2.out.lt g e).2))
            | (go_at_call 114; refine qf.mono ?_; rintro e w2 ⟨rfl, b2⟩; have f2 := bmm hb hb.size b2; have HO2 : Hid (w2.ownsRow w.heap.size 27 9 (.slice pv nv cv) acc.length (rowL rcC acc)) := own_keep HO.out (fun g e => b2.block g (HO.out.lt g e).2)))
          go_roundw
          case rel => exact ⟨acc ++ [r], k + n, kn, by simp; omega, by go_num, HE.out, by rw [List.length_append, rowL_append]; exact h4, f4⟩
          case measure => simp [intOf]; omega
      · have hz' : ((z : Int) != 0) = true := by simpa using (by omega : ¬ (z : Int) = 0)
        have HE : Hid (recs s.data.toList = (acc, k)) := by
          show _ = _
          rw [HR.out, hno hz, List.append_nil, Nat.add_zero]
        clear hok hno hnone hmore hdl htl HR
        go_wp2_with (go_at_call 114; refine qf.mono ?_; rintro e w2 ⟨rfl, b2⟩; have f2 := bmm hb hb.size b2; have HO2 : Hid (w2.ownsRow w.heap.size 27 9 (.slice pv nv cv) acc.length (rowL rcC acc)) := own_keep HO.out (fun g e => b2.block g (HO.out.lt g e).2))
        go_step3
        exact ⟨rfl, _, k, acc, _, _, _, _, _, _, _, _, _, _, _, _, _, _, _, _, _, _, _, _, _, _, _, _, _, _, _, _, rfl, HE.out, HO2.out, f2⟩
  · rintro a' w' ⟨v, at0, acc, u6, u7, u8, u9, u10, u11, u12, u13, u14, u15, u16, u17, u18, u19, u20, u21, u22, u23, u24, u25, u26, u27, u28, u29, u30, u31, u32, u33, rfl, HP⟩
    have HQ : Hid (RdPost w w' s v acc at0) := HP
    obtain ⟨pv, nv, cv, rfl⟩ := own_form HP.2.1
    clear HP
    go_wp2
    rw [jump_ret]
    go_ret2
    obtain ⟨h1, h2, h3⟩ := HQ.out
    rw [h1]
    exact ⟨_, rfl, h2, h3⟩
end Go.Proofs.YtdhlbldmdeepiaaGreatDoor
