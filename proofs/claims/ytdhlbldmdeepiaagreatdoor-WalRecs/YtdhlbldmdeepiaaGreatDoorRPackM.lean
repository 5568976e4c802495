/-
  Parts of the proof, laid together: WlDecP, WlDecA, WlDecB, WlDecC, WlDec. The conditions stand at each part.
-/
import Derived.Test.YtdhlbldmdeepiaaGreatDoorRWvDec
import Derived.Test.YtdhlbldmdeepiaaGreatDoorRRTake
/-
  Bytes as a record (package latchkeyref11). The condition: the text is no longer than a text may be.
-/
namespace Go.Proofs.YtdhlbldmdeepiaaGreatDoor
open Go.RowKit

/-- A number, little end first. -/
def leN : List UInt8 → Nat
  | [] => 0
  | c :: l => c.toNat + 256 * leN l
theorem leN_num8 {l : List UInt8} (h : l.length = 8) : leN l = num8 l := by
  match l, h with
  | [a, b, c, d, e, f, g, i], _ =>
    show a.toNat + 256 * (b.toNat + 256 * (c.toNat + 256 * (d.toNat + 256 * (e.toNat + 256 * (f.toNat + 256 * (g.toNat + 256 * (i.toNat + 256 * 0))))))) = (a.toNat + b.toNat * 256 + c.toNat * 65536 + d.toNat * 16777216) + (e.toNat + f.toNat * 256 + g.toNat * 65536 + i.toNat * 16777216) * 4294967296
    omega
theorem leN_drop (l : List UInt8) (k : Nat) (h : k < l.length) : leN (l.drop k) = l[k].toNat + 256 * leN (l.drop (k + 1)) := by
  rw [List.drop_eq_getElem_cons h]
  rfl
theorem leN_le : ∀ (l : List UInt8) (k : Nat), leN (l.drop k) ≤ leN l
  | l, 0 => Nat.le_refl _
  | [], k + 1 => by simp
  | c :: l, k + 1 => by
    have := leN_le l k
    show leN (l.drop k) ≤ c.toNat + 256 * leN l
    omega
theorem leN_small {l : List UInt8} (h : l.length = 8) (h6 : l[6].toNat = 0) (h7 : l[7].toNat = 0) : leN l < 281474976710656 := by
  match l, h with
  | [a, b, c, d, e, f, g, i], _ =>
    have ha := byte_lt a; have hb := byte_lt b; have hc := byte_lt c; have hd := byte_lt d; have he := byte_lt e; have hf := byte_lt f
    have hg : g.toNat = 0 := h6
    have hi : i.toNat = 0 := h7
    show a.toNat + 256 * (b.toNat + 256 * (c.toNat + 256 * (d.toNat + 256 * (e.toNat + 256 * (f.toNat + 256 * (g.toNat + 256 * (i.toNat + 256 * 0))))))) < _
    omega
end Go.Proofs.YtdhlbldmdeepiaaGreatDoor
/-
  Bytes as a record (package latchkeyref11): a promise. The condition: the text is no longer than a text may be.
-/
namespace Go.Proofs.YtdhlbldmdeepiaaGreatDoor
open Go.RowKit

set_option maxHeartbeats 6400000 in
set_option maxRecDepth 100000 in
theorem rdec_a1 (s : ByteArray) (w : World) (h9s : s.size = 9) (k0 : 0 < s.size) (k8 : 8 < s.size) (k7 : 7 < s.size) (h1 : s[0].toNat = 1) (h8 : s[8].toNat = 0) (h7 : s[7].toNat = 0) (M : Nat) (hM : M = num8 (s.data.toList.drop 1)) (hm : mayR ⟨1, (M : Int), ⟨0, 0, ⟨0, 0, 0, ⟨#[]⟩, 0⟩⟩⟩ = false) :
    Calls Tryz.prog 11 #[.string s] w fun e w' => e = .returned (.tuple #[.agg (rz), .int .i64 2]) ∧ Below w.heap.size w w' := by
  have hl : s.data.toList.length = 9 := by rw [← Lib.size_eq]; exact h9s
  have ht : (s.data.toList.drop 1).length = 8 := by rw [List.length_drop, hl]
  have hat : ∀ (i : Nat) (hi : i + 1 < s.size), (s.data.toList.drop 1)[i]'(by omega) = s[i + 1] := fun i hi => by
    rw [List.getElem_drop]
    simp only [Nat.add_comm 1 i]
    rfl
  have hsm := leN_small ht (by rw [hat 6 (by omega)]; exact h7) (by rw [hat 7 (by omega)]; exact h8)
  have HM : Hid (M = leN (s.data.toList.drop 1)) := by rw [leN_num8 ht]; exact hM
  have HS : Hid (∀ (k : Nat) (hk : k + 1 < s.size), leN ((s.data.toList.drop 1).drop k) = s[k + 1].toNat + 256 * leN ((s.data.toList.drop 1).drop (k + 1))) := fun k hk => by rw [leN_drop _ k (by omega), hat k hk]
  have HB : Hid (∀ k, leN ((s.data.toList.drop 1).drop k) < 281474976710656) := fun k => Nat.lt_of_le_of_lt (leN_le _ k) hsm
  have HZ : Hid (leN ((s.data.toList.drop 1).drop 8) = 0) := by rw [List.drop_of_length_le (by omega)]; rfl
  obtain ⟨d0, e0⟩ : ∃ d, s[0].toNat = d := ⟨_, rfl⟩
  obtain ⟨d8, e8⟩ : ∃ d, s[8].toNat = d := ⟨_, rfl⟩
  obtain ⟨d7, e7⟩ : ∃ d, s[7].toNat = d := ⟨_, rfl⟩
  rw [e0] at h1
  rw [e8] at h8
  rw [e7] at h7
  have f9 : ((s.size : Int) == 9) = true := by simpa using (by omega : (s.size : Int) = 9)
  have f0_1 : ((d0 : Int) == 1) = true := by simpa using (by omega : (d0 : Int) = 1)
  have f8_0 : ((d8 : Int) == 0) = true := by simpa using (by omega : (d8 : Int) = 0)
  have f7_0 : ((d7 : Int) == 0) = true := by simpa using (by omega : (d7 : Int) = 0)
  have qe := rencR_any 1 M 0 0 0 0 0 0 ⟨#[]⟩
  rw [encRT_no hm] at qe
  clear hm
  clear hl ht hat hsm hM
  have f0 : Below w.heap.size w ((w.alloc (.cells rz 27)).alloc (.cells (rcA 1 0 0 0 0 0 0 0 ⟨#[]⟩) 27)) := ((Below.refl _ w).alloc (Nat.le_refl _) _).alloc (by simp) _
  have tw := two_new w (.cells rz 27) (.cells (rcA 1 0 0 0 0 0 0 0 ⟨#[]⟩) 27)
  go_enter Tryz.func11, Tryz.ntmps11
  go_wp2
  go_loopw [5] (fun i wr => ∃ (k : Nat), k ≤ 8 ∧ i = .int .i64 (k : Int) ∧ Hid (wr.heap[w.heap.size]? = some (.cells rz 27 (0, 0))) ∧ Hid (wr.heap[w.heap.size + 1]? = some (.cells (rcA 1 (leN ((s.data.toList.drop 1).drop k)) 0 0 0 0 0 0 ⟨#[]⟩) 27 (0, 0))) ∧ Below w.heap.size w wr) (fun i _ => (intOf i).toNat)
  case atStart => exact ⟨8, by omega, rfl, tw.1, by rw [HZ.out]; exact tw.2, f0⟩
  case round =>
    obtain ⟨k', hk, rfl, HR, HV, hb⟩ := hrel
    clear f0 tw
    by_cases h0 : 0 < k'
    · obtain ⟨k, rfl⟩ : ∃ k, k' = k + 1 := ⟨k' - 1, by omega⟩
      have hd : decide ((0 : Int) < ((k + 1 : Nat) : Int)) = true := decide_eq_true (by omega)
      have kk : k + 1 < s.size := by omega
      obtain ⟨c, hc⟩ : ∃ c, s[k + 1].toNat = c := ⟨_, rfl⟩
      have bc : c < 256 := by rw [← hc]; exact byte_lt _
      have hst := HS.out k kk
      rw [hc] at hst
      have hbd := HB.out k
      obtain ⟨v, hv⟩ : ∃ v, v = leN ((s.data.toList.drop 1).drop (k + 1)) := ⟨_, rfl⟩
      rw [← hv] at HV hst
      have c1 : wr.cell? ⟨w.heap.size + 1, 1, none⟩ = some (.int .i64 (v : Int)) := by simp [World.cell?, HV.out]
      have c1f : wr.frozen? ⟨w.heap.size + 1, 1, none⟩ = false := by simp [World.frozen?, HV.out]
      have vb : v * 256 + c < 281474976710656 := by omega
      have w1 : IntKind.i64.wrap ((v : Int) * 256) = (v : Int) * 256 := by rw [IntKind.wrap_i64]; omega
      have w2 : IntKind.i64.wrap ((v : Int) * 256 + (c : Int)) = (v : Int) * 256 + (c : Int) := by rw [IntKind.wrap_i64]; omega
      have HV2 : Hid ((wr.drew.setCell ⟨w.heap.size + 1, 1, none⟩ (.int .i64 ((v : Int) * 256 + (c : Int)))).heap[w.heap.size + 1]? = some (.cells (rcA 1 (leN ((s.data.toList.drop 1).drop k)) 0 0 0 0 0 0 ⟨#[]⟩) 27 (0, 0))) := by
        have := Lib.heap_setCell_same (i := 1) (show wr.drew.heap[w.heap.size + 1]? = _ from HV.out) (.int .i64 ((v : Int) * 256 + (c : Int)))
        rw [hst, show ((c + 256 * v : Nat) : Int) = (v : Int) * 256 + (c : Int) by omega]
        exact this
      have HR2 : Hid ((wr.drew.setCell ⟨w.heap.size + 1, 1, none⟩ (.int .i64 ((v : Int) * 256 + (c : Int)))).heap[w.heap.size]? = some (.cells rz 27 (0, 0))) := (heap_setCell_other _ _ _ _ (by show w.heap.size ≠ w.heap.size + 1; omega)).trans HR.out
      have b2 : Below w.heap.size w (wr.drew.setCell ⟨w.heap.size + 1, 1, none⟩ (.int .i64 ((v : Int) * 256 + (c : Int)))) := (show Below w.heap.size w wr.drew from ⟨hb.os, hb.tape, hb.output, hb.size, hb.block⟩).setCell (p := ⟨w.heap.size + 1, 1, none⟩) (Nat.le_succ _) _
      have kc : ((k + 1 : Nat) : Int) = (k : Int) + 1 := by omega
      have i0 : (0 : Int) ≤ (k : Int) + 1 := by omega
      have i9 : ((9 : Int) ≤ (k : Int) + 1) = False := eq_false (by omega)
      have wc : IntKind.i64.wrap (c : Int) = (c : Int) := by rw [IntKind.wrap_i64]; omega
      clear hst hbd hv HR HV
      go_wp2
      refine wp_region_held_drew (S := (fun _ : World => True)) (by kernel_rfl) ?_ (fun hHeld0 => ?_)
      · trivial
      refine tk0 (.pointer (some ⟨w.heap.size + 1, 1, none⟩)) (by kernel_rfl) (by kernel_rfl) (by kernel_rfl) (fun _ _ _ h => h) rfl (fun w hSw => by (try dsimp only at hSw); go_simp) trivial ?_
      try simp only [Act.put, List.setIfInBounds_toArray, List.set_cons_zero, List.set_cons_succ]
      refine tk3 (.string s) (by kernel_rfl) (by kernel_rfl) (by kernel_rfl) (fun _ _ _ h => h) rfl (fun w hSw => by (try dsimp only at hSw); go_simp) trivial ?_
      try simp only [Act.put, List.setIfInBounds_toArray, List.set_cons_zero, List.set_cons_succ]
      refine tk4 (.int .i64 ((k : Int) + 1)) (by kernel_rfl) (by kernel_rfl) (by kernel_rfl) (fun _ _ _ h => h) rfl (fun w hSw => by (try dsimp only at hSw); go_simp) trivial ?_
      try simp only [Act.put, List.setIfInBounds_toArray, List.set_cons_zero, List.set_cons_succ]
      refine tk5 (.int .u8 (c : Int)) (by kernel_rfl) (by kernel_rfl) (by kernel_rfl) (fun _ _ _ h => h) rfl (fun w hSw => by (try dsimp only at hSw); go_simp) trivial ?_
      try simp only [Act.put, List.setIfInBounds_toArray, List.set_cons_zero, List.set_cons_succ]
      refine tk6 (.int .i64 (c : Int)) (by kernel_rfl) (by kernel_rfl) (by kernel_rfl) (fun _ _ _ h => h) rfl (fun w hSw => by (try dsimp only at hSw); go_simp) trivial ?_
      try simp only [Act.put, List.setIfInBounds_toArray, List.set_cons_zero, List.set_cons_succ]
      refine cl1 (by kernel_rfl) rfl (fun K hK => ?_)
      go_simp
      refine hK.out _ _ ?_ (fun hHeld => ?_)
      · trivial
      clear hK K
      try simp only [Act.put, List.setIfInBounds_toArray, List.set_cons_zero, List.set_cons_succ]
      refine tk2 (.int .i64 ((v : Int) * 256)) (by kernel_rfl) (by kernel_rfl) (by kernel_rfl) (fun _ _ _ h => h) rfl (fun w hSw => by (try dsimp only at hSw); go_simp) trivial ?_
      try simp only [Act.put, List.setIfInBounds_toArray, List.set_cons_zero, List.set_cons_succ]
      refine tk7 (.int .i64 ((v : Int) * 256 + (c : Int))) (by kernel_rfl) (by kernel_rfl) (by kernel_rfl) (fun _ _ _ h => h) rfl (fun w hSw => by (try dsimp only at hSw); go_simp) trivial ?_
      try simp only [Act.put, List.setIfInBounds_toArray, List.set_cons_zero, List.set_cons_succ]
      refine tk8 (.pointer (some ⟨w.heap.size + 1, 1, none⟩)) (by kernel_rfl) (by kernel_rfl) (by kernel_rfl) (fun _ _ _ h => h) rfl (fun w hSw => by (try dsimp only at hSw); go_simp) trivial ?_
      try simp only [Act.put, List.setIfInBounds_toArray, List.set_cons_zero, List.set_cons_succ]
      refine cl9 (by kernel_rfl) rfl (fun K hK => ?_)
      go_simp
      refine hK.out _ _ ?_ (fun hHeld => ?_)
      · trivial
      clear hK K
      try simp only [Act.put, List.setIfInBounds_toArray, List.set_cons_zero, List.set_cons_succ]
      refine wpAnyH_done (by kernel_rfl) ?_ _
      go_wp2
      go_roundw
      case rel => exact ⟨k, by omega, by go_num, HR2, HV2, b2⟩
      case measure => simp [intOf]
    · have hk0 : k' = 0 := by omega
      subst hk0
      have HV' : Hid (wr.heap[w.heap.size + 1]? = some (.cells (rcA 1 M 0 0 0 0 0 0 ⟨#[]⟩) 27 (0, 0))) := by
        have := HV.out
        rw [List.drop_zero, ← HM.out] at this
        exact this
      have hV := HV'.out
      have hR := HR.out
      clear HV HR HS HB HZ
      go_wp2_with (first
        | (show wpList _ _ _ (⟨_, Op.store 27 _ _, _, _, _, _⟩ :: _) _ _; have y0 := hR3; refine store_row_g rfl 27 _ _ rfl w.heap.size (rz) rfl rfl 27 rz hR3 infoR9 rfl (by simp [Value.oneCell']) ?_; intro w9 h9 g9)
        | (show wpList _ _ _ (⟨_, Op.load 27 _, _, _, _, _⟩ :: _) _ _; have y0 := hV3; refine load_row_g rfl 27 _ rfl (w.heap.size + 1) rfl 27 _ (0, 0) _ hV3 Tryz.underlying27 rfl infoR9 ?_)
        | (go_at_call 9; refine (qe _).mono ?_; rintro e w3 ⟨rfl, b3⟩; have hR3 := (b3.block w.heap.size (lt_of_block hR)).trans hR; have hV3 := (b3.block (w.heap.size + 1) (lt_of_block hV)).trans hV)
        | (show wpList _ _ _ (⟨_, Op.load 27 _, _, _, _, _⟩ :: _) _ _; have y0 := hV; refine load_row_g rfl 27 _ rfl (w.heap.size + 1) rfl 27 _ (0, 0) _ hV Tryz.underlying27 rfl infoR9 ?_))
      refine bodyPost_ret (results_rec Tryz.results11 _ _ rfl h9) rfl ?_
      exact ⟨rfl, low_set (bmm hb hb.size b3) (Nat.le_refl _) g9⟩
set_option maxHeartbeats 6400000 in
set_option maxRecDepth 100000 in
theorem rdec_a2 (s : ByteArray) (w : World) (h9s : s.size = 9) (k0 : 0 < s.size) (k8 : 8 < s.size) (k7 : 7 < s.size) (h1 : s[0].toNat = 1) (h8 : s[8].toNat = 0) (h7 : s[7].toNat = 0) (M : Nat) (hM : M = num8 (s.data.toList.drop 1)) (hm : mayR ⟨1, (M : Int), ⟨0, 0, ⟨0, 0, 0, ⟨#[]⟩, 0⟩⟩⟩ = true) (he : (⟨(encR ⟨1, (M : Int), ⟨0, 0, ⟨0, 0, 0, ⟨#[]⟩, 0⟩⟩⟩).toArray⟩ : ByteArray) = s) :
    Calls Tryz.prog 11 #[.string s] w fun e w' => e = .returned (.tuple #[.agg (rcA 1 M 0 0 0 0 0 0 ⟨#[]⟩), .int .i64 0]) ∧ Below w.heap.size w w' := by
  have hl : s.data.toList.length = 9 := by rw [← Lib.size_eq]; exact h9s
  have ht : (s.data.toList.drop 1).length = 8 := by rw [List.length_drop, hl]
  have hat : ∀ (i : Nat) (hi : i + 1 < s.size), (s.data.toList.drop 1)[i]'(by omega) = s[i + 1] := fun i hi => by
    rw [List.getElem_drop]
    simp only [Nat.add_comm 1 i]
    rfl
  have hsm := leN_small ht (by rw [hat 6 (by omega)]; exact h7) (by rw [hat 7 (by omega)]; exact h8)
  have HM : Hid (M = leN (s.data.toList.drop 1)) := by rw [leN_num8 ht]; exact hM
  have HS : Hid (∀ (k : Nat) (hk : k + 1 < s.size), leN ((s.data.toList.drop 1).drop k) = s[k + 1].toNat + 256 * leN ((s.data.toList.drop 1).drop (k + 1))) := fun k hk => by rw [leN_drop _ k (by omega), hat k hk]
  have HB : Hid (∀ k, leN ((s.data.toList.drop 1).drop k) < 281474976710656) := fun k => Nat.lt_of_le_of_lt (leN_le _ k) hsm
  have HZ : Hid (leN ((s.data.toList.drop 1).drop 8) = 0) := by rw [List.drop_of_length_le (by omega)]; rfl
  obtain ⟨d0, e0⟩ : ∃ d, s[0].toNat = d := ⟨_, rfl⟩
  obtain ⟨d8, e8⟩ : ∃ d, s[8].toNat = d := ⟨_, rfl⟩
  obtain ⟨d7, e7⟩ : ∃ d, s[7].toNat = d := ⟨_, rfl⟩
  rw [e0] at h1
  rw [e8] at h8
  rw [e7] at h7
  have f9 : ((s.size : Int) == 9) = true := by simpa using (by omega : (s.size : Int) = 9)
  have f0_1 : ((d0 : Int) == 1) = true := by simpa using (by omega : (d0 : Int) = 1)
  have f8_0 : ((d8 : Int) == 0) = true := by simpa using (by omega : (d8 : Int) = 0)
  have f7_0 : ((d7 : Int) == 0) = true := by simpa using (by omega : (d7 : Int) = 0)
  have qe := rencR_any 1 M 0 0 0 0 0 0 ⟨#[]⟩
  rw [encRT_yes hm, he] at qe
  clear hm he
  clear hl ht hat hsm hM
  have f0 : Below w.heap.size w ((w.alloc (.cells rz 27)).alloc (.cells (rcA 1 0 0 0 0 0 0 0 ⟨#[]⟩) 27)) := ((Below.refl _ w).alloc (Nat.le_refl _) _).alloc (by simp) _
  have tw := two_new w (.cells rz 27) (.cells (rcA 1 0 0 0 0 0 0 0 ⟨#[]⟩) 27)
  go_enter Tryz.func11, Tryz.ntmps11
  go_wp2
  go_loopw [5] (fun i wr => ∃ (k : Nat), k ≤ 8 ∧ i = .int .i64 (k : Int) ∧ Hid (wr.heap[w.heap.size]? = some (.cells rz 27 (0, 0))) ∧ Hid (wr.heap[w.heap.size + 1]? = some (.cells (rcA 1 (leN ((s.data.toList.drop 1).drop k)) 0 0 0 0 0 0 ⟨#[]⟩) 27 (0, 0))) ∧ Below w.heap.size w wr) (fun i _ => (intOf i).toNat)
  case atStart => exact ⟨8, by omega, rfl, tw.1, by rw [HZ.out]; exact tw.2, f0⟩
  case round =>
    obtain ⟨k', hk, rfl, HR, HV, hb⟩ := hrel
    clear f0 tw
    by_cases h0 : 0 < k'
    · obtain ⟨k, rfl⟩ : ∃ k, k' = k + 1 := ⟨k' - 1, by omega⟩
      have hd : decide ((0 : Int) < ((k + 1 : Nat) : Int)) = true := decide_eq_true (by omega)
      have kk : k + 1 < s.size := by omega
      obtain ⟨c, hc⟩ : ∃ c, s[k + 1].toNat = c := ⟨_, rfl⟩
      have bc : c < 256 := by rw [← hc]; exact byte_lt _
      have hst := HS.out k kk
      rw [hc] at hst
      have hbd := HB.out k
      obtain ⟨v, hv⟩ : ∃ v, v = leN ((s.data.toList.drop 1).drop (k + 1)) := ⟨_, rfl⟩
      rw [← hv] at HV hst
      have c1 : wr.cell? ⟨w.heap.size + 1, 1, none⟩ = some (.int .i64 (v : Int)) := by simp [World.cell?, HV.out]
      have c1f : wr.frozen? ⟨w.heap.size + 1, 1, none⟩ = false := by simp [World.frozen?, HV.out]
      have vb : v * 256 + c < 281474976710656 := by omega
      have w1 : IntKind.i64.wrap ((v : Int) * 256) = (v : Int) * 256 := by rw [IntKind.wrap_i64]; omega
      have w2 : IntKind.i64.wrap ((v : Int) * 256 + (c : Int)) = (v : Int) * 256 + (c : Int) := by rw [IntKind.wrap_i64]; omega
      have HV2 : Hid ((wr.drew.setCell ⟨w.heap.size + 1, 1, none⟩ (.int .i64 ((v : Int) * 256 + (c : Int)))).heap[w.heap.size + 1]? = some (.cells (rcA 1 (leN ((s.data.toList.drop 1).drop k)) 0 0 0 0 0 0 ⟨#[]⟩) 27 (0, 0))) := by
        have := Lib.heap_setCell_same (i := 1) (show wr.drew.heap[w.heap.size + 1]? = _ from HV.out) (.int .i64 ((v : Int) * 256 + (c : Int)))
        rw [hst, show ((c + 256 * v : Nat) : Int) = (v : Int) * 256 + (c : Int) by omega]
        exact this
      have HR2 : Hid ((wr.drew.setCell ⟨w.heap.size + 1, 1, none⟩ (.int .i64 ((v : Int) * 256 + (c : Int)))).heap[w.heap.size]? = some (.cells rz 27 (0, 0))) := (heap_setCell_other _ _ _ _ (by show w.heap.size ≠ w.heap.size + 1; omega)).trans HR.out
      have b2 : Below w.heap.size w (wr.drew.setCell ⟨w.heap.size + 1, 1, none⟩ (.int .i64 ((v : Int) * 256 + (c : Int)))) := (show Below w.heap.size w wr.drew from ⟨hb.os, hb.tape, hb.output, hb.size, hb.block⟩).setCell (p := ⟨w.heap.size + 1, 1, none⟩) (Nat.le_succ _) _
      have kc : ((k + 1 : Nat) : Int) = (k : Int) + 1 := by omega
      have i0 : (0 : Int) ≤ (k : Int) + 1 := by omega
      have i9 : ((9 : Int) ≤ (k : Int) + 1) = False := eq_false (by omega)
      have wc : IntKind.i64.wrap (c : Int) = (c : Int) := by rw [IntKind.wrap_i64]; omega
      clear hst hbd hv HR HV
      go_wp2
      refine wp_region_held_drew (S := (fun _ : World => True)) (by kernel_rfl) ?_ (fun hHeld0 => ?_)
      · trivial
      refine tk0 (.pointer (some ⟨w.heap.size + 1, 1, none⟩)) (by kernel_rfl) (by kernel_rfl) (by kernel_rfl) (fun _ _ _ h => h) rfl (fun w hSw => by (try dsimp only at hSw); go_simp) trivial ?_
      try simp only [Act.put, List.setIfInBounds_toArray, List.set_cons_zero, List.set_cons_succ]
      refine tk3 (.string s) (by kernel_rfl) (by kernel_rfl) (by kernel_rfl) (fun _ _ _ h => h) rfl (fun w hSw => by (try dsimp only at hSw); go_simp) trivial ?_
      try simp only [Act.put, List.setIfInBounds_toArray, List.set_cons_zero, List.set_cons_succ]
      refine tk4 (.int .i64 ((k : Int) + 1)) (by kernel_rfl) (by kernel_rfl) (by kernel_rfl) (fun _ _ _ h => h) rfl (fun w hSw => by (try dsimp only at hSw); go_simp) trivial ?_
      try simp only [Act.put, List.setIfInBounds_toArray, List.set_cons_zero, List.set_cons_succ]
      refine tk5 (.int .u8 (c : Int)) (by kernel_rfl) (by kernel_rfl) (by kernel_rfl) (fun _ _ _ h => h) rfl (fun w hSw => by (try dsimp only at hSw); go_simp) trivial ?_
      try simp only [Act.put, List.setIfInBounds_toArray, List.set_cons_zero, List.set_cons_succ]
      refine tk6 (.int .i64 (c : Int)) (by kernel_rfl) (by kernel_rfl) (by kernel_rfl) (fun _ _ _ h => h) rfl (fun w hSw => by (try dsimp only at hSw); go_simp) trivial ?_
      try simp only [Act.put, List.setIfInBounds_toArray, List.set_cons_zero, List.set_cons_succ]
      refine cl1 (by kernel_rfl) rfl (fun K hK => ?_)
      go_simp
      refine hK.out _ _ ?_ (fun hHeld => ?_)
      · trivial
      clear hK K
      try simp only [Act.put, List.setIfInBounds_toArray, List.set_cons_zero, List.set_cons_succ]
      refine tk2 (.int .i64 ((v : Int) * 256)) (by kernel_rfl) (by kernel_rfl) (by kernel_rfl) (fun _ _ _ h => h) rfl (fun w hSw => by (try dsimp only at hSw); go_simp) trivial ?_
      try simp only [Act.put, List.setIfInBounds_toArray, List.set_cons_zero, List.set_cons_succ]
      refine tk7 (.int .i64 ((v : Int) * 256 + (c : Int))) (by kernel_rfl) (by kernel_rfl) (by kernel_rfl) (fun _ _ _ h => h) rfl (fun w hSw => by (try dsimp only at hSw); go_simp) trivial ?_
      try simp only [Act.put, List.setIfInBounds_toArray, List.set_cons_zero, List.set_cons_succ]
      refine tk8 (.pointer (some ⟨w.heap.size + 1, 1, none⟩)) (by kernel_rfl) (by kernel_rfl) (by kernel_rfl) (fun _ _ _ h => h) rfl (fun w hSw => by (try dsimp only at hSw); go_simp) trivial ?_
      try simp only [Act.put, List.setIfInBounds_toArray, List.set_cons_zero, List.set_cons_succ]
      refine cl9 (by kernel_rfl) rfl (fun K hK => ?_)
      go_simp
      refine hK.out _ _ ?_ (fun hHeld => ?_)
      · trivial
      clear hK K
      try simp only [Act.put, List.setIfInBounds_toArray, List.set_cons_zero, List.set_cons_succ]
      refine wpAnyH_done (by kernel_rfl) ?_ _
      go_wp2
      go_roundw
      case rel => exact ⟨k, by omega, by go_num, HR2, HV2, b2⟩
      case measure => simp [intOf]
    · have hk0 : k' = 0 := by omega
      subst hk0
      have HV' : Hid (wr.heap[w.heap.size + 1]? = some (.cells (rcA 1 M 0 0 0 0 0 0 ⟨#[]⟩) 27 (0, 0))) := by
        have := HV.out
        rw [List.drop_zero, ← HM.out] at this
        exact this
      have hV := HV'.out
      have hR := HR.out
      clear HV HR HS HB HZ
      go_wp2_with (first
        | (show wpList _ _ _ (⟨_, Op.store 27 _ _, _, _, _, _⟩ :: _) _ _; have y0 := hR3; refine store_row_g rfl 27 _ _ rfl w.heap.size (rcA 1 M 0 0 0 0 0 0 ⟨#[]⟩) rfl rfl 27 rz hR3 infoR9 rfl (by simp [Value.oneCell']) ?_; intro w9 h9 g9)
        | (show wpList _ _ _ (⟨_, Op.load 27 _, _, _, _, _⟩ :: _) _ _; have y0 := hV3; refine load_row_g rfl 27 _ rfl (w.heap.size + 1) rfl 27 _ (0, 0) _ hV3 Tryz.underlying27 rfl infoR9 ?_)
        | (go_at_call 9; refine (qe _).mono ?_; rintro e w3 ⟨rfl, b3⟩; have hR3 := (b3.block w.heap.size (lt_of_block hR)).trans hR; have hV3 := (b3.block (w.heap.size + 1) (lt_of_block hV)).trans hV)
        | (show wpList _ _ _ (⟨_, Op.load 27 _, _, _, _, _⟩ :: _) _ _; have y0 := hV; refine load_row_g rfl 27 _ rfl (w.heap.size + 1) rfl 27 _ (0, 0) _ hV Tryz.underlying27 rfl infoR9 ?_))
      refine bodyPost_ret (results_rec Tryz.results11 _ _ rfl h9) rfl ?_
      exact ⟨rfl, low_set (bmm hb hb.size b3) (Nat.le_refl _) g9⟩
end Go.Proofs.YtdhlbldmdeepiaaGreatDoor
/-
  Bytes as a record (package latchkeyref11): an entry. The condition: the text is no longer than a text may be.
-/
namespace Go.Proofs.YtdhlbldmdeepiaaGreatDoor
open Go.RowKit

theorem storeCells_from (g i0 : Nat) : ∀ (vs : List Value) (i : Nat), storeCells ⟨g, i0, none⟩ vs i = storeCells ⟨g, 0, none⟩ vs (i0 + i)
  | [], _ => by simp only [storeCells]
  | v :: vs, i => by
    have e : (⟨g, i0, none⟩ : Addr).add i = (⟨g, 0, none⟩ : Addr).add (i0 + i) := by
      unfold Addr.add
      by_cases h : i = 0
      · subst h
        by_cases h2 : i0 = 0
        · subst h2; simp
        · simp [h2]
      · simp [h]
    simp only [storeCells, e, storeCells_from g i0 vs (i + 1), Nat.add_assoc]
section
variable {P : Program} {ops : Array Oper} {rest : List Oper} {o : Oper} {a : Act} {w : World} {Q : Exit → Act → World → Prop}
/-- A store of a struct that is the end of a block. -/
theorem store_tail_g (hw : Region.wanted o (yielded ops a.tmps) = true) (ty : TypeId) (x y : Operand) (ho : o.op = .store ty x y)
    (g i0 : Nat) (cells : Array Value) (hx : a.eval x = .pointer (some ⟨g, i0, none⟩)) (hy : a.eval y = .agg cells)
    (t : TypeId) (old : Array Value) (hg : w.heap[g]? = some (.cells old t (0, 0))) (hi : (P.info? ty).map (·.size) = some cells.size)
    (hold : old.size = i0 + cells.size) (h1 : cells.all (·.oneCell') = true)
    (h : ∀ w', w'.heap[g]? = some (.cells (old.toList.take i0 ++ cells.toList).toArray t (0, 0)) → w.grownBy w' (some g) → wpList P ops Q rest (a.put o.dst undef) w') : wpList P ops Q (o :: rest) a w :=
  BigFrame.wpList_want hw fun _ hK => by
    have hr := run_storeCells_from (P := P) g t cells.toList i0 old w hg (by simp; omega) (fun v hv => (Array.all_eq_true_iff_forall_mem.1 h1) v (by simpa using hv))
    have hs : (storeVar ty ⟨g, i0, none⟩ (.agg cells)).run P w = .ok () (w.setRow g (old.toList.take i0 ++ cells.toList).toArray) := by
      cases hq : P.info? ty with
      | none => simp [hq] at hi
      | some i =>
        have hz : cells.size = i.size := by simp [hq] at hi; omega
        have e := storeCells_from g i0 cells.toList 0
        rw [Nat.add_zero] at e
        simp [storeVar, sizeOf, typeInfo, hq, Value.cells, hz, e]
        exact hr
    unfold Oper.wp execOp
    simp only [ho, hx, hy, Instr.storeAt, Instr.sureAddr, Sem.run_bind, Sem.run_pure, Result.andThen_ok, hs]
    exact hK _ _ (h _ (setRow_heap w g old _ t _ hg) (grown_setRow_g w g _))
end
theorem infoE7 : (Tryz.prog.info? 25).map (·.size) = some 7 := by kernel_rfl
set_option maxHeartbeats 3200000 in
set_option maxRecDepth 100000 in
theorem rdec_b1 (s : ByteArray) (w : World) (A B k S Q n z : Int) (T : ByteArray) (q : ∀ w, Calls Tryz.prog 36 #[.string (s.extract 1 s.size)] w fun e w' => e = .returned (.tuple #[.agg #[.int .i64 A, .int .i64 B, .int .i64 k, .int .i64 S, .int .i64 Q, .string T, .int .i64 n], .int .i64 z]) ∧ Below w.heap.size w w')
    (k0 : 0 < s.size) (h2 : s[0].toNat = 2) (hm : mayR ⟨2, 0, ⟨A, B, ⟨k, S, Q, T, n⟩⟩⟩ = false) :
    Calls Tryz.prog 11 #[.string s] w fun e w' => e = .returned (.tuple #[.agg (rz), .int .i64 2]) ∧ Below w.heap.size w w' := by
  obtain ⟨d0, e0⟩ : ∃ d, s[0].toNat = d := ⟨_, rfl⟩
  rw [e0] at h2
  have kx : (1 : Int) ≤ (s.size : Int) := by omega
  have f0_1 : ((d0 : Int) == 1) = false := by simpa using (by omega : ¬ (d0 : Int) = 1)
  have f0_2 : ((d0 : Int) == 2) = true := by simpa using (by omega : (d0 : Int) = 2)
  have qe := rencR_any 2 0 A B k S Q n T
  rw [encRT_no hm] at qe
  clear hm
  by_cases h9s : s.size = 9
  · have f9 : ((s.size : Int) == 9) = true := by simpa using (by omega : (s.size : Int) = 9)
    clear h9s
    go_enter Tryz.func11, Tryz.ntmps11
    go_wp2_with (first
      | (show wpList _ _ _ (⟨_, Op.store 27 _ _, _, _, _, _⟩ :: _) _ _; have y0 := hR3; refine store_row_g rfl 27 _ _ rfl w.heap.size (rz) rfl rfl 27 rz hR3.out infoR9 rfl (by simp [Value.oneCell']) ?_; intro w9 h9 g9)
      | (show wpList _ _ _ (⟨_, Op.load 27 _, _, _, _, _⟩ :: _) _ _; have y0 := hV3; refine load_row_g rfl 27 _ rfl (w.heap.size + 1) rfl 27 _ (0, 0) _ hV3.out Tryz.underlying27 rfl infoR9 ?_)
      | (go_at_call 9; refine (qe _).mono ?_; rintro e w3 ⟨rfl, b3⟩; have hR3 : Hid (w3.heap[w.heap.size]? = some (.cells rz 27 (0, 0))) := (b3.block w.heap.size (lt_of_block hR4.out)).trans hR4.out; have hV3 : Hid (w3.heap[w.heap.size + 1]? = some (.cells (rcA 2 0 A B k S Q n T) 27 (0, 0))) := (b3.block (w.heap.size + 1) (lt_of_block hV4.out)).trans hV4.out)
      | (show wpList _ _ _ (⟨_, Op.load 27 _, _, _, _, _⟩ :: _) _ _; have y0 := hV4; refine load_row_g rfl 27 _ rfl (w.heap.size + 1) rfl 27 _ (0, 0) _ hV4.out Tryz.underlying27 rfl infoR9 ?_)
      | (show wpList _ _ _ (⟨_, Op.store 25 _ _, _, _, _, _⟩ :: _) _ _; have y0 := hV2; refine store_tail_g rfl 25 _ _ rfl (w.heap.size + 1) 2 #[.int .i64 A, .int .i64 B, .int .i64 k, .int .i64 S, .int .i64 Q, .string T, .int .i64 n] rfl rfl 27 (rcA 2 0 0 0 0 0 0 0 ⟨#[]⟩) hV2.out infoE7 rfl (by simp [Value.oneCell']) ?_; intro w4 hV4 g4; have hV4 : Hid (w4.heap[w.heap.size + 1]? = some (.cells (rcA 2 0 A B k S Q n T) 27 (0, 0))) := hV4; have hR4 : Hid (w4.heap[w.heap.size]? = some (.cells rz 27 (0, 0))) := (g4.block w.heap.size (lt_of_block hR2.out) (fun e => by have := Option.some.inj e; omega)).trans hR2.out)
      | (go_at_call 36; refine (q _).mono ?_; rintro e w2 ⟨rfl, b2⟩; have hR2 : Hid (w2.heap[w.heap.size]? = some (.cells rz 27 (0, 0))) := (b2.block w.heap.size (by simp; omega)).trans (two_new w (.cells rz 27) (.cells (rcA 2 0 0 0 0 0 0 0 ⟨#[]⟩) 27)).1; have hV2 : Hid (w2.heap[w.heap.size + 1]? = some (.cells (rcA 2 0 0 0 0 0 0 0 ⟨#[]⟩) 27 (0, 0))) := (b2.block (w.heap.size + 1) (by simp)).trans (two_new w (.cells rz 27) (.cells (rcA 2 0 0 0 0 0 0 0 ⟨#[]⟩) 27)).2))
    refine bodyPost_ret (results_rec Tryz.results11 _ _ rfl h9) rfl ?_
    have f0 : Below w.heap.size w ((w.alloc (.cells rz 27)).alloc (.cells (rcA 2 0 0 0 0 0 0 0 ⟨#[]⟩) 27)) := ((Below.refl _ w).alloc (Nat.le_refl _) _).alloc (by simp) _
    have f1 := bmm f0 f0.size b2
    have f2 := f1.grown g4 f1.size (fun k hk => by have := Option.some.inj hk; omega)
    exact ⟨rfl, low_set (bmm f2 f2.size b3) (Nat.le_refl _) g9⟩
  · have f9 : ((s.size : Int) == 9) = false := by simpa using (by omega : ¬ (s.size : Int) = 9)
    clear h9s
    go_enter Tryz.func11, Tryz.ntmps11
    go_wp2_with (first
      | (show wpList _ _ _ (⟨_, Op.store 27 _ _, _, _, _, _⟩ :: _) _ _; have y0 := hR3; refine store_row_g rfl 27 _ _ rfl w.heap.size (rz) rfl rfl 27 rz hR3.out infoR9 rfl (by simp [Value.oneCell']) ?_; intro w9 h9 g9)
      | (show wpList _ _ _ (⟨_, Op.load 27 _, _, _, _, _⟩ :: _) _ _; have y0 := hV3; refine load_row_g rfl 27 _ rfl (w.heap.size + 1) rfl 27 _ (0, 0) _ hV3.out Tryz.underlying27 rfl infoR9 ?_)
      | (go_at_call 9; refine (qe _).mono ?_; rintro e w3 ⟨rfl, b3⟩; have hR3 : Hid (w3.heap[w.heap.size]? = some (.cells rz 27 (0, 0))) := (b3.block w.heap.size (lt_of_block hR4.out)).trans hR4.out; have hV3 : Hid (w3.heap[w.heap.size + 1]? = some (.cells (rcA 2 0 A B k S Q n T) 27 (0, 0))) := (b3.block (w.heap.size + 1) (lt_of_block hV4.out)).trans hV4.out)
      | (show wpList _ _ _ (⟨_, Op.load 27 _, _, _, _, _⟩ :: _) _ _; have y0 := hV4; refine load_row_g rfl 27 _ rfl (w.heap.size + 1) rfl 27 _ (0, 0) _ hV4.out Tryz.underlying27 rfl infoR9 ?_)
      | (show wpList _ _ _ (⟨_, Op.store 25 _ _, _, _, _, _⟩ :: _) _ _; have y0 := hV2; refine store_tail_g rfl 25 _ _ rfl (w.heap.size + 1) 2 #[.int .i64 A, .int .i64 B, .int .i64 k, .int .i64 S, .int .i64 Q, .string T, .int .i64 n] rfl rfl 27 (rcA 2 0 0 0 0 0 0 0 ⟨#[]⟩) hV2.out infoE7 rfl (by simp [Value.oneCell']) ?_; intro w4 hV4 g4; have hV4 : Hid (w4.heap[w.heap.size + 1]? = some (.cells (rcA 2 0 A B k S Q n T) 27 (0, 0))) := hV4; have hR4 : Hid (w4.heap[w.heap.size]? = some (.cells rz 27 (0, 0))) := (g4.block w.heap.size (lt_of_block hR2.out) (fun e => by have := Option.some.inj e; omega)).trans hR2.out)
      | (go_at_call 36; refine (q _).mono ?_; rintro e w2 ⟨rfl, b2⟩; have hR2 : Hid (w2.heap[w.heap.size]? = some (.cells rz 27 (0, 0))) := (b2.block w.heap.size (by simp; omega)).trans (two_new w (.cells rz 27) (.cells (rcA 2 0 0 0 0 0 0 0 ⟨#[]⟩) 27)).1; have hV2 : Hid (w2.heap[w.heap.size + 1]? = some (.cells (rcA 2 0 0 0 0 0 0 0 ⟨#[]⟩) 27 (0, 0))) := (b2.block (w.heap.size + 1) (by simp)).trans (two_new w (.cells rz 27) (.cells (rcA 2 0 0 0 0 0 0 0 ⟨#[]⟩) 27)).2))
    refine bodyPost_ret (results_rec Tryz.results11 _ _ rfl h9) rfl ?_
    have f0 : Below w.heap.size w ((w.alloc (.cells rz 27)).alloc (.cells (rcA 2 0 0 0 0 0 0 0 ⟨#[]⟩) 27)) := ((Below.refl _ w).alloc (Nat.le_refl _) _).alloc (by simp) _
    have f1 := bmm f0 f0.size b2
    have f2 := f1.grown g4 f1.size (fun k hk => by have := Option.some.inj hk; omega)
    exact ⟨rfl, low_set (bmm f2 f2.size b3) (Nat.le_refl _) g9⟩
set_option maxHeartbeats 3200000 in
set_option maxRecDepth 100000 in
theorem rdec_b2 (s : ByteArray) (w : World) (A B k S Q n z : Int) (T : ByteArray) (q : ∀ w, Calls Tryz.prog 36 #[.string (s.extract 1 s.size)] w fun e w' => e = .returned (.tuple #[.agg #[.int .i64 A, .int .i64 B, .int .i64 k, .int .i64 S, .int .i64 Q, .string T, .int .i64 n], .int .i64 z]) ∧ Below w.heap.size w w')
    (k0 : 0 < s.size) (h2 : s[0].toNat = 2) (hm : mayR ⟨2, 0, ⟨A, B, ⟨k, S, Q, T, n⟩⟩⟩ = true) (he : (⟨(encR ⟨2, 0, ⟨A, B, ⟨k, S, Q, T, n⟩⟩⟩).toArray⟩ : ByteArray) = s) :
    Calls Tryz.prog 11 #[.string s] w fun e w' => e = .returned (.tuple #[.agg (rcA 2 0 A B k S Q n T), .int .i64 0]) ∧ Below w.heap.size w w' := by
  obtain ⟨d0, e0⟩ : ∃ d, s[0].toNat = d := ⟨_, rfl⟩
  rw [e0] at h2
  have kx : (1 : Int) ≤ (s.size : Int) := by omega
  have f0_1 : ((d0 : Int) == 1) = false := by simpa using (by omega : ¬ (d0 : Int) = 1)
  have f0_2 : ((d0 : Int) == 2) = true := by simpa using (by omega : (d0 : Int) = 2)
  have qe := rencR_any 2 0 A B k S Q n T
  rw [encRT_yes hm, he] at qe
  clear hm he
  by_cases h9s : s.size = 9
  · have f9 : ((s.size : Int) == 9) = true := by simpa using (by omega : (s.size : Int) = 9)
    clear h9s
    go_enter Tryz.func11, Tryz.ntmps11
    go_wp2_with (first
      | (show wpList _ _ _ (⟨_, Op.store 27 _ _, _, _, _, _⟩ :: _) _ _; have y0 := hR3; refine store_row_g rfl 27 _ _ rfl w.heap.size (rcA 2 0 A B k S Q n T) rfl rfl 27 rz hR3.out infoR9 rfl (by simp [Value.oneCell']) ?_; intro w9 h9 g9)
      | (show wpList _ _ _ (⟨_, Op.load 27 _, _, _, _, _⟩ :: _) _ _; have y0 := hV3; refine load_row_g rfl 27 _ rfl (w.heap.size + 1) rfl 27 _ (0, 0) _ hV3.out Tryz.underlying27 rfl infoR9 ?_)
      | (go_at_call 9; refine (qe _).mono ?_; rintro e w3 ⟨rfl, b3⟩; have hR3 : Hid (w3.heap[w.heap.size]? = some (.cells rz 27 (0, 0))) := (b3.block w.heap.size (lt_of_block hR4.out)).trans hR4.out; have hV3 : Hid (w3.heap[w.heap.size + 1]? = some (.cells (rcA 2 0 A B k S Q n T) 27 (0, 0))) := (b3.block (w.heap.size + 1) (lt_of_block hV4.out)).trans hV4.out)
      | (show wpList _ _ _ (⟨_, Op.load 27 _, _, _, _, _⟩ :: _) _ _; have y0 := hV4; refine load_row_g rfl 27 _ rfl (w.heap.size + 1) rfl 27 _ (0, 0) _ hV4.out Tryz.underlying27 rfl infoR9 ?_)
      | (show wpList _ _ _ (⟨_, Op.store 25 _ _, _, _, _, _⟩ :: _) _ _; have y0 := hV2; refine store_tail_g rfl 25 _ _ rfl (w.heap.size + 1) 2 #[.int .i64 A, .int .i64 B, .int .i64 k, .int .i64 S, .int .i64 Q, .string T, .int .i64 n] rfl rfl 27 (rcA 2 0 0 0 0 0 0 0 ⟨#[]⟩) hV2.out infoE7 rfl (by simp [Value.oneCell']) ?_; intro w4 hV4 g4; have hV4 : Hid (w4.heap[w.heap.size + 1]? = some (.cells (rcA 2 0 A B k S Q n T) 27 (0, 0))) := hV4; have hR4 : Hid (w4.heap[w.heap.size]? = some (.cells rz 27 (0, 0))) := (g4.block w.heap.size (lt_of_block hR2.out) (fun e => by have := Option.some.inj e; omega)).trans hR2.out)
      | (go_at_call 36; refine (q _).mono ?_; rintro e w2 ⟨rfl, b2⟩; have hR2 : Hid (w2.heap[w.heap.size]? = some (.cells rz 27 (0, 0))) := (b2.block w.heap.size (by simp; omega)).trans (two_new w (.cells rz 27) (.cells (rcA 2 0 0 0 0 0 0 0 ⟨#[]⟩) 27)).1; have hV2 : Hid (w2.heap[w.heap.size + 1]? = some (.cells (rcA 2 0 0 0 0 0 0 0 ⟨#[]⟩) 27 (0, 0))) := (b2.block (w.heap.size + 1) (by simp)).trans (two_new w (.cells rz 27) (.cells (rcA 2 0 0 0 0 0 0 0 ⟨#[]⟩) 27)).2))
    refine bodyPost_ret (results_rec Tryz.results11 _ _ rfl h9) rfl ?_
    have f0 : Below w.heap.size w ((w.alloc (.cells rz 27)).alloc (.cells (rcA 2 0 0 0 0 0 0 0 ⟨#[]⟩) 27)) := ((Below.refl _ w).alloc (Nat.le_refl _) _).alloc (by simp) _
    have f1 := bmm f0 f0.size b2
    have f2 := f1.grown g4 f1.size (fun k hk => by have := Option.some.inj hk; omega)
    exact ⟨rfl, low_set (bmm f2 f2.size b3) (Nat.le_refl _) g9⟩
  · have f9 : ((s.size : Int) == 9) = false := by simpa using (by omega : ¬ (s.size : Int) = 9)
    clear h9s
    go_enter Tryz.func11, Tryz.ntmps11
    go_wp2_with (first
      | (show wpList _ _ _ (⟨_, Op.store 27 _ _, _, _, _, _⟩ :: _) _ _; have y0 := hR3; refine store_row_g rfl 27 _ _ rfl w.heap.size (rcA 2 0 A B k S Q n T) rfl rfl 27 rz hR3.out infoR9 rfl (by simp [Value.oneCell']) ?_; intro w9 h9 g9)
      | (show wpList _ _ _ (⟨_, Op.load 27 _, _, _, _, _⟩ :: _) _ _; have y0 := hV3; refine load_row_g rfl 27 _ rfl (w.heap.size + 1) rfl 27 _ (0, 0) _ hV3.out Tryz.underlying27 rfl infoR9 ?_)
      | (go_at_call 9; refine (qe _).mono ?_; rintro e w3 ⟨rfl, b3⟩; have hR3 : Hid (w3.heap[w.heap.size]? = some (.cells rz 27 (0, 0))) := (b3.block w.heap.size (lt_of_block hR4.out)).trans hR4.out; have hV3 : Hid (w3.heap[w.heap.size + 1]? = some (.cells (rcA 2 0 A B k S Q n T) 27 (0, 0))) := (b3.block (w.heap.size + 1) (lt_of_block hV4.out)).trans hV4.out)
      | (show wpList _ _ _ (⟨_, Op.load 27 _, _, _, _, _⟩ :: _) _ _; have y0 := hV4; refine load_row_g rfl 27 _ rfl (w.heap.size + 1) rfl 27 _ (0, 0) _ hV4.out Tryz.underlying27 rfl infoR9 ?_)
      | (show wpList _ _ _ (⟨_, Op.store 25 _ _, _, _, _, _⟩ :: _) _ _; have y0 := hV2; refine store_tail_g rfl 25 _ _ rfl (w.heap.size + 1) 2 #[.int .i64 A, .int .i64 B, .int .i64 k, .int .i64 S, .int .i64 Q, .string T, .int .i64 n] rfl rfl 27 (rcA 2 0 0 0 0 0 0 0 ⟨#[]⟩) hV2.out infoE7 rfl (by simp [Value.oneCell']) ?_; intro w4 hV4 g4; have hV4 : Hid (w4.heap[w.heap.size + 1]? = some (.cells (rcA 2 0 A B k S Q n T) 27 (0, 0))) := hV4; have hR4 : Hid (w4.heap[w.heap.size]? = some (.cells rz 27 (0, 0))) := (g4.block w.heap.size (lt_of_block hR2.out) (fun e => by have := Option.some.inj e; omega)).trans hR2.out)
      | (go_at_call 36; refine (q _).mono ?_; rintro e w2 ⟨rfl, b2⟩; have hR2 : Hid (w2.heap[w.heap.size]? = some (.cells rz 27 (0, 0))) := (b2.block w.heap.size (by simp; omega)).trans (two_new w (.cells rz 27) (.cells (rcA 2 0 0 0 0 0 0 0 ⟨#[]⟩) 27)).1; have hV2 : Hid (w2.heap[w.heap.size + 1]? = some (.cells (rcA 2 0 0 0 0 0 0 0 ⟨#[]⟩) 27 (0, 0))) := (b2.block (w.heap.size + 1) (by simp)).trans (two_new w (.cells rz 27) (.cells (rcA 2 0 0 0 0 0 0 0 ⟨#[]⟩) 27)).2))
    refine bodyPost_ret (results_rec Tryz.results11 _ _ rfl h9) rfl ?_
    have f0 : Below w.heap.size w ((w.alloc (.cells rz 27)).alloc (.cells (rcA 2 0 0 0 0 0 0 0 ⟨#[]⟩) 27)) := ((Below.refl _ w).alloc (Nat.le_refl _) _).alloc (by simp) _
    have f1 := bmm f0 f0.size b2
    have f2 := f1.grown g4 f1.size (fun k hk => by have := Option.some.inj hk; omega)
    exact ⟨rfl, low_set (bmm f2 f2.size b3) (Nat.le_refl _) g9⟩
set_option maxHeartbeats 3200000 in
set_option maxRecDepth 100000 in
theorem rdec_b3 (s : ByteArray) (w : World) (A B k S Q n z : Int) (T : ByteArray) (q : ∀ w, Calls Tryz.prog 36 #[.string (s.extract 1 s.size)] w fun e w' => e = .returned (.tuple #[.agg #[.int .i64 A, .int .i64 B, .int .i64 k, .int .i64 S, .int .i64 Q, .string T, .int .i64 n], .int .i64 z]) ∧ Below w.heap.size w w')
    (k0 : 0 < s.size) (h2 : s[0].toNat = 2) (hm : mayR ⟨2, 0, ⟨A, B, ⟨k, S, Q, T, n⟩⟩⟩ = true) (he : (⟨(encR ⟨2, 0, ⟨A, B, ⟨k, S, Q, T, n⟩⟩⟩).toArray⟩ : ByteArray) ≠ s) :
    Calls Tryz.prog 11 #[.string s] w fun e w' => e = .returned (.tuple #[.agg (rz), .int .i64 2]) ∧ Below w.heap.size w w' := by
  obtain ⟨d0, e0⟩ : ∃ d, s[0].toNat = d := ⟨_, rfl⟩
  rw [e0] at h2
  have kx : (1 : Int) ≤ (s.size : Int) := by omega
  have f0_1 : ((d0 : Int) == 1) = false := by simpa using (by omega : ¬ (d0 : Int) = 1)
  have f0_2 : ((d0 : Int) == 2) = true := by simpa using (by omega : (d0 : Int) = 2)
  have qe := rencR_any 2 0 A B k S Q n T
  rw [encRT_yes hm] at qe
  obtain ⟨X, hX⟩ : ∃ X : ByteArray, X = ⟨(encR ⟨2, 0, ⟨A, B, ⟨k, S, Q, T, n⟩⟩⟩).toArray⟩ := ⟨_, rfl⟩
  rw [← hX] at qe he
  have hne : ¬ X.toList = s.toList := fun e => he (by
    apply ByteArray.ext
    apply Array.ext'
    rw [← Lib.toList_data, ← Lib.toList_data, e])
  have hneb : (X.toList == s.toList) = false := beq_eq_false_iff_ne.mpr hne
  have hneb2 : (X.toList != s.toList) = true := by simpa using hne
  clear hm he hX
  by_cases h9s : s.size = 9
  · have f9 : ((s.size : Int) == 9) = true := by simpa using (by omega : (s.size : Int) = 9)
    clear h9s
    go_enter Tryz.func11, Tryz.ntmps11
    go_wp2_with (first
      | (show wpList _ _ _ (⟨_, Op.store 27 _ _, _, _, _, _⟩ :: _) _ _; have y0 := hR3; refine store_row_g rfl 27 _ _ rfl w.heap.size (rz) rfl rfl 27 rz hR3.out infoR9 rfl (by simp [Value.oneCell']) ?_; intro w9 h9 g9)
      | (show wpList _ _ _ (⟨_, Op.load 27 _, _, _, _, _⟩ :: _) _ _; have y0 := hV3; refine load_row_g rfl 27 _ rfl (w.heap.size + 1) rfl 27 _ (0, 0) _ hV3.out Tryz.underlying27 rfl infoR9 ?_)
      | (go_at_call 9; refine (qe _).mono ?_; rintro e w3 ⟨rfl, b3⟩; have hR3 : Hid (w3.heap[w.heap.size]? = some (.cells rz 27 (0, 0))) := (b3.block w.heap.size (lt_of_block hR4.out)).trans hR4.out; have hV3 : Hid (w3.heap[w.heap.size + 1]? = some (.cells (rcA 2 0 A B k S Q n T) 27 (0, 0))) := (b3.block (w.heap.size + 1) (lt_of_block hV4.out)).trans hV4.out)
      | (show wpList _ _ _ (⟨_, Op.load 27 _, _, _, _, _⟩ :: _) _ _; have y0 := hV4; refine load_row_g rfl 27 _ rfl (w.heap.size + 1) rfl 27 _ (0, 0) _ hV4.out Tryz.underlying27 rfl infoR9 ?_)
      | (show wpList _ _ _ (⟨_, Op.store 25 _ _, _, _, _, _⟩ :: _) _ _; have y0 := hV2; refine store_tail_g rfl 25 _ _ rfl (w.heap.size + 1) 2 #[.int .i64 A, .int .i64 B, .int .i64 k, .int .i64 S, .int .i64 Q, .string T, .int .i64 n] rfl rfl 27 (rcA 2 0 0 0 0 0 0 0 ⟨#[]⟩) hV2.out infoE7 rfl (by simp [Value.oneCell']) ?_; intro w4 hV4 g4; have hV4 : Hid (w4.heap[w.heap.size + 1]? = some (.cells (rcA 2 0 A B k S Q n T) 27 (0, 0))) := hV4; have hR4 : Hid (w4.heap[w.heap.size]? = some (.cells rz 27 (0, 0))) := (g4.block w.heap.size (lt_of_block hR2.out) (fun e => by have := Option.some.inj e; omega)).trans hR2.out)
      | (go_at_call 36; refine (q _).mono ?_; rintro e w2 ⟨rfl, b2⟩; have hR2 : Hid (w2.heap[w.heap.size]? = some (.cells rz 27 (0, 0))) := (b2.block w.heap.size (by simp; omega)).trans (two_new w (.cells rz 27) (.cells (rcA 2 0 0 0 0 0 0 0 ⟨#[]⟩) 27)).1; have hV2 : Hid (w2.heap[w.heap.size + 1]? = some (.cells (rcA 2 0 0 0 0 0 0 0 ⟨#[]⟩) 27 (0, 0))) := (b2.block (w.heap.size + 1) (by simp)).trans (two_new w (.cells rz 27) (.cells (rcA 2 0 0 0 0 0 0 0 ⟨#[]⟩) 27)).2))
    refine bodyPost_ret (results_rec Tryz.results11 _ _ rfl h9) rfl ?_
    have f0 : Below w.heap.size w ((w.alloc (.cells rz 27)).alloc (.cells (rcA 2 0 0 0 0 0 0 0 ⟨#[]⟩) 27)) := ((Below.refl _ w).alloc (Nat.le_refl _) _).alloc (by simp) _
    have f1 := bmm f0 f0.size b2
    have f2 := f1.grown g4 f1.size (fun k hk => by have := Option.some.inj hk; omega)
    exact ⟨rfl, low_set (bmm f2 f2.size b3) (Nat.le_refl _) g9⟩
  · have f9 : ((s.size : Int) == 9) = false := by simpa using (by omega : ¬ (s.size : Int) = 9)
    clear h9s
    go_enter Tryz.func11, Tryz.ntmps11
    go_wp2_with (first
      | (show wpList _ _ _ (⟨_, Op.store 27 _ _, _, _, _, _⟩ :: _) _ _; have y0 := hR3; refine store_row_g rfl 27 _ _ rfl w.heap.size (rz) rfl rfl 27 rz hR3.out infoR9 rfl (by simp [Value.oneCell']) ?_; intro w9 h9 g9)
      | (show wpList _ _ _ (⟨_, Op.load 27 _, _, _, _, _⟩ :: _) _ _; have y0 := hV3; refine load_row_g rfl 27 _ rfl (w.heap.size + 1) rfl 27 _ (0, 0) _ hV3.out Tryz.underlying27 rfl infoR9 ?_)
      | (go_at_call 9; refine (qe _).mono ?_; rintro e w3 ⟨rfl, b3⟩; have hR3 : Hid (w3.heap[w.heap.size]? = some (.cells rz 27 (0, 0))) := (b3.block w.heap.size (lt_of_block hR4.out)).trans hR4.out; have hV3 : Hid (w3.heap[w.heap.size + 1]? = some (.cells (rcA 2 0 A B k S Q n T) 27 (0, 0))) := (b3.block (w.heap.size + 1) (lt_of_block hV4.out)).trans hV4.out)
      | (show wpList _ _ _ (⟨_, Op.load 27 _, _, _, _, _⟩ :: _) _ _; have y0 := hV4; refine load_row_g rfl 27 _ rfl (w.heap.size + 1) rfl 27 _ (0, 0) _ hV4.out Tryz.underlying27 rfl infoR9 ?_)
      | (show wpList _ _ _ (⟨_, Op.store 25 _ _, _, _, _, _⟩ :: _) _ _; have y0 := hV2; refine store_tail_g rfl 25 _ _ rfl (w.heap.size + 1) 2 #[.int .i64 A, .int .i64 B, .int .i64 k, .int .i64 S, .int .i64 Q, .string T, .int .i64 n] rfl rfl 27 (rcA 2 0 0 0 0 0 0 0 ⟨#[]⟩) hV2.out infoE7 rfl (by simp [Value.oneCell']) ?_; intro w4 hV4 g4; have hV4 : Hid (w4.heap[w.heap.size + 1]? = some (.cells (rcA 2 0 A B k S Q n T) 27 (0, 0))) := hV4; have hR4 : Hid (w4.heap[w.heap.size]? = some (.cells rz 27 (0, 0))) := (g4.block w.heap.size (lt_of_block hR2.out) (fun e => by have := Option.some.inj e; omega)).trans hR2.out)
      | (go_at_call 36; refine (q _).mono ?_; rintro e w2 ⟨rfl, b2⟩; have hR2 : Hid (w2.heap[w.heap.size]? = some (.cells rz 27 (0, 0))) := (b2.block w.heap.size (by simp; omega)).trans (two_new w (.cells rz 27) (.cells (rcA 2 0 0 0 0 0 0 0 ⟨#[]⟩) 27)).1; have hV2 : Hid (w2.heap[w.heap.size + 1]? = some (.cells (rcA 2 0 0 0 0 0 0 0 ⟨#[]⟩) 27 (0, 0))) := (b2.block (w.heap.size + 1) (by simp)).trans (two_new w (.cells rz 27) (.cells (rcA 2 0 0 0 0 0 0 0 ⟨#[]⟩) 27)).2))
    refine bodyPost_ret (results_rec Tryz.results11 _ _ rfl h9) rfl ?_
    have f0 : Below w.heap.size w ((w.alloc (.cells rz 27)).alloc (.cells (rcA 2 0 0 0 0 0 0 0 ⟨#[]⟩) 27)) := ((Below.refl _ w).alloc (Nat.le_refl _) _).alloc (by simp) _
    have f1 := bmm f0 f0.size b2
    have f2 := f1.grown g4 f1.size (fun k hk => by have := Option.some.inj hk; omega)
    exact ⟨rfl, low_set (bmm f2 f2.size b3) (Nat.le_refl _) g9⟩
end Go.Proofs.YtdhlbldmdeepiaaGreatDoor
/-
  Bytes as a record (package latchkeyref11): bytes that are none. The condition: the text is no longer than a text may be.
-/
namespace Go.Proofs.YtdhlbldmdeepiaaGreatDoor
open Go.RowKit

set_option maxHeartbeats 3200000 in
set_option maxRecDepth 100000 in
theorem rdec_none (s : ByteArray) (w : World) (h : s.size = 0) :
    Calls Tryz.prog 11 #[.string s] w fun e w' => e = .returned (.tuple #[.agg rz, .int .i64 2]) ∧ Below w.heap.size w w' := by
  have f9 : ((s.size : Int) == 9) = false := by simpa using (by omega : ¬ (s.size : Int) = 9)
  have qe := rencR_any 0 0 0 0 0 0 0 0 ⟨#[]⟩
  rw [show encRT ⟨0, 0, ⟨0, 0, ⟨0, 0, 0, ⟨#[]⟩, 0⟩⟩⟩ = (⟨#[]⟩, 1) from rfl] at qe
  go_enter Tryz.func11, Tryz.ntmps11
  go_wp2_with (first
    | (show wpList _ _ _ (⟨_, Op.store 27 _ _, _, _, _, _⟩ :: _) _ _; have y0 := hR; refine store_row_g rfl 27 _ _ rfl w.heap.size (rz) rfl rfl 27 rz hR infoR9 rfl (by simp [Value.oneCell']) ?_; intro w9 h9 g9)
    | (go_at_call 9; refine (qe _).mono ?_; rintro e w3 ⟨rfl, b3⟩; have hR := (b3.block w.heap.size (by simp; omega)).trans (two_new w (.cells rz 27) (.cells rz 27)).1))
  refine bodyPost_ret (results_rec Tryz.results11 _ _ rfl h9) rfl ?_
  have f0 : Below w.heap.size w ((w.alloc (.cells rz 27)).alloc (.cells rz 27)) := ((Below.refl _ w).alloc (Nat.le_refl _) _).alloc (by simp) _
  exact ⟨rfl, low_set (bmm f0 f0.size b3) (Nat.le_refl _) g9⟩
set_option maxHeartbeats 3200000 in
set_option maxRecDepth 100000 in
theorem rdec_c1 (s : ByteArray) (w : World) (h : ¬ s.size = 9) (k0 : 0 < s.size) (h2 : ¬ s[0].toNat = 2) :
    Calls Tryz.prog 11 #[.string s] w fun e w' => e = .returned (.tuple #[.agg rz, .int .i64 2]) ∧ Below w.heap.size w w' := by
  have f9 : ((s.size : Int) == 9) = false := by simpa using (by omega : ¬ (s.size : Int) = 9)
  obtain ⟨d0, e0⟩ : ∃ d, s[0].toNat = d := ⟨_, rfl⟩
  rw [e0] at h2
  have f0_2 : ((d0 : Int) == 2) = false := by simpa using (by omega : ¬ (d0 : Int) = 2)
  have qe := rencR_any 0 0 0 0 0 0 0 0 ⟨#[]⟩
  rw [show encRT ⟨0, 0, ⟨0, 0, ⟨0, 0, 0, ⟨#[]⟩, 0⟩⟩⟩ = (⟨#[]⟩, 1) from rfl] at qe
  go_enter Tryz.func11, Tryz.ntmps11
  go_wp2_with (first
    | (show wpList _ _ _ (⟨_, Op.store 27 _ _, _, _, _, _⟩ :: _) _ _; have y0 := hR; refine store_row_g rfl 27 _ _ rfl w.heap.size (rz) rfl rfl 27 rz hR infoR9 rfl (by simp [Value.oneCell']) ?_; intro w9 h9 g9)
    | (go_at_call 9; refine (qe _).mono ?_; rintro e w3 ⟨rfl, b3⟩; have hR := (b3.block w.heap.size (by simp; omega)).trans (two_new w (.cells rz 27) (.cells rz 27)).1))
  refine bodyPost_ret (results_rec Tryz.results11 _ _ rfl h9) rfl ?_
  have f0 : Below w.heap.size w ((w.alloc (.cells rz 27)).alloc (.cells rz 27)) := ((Below.refl _ w).alloc (Nat.le_refl _) _).alloc (by simp) _
  exact ⟨rfl, low_set (bmm f0 f0.size b3) (Nat.le_refl _) g9⟩
set_option maxHeartbeats 3200000 in
set_option maxRecDepth 100000 in
theorem rdec_c2 (s : ByteArray) (w : World) (h : s.size = 9) (k0 : 0 < s.size) (h1 : ¬ s[0].toNat = 1) (h2 : ¬ s[0].toNat = 2) :
    Calls Tryz.prog 11 #[.string s] w fun e w' => e = .returned (.tuple #[.agg rz, .int .i64 2]) ∧ Below w.heap.size w w' := by
  have f9 : ((s.size : Int) == 9) = true := by simpa using (by omega : (s.size : Int) = 9)
  obtain ⟨d0, e0⟩ : ∃ d, s[0].toNat = d := ⟨_, rfl⟩
  rw [e0] at h1 h2
  have f0_1 : ((d0 : Int) == 1) = false := by simpa using (by omega : ¬ (d0 : Int) = 1)
  have f0_2 : ((d0 : Int) == 2) = false := by simpa using (by omega : ¬ (d0 : Int) = 2)
  have qe := rencR_any 0 0 0 0 0 0 0 0 ⟨#[]⟩
  rw [show encRT ⟨0, 0, ⟨0, 0, ⟨0, 0, 0, ⟨#[]⟩, 0⟩⟩⟩ = (⟨#[]⟩, 1) from rfl] at qe
  go_enter Tryz.func11, Tryz.ntmps11
  go_wp2_with (first
    | (show wpList _ _ _ (⟨_, Op.store 27 _ _, _, _, _, _⟩ :: _) _ _; have y0 := hR; refine store_row_g rfl 27 _ _ rfl w.heap.size (rz) rfl rfl 27 rz hR infoR9 rfl (by simp [Value.oneCell']) ?_; intro w9 h9 g9)
    | (go_at_call 9; refine (qe _).mono ?_; rintro e w3 ⟨rfl, b3⟩; have hR := (b3.block w.heap.size (by simp; omega)).trans (two_new w (.cells rz 27) (.cells rz 27)).1))
  refine bodyPost_ret (results_rec Tryz.results11 _ _ rfl h9) rfl ?_
  have f0 : Below w.heap.size w ((w.alloc (.cells rz 27)).alloc (.cells rz 27)) := ((Below.refl _ w).alloc (Nat.le_refl _) _).alloc (by simp) _
  exact ⟨rfl, low_set (bmm f0 f0.size b3) (Nat.le_refl _) g9⟩
set_option maxHeartbeats 3200000 in
set_option maxRecDepth 100000 in
theorem rdec_c3 (s : ByteArray) (w : World) (h : s.size = 9) (k0 : 0 < s.size) (k8 : 8 < s.size) (h1 : s[0].toNat = 1) (h8 : ¬ s[8].toNat = 0) :
    Calls Tryz.prog 11 #[.string s] w fun e w' => e = .returned (.tuple #[.agg rz, .int .i64 2]) ∧ Below w.heap.size w w' := by
  have f9 : ((s.size : Int) == 9) = true := by simpa using (by omega : (s.size : Int) = 9)
  obtain ⟨d0, e0⟩ : ∃ d, s[0].toNat = d := ⟨_, rfl⟩
  obtain ⟨d8, e8⟩ : ∃ d, s[8].toNat = d := ⟨_, rfl⟩
  rw [e0] at h1
  rw [e8] at h8
  have f0_1 : ((d0 : Int) == 1) = true := by simpa using (by omega : (d0 : Int) = 1)
  have f0_2 : ((d0 : Int) == 2) = false := by simpa using (by omega : ¬ (d0 : Int) = 2)
  have f8_0 : ((d8 : Int) == 0) = false := by simpa using (by omega : ¬ (d8 : Int) = 0)
  have qe := rencR_any 0 0 0 0 0 0 0 0 ⟨#[]⟩
  rw [show encRT ⟨0, 0, ⟨0, 0, ⟨0, 0, 0, ⟨#[]⟩, 0⟩⟩⟩ = (⟨#[]⟩, 1) from rfl] at qe
  go_enter Tryz.func11, Tryz.ntmps11
  go_wp2_with (first
    | (show wpList _ _ _ (⟨_, Op.store 27 _ _, _, _, _, _⟩ :: _) _ _; have y0 := hR; refine store_row_g rfl 27 _ _ rfl w.heap.size (rz) rfl rfl 27 rz hR infoR9 rfl (by simp [Value.oneCell']) ?_; intro w9 h9 g9)
    | (go_at_call 9; refine (qe _).mono ?_; rintro e w3 ⟨rfl, b3⟩; have hR := (b3.block w.heap.size (by simp; omega)).trans (two_new w (.cells rz 27) (.cells rz 27)).1))
  refine bodyPost_ret (results_rec Tryz.results11 _ _ rfl h9) rfl ?_
  have f0 : Below w.heap.size w ((w.alloc (.cells rz 27)).alloc (.cells rz 27)) := ((Below.refl _ w).alloc (Nat.le_refl _) _).alloc (by simp) _
  exact ⟨rfl, low_set (bmm f0 f0.size b3) (Nat.le_refl _) g9⟩
set_option maxHeartbeats 3200000 in
set_option maxRecDepth 100000 in
theorem rdec_c4 (s : ByteArray) (w : World) (h : s.size = 9) (k0 : 0 < s.size) (k8 : 8 < s.size) (k7 : 7 < s.size) (h1 : s[0].toNat = 1) (h8 : s[8].toNat = 0) (h7 : ¬ s[7].toNat = 0) :
    Calls Tryz.prog 11 #[.string s] w fun e w' => e = .returned (.tuple #[.agg rz, .int .i64 2]) ∧ Below w.heap.size w w' := by
  have f9 : ((s.size : Int) == 9) = true := by simpa using (by omega : (s.size : Int) = 9)
  obtain ⟨d0, e0⟩ : ∃ d, s[0].toNat = d := ⟨_, rfl⟩
  obtain ⟨d8, e8⟩ : ∃ d, s[8].toNat = d := ⟨_, rfl⟩
  obtain ⟨d7, e7⟩ : ∃ d, s[7].toNat = d := ⟨_, rfl⟩
  rw [e0] at h1
  rw [e8] at h8
  rw [e7] at h7
  have f0_1 : ((d0 : Int) == 1) = true := by simpa using (by omega : (d0 : Int) = 1)
  have f0_2 : ((d0 : Int) == 2) = false := by simpa using (by omega : ¬ (d0 : Int) = 2)
  have f8_0 : ((d8 : Int) == 0) = true := by simpa using (by omega : (d8 : Int) = 0)
  have f7_0 : ((d7 : Int) == 0) = false := by simpa using (by omega : ¬ (d7 : Int) = 0)
  have qe := rencR_any 0 0 0 0 0 0 0 0 ⟨#[]⟩
  rw [show encRT ⟨0, 0, ⟨0, 0, ⟨0, 0, 0, ⟨#[]⟩, 0⟩⟩⟩ = (⟨#[]⟩, 1) from rfl] at qe
  go_enter Tryz.func11, Tryz.ntmps11
  go_wp2_with (first
    | (show wpList _ _ _ (⟨_, Op.store 27 _ _, _, _, _, _⟩ :: _) _ _; have y0 := hR; refine store_row_g rfl 27 _ _ rfl w.heap.size (rz) rfl rfl 27 rz hR infoR9 rfl (by simp [Value.oneCell']) ?_; intro w9 h9 g9)
    | (go_at_call 9; refine (qe _).mono ?_; rintro e w3 ⟨rfl, b3⟩; have hR := (b3.block w.heap.size (by simp; omega)).trans (two_new w (.cells rz 27) (.cells rz 27)).1))
  refine bodyPost_ret (results_rec Tryz.results11 _ _ rfl h9) rfl ?_
  have f0 : Below w.heap.size w ((w.alloc (.cells rz 27)).alloc (.cells rz 27)) := ((Below.refl _ w).alloc (Nat.le_refl _) _).alloc (by simp) _
  exact ⟨rfl, low_set (bmm f0 f0.size b3) (Nat.le_refl _) g9⟩
end Go.Proofs.YtdhlbldmdeepiaaGreatDoor
/-
  Bytes as a record (package latchkeyref11): whole. The condition: the text is no longer than a text may be.
-/
namespace Go.Proofs.YtdhlbldmdeepiaaGreatDoor
open Go.RowKit

theorem tail_list (s : ByteArray) : (⟨(s.data.toList.drop 1).toArray⟩ : ByteArray) = s.extract 1 s.size := by
  apply ByteArray.ext
  apply Array.ext'
  rw [tail_one]
theorem rdecR_two (s : ByteArray) (w : World) (hs : s.size ≤ 9223372036854775807) (k0 : 0 < s.size) (h2 : s[0].toNat = 2) :
    Calls Tryz.prog 11 #[.string s] w fun e w' => e = .returned (recV (decR s.data.toList)) ∧ Below w.heap.size w w' := by
  have hc := cons_one s k0
  have e2 : s[0] = 2 := UInt8.toNat_inj.mp h2
  rw [e2] at hc
  have q := fun w => rdecodeE_any (s.extract 1 s.size) (by rw [Lib.size_eq, tail_one, List.length_drop, ← Lib.size_eq]; omega) w
  have hcand : candR s.data.toList = ⟨2, 0, (decET (s.extract 1 s.size)).1⟩ := by
    unfold candR
    rw [if_neg (by rw [hc]; simp), if_pos (by rw [hc]; rfl), tail_list]
  unfold decR
  rw [hcand]
  generalize decET (s.extract 1 s.size) = D at q
  obtain ⟨⟨A, B, ⟨k, S, Q, T, n⟩⟩, z⟩ := D
  have inj : ∀ l : List UInt8, l = s.data.toList ↔ (⟨l.toArray⟩ : ByteArray) = s := fun l => ⟨fun e => by rw [e], fun e => by rw [← e]⟩
  cases hm : mayR ⟨2, 0, ⟨A, B, ⟨k, S, Q, T, n⟩⟩⟩ with
  | false =>
    rw [if_neg (fun x => by have := x.1; cases this)]
    exact rdec_b1 s w A B k S Q n z T q k0 h2 hm
  | true =>
    by_cases he : encR ⟨2, 0, ⟨A, B, ⟨k, S, Q, T, n⟩⟩⟩ = s.data.toList
    · rw [if_pos ⟨rfl, he⟩]
      exact rdec_b2 s w A B k S Q n z T q k0 h2 hm ((inj _).mp he)
    · rw [if_neg (fun x => he x.2)]
      exact rdec_b3 s w A B k S Q n z T q k0 h2 hm (fun e => he ((inj _).mpr e))
theorem rdecR_any (s : ByteArray) (w : World) (hs : s.size ≤ 9223372036854775807) :
    Calls Tryz.prog 11 #[.string s] w fun e w' => e = .returned (recV (decR s.data.toList)) ∧ Below w.heap.size w w' := by
  by_cases h0 : s.size = 0
  · have e := empty_of_size h0
    rw [show decR s.data.toList = none by rw [e]; exact decR_nil]
    exact rdec_none s w h0
  have k0 : 0 < s.size := by omega
  have hc := cons_one s k0
  by_cases h2 : s[0].toNat = 2
  · exact rdecR_two s w hs k0 h2
  have n2 : s[0] ≠ 2 := fun e => h2 (by rw [e]; rfl)
  by_cases h1 : s[0].toNat = 1
  · have e1 : s[0] = 1 := UInt8.toNat_inj.mp h1
    rw [e1] at hc
    have hl : s.size = (s.data.toList.drop 1).length + 1 := by
      rw [Lib.size_eq]
      conv => lhs; rw [hc]
      rfl
    by_cases h9 : s.size = 9
    · have ht : (s.data.toList.drop 1).length = 8 := by omega
      have hat : ∀ (i : Nat) (hi : i + 1 < s.size), (s.data.toList.drop 1)[i]'(by omega) = s[i + 1] := fun i hi => by
        rw [List.getElem_drop]
        simp only [Nat.add_comm 1 i]
        rfl
      obtain ⟨M, hM⟩ : ∃ M, M = num8 (s.data.toList.drop 1) := ⟨_, rfl⟩
      have top : M ≤ 1099511627776 → s[8].toNat = 0 ∧ s[7].toNat = 0 := fun hle => by
        have e := eight_num8 ht
        rw [← hM] at e
        have t6 := eight_6 (n := M) (by omega)
        have t7 := eight_7 (n := M) (by omega)
        rw [e, List.getElem?_eq_getElem (by omega)] at t6 t7
        have a6 := Option.some.inj t6
        have a7 := Option.some.inj t7
        rw [hat 6 (by omega)] at a6
        rw [hat 7 (by omega)] at a7
        exact ⟨by rw [a7]; rfl, by rw [a6]; rfl⟩
      by_cases h8 : s[8].toNat = 0
      · by_cases h7 : s[7].toNat = 0
        · have e0 : decR s.data.toList = if (s.data.toList.drop 1).length = 8 ∧ 1 ≤ M ∧ M ≤ 1099511627776 then some ⟨1, (M : Int), En.zero⟩ else none := by
            conv => lhs; rw [hc]
            rw [decR_one, ← hM]
          rw [e0]
          by_cases hr : 1 ≤ M ∧ M ≤ 1099511627776
          · rw [if_pos ⟨ht, hr⟩]
            have hm : mayR ⟨1, (M : Int), ⟨0, 0, ⟨0, 0, 0, ⟨#[]⟩, 0⟩⟩⟩ = true := mayR_one (by omega) (by omega)
            have he : encR ⟨1, (M : Int), ⟨0, 0, ⟨0, 0, 0, ⟨#[]⟩, 0⟩⟩⟩ = s.data.toList := by
              show 1 :: eight (M : Int).toNat = _
              rw [Int.toNat_natCast, hM, eight_num8 ht]
              exact hc.symm
            exact rdec_a2 s w h9 k0 (by omega) (by omega) h1 h8 h7 M hM hm (by rw [he])
          · rw [if_neg (fun x => hr x.2)]
            have hm : mayR ⟨1, (M : Int), ⟨0, 0, ⟨0, 0, 0, ⟨#[]⟩, 0⟩⟩⟩ = false := by
              unfold mayR
              simp
              intro h3 h4
              omega
            exact rdec_a1 s w h9 k0 (by omega) (by omega) h1 h8 h7 M hM hm
        · have e0 : decR s.data.toList = none := by
            conv => lhs; rw [hc]
            rw [decR_one, if_neg (fun x => h7 (top (by rw [hM]; exact x.2.2)).2)]
          rw [e0]
          exact rdec_c4 s w h9 k0 (by omega) (by omega) h1 h8 h7
      · have e0 : decR s.data.toList = none := by
          conv => lhs; rw [hc]
          rw [decR_one, if_neg (fun x => h8 (top (by rw [hM]; exact x.2.2)).1)]
        rw [e0]
        exact rdec_c3 s w h9 k0 (by omega) h1 h8
    · have e0 : decR s.data.toList = none := by
        conv => lhs; rw [hc]
        rw [decR_one, if_neg (fun x => h9 (by omega))]
      rw [e0]
      exact rdec_c1 s w h9 k0 h2
  · have n1 : s[0] ≠ 1 := fun e => h1 (by rw [e]; rfl)
    rw [hc, decR_other n1 n2]
    by_cases h9 : s.size = 9
    · exact rdec_c2 s w h9 k0 h1 h2
    · exact rdec_c1 s w h9 k0 h2
end Go.Proofs.YtdhlbldmdeepiaaGreatDoor
