/-
  Bytes as a record (package latchkeyref11): a promise. The condition: the text is no longer than a text may be.
-/
import Derived.Test.YtdhlbldmdeepiaaGreatDoorRWlDecP
namespace Go.Proofs.YtdhlbldmdeepiaaGreatDoor
open Go.RowKit

set_option maxHeartbeats 6400000 in
set_option maxRecDepth 100000 in
theorem rdec_a1 (s : ByteArray) (w : World) (h9s : s.size = 9) (k0 : 0 < s.size) (k8 : 8 < s.size) (k7 : 7 < s.size) (h1 : s[0].toNat = 1) (h8 : s[8].toNat = 0) (h7 : s[7].toNat = 0) (M : Nat) (hM : M = num8 (s.data.toList.drop 1)) (hm : mayR ⟨1, (M : Int), ⟨0, 0, ⟨0, 0, 0, ⟨#[]⟩, 0⟩⟩⟩ = false) :
    Calls Tryz.prog 11 #[.string s] w fun e w' => e = .returned (.tuple #[.agg (rz), .int .i64 2]) ∧ Below w.heap.size w w' := by
  have hl : s.data.toList.length = 9 := by rw [← Lib.size_eq]; exact h9s
  have ht : (s.data.toList.drop 1).length = 8 := by rw [List.length_drop, hl]
  have hat : ∀ (i : Nat) (hi : i + 1 < s.size), (s.data.toList.drop 1)[i]'(by omega) = s[i + 1] := fun i hi => by
    rw [List.getElem_drop]
    simp only [Nat.add_comm 1 i]
    rfl
  have hsm := leN_small ht (by rw [hat 6 (by omega)]; exact h7) (by rw [hat 7 (by omega)]; exact h8)
  have HM : Hid (M = leN (s.data.toList.drop 1)) := by rw [leN_num8 ht]; exact hM
  have HS : Hid (∀ (k : Nat) (hk : k + 1 < s.size), leN ((s.data.toList.drop 1).drop k) = s[k + 1].toNat + 256 * leN ((s.data.toList.drop 1).drop (k + 1))) := fun k hk => by rw [leN_drop _ k (by omega), hat k hk]
  have HB : Hid (∀ k, leN ((s.data.toList.drop 1).drop k) < 281474976710656) := fun k => Nat.lt_of_le_of_lt (leN_le _ k) hsm
  have HZ : Hid (leN ((s.data.toList.drop 1).drop 8) = 0) := by rw [List.drop_of_length_le (by omega)]; rfl
  obtain ⟨d0, e0⟩ : ∃ d, s[0].toNat = d := ⟨_, rfl⟩
  obtain ⟨d8, e8⟩ : ∃ d, s[8].toNat = d := ⟨_, rfl⟩
  obtain ⟨d7, e7⟩ : ∃ d, s[7].toNat = d := ⟨_, rfl⟩
  rw [e0] at h1
  rw [e8] at h8
  rw [e7] at h7
  have f9 : ((s.size : Int) == 9) = true := by simpa using (by omega : (s.size : Int) = 9)
  have f0_1 : ((d0 : Int) == 1) = true := by simpa using (by omega : (d0 : Int) = 1)
  have f8_0 : ((d8 : Int) == 0) = true := by simpa using (by omega : (d8 : Int) = 0)
  have f7_0 : ((d7 : Int) == 0) = true := by simpa using (by omega : (d7 : Int) = 0)
  have qe := rencR_any 1 M 0 0 0 0 0 0 ⟨#[]⟩
  rw [encRT_no hm] at qe
  clear hm
  clear hl ht hat hsm hM
  have f0 : Below w.heap.size w ((w.alloc (.cells rz 27)).alloc (.cells (rcA 1 0 0 0 0 0 0 0 ⟨#[]⟩) 27)) := ((Below.refl _ w).alloc (Nat.le_refl _) _).alloc (by simp) _
  have tw := two_new w (.cells rz 27) (.cells (rcA 1 0 0 0 0 0 0 0 ⟨#[]⟩) 27)
  go_enter Tryz.func11, Tryz.ntmps11
  go_wp2
  go_loopw [5] (fun i wr => ∃ (k : Nat), k ≤ 8 ∧ i = .int .i64 (k : Int) ∧ Hid (wr.heap[w.heap.size]? = some (.cells rz 27 (0, 0))) ∧ Hid (wr.heap[w.heap.size + 1]? = some (.cells (rcA 1 (leN ((s.data.toList.drop 1).drop k)) 0 0 0 0 0 0 ⟨#[]⟩) 27 (0, 0))) ∧ Below w.heap.size w wr) (fun i _ => (intOf i).toNat)
  case atStart => exact ⟨8, by omega, rfl, tw.1, by rw [HZ.out]; exact tw.2, f0⟩
  case round =>
    obtain ⟨k', hk, rfl, HR, HV, hb⟩ := hrel
    clear f0 tw
    by_cases h0 : 0 < k'
    · obtain ⟨k, rfl⟩ : ∃ k, k' = k + 1 := ⟨k' - 1, by omega⟩
      have hd : decide ((0 : Int) < ((k + 1 : Nat) : Int)) = true := decide_eq_true (by omega)
      have kk : k + 1 < s.size := by omega
      obtain ⟨c, hc⟩ : ∃ c, s[k + 1].toNat = c := ⟨_, rfl⟩
      have bc : c < 256 := by rw [← hc]; exact byte_lt _
      have hst := HS.out k kk
      rw [hc] at hst
      have hbd := HB.out k
      obtain ⟨v, hv⟩ : ∃ v, v = leN ((s.data.toList.drop 1).drop (k + 1)) := ⟨_, rfl⟩
      rw [← hv] at HV hst
      have c1 : wr.cell? ⟨w.heap.size + 1, 1, none⟩ = some (.int .i64 (v : Int)) := by simp [World.cell?, HV.out]
      have c1f : wr.frozen? ⟨w.heap.size + 1, 1, none⟩ = false := by simp [World.frozen?, HV.out]
      have vb : v * 256 + c < 281474976710656 := by omega
      have w1 : IntKind.i64.wrap ((v : Int) * 256) = (v : Int) * 256 := by rw [IntKind.wrap_i64]; omega
      have w2 : IntKind.i64.wrap ((v : Int) * 256 + (c : Int)) = (v : Int) * 256 + (c : Int) := by rw [IntKind.wrap_i64]; omega
      have HV2 : Hid ((wr.drew.setCell ⟨w.heap.size + 1, 1, none⟩ (.int .i64 ((v : Int) * 256 + (c : Int)))).heap[w.heap.size + 1]? = some (.cells (rcA 1 (leN ((s.data.toList.drop 1).drop k)) 0 0 0 0 0 0 ⟨#[]⟩) 27 (0, 0))) := by
        have := Lib.heap_setCell_same (i := 1) (show wr.drew.heap[w.heap.size + 1]? = _ from HV.out) (.int .i64 ((v : Int) * 256 + (c : Int)))
        rw [hst, show ((c + 256 * v : Nat) : Int) = (v : Int) * 256 + (c : Int) by omega]
        exact this
      have HR2 : Hid ((wr.drew.setCell ⟨w.heap.size + 1, 1, none⟩ (.int .i64 ((v : Int) * 256 + (c : Int)))).heap[w.heap.size]? = some (.cells rz 27 (0, 0))) := (heap_setCell_other _ _ _ _ (by show w.heap.size ≠ w.heap.size + 1; omega)).trans HR.out
      have b2 : Below w.heap.size w (wr.drew.setCell ⟨w.heap.size + 1, 1, none⟩ (.int .i64 ((v : Int) * 256 + (c : Int)))) := (show Below w.heap.size w wr.drew from ⟨hb.os, hb.tape, hb.output, hb.size, hb.block⟩).setCell (p := ⟨w.heap.size + 1, 1, none⟩) (Nat.le_succ _) _
      have kc : ((k + 1 : Nat) : Int) = (k : Int) + 1 := by omega
      have i0 : (0 : Int) ≤ (k : Int) + 1 := by omega
      have i9 : ((9 : Int) ≤ (k : Int) + 1) = False := eq_false (by omega)
      have wc : IntKind.i64.wrap (c : Int) = (c : Int) := by rw [IntKind.wrap_i64]; omega
      clear hst hbd hv HR HV
      go_wp2
      refine wp_region_held_drew (S := (fun _ : World => True)) (by kernel_rfl) ?_ (fun hHeld0 => ?_)
      · trivial
      refine tk0 (.pointer (some ⟨w.heap.size + 1, 1, none⟩)) (by kernel_rfl) (by kernel_rfl) (by kernel_rfl) (fun _ _ _ h => h) rfl (fun w hSw => by (try dsimp only at hSw); go_simp) trivial ?_
      try simp only [Act.put, List.setIfInBounds_toArray, List.set_cons_zero, List.set_cons_succ]
      refine tk3 (.string s) (by kernel_rfl) (by kernel_rfl) (by kernel_rfl) (fun _ _ _ h => h) rfl (fun w hSw => by (try dsimp only at hSw); go_simp) trivial ?_
      try simp only [Act.put, List.setIfInBounds_toArray, List.set_cons_zero, List.set_cons_succ]
      refine tk4 (.int .i64 ((k : Int) + 1)) (by kernel_rfl) (by kernel_rfl) (by kernel_rfl) (fun _ _ _ h => h) rfl (fun w hSw => by (try dsimp only at hSw); go_simp) trivial ?_
      try simp only [Act.put, List.setIfInBounds_toArray, List.set_cons_zero, List.set_cons_succ]
      refine tk5 (.int .u8 (c : Int)) (by kernel_rfl) (by kernel_rfl) (by kernel_rfl) (fun _ _ _ h => h) rfl (fun w hSw => by (try dsimp only at hSw); go_simp) trivial ?_
      try simp only [Act.put, List.setIfInBounds_toArray, List.set_cons_zero, List.set_cons_succ]
      refine tk6 (.int .i64 (c : Int)) (by kernel_rfl) (by kernel_rfl) (by kernel_rfl) (fun _ _ _ h => h) rfl (fun w hSw => by (try dsimp only at hSw); go_simp) trivial ?_
      try simp only [Act.put, List.setIfInBounds_toArray, List.set_cons_zero, List.set_cons_succ]
      refine cl1 (by kernel_rfl) rfl (fun K hK => ?_)
      go_simp
      refine hK.out _ _ ?_ (fun hHeld => ?_)
      · trivial
      clear hK K
      try simp only [Act.put, List.setIfInBounds_toArray, List.set_cons_zero, List.set_cons_succ]
      refine tk2 (.int .i64 ((v : Int) * 256)) (by kernel_rfl) (by kernel_rfl) (by kernel_rfl) (fun _ _ _ h => h) rfl (fun w hSw => by (try dsimp only at hSw); go_simp) trivial ?_
      try simp only [Act.put, List.setIfInBounds_toArray, List.set_cons_zero, List.set_cons_succ]
      refine tk7 (.int .i64 ((v : Int) * 256 + (c : Int))) (by kernel_rfl) (by kernel_rfl) (by kernel_rfl) (fun _ _ _ h => h) rfl (fun w hSw => by (try dsimp only at hSw); go_simp) trivial ?_
      try simp only [Act.put, List.setIfInBounds_toArray, List.set_cons_zero, List.set_cons_succ]
      refine tk8 (.pointer (some ⟨w.heap.size + 1, 1, none⟩)) (by kernel_rfl) (by kernel_rfl) (by kernel_rfl) (fun _ _ _ h => h) rfl (fun w hSw => by (try dsimp only at hSw); go_simp) trivial ?_
      try simp only [Act.put, List.setIfInBounds_toArray, List.set_cons_zero, List.set_cons_succ]
      refine cl9 (by kernel_rfl) rfl (fun K hK => ?_)
      go_simp
      refine hK.out _ _ ?_ (fun hHeld => ?_)
      · trivial
      clear hK K
      try simp only [Act.put, List.setIfInBounds_toArray, List.set_cons_zero, List.set_cons_succ]
      refine wpAnyH_done (by kernel_rfl) ?_ _
      go_wp2
      go_roundw
      case rel => exact ⟨k, by omega, by go_num, HR2, HV2, b2⟩
      case measure => simp [intOf]
    · have hk0 : k' = 0 := by omega
      subst hk0
      have HV' : Hid (wr.heap[w.heap.size + 1]? = some (.cells (rcA 1 M 0 0 0 0 0 0 ⟨#[]⟩) 27 (0, 0))) := by
        have := HV.out
        rw [List.drop_zero, ← HM.out] at this
        exact this
      have hV := HV'.out
      have hR := HR.out
      clear HV HR HS HB HZ
      go_wp2_with (first
        | (show wpList _ _ _ (⟨_, Op.store 27 _ _, _, _, _, _⟩ :: _) _ _; have y0 := hR3; refine store_row_g rfl 27 _ _ rfl w.heap.size (rz) rfl rfl 27 rz hR3 infoR9 rfl (by simp [Value.oneCell']) ?_; intro w9 h9 g9)
        | (show wpList _ _ _ (⟨_, Op.load 27 _, _, _, _, _⟩ :: _) _ _; have y0 := hV3; refine load_row_g rfl 27 _ rfl (w.heap.size + 1) rfl 27 _ (0, 0) _ hV3 Tryz.underlying27 rfl infoR9 ?_)
        | (go_at_call 9; refine (qe _).mono ?_; rintro e w3 ⟨rfl, b3⟩; have hR3 := (b3.block w.heap.size (lt_of_block hR)).trans hR; have hV3 := (b3.block (w.heap.size + 1) (lt_of_block hV)).trans hV)
        | (show wpList _ _ _ (⟨_, Op.load 27 _, _, _, _, _⟩ :: _) _ _; have y0 := hV; refine load_row_g rfl 27 _ rfl (w.heap.size + 1) rfl 27 _ (0, 0) _ hV Tryz.underlying27 rfl infoR9 ?_))
      refine bodyPost_ret (results_rec Tryz.results11 _ _ rfl h9) rfl ?_
      exact ⟨rfl, low_set (bmm hb hb.size b3) (Nat.le_refl _) g9⟩
set_option maxHeartbeats 6400000 in
set_option maxRecDepth 100000 in
theorem rdec_a2 (s : ByteArray) (w : World) (h9s : s.size = 9) (k0 : 0 < s.size) (k8 : 8 < s.size) (k7 : 7 < s.size) (h1 : s[0].toNat = 1) (h8 : s[8].toNat = 0) (h7 : s[7].toNat = 0) (M : Nat) (hM : M = num8 (s.data.toList.drop 1)) (hm : mayR ⟨1, (M : Int), ⟨0, 0, ⟨0, 0, 0, ⟨#[]⟩, 0⟩⟩⟩ = true) (he : (⟨(encR ⟨1, (M : Int), ⟨0, 0, ⟨0, 0, 0, ⟨#[]⟩, 0⟩⟩⟩).toArray⟩ : ByteArray) = s) :
    Calls Tryz.prog 11 #[.string s] w fun e w' => e = .returned (.tuple #[.agg (rcA 1 M 0 0 0 0 0 0 ⟨#[]⟩), .int .i64 0]) ∧ Below w.heap.size w w' := by
  have hl : s.data.toList.length = 9 := by rw [← Lib.size_eq]; exact h9s
  have ht : (s.data.toList.drop 1).length = 8 := by rw [List.length_drop, hl]
  have hat : ∀ (i : Nat) (hi : i + 1 < s.size), (s.data.toList.drop 1)[i]'(by omega) = s[i + 1] := fun i hi => by
    rw [List.getElem_drop]
    simp only [Nat.add_comm 1 i]
    rfl
  have hsm := leN_small ht (by rw [hat 6 (by omega)]; exact h7) (by rw [hat 7 (by omega)]; exact h8)
  have HM : Hid (M = leN (s.data.toList.drop 1)) := by rw [leN_num8 ht]; exact hM
  have HS : Hid (∀ (k : Nat) (hk : k + 1 < s.size), leN ((s.data.toList.drop 1).drop k) = s[k + 1].toNat + 256 * leN ((s.data.toList.drop 1).drop (k + 1))) := fun k hk => by rw [leN_drop _ k (by omega), hat k hk]
  have HB : Hid (∀ k, leN ((s.data.toList.drop 1).drop k) < 281474976710656) := fun k => Nat.lt_of_le_of_lt (leN_le _ k) hsm
  have HZ : Hid (leN ((s.data.toList.drop 1).drop 8) = 0) := by rw [List.drop_of_length_le (by omega)]; rfl
  obtain ⟨d0, e0⟩ : ∃ d, s[0].toNat = d := ⟨_, rfl⟩
  obtain ⟨d8, e8⟩ : ∃ d, s[8].toNat = d := ⟨_, rfl⟩
  obtain ⟨d7, e7⟩ : ∃ d, s[7].toNat = d := ⟨_, rfl⟩
  rw [e0] at h1
  rw [e8] at h8
  rw [e7] at h7
  have f9 : ((s.size : Int) == 9) = true := by simpa using (by omega : (s.size : Int) = 9)
  have f0_1 : ((d0 : Int) == 1) = true := by simpa using (by omega : (d0 : Int) = 1)
  have f8_0 : ((d8 : Int) == 0) = true := by simpa using (by omega : (d8 : Int) = 0)
  have f7_0 : ((d7 : Int) == 0) = true := by simpa using (by omega : (d7 : Int) = 0)
  have qe := rencR_any 1 M 0 0 0 0 0 0 ⟨#[]⟩
  rw [encRT_yes hm, he] at qe
  clear hm he
  clear hl ht hat hsm hM
  have f0 : Below w.heap.size w ((w.alloc (.cells rz 27)).alloc (.cells (rcA 1 0 0 0 0 0 0 0 ⟨#[]⟩) 27)) := ((Below.refl _ w).alloc (Nat.le_refl _) _).alloc (by simp) _
  have tw := two_new w (.cells rz 27) (.cells (rcA 1 0 0 0 0 0 0 0 ⟨#[]⟩) 27)
  go_enter Tryz.func11, Tryz.ntmps11
  go_wp2
  go_loopw [5] (fun i wr => ∃ (k : Nat), k ≤ 8 ∧ i = .int .i64 (k : Int) ∧ Hid (wr.heap[w.heap.size]? = some (.cells rz 27 (0, 0))) ∧ Hid (wr.heap[w.heap.size + 1]? = some (.cells (rcA 1 (leN ((s.data.toList.drop 1).drop k)) 0 0 0 0 0 0 ⟨#[]⟩) 27 (0, 0))) ∧ Below w.heap.size w wr) (fun i _ => (intOf i).toNat)
  case atStart => exact ⟨8, by omega, rfl, tw.1, by rw [HZ.out]; exact tw.2, f0⟩
  case round =>
    obtain ⟨k', hk, rfl, HR, HV, hb⟩ := hrel
    clear f0 tw
    by_cases h0 : 0 < k'
    · obtain ⟨k, rfl⟩ : ∃ k, k' = k + 1 := ⟨k' - 1, by omega⟩
      have hd : decide ((0 : Int) < ((k + 1 : Nat) : Int)) = true := decide_eq_true (by omega)
      have kk : k + 1 < s.size := by omega
      obtain ⟨c, hc⟩ : ∃ c, s[k + 1].toNat = c := ⟨_, rfl⟩
      have bc : c < 256 := by rw [← hc]; exact byte_lt _
      have hst := HS.out k kk
      rw [hc] at hst
      have hbd := HB.out k
      obtain ⟨v, hv⟩ : ∃ v, v = leN ((s.data.toList.drop 1).drop (k + 1)) := ⟨_, rfl⟩
      rw [← hv] at HV hst
      have c1 : wr.cell? ⟨w.heap.size + 1, 1, none⟩ = some (.int .i64 (v : Int)) := by simp [World.cell?, HV.out]
      have c1f : wr.frozen? ⟨w.heap.size + 1, 1, none⟩ = false := by simp [World.frozen?, HV.out]
      have vb : v * 256 + c < 281474976710656 := by omega
      have w1 : IntKind.i64.wrap ((v : Int) * 256) = (v : Int) * 256 := by rw [IntKind.wrap_i64]; omega
      have w2 : IntKind.i64.wrap ((v : Int) * 256 + (c : Int)) = (v : Int) * 256 + (c : Int) := by rw [IntKind.wrap_i64]; omega
      have HV2 : Hid ((wr.drew.setCell ⟨w.heap.size + 1, 1, none⟩ (.int .i64 ((v : Int) * 256 + (c : Int)))).heap[w.heap.size + 1]? = some (.cells (rcA 1 (leN ((s.data.toList.drop 1).drop k)) 0 0 0 0 0 0 ⟨#[]⟩) 27 (0, 0))) := by
        have := Lib.heap_setCell_same (i := 1) (show wr.drew.heap[w.heap.size + 1]? = _ from HV.out) (.int .i64 ((v : Int) * 256 + (c : Int)))
        rw [hst, show ((c + 256 * v : Nat) : Int) = (v : Int) * 256 + (c : Int) by omega]
        exact this
      have HR2 : Hid ((wr.drew.setCell ⟨w.heap.size + 1, 1, none⟩ (.int .i64 ((v : Int) * 256 + (c : Int)))).heap[w.heap.size]? = some (.cells rz 27 (0, 0))) := (heap_setCell_other _ _ _ _ (by show w.heap.size ≠ w.heap.size + 1; omega)).trans HR.out
      have b2 : Below w.heap.size w (wr.drew.setCell ⟨w.heap.size + 1, 1, none⟩ (.int .i64 ((v : Int) * 256 + (c : Int)))) := (show Below w.heap.size w wr.drew from ⟨hb.os, hb.tape, hb.output, hb.size, hb.block⟩).setCell (p := ⟨w.heap.size + 1, 1, none⟩) (Nat.le_succ _) _
      have kc : ((k + 1 : Nat) : Int) = (k : Int) + 1 := by omega
      have i0 : (0 : Int) ≤ (k : Int) + 1 := by omega
      have i9 : ((9 : Int) ≤ (k : Int) + 1) = False := eq_false (by omega)
      have wc : IntKind.i64.wrap (c : Int) = (c : Int) := by rw [IntKind.wrap_i64]; omega
      clear hst hbd hv HR HV
      go_wp2
      refine wp_region_held_drew (S := (fun _ : World => True)) (by kernel_rfl) ?_ (fun hHeld0 => ?_)
      · trivial
      refine tk0 (.pointer (some ⟨w.heap.size + 1, 1, none⟩)) (by kernel_rfl) (by kernel_rfl) (by kernel_rfl) (fun _ _ _ h => h) rfl (fun w hSw => by (try dsimp only at hSw); go_simp) trivial ?_
      try simp only [Act.put, List.setIfInBounds_toArray, List.set_cons_zero, List.set_cons_succ]
      refine tk3 (.string s) (by kernel_rfl) (by kernel_rfl) (by kernel_rfl) (fun _ _ _ h => h) rfl (fun w hSw => by (try dsimp only at hSw); go_simp) trivial ?_
      try simp only [Act.put, List.setIfInBounds_toArray, List.set_cons_zero, List.set_cons_succ]
      refine tk4 (.int .i64 ((k : Int) + 1)) (by kernel_rfl) (by kernel_rfl) (by kernel_rfl) (fun _ _ _ h => h) rfl (fun w hSw => by (try dsimp only at hSw); go_simp) trivial ?_
      try simp only [Act.put, List.setIfInBounds_toArray, List.set_cons_zero, List.set_cons_succ]
      refine tk5 (.int .u8 (c : Int)) (by kernel_rfl) (by kernel_rfl) (by kernel_rfl) (fun _ _ _ h => h) rfl (fun w hSw => by (try dsimp only at hSw); go_simp) trivial ?_
      try simp only [Act.put, List.setIfInBounds_toArray, List.set_cons_zero, List.set_cons_succ]
      refine tk6 (.int .i64 (c : Int)) (by kernel_rfl) (by kernel_rfl) (by kernel_rfl) (fun _ _ _ h => h) rfl (fun w hSw => by (try dsimp only at hSw); go_simp) trivial ?_
      try simp only [Act.put, List.setIfInBounds_toArray, List.set_cons_zero, List.set_cons_succ]
      refine cl1 (by kernel_rfl) rfl (fun K hK => ?_)
      go_simp
      refine hK.out _ _ ?_ (fun hHeld => ?_)
      · trivial
      clear hK K
      try simp only [Act.put, List.setIfInBounds_toArray, List.set_cons_zero, List.set_cons_succ]
      refine tk2 (.int .i64 ((v : Int) * 256)) (by kernel_rfl) (by kernel_rfl) (by kernel_rfl) (fun _ _ _ h => h) rfl (fun w hSw => by (try dsimp only at hSw); go_simp) trivial ?_
      try simp only [Act.put, List.setIfInBounds_toArray, List.set_cons_zero, List.set_cons_succ]
      refine tk7 (.int .i64 ((v : Int) * 256 + (c : Int))) (by kernel_rfl) (by kernel_rfl) (by kernel_rfl) (fun _ _ _ h => h) rfl (fun w hSw => by (try dsimp only at hSw); go_simp) trivial ?_
      try simp only [Act.put, List.setIfInBounds_toArray, List.set_cons_zero, List.set_cons_succ]
      refine tk8 (.pointer (some ⟨w.heap.size + 1, 1, none⟩)) (by kernel_rfl) (by kernel_rfl) (by kernel_rfl) (fun _ _ _ h => h) rfl (fun w hSw => by (try dsimp only at hSw); go_simp) trivial ?_
      try simp only [Act.put, List.setIfInBounds_toArray, List.set_cons_zero, List.set_cons_succ]
      refine cl9 (by kernel_rfl) rfl (fun K hK => ?_)
      go_simp
      refine hK.out _ _ ?_ (fun hHeld => ?_)
      · trivial
      clear hK K
      try simp only [Act.put, List.setIfInBounds_toArray, List.set_cons_zero, List.set_cons_succ]
      refine wpAnyH_done (by kernel_rfl) ?_ _
      go_wp2
      go_roundw
      case rel => exact ⟨k, by omega, by go_num, HR2, HV2, b2⟩
      case measure => simp [intOf]
    · have hk0 : k' = 0 := by omega
      subst hk0
      have HV' : Hid (wr.heap[w.heap.size + 1]? = some (.cells (rcA 1 M 0 0 0 0 0 0 ⟨#[]⟩) 27 (0, 0))) := by
        have := HV.out
        rw [List.drop_zero, ← HM.out] at this
        exact this
      have hV := HV'.out
      have hR := HR.out
      clear HV HR HS HB HZ
      go_wp2_with (first
        | (show wpList _ _ _ (⟨_, Op.store 27 _ _, _, _, _, _⟩ :: _) _ _; have y0 := hR3; refine store_row_g rfl 27 _ _ rfl w.heap.size (rcA 1 M 0 0 0 0 0 0 ⟨#[]⟩) rfl rfl 27 rz hR3 infoR9 rfl (by simp [Value.oneCell']) ?_; intro w9 h9 g9)
        | (show wpList _ _ _ (⟨_, Op.load 27 _, _, _, _, _⟩ :: _) _ _; have y0 := hV3; refine load_row_g rfl 27 _ rfl (w.heap.size + 1) rfl 27 _ (0, 0) _ hV3 Tryz.underlying27 rfl infoR9 ?_)
        | (go_at_call 9; refine (qe _).mono ?_; rintro e w3 ⟨rfl, b3⟩; have hR3 := (b3.block w.heap.size (lt_of_block hR)).trans hR; have hV3 := (b3.block (w.heap.size + 1) (lt_of_block hV)).trans hV)
        | (show wpList _ _ _ (⟨_, Op.load 27 _, _, _, _, _⟩ :: _) _ _; have y0 := hV; refine load_row_g rfl 27 _ rfl (w.heap.size + 1) rfl 27 _ (0, 0) _ hV Tryz.underlying27 rfl infoR9 ?_))
      refine bodyPost_ret (results_rec Tryz.results11 _ _ rfl h9) rfl ?_
      exact ⟨rfl, low_set (bmm hb hb.size b3) (Nat.le_refl _) g9⟩
end Go.Proofs.YtdhlbldmdeepiaaGreatDoor
