/-
  The document's disk (package latchkeyref05): bytes into a new file, one by one. The condition: a file has at most 2^40 bytes.
-/
import Derived.Test.YtkdglkaeglhibaaGreatDoorPRkC
namespace Go.Proofs.YtkdglkaeglhibaaGreatDoor
open Go.RowKit

set_option maxHeartbeats 3200000 in
set_option maxRecDepth 100000 in
theorem rappend_new (w0 : World) (base D : Nat) (l0 l : List (Fl × Value)) (clock : Nat) (v0 : Value) (n s : ByteArray) (hn : nameB n = true) (hl0 : l0.length ≤ 99999) (h0 : DkAt w0 base D l0 clock v0) (hf0 : findI l0 n = -1) (hins : l = insL l0 n) (j : Nat) (hj : j < l.length) (hf : findI l n = (j : Int)) (hb : l[j].1.bs.length + s.size ≤ 4194304) (hs : s.size ≤ 4194304) (hck : clock + s.size < 4611686018427387904) :
    Calls Tryz.prog 10 #[.pointer (some ⟨D, 0, none⟩), .string n, .string s] w0 fun e w' => e = .returned (.int .i64 0) ∧ ∃ w v, DkAt w base D l clock v ∧ w0.grownBy w (some D) ∧ (∀ g, v.ownBlock = some g → w0.heap.size ≤ g) ∧ ∃ g cap u, v = .slice (some ⟨g, 0, none⟩) l.length cap ∧ RInv w w' base D l clock g cap j s.size hj s u := by
  have hc0 := find_any w0 base D l0 clock v0 n (by omega) h0
  rw [hf0] at hc0
  have hmk := make_any w0 base D l0 clock v0 n (by omega) h0
  rw [← hins] at hmk
  have hll : l.length ≤ 100000 := by
    rw [hins]
    unfold insL
    rw [List.length_append, List.length_cons, List.length_take, List.length_drop]
    omega
  have ht : decide ((4194304 : Int) < (s.size : Int)) = false := by simp; omega
  have hj0 : (0 : Int) ≤ (j : Int) := by omega
  have hj1 : (j : Int) < (l.length : Int) := by omega
  obtain ⟨i0, hi, hz0, hz1, hz2⟩ := info_parts infoR
  have HB : Hid (l[j].1.bs.length + s.size ≤ 4194304) := hb
  have HFI : Hid (findI l n = (j : Int)) := hf
  clear h0 hf hb hins
  go_enter Tryz.func10, Tryz.ntmps10
  go_wp2_with (first
    | (go_at_call 31; have hc2 := find_any w base D l clock v n (by omega) HA1.out; rw [HFI.out] at hc2; refine hc2.mono ?_; rintro e w2 ⟨rfl, rfl⟩; clear hc2)
    | (go_at_call 32; refine hmk.mono ?_; rintro e w ⟨rfl, v, A1, g1, f1⟩; have HA1 : Hid (DkAt w base D l clock v) := A1; have HG1 : Hid (w0.grownBy w (some D)) := g1; have HF1 : Hid (∀ g, v.ownBlock = some g → w0.heap.size ≤ g) := f1; clear A1 g1 f1 hc0)
    | (go_at_call 31; refine hc0.mono ?_; rintro e w1 ⟨rfl, rfl⟩)
    | (go_at_call 30; refine (name_any n _).mono ?_; rintro e w1 ⟨rfl, rfl⟩; rw [hn]))
  obtain ⟨g, cap, pv, cv, rfl, ev, F⟩ := HA1.out.fileAt hj
  have HI : Hid (RInv w w base D l clock g cap j 0 hj s l[j].2) := ⟨Nat.zero_le _, by
    have e : l.set j (⟨l[j].1.name, l[j].1.bs ++ stR (s.data.toList.take 0) clock⟩, l[j].2) = l := by
      have e2 : ((⟨l[j].1.name, l[j].1.bs ++ stR (s.data.toList.take 0) clock⟩, l[j].2) : Fl × Value) = l[j] := by simp [stR]
      rw [e2]
      exact List.set_getElem_self hj
    rw [e]
    exact HA1.out, fun _ _ _ _ _ => rfl, Or.inl rfl, rfl, rfl, rfl, Nat.le_refl _⟩
  clear F ev
  go_loopw [9] (fun i wr => ∃ k u, i = .int .i64 (k : Nat) ∧ RInv w wr base D l clock g cap j k hj s u) (fun i _ => s.size - (intOf i).toNat)
  case atStart => exact ⟨0, _, rfl, HI.out⟩
  case round =>
    obtain ⟨k, u, rfl, I⟩ := hrel
    have hkle := I.le
    by_cases hk : k < s.size
    · have A := I.at_
      have hj3 : j < (l.set j (⟨l[j].1.name, l[j].1.bs ++ stR (s.data.toList.take k) clock⟩, u)).length := by simpa using hj
      have d0 := A.cell0
      have d1 := A.cell1
      have hk0 : (0 : Int) ≤ (k : Int) := by omega
      have hk1 : (k : Int) < (s.size : Int) := by omega
      have z1 : wr.frozen? ⟨D, 1, none⟩ = false := by simp [World.frozen?, A.bl]
      obtain ⟨g2, cap2, pu, cu, ev2, eu, F2⟩ := A.fileAt hj3
      simp only [List.length_set, Value.slice.injEq, Option.some.injEq, Addr.mk.injEq, and_true, true_and] at ev2
      obtain ⟨rfl, rfl⟩ := ev2
      simp only [List.getElem_set_self, List.length_set] at eu F2
      have nD : u.ownBlock ≠ some D := by
        have h1 := (A.eD _ (List.getElem_mem hj3)).1
        simpa only [List.getElem_set_self] using h1
      have nG : u.ownBlock ≠ some g := by
        intro e
        have h1 := (A.eD _ (List.getElem_mem hj3)).2 g
        simp only [List.getElem_set_self] at h1
        exact h1 e rfl
      have gD : g ≠ D := fun e => A.nD (by rw [← e]; rfl)
      have hLb : (l[j].1.bs ++ stR (s.data.toList.take k) clock).length ≤ 4194304 := by
        have h1 := stR_length (s.data.toList.take k) clock
        have h2 := Lib.size_eq s
        rw [List.length_append, h1, List.length_take]
        have := HB.out
        omega
      have hrw := A.row
      rw [List.length_set] at hrw
      have fz := hrw.frozenAt (j * 2 + 1)
      clear hrw
      go_wp2
      obtain ⟨w3, hw3⟩ : ∃ w3, w3 = wr.setCell ⟨D, 1, none⟩ (.int .i64 ((clock : Int) + (k : Int) + 1)) := ⟨_, rfl⟩
      have H3 : Hid (w3 = wr.setCell ⟨D, 1, none⟩ (.int .i64 ((clock : Int) + (k : Int) + 1))) := hw3
      have e0 : w3.cell? ⟨D, 0, none⟩ = some (.slice (some ⟨g, 0, none⟩) l.length cap) := by
        rw [hw3]
        simp [World.cell?, heap_setCell_same wr D 1 _ _ _ A.bl]
      have e1 : w3.cell? ⟨D, 1, none⟩ = some (.int .i64 ((clock : Int) + (k : Int) + 1)) := by
        rw [hw3]
        simp [World.cell?, heap_setCell_same wr D 1 _ _ _ A.bl]
      have hgb : w3.heap[g]? = wr.heap[g]? := by rw [hw3]; exact heap_setCell_other _ _ _ _ (by simpa using gD)
      have e2 : w3.cell? ⟨g, j * 2 + 1, none⟩ = some (.slice pu (l[j].1.bs ++ stR (s.data.toList.take k) clock).length cu) := (World.cell?_of_block (a := ⟨g, j * 2 + 1, none⟩) hgb).trans F2.c1
      have e3 : w3.frozen? ⟨g, j * 2 + 1, none⟩ = false := (World.frozen?_of_block (a := ⟨g, j * 2 + 1, none⟩) hgb).trans fz
      have ho3 : w3.ownsRow base 70 2 (.slice pu (l[j].1.bs ++ stR (s.data.toList.take k) clock).length cu) (l[j].1.bs ++ stR (s.data.toList.take k) clock).length (bsL (l[j].1.bs ++ stR (s.data.toList.take k) clock)) := own_keep F2.row (fun q e => by
        rw [hw3]
        exact heap_setCell_other _ _ _ _ (by
          show q ≠ D
          rintro rfl
          exact nD (by rw [eu]; exact e)))
      have s3 : w3.heap.size = wr.heap.size := by rw [hw3]; simp
      rw [← hw3]
      have l3D : D < w3.heap.size := by rw [s3]; exact F2.lD
      have l3g : g < w3.heap.size := by rw [s3]; exact F2.lg
      have hb3 : base ≤ w3.heap.size := by have := A.lo; omega
      have HEU : Hid (u = .slice pu (l[j].1.bs ++ stR (s.data.toList.take k) clock).length cu) := eu
      have HI2 : Hid (RInv w wr base D l clock g cap j k hj s u) := I
      rw [eu] at nD nG
      have S3 : Hid (w3.heap.size = wr.heap.size) := s3
      have eD : w3.heap.size ≠ D := by omega
      have eg : w3.heap.size ≠ g := by omega
      clear hw3 s3 hgb fz d0 d1 z1 I A F2 eu
      obtain ⟨BS, hBS⟩ : ∃ BS, BS = l[j].1.bs ++ stR (s.data.toList.take k) clock := ⟨_, rfl⟩
      rw [← hBS] at e2 ho3 nD nG hLb
      have HBS : Hid (BS = l[j].1.bs ++ stR (s.data.toList.take k) clock) := hBS
      clear hBS
      have ra : ∀ o, (w3.alloc o).cell? ⟨D, 0, none⟩ = some (.slice (some ⟨g, 0, none⟩) l.length cap) := fun o => by rw [World.cell?_of_block (heap_alloc_old w3 o l3D)]; exact e0
      have rb : ∀ o, (w3.alloc o).cell? ⟨D, 1, none⟩ = some (.int .i64 ((clock : Int) + (k : Int) + 1)) := fun o => by rw [World.cell?_of_block (heap_alloc_old w3 o l3D)]; exact e1
      have rc : ∀ o, (w3.alloc o).cell? ⟨g, j * 2 + 1, none⟩ = some (.slice pu BS.length cu) := fun o => by rw [World.cell?_of_block (heap_alloc_old w3 o l3g)]; exact e2
      have rf : ∀ o, (w3.alloc o).frozen? ⟨g, j * 2 + 1, none⟩ = false := fun o => by rw [World.frozen?_of_block (heap_alloc_old w3 o l3g)]; exact e3
      refine wp_region_held_drew (S := (fun w' : World => w'.cell? ⟨D, 0, none⟩ = some (.slice (some ⟨g, 0, none⟩) l.length cap) ∧ w'.cell? ⟨D, 1, none⟩ = some (.int .i64 ((clock : Int) + (k : Int) + 1)))) (by kernel_rfl) ?_ (fun hHeld0 => ?_)
      · try dsimp only
        go_keep
      refine tk0 (.pointer (some ⟨D, 0, none⟩)) (by kernel_rfl) (by kernel_rfl) (by kernel_rfl) (fun _ _ _ h => h) rfl (fun w hSw => by (try dsimp only at hSw); obtain ⟨q0, q1⟩ := hSw; go_simp) (by assumption) ?_
      try simp only [Act.put, List.setIfInBounds_toArray, List.set_cons_zero, List.set_cons_succ]
      refine tk1 (.pointer (some ⟨D, 0, none⟩)) (by kernel_rfl) (by kernel_rfl) (by kernel_rfl) (fun _ _ _ h => h) rfl (fun w hSw => by (try dsimp only at hSw); obtain ⟨q0, q1⟩ := hSw; go_simp) (by assumption) ?_
      try simp only [Act.put, List.setIfInBounds_toArray, List.set_cons_zero, List.set_cons_succ]
      refine tk2 (.pointer (some ⟨D, 0, none⟩)) (by kernel_rfl) (by kernel_rfl) (by kernel_rfl) (fun _ _ _ h => h) rfl (fun w hSw => by (try dsimp only at hSw); obtain ⟨q0, q1⟩ := hSw; go_simp) (by assumption) ?_
      try simp only [Act.put, List.setIfInBounds_toArray, List.set_cons_zero, List.set_cons_succ]
      refine tk3 (.slice (some ⟨g, 0, none⟩) l.length cap) (by kernel_rfl) (by kernel_rfl) (by kernel_rfl) (fun _ _ _ h => h) rfl (fun w hSw => by (try dsimp only at hSw); obtain ⟨q0, q1⟩ := hSw; go_simp) (by assumption) ?_
      try simp only [Act.put, List.setIfInBounds_toArray, List.set_cons_zero, List.set_cons_succ]
      refine tk4 (.int .i64 (j : Int)) (by kernel_rfl) (by kernel_rfl) (by kernel_rfl) (fun _ _ _ h => h) rfl (fun w hSw => by (try dsimp only at hSw); obtain ⟨q0, q1⟩ := hSw; go_simp) (by assumption) ?_
      try simp only [Act.put, List.setIfInBounds_toArray, List.set_cons_zero, List.set_cons_succ]
      refine tk5 (.pointer (some ⟨D, 0, none⟩)) (by kernel_rfl) (by kernel_rfl) (by kernel_rfl) (fun _ _ _ h => h) rfl (fun w hSw => by (try dsimp only at hSw); obtain ⟨q0, q1⟩ := hSw; go_simp) (by assumption) ?_
      try simp only [Act.put, List.setIfInBounds_toArray, List.set_cons_zero, List.set_cons_succ]
      refine tk6 (.pointer (some ⟨D, 0, none⟩)) (by kernel_rfl) (by kernel_rfl) (by kernel_rfl) (fun _ _ _ h => h) rfl (fun w hSw => by (try dsimp only at hSw); obtain ⟨q0, q1⟩ := hSw; go_simp) (by assumption) ?_
      try simp only [Act.put, List.setIfInBounds_toArray, List.set_cons_zero, List.set_cons_succ]
      refine tk7 (.pointer (some ⟨D, 0, none⟩)) (by kernel_rfl) (by kernel_rfl) (by kernel_rfl) (fun _ _ _ h => h) rfl (fun w hSw => by (try dsimp only at hSw); obtain ⟨q0, q1⟩ := hSw; go_simp) (by assumption) ?_
      try simp only [Act.put, List.setIfInBounds_toArray, List.set_cons_zero, List.set_cons_succ]
      refine tk8 (.slice (some ⟨g, 0, none⟩) l.length cap) (by kernel_rfl) (by kernel_rfl) (by kernel_rfl) (fun _ _ _ h => h) rfl (fun w hSw => by (try dsimp only at hSw); obtain ⟨q0, q1⟩ := hSw; go_simp) (by assumption) ?_
      try simp only [Act.put, List.setIfInBounds_toArray, List.set_cons_zero, List.set_cons_succ]
      refine tk9 (.int .i64 (j : Int)) (by kernel_rfl) (by kernel_rfl) (by kernel_rfl) (fun _ _ _ h => h) rfl (fun w hSw => by (try dsimp only at hSw); obtain ⟨q0, q1⟩ := hSw; go_simp) (by assumption) ?_
      try simp only [Act.put, List.setIfInBounds_toArray, List.set_cons_zero, List.set_cons_succ]
      refine tk10 (.pointer (some ⟨g, j * 2, none⟩)) (by kernel_rfl) (by kernel_rfl) (by kernel_rfl) (fun _ _ _ h => h) rfl (fun w hSw => by (try dsimp only at hSw); obtain ⟨q0, q1⟩ := hSw; go_simp) (by assumption) ?_
      try simp only [Act.put, List.setIfInBounds_toArray, List.set_cons_zero, List.set_cons_succ]
      refine tk11 (.pointer (some ⟨g, j * 2 + 1, none⟩)) (by kernel_rfl) (by kernel_rfl) (by kernel_rfl) (fun _ _ _ h => h) rfl (fun w hSw => by (try dsimp only at hSw); obtain ⟨q0, q1⟩ := hSw; go_simp) (by assumption) ?_
      try simp only [Act.put, List.setIfInBounds_toArray, List.set_cons_zero, List.set_cons_succ]
      refine tk13 (.string s) (by kernel_rfl) (by kernel_rfl) (by kernel_rfl) (fun _ _ _ h => h) rfl (fun w hSw => by (try dsimp only at hSw); obtain ⟨q0, q1⟩ := hSw; go_simp) (by assumption) ?_
      try simp only [Act.put, List.setIfInBounds_toArray, List.set_cons_zero, List.set_cons_succ]
      refine tk14 (.int .i64 (k : Int)) (by kernel_rfl) (by kernel_rfl) (by kernel_rfl) (fun _ _ _ h => h) rfl (fun w hSw => by (try dsimp only at hSw); obtain ⟨q0, q1⟩ := hSw; go_simp) (by assumption) ?_
      try simp only [Act.put, List.setIfInBounds_toArray, List.set_cons_zero, List.set_cons_succ]
      refine tk15 (.int .u8 (s[k].toNat : Int)) (by kernel_rfl) (by kernel_rfl) (by kernel_rfl) (fun _ _ _ h => h) rfl (fun w hSw => by (try dsimp only at hSw); obtain ⟨q0, q1⟩ := hSw; go_simp) (by assumption) ?_
      try simp only [Act.put, List.setIfInBounds_toArray, List.set_cons_zero, List.set_cons_succ]
      refine tk16 (.pointer (some ⟨D, 0, none⟩)) (by kernel_rfl) (by kernel_rfl) (by kernel_rfl) (fun _ _ _ h => h) rfl (fun w hSw => by (try dsimp only at hSw); obtain ⟨q0, q1⟩ := hSw; go_simp) (by assumption) ?_
      try simp only [Act.put, List.setIfInBounds_toArray, List.set_cons_zero, List.set_cons_succ]
      refine tk17 (.pointer (some ⟨D, 0, none⟩)) (by kernel_rfl) (by kernel_rfl) (by kernel_rfl) (fun _ _ _ h => h) rfl (fun w hSw => by (try dsimp only at hSw); obtain ⟨q0, q1⟩ := hSw; go_simp) (by assumption) ?_
      try simp only [Act.put, List.setIfInBounds_toArray, List.set_cons_zero, List.set_cons_succ]
      refine tk18 (.pointer (some ⟨D, 1, none⟩)) (by kernel_rfl) (by kernel_rfl) (by kernel_rfl) (fun _ _ _ h => h) rfl (fun w hSw => by (try dsimp only at hSw); obtain ⟨q0, q1⟩ := hSw; go_simp) (by assumption) ?_
      try simp only [Act.put, List.setIfInBounds_toArray, List.set_cons_zero, List.set_cons_succ]
      refine tk19 (.int .i64 ((clock : Int) + (k : Int) + 1)) (by kernel_rfl) (by kernel_rfl) (by kernel_rfl) (fun _ _ _ h => h) rfl (fun w hSw => by (try dsimp only at hSw); obtain ⟨q0, q1⟩ := hSw; go_simp) (by assumption) ?_
      try simp only [Act.put, List.setIfInBounds_toArray, List.set_cons_zero, List.set_cons_succ]
      refine tk20 (.agg #[.int .u8 (s[k].toNat : Int), .int .i64 ((clock : Int) + (k : Int) + 1)]) (by kernel_rfl) (by kernel_rfl) (by kernel_rfl) (fun _ _ _ h => h) rfl (fun w hSw => by (try dsimp only at hSw); obtain ⟨q0, q1⟩ := hSw; go_simp) (by assumption) ?_
      try simp only [Act.put, List.setIfInBounds_toArray, List.set_cons_zero, List.set_cons_succ]
      refine rd12_21 (by kernel_rfl) rfl rfl (fun K hK => ?_) (fun K hK => ?_)
      · go_simp
        refine hK.out _ _ ?_ (fun hHeld => ?_)
        · try dsimp only
          go_keep
        clear hK K
        try simp only [Act.put, List.setIfInBounds_toArray, List.set_cons_zero, List.set_cons_succ]
        refine cl21 (by kernel_rfl) rfl (fun K hK => ?_)
        go_simp
        refine hK.out _ _ ?_ (fun hHeld => ?_)
        · try dsimp only
          go_keep
        clear hK K
        try simp only [Act.put, List.setIfInBounds_toArray, List.set_cons_zero, List.set_cons_succ]
        refine cl22 (by kernel_rfl) rfl (fun K hK => ?_)
        refine (wp_append_lies _ (.tmp 65) (.tmp 74) 66 rfl base 70 i0 _ 2 16 Tryz.underlying66 hi hz0 hz1 hz2 rfl (by omega) (.slice pu BS.length cu) BS.length (bsL BS) rfl ((ho3.alloc _).drew) ⟨w3.heap.size, 0, none⟩ 1 1 [.int .u8 (s[k].toNat : Int), .int .i64 ((clock : Int) + (k : Int) + 1)] rfl rfl (World.news_of_block (cs := #[.int .u8 (s[k].toNat : Int), .int .i64 ((clock : Int) + (k : Int) + 1)]) (t := 70) (fr := (0, 0)) (heap_alloc_new w3 _)) (by simp [Value.oneCell']) (by omega) (by unfold maxLen; omega) (by omega) (by simp; omega) (w3.heap.size + 1) (by simp) ?_)
        intro gg cp w4 hown4 hgrow hat hlt
        have rf4 := (hgrow.frozen_far ⟨g, j * 2 + 1, none⟩ (by simp; omega) (Ne.symm nG)).trans (rf _)
        have rc4 := (hgrow.cell_far ⟨g, j * 2 + 1, none⟩ (by simp; omega) (Ne.symm nG)).trans (rc _)
        have ra4 := (hgrow.cell_far ⟨D, 0, none⟩ (by simp; omega) (Ne.symm nD)).trans (ra _)
        have rb4 := (hgrow.cell_far ⟨D, 1, none⟩ (by simp; omega) (Ne.symm nD)).trans (rb _)
        refine hK.out _ _ ?_ (fun hHeld => ?_)
        · try dsimp only
          go_keep
        clear hK K
        try simp only [Act.put, List.setIfInBounds_toArray, List.set_cons_zero, List.set_cons_succ]
        refine tk23 (.pointer (some ⟨g, j * 2, none⟩)) (by kernel_rfl) (by kernel_rfl) (by kernel_rfl) (fun _ _ _ h => h) rfl (fun w hSw => by (try dsimp only at hSw); obtain ⟨q0, q1⟩ := hSw; go_simp) (by assumption) ?_
        try simp only [Act.put, List.setIfInBounds_toArray, List.set_cons_zero, List.set_cons_succ]
        refine tk24 (.pointer (some ⟨g, j * 2 + 1, none⟩)) (by kernel_rfl) (by kernel_rfl) (by kernel_rfl) (fun _ _ _ h => h) rfl (fun w hSw => by (try dsimp only at hSw); obtain ⟨q0, q1⟩ := hSw; go_simp) (by assumption) ?_
        try simp only [Act.put, List.setIfInBounds_toArray, List.set_cons_zero, List.set_cons_succ]
        refine cl25 (by kernel_rfl) rfl (fun K hK => ?_)
        go_simp
        refine hK.out _ _ ?_ (fun hHeld => ?_)
        · try dsimp only
          go_keep
        clear hK K
        try simp only [Act.put, List.setIfInBounds_toArray, List.set_cons_zero, List.set_cons_succ]
        refine wpAnyH_done (by kernel_rfl) ?_ _
        go_wp2
        exact ⟨⟨k + 1, _, by simp, HI2.out.step hk H3.out (by rw [HBS.out]; exact HEU.out) HBS.out hgrow hat hown4⟩, by simp [intOf]; omega⟩
      · go_simp
        refine hK.out _ _ ?_ (fun hHeld => ?_)
        · try dsimp only
          go_keep
        clear hK K
        try simp only [Act.put, List.setIfInBounds_toArray, List.set_cons_zero, List.set_cons_succ]
        refine cl12 (by kernel_rfl) rfl (fun K hK => ?_)
        go_simp
        refine hK.out _ _ ?_ (fun hHeld => ?_)
        · try dsimp only
          go_keep
        clear hK K
        try simp only [Act.put, List.setIfInBounds_toArray, List.set_cons_zero, List.set_cons_succ]
        refine cl22 (by kernel_rfl) rfl (fun K hK => ?_)
        refine (wp_append_lies _ (.tmp 65) (.tmp 74) 66 rfl base 70 i0 _ 2 16 Tryz.underlying66 hi hz0 hz1 hz2 rfl (by omega) (.slice pu BS.length cu) BS.length (bsL BS) rfl ((ho3.alloc _).drew) ⟨w3.heap.size, 0, none⟩ 1 1 [.int .u8 (s[k].toNat : Int), .int .i64 ((clock : Int) + (k : Int) + 1)] rfl rfl (World.news_of_block (cs := #[.int .u8 (s[k].toNat : Int), .int .i64 ((clock : Int) + (k : Int) + 1)]) (t := 70) (fr := (0, 0)) (heap_alloc_new w3 _)) (by simp [Value.oneCell']) (by omega) (by unfold maxLen; omega) (by omega) (by simp; omega) (w3.heap.size + 1) (by simp) ?_)
        intro gg cp w4 hown4 hgrow hat hlt
        have rf4 := (hgrow.frozen_far ⟨g, j * 2 + 1, none⟩ (by simp; omega) (Ne.symm nG)).trans (rf _)
        have rc4 := (hgrow.cell_far ⟨g, j * 2 + 1, none⟩ (by simp; omega) (Ne.symm nG)).trans (rc _)
        have ra4 := (hgrow.cell_far ⟨D, 0, none⟩ (by simp; omega) (Ne.symm nD)).trans (ra _)
        have rb4 := (hgrow.cell_far ⟨D, 1, none⟩ (by simp; omega) (Ne.symm nD)).trans (rb _)
        refine hK.out _ _ ?_ (fun hHeld => ?_)
        · try dsimp only
          go_keep
        clear hK K
        try simp only [Act.put, List.setIfInBounds_toArray, List.set_cons_zero, List.set_cons_succ]
        refine tk23 (.pointer (some ⟨g, j * 2, none⟩)) (by kernel_rfl) (by kernel_rfl) (by kernel_rfl) (fun _ _ _ h => h) rfl (fun w hSw => by (try dsimp only at hSw); obtain ⟨q0, q1⟩ := hSw; go_simp) (by assumption) ?_
        try simp only [Act.put, List.setIfInBounds_toArray, List.set_cons_zero, List.set_cons_succ]
        refine tk24 (.pointer (some ⟨g, j * 2 + 1, none⟩)) (by kernel_rfl) (by kernel_rfl) (by kernel_rfl) (fun _ _ _ h => h) rfl (fun w hSw => by (try dsimp only at hSw); obtain ⟨q0, q1⟩ := hSw; go_simp) (by assumption) ?_
        try simp only [Act.put, List.setIfInBounds_toArray, List.set_cons_zero, List.set_cons_succ]
        refine cl25 (by kernel_rfl) rfl (fun K hK => ?_)
        go_simp
        refine hK.out _ _ ?_ (fun hHeld => ?_)
        · try dsimp only
          go_keep
        clear hK K
        try simp only [Act.put, List.setIfInBounds_toArray, List.set_cons_zero, List.set_cons_succ]
        refine wpAnyH_done (by kernel_rfl) ?_ _
        go_wp2
        exact ⟨⟨k + 1, _, by simp, HI2.out.step hk H3.out (by rw [HBS.out]; exact HEU.out) HBS.out hgrow hat hown4⟩, by simp [intOf]; omega⟩
    · have hke : k = s.size := by omega
      subst hke
      have HI2 : Hid (RInv w wr base D l clock g cap j s.size hj s u) := I
      have hq : decide ((s.size : Int) < (s.size : Int)) = false := by simp
      clear I
      go_wp2
      go_ret
      exact ⟨rfl, w, .slice (some ⟨g, 0, none⟩) l.length cap, HA1.out, HG1.out, HF1.out, g, cap, u, rfl, HI2.out⟩
end Go.Proofs.YtkdglkaeglhibaaGreatDoor
