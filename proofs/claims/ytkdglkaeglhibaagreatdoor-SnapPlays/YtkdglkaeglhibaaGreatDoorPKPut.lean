/-
  The program's disk: a file is laid under a name. The condition: the name has at most 64 bytes.
-/
import Derived.Test.YtkdglkaeglhibaaGreatDoorPKRead
import Derived.Test.YtkdglkaeglhibaaGreatDoorPSA
import Derived.Deep.RegionHeld3
import Derived.LaidEqlPtr
import Derived.Lib.Builder
namespace Go.Proofs.YtkdglkaeglhibaaGreatDoor
open Go.RowKit

theorem kclone_any (s : ByteArray) (w : World) (hlim : s.size ≤ 281474976710656) :
    Calls Tryz.prog 40 #[.string s] w fun e w' => e = .returned (.string s) ∧ Below w.heap.size w w' := by
  go_enter Tryz.func40, Tryz.ntmps40
  go_wp2_with (go_at_call 62; refine (Tryz.stringslite_Clone s _ hlim).mono ?_; rintro e w1 ⟨rfl, bel⟩)
  go_ret
  exact ⟨rfl, bel⟩

/-- What 'put' leaves. -/
structure Putted (w w' : World) (D : Nat) (mo : Option Nat) (turns : Nat) (M : Nat) (l : List (ByteArray × Nat)) : Prop where
  os : w'.os = w.os
  tape : w'.tape = w.tape
  output : w'.output = w.output
  size : w.heap.size ≤ w'.heap.size
  ms : mo = some M ∨ (mo = none ∧ w.heap.size ≤ M)
  bl : w'.heap[D]? = some (.cells #[.map (some M), .int .i64 (turns : Int)] 48 (0, 0))
  mp : MapAt w' M l
  kept : ∀ b, b < w.heap.size → b ≠ D → mo ≠ some b → w'.heap[b]? = w.heap[b]?

/-- Two places compared. -/
def Cells (w : World) (c : Nat) : Prop := ∃ cs t, w.heap[c]? = some (.cells cs t (0, 0))
theorem infoC0 : (Tryz.prog.info? 65).map (fun i => i.size) = some 3 := by kernel_rfl
theorem infoC : ∃ j, Tryz.prog.info? 65 = some j ∧ j.size ≠ 0 := by
  have h := infoC0
  cases hj : Tryz.prog.info? 65 with
  | none => rw [hj] at h; simp at h
  | some j =>
    rw [hj] at h
    simp only [Option.map_some, Option.some.injEq] at h
    exact ⟨j, rfl, by omega⟩
theorem neq_same (w : World) (c : Nat) : (binOp .neq 60 (.pointer (some ⟨c, 0, none⟩)) (.pointer (some ⟨c, 0, none⟩))).run Tryz.prog w = .ok (.bool false) w := by
  obtain ⟨j, h1, _⟩ := infoC
  exact Lib.run_neq_ptr_same w _ Tryz.underlying60 h1
theorem neq_other {w : World} {c d : Nat} (hc : Cells w c) (hd : Cells w d) (hne : c ≠ d) : (binOp .neq 60 (.pointer (some ⟨c, 0, none⟩)) (.pointer (some ⟨d, 0, none⟩))).run Tryz.prog w = .ok (.bool true) w := by
  obtain ⟨j, h1, h2⟩ := infoC
  obtain ⟨ca, ta, ha⟩ := hc
  obtain ⟨cb, tb, hb⟩ := hd
  have h : ∀ k : Nat, (Op.equalIn (k + 1) 60 (.pointer (some ⟨c, 0, none⟩)) (.pointer (some ⟨d, 0, none⟩))).run Tryz.prog w = .ok false w := fun k => by
    simp [Op.equalIn, run_underlying Tryz.underlying60, sizeOf, typeInfo, h1, h2, run_sameAddr_other w (show (⟨c, 0, none⟩ : Addr) ≠ ⟨d, 0, none⟩ by intro e; injection e with e1; exact hne e1) ha hb]
  simp only [binOp]
  simp [Op.equal, Op.maxDepth, h 9999]
theorem eql_map (w : World) (M : Nat) : (binOp .eql 46 (.map (some M)) (.map none)).run Tryz.prog w = .ok (.bool false) w := by
  have h : ∀ k : Nat, (Op.equalIn (k + 1) 46 (.map (some M)) (.map none)).run Tryz.prog w = .ok false w := fun k => by
    simp [Op.equalIn, run_underlying Tryz.underlying46]
  simp only [binOp]
  simp [Op.equal, Op.maxDepth, h 9999]
theorem eql_map_nil (w : World) : (binOp .eql 46 (.map none) (.map none)).run Tryz.prog w = .ok (.bool true) w := by
  have h : ∀ k : Nat, (Op.equalIn (k + 1) 46 (.map none) (.map none)).run Tryz.prog w = .ok true w := fun k => by
    simp [Op.equalIn, run_underlying Tryz.underlying46]
  simp only [binOp]
  simp [Op.equal, Op.maxDepth, h 9999]
theorem neq_nil (w : World) (d : Nat) : (binOp .neq 60 (.pointer none) (.pointer (some ⟨d, 0, none⟩))).run Tryz.prog w = .ok (.bool true) w := by
  have h : ∀ k : Nat, (Op.equalIn (k + 1) 60 (.pointer none) (.pointer (some ⟨d, 0, none⟩))).run Tryz.prog w = .ok false w := fun k => by
    simp [Op.equalIn, run_underlying Tryz.underlying60]
  simp only [binOp]
  simp [Op.equal, Op.maxDepth, h 9999]

set_option maxRecDepth 100000 in
theorem put_same (w : World) (D M c turns : Nat) (l : List (ByteArray × Nat)) (n : ByteArray) (hn : n.size ≤ 64) (hD : w.heap[D]? = some (.cells #[.map (some M), .int .i64 (turns : Int)] 48 (0, 0))) (hm : MapAt w M l) (hl : lookF l n = some c) :
    Calls Tryz.prog 29 #[.pointer (some ⟨D, 0, none⟩), .string n, .pointer (some ⟨c, 0, none⟩)] w fun e w' => e = .returned (.tuple #[]) ∧ w' = w := by
  have c0 : w.cell? ⟨D, 0, none⟩ = some (.map (some M)) := by simp [World.cell?, hD]
  have hlk := look_map hm (n := n) (Nat.le_trans hn (by unfold maxLen; decide))
  rw [hl] at hlk
  change _ = Result.ok (Value.pointer (some ⟨c, 0, none⟩)) w at hlk
  clear hm hl hD
  have hq := neq_same w c
  have hq0 := eql_map w M
  go_enter Tryz.func29, Tryz.ntmps29
  go_wp2
  go_returns
  exact ⟨rfl, rfl⟩
set_option maxHeartbeats 1600000 in
set_option maxRecDepth 100000 in
theorem put_newN (w : World) (D M c turns : Nat) (l : List (ByteArray × Nat)) (n : ByteArray) (hn : n.size ≤ 64) (hD : w.heap[D]? = some (.cells #[.map (some M), .int .i64 (turns : Int)] 48 (0, 0))) (hm : MapAt w M l) (hl : lookF l n = none) :
    Calls Tryz.prog 29 #[.pointer (some ⟨D, 0, none⟩), .string n, .pointer (some ⟨c, 0, none⟩)] w fun e w' => e = .returned (.tuple #[]) ∧ Putted w w' D (some M) turns M (putK l n c) := by
  have c0 : w.cell? ⟨D, 0, none⟩ = some (.map (some M)) := by simp [World.cell?, hD]
  have hlk := look_map hm (n := n) (Nat.le_trans hn (by unfold maxLen; decide))
  have hlt : M < w.heap.size := by obtain ⟨es, clock, hb, _⟩ := hm; exact lt_of_block hb
  have hDl : D < w.heap.size := lt_of_block hD
  have hMD : D ≠ M := by
    rintro rfl
    obtain ⟨es, clock, hb, _⟩ := hm
    rw [hD] at hb
    simp at hb
  have HD : Hid (w.heap[D]? = some (.cells #[.map (some M), .int .i64 (turns : Int)] 48 (0, 0))) := hD
  have HM : Hid (MapAt w M l) := hm
  rw [hl] at hlk
  change _ = Result.ok (Value.pointer none) w at hlk
  have hq := neq_nil w c
  clear hm hl hD 
  have hq0 := eql_map w M
  go_enter Tryz.func29, Tryz.ntmps29
  go_wp2
  go_region_held3 (fun w' => w'.cell? ⟨D, 0, none⟩ = some (.map (some M))) (go_keep)
    (first | (go_at_call 40; refine (kclone_any n _ (by omega)).mono ?_; rintro e w1 ⟨rfl, bel⟩; have z := (bel.cell (p := ⟨D, 0, none⟩) (by simpa using hDl)).trans c0; obtain ⟨w2, hrun, hm2, hg2, hs2⟩ := upd_map (MapAt.kept HM.out (bel.block M hlt)) hn c; change (Instr.mapUpdate _ _ _ (Value.pointer (some ⟨c, 0, none⟩))).run _ _ = _ at hrun; have z2 := (hg2.cell_far ⟨D, 0, none⟩ (Nat.lt_of_lt_of_le hDl bel.size) (by simpa using hMD)).trans z))
  all_goals go_wp2
  all_goals go_returns
  exact ⟨rfl, hg2.os.trans bel.os, hg2.tape.trans bel.tape, hg2.output.trans bel.output, Nat.le_trans bel.size hg2.size, Or.inl rfl, ((hg2.block D (Nat.lt_of_lt_of_le hDl bel.size) (by simpa using hMD)).trans (bel.block D hDl)).trans HD.out, hm2,
    fun b hb _ hbM => (hg2.block b (Nat.lt_of_lt_of_le hb bel.size) (fun e => hbM e.symm)).trans (bel.block b hb)⟩
set_option maxHeartbeats 1600000 in
set_option maxRecDepth 100000 in
theorem put_newS (w : World) (D M c turns : Nat) (l : List (ByteArray × Nat)) (n : ByteArray) (hn : n.size ≤ 64) (hD : w.heap[D]? = some (.cells #[.map (some M), .int .i64 (turns : Int)] 48 (0, 0))) (hm : MapAt w M l) (c2 : Nat) (hl : lookF l n = some c2) (hne : c2 ≠ c) (hc : Cells w c) (hc2 : Cells w c2) :
    Calls Tryz.prog 29 #[.pointer (some ⟨D, 0, none⟩), .string n, .pointer (some ⟨c, 0, none⟩)] w fun e w' => e = .returned (.tuple #[]) ∧ Putted w w' D (some M) turns M (putK l n c) := by
  have c0 : w.cell? ⟨D, 0, none⟩ = some (.map (some M)) := by simp [World.cell?, hD]
  have hlk := look_map hm (n := n) (Nat.le_trans hn (by unfold maxLen; decide))
  have hlt : M < w.heap.size := by obtain ⟨es, clock, hb, _⟩ := hm; exact lt_of_block hb
  have hDl : D < w.heap.size := lt_of_block hD
  have hMD : D ≠ M := by
    rintro rfl
    obtain ⟨es, clock, hb, _⟩ := hm
    rw [hD] at hb
    simp at hb
  have HD : Hid (w.heap[D]? = some (.cells #[.map (some M), .int .i64 (turns : Int)] 48 (0, 0))) := hD
  have HM : Hid (MapAt w M l) := hm
  rw [hl] at hlk
  change _ = Result.ok (Value.pointer (some ⟨c2, 0, none⟩)) w at hlk
  have hq := neq_other hc2 hc hne
  clear hm hl hD hc hc2 hne
  have hq0 := eql_map w M
  go_enter Tryz.func29, Tryz.ntmps29
  go_wp2
  go_region_held3 (fun w' => w'.cell? ⟨D, 0, none⟩ = some (.map (some M))) (go_keep)
    (first | (go_at_call 40; refine (kclone_any n _ (by omega)).mono ?_; rintro e w1 ⟨rfl, bel⟩; have z := (bel.cell (p := ⟨D, 0, none⟩) (by simpa using hDl)).trans c0; obtain ⟨w2, hrun, hm2, hg2, hs2⟩ := upd_map (MapAt.kept HM.out (bel.block M hlt)) hn c; change (Instr.mapUpdate _ _ _ (Value.pointer (some ⟨c, 0, none⟩))).run _ _ = _ at hrun; have z2 := (hg2.cell_far ⟨D, 0, none⟩ (Nat.lt_of_lt_of_le hDl bel.size) (by simpa using hMD)).trans z))
  all_goals go_wp2
  all_goals go_returns
  exact ⟨rfl, hg2.os.trans bel.os, hg2.tape.trans bel.tape, hg2.output.trans bel.output, Nat.le_trans bel.size hg2.size, Or.inl rfl, ((hg2.block D (Nat.lt_of_lt_of_le hDl bel.size) (by simpa using hMD)).trans (bel.block D hDl)).trans HD.out, hm2,
    fun b hb _ hbM => (hg2.block b (Nat.lt_of_lt_of_le hb bel.size) (fun e => hbM e.symm)).trans (bel.block b hb)⟩
set_option maxHeartbeats 1600000 in
set_option maxRecDepth 100000 in
theorem put_first (w : World) (D c turns : Nat) (n : ByteArray) (hn : n.size ≤ 64) (hD : w.heap[D]? = some (.cells #[.map none, .int .i64 (turns : Int)] 48 (0, 0))) :
    Calls Tryz.prog 29 #[.pointer (some ⟨D, 0, none⟩), .string n, .pointer (some ⟨c, 0, none⟩)] w fun e w' => e = .returned (.tuple #[]) ∧ Putted w w' D none turns w.heap.size [(n, c)] := by
  have c0 : w.cell? ⟨D, 0, none⟩ = some (.map none) := by simp [World.cell?, hD]
  have f0 : w.frozen? ⟨D, 0, none⟩ = false := by simp [World.frozen?, hD]
  have hDl : D < w.heap.size := lt_of_block hD
  obtain ⟨u, hu⟩ : ∃ u, u = (w.setCell ⟨D, 0, none⟩ (.map (some w.heap.size))).alloc (.map #[] 0) := ⟨_, rfl⟩
  have us : u.heap.size = w.heap.size + 1 := by rw [hu]; simp
  have uM : u.heap[w.heap.size]? = some (.map #[] 0) := by
    rw [hu]
    have := heap_alloc_new (w.setCell ⟨D, 0, none⟩ (.map (some w.heap.size))) (.map #[] 0)
    simpa using this
  have uD : u.heap[D]? = some (.cells #[.map (some w.heap.size), .int .i64 (turns : Int)] 48 (0, 0)) := by
    rw [hu, heap_alloc_old _ _ (by simpa using hDl), heap_setCell_same w D 0 _ _ _ hD]
    rfl
  have uo : ∀ b, b < w.heap.size → b ≠ D → u.heap[b]? = w.heap[b]? := fun b hb hbD => by
    rw [hu, heap_alloc_old _ _ (by simpa using hb), heap_setCell_other _ _ _ _ (by simpa using hbD)]
  have HU : Hid (u.os = w.os ∧ u.tape = w.tape ∧ u.output = w.output) := by rw [hu]; exact ⟨rfl, rfl, rfl⟩
  have HM : Hid (MapAt u w.heap.size []) := ⟨#[], 0, uM, ⟨MapKept.stamped_empty 0, rfl, fun p hp => by simp at hp⟩⟩
  have hlk := look_map HM.out (n := n) (Nat.le_trans hn (by unfold maxLen; decide))
  change _ = Result.ok (Value.pointer none) u at hlk
  have hq := neq_nil u c
  have hq0 := eql_map_nil w
  have cu : u.cell? ⟨D, 0, none⟩ = some (.map (some w.heap.size)) := by simp [World.cell?, uD]
  have HD : Hid _ := uD
  have HO : Hid _ := uo
  clear hD uD uo uM
  have hmm := @run_makeMap Tryz.prog
  go_enter Tryz.func29, Tryz.ntmps29
  rw [hu] at hlk hq cu
  go_wp2
  rw [← hu] at *
  clear hu
  have hl1 : w.heap.size < u.heap.size := by omega
  have hl2 : D < u.heap.size := by omega
  go_region_held3 (fun w' => w'.cell? ⟨D, 0, none⟩ = some (.map (some w.heap.size))) (go_keep)
    (first | (go_at_call 40; refine (kclone_any n _ (by omega)).mono ?_; rintro e w1 ⟨rfl, bel⟩; have z := (bel.cell (p := ⟨D, 0, none⟩) (by simpa using hl2)).trans cu; obtain ⟨w2, hrun, hm2, hg2, hs2⟩ := upd_map (MapAt.kept HM.out (bel.block w.heap.size hl1)) hn c; change (Instr.mapUpdate _ _ _ (Value.pointer (some ⟨c, 0, none⟩))).run _ _ = _ at hrun; have z2 := (hg2.cell_far ⟨D, 0, none⟩ (Nat.lt_of_lt_of_le hl2 bel.size) (by simp; omega)).trans z))
  all_goals go_wp2
  all_goals go_returns
  have hsz : w.heap.size ≤ u.heap.size := by omega
  exact ⟨rfl, (hg2.os.trans bel.os).trans HU.out.1, (hg2.tape.trans bel.tape).trans HU.out.2.1, (hg2.output.trans bel.output).trans HU.out.2.2, Nat.le_trans hsz (Nat.le_trans bel.size hg2.size), Or.inr ⟨rfl, Nat.le_refl _⟩,
    ((hg2.block D (Nat.lt_of_lt_of_le hl2 bel.size) (by simp; omega)).trans (bel.block D hl2)).trans HD.out, hm2,
    fun b hb hbD _ => ((hg2.block b (Nat.lt_of_lt_of_le (by show b < u.heap.size; omega) bel.size) (by simp; omega)).trans (bel.block b (by show b < u.heap.size; omega))).trans (HO.out b hb hbD)⟩
end Go.Proofs.YtkdglkaeglhibaaGreatDoor
