/-
  Parts of the proof, laid together: KRead, KPut, KApp, KAppend, KAppendN, KName. The conditions stand at each part.
-/
import Derived.Lib.BufferRead
import Derived.Deep.RegionHeld3
import Derived.LaidEqlPtr
import Derived.Lib.Builder
import Derived.Lib.AppendStr
import Derived.Deep.RegionLaw
import Derived.Test.YtodnnhidljfilaaGreatDoorFPackG
import Derived.Test.YtodnnhidljfilaaGreatDoorFSA
/-
  The program's disk: a new one; a file found; read; asked how many of its bytes are not sure; made sure. The condition: a name that is looked for has no more bytes than a string may.
-/
namespace Go.Proofs.YtodnnhidljfilaaGreatDoor
open Go.RowKit

theorem mayBe_any (s : ByteArray) (w : World) :
    Calls Tryz.prog 119 #[.string s] w fun e w' => e = .returned (.bool (nameB s)) ∧ w = w' := by
  unfold nameB
  by_cases h : 1 ≤ s.size
  · have h1 : decide ((1 : Int) ≤ (s.size : Int)) = true := by simp; omega
    have e : decide (1 ≤ s.size) = true := by simpa using h
    rw [e, Bool.true_and]
    clear h e
    go_enter Tryz.func119, Tryz.ntmps119
    go_wp2
    go_ret
    exact ⟨congrArg (fun b => Ending.returned (.bool b)) (decide_eq_decide.2 (by omega)), rfl⟩
  · have h1 : decide ((1 : Int) ≤ (s.size : Int)) = false := by simp; omega
    have e : decide (1 ≤ s.size) = false := by simpa using h
    rw [e, Bool.false_and]
    clear h e
    go_enter Tryz.func119, Tryz.ntmps119
    go_wp2
    go_ret
    exact ⟨rfl, rfl⟩

/-- New. -/
theorem knew_any (w : World) : Calls Tryz.prog 17 #[] w fun e w' => e = .returned (.pointer (some ⟨w.heap.size, 0, none⟩)) ∧ w' = w.alloc (.cells #[.map none, .int .i64 0] 80) := by
  go_enter Tryz.func17, Tryz.ntmps17
  go_wp2
  go_ret
  exact ⟨rfl, rfl⟩
theorem CdAt.new (w : World) : CdAt (w.alloc (.cells #[.map none, .int .i64 0] 80)) w.heap.size w.heap.size [] 0 none (fun b => if b = w.heap.size then some b else none) := by
  refine ⟨(MapKept.heap_alloc w _).1, rfl, fun f hf => by simp at hf, by simp, fun M e => by simp at e, List.nodup_nil, fun b hb => ?_⟩
  by_cases e : b = w.heap.size
  · subst e
    exact ⟨Nat.le_refl _, by simp⟩
  · rw [if_neg e] at hb
    exact absurd rfl hb

theorem find_yes (w : World) (base D : Nat) (l : List CF) (turns : Nat) (mo : Option Nat) (ro : Nat → Option Nat) (n : ByteArray) (f : CF) (hn : n.size ≤ maxLen) (h : CdAt w base D l turns mo ro) (hf : lk l n = some f) :
    Calls Tryz.prog 114 #[.pointer (some ⟨D, 0, none⟩), .string n] w fun e w' => e = .returned (.tuple #[.pointer (some ⟨f.c, 0, none⟩), .int .i64 0]) ∧ w = w' := by
  have c0 := h.cell0
  have hl := h.look hn
  rw [hf] at hl
  change _ = Result.ok (Value.pointer (some ⟨f.c, 0, none⟩)) w at hl
  clear hf h
  go_enter Tryz.func114, Tryz.ntmps114
  go_wp2
  go_ret2
  exact ⟨rfl, rfl⟩
theorem find_no (w : World) (base D : Nat) (l : List CF) (turns : Nat) (mo : Option Nat) (ro : Nat → Option Nat) (n : ByteArray) (hn : n.size ≤ maxLen) (h : CdAt w base D l turns mo ro) (hf : lk l n = none) :
    Calls Tryz.prog 114 #[.pointer (some ⟨D, 0, none⟩), .string n] w fun e w' => e = .returned (.tuple #[.pointer none, .int .i64 5]) ∧ w = w' := by
  have c0 := h.cell0
  have hl := h.look hn
  rw [hf] at hl
  change _ = Result.ok (Value.pointer none) w at hl
  clear hf h
  go_enter Tryz.func114, Tryz.ntmps114
  go_wp2
  go_ret2
  exact ⟨rfl, rfl⟩

/-- Read. -/
def textOf (bs : List UInt8) : ByteArray := ⟨bs.toArray⟩
theorem own_bytes {base : Nat} {w : World} {v : Value} {bs : List UInt8} (hown : w.ownsRow base 5 1 v bs.length (Lib.byteCells bs)) : (convert 101 9 v).run Tryz.prog w = .ok (.string (textOf bs)) w := by
  rcases hown.2 with ⟨rfl, h0⟩ | ⟨g, cap, cur, rfl, _, hg, _, _, _, htk⟩
  · have : bs = [] := List.eq_nil_of_length_eq_zero h0
    subst this
    exact Lib.run_convert_nil_bytes w 101 9 5 0 Tryz.underlying101 Tryz.underlying5 Tryz.underlying9
  · exact run_convert_bytes_back w 101 9 5 ⟨g, 0, none⟩ cap bs Tryz.underlying101 Tryz.underlying5 Tryz.underlying9 (Lib.bytes_of_row hg (by simpa using htk))
theorem read_yes (w : World) (base D : Nat) (l : List CF) (turns : Nat) (mo : Option Nat) (ro : Nat → Option Nat) (n : ByteArray) (f : CF) (hn : n.size ≤ maxLen) (h : CdAt w base D l turns mo ro) (hf : lk l n = some f) :
    Calls Tryz.prog 102 #[.pointer (some ⟨D, 0, none⟩), .string n] w fun e w' => e = .returned (.tuple #[.string (textOf f.bs), .int .i64 0]) ∧ w = w' := by
  have hc := find_yes w base D l turns mo ro n f hn h hf
  have hF := h.each f (lk_mem hf).1
  have c0 := hF.cell0
  have cv := own_bytes hF.rb
  clear hf h hF
  generalize textOf f.bs = T at cv ⊢
  generalize f.bv = B at c0 cv
  generalize f.c = c at hc c0
  go_enter Tryz.func102, Tryz.ntmps102
  go_wp2_with (go_at_call 114; refine hc.mono ?_; rintro e w1 ⟨rfl, rfl⟩)
  go_ret2
  exact ⟨rfl, rfl⟩
theorem read_no (w : World) (base D : Nat) (l : List CF) (turns : Nat) (mo : Option Nat) (ro : Nat → Option Nat) (n : ByteArray) (hn : n.size ≤ maxLen) (h : CdAt w base D l turns mo ro) (hf : lk l n = none) :
    Calls Tryz.prog 102 #[.pointer (some ⟨D, 0, none⟩), .string n] w fun e w' => e = .returned (.tuple #[.string ⟨#[]⟩, .int .i64 5]) ∧ w = w' := by
  have hc := find_no w base D l turns mo ro n hn h hf
  clear hf h
  go_enter Tryz.func102, Tryz.ntmps102
  go_wp2_with (go_at_call 114; refine hc.mono ?_; rintro e w1 ⟨rfl, rfl⟩)
  go_ret2
  exact ⟨rfl, rfl⟩

def syncF (f : CF) : CF := { f with sure := f.bs.length, lv := .slice none 0 0, ps := [] }
theorem sync_end {w : World} {base D : Nat} {l : List CF} {turns : Nat} {mo : Option Nat} {ro : Nat → Option Nat} {f : CF} (h : CdAt w base D l turns mo ro) (hf : f ∈ l) :
    CdAt ((w.setCell ⟨f.c, 1, none⟩ (.int .i64 (f.bs.length : Int))).setCell ⟨f.c, 2, none⟩ (.slice none 0 0)) base D (setF l (syncF f)) turns mo ro ∧ Ext w ((w.setCell ⟨f.c, 1, none⟩ (.int .i64 (f.bs.length : Int))).setCell ⟨f.c, 2, none⟩ (.slice none 0 0)) ro ro := by
  have hF := h.each f hf
  have b1 := heap_setCell_same w f.c 1 _ _ (.int .i64 (f.bs.length : Int)) hF.bl
  have b2 := heap_setCell_same _ f.c 2 _ _ (.slice none 0 0) b1
  have bo : ∀ b, b ≠ f.c → ((w.setCell ⟨f.c, 1, none⟩ (.int .i64 (f.bs.length : Int))).setCell ⟨f.c, 2, none⟩ (.slice none 0 0)).heap[b]? = w.heap[b]? := fun b hb => by
    rw [heap_setCell_other _ _ _ _ (by simpa using hb), heap_setCell_other _ _ _ _ (by simpa using hb)]
  have nc : ∀ g, f.bv.ownBlock = some g → g ≠ f.c := fun g e1 e2 => by
    rcases hF.rb.2 with ⟨e, e0⟩ | ⟨g', cap, cur, e, _, hb, _⟩
    · rw [e] at e1; simp [Value.ownBlock] at e1
    · rw [e] at e1
      simp only [Value.ownBlock, Option.some.injEq] at e1
      rw [e1, e2, hF.bl] at hb
      simp at hb
  refine ⟨h.upd (f' := syncF f) hf rfl rfl ⟨b2, own_keep hF.rb (fun g e => bo g (nc g e)), World.ownsRow_nil _ _ _ _, hF.rc, hF.ob, fun g e => by simp [syncF, Value.ownBlock] at e, hF.mx, by simp [syncF, tot], fun p hp => by simp [syncF] at hp, hF.sz⟩ ?_ (fun b _ _ hr => bo b ?_) (fun _ _ => rfl) (fun b hb => ?_), ?_⟩
  · rw [bo D (fun e => h.neD hf e.symm)]
    exact h.bl
  · rintro rfl
    exact hr hF.rc
  · have := h.bd b hb
    simpa using this
  · refine ⟨rfl, rfl, rfl, by simp, fun _ _ => rfl, fun b _ hr => bo b ?_⟩
    rintro rfl
    rw [hF.rc] at hr
    simp at hr
theorem sync_yes (w : World) (base D : Nat) (l : List CF) (turns : Nat) (mo : Option Nat) (ro : Nat → Option Nat) (n : ByteArray) (f : CF) (hn : n.size ≤ maxLen) (h : CdAt w base D l turns mo ro) (hf : lk l n = some f) :
    Calls Tryz.prog 73 #[.pointer (some ⟨D, 0, none⟩), .string n] w fun e w' => e = .returned (.int .i64 0) ∧ CdAt w' base D (setF l (syncF f)) turns mo ro ∧ Ext w w' ro ro := by
  have hc := find_yes w base D l turns mo ro n f hn h hf
  have hF := h.each f (lk_mem hf).1
  have HE : Hid _ := sync_end h (lk_mem hf).1
  have c0 := hF.cell0
  have z1 : w.frozen? ⟨f.c, 1, none⟩ = false := by simp [World.frozen?, hF.bl]
  have z2 : w.frozen? ⟨f.c, 2, none⟩ = false := by simp [World.frozen?, hF.bl]
  have c1 := hF.cell1
  have c2 := hF.cell2
  have hv : ∃ pv cv, f.bv = .slice pv f.bs.length cv := by
    rcases hF.rb.2 with ⟨e, e0⟩ | ⟨g, cap, cur, e, _⟩
    · exact ⟨none, 0, by rw [e, e0]⟩
    · exact ⟨_, _, e⟩
  obtain ⟨pv, cv, ev⟩ := hv
  obtain ⟨pl, nl, cl, el⟩ := own_form hF.rl
  rw [ev] at c0
  rw [el] at c2
  clear hf h hF ev el
  go_enter Tryz.func73, Tryz.ntmps73
  go_wp2_with (go_at_call 114; refine hc.mono ?_; rintro e w1 ⟨rfl, rfl⟩)
  go_ret
  exact ⟨rfl, HE.out⟩
end Go.Proofs.YtodnnhidljfilaaGreatDoor
/-
  The program's disk: a file is laid under a name. The condition: the name has at most 64 bytes.
-/
namespace Go.Proofs.YtodnnhidljfilaaGreatDoor
open Go.RowKit

theorem kclone_any (s : ByteArray) (w : World) (hlim : s.size ≤ 281474976710656) :
    Calls Tryz.prog 53 #[.string s] w fun e w' => e = .returned (.string s) ∧ Below w.heap.size w w' := by
  go_enter Tryz.func53, Tryz.ntmps53
  go_wp2_with (go_at_call 95; refine (Tryz.stringslite_Clone s _ hlim).mono ?_; rintro e w1 ⟨rfl, bel⟩)
  go_ret
  exact ⟨rfl, bel⟩

/-- What 'put' leaves. -/
structure Putted (w w' : World) (D : Nat) (mo : Option Nat) (turns : Nat) (M : Nat) (l : List (ByteArray × Nat)) : Prop where
  os : w'.os = w.os
  tape : w'.tape = w.tape
  output : w'.output = w.output
  size : w.heap.size ≤ w'.heap.size
  ms : mo = some M ∨ (mo = none ∧ w.heap.size ≤ M)
  bl : w'.heap[D]? = some (.cells #[.map (some M), .int .i64 (turns : Int)] 80 (0, 0))
  mp : MapAt w' M l
  kept : ∀ b, b < w.heap.size → b ≠ D → mo ≠ some b → w'.heap[b]? = w.heap[b]?

/-- Two places compared. -/
def Cells (w : World) (c : Nat) : Prop := ∃ cs t, w.heap[c]? = some (.cells cs t (0, 0))
theorem infoC0 : (Tryz.prog.info? 103).map (fun i => i.size) = some 3 := by kernel_rfl
theorem infoC : ∃ j, Tryz.prog.info? 103 = some j ∧ j.size ≠ 0 := by
  have h := infoC0
  cases hj : Tryz.prog.info? 103 with
  | none => rw [hj] at h; simp at h
  | some j =>
    rw [hj] at h
    simp only [Option.map_some, Option.some.injEq] at h
    exact ⟨j, rfl, by omega⟩
theorem neq_same (w : World) (c : Nat) : (binOp .neq 98 (.pointer (some ⟨c, 0, none⟩)) (.pointer (some ⟨c, 0, none⟩))).run Tryz.prog w = .ok (.bool false) w := by
  obtain ⟨j, h1, _⟩ := infoC
  exact Lib.run_neq_ptr_same w _ Tryz.underlying98 h1
theorem neq_other {w : World} {c d : Nat} (hc : Cells w c) (hd : Cells w d) (hne : c ≠ d) : (binOp .neq 98 (.pointer (some ⟨c, 0, none⟩)) (.pointer (some ⟨d, 0, none⟩))).run Tryz.prog w = .ok (.bool true) w := by
  obtain ⟨j, h1, h2⟩ := infoC
  obtain ⟨ca, ta, ha⟩ := hc
  obtain ⟨cb, tb, hb⟩ := hd
  have h : ∀ k : Nat, (Op.equalIn (k + 1) 98 (.pointer (some ⟨c, 0, none⟩)) (.pointer (some ⟨d, 0, none⟩))).run Tryz.prog w = .ok false w := fun k => by
    simp [Op.equalIn, run_underlying Tryz.underlying98, sizeOf, typeInfo, h1, h2, run_sameAddr_other w (show (⟨c, 0, none⟩ : Addr) ≠ ⟨d, 0, none⟩ by intro e; injection e with e1; exact hne e1) ha hb]
  simp only [binOp]
  simp [Op.equal, Op.maxDepth, h 9999]
theorem eql_map (w : World) (M : Nat) : (binOp .eql 78 (.map (some M)) (.map none)).run Tryz.prog w = .ok (.bool false) w := by
  have h : ∀ k : Nat, (Op.equalIn (k + 1) 78 (.map (some M)) (.map none)).run Tryz.prog w = .ok false w := fun k => by
    simp [Op.equalIn, run_underlying Tryz.underlying78]
  simp only [binOp]
  simp [Op.equal, Op.maxDepth, h 9999]
theorem eql_map_nil (w : World) : (binOp .eql 78 (.map none) (.map none)).run Tryz.prog w = .ok (.bool true) w := by
  have h : ∀ k : Nat, (Op.equalIn (k + 1) 78 (.map none) (.map none)).run Tryz.prog w = .ok true w := fun k => by
    simp [Op.equalIn, run_underlying Tryz.underlying78]
  simp only [binOp]
  simp [Op.equal, Op.maxDepth, h 9999]
theorem neq_nil (w : World) (d : Nat) : (binOp .neq 98 (.pointer none) (.pointer (some ⟨d, 0, none⟩))).run Tryz.prog w = .ok (.bool true) w := by
  have h : ∀ k : Nat, (Op.equalIn (k + 1) 98 (.pointer none) (.pointer (some ⟨d, 0, none⟩))).run Tryz.prog w = .ok false w := fun k => by
    simp [Op.equalIn, run_underlying Tryz.underlying98]
  simp only [binOp]
  simp [Op.equal, Op.maxDepth, h 9999]

set_option maxRecDepth 100000 in
theorem put_same (w : World) (D M c turns : Nat) (l : List (ByteArray × Nat)) (n : ByteArray) (hn : n.size ≤ 64) (hD : w.heap[D]? = some (.cells #[.map (some M), .int .i64 (turns : Int)] 80 (0, 0))) (hm : MapAt w M l) (hl : lookF l n = some c) :
    Calls Tryz.prog 120 #[.pointer (some ⟨D, 0, none⟩), .string n, .pointer (some ⟨c, 0, none⟩)] w fun e w' => e = .returned (.tuple #[]) ∧ w' = w := by
  have c0 : w.cell? ⟨D, 0, none⟩ = some (.map (some M)) := by simp [World.cell?, hD]
  have hlk := look_map hm (n := n) (Nat.le_trans hn (by unfold maxLen; decide))
  rw [hl] at hlk
  change _ = Result.ok (Value.pointer (some ⟨c, 0, none⟩)) w at hlk
  clear hm hl hD
  have hq := neq_same w c
  have hq0 := eql_map w M
  go_enter Tryz.func120, Tryz.ntmps120
  go_wp2
  go_returns
  exact ⟨rfl, rfl⟩
set_option maxHeartbeats 1600000 in
set_option maxRecDepth 100000 in
theorem put_newN (w : World) (D M c turns : Nat) (l : List (ByteArray × Nat)) (n : ByteArray) (hn : n.size ≤ 64) (hD : w.heap[D]? = some (.cells #[.map (some M), .int .i64 (turns : Int)] 80 (0, 0))) (hm : MapAt w M l) (hl : lookF l n = none) :
    Calls Tryz.prog 120 #[.pointer (some ⟨D, 0, none⟩), .string n, .pointer (some ⟨c, 0, none⟩)] w fun e w' => e = .returned (.tuple #[]) ∧ Putted w w' D (some M) turns M (putK l n c) := by
  have c0 : w.cell? ⟨D, 0, none⟩ = some (.map (some M)) := by simp [World.cell?, hD]
  have hlk := look_map hm (n := n) (Nat.le_trans hn (by unfold maxLen; decide))
  have hlt : M < w.heap.size := by obtain ⟨es, clock, hb, _⟩ := hm; exact lt_of_block hb
  have hDl : D < w.heap.size := lt_of_block hD
  have hMD : D ≠ M := by
    rintro rfl
    obtain ⟨es, clock, hb, _⟩ := hm
    rw [hD] at hb
    simp at hb
  have HD : Hid (w.heap[D]? = some (.cells #[.map (some M), .int .i64 (turns : Int)] 80 (0, 0))) := hD
  have HM : Hid (MapAt w M l) := hm
  rw [hl] at hlk
  change _ = Result.ok (Value.pointer none) w at hlk
  have hq := neq_nil w c
  clear hm hl hD 
  have hq0 := eql_map w M
  go_enter Tryz.func120, Tryz.ntmps120
  go_wp2
  go_region_held3 (fun w' => w'.cell? ⟨D, 0, none⟩ = some (.map (some M))) (go_keep)
    (first | (go_at_call 53; refine (kclone_any n _ (by omega)).mono ?_; rintro e w1 ⟨rfl, bel⟩; have z := (bel.cell (p := ⟨D, 0, none⟩) (by simpa using hDl)).trans c0; obtain ⟨w2, hrun, hm2, hg2, hs2⟩ := upd_map (MapAt.kept HM.out (bel.block M hlt)) hn c; change (Instr.mapUpdate _ _ _ (Value.pointer (some ⟨c, 0, none⟩))).run _ _ = _ at hrun; have z2 := (hg2.cell_far ⟨D, 0, none⟩ (Nat.lt_of_lt_of_le hDl bel.size) (by simpa using hMD)).trans z))
  all_goals go_wp2
  all_goals go_returns
  exact ⟨rfl, hg2.os.trans bel.os, hg2.tape.trans bel.tape, hg2.output.trans bel.output, Nat.le_trans bel.size hg2.size, Or.inl rfl, ((hg2.block D (Nat.lt_of_lt_of_le hDl bel.size) (by simpa using hMD)).trans (bel.block D hDl)).trans HD.out, hm2,
    fun b hb _ hbM => (hg2.block b (Nat.lt_of_lt_of_le hb bel.size) (fun e => hbM e.symm)).trans (bel.block b hb)⟩
set_option maxHeartbeats 1600000 in
set_option maxRecDepth 100000 in
theorem put_newS (w : World) (D M c turns : Nat) (l : List (ByteArray × Nat)) (n : ByteArray) (hn : n.size ≤ 64) (hD : w.heap[D]? = some (.cells #[.map (some M), .int .i64 (turns : Int)] 80 (0, 0))) (hm : MapAt w M l) (c2 : Nat) (hl : lookF l n = some c2) (hne : c2 ≠ c) (hc : Cells w c) (hc2 : Cells w c2) :
    Calls Tryz.prog 120 #[.pointer (some ⟨D, 0, none⟩), .string n, .pointer (some ⟨c, 0, none⟩)] w fun e w' => e = .returned (.tuple #[]) ∧ Putted w w' D (some M) turns M (putK l n c) := by
  have c0 : w.cell? ⟨D, 0, none⟩ = some (.map (some M)) := by simp [World.cell?, hD]
  have hlk := look_map hm (n := n) (Nat.le_trans hn (by unfold maxLen; decide))
  have hlt : M < w.heap.size := by obtain ⟨es, clock, hb, _⟩ := hm; exact lt_of_block hb
  have hDl : D < w.heap.size := lt_of_block hD
  have hMD : D ≠ M := by
    rintro rfl
    obtain ⟨es, clock, hb, _⟩ := hm
    rw [hD] at hb
    simp at hb
  have HD : Hid (w.heap[D]? = some (.cells #[.map (some M), .int .i64 (turns : Int)] 80 (0, 0))) := hD
  have HM : Hid (MapAt w M l) := hm
  rw [hl] at hlk
  change _ = Result.ok (Value.pointer (some ⟨c2, 0, none⟩)) w at hlk
  have hq := neq_other hc2 hc hne
  clear hm hl hD hc hc2 hne
  have hq0 := eql_map w M
  go_enter Tryz.func120, Tryz.ntmps120
  go_wp2
  go_region_held3 (fun w' => w'.cell? ⟨D, 0, none⟩ = some (.map (some M))) (go_keep)
    (first | (go_at_call 53; refine (kclone_any n _ (by omega)).mono ?_; rintro e w1 ⟨rfl, bel⟩; have z := (bel.cell (p := ⟨D, 0, none⟩) (by simpa using hDl)).trans c0; obtain ⟨w2, hrun, hm2, hg2, hs2⟩ := upd_map (MapAt.kept HM.out (bel.block M hlt)) hn c; change (Instr.mapUpdate _ _ _ (Value.pointer (some ⟨c, 0, none⟩))).run _ _ = _ at hrun; have z2 := (hg2.cell_far ⟨D, 0, none⟩ (Nat.lt_of_lt_of_le hDl bel.size) (by simpa using hMD)).trans z))
  all_goals go_wp2
  all_goals go_returns
  exact ⟨rfl, hg2.os.trans bel.os, hg2.tape.trans bel.tape, hg2.output.trans bel.output, Nat.le_trans bel.size hg2.size, Or.inl rfl, ((hg2.block D (Nat.lt_of_lt_of_le hDl bel.size) (by simpa using hMD)).trans (bel.block D hDl)).trans HD.out, hm2,
    fun b hb _ hbM => (hg2.block b (Nat.lt_of_lt_of_le hb bel.size) (fun e => hbM e.symm)).trans (bel.block b hb)⟩
set_option maxHeartbeats 1600000 in
set_option maxRecDepth 100000 in
theorem put_first (w : World) (D c turns : Nat) (n : ByteArray) (hn : n.size ≤ 64) (hD : w.heap[D]? = some (.cells #[.map none, .int .i64 (turns : Int)] 80 (0, 0))) :
    Calls Tryz.prog 120 #[.pointer (some ⟨D, 0, none⟩), .string n, .pointer (some ⟨c, 0, none⟩)] w fun e w' => e = .returned (.tuple #[]) ∧ Putted w w' D none turns w.heap.size [(n, c)] := by
  have c0 : w.cell? ⟨D, 0, none⟩ = some (.map none) := by simp [World.cell?, hD]
  have f0 : w.frozen? ⟨D, 0, none⟩ = false := by simp [World.frozen?, hD]
  have hDl : D < w.heap.size := lt_of_block hD
  obtain ⟨u, hu⟩ : ∃ u, u = (w.setCell ⟨D, 0, none⟩ (.map (some w.heap.size))).alloc (.map #[] 0) := ⟨_, rfl⟩
  have us : u.heap.size = w.heap.size + 1 := by rw [hu]; simp
  have uM : u.heap[w.heap.size]? = some (.map #[] 0) := by
    rw [hu]
    have := heap_alloc_new (w.setCell ⟨D, 0, none⟩ (.map (some w.heap.size))) (.map #[] 0)
    simpa using this
  have uD : u.heap[D]? = some (.cells #[.map (some w.heap.size), .int .i64 (turns : Int)] 80 (0, 0)) := by
    rw [hu, heap_alloc_old _ _ (by simpa using hDl), heap_setCell_same w D 0 _ _ _ hD]
    rfl
  have uo : ∀ b, b < w.heap.size → b ≠ D → u.heap[b]? = w.heap[b]? := fun b hb hbD => by
    rw [hu, heap_alloc_old _ _ (by simpa using hb), heap_setCell_other _ _ _ _ (by simpa using hbD)]
  have HU : Hid (u.os = w.os ∧ u.tape = w.tape ∧ u.output = w.output) := by rw [hu]; exact ⟨rfl, rfl, rfl⟩
  have HM : Hid (MapAt u w.heap.size []) := ⟨#[], 0, uM, ⟨MapKept.stamped_empty 0, rfl, fun p hp => by simp at hp⟩⟩
  have hlk := look_map HM.out (n := n) (Nat.le_trans hn (by unfold maxLen; decide))
  change _ = Result.ok (Value.pointer none) u at hlk
  have hq := neq_nil u c
  have hq0 := eql_map_nil w
  have cu : u.cell? ⟨D, 0, none⟩ = some (.map (some w.heap.size)) := by simp [World.cell?, uD]
  have HD : Hid _ := uD
  have HO : Hid _ := uo
  clear hD uD uo uM
  have hmm := @run_makeMap Tryz.prog
  go_enter Tryz.func120, Tryz.ntmps120
  rw [hu] at hlk hq cu
  go_wp2
  rw [← hu] at *
  clear hu
  have hl1 : w.heap.size < u.heap.size := by omega
  have hl2 : D < u.heap.size := by omega
  go_region_held3 (fun w' => w'.cell? ⟨D, 0, none⟩ = some (.map (some w.heap.size))) (go_keep)
    (first | (go_at_call 53; refine (kclone_any n _ (by omega)).mono ?_; rintro e w1 ⟨rfl, bel⟩; have z := (bel.cell (p := ⟨D, 0, none⟩) (by simpa using hl2)).trans cu; obtain ⟨w2, hrun, hm2, hg2, hs2⟩ := upd_map (MapAt.kept HM.out (bel.block w.heap.size hl1)) hn c; change (Instr.mapUpdate _ _ _ (Value.pointer (some ⟨c, 0, none⟩))).run _ _ = _ at hrun; have z2 := (hg2.cell_far ⟨D, 0, none⟩ (Nat.lt_of_lt_of_le hl2 bel.size) (by simp; omega)).trans z))
  all_goals go_wp2
  all_goals go_returns
  have hsz : w.heap.size ≤ u.heap.size := by omega
  exact ⟨rfl, (hg2.os.trans bel.os).trans HU.out.1, (hg2.tape.trans bel.tape).trans HU.out.2.1, (hg2.output.trans bel.output).trans HU.out.2.2, Nat.le_trans hsz (Nat.le_trans bel.size hg2.size), Or.inr ⟨rfl, Nat.le_refl _⟩,
    ((hg2.block D (Nat.lt_of_lt_of_le hl2 bel.size) (by simp; omega)).trans (bel.block D hl2)).trans HD.out, hm2,
    fun b hb hbD _ => ((hg2.block b (Nat.lt_of_lt_of_le (by show b < u.heap.size; omega) bel.size) (by simp; omega)).trans (bel.block b (by show b < u.heap.size; omega))).trans (HO.out b hb hbD)⟩
end Go.Proofs.YtodnnhidljfilaaGreatDoor
/-
  A string's bytes behind a row of bytes of one's own: where the new row lies. What an append to a file leaves of the program's disk. The condition: a file has at most 4194304 bytes.
-/
namespace Go.Proofs.YtodnnhidljfilaaGreatDoor
open Go.RowKit

theorem infoB : (Tryz.prog.info? 5).map (fun i => (i.zero, i.size, i.bytes)) = some (some (.int .u8 0), 1, 1) := by kernel_rfl
theorem infoP : (Tryz.prog.info? 100).map (fun i => (i.zero, i.size, i.bytes)) = some (some (.agg #[.int .i64 0, .int .i64 0, .pointer none]), 3, 24) := by kernel_rfl
theorem append_str_run (w : World) (base : Nat) (ty : TypeId) (v : Value) (bs : List UInt8) (hown : w.ownsRow base 5 1 v bs.length (Lib.byteCells bs)) (s : ByteArray) (h0 : 0 < s.size) (hb : bs.length + s.size ≤ 140737488355328) (hbase : base ≤ w.heap.size) :
    ∃ v' w', (Builtin.append_ #[101, 9] ty #[v, .string s]).run Tryz.prog w = .ok v' w' ∧ w'.ownsRow base 5 1 v' (bs ++ s.data.toList).length (Lib.byteCells (bs ++ s.data.toList)) ∧ w.grownBy w' v.ownBlock ∧ (v'.ownBlock = v.ownBlock ∨ v'.ownBlock = some w.heap.size) := by
  obtain ⟨i0, hi, hz0, hz1, hz2⟩ := info_parts infoB
  obtain ⟨v', w', hr, h2, h3, _⟩ := Lib.run_append_own_string (P := Tryz.prog) w base 101 9 ty 5 i0 Tryz.underlying101 Tryz.underlying9 hi hz0 hz1 hz2 v bs.length _ hown s (by unfold maxLen; omega) hb hbase
  have e1 : Lib.byteCells bs ++ Lib.strCells s = Lib.byteCells (bs ++ s.data.toList) := by simp [Lib.byteCells, Lib.strCells]
  have e2 : (bs ++ s.data.toList).length = bs.length + s.size := by rw [List.length_append, Lib.size_eq]
  rw [e1, ← e2] at h2
  refine ⟨v', w', hr, h2, h3, ?_⟩
  rcases hown.2 with ⟨rfl, h0⟩ | ⟨g, cap, cur, rfl, hbg, hg, hnc, hcm, hcs, htake⟩
  · have hr2 := run_append_nil_string (P := Tryz.prog) w 101 9 ty 5 i0 (.int .u8 0) Tryz.underlying101 Tryz.underlying9 hi hz0 s (by omega) (by omega) (by rw [hz2]; omega)
    rw [hr] at hr2
    simp only [Result.ok.injEq] at hr2
    rw [hr2.1]
    exact Or.inr rfl
  · by_cases hroom : bs.length + s.size ≤ cap
    · have hr2 := Lib.run_append_room_string (P := Tryz.prog) w 101 9 ty 5 i0 Tryz.underlying101 Tryz.underlying9 hi hz1 g bs.length cap cur hg s hroom (by omega)
      rw [hr] at hr2
      simp only [Result.ok.injEq] at hr2
      rw [hr2.1]
      exact Or.inl rfl
    · have hr2 := Lib.run_append_grow_string (P := Tryz.prog) w 101 9 ty 5 i0 (.int .u8 0) Tryz.underlying101 Tryz.underlying9 hi hz0 ⟨g, 0, none⟩ bs.length cap _ (by rw [hz1]; exact hown.1) (hown.cells (g := g) rfl) s (by omega) (by omega) (by rw [hz2]; exact growslice_fits (by omega) (by omega))
      rw [hr] at hr2
      simp only [Result.ok.injEq] at hr2
      rw [hr2.1]
      exact Or.inr rfl
def Row2 (w : World) (base : Nat) (v : Value) (bs : List UInt8) (s : ByteArray) : Prop := w.ownsRow base 5 1 v (bs ++ s.data.toList).length (Lib.byteCells (bs ++ s.data.toList))
theorem Row2.out {w : World} {base : Nat} {v : Value} {bs : List UInt8} {s : ByteArray} (h : Row2 w base v bs s) : w.ownsRow base 5 1 v (bs ++ s.data.toList).length (Lib.byteCells (bs ++ s.data.toList)) := h
theorem append_str {ops : Array Oper} {rest : List Oper} {o : Oper} {a : Act} {w : World} {Q : Exit → Act → World → Prop} (hgd : o.guard = none) (sl x : Operand)
    (ho : o.op = .call { callee := .builtin .append, args := #[sl, x], argTypes := #[101, 9] }) (base : Nat) (v : Value) (bs : List UInt8) (hs : a.eval sl = v) (hown : w.ownsRow base 5 1 v bs.length (Lib.byteCells bs))
    (s : ByteArray) (hx : a.eval x = .string s) (h0 : 0 < s.size) (hb : bs.length + s.size ≤ 140737488355328) (hbase : base ≤ w.heap.size)
    (h : ∀ v' w', Row2 w' base v' bs s → w.grownBy w' v.ownBlock → (v'.ownBlock = v.ownBlock ∨ v'.ownBlock = some w.heap.size) → wpList Tryz.prog ops Q rest (a.put o.dst v') w') : wpList Tryz.prog ops Q (o :: rest) a w := by
  refine wpList_plain hgd fun K hK => ?_
  obtain ⟨v', w', hr, h2, h3, h4⟩ := append_str_run w base o.type v bs hown s h0 hb hbase
  unfold Oper.wp execOp
  simp only [ho, resolve, invoke, builtin, Sem.run_bind, Sem.run_pure, Result.andThen_ok, List.map_toArray, List.map_cons, List.map_nil, hs, hx, hr]
  exact hK _ _ (h v' w' h2 h3 h4)

/-- A file with more bytes. -/
def appF (f : CF) (s : ByteArray) (t : Nat) (b' l' : Value) : CF := { f with bv := b', lv := l', bs := f.bs ++ s.data.toList, ps := f.ps ++ [(t, s.size)] }
theorem pcsL_snoc (c : Nat) (ps : List (Nat × Nat)) (p : Nat × Nat) : pcsL c (ps ++ [p]) = pcsL c ps ++ pcL c p := by
  unfold pcsL
  rw [List.flatMap_append]
  simp
theorem tot_snoc (ps : List (Nat × Nat)) (p : Nat × Nat) : tot (ps ++ [p]) = tot ps + p.2 := by
  unfold tot
  simp
theorem append_mid {u w2 : World} {base D : Nat} {l : List CF} {turns : Nat} {mo : Option Nat} {ro : Nat → Option Nat} {f : CF} {x : Value} (h : CdAt u base D l turns mo ro) (hf : f ∈ l) (hg2 : (u.setCell ⟨D, 1, none⟩ x).grownBy w2 f.bv.ownBlock) :
    w2.heap[D]? = some (.cells #[.map mo, x] 80 (0, 0)) ∧ w2.heap[f.c]? = some (.cells #[f.bv, .int .i64 (f.sure : Int), f.lv] 103 (0, 0)) ∧ (∀ b, b < u.heap.size → b ≠ D → some b ≠ f.bv.ownBlock → w2.heap[b]? = u.heap[b]?) := by
  have hF := h.each f hf
  have hDl := lt_of_block h.bl
  have hcl := lt_of_block hF.bl
  refine ⟨?_, ?_, ?_⟩
  · rw [hg2.block D (by simpa using hDl) (own_ne hF.rb h.bl (by decide)).symm, heap_setCell_same u D 1 _ _ _ h.bl]
    rfl
  · rw [hg2.block f.c (by simpa using hcl) (own_ne hF.rb hF.bl (by decide)).symm, heap_setCell_other _ _ _ _ (by simpa using h.neD hf)]
    exact hF.bl
  · intro b hb hD hn
    rw [hg2.block b (by simpa using hb) hn, heap_setCell_other _ _ _ _ (by simpa using hD)]
theorem append_end {u w2 w4 : World} {base D : Nat} {l : List CF} {turns : Nat} {mo : Option Nat} {ro : Nat → Option Nat} {f : CF} {v2 v4 : Value} {s : ByteArray} {o : Obj} (h : CdAt u base D l turns mo ro) (hf : f ∈ l) (h0 : 0 < s.size) (hmx : f.bs.length + s.size ≤ 4194304)
    (hg2 : (u.setCell ⟨D, 1, none⟩ (.int .i64 ((turns + 1 : Nat) : Int))).grownBy w2 f.bv.ownBlock) (ha2 : v2.ownBlock = f.bv.ownBlock ∨ v2.ownBlock = some u.heap.size) (ho2 : w2.ownsRow base 5 1 v2 (f.bs ++ s.data.toList).length (Lib.byteCells (f.bs ++ s.data.toList)))
    (hg4 : ((w2.setCell ⟨f.c, 0, none⟩ v2).alloc o).drew.grownBy w4 f.lv.ownBlock) (ha4 : f.lv.ownBlock = v4.ownBlock ∨ v4.ownBlock = some (w2.heap.size + 1)) (hl4 : ∀ g, v4.ownBlock = some g → g < w4.heap.size)
    (ho4 : w4.ownsRow base 100 3 v4 (f.ps ++ [(turns + 1, s.size)]).length (pcsL f.c (f.ps ++ [(turns + 1, s.size)]))) :
    ∃ ro', CdAt (w4.setCell ⟨f.c, 2, none⟩ v4) base D (setF l (appF f s (turns + 1) v2 v4)) (turns + 1) mo ro' ∧ Ext u (w4.setCell ⟨f.c, 2, none⟩ v4) ro ro' := by
  have hF := h.each f hf
  obtain ⟨d2, c2, k2⟩ := append_mid h hf hg2
  have hDl := lt_of_block h.bl
  have hcl := lt_of_block hF.bl
  have hs2 : u.heap.size ≤ w2.heap.size := by simpa using hg2.size
  have hs4 : w2.heap.size + 1 ≤ w4.heap.size := by simpa using hg4.size
  have hcD := h.neD hf
  have nb : ∀ {b : Nat}, ro b ≠ some f.c → some b ≠ f.bv.ownBlock := fun hr e => hr (hF.ob _ e.symm)
  have nl : ∀ {b : Nat}, ro b ≠ some f.c → some b ≠ f.lv.ownBlock := fun hr e => hr (hF.ol _ e.symm)
  have c3 : (w2.setCell ⟨f.c, 0, none⟩ v2).heap[f.c]? = some (.cells #[v2, .int .i64 (f.sure : Int), f.lv] 103 (0, 0)) := by
    rw [heap_setCell_same w2 f.c 0 _ _ _ c2]
    rfl
  have k4 : ∀ b, b < w2.heap.size → b ≠ f.c → some b ≠ f.lv.ownBlock → w4.heap[b]? = w2.heap[b]? := fun b hb hc hn => by
    rw [hg4.block b (by simp; omega) hn]
    show ((w2.setCell ⟨f.c, 0, none⟩ v2).alloc o).heap[b]? = _
    rw [heap_alloc_old _ _ (by simpa using hb), heap_setCell_other _ _ _ _ (by simpa using hc)]
  have c4 : w4.heap[f.c]? = some (.cells #[v2, .int .i64 (f.sure : Int), f.lv] 103 (0, 0)) := by
    rw [hg4.block f.c (by simp; omega) (own_ne hF.rl hF.bl (by decide)).symm]
    show ((w2.setCell ⟨f.c, 0, none⟩ v2).alloc o).heap[f.c]? = _
    rw [heap_alloc_old _ _ (by simp; omega)]
    exact c3
  have c5 : (w4.setCell ⟨f.c, 2, none⟩ v4).heap[f.c]? = some (.cells #[v2, .int .i64 (f.sure : Int), v4] 103 (0, 0)) := by
    rw [heap_setCell_same w4 f.c 2 _ _ _ c4]
    rfl
  have ko : ∀ b, b < u.heap.size → b ≠ D → ro b ≠ some f.c → (w4.setCell ⟨f.c, 2, none⟩ v4).heap[b]? = u.heap[b]? := fun b hb hD hr => by
    have hc : b ≠ f.c := by
      rintro rfl
      exact hr hF.rc
    rw [heap_setCell_other _ _ _ _ (by simpa using hc), k4 b (by omega) hc (nl hr)]
    exact k2 b hb hD (nb hr)
  have hlv2 : f.lv.ownBlock ≠ v2.ownBlock ∨ v2.ownBlock = none := by
    rcases ho2.2 with ⟨e, _⟩ | ⟨g, cap, cur, e, _, hb, _⟩
    · right
      rw [e]
      rfl
    · left
      have hv : v2.ownBlock = some g := by rw [e]; rfl
      rw [hv]
      intro e2
      rcases hF.rl.2 with ⟨e3, _⟩ | ⟨g', cap', cur', e3, _, hb', _⟩
      · rw [e3] at e2
        simp [Value.ownBlock] at e2
      · rw [e3] at e2
        simp only [Value.ownBlock, Option.some.injEq] at e2
        subst e2
        have hgl := lt_of_block hb'
        have h1 := k2 g' hgl (by rintro rfl; rw [h.bl] at hb'; simp at hb') (by
          intro e4
          have := own_ne hF.rb hb' (by decide)
          exact this e4.symm)
        rw [hb, hb'] at h1
        simp at h1
  have row2 : (w4.setCell ⟨f.c, 2, none⟩ v4).ownsRow base 5 1 v2 (f.bs ++ s.data.toList).length (Lib.byteCells (f.bs ++ s.data.toList)) := by
    refine own_keep ho2 (fun g e => ?_)
    have hgc : g ≠ f.c := by
      rintro rfl
      exact own_ne ho2 c2 (by decide) e
    have hgl : g < w2.heap.size := (ho2.lt g e).2
    rw [heap_setCell_other _ _ _ _ (by simpa using hgc), k4 g hgl hgc (by
      intro e2
      rcases hlv2 with h1 | h1
      · exact h1 (by rw [← e2, e])
      · rw [h1] at e
        simp at e)]
  have row4 : (w4.setCell ⟨f.c, 2, none⟩ v4).ownsRow base 100 3 v4 (f.ps ++ [(turns + 1, s.size)]).length (pcsL f.c (f.ps ++ [(turns + 1, s.size)])) := by
    refine own_keep ho4 (fun g e => ?_)
    rw [heap_setCell_other _ _ _ _ (by
      show g ≠ f.c
      rintro rfl
      exact own_ne ho4 c4 (by decide) e)]
  obtain ⟨ro', hro⟩ : ∃ ro' : Nat → Option Nat, ro' = fun b => if u.heap.size ≤ b ∧ b < w4.heap.size then some f.c else ro b := ⟨_, rfl⟩
  have old : ∀ b, b < u.heap.size → ro' b = ro b := fun b hb => by rw [hro]; simp only; rw [if_neg (by omega)]
  have new : ∀ b, u.heap.size ≤ b → b < w4.heap.size → ro' b = some f.c := fun b h1 h2 => by rw [hro]; simp only; rw [if_pos ⟨h1, h2⟩]
  have base_le : base ≤ u.heap.size := by have := h.bd D (by rw [h.rD]; simp); omega
  refine ⟨ro', h.upd (f' := appF f s (turns + 1) v2 v4) hf rfl rfl ⟨c5, row2, row4, (old f.c hcl).trans hF.rc, fun g e => ?_, fun g e => ?_, ?_, ?_, ?_, hF.sz⟩ ?_ ko old (fun b hb => ?_), ?_⟩
  · change v2.ownBlock = some g at e
    rcases ha2 with h1 | h1
    · rw [h1] at e
      have hr := hF.ob g e
      exact (old g ((h.bd g (by rw [hr]; simp)).2)).trans hr
    · rw [h1] at e
      simp only [Option.some.injEq] at e
      subst e
      exact new _ (Nat.le_refl _) (by omega)
  · change v4.ownBlock = some g at e
    rcases ha4 with h1 | h1
    · rw [← h1] at e
      have hr := hF.ol g e
      exact (old g ((h.bd g (by rw [hr]; simp)).2)).trans hr
    · have hl := hl4 g e
      rw [h1] at e
      simp only [Option.some.injEq] at e
      exact new g (by omega) hl
  · show (f.bs ++ s.data.toList).length ≤ 4194304
    rw [List.length_append, ← Lib.size_eq]
    exact hmx
  · show f.sure + tot (f.ps ++ [(turns + 1, s.size)]) = (f.bs ++ s.data.toList).length
    rw [tot_snoc, List.length_append, ← Lib.size_eq]
    have := hF.sm
    simp only
    omega
  · intro p hp
    rcases List.mem_append.1 hp with hp | hp
    · exact hF.ps0 p hp
    · rw [List.mem_singleton] at hp
      subst hp
      exact h0
  · rw [heap_setCell_other _ _ _ _ (by simpa using hcD.symm), k4 D (by omega) hcD.symm (own_ne hF.rl h.bl (by decide)).symm]
    exact d2
  · by_cases hc : u.heap.size ≤ b ∧ b < w4.heap.size
    · exact ⟨by omega, by simpa using hc.2⟩
    · have hb2 : ro' b = ro b := by rw [hro]; simp only; rw [if_neg hc]
      rw [hb2] at hb
      have := h.bd b hb
      exact ⟨this.1, by simp; omega⟩
  · refine ⟨?_, ?_, ?_, by simp; omega, old, fun b hb hr => ?_⟩
    · exact hg4.os.trans hg2.os
    · exact hg4.tape.trans hg2.tape
    · exact hg4.output.trans hg2.output
    · refine ko b hb ?_ (by rw [hr]; simp)
      rintro rfl
      rw [h.rD] at hr
      simp at hr
theorem append_fin {u w2 w3 w4 : World} {base D : Nat} {l : List CF} {turns : Nat} {mo : Option Nat} {ro : Nat → Option Nat} {f : CF} {v2 : Value} {s : ByteArray} {o : Obj} {pl : Option Addr} {nl cl gg cap : Nat} (h : CdAt u base D l turns mo ro) (hf : f ∈ l) (h0 : 0 < s.size) (hmx : f.bs.length + s.size ≤ 4194304)
    (hg2 : (u.setCell ⟨D, 1, none⟩ (.int .i64 ((turns : Int) + 1))).grownBy w2 f.bv.ownBlock) (ha2 : v2.ownBlock = f.bv.ownBlock ∨ v2.ownBlock = some u.heap.size) (ho2 : w2.ownsRow base 5 1 v2 (f.bs ++ s.data.toList).length (Lib.byteCells (f.bs ++ s.data.toList)))
    (h3 : w3 = w2.setCell ⟨f.c, 0, none⟩ v2) (hlv : f.lv = .slice pl nl cl) (hg4 : (w3.alloc o).drew.grownBy w4 (Value.slice pl nl cl).ownBlock) (hat : (Value.slice pl nl cl).ownBlock = some gg ∨ gg = w3.heap.size + 1) (hlt : gg < w4.heap.size)
    (ho4 : w4.ownsRow base 100 3 (.slice (some ⟨gg, 0, none⟩) (f.ps.length + 1) cap) (f.ps.length + 1) (pcsL f.c f.ps ++ [.int .i64 ((turns : Int) + 1), .int .i64 (s.size : Int), .pointer (some ⟨f.c, 0, none⟩)])) :
    ∃ b' l' ro', CdAt (w4.setCell ⟨f.c, 2, none⟩ (.slice (some ⟨gg, 0, none⟩) (f.ps.length + 1) cap)) base D (setF l (appF f s (turns + 1) b' l')) (turns + 1) mo ro' ∧ Ext u (w4.setCell ⟨f.c, 2, none⟩ (.slice (some ⟨gg, 0, none⟩) (f.ps.length + 1) cap)) ro ro' := by
  have ei : ((turns : Int) + 1) = ((turns + 1 : Nat) : Int) := by omega
  have hsz : w3.heap.size = w2.heap.size := by rw [h3]; simp
  rw [ei] at hg2 ho4
  rw [h3, ← hlv] at hg4
  obtain ⟨ro', r1, r2⟩ := append_end (v4 := .slice (some ⟨gg, 0, none⟩) (f.ps.length + 1) cap) h hf h0 hmx hg2 ha2 ho2 hg4 (by
    rcases hat with e | e
    · left
      rw [hlv, e]
      rfl
    · right
      rw [e, hsz]
      rfl) (fun g e => by
      simp only [Value.ownBlock, Option.some.injEq] at e
      rw [← e]
      exact hlt) (by
      rw [pcsL_snoc, List.length_append]
      exact ho4)
  exact ⟨_, _, ro', r1, r2⟩

/-- A new file, without bytes, laid under its name. -/
def newF (n : ByteArray) (c : Nat) : CF := ⟨n, c, .slice none 0 0, .slice none 0 0, [], 0, []⟩
theorem CdAt.added {w u : World} {base D : Nat} {l : List CF} {turns M : Nat} {mo : Option Nat} {ro : Nat → Option Nat} {n : ByteArray} (h : CdAt w base D l turns mo ro) (hn : n.size ≤ 64)
    (hp : Putted (w.alloc (.cells #[.slice none 0 0, .int .i64 0, .slice none 0 0] 103)) u D mo turns M (nmL l ++ [(n, w.heap.size)])) :
    ∃ ro', CdAt u base D (l ++ [newF n w.heap.size]) turns (some M) ro' ∧ Ext w u ro ro' := by
  have lt : ∀ b x, ro b = some x → b < w.heap.size := fun b x e => (h.bd b (by rw [e]; simp)).2
  have hs : w.heap.size + 1 ≤ u.heap.size := by simpa using hp.size
  have base_le : base ≤ w.heap.size := by have := h.bd D (by rw [h.rD]; simp); omega
  have hM : M < u.heap.size := by
    obtain ⟨es, clock, hb, _⟩ := hp.mp
    exact lt_of_block hb
  have ko : ∀ b, b < w.heap.size → b ≠ D → mo ≠ some b → u.heap[b]? = w.heap[b]? := fun b hb hD hm => by
    rw [hp.kept b (by simp; omega) hD hm, heap_alloc_old w _ hb]
  have kc : u.heap[w.heap.size]? = some (.cells #[.slice none 0 0, .int .i64 0, .slice none 0 0] 103 (0, 0)) := by
    rw [hp.kept w.heap.size (by simp) (fun e => by have := lt D D h.rD; omega) (fun e => by have := lt _ _ (h.rM _ e); omega), heap_alloc_new]
  obtain ⟨ro', hro⟩ : ∃ ro' : Nat → Option Nat, ro' = fun b => if b < w.heap.size then ro b else if b = w.heap.size then some b else if b < u.heap.size then some D else none := ⟨_, rfl⟩
  have old : ∀ b, b < w.heap.size → ro' b = ro b := fun b hb => by rw [hro]; simp only; rw [if_pos hb]
  have new : ro' w.heap.size = some w.heap.size := by rw [hro]; simp
  have oth : ∀ b, w.heap.size < b → b < u.heap.size → ro' b = some D := fun b h1 h2 => by rw [hro]; simp only; rw [if_neg (by omega), if_neg (by omega), if_pos h2]
  refine ⟨ro', ⟨hp.bl, ?_, fun f hf => ?_, (old D (lt D D h.rD)).trans h.rD, fun M' e => ?_, ?_, fun b hb => ?_⟩, ⟨hp.os, hp.tape, hp.output, by omega, old, fun b hb hr => ko b hb ?_ ?_⟩⟩
  · show MapAt u M (nmL (l ++ [newF n w.heap.size]))
    unfold nmL
    rw [List.map_append]
    exact hp.mp
  · rcases List.mem_append.1 hf with hf | hf
    · refine (h.each f hf).keep (fun b hb => ko b (lt b _ hb) ?_ ?_) (fun b hb => old b (lt b _ hb))
      · rintro rfl
        rw [h.rD] at hb
        exact h.neD hf (Option.some.inj hb).symm
      · intro e
        rw [h.rM b e] at hb
        exact h.neD hf (Option.some.inj hb).symm
    · rw [List.mem_singleton] at hf
      subst hf
      exact ⟨kc, World.ownsRow_nil _ _ _ _, World.ownsRow_nil _ _ _ _, new, fun g e => by simp [newF, Value.ownBlock] at e, fun g e => by simp [newF, Value.ownBlock] at e, by simp [newF], by simp [newF, tot], fun p hp => by simp [newF] at hp, hn⟩
  · cases e
    rcases hp.ms with e | ⟨_, e⟩
    · have := lt M D (h.rM M e)
      exact (old M this).trans (h.rM M e)
    · have e2 : w.heap.size + 1 ≤ M := by simpa using e
      exact oth M (by omega) hM
  · rw [List.map_append, List.nodup_append]
    refine ⟨h.nd, by simp, fun a ha b hb => ?_⟩
    simp only [List.map_cons, List.map_nil, List.mem_singleton] at hb
    obtain ⟨f, hf, rfl⟩ := List.mem_map.1 ha
    have := lt _ _ (h.each f hf).rc
    rw [hb]
    show f.c ≠ w.heap.size
    omega
  · by_cases h1 : b < w.heap.size
    · rw [old b h1] at hb
      have := h.bd b hb
      exact ⟨this.1, by omega⟩
    · refine ⟨by omega, ?_⟩
      by_cases h2 : b < u.heap.size
      · exact h2
      · exfalso
        rw [hro] at hb
        simp only at hb
        rw [if_neg h1, if_neg (by omega), if_neg h2] at hb
        exact hb rfl
  · rintro rfl
    rw [h.rD] at hr
    simp at hr
  · intro e
    rw [h.rM b e] at hr
    simp at hr
end Go.Proofs.YtodnnhidljfilaaGreatDoor
/-
  The program's disk: bytes behind a file's. The condition: fewer than 2^62 appends.
-/
namespace Go.Proofs.YtodnnhidljfilaaGreatDoor
open Go.RowKit

set_option maxRecDepth 100000 in
theorem append_nil (n s : ByteArray) (w : World) :
    Calls Tryz.prog 76 #[.pointer none, .string n, .string s] w fun e w' => e = .returned (.int .i64 1) ∧ w = w' := by
  go_enter Tryz.func76, Tryz.ntmps76
  go_wp2
  go_ret
  exact ⟨rfl, rfl⟩
theorem name_le {n : ByteArray} (h : nameB n = true) : n.size ≤ 64 ∧ 1 ≤ n.size := by
  unfold nameB at h
  simp at h
  omega
/-- A file that is there is laid under its name: nothing turns. -/
theorem put_found {w : World} {base D : Nat} {l : List CF} {turns : Nat} {mo : Option Nat} {ro : Nat → Option Nat} {n : ByteArray} {f : CF} (hn : n.size ≤ 64) (h : CdAt w base D l turns mo ro) (hf : lk l n = some f) :
    Calls Tryz.prog 120 #[.pointer (some ⟨D, 0, none⟩), .string n, .pointer (some ⟨f.c, 0, none⟩)] w fun e w' => e = .returned (.tuple #[]) ∧ w' = w := by
  have hm := h.mp
  cases mo with
  | none =>
    have h2 : nmL l = [] := hm
    have h3 := lookF_lk l n
    rw [h2, hf] at h3
    simp [lookF] at h3
  | some M => exact put_same w D M f.c turns (nmL l) n hn h.bl hm (by rw [lookF_lk, hf]; rfl)
set_option maxHeartbeats 1600000 in
set_option maxRecDepth 100000 in
theorem append_none (w : World) (base D : Nat) (l : List CF) (turns : Nat) (mo : Option Nat) (ro : Nat → Option Nat) (n : ByteArray) (f : CF) (hn : nameB n = true) (h : CdAt w base D l turns mo ro) (hf : lk l n = some f) :
    Calls Tryz.prog 76 #[.pointer (some ⟨D, 0, none⟩), .string n, .string ⟨#[]⟩] w fun e w' => e = .returned (.int .i64 0) ∧ w = w' := by
  have hn2 := name_le hn
  have c0 := h.cell0
  have hl := h.look (n := n) (Nat.le_trans hn2.1 (by unfold maxLen; decide))
  rw [hf] at hl
  change _ = Result.ok (Value.pointer (some ⟨f.c, 0, none⟩)) w at hl
  have hfm := (lk_mem hf).1
  have hF := h.each f hfm
  have b0 := hF.cell0
  have hm := hF.mx
  have hv : ∃ pv cv, f.bv = .slice pv f.bs.length cv := by
    rcases hF.rb.2 with ⟨e, e0⟩ | ⟨g, cap, cur, e, _⟩
    · exact ⟨none, 0, by rw [e, e0]⟩
    · exact ⟨_, _, e⟩
  obtain ⟨pv, cv, ev⟩ := hv
  rw [ev] at b0
  have hp := put_found hn2.1 h hf
  have ht : decide ((4194304 : Int) - (f.bs.length : Int) < 0) = false := by simp; omega
  clear hf h hF ev hfm
  generalize f.bs.length = L at *
  generalize f.c = c at *
  go_enter Tryz.func76, Tryz.ntmps76
  go_wp2_with (first | (go_at_call 120; refine hp.mono ?_; rintro e w1 ⟨rfl, rfl⟩) | (go_at_call 119; refine (mayBe_any n _).mono ?_; rintro e w1 ⟨rfl, rfl⟩; rw [hn]))
  go_ret
  exact ⟨rfl, rfl⟩
set_option maxHeartbeats 3200000 in
set_option maxRecDepth 100000 in
theorem append_found (w : World) (base D : Nat) (l : List CF) (turns : Nat) (mo : Option Nat) (ro : Nat → Option Nat) (n s : ByteArray) (f : CF) (hn : nameB n = true) (h : CdAt w base D l turns mo ro) (hf : lk l n = some f) (h0 : 0 < s.size) (hlen : f.bs.length + s.size ≤ 4194304) (htn : turns < 4611686018427387904) :
    Calls Tryz.prog 76 #[.pointer (some ⟨D, 0, none⟩), .string n, .string s] w fun e w' => e = .returned (.int .i64 0) ∧ ∃ b' l' ro', CdAt w' base D (setF l (appF f s (turns + 1) b' l')) (turns + 1) mo ro' ∧ Ext w w' ro ro' := by
  have hn2 := name_le hn
  have c0 := h.cell0
  have hl := h.look (n := n) (Nat.le_trans hn2.1 (by unfold maxLen; decide))
  rw [hf] at hl
  change _ = Result.ok (Value.pointer (some ⟨f.c, 0, none⟩)) w at hl
  have hfm := (lk_mem hf).1
  have hF := h.each f hfm
  have b0 := hF.cell0
  have hm := hF.mx
  have hv : ∃ pv cv, f.bv = .slice pv f.bs.length cv := by
    rcases hF.rb.2 with ⟨e, e0⟩ | ⟨g, cap, cur, e, _⟩
    · exact ⟨none, 0, by rw [e, e0]⟩
    · exact ⟨_, _, e⟩
  obtain ⟨pv, cv, ev⟩ := hv
  have HEV : Hid (f.bv = .slice pv f.bs.length cv) := ev
  rw [ev] at b0
  have hp := put_found hn2.1 h hf
  have ht : decide ((4194304 : Int) - (f.bs.length : Int) < (s.size : Int)) = false := by simp; omega
  have hs0 : s.toList.isEmpty = false := by
    rw [List.isEmpty_eq_false_iff]
    intro e
    rw [Lib.toList_data] at e
    have h1 : s.size = 0 := by rw [Lib.size_eq, e]; rfl
    omega
  obtain ⟨i0, hi, hz0, hz1, hz2⟩ := info_parts infoP
  have HU : Hid (CdAt w base D l turns mo ro) := h
  have HFM : Hid (f ∈ l) := hfm
  have bl2 := hF.cell2
  have d1 := h.cell1
  have z1 : w.frozen? ⟨D, 1, none⟩ = false := by simp [World.frozen?, h.bl]
  have lD := lt_of_block h.bl
  have lc := lt_of_block hF.bl
  have ncD := h.neD hfm
  have hrb := hF.rb
  have hbase : base ≤ w.heap.size := by have := h.bd D (by rw [h.rD]; simp); omega
  have hrb1 : ∀ x, (w.setCell ⟨D, 1, none⟩ x).ownsRow base 5 1 (.slice pv f.bs.length cv) f.bs.length (Lib.byteCells f.bs) := fun x => by
    rw [← ev]
    exact own_keep hF.rb (fun g e => heap_setCell_other _ _ _ _ (by
      show g ≠ D
      rintro rfl
      exact own_ne hF.rb h.bl (by decide) e))
  obtain ⟨pl, nl, cl, el⟩ := own_form hF.rl
  have hrl := hF.rl
  have nlD := own_ne hF.rl h.bl (by decide)
  have nlc := own_ne hF.rl hF.bl (by decide)
  have hpl := hF.pl
  rw [el] at bl2
  have HEL : Hid (f.lv = .slice pl nl cl) := el
  clear hf h hF ev hfm el hrb
  go_enter Tryz.func76, Tryz.ntmps76
  go_wp2_with (first | (at_builtin; refine append_str rfl (.tmp 51) (.tmp 52) rfl base (.slice pv f.bs.length cv) f.bs rfl (hrb1 _) s rfl h0 (by omega) (by simpa using hbase) ?_) | (go_at_call 120; refine hp.mono ?_; rintro e w1 ⟨rfl, rfl⟩) | (go_at_call 119; refine (mayBe_any n _).mono ?_; rintro e w1 ⟨rfl, rfl⟩; rw [hn]))
  intro v2 w2 hown2 hg2 ha2
  rw [← HEV.out] at hg2 ha2
  obtain ⟨d2, c2, k2⟩ := append_mid HU.out HFM.out hg2
  obtain ⟨p2, n2, q2, e2⟩ := own_form hown2.out
  rw [HEV.out, HEL.out] at c2
  have s2 : w1.heap.size ≤ w2.heap.size := by simpa using hg2.size
  have y0 : w2.cell? ⟨f.c, 0, none⟩ = some (.slice pv f.bs.length cv) := by simp [World.cell?, c2]
  have y2 : w2.cell? ⟨f.c, 2, none⟩ = some (.slice pl nl cl) := by simp [World.cell?, c2]
  have yz : w2.frozen? ⟨f.c, 0, none⟩ = false := by simp [World.frozen?, c2]
  have yd : w2.cell? ⟨D, 1, none⟩ = some (.int .i64 ((turns : Int) + 1)) := by simp [World.cell?, d2]
  subst e2
  have HO2 : Row2 w2 base (.slice p2 n2 q2) f.bs s := hown2
  clear hown2
  have nlb : ∀ g, f.lv.ownBlock = some g → some g ≠ f.bv.ownBlock := fun g e1 e2 => by
    have hFu := HU.out.each f HFM.out
    rcases hFu.rl.2 with ⟨e, _⟩ | ⟨g', cap, cur, e, _, hb, _⟩
    · rw [e] at e1; simp [Value.ownBlock] at e1
    · rw [e] at e1
      simp only [Value.ownBlock, Option.some.injEq] at e1
      subst e1
      exact own_ne hFu.rb hb (by decide) e2.symm
  have HL3 : ∀ x, (w2.setCell ⟨f.c, 0, none⟩ x).ownsRow base 100 3 (.slice pl nl cl) f.ps.length (pcsL f.c f.ps) := fun x => by
    rw [← HEL.out]
    refine own_keep hrl (fun g e => ?_)
    have hgl := (hrl.lt g e).2
    rw [heap_setCell_other _ _ _ _ (by
      show g ≠ f.c
      rintro rfl
      exact nlc e)]
    exact k2 g hgl (by
      rintro rfl
      exact nlD e) (nlb g e)
  go_wp2
  obtain ⟨w3, hw3⟩ : ∃ w3, w3 = w2.setCell ⟨f.c, 0, none⟩ (.slice p2 n2 q2) := ⟨_, rfl⟩
  have H3 : Hid (w3 = w2.setCell ⟨f.c, 0, none⟩ (.slice p2 n2 q2)) := hw3
  have r2 : w3.cell? ⟨f.c, 2, none⟩ = some (.slice pl nl cl) := by
    rw [hw3]
    simp [World.cell?, heap_setCell_same w2 f.c 0 _ _ _ c2]
  have rz : w3.frozen? ⟨f.c, 2, none⟩ = false := by
    rw [hw3]
    simp [World.frozen?, heap_setCell_same w2 f.c 0 _ _ _ c2]
  have rd : w3.cell? ⟨D, 1, none⟩ = some (.int .i64 ((turns : Int) + 1)) := by
    rw [hw3]
    simp [World.cell?, heap_setCell_other w2 ⟨f.c, 0, none⟩ D _ ncD.symm, d2]
  have ho3 := HL3 (.slice p2 n2 q2)
  have s3 : w3.heap.size = w2.heap.size := by rw [hw3]; simp
  rw [← hw3] at ho3 ⊢
  clear hw3 HL3 k2 hrl y0 y2 yz yd c2 d2 nlb hrb1
  have l3c : f.c < w3.heap.size := by omega
  have l3D : D < w3.heap.size := by omega
  have hb3 : base ≤ w3.heap.size := by omega
  rw [HEL.out] at nlc nlD
  have S3 : Hid (w3.heap.size = w2.heap.size) := s3
  have eD : w3.heap.size ≠ D := by omega
  have ec : w3.heap.size ≠ f.c := by omega
  have ra : ∀ o, (w3.alloc o).cell? ⟨D, 1, none⟩ = some (.int .i64 ((turns : Int) + 1)) := fun o => by rw [World.cell?_of_block (heap_alloc_old w3 o l3D)]; exact rd
  have rb : ∀ o, (w3.alloc o).cell? ⟨f.c, 2, none⟩ = some (.slice pl nl cl) := fun o => by rw [World.cell?_of_block (heap_alloc_old w3 o l3c)]; exact r2
  have rf : ∀ o, (w3.alloc o).frozen? ⟨f.c, 2, none⟩ = false := fun o => by rw [World.frozen?_of_block (heap_alloc_old w3 o l3c)]; exact rz
  clear s3
  go_region_law
    ((refine step_append_lies _ (by rfl) _ _ _ (by rfl) base 100 i0 _ 3 24 Tryz.underlying96 hi hz0 hz1 hz2 rfl (by omega) (.slice pl nl cl) f.ps.length (pcsL f.c f.ps) (by rfl) ((ho3.alloc _).drew)
        ⟨w3.heap.size, 0, none⟩ 1 1 [.int .i64 ((turns : Int) + 1), .int .i64 (s.size : Int), .pointer (some ⟨f.c, 0, none⟩)] (by rfl) (by rfl) (World.news_of_block (cs := #[.int .i64 ((turns : Int) + 1), .int .i64 (s.size : Int), .pointer (some ⟨f.c, 0, none⟩)]) (t := 100) (fr := (0, 0)) (heap_alloc_new w3 _)) (by simp [Value.oneCell'])
        (by omega) (by unfold maxLen; omega) (by omega) (by simp; omega) (w3.heap.size + 1) (by simp) ?_; intro gg cap w4 hown4 hgrow hat hlt; have rz4 := (hgrow.frozen_far ⟨f.c, 2, none⟩ (by simp; omega) (Ne.symm nlc)).trans (rf _); have rc4 := (hgrow.cell_far ⟨f.c, 2, none⟩ (by simp; omega) (Ne.symm nlc)).trans (rb _); have rd4 := (hgrow.cell_far ⟨D, 1, none⟩ (by simp; omega) (Ne.symm nlD)).trans (ra _)))
  all_goals go_wp2
  all_goals go_ret
  all_goals exact ⟨rfl, append_fin HU.out HFM.out h0 hlen hg2 ha2 HO2.out H3.out HEL.out hgrow hat hlt hown4⟩
end Go.Proofs.YtodnnhidljfilaaGreatDoor
/-
  The program's disk: bytes into a new file. The condition: fewer than 2^62 appends.
-/
namespace Go.Proofs.YtodnnhidljfilaaGreatDoor
open Go.RowKit

/-- A new file is laid under its name. -/
theorem put_add {w : World} {base D : Nat} {l : List CF} {turns : Nat} {mo : Option Nat} {ro : Nat → Option Nat} {n : ByteArray} (hn : n.size ≤ 64) (h : CdAt w base D l turns mo ro) (hf : lk l n = none) :
    Calls Tryz.prog 120 #[.pointer (some ⟨D, 0, none⟩), .string n, .pointer (some ⟨w.heap.size, 0, none⟩)] (w.alloc (.cells #[.slice none 0 0, .int .i64 0, .slice none 0 0] 103)) fun e u => e = .returned (.tuple #[]) ∧
      ∃ M, Putted (w.alloc (.cells #[.slice none 0 0, .int .i64 0, .slice none 0 0] 103)) u D mo turns M (nmL l ++ [(n, w.heap.size)]) := by
  have hm := h.mp
  have hD : (w.alloc (.cells #[.slice none 0 0, .int .i64 0, .slice none 0 0] 103)).heap[D]? = _ := (heap_alloc_old w _ (lt_of_block h.bl)).trans h.bl
  have hl : lookF (nmL l) n = none := by rw [lookF_lk, hf]; rfl
  cases mo with
  | none =>
    have h2 : nmL l = [] := hm
    rw [h2]
    exact (put_first _ D w.heap.size turns n hn hD).mono fun e u ⟨h1, h2⟩ => ⟨h1, _, h2⟩
  | some M =>
    have hlt : M < w.heap.size := by obtain ⟨es, clock, hb, _⟩ := hm; exact lt_of_block hb
    have e : putK (nmL l) n w.heap.size = nmL l ++ [(n, w.heap.size)] := by unfold putK; rw [if_pos hl]
    rw [← e]
    exact (put_newN _ D M w.heap.size turns (nmL l) n hn hD (MapAt.kept hm (heap_alloc_old w _ hlt)) hl).mono fun e u ⟨h1, h2⟩ => ⟨h1, _, h2⟩
set_option maxHeartbeats 1600000 in
set_option maxRecDepth 100000 in
theorem append_noneN (w : World) (base D : Nat) (l : List CF) (turns : Nat) (mo : Option Nat) (ro : Nat → Option Nat) (n : ByteArray) (hn : nameB n = true) (h : CdAt w base D l turns mo ro) (hf : lk l n = none) :
    Calls Tryz.prog 76 #[.pointer (some ⟨D, 0, none⟩), .string n, .string ⟨#[]⟩] w fun e w' => e = .returned (.int .i64 0) ∧ ∃ M ro', CdAt w' base D (l ++ [newF n w.heap.size]) turns (some M) ro' ∧ Ext w w' ro ro' := by
  have hn2 := name_le hn
  have c0 := h.cell0
  have hl := h.look (n := n) (Nat.le_trans hn2.1 (by unfold maxLen; decide))
  rw [hf] at hl
  change _ = Result.ok (Value.pointer none) w at hl
  have hp := put_add hn2.1 h hf
  have HH : Hid (CdAt w base D l turns mo ro) := h
  clear hf h
  go_enter Tryz.func76, Tryz.ntmps76
  go_wp2_with (first | (go_at_call 120; refine hp.mono ?_; rintro e u ⟨rfl, M, hput⟩) | (go_at_call 119; refine (mayBe_any n _).mono ?_; rintro e w1 ⟨rfl, hw⟩; rw [hn, ← hw]; clear hw))
  go_ret
  exact ⟨rfl, M, CdAt.added HH.out hn2.1 hput⟩
set_option maxHeartbeats 3200000 in
set_option maxRecDepth 100000 in
theorem append_new (w : World) (base D : Nat) (l : List CF) (turns : Nat) (mo : Option Nat) (ro : Nat → Option Nat) (n s : ByteArray) (hn : nameB n = true) (h : CdAt w base D l turns mo ro) (hf : lk l n = none) (h0 : 0 < s.size) (hlen : s.size ≤ 4194304) (htn : turns < 4611686018427387904) :
    Calls Tryz.prog 76 #[.pointer (some ⟨D, 0, none⟩), .string n, .string s] w fun e w' => e = .returned (.int .i64 0) ∧ ∃ M b' l' ro', CdAt w' base D (setF (l ++ [newF n w.heap.size]) (appF (newF n w.heap.size) s (turns + 1) b' l')) (turns + 1) (some M) ro' ∧ Ext w w' ro ro' := by
  have hn2 := name_le hn
  have c0 := h.cell0
  have hl := h.look (n := n) (Nat.le_trans hn2.1 (by unfold maxLen; decide))
  rw [hf] at hl
  change _ = Result.ok (Value.pointer none) w at hl
  have hp := put_add hn2.1 h hf
  have HH : Hid (CdAt w base D l turns mo ro) := h
  have ht : decide ((4194304 : Int) < (s.size : Int)) = false := by simp; omega
  have hs0 : s.toList.isEmpty = false := by
    rw [List.isEmpty_eq_false_iff]
    intro e
    rw [Lib.toList_data] at e
    have h1 : s.size = 0 := by rw [Lib.size_eq, e]; rfl
    omega
  obtain ⟨i0, hi, hz0, hz1, hz2⟩ := info_parts infoP
  have hrb1 : ∀ u : World, u.ownsRow base 5 1 (.slice none 0 0) ([] : List UInt8).length (Lib.byteCells []) := fun u => World.ownsRow_nil _ _ _ _
  clear hf h
  go_enter Tryz.func76, Tryz.ntmps76
  go_wp2_with (first | (at_builtin; refine append_str rfl (.tmp 51) (.tmp 52) rfl base (.slice none 0 0) [] rfl (hrb1 _) s rfl h0 (by simp; omega) (by simpa using hbase) ?_) | (go_at_call 120; refine hp.mono ?_; rintro e u ⟨rfl, M, hput⟩; obtain ⟨ro1, hcd, hex⟩ := CdAt.added HH.out hn2.1 hput; have HU : Hid (CdAt u base D (l ++ [newF n w.heap.size]) turns (some M) ro1) := hcd; have HX : Hid (Ext w u ro ro1) := hex; have HFM : Hid (newF n w.heap.size ∈ l ++ [newF n w.heap.size]) := List.mem_append_right _ (List.mem_singleton.2 rfl); have hF := hcd.each _ HFM.out; have b0 : u.cell? ⟨w.heap.size, 0, none⟩ = some (.slice none 0 0) := hF.cell0; have bl2 : u.cell? ⟨w.heap.size, 2, none⟩ = some (.slice none 0 0) := hF.cell2; have d1 := hcd.cell1; have z1 : u.frozen? ⟨D, 1, none⟩ = false := (by simp [World.frozen?, hcd.bl]); have lD := lt_of_block hcd.bl; have lc : w.heap.size < u.heap.size := lt_of_block hF.bl; have ncD : w.heap.size ≠ D := hcd.neD HFM.out; have hbase : base ≤ u.heap.size := (by have := hcd.bd D (by rw [hcd.rD]; simp); omega); clear hF hex hcd hput) | (go_at_call 119; refine (mayBe_any n _).mono ?_; rintro e w1 ⟨rfl, hw⟩; rw [hn, ← hw]; clear hw))
  intro v2 w2 hown2 hg2 ha2
  obtain ⟨d2, c2, k2⟩ := append_mid (f := newF n w.heap.size) HU.out HFM.out hg2
  obtain ⟨p2, n2, q2, e2⟩ := own_form hown2.out
  change w2.heap[w.heap.size]? = some (.cells #[.slice none 0 0, .int .i64 0, .slice none 0 0] 103 (0, 0)) at c2
  have s2 : u.heap.size ≤ w2.heap.size := by simpa using hg2.size
  have y0 : w2.cell? ⟨w.heap.size, 0, none⟩ = some (.slice none 0 0) := by simp [World.cell?, c2]
  have y2 : w2.cell? ⟨w.heap.size, 2, none⟩ = some (.slice none 0 0) := by simp [World.cell?, c2]
  have yz : w2.frozen? ⟨w.heap.size, 0, none⟩ = false := by simp [World.frozen?, c2]
  have yd : w2.cell? ⟨D, 1, none⟩ = some (.int .i64 ((turns : Int) + 1)) := by simp [World.cell?, d2]
  subst e2
  have HO2 : Row2 w2 base (.slice p2 n2 q2) [] s := hown2
  clear hown2
  go_wp2
  obtain ⟨w3, hw3⟩ : ∃ w3, w3 = w2.setCell ⟨w.heap.size, 0, none⟩ (.slice p2 n2 q2) := ⟨_, rfl⟩
  have H3 : Hid (w3 = w2.setCell ⟨w.heap.size, 0, none⟩ (.slice p2 n2 q2)) := hw3
  have r2 : w3.cell? ⟨w.heap.size, 2, none⟩ = some (.slice none 0 0) := by
    rw [hw3]
    simp [World.cell?, heap_setCell_same w2 w.heap.size 0 _ _ _ c2]
  have rz : w3.frozen? ⟨w.heap.size, 2, none⟩ = false := by
    rw [hw3]
    simp [World.frozen?, heap_setCell_same w2 w.heap.size 0 _ _ _ c2]
  have rd : w3.cell? ⟨D, 1, none⟩ = some (.int .i64 ((turns : Int) + 1)) := by
    rw [hw3]
    simp [World.cell?, heap_setCell_other w2 ⟨w.heap.size, 0, none⟩ D _ ncD.symm, d2]
  have s3 : w3.heap.size = w2.heap.size := by rw [hw3]; simp
  rw [← hw3]
  clear hw3 k2 y0 y2 yz yd c2 d2
  have l3c : w.heap.size < w3.heap.size := by omega
  have l3D : D < w3.heap.size := by omega
  have hb3 : base ≤ w3.heap.size := by omega
  have nlc : (Value.slice none 0 0).ownBlock ≠ some w.heap.size := by simp [Value.ownBlock]
  have nlD : (Value.slice none 0 0).ownBlock ≠ some D := by simp [Value.ownBlock]
  have S3 : Hid (w3.heap.size = w2.heap.size) := s3
  have eD : w3.heap.size ≠ D := by omega
  have ec : w3.heap.size ≠ w.heap.size := by omega
  have ra : ∀ o, (w3.alloc o).cell? ⟨D, 1, none⟩ = some (.int .i64 ((turns : Int) + 1)) := fun o => by rw [World.cell?_of_block (heap_alloc_old w3 o l3D)]; exact rd
  have rb : ∀ o, (w3.alloc o).cell? ⟨w.heap.size, 2, none⟩ = some (.slice none 0 0) := fun o => by rw [World.cell?_of_block (heap_alloc_old w3 o l3c)]; exact r2
  have rf : ∀ o, (w3.alloc o).frozen? ⟨w.heap.size, 2, none⟩ = false := fun o => by rw [World.frozen?_of_block (heap_alloc_old w3 o l3c)]; exact rz
  clear s3
  go_region_law
    ((refine step_append_lies _ (by rfl) _ _ _ (by rfl) base 100 i0 _ 3 24 Tryz.underlying96 hi hz0 hz1 hz2 rfl (by omega) (.slice none 0 0) 0 [] (by rfl) (World.ownsRow_nil _ _ _ _)
        ⟨w3.heap.size, 0, none⟩ 1 1 [.int .i64 ((turns : Int) + 1), .int .i64 (s.size : Int), .pointer (some ⟨w.heap.size, 0, none⟩)] (by rfl) (by rfl) (World.news_of_block (cs := #[.int .i64 ((turns : Int) + 1), .int .i64 (s.size : Int), .pointer (some ⟨w.heap.size, 0, none⟩)]) (t := 100) (fr := (0, 0)) (heap_alloc_new w3 _)) (by simp [Value.oneCell'])
        (by omega) (by unfold maxLen; omega) (by omega) (by simp; omega) (w3.heap.size + 1) (by simp) ?_; intro gg cap w4 hown4 hgrow hat hlt; have rz4 := (hgrow.frozen_far ⟨w.heap.size, 2, none⟩ (by simp; omega) (Ne.symm nlc)).trans (rf _); have rc4 := (hgrow.cell_far ⟨w.heap.size, 2, none⟩ (by simp; omega) (Ne.symm nlc)).trans (rb _); have rd4 := (hgrow.cell_far ⟨D, 1, none⟩ (by simp; omega) (Ne.symm nlD)).trans (ra _)))
  all_goals go_wp2
  all_goals go_ret
  all_goals (
    obtain ⟨b', l', ro', r1, r2⟩ := append_fin (f := newF n w.heap.size) HU.out HFM.out h0 (by simpa [newF] using hlen) hg2 ha2 HO2.out H3.out rfl hgrow hat hlt hown4
    exact ⟨rfl, M, b', l', ro', r1, HX.out.trans r2⟩)
end Go.Proofs.YtodnnhidljfilaaGreatDoor
/-
  The program's disk: a file removed, a file renamed. The condition: a name that is looked for has no more bytes than a string may.
-/
namespace Go.Proofs.YtodnnhidljfilaaGreatDoor
open Go.RowKit

def delF (l : List CF) (n : ByteArray) : List CF := l.filter fun f => !decide (f.name = n)
theorem delF_nm (l : List CF) (n : ByteArray) : nmL (delF l n) = (nmL l).filter fun p => !decide (p.1 = n) := by
  unfold nmL delF
  rw [List.filter_map]
  rfl
theorem delF_mem {l : List CF} {n : ByteArray} {f : CF} (h : f ∈ delF l n) : f ∈ l ∧ f.name ≠ n := by
  unfold delF at h
  rw [List.mem_filter] at h
  exact ⟨h.1, by simpa using h.2⟩
theorem CdAt.dropped {w w' : World} {base D : Nat} {l : List CF} {turns M : Nat} {ro : Nat → Option Nat} {n : ByteArray} (h : CdAt w base D l turns (some M) ro) (hm : MapAt w' M ((nmL l).filter fun p => !decide (p.1 = n))) (hg : w.grownBy w' (some M)) :
    CdAt w' base D (delF l n) turns (some M) ro ∧ Ext w w' ro ro := by
  have lt : ∀ b x, ro b = some x → b < w.heap.size := fun b x e => (h.bd b (by rw [e]; simp)).2
  have hMD := h.neM rfl
  refine ⟨⟨(hg.block D (lt D D h.rD) (by simpa using hMD.symm)).trans h.bl, by rw [delF_nm]; exact hm, fun f hf => ?_, h.rD, h.rM, ?_, fun b hb => ⟨(h.bd b hb).1, Nat.lt_of_lt_of_le (h.bd b hb).2 hg.size⟩⟩, hg.os, hg.tape, hg.output, hg.size, fun _ _ => rfl, fun b hb hr => hg.block b hb ?_⟩
  · have hfl := (delF_mem hf).1
    refine (h.each f hfl).keep (fun b hb => hg.block b (lt b _ hb) ?_) (fun _ _ => rfl)
    intro e
    simp only [Option.some.injEq] at e
    subst e
    rw [h.rM b rfl] at hb
    exact h.neD hfl (Option.some.inj hb).symm
  · exact List.Nodup.sublist (List.Sublist.map _ List.filter_sublist) h.nd
  · intro e
    simp only [Option.some.injEq] at e
    subst e
    rw [h.rM b rfl] at hr
    simp at hr
theorem CdAt.isMap {w : World} {base D : Nat} {l : List CF} {turns : Nat} {mo : Option Nat} {ro : Nat → Option Nat} {n : ByteArray} {f : CF} (h : CdAt w base D l turns mo ro) (hf : lk l n = some f) : ∃ M, mo = some M := by
  cases mo with
  | none =>
    have h2 : nmL l = [] := h.mp
    have h3 := lookF_lk l n
    rw [h2, hf] at h3
    simp [lookF] at h3
  | some M => exact ⟨M, rfl⟩

theorem remove_no (w : World) (base D : Nat) (l : List CF) (turns : Nat) (mo : Option Nat) (ro : Nat → Option Nat) (n : ByteArray) (hn : n.size ≤ maxLen) (h : CdAt w base D l turns mo ro) (hf : lk l n = none) :
    Calls Tryz.prog 87 #[.pointer (some ⟨D, 0, none⟩), .string n] w fun e w' => e = .returned (.int .i64 5) ∧ w = w' := by
  have hc := find_no w base D l turns mo ro n hn h hf
  clear hf h
  go_enter Tryz.func87, Tryz.ntmps87
  go_wp2_with (go_at_call 114; refine hc.mono ?_; rintro e w1 ⟨rfl, rfl⟩)
  go_ret
  exact ⟨rfl, rfl⟩
set_option maxRecDepth 100000 in
theorem remove_yes (w : World) (base D : Nat) (l : List CF) (turns : Nat) (mo : Option Nat) (ro : Nat → Option Nat) (n : ByteArray) (f : CF) (hn : n.size ≤ maxLen) (h : CdAt w base D l turns mo ro) (hf : lk l n = some f) :
    Calls Tryz.prog 87 #[.pointer (some ⟨D, 0, none⟩), .string n] w fun e w' => e = .returned (.int .i64 0) ∧ CdAt w' base D (delF l n) turns mo ro ∧ Ext w w' ro ro := by
  obtain ⟨M, rfl⟩ := h.isMap hf
  have hc := find_yes w base D l turns (some M) ro n f hn h hf
  have c0 := h.cell0
  have hm : MapAt w M (nmL l) := h.mp
  have HH : Hid (CdAt w base D l turns (some M) ro) := h
  obtain ⟨w2, hrun, hm2, hg2, hs2⟩ := del_map hm hn 0
  clear hf h
  go_enter Tryz.func87, Tryz.ntmps87
  go_wp2_with (first | (go_at_call 114; refine hc.mono ?_; rintro e w1 ⟨rfl, rfl⟩))
  go_ret
  exact ⟨rfl, CdAt.dropped HH.out hm2 hg2⟩

/-- Rename. -/
def nameF (f : CF) (n : ByteArray) : CF := { f with name := n }
def renF (l : List CF) (f : CF) (n : ByteArray) : List CF := if lk l n = none then l ++ [nameF f n] else l.map fun g => if g.name = n then nameF f n else g
theorem renF_nm (l : List CF) (f : CF) (n : ByteArray) : nmL (renF l f n) = putK (nmL l) n f.c := by
  unfold renF putK
  rw [lookF_lk]
  by_cases h : lk l n = none
  · rw [if_pos h, if_pos (by rw [h]; rfl)]
    unfold nmL
    rw [List.map_append]
    rfl
  · rw [if_neg h, if_neg (by rw [Option.map_eq_none_iff]; exact h)]
    unfold nmL
    rw [List.map_map, List.map_map]
    refine List.map_congr_left fun g _ => ?_
    simp only [Function.comp]
    by_cases e : g.name = n
    · rw [if_pos e, if_pos e]
      rfl
    · rw [if_neg e, if_neg e]
theorem renF_mem {l : List CF} {f g : CF} {n : ByteArray} (h : g ∈ renF l f n) : g = nameF f n ∨ g ∈ l := by
  unfold renF at h
  by_cases e : lk l n = none
  · rw [if_pos e, List.mem_append, List.mem_singleton] at h
    exact h.symm
  · rw [if_neg e] at h
    obtain ⟨x, hx, rfl⟩ := List.mem_map.1 h
    by_cases e2 : x.name = n
    · rw [if_pos e2]
      exact Or.inl rfl
    · rw [if_neg e2]
      exact Or.inr hx
theorem renF_nd {l : List CF} {f : CF} {n : ByteArray} (hn : (l.map (·.c)).Nodup) (hnm : (l.map (·.name)).Nodup) (hf : ∀ g ∈ l, g.c ≠ f.c) : ((renF l f n).map (·.c)).Nodup := by
  unfold renF
  by_cases e : lk l n = none
  · rw [if_pos e, List.map_append, List.nodup_append]
    refine ⟨hn, by simp, fun a ha b hb => ?_⟩
    simp only [List.map_cons, List.map_nil, List.mem_singleton] at hb
    obtain ⟨g, hg, rfl⟩ := List.mem_map.1 ha
    rw [hb]
    exact hf g hg
  · rw [if_neg e]
    clear e
    induction l with
    | nil => simp
    | cons a l ih =>
      rw [List.map_cons, List.nodup_cons] at hn hnm
      rw [List.map_cons, List.map_cons, List.nodup_cons]
      refine ⟨?_, ih hn.2 hnm.2 (fun g hg => hf g (by simp [hg]))⟩
      intro hm
      obtain ⟨y, hy, ey⟩ := List.mem_map.1 hm
      obtain ⟨x, hx, rfl⟩ := List.mem_map.1 hy
      by_cases e1 : x.name = n
      · rw [if_pos e1] at ey
        by_cases e2 : a.name = n
        · exact hnm.1 (by rw [e2, ← e1]; exact List.mem_map.2 ⟨x, hx, rfl⟩)
        · rw [if_neg e2] at ey
          exact hf a (by simp) ey.symm
      · rw [if_neg e1] at ey
        by_cases e2 : a.name = n
        · rw [if_pos e2] at ey
          exact hf x (by simp [hx]) ey
        · rw [if_neg e2] at ey
          exact hn.1 (by rw [← ey]; exact List.mem_map.2 ⟨x, hx, rfl⟩)
theorem CdAt.renamed {w w' : World} {base D : Nat} {l : List CF} {turns M M' : Nat} {ro : Nat → Option Nat} {f : CF} {n : ByteArray} (h : CdAt w base D l turns (some M) ro) (hF : CfAt w base ro f) (hfD : f.c ≠ D) (hfl : ∀ g ∈ l, g.c ≠ f.c) (hn : n.size ≤ 64)
    (hp : Putted w w' D (some M) turns M' (putK (nmL l) n f.c)) : CdAt w' base D (renF l f n) turns (some M) ro ∧ Ext w w' ro ro := by
  have lt : ∀ b x, ro b = some x → b < w.heap.size := fun b x e => (h.bd b (by rw [e]; simp)).2
  have eM : M' = M := by
    rcases hp.ms with e | ⟨e, _⟩
    · exact (Option.some.inj e).symm
    · simp at e
  subst eM
  have ko : ∀ b x, ro b = some x → x ≠ D → w'.heap[b]? = w.heap[b]? := fun b x hb hx => hp.kept b (lt b x hb) (by
    rintro rfl
    rw [h.rD] at hb
    exact hx (Option.some.inj hb).symm) (by
    intro e
    rw [h.rM b e] at hb
    exact hx (Option.some.inj hb).symm)
  refine ⟨⟨hp.bl, by rw [renF_nm]; exact hp.mp, fun g hg => ?_, h.rD, h.rM, renF_nd h.nd h.names hfl, fun b hb => ⟨(h.bd b hb).1, Nat.lt_of_lt_of_le (h.bd b hb).2 hp.size⟩⟩, hp.os, hp.tape, hp.output, hp.size, fun _ _ => rfl, fun b hb hr => hp.kept b hb ?_ ?_⟩
  · rcases renF_mem hg with rfl | hg
    · have k := hF.keep (w' := w') (ro' := ro) (fun b hb => ko b _ hb hfD) (fun _ _ => rfl)
      exact ⟨k.bl, k.rb, k.rl, k.rc, k.ob, k.ol, k.mx, k.sm, k.ps0, hn⟩
    · exact (h.each g hg).keep (fun b hb => ko b _ hb (h.neD hg)) (fun _ _ => rfl)
  · rintro rfl
    rw [h.rD] at hr
    simp at hr
  · intro e
    rw [h.rM b e] at hr
    simp at hr
theorem CfAt.cells {w : World} {base : Nat} {ro : Nat → Option Nat} {f : CF} (h : CfAt w base ro f) : Cells w f.c := ⟨_, _, h.bl⟩
/-- A file that has no name now is laid under one. -/
theorem put_ren {w : World} {base D : Nat} {l : List CF} {turns M : Nat} {ro : Nat → Option Nat} {f : CF} {n : ByteArray} (hn : n.size ≤ 64) (h : CdAt w base D l turns (some M) ro) (hF : CfAt w base ro f) (hfD : f.c ≠ D) (hfl : ∀ g ∈ l, g.c ≠ f.c) :
    Calls Tryz.prog 120 #[.pointer (some ⟨D, 0, none⟩), .string n, .pointer (some ⟨f.c, 0, none⟩)] w fun e w' => e = .returned (.tuple #[]) ∧ CdAt w' base D (renF l f n) turns (some M) ro ∧ Ext w w' ro ro := by
  cases hl : lk l n with
  | none => exact (put_newN w D M f.c turns (nmL l) n hn h.bl h.mp (by rw [lookF_lk, hl]; rfl)).mono fun e w' ⟨h1, h2⟩ => ⟨h1, h.renamed hF hfD hfl hn h2⟩
  | some g => exact (put_newS w D M f.c turns (nmL l) n hn h.bl h.mp g.c (by rw [lookF_lk, hl]; rfl) (hfl g (lk_mem hl).1) hF.cells (h.each g (lk_mem hl).1).cells).mono fun e w' ⟨h1, h2⟩ => ⟨h1, h.renamed hF hfD hfl hn h2⟩
set_option maxRecDepth 100000 in
theorem rename_yes (w : World) (base D : Nat) (l : List CF) (turns : Nat) (mo : Option Nat) (ro : Nat → Option Nat) (n m : ByteArray) (f : CF) (hm : nameB m = true) (hn : n.size ≤ maxLen) (h : CdAt w base D l turns mo ro) (hf : lk l n = some f) :
    Calls Tryz.prog 85 #[.pointer (some ⟨D, 0, none⟩), .string n, .string m] w fun e w' => e = .returned (.int .i64 0) ∧ CdAt w' base D (renF (delF l n) f m) turns mo ro ∧ Ext w w' ro ro := by
  obtain ⟨M, rfl⟩ := h.isMap hf
  have hc := find_yes w base D l turns (some M) ro n f hn h hf
  have c0 := h.cell0
  have hmp : MapAt w M (nmL l) := h.mp
  have hm2 := (name_le hm).1
  obtain ⟨w2, hrun, hmm, hgg, hs2⟩ := del_map hmp hn 0
  have HC : Hid (CdAt w2 base D (delF l n) turns (some M) ro) := (CdAt.dropped h hmm hgg).1
  have HX : Hid (Ext w w2 ro ro) := (CdAt.dropped h hmm hgg).2
  have hfm := (lk_mem hf).1
  have HFD : Hid (f.c ≠ D) := h.neD hfm
  have HFF : Hid (CfAt w2 base ro f) := (h.each f hfm).keep (fun b hb => hgg.block b ((h.bd b (by rw [hb]; simp)).2) (fun e => h.neD hfm (by rw [h.rM b e.symm] at hb; exact (Option.some.inj hb).symm))) (fun _ _ => rfl)
  have HFL : Hid (∀ g ∈ delF l n, g.c ≠ f.c) := fun g hg e => (delF_mem hg).2 (by rw [nodup_at h.nd hfm (delF_mem hg).1 e]; exact (lk_mem hf).2)
  clear hf h hfm hmm hgg hs2 hmp
  go_enter Tryz.func85, Tryz.ntmps85
  go_wp2_with (first
    | (go_at_call 120; refine (put_ren hm2 HC.out HFF.out HFD.out HFL.out).mono ?_; rintro e w3 ⟨rfl, hcd, hex⟩; have HC3 : Hid _ := hcd; have HX3 : Hid _ := hex; clear hcd hex)
    | (go_at_call 114; refine hc.mono ?_; rintro e w1 ⟨rfl, rfl⟩) | (go_at_call 119; refine (mayBe_any m _).mono ?_; rintro e w1 ⟨rfl, rfl⟩; rw [hm]))
  go_ret
  exact ⟨rfl, HC3.out, HX.out.trans HX3.out⟩
end Go.Proofs.YtodnnhidljfilaaGreatDoor
