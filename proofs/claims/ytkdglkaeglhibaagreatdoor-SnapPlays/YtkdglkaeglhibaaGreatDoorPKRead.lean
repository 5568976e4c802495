/-
  The program's disk: a new one; a file found; read; asked how many of its bytes are not sure; made sure. The condition: a name that is looked for has no more bytes than a string may.
-/
import Derived.Test.YtkdglkaeglhibaaGreatDoorPKMem
import Derived.Lib.BufferRead
namespace Go.Proofs.YtkdglkaeglhibaaGreatDoor
open Go.RowKit

theorem mayBe_any (s : ByteArray) (w : World) :
    Calls Tryz.prog 28 #[.string s] w fun e w' => e = .returned (.bool (nameB s)) ∧ w = w' := by
  unfold nameB
  by_cases h : 1 ≤ s.size
  · have h1 : decide ((1 : Int) ≤ (s.size : Int)) = true := by simp; omega
    have e : decide (1 ≤ s.size) = true := by simpa using h
    rw [e, Bool.true_and]
    clear h e
    go_enter Tryz.func28, Tryz.ntmps28
    go_wp2
    go_ret
    exact ⟨congrArg (fun b => Ending.returned (.bool b)) (decide_eq_decide.2 (by omega)), rfl⟩
  · have h1 : decide ((1 : Int) ≤ (s.size : Int)) = false := by simp; omega
    have e : decide (1 ≤ s.size) = false := by simpa using h
    rw [e, Bool.false_and]
    clear h e
    go_enter Tryz.func28, Tryz.ntmps28
    go_wp2
    go_ret
    exact ⟨rfl, rfl⟩

/-- New. -/
theorem knew_any (w : World) : Calls Tryz.prog 4 #[] w fun e w' => e = .returned (.pointer (some ⟨w.heap.size, 0, none⟩)) ∧ w' = w.alloc (.cells #[.map none, .int .i64 0] 48) := by
  go_enter Tryz.func4, Tryz.ntmps4
  go_wp2
  go_ret
  exact ⟨rfl, rfl⟩
theorem CdAt.new (w : World) : CdAt (w.alloc (.cells #[.map none, .int .i64 0] 48)) w.heap.size w.heap.size [] 0 none (fun b => if b = w.heap.size then some b else none) := by
  refine ⟨(MapKept.heap_alloc w _).1, rfl, fun f hf => by simp at hf, by simp, fun M e => by simp at e, List.nodup_nil, fun b hb => ?_⟩
  by_cases e : b = w.heap.size
  · subst e
    exact ⟨Nat.le_refl _, by simp⟩
  · rw [if_neg e] at hb
    exact absurd rfl hb

theorem find_yes (w : World) (base D : Nat) (l : List CF) (turns : Nat) (mo : Option Nat) (ro : Nat → Option Nat) (n : ByteArray) (f : CF) (hn : n.size ≤ maxLen) (h : CdAt w base D l turns mo ro) (hf : lk l n = some f) :
    Calls Tryz.prog 49 #[.pointer (some ⟨D, 0, none⟩), .string n] w fun e w' => e = .returned (.tuple #[.pointer (some ⟨f.c, 0, none⟩), .int .i64 0]) ∧ w = w' := by
  have c0 := h.cell0
  have hl := h.look hn
  rw [hf] at hl
  change _ = Result.ok (Value.pointer (some ⟨f.c, 0, none⟩)) w at hl
  clear hf h
  go_enter Tryz.func49, Tryz.ntmps49
  go_wp2
  go_ret2
  exact ⟨rfl, rfl⟩
theorem find_no (w : World) (base D : Nat) (l : List CF) (turns : Nat) (mo : Option Nat) (ro : Nat → Option Nat) (n : ByteArray) (hn : n.size ≤ maxLen) (h : CdAt w base D l turns mo ro) (hf : lk l n = none) :
    Calls Tryz.prog 49 #[.pointer (some ⟨D, 0, none⟩), .string n] w fun e w' => e = .returned (.tuple #[.pointer none, .int .i64 5]) ∧ w = w' := by
  have c0 := h.cell0
  have hl := h.look hn
  rw [hf] at hl
  change _ = Result.ok (Value.pointer none) w at hl
  clear hf h
  go_enter Tryz.func49, Tryz.ntmps49
  go_wp2
  go_ret2
  exact ⟨rfl, rfl⟩

/-- Read. -/
def textOf (bs : List UInt8) : ByteArray := ⟨bs.toArray⟩
theorem own_bytes {base : Nat} {w : World} {v : Value} {bs : List UInt8} (hown : w.ownsRow base 5 1 v bs.length (Lib.byteCells bs)) : (convert 63 9 v).run Tryz.prog w = .ok (.string (textOf bs)) w := by
  rcases hown.2 with ⟨rfl, h0⟩ | ⟨g, cap, cur, rfl, _, hg, _, _, _, htk⟩
  · have : bs = [] := List.eq_nil_of_length_eq_zero h0
    subst this
    exact Lib.run_convert_nil_bytes w 63 9 5 0 Tryz.underlying63 Tryz.underlying5 Tryz.underlying9
  · exact run_convert_bytes_back w 63 9 5 ⟨g, 0, none⟩ cap bs Tryz.underlying63 Tryz.underlying5 Tryz.underlying9 (Lib.bytes_of_row hg (by simpa using htk))
theorem read_yes (w : World) (base D : Nat) (l : List CF) (turns : Nat) (mo : Option Nat) (ro : Nat → Option Nat) (n : ByteArray) (f : CF) (hn : n.size ≤ maxLen) (h : CdAt w base D l turns mo ro) (hf : lk l n = some f) :
    Calls Tryz.prog 56 #[.pointer (some ⟨D, 0, none⟩), .string n] w fun e w' => e = .returned (.tuple #[.string (textOf f.bs), .int .i64 0]) ∧ w = w' := by
  have hc := find_yes w base D l turns mo ro n f hn h hf
  have hF := h.each f (lk_mem hf).1
  have c0 := hF.cell0
  have cv := own_bytes hF.rb
  clear hf h hF
  generalize textOf f.bs = T at cv ⊢
  generalize f.bv = B at c0 cv
  generalize f.c = c at hc c0
  go_enter Tryz.func56, Tryz.ntmps56
  go_wp2_with (go_at_call 49; refine hc.mono ?_; rintro e w1 ⟨rfl, rfl⟩)
  go_ret2
  exact ⟨rfl, rfl⟩
theorem read_no (w : World) (base D : Nat) (l : List CF) (turns : Nat) (mo : Option Nat) (ro : Nat → Option Nat) (n : ByteArray) (hn : n.size ≤ maxLen) (h : CdAt w base D l turns mo ro) (hf : lk l n = none) :
    Calls Tryz.prog 56 #[.pointer (some ⟨D, 0, none⟩), .string n] w fun e w' => e = .returned (.tuple #[.string ⟨#[]⟩, .int .i64 5]) ∧ w = w' := by
  have hc := find_no w base D l turns mo ro n hn h hf
  clear hf h
  go_enter Tryz.func56, Tryz.ntmps56
  go_wp2_with (go_at_call 49; refine hc.mono ?_; rintro e w1 ⟨rfl, rfl⟩)
  go_ret2
  exact ⟨rfl, rfl⟩

def syncF (f : CF) : CF := { f with sure := f.bs.length, lv := .slice none 0 0, ps := [] }
theorem sync_end {w : World} {base D : Nat} {l : List CF} {turns : Nat} {mo : Option Nat} {ro : Nat → Option Nat} {f : CF} (h : CdAt w base D l turns mo ro) (hf : f ∈ l) :
    CdAt ((w.setCell ⟨f.c, 1, none⟩ (.int .i64 (f.bs.length : Int))).setCell ⟨f.c, 2, none⟩ (.slice none 0 0)) base D (setF l (syncF f)) turns mo ro ∧ Ext w ((w.setCell ⟨f.c, 1, none⟩ (.int .i64 (f.bs.length : Int))).setCell ⟨f.c, 2, none⟩ (.slice none 0 0)) ro ro := by
  have hF := h.each f hf
  have b1 := heap_setCell_same w f.c 1 _ _ (.int .i64 (f.bs.length : Int)) hF.bl
  have b2 := heap_setCell_same _ f.c 2 _ _ (.slice none 0 0) b1
  have bo : ∀ b, b ≠ f.c → ((w.setCell ⟨f.c, 1, none⟩ (.int .i64 (f.bs.length : Int))).setCell ⟨f.c, 2, none⟩ (.slice none 0 0)).heap[b]? = w.heap[b]? := fun b hb => by
    rw [heap_setCell_other _ _ _ _ (by simpa using hb), heap_setCell_other _ _ _ _ (by simpa using hb)]
  have nc : ∀ g, f.bv.ownBlock = some g → g ≠ f.c := fun g e1 e2 => by
    rcases hF.rb.2 with ⟨e, e0⟩ | ⟨g', cap, cur, e, _, hb, _⟩
    · rw [e] at e1; simp [Value.ownBlock] at e1
    · rw [e] at e1
      simp only [Value.ownBlock, Option.some.injEq] at e1
      rw [e1, e2, hF.bl] at hb
      simp at hb
  refine ⟨h.upd (f' := syncF f) hf rfl rfl ⟨b2, own_keep hF.rb (fun g e => bo g (nc g e)), World.ownsRow_nil _ _ _ _, hF.rc, hF.ob, fun g e => by simp [syncF, Value.ownBlock] at e, hF.mx, by simp [syncF, tot], fun p hp => by simp [syncF] at hp, hF.sz⟩ ?_ (fun b _ _ hr => bo b ?_) (fun _ _ => rfl) (fun b hb => ?_), ?_⟩
  · rw [bo D (fun e => h.neD hf e.symm)]
    exact h.bl
  · rintro rfl
    exact hr hF.rc
  · have := h.bd b hb
    simpa using this
  · refine ⟨rfl, rfl, rfl, by simp, fun _ _ => rfl, fun b _ hr => bo b ?_⟩
    rintro rfl
    rw [hF.rc] at hr
    simp at hr
theorem sync_yes (w : World) (base D : Nat) (l : List CF) (turns : Nat) (mo : Option Nat) (ro : Nat → Option Nat) (n : ByteArray) (f : CF) (hn : n.size ≤ maxLen) (h : CdAt w base D l turns mo ro) (hf : lk l n = some f) :
    Calls Tryz.prog 48 #[.pointer (some ⟨D, 0, none⟩), .string n] w fun e w' => e = .returned (.int .i64 0) ∧ CdAt w' base D (setF l (syncF f)) turns mo ro ∧ Ext w w' ro ro := by
  have hc := find_yes w base D l turns mo ro n f hn h hf
  have hF := h.each f (lk_mem hf).1
  have HE : Hid _ := sync_end h (lk_mem hf).1
  have c0 := hF.cell0
  have z1 : w.frozen? ⟨f.c, 1, none⟩ = false := by simp [World.frozen?, hF.bl]
  have z2 : w.frozen? ⟨f.c, 2, none⟩ = false := by simp [World.frozen?, hF.bl]
  have c1 := hF.cell1
  have c2 := hF.cell2
  have hv : ∃ pv cv, f.bv = .slice pv f.bs.length cv := by
    rcases hF.rb.2 with ⟨e, e0⟩ | ⟨g, cap, cur, e, _⟩
    · exact ⟨none, 0, by rw [e, e0]⟩
    · exact ⟨_, _, e⟩
  obtain ⟨pv, cv, ev⟩ := hv
  obtain ⟨pl, nl, cl, el⟩ := own_form hF.rl
  rw [ev] at c0
  rw [el] at c2
  clear hf h hF ev el
  go_enter Tryz.func48, Tryz.ntmps48
  go_wp2_with (go_at_call 49; refine hc.mono ?_; rintro e w1 ⟨rfl, rfl⟩)
  go_ret
  exact ⟨rfl, HE.out⟩
end Go.Proofs.YtkdglkaeglhibaaGreatDoor
