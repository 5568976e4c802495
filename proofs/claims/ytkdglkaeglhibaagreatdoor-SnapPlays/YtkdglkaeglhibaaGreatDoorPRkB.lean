/-
  The document's disk (package latchkeyref05): a file read, asked how many of its bytes are not sure. The condition: a file has at most 2^40 bytes.
-/
import Derived.Test.YtkdglkaeglhibaaGreatDoorPRkA
import Derived.Test.YtkdglkaeglhibaaGreatDoorPKApp
namespace Go.Proofs.YtkdglkaeglhibaaGreatDoor
open Go.RowKit

theorem take_snoc {α : Type} (bs : List α) (k : Nat) (hk : k < bs.length) : bs.take (k + 1) = bs.take k ++ [bs[k]] := List.take_succ_eq_append_getElem hk
/-- What is to be had of a file: the cells that lead to its bytes. -/
structure FileAt (w : World) (base D g j len cap : Nat) (pv : Option Addr) (cv : Nat) (bs : List (UInt8 × Nat)) : Prop where
  c0 : w.cell? ⟨D, 0, none⟩ = some (.slice (some ⟨g, 0, none⟩) len cap)
  c1 : w.cell? ⟨g, j * 2 + 1, none⟩ = some (.slice pv bs.length cv)
  row : w.ownsRow base 70 2 (.slice pv bs.length cv) bs.length (bsL bs)
  lD : D < w.heap.size
  lg : g < w.heap.size
theorem DkAt.fileAt {w : World} {base D : Nat} {l : List (Fl × Value)} {clock : Nat} {v : Value} (h : DkAt w base D l clock v) {j : Nat} (hj : j < l.length) : ∃ g cap pv cv, v = .slice (some ⟨g, 0, none⟩) l.length cap ∧ l[j].2 = .slice pv l[j].1.bs.length cv ∧ FileAt w base D g j l.length cap pv cv l[j].1.bs := by
  obtain ⟨g, cap, rfl, hg, hz⟩ := h.file hj
  have hm : l[j] ∈ l := List.getElem_mem hj
  have hrow := h.each _ hm
  have hv : ∃ pv cv, l[j].2 = .slice pv l[j].1.bs.length cv := by
    rcases hrow.2 with ⟨e, e0⟩ | ⟨g, cap, cur, e, _⟩
    · exact ⟨none, 0, by rw [e, e0]⟩
    · exact ⟨_, _, e⟩
  obtain ⟨pv, cv, ev⟩ := hv
  rw [ev] at hz hrow
  exact ⟨g, cap, pv, cv, rfl, ev, h.cell0, hz, hrow, lt_of_block h.bl, hg⟩
theorem FileAt.below {w w' : World} {base D g j len cap : Nat} {pv : Option Addr} {cv : Nat} {bs : List (UInt8 × Nat)} (h : FileAt w base D g j len cap pv cv bs) (b : Below w.heap.size w w') : FileAt w' base D g j len cap pv cv bs :=
  ⟨(b.cell (p := ⟨D, 0, none⟩) h.lD).trans h.c0, (b.cell (p := ⟨g, j * 2 + 1, none⟩) h.lg).trans h.c1, own_keep h.row (fun q e => b.block q ((h.row.lt q e).2)), Nat.lt_of_lt_of_le h.lD b.size, Nat.lt_of_lt_of_le h.lg b.size⟩
theorem FileAt.byte {w : World} {base D g j len cap : Nat} {pv : Option Addr} {cv : Nat} {bs : List (UInt8 × Nat)} (h : FileAt w base D g j len cap pv cv bs) {k : Nat} (hk : k < bs.length) : ∃ q, pv = some ⟨q, 0, none⟩ ∧ w.cell? ⟨q, k * 2, none⟩ = some (.int .u8 (bs[k].1.toNat : Int)) ∧ w.cell? ⟨q, k * 2 + 1, none⟩ = some (.int .i64 (bs[k].2 : Int)) := by
  rcases h.row.2 with ⟨e, e0⟩ | ⟨q, cap2, cur, e, _⟩
  · omega
  simp only [Value.slice.injEq] at e
  obtain ⟨rfl, _, rfl⟩ := e
  have a0 := World.ownsRow.cellAt h.row (k * 2) (by omega)
  have a1 := World.ownsRow.cellAt h.row (k * 2 + 1) (by omega)
  obtain ⟨b0, b1⟩ := bsL_at bs k hk
  exact ⟨q, rfl, a0.trans b0, a1.trans b1⟩

theorem rread_no (w : World) (base D : Nat) (l : List (Fl × Value)) (clock : Nat) (v : Value) (n : ByteArray) (hl : l.length ≤ 100000) (h : DkAt w base D l clock v) (hf : findI l n = -1) :
    Calls Tryz.prog 35 #[.pointer (some ⟨D, 0, none⟩), .string n] w fun e w' => e = .returned (.tuple #[.string ⟨#[]⟩, .int .i64 5]) ∧ w = w' := by
  have hc := find_any w base D l clock v n (by omega) h
  rw [hf] at hc
  clear h
  go_enter Tryz.func35, Tryz.ntmps35
  go_wp2_with (go_at_call 31; refine hc.mono ?_; rintro e w1 ⟨rfl, rfl⟩)
  go_ret2
  exact ⟨rfl, rfl⟩
/-- A file's bytes alone. -/
def bytesR (bs : List (UInt8 × Nat)) : List UInt8 := bs.map (·.1)
set_option maxHeartbeats 3200000 in
set_option maxRecDepth 100000 in
theorem rread_yes (w : World) (base D : Nat) (l : List (Fl × Value)) (clock : Nat) (v : Value) (n : ByteArray) (hl : l.length ≤ 100000) (h : DkAt w base D l clock v) (j : Nat) (hj : j < l.length) (hf : findI l n = (j : Int)) (hb : l[j].1.bs.length ≤ 1099511627776) :
    Calls Tryz.prog 35 #[.pointer (some ⟨D, 0, none⟩), .string n] w fun e w' => e = .returned (.tuple #[.string (textOf (bytesR l[j].1.bs)), .int .i64 0]) ∧ Below w.heap.size w w' := by
  have hc := find_any w base D l clock v n (by omega) h
  rw [hf] at hc
  obtain ⟨g, cap, pv, cv, rfl, _, F⟩ := h.fileAt hj
  have HF : Hid (FileAt w base D g j l.length cap pv cv l[j].1.bs) := F
  have hj0 : (0 : Int) ≤ (j : Int) := by omega
  have hj1 : (j : Int) < (l.length : Int) := by omega
  have hj2 : decide ((j : Int) < 0) = false := by simp
  obtain ⟨i0, hi, hz0, hz1, hz2⟩ := info_parts infoB
  generalize l[j].1.bs = bs at *
  clear h hf F
  go_enter Tryz.func35, Tryz.ntmps35
  go_wp2_with (go_at_call 31; refine hc.mono ?_; rintro e w1 ⟨rfl, rfl⟩)
  go_loopw [7, 8] (fun u i wr => ∃ k : Nat, k ≤ bs.length ∧ i = .int .i64 k ∧ wr.ownsRow w.heap.size 5 1 u k (Lib.byteCells (bytesR (bs.take k))) ∧ Below w.heap.size w wr) (fun _ i _ => bs.length - (intOf i).toNat)
  case atStart => exact ⟨0, Nat.zero_le _, rfl, World.ownsRow_nil _ _ _ _, Below.refl _ _⟩
  case round =>
    obtain ⟨k, hk, rfl, hown, bel⟩ := hrel
    have F := HF.out.below bel
    have c0 := F.c0
    have c1 := F.c1
    obtain ⟨pu, nu, cu, rfl⟩ := own_form hown
    by_cases hkl : k < bs.length
    · obtain ⟨q, rfl, y0, _⟩ := F.byte hkl
      have hk0 : (0 : Int) ≤ (k : Int) := by omega
      have hk1 : (k : Int) < (bs.length : Int) := by omega
      have HB : Hid (Lib.byteCells (bytesR (bs.take (k + 1))) = Lib.byteCells (bytesR (bs.take k)) ++ [.int .u8 (bs[k].1.toNat : Int)]) := by
        show _ = _
        rw [take_snoc bs k hkl]
        unfold bytesR Lib.byteCells
        rw [List.map_append, List.map_append]
        rfl
      have hbs := bel.size
      clear F
      generalize (bs[k].1.toNat : Int) = X at *
      go_wp2_with (at_builtin; refine wpList_append_own _ rfl (.tmp 27) (.tmp 40) 63 rfl w.heap.size 5 i0 _ 1 1 Tryz.underlying63 hi hz0 hz1 hz2 rfl (by decide) (.slice pu nu cu) k _ rfl (hown.alloc _) ⟨wr.heap.size, 0, none⟩ 1 1 [.int .u8 X] rfl rfl (World.news_of_block (cs := #[.int .u8 X]) (t := 5) (fr := (0, 0)) (heap_alloc_new wr _)) (by simp [Value.oneCell']) (by unfold maxLen; omega) (by omega) (by simp; omega) ?_; intro v4 w4 hrow4 hg4 _)
      have b4 : Below w.heap.size w w4 := (bel.alloc bel.size _).grown hg4 (by simp; omega) (fun q hq => (hown.lt q hq).1)
      exact ⟨⟨k + 1, hkl, by simp, by rw [HB.out]; exact hrow4, b4⟩, by simp [intOf]; omega⟩
    · have hke : k = bs.length := by omega
      subst hke
      have hk2 : decide ((bs.length : Int) < (bs.length : Int)) = false := by simp
      rw [List.take_length] at hown
      have hlb : (bytesR bs).length = bs.length := by simp [bytesR]
      have cv2 := own_bytes (bs := bytesR bs) (by rw [hlb]; exact hown)
      obtain ⟨T, hT⟩ : ∃ T, T = textOf (bytesR bs) := ⟨_, rfl⟩
      rw [← hT] at cv2
      have HT : Hid (T = textOf (bytesR bs)) := hT
      clear hown hT
      go_wp2
      go_ret2
      exact ⟨by rw [← HT.out]; rfl, bel⟩
end Go.Proofs.YtkdglkaeglhibaaGreatDoor
