/-
  The document's disk (package latchkeyref05): a file read, asked how many of its bytes are not sure. The condition: a file has at most 2^40 bytes.
-/
import Derived.Test.YtpbkpaendhpbfaaRkA
import Derived.Test.YtpbkpaendhpbfaaKApp
namespace Go.Proofs.Ytpbkpaendhpbfaa
open Go.RowKit

/-- How many are not sure. -/
def unsR (bs : List (UInt8 × Nat)) : Nat := (bs.filter fun b => decide (0 < b.2)).length
theorem unsR_snoc (bs : List (UInt8 × Nat)) (b : UInt8 × Nat) : unsR (bs ++ [b]) = unsR bs + (if 0 < b.2 then 1 else 0) := by
  unfold unsR
  rw [List.filter_append, List.length_append]
  by_cases h : 0 < b.2
  · simp [h]
  · simp [h]
theorem unsR_le (bs : List (UInt8 × Nat)) : unsR bs ≤ bs.length := List.length_filter_le _ _
theorem take_snoc {α : Type} (bs : List α) (k : Nat) (hk : k < bs.length) : bs.take (k + 1) = bs.take k ++ [bs[k]] := List.take_succ_eq_append_getElem hk
/-- What is to be had of a file: the cells that lead to its bytes. -/
structure FileAt (w : World) (base D g j len cap : Nat) (pv : Option Addr) (cv : Nat) (bs : List (UInt8 × Nat)) : Prop where
  c0 : w.cell? ⟨D, 0, none⟩ = some (.slice (some ⟨g, 0, none⟩) len cap)
  c1 : w.cell? ⟨g, j * 2 + 1, none⟩ = some (.slice pv bs.length cv)
  row : w.ownsRow base 86 2 (.slice pv bs.length cv) bs.length (bsL bs)
  lD : D < w.heap.size
  lg : g < w.heap.size
theorem DkAt.fileAt {w : World} {base D : Nat} {l : List (Fl × Value)} {clock : Nat} {v : Value} (h : DkAt w base D l clock v) {j : Nat} (hj : j < l.length) : ∃ g cap pv cv, v = .slice (some ⟨g, 0, none⟩) l.length cap ∧ l[j].2 = .slice pv l[j].1.bs.length cv ∧ FileAt w base D g j l.length cap pv cv l[j].1.bs := by
  obtain ⟨g, cap, rfl, hg, hz⟩ := h.file hj
  have hm : l[j] ∈ l := List.getElem_mem hj
  have hrow := h.each _ hm
  have hv : ∃ pv cv, l[j].2 = .slice pv l[j].1.bs.length cv := by
    rcases hrow.2 with ⟨e, e0⟩ | ⟨g, cap, cur, e, _⟩
    · exact ⟨none, 0, by rw [e, e0]⟩
    · exact ⟨_, _, e⟩
  obtain ⟨pv, cv, ev⟩ := hv
  rw [ev] at hz hrow
  exact ⟨g, cap, pv, cv, rfl, ev, h.cell0, hz, hrow, lt_of_block h.bl, hg⟩
theorem FileAt.below {w w' : World} {base D g j len cap : Nat} {pv : Option Addr} {cv : Nat} {bs : List (UInt8 × Nat)} (h : FileAt w base D g j len cap pv cv bs) (b : Below w.heap.size w w') : FileAt w' base D g j len cap pv cv bs :=
  ⟨(b.cell (p := ⟨D, 0, none⟩) h.lD).trans h.c0, (b.cell (p := ⟨g, j * 2 + 1, none⟩) h.lg).trans h.c1, own_keep h.row (fun q e => b.block q ((h.row.lt q e).2)), Nat.lt_of_lt_of_le h.lD b.size, Nat.lt_of_lt_of_le h.lg b.size⟩
theorem FileAt.byte {w : World} {base D g j len cap : Nat} {pv : Option Addr} {cv : Nat} {bs : List (UInt8 × Nat)} (h : FileAt w base D g j len cap pv cv bs) {k : Nat} (hk : k < bs.length) : ∃ q, pv = some ⟨q, 0, none⟩ ∧ w.cell? ⟨q, k * 2, none⟩ = some (.int .u8 (bs[k].1.toNat : Int)) ∧ w.cell? ⟨q, k * 2 + 1, none⟩ = some (.int .i64 (bs[k].2 : Int)) := by
  rcases h.row.2 with ⟨e, e0⟩ | ⟨q, cap2, cur, e, _⟩
  · omega
  simp only [Value.slice.injEq] at e
  obtain ⟨rfl, _, rfl⟩ := e
  have a0 := World.ownsRow.cellAt h.row (k * 2) (by omega)
  have a1 := World.ownsRow.cellAt h.row (k * 2 + 1) (by omega)
  obtain ⟨b0, b1⟩ := bsL_at bs k hk
  exact ⟨q, rfl, a0.trans b0, a1.trans b1⟩

theorem runsynced_no (w : World) (base D : Nat) (l : List (Fl × Value)) (clock : Nat) (v : Value) (n : ByteArray) (hl : l.length ≤ 100000) (h : DkAt w base D l clock v) (hf : findI l n = -1) :
    Calls Try.prog 38 #[.pointer (some ⟨D, 0, none⟩), .string n] w fun e w' => e = .returned (.int .i64 0) ∧ w = w' := by
  have hc := find_any w base D l clock v n (by omega) h
  rw [hf] at hc
  clear h
  go_enter Try.func38, Try.ntmps38
  go_wp2_with (go_at_call 47; refine hc.mono ?_; rintro e w1 ⟨rfl, rfl⟩)
  refine wp_loop_rounds 1 ?_
  rw [rounds_succ]
  go_wp2
  go_ret
  exact ⟨rfl, rfl⟩
set_option maxHeartbeats 3200000 in
set_option maxRecDepth 100000 in
theorem runsynced_yes (w : World) (base D : Nat) (l : List (Fl × Value)) (clock : Nat) (v : Value) (n : ByteArray) (hl : l.length ≤ 100000) (h : DkAt w base D l clock v) (j : Nat) (hj : j < l.length) (hf : findI l n = (j : Int)) (hb : l[j].1.bs.length ≤ 1099511627776) :
    Calls Try.prog 38 #[.pointer (some ⟨D, 0, none⟩), .string n] w fun e w' => e = .returned (.int .i64 (unsR l[j].1.bs : Int)) ∧ w = w' := by
  have hc := find_any w base D l clock v n (by omega) h
  rw [hf] at hc
  obtain ⟨g, cap, pv, cv, rfl, _, F⟩ := h.fileAt hj
  have HF : Hid (FileAt w base D g j l.length cap pv cv l[j].1.bs) := F
  have c0 := F.c0
  have c1 := F.c1
  have hj0 : (0 : Int) ≤ (j : Int) := by omega
  have hj1 : (j : Int) < (l.length : Int) := by omega
  generalize l[j].1.bs = bs at *
  clear h hf F
  go_enter Try.func38, Try.ntmps38
  go_wp2_with (go_at_call 47; refine hc.mono ?_; rintro e w1 ⟨rfl, rfl⟩)
  go_loop [6, 7] (fun s i => ∃ k : Nat, k ≤ bs.length ∧ i = .int .i64 k ∧ s = .int .i64 (unsR (bs.take k) : Nat)) (fun _ i => bs.length - (intOf i).toNat)
  case atStart => exact ⟨0, Nat.zero_le _, rfl, by simp [unsR]⟩
  case round =>
    obtain ⟨k, hk, rfl, rfl⟩ := hrel
    by_cases hkl : k < bs.length
    · obtain ⟨q, rfl, _, y1⟩ := HF.out.byte hkl
      have hsn := unsR_snoc (bs.take k) bs[k]
      rw [← take_snoc bs k hkl] at hsn
      have hle := unsR_le (bs.take k)
      rw [List.length_take] at hle
      have hk0 : (0 : Int) ≤ (k : Int) := by omega
      have hk1 : (k : Int) < (bs.length : Int) := by omega
      have hk2 : decide ((k : Int) < (bs.length : Int)) = true := by simp; omega
      have HN : Hid (unsR (bs.take (k + 1)) = unsR (bs.take k) + (if 0 < bs[k].2 then 1 else 0)) := hsn
      clear hsn
      by_cases hX : 0 < bs[k].2
      · have hX1 : decide ((0 : Int) < (bs[k].2 : Int)) = true := by simp; omega
        have hN : unsR (bs.take (k + 1)) = unsR (bs.take k) + 1 := by rw [HN.out, if_pos hX]
        have HN2 : Hid (unsR (bs.take (k + 1)) = unsR (bs.take k) + 1) := hN
        clear hN HN
        generalize bs[k].2 = X at *
        generalize unsR (bs.take k) = U at *
        go_wp2
        go_round
        case rel => exact ⟨k + 1, hkl, by go_num, by rw [HN2.out]; go_num⟩
        case measure => simp [intOf]; omega
      · have hX1 : decide ((0 : Int) < (bs[k].2 : Int)) = false := by simp; omega
        have hN : unsR (bs.take (k + 1)) = unsR (bs.take k) := by rw [HN.out, if_neg hX]; omega
        have HN2 : Hid (unsR (bs.take (k + 1)) = unsR (bs.take k)) := hN
        clear hN HN
        generalize bs[k].2 = X at *
        generalize unsR (bs.take k) = U at *
        go_wp2
        go_round
        case rel => exact ⟨k + 1, hkl, by go_num, by rw [HN2.out]⟩
        case measure => simp [intOf]; omega
    · have hke : k = bs.length := by omega
      subst hke
      have hk2 : decide ((bs.length : Int) < (bs.length : Int)) = false := by simp
      go_wp2
      go_ret
      exact ⟨rfl, rfl⟩
theorem rread_no (w : World) (base D : Nat) (l : List (Fl × Value)) (clock : Nat) (v : Value) (n : ByteArray) (hl : l.length ≤ 100000) (h : DkAt w base D l clock v) (hf : findI l n = -1) :
    Calls Try.prog 30 #[.pointer (some ⟨D, 0, none⟩), .string n] w fun e w' => e = .returned (.tuple #[.string ⟨#[]⟩, .int .i64 5]) ∧ w = w' := by
  have hc := find_any w base D l clock v n (by omega) h
  rw [hf] at hc
  clear h
  go_enter Try.func30, Try.ntmps30
  go_wp2_with (go_at_call 47; refine hc.mono ?_; rintro e w1 ⟨rfl, rfl⟩)
  go_ret2
  exact ⟨rfl, rfl⟩
/-- A file's bytes alone. -/
def bytesR (bs : List (UInt8 × Nat)) : List UInt8 := bs.map (·.1)
set_option maxHeartbeats 3200000 in
set_option maxRecDepth 100000 in
theorem rread_yes (w : World) (base D : Nat) (l : List (Fl × Value)) (clock : Nat) (v : Value) (n : ByteArray) (hl : l.length ≤ 100000) (h : DkAt w base D l clock v) (j : Nat) (hj : j < l.length) (hf : findI l n = (j : Int)) (hb : l[j].1.bs.length ≤ 1099511627776) :
    Calls Try.prog 30 #[.pointer (some ⟨D, 0, none⟩), .string n] w fun e w' => e = .returned (.tuple #[.string (textOf (bytesR l[j].1.bs)), .int .i64 0]) ∧ Below w.heap.size w w' := by
  have hc := find_any w base D l clock v n (by omega) h
  rw [hf] at hc
  obtain ⟨g, cap, pv, cv, rfl, _, F⟩ := h.fileAt hj
  have HF : Hid (FileAt w base D g j l.length cap pv cv l[j].1.bs) := F
  have hj0 : (0 : Int) ≤ (j : Int) := by omega
  have hj1 : (j : Int) < (l.length : Int) := by omega
  have hj2 : decide ((j : Int) < 0) = false := by simp
  obtain ⟨i0, hi, hz0, hz1, hz2⟩ := info_parts infoB
  generalize l[j].1.bs = bs at *
  clear h hf F
  go_enter Try.func30, Try.ntmps30
  go_wp2_with (go_at_call 47; refine hc.mono ?_; rintro e w1 ⟨rfl, rfl⟩)
  go_loopw [7, 8] (fun u i wr => ∃ k : Nat, k ≤ bs.length ∧ i = .int .i64 k ∧ wr.ownsRow w.heap.size 5 1 u k (Lib.byteCells (bytesR (bs.take k))) ∧ Below w.heap.size w wr) (fun _ i _ => bs.length - (intOf i).toNat)
  case atStart => exact ⟨0, Nat.zero_le _, rfl, World.ownsRow_nil _ _ _ _, Below.refl _ _⟩
  case round =>
    obtain ⟨k, hk, rfl, hown, bel⟩ := hrel
    have F := HF.out.below bel
    have c0 := F.c0
    have c1 := F.c1
    obtain ⟨pu, nu, cu, rfl⟩ := own_form hown
    by_cases hkl : k < bs.length
    · obtain ⟨q, rfl, y0, _⟩ := F.byte hkl
      have hk0 : (0 : Int) ≤ (k : Int) := by omega
      have hk1 : (k : Int) < (bs.length : Int) := by omega
      have HB : Hid (Lib.byteCells (bytesR (bs.take (k + 1))) = Lib.byteCells (bytesR (bs.take k)) ++ [.int .u8 (bs[k].1.toNat : Int)]) := by
        show _ = _
        rw [take_snoc bs k hkl]
        unfold bytesR Lib.byteCells
        rw [List.map_append, List.map_append]
        rfl
      have hbs := bel.size
      clear F
      generalize (bs[k].1.toNat : Int) = X at *
      go_wp2_with (at_builtin; refine wpList_append_own _ rfl (.tmp 27) (.tmp 40) 74 rfl w.heap.size 5 i0 _ 1 1 Try.underlying74 hi hz0 hz1 hz2 rfl (by decide) (.slice pu nu cu) k _ rfl (hown.alloc _) ⟨wr.heap.size, 0, none⟩ 1 1 [.int .u8 X] rfl rfl (World.news_of_block (cs := #[.int .u8 X]) (t := 5) (fr := (0, 0)) (heap_alloc_new wr _)) (by simp [Value.oneCell']) (by unfold maxLen; omega) (by omega) (by simp; omega) ?_; intro v4 w4 hrow4 hg4 _)
      have b4 : Below w.heap.size w w4 := (bel.alloc bel.size _).grown hg4 (by simp; omega) (fun q hq => (hown.lt q hq).1)
      exact ⟨⟨k + 1, hkl, by simp, by rw [HB.out]; exact hrow4, b4⟩, by simp [intOf]; omega⟩
    · have hke : k = bs.length := by omega
      subst hke
      have hk2 : decide ((bs.length : Int) < (bs.length : Int)) = false := by simp
      rw [List.take_length] at hown
      have hlb : (bytesR bs).length = bs.length := by simp [bytesR]
      have cv2 := own_bytes (bs := bytesR bs) (by rw [hlb]; exact hown)
      obtain ⟨T, hT⟩ : ∃ T, T = textOf (bytesR bs) := ⟨_, rfl⟩
      rw [← hT] at cv2
      have HT : Hid (T = textOf (bytesR bs)) := hT
      clear hown hT
      go_wp2
      go_ret2
      exact ⟨by rw [← HT.out]; rfl, bel⟩
end Go.Proofs.Ytpbkpaendhpbfaa
