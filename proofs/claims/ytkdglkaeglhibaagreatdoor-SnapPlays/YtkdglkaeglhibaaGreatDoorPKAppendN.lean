/-
  The program's disk: bytes into a new file. The condition: fewer than 2^62 appends.
-/
import Derived.Test.YtkdglkaeglhibaaGreatDoorPKAppend
namespace Go.Proofs.YtkdglkaeglhibaaGreatDoor
open Go.RowKit

/-- A new file is laid under its name. -/
theorem put_add {w : World} {base D : Nat} {l : List CF} {turns : Nat} {mo : Option Nat} {ro : Nat → Option Nat} {n : ByteArray} (hn : n.size ≤ 64) (h : CdAt w base D l turns mo ro) (hf : lk l n = none) :
    Calls Tryz.prog 29 #[.pointer (some ⟨D, 0, none⟩), .string n, .pointer (some ⟨w.heap.size, 0, none⟩)] (w.alloc (.cells #[.slice none 0 0, .int .i64 0, .slice none 0 0] 65)) fun e u => e = .returned (.tuple #[]) ∧
      ∃ M, Putted (w.alloc (.cells #[.slice none 0 0, .int .i64 0, .slice none 0 0] 65)) u D mo turns M (nmL l ++ [(n, w.heap.size)]) := by
  have hm := h.mp
  have hD : (w.alloc (.cells #[.slice none 0 0, .int .i64 0, .slice none 0 0] 65)).heap[D]? = _ := (heap_alloc_old w _ (lt_of_block h.bl)).trans h.bl
  have hl : lookF (nmL l) n = none := by rw [lookF_lk, hf]; rfl
  cases mo with
  | none =>
    have h2 : nmL l = [] := hm
    rw [h2]
    exact (put_first _ D w.heap.size turns n hn hD).mono fun e u ⟨h1, h2⟩ => ⟨h1, _, h2⟩
  | some M =>
    have hlt : M < w.heap.size := by obtain ⟨es, clock, hb, _⟩ := hm; exact lt_of_block hb
    have e : putK (nmL l) n w.heap.size = nmL l ++ [(n, w.heap.size)] := by unfold putK; rw [if_pos hl]
    rw [← e]
    exact (put_newN _ D M w.heap.size turns (nmL l) n hn hD (MapAt.kept hm (heap_alloc_old w _ hlt)) hl).mono fun e u ⟨h1, h2⟩ => ⟨h1, _, h2⟩
set_option maxHeartbeats 1600000 in
set_option maxRecDepth 100000 in
theorem append_noneN (w : World) (base D : Nat) (l : List CF) (turns : Nat) (mo : Option Nat) (ro : Nat → Option Nat) (n : ByteArray) (hn : nameB n = true) (h : CdAt w base D l turns mo ro) (hf : lk l n = none) :
    Calls Tryz.prog 9 #[.pointer (some ⟨D, 0, none⟩), .string n, .string ⟨#[]⟩] w fun e w' => e = .returned (.int .i64 0) ∧ ∃ M ro', CdAt w' base D (l ++ [newF n w.heap.size]) turns (some M) ro' ∧ Ext w w' ro ro' := by
  have hn2 := name_le hn
  have c0 := h.cell0
  have hl := h.look (n := n) (Nat.le_trans hn2.1 (by unfold maxLen; decide))
  rw [hf] at hl
  change _ = Result.ok (Value.pointer none) w at hl
  have hp := put_add hn2.1 h hf
  have HH : Hid (CdAt w base D l turns mo ro) := h
  clear hf h
  go_enter Tryz.func9, Tryz.ntmps9
  go_wp2_with (first | (go_at_call 29; refine hp.mono ?_; rintro e u ⟨rfl, M, hput⟩) | (go_at_call 28; refine (mayBe_any n _).mono ?_; rintro e w1 ⟨rfl, hw⟩; rw [hn, ← hw]; clear hw))
  go_ret
  exact ⟨rfl, M, CdAt.added HH.out hn2.1 hput⟩
set_option maxHeartbeats 3200000 in
set_option maxRecDepth 100000 in
theorem append_new (w : World) (base D : Nat) (l : List CF) (turns : Nat) (mo : Option Nat) (ro : Nat → Option Nat) (n s : ByteArray) (hn : nameB n = true) (h : CdAt w base D l turns mo ro) (hf : lk l n = none) (h0 : 0 < s.size) (hlen : s.size ≤ 4194304) (htn : turns < 4611686018427387904) :
    Calls Tryz.prog 9 #[.pointer (some ⟨D, 0, none⟩), .string n, .string s] w fun e w' => e = .returned (.int .i64 0) ∧ ∃ M b' l' ro', CdAt w' base D (setF (l ++ [newF n w.heap.size]) (appF (newF n w.heap.size) s (turns + 1) b' l')) (turns + 1) (some M) ro' ∧ Ext w w' ro ro' := by
  have hn2 := name_le hn
  have c0 := h.cell0
  have hl := h.look (n := n) (Nat.le_trans hn2.1 (by unfold maxLen; decide))
  rw [hf] at hl
  change _ = Result.ok (Value.pointer none) w at hl
  have hp := put_add hn2.1 h hf
  have HH : Hid (CdAt w base D l turns mo ro) := h
  have ht : decide ((4194304 : Int) < (s.size : Int)) = false := by simp; omega
  have hs0 : s.toList.isEmpty = false := by
    rw [List.isEmpty_eq_false_iff]
    intro e
    rw [Lib.toList_data] at e
    have h1 : s.size = 0 := by rw [Lib.size_eq, e]; rfl
    omega
  obtain ⟨i0, hi, hz0, hz1, hz2⟩ := info_parts infoP
  have hrb1 : ∀ u : World, u.ownsRow base 5 1 (.slice none 0 0) ([] : List UInt8).length (Lib.byteCells []) := fun u => World.ownsRow_nil _ _ _ _
  clear hf h
  go_enter Tryz.func9, Tryz.ntmps9
  go_wp2_with (first | (at_builtin; refine append_str rfl (.tmp 51) (.tmp 52) rfl base (.slice none 0 0) [] rfl (hrb1 _) s rfl h0 (by simp; omega) (by simpa using hbase) ?_) | (go_at_call 29; refine hp.mono ?_; rintro e u ⟨rfl, M, hput⟩; obtain ⟨ro1, hcd, hex⟩ := CdAt.added HH.out hn2.1 hput; have HU : Hid (CdAt u base D (l ++ [newF n w.heap.size]) turns (some M) ro1) := hcd; have HX : Hid (Ext w u ro ro1) := hex; have HFM : Hid (newF n w.heap.size ∈ l ++ [newF n w.heap.size]) := List.mem_append_right _ (List.mem_singleton.2 rfl); have hF := hcd.each _ HFM.out; have b0 : u.cell? ⟨w.heap.size, 0, none⟩ = some (.slice none 0 0) := hF.cell0; have bl2 : u.cell? ⟨w.heap.size, 2, none⟩ = some (.slice none 0 0) := hF.cell2; have d1 := hcd.cell1; have z1 : u.frozen? ⟨D, 1, none⟩ = false := (by simp [World.frozen?, hcd.bl]); have lD := lt_of_block hcd.bl; have lc : w.heap.size < u.heap.size := lt_of_block hF.bl; have ncD : w.heap.size ≠ D := hcd.neD HFM.out; have hbase : base ≤ u.heap.size := (by have := hcd.bd D (by rw [hcd.rD]; simp); omega); clear hF hex hcd hput) | (go_at_call 28; refine (mayBe_any n _).mono ?_; rintro e w1 ⟨rfl, hw⟩; rw [hn, ← hw]; clear hw))
  intro v2 w2 hown2 hg2 ha2
  obtain ⟨d2, c2, k2⟩ := append_mid (f := newF n w.heap.size) HU.out HFM.out hg2
  obtain ⟨p2, n2, q2, e2⟩ := own_form hown2.out
  change w2.heap[w.heap.size]? = some (.cells #[.slice none 0 0, .int .i64 0, .slice none 0 0] 65 (0, 0)) at c2
  have s2 : u.heap.size ≤ w2.heap.size := by simpa using hg2.size
  have y0 : w2.cell? ⟨w.heap.size, 0, none⟩ = some (.slice none 0 0) := by simp [World.cell?, c2]
  have y2 : w2.cell? ⟨w.heap.size, 2, none⟩ = some (.slice none 0 0) := by simp [World.cell?, c2]
  have yz : w2.frozen? ⟨w.heap.size, 0, none⟩ = false := by simp [World.frozen?, c2]
  have yd : w2.cell? ⟨D, 1, none⟩ = some (.int .i64 ((turns : Int) + 1)) := by simp [World.cell?, d2]
  subst e2
  have HO2 : Row2 w2 base (.slice p2 n2 q2) [] s := hown2
  clear hown2
  go_wp2
  obtain ⟨w3, hw3⟩ : ∃ w3, w3 = w2.setCell ⟨w.heap.size, 0, none⟩ (.slice p2 n2 q2) := ⟨_, rfl⟩
  have H3 : Hid (w3 = w2.setCell ⟨w.heap.size, 0, none⟩ (.slice p2 n2 q2)) := hw3
  have r2 : w3.cell? ⟨w.heap.size, 2, none⟩ = some (.slice none 0 0) := by
    rw [hw3]
    simp [World.cell?, heap_setCell_same w2 w.heap.size 0 _ _ _ c2]
  have rz : w3.frozen? ⟨w.heap.size, 2, none⟩ = false := by
    rw [hw3]
    simp [World.frozen?, heap_setCell_same w2 w.heap.size 0 _ _ _ c2]
  have rd : w3.cell? ⟨D, 1, none⟩ = some (.int .i64 ((turns : Int) + 1)) := by
    rw [hw3]
    simp [World.cell?, heap_setCell_other w2 ⟨w.heap.size, 0, none⟩ D _ ncD.symm, d2]
  have s3 : w3.heap.size = w2.heap.size := by rw [hw3]; simp
  rw [← hw3]
  clear hw3 k2 y0 y2 yz yd c2 d2
  have l3c : w.heap.size < w3.heap.size := by omega
  have l3D : D < w3.heap.size := by omega
  have hb3 : base ≤ w3.heap.size := by omega
  have nlc : (Value.slice none 0 0).ownBlock ≠ some w.heap.size := by simp [Value.ownBlock]
  have nlD : (Value.slice none 0 0).ownBlock ≠ some D := by simp [Value.ownBlock]
  have S3 : Hid (w3.heap.size = w2.heap.size) := s3
  have eD : w3.heap.size ≠ D := by omega
  have ec : w3.heap.size ≠ w.heap.size := by omega
  have ra : ∀ o, (w3.alloc o).cell? ⟨D, 1, none⟩ = some (.int .i64 ((turns : Int) + 1)) := fun o => by rw [World.cell?_of_block (heap_alloc_old w3 o l3D)]; exact rd
  have rb : ∀ o, (w3.alloc o).cell? ⟨w.heap.size, 2, none⟩ = some (.slice none 0 0) := fun o => by rw [World.cell?_of_block (heap_alloc_old w3 o l3c)]; exact r2
  have rf : ∀ o, (w3.alloc o).frozen? ⟨w.heap.size, 2, none⟩ = false := fun o => by rw [World.frozen?_of_block (heap_alloc_old w3 o l3c)]; exact rz
  clear s3
  go_region_law
    ((refine step_append_lies _ (by rfl) _ _ _ (by rfl) base 62 i0 _ 3 24 Tryz.underlying58 hi hz0 hz1 hz2 rfl (by omega) (.slice none 0 0) 0 [] (by rfl) (World.ownsRow_nil _ _ _ _)
        ⟨w3.heap.size, 0, none⟩ 1 1 [.int .i64 ((turns : Int) + 1), .int .i64 (s.size : Int), .pointer (some ⟨w.heap.size, 0, none⟩)] (by rfl) (by rfl) (World.news_of_block (cs := #[.int .i64 ((turns : Int) + 1), .int .i64 (s.size : Int), .pointer (some ⟨w.heap.size, 0, none⟩)]) (t := 62) (fr := (0, 0)) (heap_alloc_new w3 _)) (by simp [Value.oneCell'])
        (by omega) (by unfold maxLen; omega) (by omega) (by simp; omega) (w3.heap.size + 1) (by simp) ?_; intro gg cap w4 hown4 hgrow hat hlt; have rz4 := (hgrow.frozen_far ⟨w.heap.size, 2, none⟩ (by simp; omega) (Ne.symm nlc)).trans (rf _); have rc4 := (hgrow.cell_far ⟨w.heap.size, 2, none⟩ (by simp; omega) (Ne.symm nlc)).trans (rb _); have rd4 := (hgrow.cell_far ⟨D, 1, none⟩ (by simp; omega) (Ne.symm nlD)).trans (ra _)))
  all_goals go_wp2
  all_goals go_ret
  all_goals (
    obtain ⟨b', l', ro', r1, r2⟩ := append_fin (f := newF n w.heap.size) HU.out HFM.out h0 (by simpa [newF] using hlen) hg2 ha2 HO2.out H3.out rfl hgrow hat hlt hown4
    exact ⟨rfl, M, b', l', ro', r1, HX.out.trans r2⟩)
end Go.Proofs.YtkdglkaeglhibaaGreatDoor
