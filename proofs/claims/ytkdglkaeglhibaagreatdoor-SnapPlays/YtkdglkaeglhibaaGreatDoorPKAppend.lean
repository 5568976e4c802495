/-
  The program's disk: bytes behind a file's. The condition: fewer than 2^62 appends.
-/
import Derived.Test.YtkdglkaeglhibaaGreatDoorPKApp
import Derived.Deep.RegionLaw
namespace Go.Proofs.YtkdglkaeglhibaaGreatDoor
open Go.RowKit

set_option maxRecDepth 100000 in
theorem append_nil (n s : ByteArray) (w : World) :
    Calls Tryz.prog 9 #[.pointer none, .string n, .string s] w fun e w' => e = .returned (.int .i64 1) ∧ w = w' := by
  go_enter Tryz.func9, Tryz.ntmps9
  go_wp2
  go_ret
  exact ⟨rfl, rfl⟩
set_option maxRecDepth 100000 in
theorem append_bad (D : Nat) (n s : ByteArray) (w : World) (hn : nameB n = false) :
    Calls Tryz.prog 9 #[.pointer (some ⟨D, 0, none⟩), .string n, .string s] w fun e w' => e = .returned (.int .i64 1) ∧ w = w' := by
  go_enter Tryz.func9, Tryz.ntmps9
  go_wp2_with (go_at_call 28; refine (mayBe_any n _).mono ?_; rintro e w1 ⟨rfl, rfl⟩; rw [hn])
  go_ret
  exact ⟨rfl, rfl⟩
theorem name_le {n : ByteArray} (h : nameB n = true) : n.size ≤ 64 ∧ 1 ≤ n.size := by
  unfold nameB at h
  simp at h
  omega
set_option maxHeartbeats 1600000 in
set_option maxRecDepth 100000 in
theorem append_long (w : World) (base D : Nat) (l : List CF) (turns : Nat) (mo : Option Nat) (ro : Nat → Option Nat) (n s : ByteArray) (f : CF) (hn : nameB n = true) (h : CdAt w base D l turns mo ro) (hf : lk l n = some f) (hlong : 4194304 < f.bs.length + s.size) :
    Calls Tryz.prog 9 #[.pointer (some ⟨D, 0, none⟩), .string n, .string s] w fun e w' => e = .returned (.int .i64 15) ∧ w = w' := by
  have hn2 := name_le hn
  have c0 := h.cell0
  have hl := h.look (n := n) (Nat.le_trans hn2.1 (by unfold maxLen; decide))
  rw [hf] at hl
  change _ = Result.ok (Value.pointer (some ⟨f.c, 0, none⟩)) w at hl
  have hF := h.each f (lk_mem hf).1
  have b0 := hF.cell0
  have hm := hF.mx
  have hv : ∃ pv cv, f.bv = .slice pv f.bs.length cv := by
    rcases hF.rb.2 with ⟨e, e0⟩ | ⟨g, cap, cur, e, _⟩
    · exact ⟨none, 0, by rw [e, e0]⟩
    · exact ⟨_, _, e⟩
  obtain ⟨pv, cv, ev⟩ := hv
  rw [ev] at b0
  have ht : decide ((4194304 : Int) - (f.bs.length : Int) < (s.size : Int)) = true := by simp; omega
  clear hf h hF ev
  generalize f.bs.length = L at *
  generalize f.c = c at *
  go_enter Tryz.func9, Tryz.ntmps9
  go_wp2_with (go_at_call 28; refine (mayBe_any n _).mono ?_; rintro e w1 ⟨rfl, rfl⟩; rw [hn])
  go_ret
  exact ⟨rfl, rfl⟩
/-- A file that is there is laid under its name: nothing turns. -/
theorem put_found {w : World} {base D : Nat} {l : List CF} {turns : Nat} {mo : Option Nat} {ro : Nat → Option Nat} {n : ByteArray} {f : CF} (hn : n.size ≤ 64) (h : CdAt w base D l turns mo ro) (hf : lk l n = some f) :
    Calls Tryz.prog 29 #[.pointer (some ⟨D, 0, none⟩), .string n, .pointer (some ⟨f.c, 0, none⟩)] w fun e w' => e = .returned (.tuple #[]) ∧ w' = w := by
  have hm := h.mp
  cases mo with
  | none =>
    have h2 : nmL l = [] := hm
    have h3 := lookF_lk l n
    rw [h2, hf] at h3
    simp [lookF] at h3
  | some M => exact put_same w D M f.c turns (nmL l) n hn h.bl hm (by rw [lookF_lk, hf]; rfl)
set_option maxHeartbeats 1600000 in
set_option maxRecDepth 100000 in
theorem append_none (w : World) (base D : Nat) (l : List CF) (turns : Nat) (mo : Option Nat) (ro : Nat → Option Nat) (n : ByteArray) (f : CF) (hn : nameB n = true) (h : CdAt w base D l turns mo ro) (hf : lk l n = some f) :
    Calls Tryz.prog 9 #[.pointer (some ⟨D, 0, none⟩), .string n, .string ⟨#[]⟩] w fun e w' => e = .returned (.int .i64 0) ∧ w = w' := by
  have hn2 := name_le hn
  have c0 := h.cell0
  have hl := h.look (n := n) (Nat.le_trans hn2.1 (by unfold maxLen; decide))
  rw [hf] at hl
  change _ = Result.ok (Value.pointer (some ⟨f.c, 0, none⟩)) w at hl
  have hfm := (lk_mem hf).1
  have hF := h.each f hfm
  have b0 := hF.cell0
  have hm := hF.mx
  have hv : ∃ pv cv, f.bv = .slice pv f.bs.length cv := by
    rcases hF.rb.2 with ⟨e, e0⟩ | ⟨g, cap, cur, e, _⟩
    · exact ⟨none, 0, by rw [e, e0]⟩
    · exact ⟨_, _, e⟩
  obtain ⟨pv, cv, ev⟩ := hv
  rw [ev] at b0
  have hp := put_found hn2.1 h hf
  have ht : decide ((4194304 : Int) - (f.bs.length : Int) < 0) = false := by simp; omega
  clear hf h hF ev hfm
  generalize f.bs.length = L at *
  generalize f.c = c at *
  go_enter Tryz.func9, Tryz.ntmps9
  go_wp2_with (first | (go_at_call 29; refine hp.mono ?_; rintro e w1 ⟨rfl, rfl⟩) | (go_at_call 28; refine (mayBe_any n _).mono ?_; rintro e w1 ⟨rfl, rfl⟩; rw [hn]))
  go_ret
  exact ⟨rfl, rfl⟩
set_option maxHeartbeats 3200000 in
set_option maxRecDepth 100000 in
theorem append_found (w : World) (base D : Nat) (l : List CF) (turns : Nat) (mo : Option Nat) (ro : Nat → Option Nat) (n s : ByteArray) (f : CF) (hn : nameB n = true) (h : CdAt w base D l turns mo ro) (hf : lk l n = some f) (h0 : 0 < s.size) (hlen : f.bs.length + s.size ≤ 4194304) (htn : turns < 4611686018427387904) :
    Calls Tryz.prog 9 #[.pointer (some ⟨D, 0, none⟩), .string n, .string s] w fun e w' => e = .returned (.int .i64 0) ∧ ∃ b' l' ro', CdAt w' base D (setF l (appF f s (turns + 1) b' l')) (turns + 1) mo ro' ∧ Ext w w' ro ro' := by
  have hn2 := name_le hn
  have c0 := h.cell0
  have hl := h.look (n := n) (Nat.le_trans hn2.1 (by unfold maxLen; decide))
  rw [hf] at hl
  change _ = Result.ok (Value.pointer (some ⟨f.c, 0, none⟩)) w at hl
  have hfm := (lk_mem hf).1
  have hF := h.each f hfm
  have b0 := hF.cell0
  have hm := hF.mx
  have hv : ∃ pv cv, f.bv = .slice pv f.bs.length cv := by
    rcases hF.rb.2 with ⟨e, e0⟩ | ⟨g, cap, cur, e, _⟩
    · exact ⟨none, 0, by rw [e, e0]⟩
    · exact ⟨_, _, e⟩
  obtain ⟨pv, cv, ev⟩ := hv
  have HEV : Hid (f.bv = .slice pv f.bs.length cv) := ev
  rw [ev] at b0
  have hp := put_found hn2.1 h hf
  have ht : decide ((4194304 : Int) - (f.bs.length : Int) < (s.size : Int)) = false := by simp; omega
  have hs0 : s.toList.isEmpty = false := by
    rw [List.isEmpty_eq_false_iff]
    intro e
    rw [Lib.toList_data] at e
    have h1 : s.size = 0 := by rw [Lib.size_eq, e]; rfl
    omega
  obtain ⟨i0, hi, hz0, hz1, hz2⟩ := info_parts infoP
  have HU : Hid (CdAt w base D l turns mo ro) := h
  have HFM : Hid (f ∈ l) := hfm
  have bl2 := hF.cell2
  have d1 := h.cell1
  have z1 : w.frozen? ⟨D, 1, none⟩ = false := by simp [World.frozen?, h.bl]
  have lD := lt_of_block h.bl
  have lc := lt_of_block hF.bl
  have ncD := h.neD hfm
  have hrb := hF.rb
  have hbase : base ≤ w.heap.size := by have := h.bd D (by rw [h.rD]; simp); omega
  have hrb1 : ∀ x, (w.setCell ⟨D, 1, none⟩ x).ownsRow base 5 1 (.slice pv f.bs.length cv) f.bs.length (Lib.byteCells f.bs) := fun x => by
    rw [← ev]
    exact own_keep hF.rb (fun g e => heap_setCell_other _ _ _ _ (by
      show g ≠ D
      rintro rfl
      exact own_ne hF.rb h.bl (by decide) e))
  obtain ⟨pl, nl, cl, el⟩ := own_form hF.rl
  have hrl := hF.rl
  have nlD := own_ne hF.rl h.bl (by decide)
  have nlc := own_ne hF.rl hF.bl (by decide)
  have hpl := hF.pl
  rw [el] at bl2
  have HEL : Hid (f.lv = .slice pl nl cl) := el
  clear hf h hF ev hfm el hrb
  go_enter Tryz.func9, Tryz.ntmps9
  go_wp2_with (first | (at_builtin; refine append_str rfl (.tmp 51) (.tmp 52) rfl base (.slice pv f.bs.length cv) f.bs rfl (hrb1 _) s rfl h0 (by omega) (by simpa using hbase) ?_) | (go_at_call 29; refine hp.mono ?_; rintro e w1 ⟨rfl, rfl⟩) | (go_at_call 28; refine (mayBe_any n _).mono ?_; rintro e w1 ⟨rfl, rfl⟩; rw [hn]))
  intro v2 w2 hown2 hg2 ha2
  rw [← HEV.out] at hg2 ha2
  obtain ⟨d2, c2, k2⟩ := append_mid HU.out HFM.out hg2
  obtain ⟨p2, n2, q2, e2⟩ := own_form hown2.out
  rw [HEV.out, HEL.out] at c2
  have s2 : w1.heap.size ≤ w2.heap.size := by simpa using hg2.size
  have y0 : w2.cell? ⟨f.c, 0, none⟩ = some (.slice pv f.bs.length cv) := by simp [World.cell?, c2]
  have y2 : w2.cell? ⟨f.c, 2, none⟩ = some (.slice pl nl cl) := by simp [World.cell?, c2]
  have yz : w2.frozen? ⟨f.c, 0, none⟩ = false := by simp [World.frozen?, c2]
  have yd : w2.cell? ⟨D, 1, none⟩ = some (.int .i64 ((turns : Int) + 1)) := by simp [World.cell?, d2]
  subst e2
  have HO2 : Row2 w2 base (.slice p2 n2 q2) f.bs s := hown2
  clear hown2
  have nlb : ∀ g, f.lv.ownBlock = some g → some g ≠ f.bv.ownBlock := fun g e1 e2 => by
    have hFu := HU.out.each f HFM.out
    rcases hFu.rl.2 with ⟨e, _⟩ | ⟨g', cap, cur, e, _, hb, _⟩
    · rw [e] at e1; simp [Value.ownBlock] at e1
    · rw [e] at e1
      simp only [Value.ownBlock, Option.some.injEq] at e1
      subst e1
      exact own_ne hFu.rb hb (by decide) e2.symm
  have HL3 : ∀ x, (w2.setCell ⟨f.c, 0, none⟩ x).ownsRow base 62 3 (.slice pl nl cl) f.ps.length (pcsL f.c f.ps) := fun x => by
    rw [← HEL.out]
    refine own_keep hrl (fun g e => ?_)
    have hgl := (hrl.lt g e).2
    rw [heap_setCell_other _ _ _ _ (by
      show g ≠ f.c
      rintro rfl
      exact nlc e)]
    exact k2 g hgl (by
      rintro rfl
      exact nlD e) (nlb g e)
  go_wp2
  obtain ⟨w3, hw3⟩ : ∃ w3, w3 = w2.setCell ⟨f.c, 0, none⟩ (.slice p2 n2 q2) := ⟨_, rfl⟩
  have H3 : Hid (w3 = w2.setCell ⟨f.c, 0, none⟩ (.slice p2 n2 q2)) := hw3
  have r2 : w3.cell? ⟨f.c, 2, none⟩ = some (.slice pl nl cl) := by
    rw [hw3]
    simp [World.cell?, heap_setCell_same w2 f.c 0 _ _ _ c2]
  have rz : w3.frozen? ⟨f.c, 2, none⟩ = false := by
    rw [hw3]
    simp [World.frozen?, heap_setCell_same w2 f.c 0 _ _ _ c2]
  have rd : w3.cell? ⟨D, 1, none⟩ = some (.int .i64 ((turns : Int) + 1)) := by
    rw [hw3]
    simp [World.cell?, heap_setCell_other w2 ⟨f.c, 0, none⟩ D _ ncD.symm, d2]
  have ho3 := HL3 (.slice p2 n2 q2)
  have s3 : w3.heap.size = w2.heap.size := by rw [hw3]; simp
  rw [← hw3] at ho3 ⊢
  clear hw3 HL3 k2 hrl y0 y2 yz yd c2 d2 nlb hrb1
  have l3c : f.c < w3.heap.size := by omega
  have l3D : D < w3.heap.size := by omega
  have hb3 : base ≤ w3.heap.size := by omega
  rw [HEL.out] at nlc nlD
  have S3 : Hid (w3.heap.size = w2.heap.size) := s3
  have eD : w3.heap.size ≠ D := by omega
  have ec : w3.heap.size ≠ f.c := by omega
  have ra : ∀ o, (w3.alloc o).cell? ⟨D, 1, none⟩ = some (.int .i64 ((turns : Int) + 1)) := fun o => by rw [World.cell?_of_block (heap_alloc_old w3 o l3D)]; exact rd
  have rb : ∀ o, (w3.alloc o).cell? ⟨f.c, 2, none⟩ = some (.slice pl nl cl) := fun o => by rw [World.cell?_of_block (heap_alloc_old w3 o l3c)]; exact r2
  have rf : ∀ o, (w3.alloc o).frozen? ⟨f.c, 2, none⟩ = false := fun o => by rw [World.frozen?_of_block (heap_alloc_old w3 o l3c)]; exact rz
  clear s3
  go_region_law
    ((refine step_append_lies _ (by rfl) _ _ _ (by rfl) base 62 i0 _ 3 24 Tryz.underlying58 hi hz0 hz1 hz2 rfl (by omega) (.slice pl nl cl) f.ps.length (pcsL f.c f.ps) (by rfl) ((ho3.alloc _).drew)
        ⟨w3.heap.size, 0, none⟩ 1 1 [.int .i64 ((turns : Int) + 1), .int .i64 (s.size : Int), .pointer (some ⟨f.c, 0, none⟩)] (by rfl) (by rfl) (World.news_of_block (cs := #[.int .i64 ((turns : Int) + 1), .int .i64 (s.size : Int), .pointer (some ⟨f.c, 0, none⟩)]) (t := 62) (fr := (0, 0)) (heap_alloc_new w3 _)) (by simp [Value.oneCell'])
        (by omega) (by unfold maxLen; omega) (by omega) (by simp; omega) (w3.heap.size + 1) (by simp) ?_; intro gg cap w4 hown4 hgrow hat hlt; have rz4 := (hgrow.frozen_far ⟨f.c, 2, none⟩ (by simp; omega) (Ne.symm nlc)).trans (rf _); have rc4 := (hgrow.cell_far ⟨f.c, 2, none⟩ (by simp; omega) (Ne.symm nlc)).trans (rb _); have rd4 := (hgrow.cell_far ⟨D, 1, none⟩ (by simp; omega) (Ne.symm nlD)).trans (ra _)))
  all_goals go_wp2
  all_goals go_ret
  all_goals exact ⟨rfl, append_fin HU.out HFM.out h0 hlen hg2 ha2 HO2.out H3.out HEL.out hgrow hat hlt hown4⟩
end Go.Proofs.YtkdglkaeglhibaaGreatDoor
