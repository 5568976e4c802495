/-
  Package learner: an entry in new memory. The condition: a text has at most 2^48 bytes.
-/
import Derived.Test.YtnoappklbipdhaaLrpSG
import Derived.Test.YtnoappklbipdhaaLrpLeMem
namespace Go.Proofs.Ytnoappklbipdhaa
open Go.RowKit

/-- An entry in a box. -/
abbrev EnBx (w : World) (B : Nat) (e : En) : Prop := w.heap[B]? = some (.cells (enA e) 30 (0, 0))
theorem EnBx.c {w : World} {B : Nat} {e : En} (h : EnBx w B e) (j : Nat) (u : Value) (hu : (enA e)[j]? = some u) : w.cell? ⟨B, j, none⟩ = some u := by
  simp only [World.cell?, h]
  simpa using hu
theorem EnBx.f {w : World} {B : Nat} {e : En} (h : EnBx w B e) (j : Nat) : w.frozen? ⟨B, j, none⟩ = false := by simp [World.frozen?, h]
theorem EnBx.set5 {w : World} {B : Nat} {e : En} (h : EnBx w B e) : EnBx (w.setCell ⟨B, 5, none⟩ (.string e.cmd.name)) B e := by
  show (w.setCell ⟨B, 5, none⟩ (.string e.cmd.name)).heap[B]? = _
  rw [heap_setCell_same w B 5 _ _ _ h]
  rfl
theorem sizeEx : (Try.prog.info? 30).map (·.size) = some 7 := by kernel_rfl
set_option maxHeartbeats 1600000 in
theorem xclone_any (s : ByteArray) (w : World) (hn : s.size ≤ 281474976710656) : Calls Try.prog 30 #[.string s] w fun e w' => e = .returned (.string s) ∧ Below w.heap.size w w' := by
  go_enter Try.func30, Try.ntmps30
  go_wp2_with (go_at_call 34; refine (Try.stringslite_Clone s _ hn).mono ?_; rintro e w2 ⟨rfl, b2⟩)
  go_ret
  exact ⟨rfl, b2⟩
set_option maxHeartbeats 3200000 in
set_option maxRecDepth 100000 in
theorem lclone_any (w : World) (e : En) (hn : e.cmd.name.size ≤ 281474976710656) : Calls Try.prog 22 #[.agg (enA e)] w fun r w' => r = .returned (.agg (enA e)) ∧ Below w.heap.size w w' := by
  obtain ⟨Z, hZ⟩ : ∃ Z : Obj, Z = .cells #[.int .i64 0, .int .i64 0, .int .i64 0, .int .i64 0, .int .i64 0, .string ⟨#[]⟩, .int .i64 0] 30 := ⟨_, rfl⟩
  have b1 : Below w.heap.size w ((w.alloc (.cells (enA e) 30)).alloc Z) := ((Below.refl _ w).alloc (Nat.le_refl _) _).alloc (by simp) _
  have h2 := two_blocks w (.cells (enA e) 30) Z
  have hE : EnBx ((w.alloc (.cells (enA e) 30)).alloc Z) w.heap.size e := h2.1.trans (heap_alloc_new w _)
  have hR := h2.2.trans (heap_alloc_new _ _)
  have hs : ((w.alloc (.cells (enA e) 30)).alloc Z).heap.size = w.heap.size + 2 := by simp
  rw [hZ] at b1 hE hR hs
  have c5 := hE.c 5 _ rfl
  have HE : Hid _ := hE
  have HR : Hid _ := hR
  have B1 : Hid _ := b1
  have HS : Hid _ := hs
  clear hE hR b1 hs h2 hZ Z
  go_enter Try.func22, Try.ntmps22
  go_wp2_with (first
    | (show wpList _ _ _ (⟨_, Op.store 30 _ _, _, _, _, _⟩ :: _) _ _; refine store_row_g rfl 30 _ _ rfl (w.heap.size + 1) (enA e) rfl rfl 30 _ R3.out sizeEx rfl (by simp [Value.oneCell']) ?_; intro w4 h4 g4)
    | (show wpList _ _ _ (⟨_, Op.load 30 _, _, _, _, _⟩ :: _) _ _; refine load_row_g rfl 30 _ rfl w.heap.size rfl 30 (enA e) (0, 0) _ E3.out Try.underlying30 rfl sizeEx ?_)
    | (go_at_call 30; refine (xclone_any e.cmd.name _ hn).mono ?_; rintro r w2 ⟨rfl, bb⟩; have E2 : EnBx w2 w.heap.size e := (bb.block _ (by have := HS.out; omega)).trans HE.out; have R2 := (bb.block (w.heap.size + 1) (by have := HS.out; omega)).trans HR.out; have d5 := E2.c 5 _ rfl; have f5 := E2.f 5; have E3 : Hid (EnBx (w2.setCell ⟨w.heap.size, 5, none⟩ (.string e.cmd.name)) w.heap.size e) := E2.set5; have R3 : Hid ((w2.setCell ⟨w.heap.size, 5, none⟩ (.string e.cmd.name)).heap[w.heap.size + 1]? = _) := (heap_setCell_other _ _ _ _ (by simp)).trans R2; have B3 : Hid (Below w.heap.size w (w2.setCell ⟨w.heap.size, 5, none⟩ (.string e.cmd.name))) := (bmm B1.out B1.out.size bb).setCell (p := ⟨w.heap.size, 5, none⟩) (Nat.le_refl _) _; clear E2 R2 bb))
  refine bodyPost_ret (results_cell_row Try.results22 _ _ (w.heap.size + 1) 30 _ (0, 0) _ rfl h4 Try.underlying30 rfl sizeEx) rfl ?_
  exact ⟨rfl, B3.out.grown g4 B3.out.size (fun k hk => by have := Option.some.inj hk; omega)⟩
end Go.Proofs.Ytnoappklbipdhaa
