/-
  The program's net: all packets. No condition.
-/
import Derived.Test.YtpbkpaendhpbfaaNtSend
import Derived.Laws.MakeOwn
namespace Go.Proofs.Ytpbkpaendhpbfaa
open Go.RowKit

def zs (w : World) (n : Nat) : World := w.alloc (.cells (madeCells #[.string ⟨#[]⟩] n) 9)
theorem make_strs (n : Nat) (hn : n ≤ 4096) (w : World) : (Instr.makeSlice 39 (.int .i64 (n : Int)) (.int .i64 (n : Int))).run Try.prog w = .ok (.slice (some ⟨w.heap.size, 0, none⟩) n n) (zs w n) := by
  obtain ⟨i0, hi, hz0, hz1, hz2⟩ := info_parts infoS
  have h := run_make (P := Try.prog) w 39 9 i0 (.string ⟨#[]⟩) Try.underlying39 hi hz0 .i64 .i64 (n : Int) (n : Int) (by omega) (by omega) (by rw [hz2]; omega) (by omega)
  rw [hz1] at h
  simpa [zs, Value.cells] using h
/-- While the packets are gathered in block A. -/
structure AInv (w wr : World) (L : List ByteArray) (k : Nat) : Prop where
  ex : ∃ cs : Array Value, wr.heap[w.heap.size]? = some (.cells cs 9 (0, 0)) ∧ cs.size = L.length ∧ ∀ j (hj : j < L.length), j < k → cs[j]? = some (.string L[j])
  bel : Below w.heap.size w wr
theorem AInv.start (w : World) (L : List ByteArray) : AInv w (zs w L.length) L 0 :=
  ⟨⟨_, heap_alloc_new w _, by simp [size_madeCells], fun j hj h0 => by omega⟩, (Below.refl _ w).alloc (Nat.le_refl _) _⟩
theorem AInv.cell {w wr : World} {L : List ByteArray} {k : Nat} (I : AInv w wr L k) (hk : k < L.length) : (∃ y, wr.cell? ⟨w.heap.size, k, none⟩ = some y) ∧ wr.frozen? ⟨w.heap.size, k, none⟩ = false ∧ w.heap.size < wr.heap.size := by
  obtain ⟨cs, h1, h2, _⟩ := I.ex
  exact ⟨⟨cs[k]'(by omega), by simp [World.cell?, h1, show k < cs.size by omega]⟩, by simp [World.frozen?, h1], lt_of_block h1⟩
theorem AInv.step {w wr w2 : World} {L : List ByteArray} {k : Nat} (I : AInv w wr L k) (hk : k < L.length) (b : Below wr.heap.size wr w2) : AInv w (w2.setCell ⟨w.heap.size, k, none⟩ (.string L[k])) L (k + 1) := by
  obtain ⟨cs, h1, h2, h3⟩ := I.ex
  have hl := lt_of_block h1
  have h4 := (b.block _ hl).trans h1
  refine ⟨⟨cs.setIfInBounds k (.string L[k]), ?_, by simpa using h2, fun j hj hjk => ?_⟩, ?_⟩
  · rw [heap_setCell_same w2 _ k _ _ _ h4]
  · by_cases e : j = k
    · subst e
      simp [show j < cs.size by omega]
    · rw [Array.getElem?_setIfInBounds_ne (by omega)]
      exact h3 j hj (by omega)
  · have b2 := bmm I.bel I.bel.size b
    refine b2.trans ⟨rfl, rfl, rfl, by simp, fun i hi => ?_⟩
    rw [heap_setCell_other _ _ _ _ (by
      show i ≠ w.heap.size
      omega)]
theorem AInv.done {w wr : World} {L : List ByteArray} (I : AInv w wr L L.length) : StrAt wr (.slice (some ⟨w.heap.size, 0, none⟩) L.length L.length) L := by
  obtain ⟨cs, h1, h2, h3⟩ := I.ex
  refine ⟨⟨_, _, rfl, Or.inr ⟨_, 0, rfl, lt_of_block h1, fun j hj => ?_⟩⟩⟩
  have := h3 j hj hj
  rw [Nat.zero_add]
  simpa [World.cell?, h1] using this
set_option maxHeartbeats 3200000 in
set_option maxRecDepth 100000 in
theorem pall_any {w : World} {base D : Nat} {S : Nat → Prop} {L : List ByteArray} (h : NtAt PT w base D S L) :
    Calls Try.prog 23 #[.pointer (some ⟨D, 0, none⟩)] w fun e w' => ∃ v, e = .returned v ∧ StrAt w' v L ∧ Below w.heap.size w w' := by
  obtain ⟨p, c, hb, hr, ho, hz⟩ := h.cells
  have c0 : w.cell? ⟨D, 0, none⟩ = some (.slice p L.length c) := by simp [World.cell?, hb]
  have hDl := (h.bd D h.sD).2
  have hmx := h.mx
  have hmk := make_strs L.length hmx
  have I0 : Hid (AInv w (zs w L.length) L 0) := AInv.start w L
  have HR : Hid (w.ownsRow base 9 1 (.slice p L.length c) L.length (strL L)) := hr
  have HZ : Hid _ := hz
  have HS : Hid _ := h.sz
  have c1 : (zs w L.length).cell? ⟨D, 0, none⟩ = some (.slice p L.length c) := by
    unfold zs
    rw [World.cell?_of_block (heap_alloc_old w _ hDl)]
    exact c0
  clear h hb hr ho hz
  go_enter Try.func23, Try.ntmps23
  go_wp2
  go_loopw [19] (fun i wr => ∃ k : Nat, k ≤ L.length ∧ i = .int .i64 k ∧ AInv w wr L k) (fun i _ => L.length - (intOf i).toNat)
  case atStart => exact ⟨0, Nat.zero_le _, rfl, I0.out⟩
  case round =>
    obtain ⟨k, hk, rfl, I⟩ := hrel
    by_cases hkl : k < L.length
    · rcases HZ.out with h0 | ⟨g, rfl, _⟩
      · omega
      have hgl : g < w.heap.size := (HR.out.lt g rfl).2
      have z0 := (I.bel.cell (p := ⟨g, k, none⟩) (by exact hgl)).trans (ncell HR.out rfl hkl)
      have hsz := HS.out L[k] (List.getElem_mem hkl)
      obtain ⟨⟨y, hy⟩, hf, hl⟩ := I.cell hkl
      have HI : Hid (AInv w wr L k) := I
      clear I
      obtain ⟨x, hx⟩ : ∃ x, x = L[k] := ⟨_, rfl⟩
      rw [← hx] at z0 hsz
      have HX : Hid (x = L[k]) := hx
      clear hx
      go_wp2_with (go_at_call 42; refine (nclone x _ (by omega)).mono ?_; rintro e w2 ⟨rfl, bel⟩; have y2 := (bel.cell (p := ⟨w.heap.size, k, none⟩) (by exact hl)).trans hy; have f2 := (bel.frozen (p := ⟨w.heap.size, k, none⟩) (by exact hl)).trans hf)
      go_roundw
      case rel =>
        refine ⟨k + 1, hkl, by go_num, ?_⟩
        have := HI.out.step hkl bel
        rw [← HX.out] at this
        exact this
      case measure => simp [intOf]; omega
    · have hke : k = L.length := by omega
      subst hke
      have HI : Hid (AInv w wr L L.length) := I
      clear I
      go_wp2
      go_ret
      exact ⟨_, rfl, HI.out.done, HI.out.bel⟩
end Go.Proofs.Ytpbkpaendhpbfaa
