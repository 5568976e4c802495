/-
  The document's net (package latchkeyref06): a packet is sent, read, doubled. No condition.
-/
import Derived.Test.YtpbkpaendhpbfaaNtSend
import Derived.Laws.AppendOwnNone
namespace Go.Proofs.Ytpbkpaendhpbfaa
open Go.RowKit

abbrev RT : TypeId := 41
theorem nmono {w : World} {base base' size n : Nat} {e : TypeId} {v : Value} {xs : List Value} (h : w.ownsRow base e size v n xs) (hb : base' ≤ base) : w.ownsRow base' e size v n xs := by
  refine ⟨h.1, ?_⟩
  rcases h.2 with h0 | ⟨g, cap, cur, h1, h2, h3⟩
  · exact Or.inl h0
  · exact Or.inr ⟨g, cap, cur, h1, Nat.le_trans hb h2, h3⟩
theorem nform {w : World} {base size n : Nat} {e : TypeId} {v : Value} {xs : List Value} (h : w.ownsRow base e size v n xs) : ∃ pv nv cv, v = .slice pv nv cv := by
  rcases h.2 with ⟨rfl, _⟩ | ⟨g, c, cur, rfl, _⟩
  · exact ⟨_, _, _, rfl⟩
  · exact ⟨_, _, _, rfl⟩
/-- A new row in the net's block. -/
theorem NtAt.row {T : TypeId} {w w4 : World} {base D : Nat} {S : Nat → Prop} {L L' : List ByteArray} {v4 : Value} (hT : 9 ≠ T) (h : NtAt T w base D S L) (b : Below w.heap.size w w4) (hr : w4.ownsRow w.heap.size 9 1 v4 L'.length (strL L')) (hmx : L'.length ≤ 4096) (hsz : ∀ s ∈ L', s.size ≤ 524288) :
    ∃ S', NtAt T (w4.setCell ⟨D, 0, none⟩ v4) base D S' L' ∧ Kept w (w4.setCell ⟨D, 0, none⟩ v4) S S' := by
  obtain ⟨v, hv, _, _⟩ := h.ex
  have hDl := lt_of_block hv
  have hbs := (h.bd D h.sD).1
  have hsz4 := b.size
  have c4 : w4.heap[D]? = some (.cells #[v] T (0, 0)) := (b.block D hDl).trans hv
  have c5 : (w4.setCell ⟨D, 0, none⟩ v4).heap[D]? = some (.cells #[v4] T (0, 0)) := by
    rw [heap_setCell_same w4 D 0 _ _ _ c4]
    rfl
  have r5 : (w4.setCell ⟨D, 0, none⟩ v4).ownsRow w.heap.size 9 1 v4 L'.length (strL L') := nkeep hr (fun g e => by
    rw [heap_setCell_other _ _ _ _ (by
      show g ≠ D
      rintro rfl
      exact nne hr c4 hT e)])
  refine h.upd c5 (nmono r5 (by omega)) (fun g e => Or.inr (hr.lt g e).1) b.os b.tape b.output (by simp; omega) (fun i hi hn => ?_) hmx hsz
  rw [heap_setCell_other _ _ _ _ (by
    show i ≠ D
    rintro rfl
    exact hn h.sD), b.block i hi]
theorem mem_snoc {L : List ByteArray} {s : ByteArray} (h : ∀ x ∈ L, x.size ≤ 524288) (hs : s.size ≤ 524288) : ∀ x ∈ L ++ [s], x.size ≤ 524288 := fun x hx => by
  rcases List.mem_append.1 hx with hx | hx
  · exact h x hx
  · rw [List.mem_singleton] at hx
    subst hx
    exact hs
theorem rsend_full {w : World} {base D : Nat} {S : Nat → Prop} {L : List ByteArray} (s : ByteArray) (h : NtAt RT w base D S L) (hf : 4096 ≤ L.length) : Calls Try.prog 14 #[.pointer (some ⟨D, 0, none⟩), .string s] w fun e w' => e = .returned (.int .i64 17) ∧ w = w' := by
  obtain ⟨p, c, hb, hr, ho, hz⟩ := h.cells
  have c0 : w.cell? ⟨D, 0, none⟩ = some (.slice p L.length c) := by simp [World.cell?, hb]
  have hf' : decide ((4096 : Int) ≤ (L.length : Int)) = true := by simp; omega
  clear h hb hr ho hz
  go_enter Try.func14, Try.ntmps14
  go_wp2
  go_ret
  exact ⟨rfl, rfl⟩
theorem rsend_long {w : World} {base D : Nat} {S : Nat → Prop} {L : List ByteArray} (s : ByteArray) (h : NtAt RT w base D S L) (hf : L.length < 4096) (hs : 524288 < s.size) : Calls Try.prog 14 #[.pointer (some ⟨D, 0, none⟩), .string s] w fun e w' => e = .returned (.int .i64 15) ∧ w = w' := by
  obtain ⟨p, c, hb, hr, ho, hz⟩ := h.cells
  have c0 : w.cell? ⟨D, 0, none⟩ = some (.slice p L.length c) := by simp [World.cell?, hb]
  have hf' : decide ((4096 : Int) ≤ (L.length : Int)) = false := by simp; omega
  have hs' : decide ((524288 : Int) < (s.size : Int)) = true := by simp; omega
  clear h hb hr ho hz
  go_enter Try.func14, Try.ntmps14
  go_wp2
  go_ret
  exact ⟨rfl, rfl⟩
theorem news_row {w : World} {base g c : Nat} {L : List ByteArray} (hr : w.ownsRow base 9 1 (.slice (some ⟨g, 0, none⟩) L.length c) L.length (strL L)) : ∀ j u, (strL L)[j]? = some u → w.cell? ((⟨g, 0, none⟩ : Addr).add j) = some u := fun j u hu => by
  rw [Addr.add_mid, Nat.zero_add]
  have hj : j < L.length := by
    have := (List.getElem?_eq_some_iff.1 hu).1
    rw [strL_length] at this
    exact this
  have h1 := World.ownsRow.cellAt hr j (by omega)
  rw [h1, hu]
theorem one_strL (L : List ByteArray) : ∀ u ∈ strL L, u.oneCell' = true := fun u hu => by
  unfold strL at hu
  obtain ⟨y, _, rfl⟩ := List.mem_map.1 hu
  rfl
set_option maxHeartbeats 3200000 in
set_option maxRecDepth 100000 in
theorem rsend_yes {w : World} {base D : Nat} {S : Nat → Prop} {L : List ByteArray} (s : ByteArray) (h : NtAt RT w base D S L) (hf : L.length < 4096) (hs : s.size ≤ 524288) : Calls Try.prog 14 #[.pointer (some ⟨D, 0, none⟩), .string s] w fun e w' => e = .returned (.int .i64 0) ∧ ∃ S', NtAt RT w' base D S' (L ++ [s]) ∧ Kept w w' S S' := by
  obtain ⟨i0, hi, hz0, hz1, hz2⟩ := info_parts infoS
  obtain ⟨p, c, hb, hr, ho, hz⟩ := h.cells
  have c0 : w.cell? ⟨D, 0, none⟩ = some (.slice p L.length c) := by simp [World.cell?, hb]
  have f0 : w.frozen? ⟨D, 0, none⟩ = false := by simp [World.frozen?, hb]
  have hDl := (h.bd D h.sD).2
  have hf' : decide ((4096 : Int) ≤ (L.length : Int)) = false := by simp; omega
  have hs' : decide ((524288 : Int) < (s.size : Int)) = false := by simp; omega
  have HN : Hid _ := h
  rcases hr.2 with ⟨e, h0⟩ | ⟨g, cap, cur, e, _⟩
  · have hL : L = [] := List.eq_nil_of_length_eq_zero h0
    subst hL
    simp only [Value.slice.injEq] at e
    obtain ⟨rfl, _, rfl⟩ := e
    change w.cell? ⟨D, 0, none⟩ = some (.slice none 0 0) at c0
    clear h hb hr ho hz h0 hf'
    go_enter Try.func14, Try.ntmps14
    go_wp2_with (first
      | (at_builtin; refine wpList_append_own _ rfl (.tmp 19) (.tmp 21) 39 rfl w.heap.size 9 i0 (.string ⟨#[]⟩) 1 16 Try.underlying39 hi hz0 hz1 hz2 rfl (by decide) (.slice none 0 0) 0 [] rfl (World.ownsRow_nil _ _ _ _) ⟨w.heap.size, 0, none⟩ 1 1 [.string s] rfl rfl (World.news_of_block (cs := #[.string s]) (t := 9) (fr := (0, 0)) (heap_alloc_new w _)) (by simp [Value.oneCell']) (by unfold maxLen; omega) (by omega) (by simp) ?_; intro u3 w3 h3 g3 _; obtain ⟨p3, n3, q3, rfl⟩ := nform h3; have b3 : Below w.heap.size w w3 := (((Below.refl _ w).alloc (Nat.le_refl _) _).grown g3 (by simp) (fun k hk => by simp [Value.ownBlock] at hk)); have z3 := (b3.cell (p := ⟨D, 0, none⟩) (by exact hDl)).trans c0; have y3 := (b3.frozen (p := ⟨D, 0, none⟩) (by exact hDl)).trans f0)
      | (at_builtin; refine wpList_append_own_none rfl (.const (.slice none 0 0)) (.tmp 18) 39 rfl w.heap.size 9 i0 1 Try.underlying39 hi _ 0 [] rfl (World.ownsRow_nil _ _ _ _) rfl ?_))
    go_ret
    exact ⟨rfl, HN.out.row (by decide) b3 h3 (by simp) (mem_snoc HN.out.sz hs)⟩
  · simp only [Value.slice.injEq] at e
    obtain ⟨rfl, _, rfl⟩ := e
    have HR : Hid (w.ownsRow base 9 1 (.slice (some ⟨g, 0, none⟩) L.length c) L.length (strL L)) := hr
    clear h hb hr ho hz
    go_enter Try.func14, Try.ntmps14
    go_wp2_with (first
      | (at_builtin; refine wpList_append_own _ rfl (.tmp 19) (.tmp 21) 39 rfl w.heap.size 9 i0 (.string ⟨#[]⟩) 1 16 Try.underlying39 hi hz0 hz1 hz2 rfl (by decide) u2 (0 + L.length) ([] ++ strL L) rfl (h2.alloc _) ⟨w2.heap.size, 0, none⟩ 1 1 [.string s] rfl rfl (World.news_of_block (cs := #[.string s]) (t := 9) (fr := (0, 0)) (heap_alloc_new w2 _)) (by simp [Value.oneCell']) (by unfold maxLen; omega) (by omega) (by simp; have := b2.size; omega) ?_; intro u3 w3 h3 g3 _; obtain ⟨p3, n3, q3, rfl⟩ := nform h3; have b3 : Below w.heap.size w w3 := ((b2.alloc b2.size _).grown g3 (by have := b2.size; simp; omega) (fun k hk => ((h2.lt k hk)).1)); have z3 := (b3.cell (p := ⟨D, 0, none⟩) (by exact hDl)).trans c0; have y3 := (b3.frozen (p := ⟨D, 0, none⟩) (by exact hDl)).trans f0)
      | (at_builtin; refine wpList_append_own _ rfl (.const (.slice none 0 0)) (.tmp 18) 39 rfl w.heap.size 9 i0 (.string ⟨#[]⟩) 1 16 Try.underlying39 hi hz0 hz1 hz2 rfl (by decide) (.slice none 0 0) 0 [] rfl (World.ownsRow_nil _ _ _ _) ⟨g, 0, none⟩ L.length c (strL L) rfl (by rw [strL_length]; omega) (news_row HR.out) (one_strL L) (by unfold maxLen; omega) (by omega) (Nat.le_refl _) ?_; intro u2 w2 h2 g2 _; have b2 : Below w.heap.size w w2 := (Below.refl _ w).grown g2 (Nat.le_refl _) (fun k hk => by simp [Value.ownBlock] at hk)))
    go_ret
    refine ⟨rfl, HN.out.row (by decide) b3 ?_ (by simp; omega) (mem_snoc HN.out.sz hs)⟩
    rw [strL_snoc, List.length_append]
    have e3 : 0 + L.length + 1 = L.length + 1 := by omega
    rw [e3] at h3
    exact h3
end Go.Proofs.Ytpbkpaendhpbfaa
