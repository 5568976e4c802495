/-
  The document's once (package latchkeyref09): new, come to, done. The conditions: the numbers are ints'; fewer than 65536 wait.
-/
import Derived.Test.YtcjmohfglggonaaLgRef
namespace Go.Proofs.Ytcjmohfglggonaa
open Go.RowKit

abbrev OnT : TypeId := 56
def onC (who : Int) (ov : Bool) (v : Value) : Array Value := #[.int .i64 who, .bool ov, v]
abbrev OnAt (w : World) (base D : Nat) (S : Nat → Prop) (who : Int) (ov : Bool) (l : List Int) : Prop := BoxAt w base D S OnT (onC who ov) l
def oDZ (who : Int) (l : List Int) (t : Int) : Int := if t < 0 then 1 else if who = t ∨ t ∈ l then 12 else 0
/-- Does it run it; does it wait? -/
def oDR (who : Int) (ov : Bool) (l : List Int) (t : Int) : Bool := decide (oDZ who l t = 0 ∧ ov = false ∧ who < 0)
def oDW (who : Int) (ov : Bool) (l : List Int) (t : Int) : Bool := decide (oDZ who l t = 0 ∧ ov = false ∧ ¬ who < 0)
def oDH (who : Int) (ov : Bool) (l : List Int) (t : Int) : Int := if oDR who ov l t = true then t else who
def oDL (who : Int) (ov : Bool) (l : List Int) (t : Int) : List Int := if oDW who ov l t = true then l ++ [t] else l
def oEZ (who t : Int) : Int := if t < 0 ∨ ¬ who = t then 13 else 0
def oEO (who : Int) (l : List Int) (t : Int) : List Int := if t < 0 ∨ ¬ who = t then [] else l
def oEH (who t : Int) : Int := if t < 0 ∨ ¬ who = t then who else -1
def oEV (who : Int) (ov : Bool) (t : Int) : Bool := if t < 0 ∨ ¬ who = t then ov else true
def oEL (who : Int) (l : List Int) (t : Int) : List Int := if t < 0 ∨ ¬ who = t then l else []
section
variable {w w' : World} {base D : Nat} {S S' : Nat → Prop} {who : Int} {ov : Bool} {l : List Int}
theorem OnAt.cells (h : OnAt w base D S who ov l) : ∃ a cap, w.heap[D]? = some (.cells #[.int .i64 who, .bool ov, .slice a l.length cap] OnT (0, 0)) ∧ w.cell? ⟨D, 0, none⟩ = some (.int .i64 who) ∧ w.cell? ⟨D, 1, none⟩ = some (.bool ov) ∧ w.cell? ⟨D, 2, none⟩ = some (.slice a l.length cap) ∧ w.frozen? ⟨D, 0, none⟩ = false ∧ w.frozen? ⟨D, 1, none⟩ = false ∧ w.frozen? ⟨D, 2, none⟩ = false ∧ OwnRow intC w S D (.slice a l.length cap) l ∧ D < w.heap.size := by
  obtain ⟨v, h1, h2⟩ := h.ex
  obtain ⟨a, cap, rfl⟩ := h2.at'.form
  unfold onC at h1
  exact ⟨a, cap, h1, by simp [World.cell?, h1], by simp [World.cell?, h1], by simp [World.cell?, h1], by simp [World.frozen?, h1], by simp [World.frozen?, h1], by simp [World.frozen?, h1], h2, lt_of_block h1⟩
theorem on_new (w : World) : Calls Try.prog 18 #[] w fun e w' => e = .returned (.pointer (some ⟨w.heap.size, 0, none⟩)) ∧ OnAt w' w.heap.size w.heap.size (fun b => b = w.heap.size) (-1) false [] ∧ Below w.heap.size w w' := by
  have H1 : Hid _ := heap_alloc_new w (.cells #[.int .i64 (-1), .bool false, .slice none 0 0] OnT)
  have B1 : Hid _ := (Below.refl _ w).alloc (Nat.le_refl _) (.cells #[.int .i64 (-1), .bool false, .slice none 0 0] OnT)
  go_enter Try.func18, Try.ntmps18
  go_wp2
  go_ret
  exact ⟨rfl, ⟨⟨_, H1.out, OwnRow.nil _ _ _⟩, rfl, fun b hb => ⟨by omega, by simp; omega⟩, fun x hx => (by cases hx)⟩, B1.out⟩
set_option maxHeartbeats 6400000 in
set_option maxRecDepth 100000 in
theorem on_do (h : OnAt w base D S who ov l) (t : Int) (ht : okI t) (hl : l.length < 65536) : Calls Try.prog 22 #[.pointer (some ⟨D, 0, none⟩), .int .i64 t] w fun e w' => e = .returned (.tuple #[.bool (oDR who ov l t), .bool (oDW who ov l t), .int .i64 (oDZ who l t)]) ∧ ∃ S', OnAt w' base D S' (oDH who ov l t) ov (oDL who ov l t) ∧ Kept w w' S S' := by
  obtain ⟨a, cap, hb, c0, c1, c2, f0, f1, f2, ho, hD⟩ := h.cells
  have hh := (has_any w _ l t (ho.at'.ints h.lo (by omega))).mono (fun e w' h => (⟨h.1, h.2.symm⟩ : e = .returned (.bool (hasB l t)) ∧ w = w'))
  have H : Hid (OnAt w base D S who ov l) := h
  by_cases h1 : t < 0
  · have e1 : oDZ who l t = 1 := by unfold oDZ; rw [if_pos h1]
    have e2 : oDR who ov l t = false := by unfold oDR; rw [e1]; rfl
    have e3 : oDW who ov l t = false := by unfold oDW; rw [e1]; rfl
    have e4 : oDH who ov l t = who := by unfold oDH; rw [e2]; rfl
    have e5 : oDL who ov l t = l := by unfold oDL; rw [e3]; rfl
    rw [e1, e2, e3, e4, e5]
    have q1 : decide (t < 0) = true := decide_eq_true h1
    clear hb ho h hh e1 e2 e3 e4 e5
    go_enter Try.func22, Try.ntmps22
    go_wp2
    go_ret3
    exact ⟨rfl, S, H.out, Kept.refl _ _⟩
  have q1 : decide (t < 0) = false := decide_eq_false h1
  by_cases h2 : who = t ∨ t ∈ l
  · have e1 : oDZ who l t = 12 := by unfold oDZ; rw [if_neg h1, if_pos h2]
    have e2 : oDR who ov l t = false := by unfold oDR; rw [e1]; rfl
    have e3 : oDW who ov l t = false := by unfold oDW; rw [e1]; rfl
    have e4 : oDH who ov l t = who := by unfold oDH; rw [e2]; rfl
    have e5 : oDL who ov l t = l := by unfold oDL; rw [e3]; rfl
    rw [e1, e2, e3, e4, e5]
    by_cases h3 : who = t
    · have q2 : (who == t) = true := beq_iff_eq.2 h3
      clear hb ho h hh e1 e2 e3 e4 e5 h1 h2 h3
      go_enter Try.func22, Try.ntmps22
      go_wp2
      go_ret3
      exact ⟨rfl, S, H.out, Kept.refl _ _⟩
    · have q2 : (who == t) = false := beq_eq_false_iff_ne.2 h3
      have h4 : hasB l t = true := decide_eq_true (h2.elim (fun h => absurd h h3) id)
      rw [h4] at hh
      clear hb ho h e1 e2 e3 e4 e5 h1 h2 h3 h4
      go_enter Try.func22, Try.ntmps22
      go_wp2_with (go_at_call 26; refine hh.mono ?_; rintro e w1 ⟨rfl, rfl⟩)
      go_ret3
      exact ⟨rfl, S, H.out, Kept.refl _ _⟩
  have e1 : oDZ who l t = 0 := by unfold oDZ; rw [if_neg h1, if_neg h2]
  have q2 : (who == t) = false := beq_eq_false_iff_ne.2 (fun e => h2 (Or.inl e))
  have h4 : hasB l t = false := decide_eq_false (fun e => h2 (Or.inr e))
  rw [h4] at hh
  cases ov with
  | true =>
    have e2 : oDR who true l t = false := by unfold oDR; exact decide_eq_false (fun e => by cases e.2.1)
    have e3 : oDW who true l t = false := by unfold oDW; exact decide_eq_false (fun e => by cases e.2.1)
    have e4 : oDH who true l t = who := by unfold oDH; rw [e2]; rfl
    have e5 : oDL who true l t = l := by unfold oDL; rw [e3]; rfl
    rw [e1, e2, e3, e4, e5]
    clear hb ho h e1 e2 e3 e4 e5 h1 h2 h4
    go_enter Try.func22, Try.ntmps22
    go_wp2_with (go_at_call 26; refine hh.mono ?_; rintro e w1 ⟨rfl, rfl⟩)
    go_ret3
    exact ⟨rfl, S, H.out, Kept.refl _ _⟩
  | false =>
    have bel0 : Below w.heap.size w w := Below.refl _ w
    by_cases h5 : who < 0
    · have e2 : oDR who false l t = true := by unfold oDR; exact decide_eq_true ⟨e1, rfl, h5⟩
      have e3 : oDW who false l t = false := by unfold oDW; exact decide_eq_false (fun e => e.2.2 h5)
      have e4 : oDH who false l t = t := by unfold oDH; rw [e2]; rfl
      have e5 : oDL who false l t = l := by unfold oDL; rw [e3]; rfl
      rw [e1, e2, e3, e4, e5]
      have q5 : decide (who < 0) = true := decide_eq_true h5
      have g1 : (w.setCell ⟨D, 0, none⟩ (.int .i64 t)).heap[D]? = some (.cells #[.int .i64 t, .bool false, .slice a l.length cap] OnT (0, 0)) := by
        rw [heap_setCell_same w D 0 _ _ _ hb]
        rfl
      have FIN : Hid _ := h.turn bel0 (mk' := onC t false) (v := .slice a l.length cap) g1 (fun c hc => heap_setCell_other _ _ _ _ (by simpa using hc)) (by simp) ⟨rfl, rfl, rfl⟩ (ho.grow (fun x hx => Or.inl hx)) h.lo
      clear hb ho h e1 e2 e3 e4 e5 h1 h2 h4 h5 g1 bel0
      go_enter Try.func22, Try.ntmps22
      go_wp2_with (go_at_call 26; refine hh.mono ?_; rintro e w1 ⟨rfl, rfl⟩)
      go_ret3
      exact ⟨rfl, _, FIN.out⟩
    · have e2 : oDR who false l t = false := by unfold oDR; exact decide_eq_false (fun e => h5 e.2.2)
      have e3 : oDW who false l t = true := by unfold oDW; exact decide_eq_true ⟨e1, rfl, h5⟩
      have e4 : oDH who false l t = who := by unfold oDH; rw [e2]; rfl
      have e5 : oDL who false l t = l ++ [t] := by unfold oDL; rw [e3]; rfl
      rw [e1, e2, e3, e4, e5]
      have q5 : decide (who < 0) = false := decide_eq_false h5
      obtain ⟨i0, hi, hz0, hz1, hz2⟩ := info_parts infoI
      have fin : ∀ (w3 : World) (u3 : Value), Below w.heap.size w w3 → w3.ownsRow w.heap.size 3 1 u3 (l.length + 1) (rowL intC (l ++ [t])) → ∃ S', OnAt (w3.setCell ⟨D, 2, none⟩ u3) base D S' who false (l ++ [t]) ∧ Kept w (w3.setCell ⟨D, 2, none⟩ u3) S S' := fun w3 u3 b3 r3 => by
        refine ⟨_, h.turn b3 (mk' := onC who false) (v := u3) ?_ (fun c hc => heap_setCell_other _ _ _ _ (by simpa using hc)) (by simp) ⟨rfl, rfl, rfl⟩ (OwnRow.new (k := 1) (T := 3) intC_len (by rw [List.length_append]; exact r3) hD (fun x h1 h2 => Or.inr ⟨h1, h2⟩)) (fun x hx => ?_)⟩
        · rw [heap_setCell_same w3 D 2 _ _ _ ((b3.block D hD).trans hb)]
          rfl
        · rcases List.mem_append.1 hx with hx | hx
          · exact h.lo x hx
          · rw [List.mem_singleton] at hx
            rw [hx]
            exact ht
      have FIN : Hid _ := fin
      have HQ : Hid _ := ho.at'
      clear hb ho h e1 e2 e3 e4 e5 h1 h2 h4 h5 fin bel0
      go_enter Try.func22, Try.ntmps22
      go_wp2_with (first
        | (at_builtin; have kz := d2; refine wpList_app_row (k := 1) (enc := intC) (l := [t]) rfl (.tmp 41) (.tmp 43) 26 3 rfl i0 _ 8 Try.underlying26 hi hz0 hz1 hz2 rfl (by decide) intC_len intC_one rfl rfl (h2.alloc _) (RowAt.built (heap_alloc_new w2 _) rfl 1 rfl rfl) (by simp; have := d2.size; omega) (by simp; omega) (by simp; omega) ?_; intro u3 w3 h3 b3; obtain ⟨p3, n3, q3, rfl⟩ := own_form h3; have b4 : Below w.heap.size w w3 := (d2.alloc d2.size _).trans b3.below; have z3 := (b4.cell (p := ⟨D, 2, none⟩) (by exact hD)).trans c2; have y3 := (b4.frozen (p := ⟨D, 2, none⟩) (by exact hD)).trans f2)
        | (at_builtin; refine wpList_app_row (k := 1) (enc := intC) (l := l) rfl (.const (.slice none 0 0)) (.tmp 40) 26 3 rfl i0 _ 8 Try.underlying26 hi hz0 hz1 hz2 rfl (by decide) intC_len intC_one (base := w.heap.size) (n := 0) (xs := []) rfl rfl (World.ownsRow_nil _ _ _ _) HQ.out (Nat.le_refl _) (by omega) (by omega) ?_; intro u2 w2 h2 dd2; have d2 := dd2.below)
        | (go_at_call 26; refine hh.mono ?_; rintro e w1 ⟨rfl, rfl⟩))
      go_ret3
      refine ⟨rfl, FIN.out _ _ b4 ?_⟩
      have e3 : 0 + l.length + [t].length = l.length + 1 := by simp
      have e4 : [] ++ rowL intC l ++ rowL intC [t] = rowL intC (l ++ [t]) := by rw [rowL_append]; simp
      rw [e3, e4] at h3
      exact h3
set_option maxHeartbeats 3200000 in
set_option maxRecDepth 100000 in
theorem on_doneO (h : OnAt w base D S who ov l) (t : Int) : Calls Try.prog 20 #[.pointer (some ⟨D, 0, none⟩), .int .i64 t] w fun e w' => ∃ u, e = .returned (.tuple #[u, .int .i64 (oEZ who t)]) ∧ (RowAt intC w' u (oEO who l t) ∧ OutOf S w.heap.size u) ∧ ∃ S', OnAt w' base D S' (oEH who t) (oEV who ov t) (oEL who l t) ∧ Kept w w' S S' := by
  obtain ⟨a, cap, hb, c0, c1, c2, f0, f1, f2, ho, hD⟩ := h.cells
  have H : Hid (OnAt w base D S who ov l) := h
  unfold oEZ oEO oEH oEV oEL
  by_cases h1 : t < 0 ∨ ¬ who = t
  · rw [if_pos h1, if_pos h1, if_pos h1, if_pos h1, if_pos h1]
    by_cases h2 : t < 0
    · have q1 : decide (t < 0) = true := decide_eq_true h2
      clear hb ho h h1 h2
      go_enter Try.func20, Try.ntmps20
      go_wp2
      go_ret2
      exact ⟨_, rfl, ⟨RowAt.nil _, OutOf.nil _ _⟩, S, H.out, Kept.refl _ _⟩
    · have q1 : decide (t < 0) = false := decide_eq_false h2
      have q2 : (who == t) = false := beq_eq_false_iff_ne.2 (h1.elim (fun h => absurd h h2) id)
      clear hb ho h h1 h2
      go_enter Try.func20, Try.ntmps20
      go_wp2
      go_ret2
      exact ⟨_, rfl, ⟨RowAt.nil _, OutOf.nil _ _⟩, S, H.out, Kept.refl _ _⟩
  · rw [if_neg h1, if_neg h1, if_neg h1, if_neg h1, if_neg h1]
    have q1 : decide (t < 0) = false := decide_eq_false (fun e => h1 (Or.inl e))
    have h3 : who = t := Decidable.byContradiction (fun e => h1 (Or.inr e))
    have q2 : (who == t) = true := beq_iff_eq.2 h3
    have bel0 : Below w.heap.size w w := Below.refl _ w
    have g1 : (w.setCell ⟨D, 0, none⟩ (.int .i64 (-1))).heap[D]? = some (.cells #[.int .i64 (-1), .bool ov, .slice a l.length cap] OnT (0, 0)) := by
      rw [heap_setCell_same w D 0 _ _ _ hb]
      rfl
    have g2 : ((w.setCell ⟨D, 0, none⟩ (.int .i64 (-1))).setCell ⟨D, 1, none⟩ (.bool true)).heap[D]? = some (.cells #[.int .i64 (-1), .bool true, .slice a l.length cap] OnT (0, 0)) := by
      rw [heap_setCell_same _ D 1 _ _ _ g1]
      rfl
    have g3 : (((w.setCell ⟨D, 0, none⟩ (.int .i64 (-1))).setCell ⟨D, 1, none⟩ (.bool true)).setCell ⟨D, 2, none⟩ (.slice none 0 0)).heap[D]? = some (.cells #[.int .i64 (-1), .bool true, .slice none 0 0] OnT (0, 0)) := by
      rw [heap_setCell_same _ D 2 _ _ _ g2]
      rfl
    have ho3 : ∀ c, c ≠ D → (((w.setCell ⟨D, 0, none⟩ (.int .i64 (-1))).setCell ⟨D, 1, none⟩ (.bool true)).setCell ⟨D, 2, none⟩ (.slice none 0 0)).heap[c]? = w.heap[c]? := fun c hc => by
      rw [heap_setCell_other _ _ _ _ (by simpa using hc), heap_setCell_other _ _ _ _ (by simpa using hc), heap_setCell_other _ _ _ _ (by simpa using hc)]
    have FIN : Hid _ := h.turn bel0 (mk' := onC (-1) true) (v := .slice none 0 0) g3 ho3 (by simp) ⟨rfl, rfl, rfl⟩ (OwnRow.nil _ _ _) (l' := []) (fun x hx => by cases hx)
    have HO : Hid (OutOf S w.heap.size (.slice a l.length cap)) := fun bk off m cp h0 e => Or.inl (ho.own bk off m cp h0 e).1
    have HR : Hid _ := ho.at'.keep (w' := ((w.setCell ⟨D, 0, none⟩ (.int .i64 (-1))).setCell ⟨D, 1, none⟩ (.bool true)).setCell ⟨D, 2, none⟩ (.slice none 0 0)) (by simp) (fun bk off m cp h0 e => ho3 bk (ho.own bk off m cp h0 e).2)
    clear hb ho h h1 h3 bel0 g1 g2 g3 ho3
    go_enter Try.func20, Try.ntmps20
    go_wp2
    go_ret2
    exact ⟨_, rfl, ⟨HR.out, HO.out⟩, _, FIN.out⟩
theorem on_done (h : OnAt w base D S who ov l) (t : Int) : Calls Try.prog 20 #[.pointer (some ⟨D, 0, none⟩), .int .i64 t] w fun e w' => ∃ u, e = .returned (.tuple #[u, .int .i64 (oEZ who t)]) ∧ RowAt intC w' u (oEO who l t) ∧ ∃ S', OnAt w' base D S' (oEH who t) (oEV who ov t) (oEL who l t) ∧ Kept w w' S S' :=
  (on_doneO h t).mono (fun _ _ ⟨u, h1, h2, h3⟩ => ⟨u, h1, h2.1, h3⟩)
end
end Go.Proofs.Ytcjmohfglggonaa
