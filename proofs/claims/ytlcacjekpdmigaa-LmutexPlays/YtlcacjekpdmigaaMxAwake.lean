/-
  Chapter 8's examples, by the program itself: 'awake' answers true. No condition.
-/
import Derived.Test.YtlcacjekpdmigaaMxCode
namespace Go.Proofs.Ytlcacjekpdmigaa
open Go.RowKit

section
variable {w w' : World} {base D : Nat} {S S' : Nat → Prop} {who : Int} {l L : List Int} {wt : Bool} {q : List Wt}
theorem PMx.drew (h : PMx w base D S who l) : PMx w.drew base D S who l := h.keep (Nat.le_refl _) (fun _ _ => rfl)
theorem PRw.drew (h : PRw w base D S L wt q) : PRw w.drew base D S L wt q := h.keep (Nat.le_refl _) (fun _ _ => rfl)
theorem PMx.base_le (h : PMx w base D S who l) : base ≤ w.heap.size := by have := h.bd D h.sD; omega
theorem PRw.base_le (h : PRw w base D S L wt q) : base ≤ w.heap.size := by have := h.bd D h.sD; omega
theorem PMx.below (h : PMx w base D S who l) (k : Kept w w' S S') : Below base w w' := k.low h.base_le (fun b hb => (h.bd b hb).1)
theorem PRw.below (h : PRw w base D S L wt q) (k : Kept w w' S S') : Below base w w' := k.low h.base_le (fun b hb => (h.bd b hb).1)
theorem apart_old {T : Nat → Prop} (hb : ∀ b, T b → b < w.heap.size) (ha : ∀ b, S b → ¬ T b) (k : Kept w w' S S') : ∀ b, S' b → ¬ T b := fun b h1 h2 => by
  rcases k.old b h1 with h | h
  · exact ha b h h2
  · have := hb b h2
    omega
end
/-- A mutex and an rwlock beside each other. -/
structure AW (w : World) (B Dm : Nat) (Sm : Nat → Prop) (who : Int) (l : List Int) (Dr : Nat) (Sr : Nat → Prop) (L : List Int) (wt : Bool) (q : List Wt) : Prop where
  m : PMx w B Dm Sm who l
  r : PRw w B Dr Sr L wt q
  ap : ∀ b, Sm b → ¬ Sr b
section
variable {w w' : World} {B Dm Dr : Nat} {Sm Sr S' : Nat → Prop} {who who' : Int} {l l' L L' : List Int} {wt wt' : Bool} {q q' : List Wt}
theorem AW.stepM (h : AW w B Dm Sm who l Dr Sr L wt q) (hm : PMx w' B Dm S' who' l') (k : Kept w w' Sm S') : AW w' B Dm S' who' l' Dr Sr L wt q :=
  ⟨hm, h.r.keep k.size (fun b hb => k.kept b (h.r.bd b hb).2 (fun h1 => h.ap b h1 hb)), apart_old (fun b hb => (h.r.bd b hb).2) h.ap k⟩
theorem AW.stepR (h : AW w B Dm Sm who l Dr Sr L wt q) (hr : PRw w' B Dr S' L' wt' q') (k : Kept w w' Sr S') : AW w' B Dm Sm who l Dr S' L' wt' q' :=
  ⟨h.m.keep k.size (fun b hb => k.kept b (h.m.bd b hb).2 (fun h1 => h.ap b hb h1)), hr, fun b h1 h2 => apart_old (fun b hb => (h.m.bd b hb).2) (fun b h3 h4 => h.ap b h4 h3) k b h2 h1⟩
theorem AW.fresh (h : AW w B Dm Sm who l Dr Sr L wt q) (k : Below w.heap.size w w') : AW w' B Dm Sm who l Dr Sr L wt q := ⟨h.m.fresh k, h.r.fresh k, h.ap⟩
theorem AW.start {w1 w2 : World} (h1 : PMx w1 B Dm Sm who l) (h2 : PRw w2 w1.heap.size Dr Sr L wt q) (b2 : Below w1.heap.size w1 w2) : AW w2 B Dm Sm who l Dr Sr L wt q :=
  ⟨h1.fresh b2, h2.low h1.base_le, fun b h3 h4 => by have := (h1.bd b h3).2; have := (h2.bd b h4).1; omega⟩
end
theorem ok1 : okI 1 := ⟨by decide, by decide⟩
theorem ok2 : okI 2 := ⟨by decide, by decide⟩
theorem ok3 : okI 3 := ⟨by decide, by decide⟩
theorem ok4 : okI 4 := ⟨by decide, by decide⟩
section
variable {w : World} {B Dm Dr : Nat} {Sm Sr : Nat → Prop} {who : Int} {l L : List Int} {wt : Bool} {q : List Wt}
theorem aw1 (h : AW w B Dm Sm (-1) [] Dr Sr L wt q) : Calls Try.prog 12 #[.pointer (some ⟨Dm, 0, none⟩), .int .i64 1] w fun e w' => e = .returned (.tuple #[.bool true, .int .i64 0]) ∧ Below B w w' ∧ ∃ S', AW w' B Dm S' 1 [] Dr Sr L wt q :=
  (pm_lock h.m 1 ok1 (by decide)).mono fun _ _ ⟨e1, S', g1, g2⟩ => ⟨e1, h.m.below g2, S', h.stepM g1 g2⟩
theorem aw2 (h : AW w B Dm Sm 1 [] Dr Sr L wt q) : Calls Try.prog 12 #[.pointer (some ⟨Dm, 0, none⟩), .int .i64 2] w fun e w' => e = .returned (.tuple #[.bool false, .int .i64 0]) ∧ Below B w w' ∧ ∃ S', AW w' B Dm S' 1 [2] Dr Sr L wt q :=
  (pm_lock h.m 2 ok2 (by decide)).mono fun _ _ ⟨e1, S', g1, g2⟩ => ⟨e1, h.m.below g2, S', h.stepM g1 g2⟩
theorem aw3 (h : AW w B Dm Sm 1 [2] Dr Sr L wt q) : Calls Try.prog 10 #[.pointer (some ⟨Dm, 0, none⟩), .int .i64 1] w fun e w' => e = .returned (.tuple #[.int .i64 2, .int .i64 0]) ∧ Below B w w' ∧ ∃ S', AW w' B Dm S' 2 [] Dr Sr L wt q :=
  (pm_unlock h.m 1).mono fun _ _ ⟨e1, S', g1, g2⟩ => ⟨e1, h.m.below g2, S', h.stepM g1 g2⟩
theorem aw4 (h : AW w B Dm Sm who l Dr Sr [] false []) : Calls Try.prog 21 #[.pointer (some ⟨Dr, 0, none⟩), .int .i64 1, .bool true] w fun e w' => e = .returned (.tuple #[.bool true, .int .i64 0]) ∧ Below B w w' ∧ ∃ S', AW w' B Dm Sm who l Dr S' [1] false [] :=
  (pr_lock h.r 1 ok1 true (by decide)).mono fun _ _ ⟨e1, S', g1, g2⟩ => ⟨e1, h.r.below g2, S', h.stepR g1 g2⟩
theorem aw5 (h : AW w B Dm Sm who l Dr Sr [1] false []) : Calls Try.prog 21 #[.pointer (some ⟨Dr, 0, none⟩), .int .i64 2, .bool true] w fun e w' => e = .returned (.tuple #[.bool true, .int .i64 0]) ∧ Below B w w' ∧ ∃ S', AW w' B Dm Sm who l Dr S' [1, 2] false [] :=
  (pr_lock h.r 2 ok2 true (by decide)).mono fun _ _ ⟨e1, S', g1, g2⟩ => ⟨e1, h.r.below g2, S', h.stepR g1 g2⟩
theorem aw6 (h : AW w B Dm Sm who l Dr Sr [1, 2] false []) : Calls Try.prog 21 #[.pointer (some ⟨Dr, 0, none⟩), .int .i64 3, .bool false] w fun e w' => e = .returned (.tuple #[.bool false, .int .i64 0]) ∧ Below B w w' ∧ ∃ S', AW w' B Dm Sm who l Dr S' [1, 2] false [(3, false, true)] :=
  (pr_lock h.r 3 ok3 false (by decide)).mono fun _ _ ⟨e1, S', g1, g2⟩ => ⟨e1, h.r.below g2, S', h.stepR g1 g2⟩
theorem aw7 (h : AW w B Dm Sm who l Dr Sr [1, 2] false [(3, false, true)]) : Calls Try.prog 21 #[.pointer (some ⟨Dr, 0, none⟩), .int .i64 4, .bool true] w fun e w' => e = .returned (.tuple #[.bool false, .int .i64 0]) ∧ Below B w w' ∧ ∃ S', AW w' B Dm Sm who l Dr S' [1, 2] false [(3, false, true), (4, true, true)] :=
  (pr_lock h.r 4 ok4 true (by decide)).mono fun _ _ ⟨e1, S', g1, g2⟩ => ⟨e1, h.r.below g2, S', h.stepR g1 g2⟩
theorem aw8 (h : AW w B Dm Sm who l Dr Sr [1, 2] false [(3, false, true), (4, true, true)]) : Calls Try.prog 19 #[.pointer (some ⟨Dr, 0, none⟩), .int .i64 1, .bool true] w fun e w' => ∃ u, e = .returned (.tuple #[u, .int .i64 0]) ∧ Below B w w' ∧ ∃ S', AW w' B Dm Sm who l Dr S' [2] false [(3, false, true), (4, true, true)] :=
  (pr_unlock h.r 1 ok1 true (by decide)).mono fun _ _ ⟨u, e1, _, _, S', g1, g2⟩ => ⟨u, e1, h.r.below g2, S', h.stepR g1 g2⟩
theorem aw9 (h : AW w B Dm Sm who l Dr Sr [2] false [(3, false, true), (4, true, true)]) : Calls Try.prog 19 #[.pointer (some ⟨Dr, 0, none⟩), .int .i64 2, .bool true] w fun e w' => ∃ bk off cap, e = .returned (.tuple #[.slice (some ⟨bk, off, none⟩) 1 cap, .int .i64 0]) ∧ bk < w'.heap.size ∧ w'.cell? ⟨bk, off, none⟩ = some (.int .i64 3) ∧ Below B w w' ∧ ∃ S', AW w' B Dm Sm who l Dr S' [3] true [(4, true, true)] :=
  (pr_unlock h.r 2 ok2 true (by decide)).mono fun _ _ ⟨u, e1, r, _, S', g1, g2⟩ => by
    change RowAt intC _ u [3] at r
    obtain ⟨bk, off, cap, rfl, _, hb, hx⟩ := r.cells intC_len (by decide)
    exact ⟨bk, off, cap, e1, hb, hx 0 (by decide) 0 _ (by decide) rfl, h.r.below g2, S', h.stepR g1 g2⟩
theorem aw10 (h : AW w B Dm Sm who l Dr Sr [3] true [(4, true, true)]) : Calls Try.prog 23 #[.pointer (some ⟨Dr, 0, none⟩)] w fun e w' => ∃ a cap, e = .returned (.tuple #[.slice a 1 cap, .bool true]) ∧ Below w.heap.size w w' :=
  (pr_holders h.r).mono fun _ _ ⟨u, e1, r, b⟩ => by
    obtain ⟨a, cap, rfl⟩ := r.form
    exact ⟨a, cap, e1, b⟩
theorem aw11 (h : AW w B Dm Sm who l Dr Sr [3] true [(4, true, true)]) : Calls Try.prog 25 #[.pointer (some ⟨Dr, 0, none⟩)] w fun e w' => ∃ a cap, e = .returned (.slice a 1 cap) ∧ Below w.heap.size w w' :=
  (pr_queue h.r).mono fun _ _ ⟨u, e1, r, b⟩ => by
    obtain ⟨a, cap, rfl⟩ := r.form
    exact ⟨a, cap, e1, b⟩
end
set_option maxHeartbeats 6400000 in
set_option maxRecDepth 100000 in
theorem awake_any (w : World) : Calls Try.prog 17 #[] w fun e w' => e = .returned (.bool true) ∧ Below w.heap.size w w' := by
  have hn := pm_new w
  obtain ⟨B, hB⟩ : ∃ B, B = w.heap.size := ⟨_, rfl⟩
  rw [← hB] at hn ⊢
  have HB : Hid _ := hB
  clear hB
  go_enter Try.func17, Try.ntmps17
  go_wp2_with (first
    | (go_at_call 25; refine (aw11 k13).mono ?_; rintro e w14 ⟨a14, c14, rfl, b14⟩)
    | (go_at_call 14; refine (pm_holder k13.m).mono ?_; rintro e w13 ⟨rfl, rfl⟩)
    | (go_at_call 23; refine (aw10 k12).mono ?_; rintro e w13 ⟨a13, c13, rfl, b13⟩; have y13 := (b13.cell (p := ⟨bk, off, none⟩) (by exact hbk)).trans y12; have k13 := k12.fresh b13; clear y12 k12)
    | (go_at_call 19; refine (aw9 k11).mono ?_; rintro e w12 ⟨bk, off, c12, rfl, hbk, y12, b12, S12, k12⟩; clear k11)
    | (go_at_call 19; refine (aw8 k10).mono ?_; rintro e w11 ⟨u11, rfl, b11, S11, k11⟩; clear k10)
    | (go_at_call 21; refine (aw7 k9).mono ?_; rintro e w10 ⟨rfl, b10, S10, k10⟩; clear k9)
    | (go_at_call 21; refine (aw6 k8).mono ?_; rintro e w9 ⟨rfl, b9, S9, k9⟩; clear k8)
    | (go_at_call 21; refine (aw5 k7).mono ?_; rintro e w8 ⟨rfl, b8, S8, k8⟩; clear k7)
    | (go_at_call 21; refine (aw4 k6).mono ?_; rintro e w7 ⟨rfl, b7, S7, k7⟩; clear k6)
    | (go_at_call 10; refine (aw3 k5).mono ?_; rintro e w6 ⟨rfl, b6, S6, k6⟩; clear k5)
    | (go_at_call 12; refine (aw2 k4).mono ?_; rintro e w5 ⟨rfl, b5, S5, k5⟩; clear k4)
    | (go_at_call 12; refine (aw1 k3).mono ?_; rintro e w4 ⟨rfl, b4, S4, k4⟩; clear k3)
    | (go_at_call 18; refine (pr_new w1).mono ?_; rintro e w2 ⟨Dr, Sr, rfl, k2, b2⟩; have k3 := AW.start k1 k2 b2; have hB1 := k1.base_le; clear k1 k2)
    | (go_at_call 8; refine hn.mono ?_; rintro e w1 ⟨Dm, Sm, rfl, k1, b1⟩))
  go_ret
  have hb13 : B ≤ w13.heap.size := k13.m.base_le
  exact ⟨rfl, (((((((((((b1.trans (b2.mono hB1)).trans b4).trans b5).trans b6).trans b7).trans b8).trans b9).trans b10).trans b11).trans b12).trans (b13.mono (Nat.le_trans hB1 (by have := b2.size; have := b4.size; have := b5.size; have := b6.size; have := b7.size; have := b8.size; have := b9.size; have := b10.size; have := b11.size; have := b12.size; omega)))).trans (b14.mono hb13)⟩
end Go.Proofs.Ytlcacjekpdmigaa
