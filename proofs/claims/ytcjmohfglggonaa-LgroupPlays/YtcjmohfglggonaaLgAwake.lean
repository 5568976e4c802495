/-
  Chapter 9's examples, by the program itself: 'awake' answers true. No condition.
-/
import Derived.Test.YtcjmohfglggonaaLgCode
namespace Go.Proofs.Ytcjmohfglggonaa
open Go.RowKit

section
variable {w w' : World} {base D : Nat} {S S' : Nat → Prop} {n who : Int} {ov : Bool} {l : List Int}
theorem PGr.drew (h : PGr w base D S n l) : PGr w.drew base D S n l := h.keep (Nat.le_refl _) (fun _ _ => rfl)
theorem POn.drew (h : POn w base D S who ov l) : POn w.drew base D S who ov l := h.keep (Nat.le_refl _) (fun _ _ => rfl)
theorem PGr.base_le (h : PGr w base D S n l) : base ≤ w.heap.size := by have := h.bd D h.sD; omega
theorem POn.base_le (h : POn w base D S who ov l) : base ≤ w.heap.size := by have := h.bd D h.sD; omega
theorem PGr.below (h : PGr w base D S n l) (k : Kept w w' S S') : Below base w w' := k.low h.base_le (fun b hb => (h.bd b hb).1)
theorem POn.below (h : POn w base D S who ov l) (k : Kept w w' S S') : Below base w w' := k.low h.base_le (fun b hb => (h.bd b hb).1)
end
/-- A waitgroup and a once beside each other. -/
structure AG (w : World) (B Dg : Nat) (Sg : Nat → Prop) (n : Int) (l : List Int) (Dq : Nat) (So : Nat → Prop) (who : Int) (ov : Bool) (m : List Int) : Prop where
  g : PGr w B Dg Sg n l
  o : POn w B Dq So who ov m
  ap : ∀ b, Sg b → ¬ So b
/-- A number that was handed out: it lies apart from both. -/
structure Out (w : World) (Sg So : Nat → Prop) (bk off : Nat) (x : Int) : Prop where
  lt : bk < w.heap.size
  cell : w.cell? ⟨bk, off, none⟩ = some (.int .i64 x)
  ng : ¬ Sg bk
  no : ¬ So bk
section
variable {w w' : World} {B Dg Dq : Nat} {Sg So S' : Nat → Prop} {n n' who who' : Int} {l l' m m' : List Int} {ov ov' : Bool} {bk off : Nat} {x : Int}
theorem AG.stepG (h : AG w B Dg Sg n l Dq So who ov m) (hm : PGr w' B Dg S' n' l') (k : Kept w w' Sg S') : AG w' B Dg S' n' l' Dq So who ov m :=
  ⟨hm, h.o.keep k.size (fun b hb => k.kept b (h.o.bd b hb).2 (fun h1 => h.ap b h1 hb)), apart_old (fun b hb => (h.o.bd b hb).2) h.ap k⟩
theorem AG.stepO (h : AG w B Dg Sg n l Dq So who ov m) (hr : POn w' B Dq S' who' ov' m') (k : Kept w w' So S') : AG w' B Dg Sg n l Dq S' who' ov' m' :=
  ⟨h.g.keep k.size (fun b hb => k.kept b (h.g.bd b hb).2 (fun h1 => h.ap b hb h1)), hr, fun b h1 h2 => apart_old (fun b hb => (h.g.bd b hb).2) (fun b h3 h4 => h.ap b h4 h3) k b h2 h1⟩
theorem AG.start {w1 w2 : World} (h1 : PGr w1 B Dg Sg n l) (h2 : POn w2 w1.heap.size Dq So who ov m) (b2 : Below w1.heap.size w1 w2) : AG w2 B Dg Sg n l Dq So who ov m :=
  ⟨h1.fresh b2, h2.low h1.base_le, fun b h3 h4 => by have := (h1.bd b h3).2; have := (h2.bd b h4).1; omega⟩
theorem Out.stepG (h : Out w Sg So bk off x) (k : Kept w w' Sg S') : Out w' S' So bk off x :=
  ⟨Nat.lt_of_lt_of_le h.lt k.size, (World.cell?_of_block (k.kept bk h.lt h.ng)).trans h.cell, fun h1 => (k.old bk h1).elim h.ng (fun h2 => by have := h.lt; omega), h.no⟩
theorem Out.stepO (h : Out w Sg So bk off x) (k : Kept w w' So S') : Out w' Sg S' bk off x :=
  ⟨Nat.lt_of_lt_of_le h.lt k.size, (World.cell?_of_block (k.kept bk h.lt h.no)).trans h.cell, h.ng, fun h1 => (k.old bk h1).elim h.no (fun h2 => by have := h.lt; omega)⟩
end
theorem okS {x : Int} (h : -1000 ≤ x ∧ x ≤ 1000) : okI x := ⟨by omega, by omega⟩
section
variable {w : World} {B Dg Dq : Nat} {Sg So : Nat → Prop} {n who : Int} {l m : List Int} {ov : Bool}
theorem ag1 (h : AG w B Dg Sg 0 [] Dq So who ov m) : Calls Try.prog 11 #[.pointer (some ⟨Dg, 0, none⟩), .int .i64 2] w fun e w' => ∃ u, e = .returned (.tuple #[u, .int .i64 0]) ∧ Below B w w' ∧ ∃ S', AG w' B Dg S' 2 [] Dq So who ov m :=
  (pg_add h.g 2 (okS (by decide)) (by decide) (by decide)).mono fun _ _ ⟨u, e1, _, S', g1, g2, _⟩ => ⟨u, e1, h.g.below g2, S', h.stepG g1 g2⟩
theorem ag2 (h : AG w B Dg Sg 2 [] Dq So who ov m) : Calls Try.prog 9 #[.pointer (some ⟨Dg, 0, none⟩), .int .i64 7] w fun e w' => e = .returned (.tuple #[.bool false, .int .i64 0]) ∧ Below B w w' ∧ ∃ S', AG w' B Dg S' 2 [7] Dq So who ov m :=
  (pg_wait h.g 7 (okS (by decide)) (by decide)).mono fun _ _ ⟨e1, S', g1, g2⟩ => ⟨e1, h.g.below g2, S', h.stepG g1 g2⟩
theorem ag3 (h : AG w B Dg Sg 2 [7] Dq So who ov m) : Calls Try.prog 11 #[.pointer (some ⟨Dg, 0, none⟩), .int .i64 (-1)] w fun e w' => ∃ a cap, e = .returned (.tuple #[.slice a 0 cap, .int .i64 0]) ∧ Below B w w' ∧ ∃ S', AG w' B Dg S' 1 [7] Dq So who ov m :=
  (pg_add h.g (-1) (okS (by decide)) (by decide) (by decide)).mono fun _ _ ⟨u, e1, r, S', g1, g2, _⟩ => by
    change RowAt intC _ u [] at r
    obtain ⟨a, cap, rfl⟩ := r.none0
    exact ⟨a, cap, e1, h.g.below g2, S', h.stepG g1 g2⟩
theorem ag4 (h : AG w B Dg Sg 1 [7] Dq So who ov m) : Calls Try.prog 11 #[.pointer (some ⟨Dg, 0, none⟩), .int .i64 (-1)] w fun e w' => ∃ bk off cap, e = .returned (.tuple #[.slice (some ⟨bk, off, none⟩) 1 cap, .int .i64 0]) ∧ Below B w w' ∧ ∃ S', AG w' B Dg S' 0 [] Dq So who ov m ∧ Out w' S' So bk off 7 :=
  (pg_add h.g (-1) (okS (by decide)) (by decide) (by decide)).mono fun _ _ ⟨u, e1, r, S', g1, g2, g3⟩ => by
    change RowAt intC _ u [7] at r
    obtain ⟨bk, off, cap, rfl, _, hb, hx⟩ := r.cells intC_len (by decide)
    have h3 := g3 bk off 1 cap (by decide) rfl
    exact ⟨bk, off, cap, e1, h.g.below g2, S', h.stepG g1 g2, hb, hx 0 (by decide) 0 _ (by decide) rfl, h3.2, fun h4 => h3.1.elim (fun h5 => h.ap bk h5 h4) (fun h5 => by have := (h.o.bd bk h4).2; omega)⟩
theorem ag5 (h : AG w B Dg Sg 0 [] Dq So who ov m) : Calls Try.prog 11 #[.pointer (some ⟨Dg, 0, none⟩), .int .i64 (-1)] w fun e w' => ∃ u, e = .returned (.tuple #[u, .int .i64 14]) ∧ Below B w w' ∧ ∃ S', AG w' B Dg S' 0 [] Dq So who ov m ∧ Kept w w' Sg S' :=
  (pg_add h.g (-1) (okS (by decide)) (by decide) (by decide)).mono fun _ _ ⟨u, e1, _, S', g1, g2, _⟩ => ⟨u, e1, h.g.below g2, S', h.stepG g1 g2, g2⟩
theorem ag6 (h : AG w B Dg Sg n l Dq So (-1) false []) : Calls Try.prog 21 #[.pointer (some ⟨Dq, 0, none⟩), .int .i64 1] w fun e w' => e = .returned (.tuple #[.bool true, .bool false, .int .i64 0]) ∧ Below B w w' ∧ ∃ S', AG w' B Dg Sg n l Dq S' 1 false [] ∧ Kept w w' So S' :=
  (po_do h.o 1 (okS (by decide)) (by decide)).mono fun _ _ ⟨e1, S', g1, g2⟩ => ⟨e1, h.o.below g2, S', h.stepO g1 g2, g2⟩
theorem ag7 (h : AG w B Dg Sg n l Dq So 1 false []) : Calls Try.prog 21 #[.pointer (some ⟨Dq, 0, none⟩), .int .i64 2] w fun e w' => e = .returned (.tuple #[.bool false, .bool true, .int .i64 0]) ∧ Below B w w' ∧ ∃ S', AG w' B Dg Sg n l Dq S' 1 false [2] ∧ Kept w w' So S' :=
  (po_do h.o 2 (okS (by decide)) (by decide)).mono fun _ _ ⟨e1, S', g1, g2⟩ => ⟨e1, h.o.below g2, S', h.stepO g1 g2, g2⟩
theorem ag8 (h : AG w B Dg Sg n l Dq So 1 false [2]) : Calls Try.prog 19 #[.pointer (some ⟨Dq, 0, none⟩), .int .i64 1] w fun e w' => ∃ bk off cap, e = .returned (.tuple #[.slice (some ⟨bk, off, none⟩) 1 cap, .int .i64 0]) ∧ w'.cell? ⟨bk, off, none⟩ = some (.int .i64 2) ∧ Below B w w' ∧ ∃ S', AG w' B Dg Sg n l Dq S' (-1) true [] ∧ Kept w w' So S' :=
  (po_done h.o 1 (okS (by decide)) (by decide)).mono fun _ _ ⟨u, e1, r, S', g1, g2, _⟩ => by
    change RowAt intC _ u [2] at r
    obtain ⟨bk, off, cap, rfl, _, hb, hx⟩ := r.cells intC_len (by decide)
    exact ⟨bk, off, cap, e1, hx 0 (by decide) 0 _ (by decide) rfl, h.o.below g2, S', h.stepO g1 g2, g2⟩
end
theorem cell_lt {w : World} {a : Addr} {v : Value} (h : w.cell? a = some v) : a.block < w.heap.size := by
  unfold World.cell? at h
  cases hb : w.heap[a.block]? with
  | none => rw [hb] at h; simp at h
  | some o => exact (Array.getElem?_eq_some_iff.1 hb).1
set_option maxHeartbeats 6400000 in
set_option maxRecDepth 100000 in
theorem awake9_any (w : World) : Calls Try.prog 16 #[] w fun e w' => e = .returned (.bool true) ∧ Below w.heap.size w w' := by
  have hn := pg_new w
  obtain ⟨B, hB⟩ : ∃ B, B = w.heap.size := ⟨_, rfl⟩
  rw [← hB] at hn ⊢
  have HB : Hid _ := hB
  clear hB
  go_enter Try.func16, Try.ntmps16
  go_wp2_with (first
    | (go_at_call 23; refine (po_state k11.o).mono ?_; rintro e w12 ⟨rfl, b12⟩; have x12 := (b12.cell (p := ⟨bg, og, none⟩) (by exact cell_lt x11)).trans x11; have y12 := (b12.cell (p := ⟨bl, ol, none⟩) (by exact cell_lt y11)).trans y11; have hB11 := k11.o.base_le)
    | (go_at_call 19; refine (ag8 k10).mono ?_; rintro e w11 ⟨bl, ol, cl, rfl, y11, b11, S11, k11, kk11⟩; have o11 := o10.stepO kk11; have x11 := o11.cell; clear k10 o10)
    | (go_at_call 21; refine (ag7 k9).mono ?_; rintro e w10 ⟨rfl, b10, S10, k10, kk10⟩; have o10 := o9.stepO kk10; clear k9 o9)
    | (go_at_call 21; refine (ag6 k8).mono ?_; rintro e w9 ⟨rfl, b9, S9, k9, kk9⟩; have o9 := o8.stepO kk9; clear k8 o8)
    | (go_at_call 11; refine (ag5 k7).mono ?_; rintro e w8 ⟨u8, rfl, b8, S8, k8, kk8⟩; have o8 := o7.stepG kk8; clear k7 o7)
    | (go_at_call 11; refine (ag4 k6).mono ?_; rintro e w7 ⟨bg, og, cg, rfl, b7, S7, k7, o7⟩; clear k6)
    | (go_at_call 11; refine (ag3 k5).mono ?_; rintro e w6 ⟨a6, c6, rfl, b6, S6, k6⟩; clear k5)
    | (go_at_call 9; refine (ag2 k4).mono ?_; rintro e w5 ⟨rfl, b5, S5, k5⟩; clear k4)
    | (go_at_call 11; refine (ag1 k3).mono ?_; rintro e w4 ⟨u4, rfl, b4, S4, k4⟩; clear k3)
    | (go_at_call 17; refine (po_new w1).mono ?_; rintro e w2 ⟨Dq, So, rfl, k2, b2⟩; have k3 := AG.start k1 k2 b2; have hB1 := k1.base_le; clear k1 k2)
    | (go_at_call 8; refine hn.mono ?_; rintro e w1 ⟨Dg, Sg, rfl, k1, b1⟩))
  go_ret
  exact ⟨rfl, (((((((((b1.trans (b2.mono hB1)).trans b4).trans b5).trans b6).trans b7).trans b8).trans b9).trans b10).trans b11).trans (b12.mono hB11)⟩
end Go.Proofs.Ytcjmohfglggonaa
