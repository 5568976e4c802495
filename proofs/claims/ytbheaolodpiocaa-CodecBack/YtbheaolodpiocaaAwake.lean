/-
  The examples of chapter 1 ('awake'): the call answers true, in every world; nothing that was there has turned. No condition.
-/
import Derived.Test.YtbheaolodpiocaaReader
namespace Go.Proofs.Ytbheaolodpiocaa
open Go.RowKit

theorem Wr.far {base B : Nat} {w w' : World} {v : Value} {bs : List UInt8} {R : Nat} (h : Wr base w B v bs) (hg : w.grownBy w' (some R)) (hB : B ≠ R) (hv : v.ownBlock ≠ some R) : Wr base w' B v bs := by
  refine ⟨h.1, ?_, h.2.2.kept hg (Or.inr hv)⟩
  rw [hg.block B h.lt (by intro e; exact hB (Option.some.inj e))]
  exact h.2.1
theorem Wr.alloc {base B : Nat} {w : World} {v : Value} {bs : List UInt8} (h : Wr base w B v bs) (o : Obj) : Wr base (w.alloc o) B v bs := by
  refine ⟨h.1, ?_, h.2.2.alloc o⟩
  rw [Below.heap_alloc w o B h.lt]
  exact h.2.1
theorem Rd.alloc {w : World} {R : Nat} {s : ByteArray} {b : Bool} (h : Rd w R s b) (o : Obj) : Rd (w.alloc o) R s b := by
  unfold Rd at h ⊢
  rw [Below.heap_alloc w o R (lt_of_block h)]
  exact h
theorem Rd.far {w w' : World} {R R' : Nat} {s : ByteArray} {b : Bool} (h : Rd w R s b) (hg : w.grownBy w' (some R')) (hR : R ≠ R') : Rd w' R s b := by
  unfold Rd at h ⊢
  rw [hg.block R (lt_of_block h) (by intro e; exact hR (Option.some.inj e))]
  exact h
theorem Rd.new (w : World) (s : ByteArray) : Rd (w.alloc (.cells #[.string s, .bool false] 61)) w.heap.size s false := heap_alloc_new w _
theorem Wr.new (w : World) : Wr w.heap.size (w.alloc (.cells #[.slice none 0 0] 53)) w.heap.size (.slice none 0 0) [] :=
  ⟨Nat.le_refl _, heap_alloc_new w _, World.ownsRow_nil _ _ _ _⟩
theorem below_far {base : Nat} {w w1 w2 : World} (h : Below base w w1) {R : Nat} (hg : w1.grownBy w2 (some R)) (hs : base ≤ w1.heap.size) (hR : base ≤ R) : Below base w w2 :=
  h.grown hg hs (fun k hk => by have := Option.some.inj hk; omega)

theorem Wr.new0 {base B : Nat} {w w' : World} {v : Value} {bs : List UInt8} (h : Wr base w B v bs) (hg : w.grownBy w' Option.none) : Wr base w' B v bs := by
  refine ⟨h.1, ?_, h.2.2.kept hg (by cases v.ownBlock <;> simp)⟩
  rw [hg.block B h.lt (by simp)]
  exact h.2.1
theorem Rd.new0 {w w' : World} {R : Nat} {s : ByteArray} {b : Bool} (h : Rd w R s b) (hg : w.grownBy w' Option.none) : Rd w' R s b := by
  unfold Rd at h ⊢
  rw [hg.block R (lt_of_block h) (by simp)]
  exact h
theorem of_new (s : ByteArray) (w : World) : Calls Try.prog 15 #[.string s] w fun e w' => ∃ R, e = .returned (.pointer (some ⟨R, 0, none⟩)) ∧ w.heap.size ≤ R ∧ Rd w' R s false ∧ w.grownBy w' Option.none :=
  (of_any s w).mono fun e w' ⟨he, hw⟩ => by
    subst hw
    exact ⟨_, he, Nat.le_refl _, Rd.new w s, World.grownBy_alloc _ _ _⟩

theorem enc0 : enc (zig 0) = [0] := by rw [enc_lt (by decide)]; rfl
theorem enc1 : enc (zig (-1)) = [1] := by rw [enc_lt (by decide)]; rfl
theorem enc64 : enc (zig 64) = [128, 1] := by rw [enc_ge (by decide), enc_lt (by decide)]; rfl
theorem enc300 : enc 300 = [172, 2] := by rw [enc_ge (by decide), enc_lt (by decide)]; rfl
theorem enc2 : enc 2 = [2] := by rw [enc_lt (by decide)]; rfl

section
variable (B : Nat) (v : Value) (w : World)
theorem aw1 (h : Wr B w B v []) : Calls Try.prog 9 #[.pointer (some ⟨B, 0, none⟩), .int .i64 0] w fun e w' => e = .returned (.tuple #[]) ∧ ∃ v', Wr B w' B v' [0] ∧ Below B w w' :=
  (wint_any B B v [] 0 (by decide) (by decide) w h (by decide)).mono fun _ _ ⟨he, v', hw, hk, _⟩ => ⟨he, v', by rw [enc0] at hw; exact hw, h.below hk⟩
theorem aw2 (h : Wr B w B v [0]) : Calls Try.prog 9 #[.pointer (some ⟨B, 0, none⟩), .int .i64 (-1)] w fun e w' => e = .returned (.tuple #[]) ∧ ∃ v', Wr B w' B v' [0, 1] ∧ Below B w w' :=
  (wint_any B B v [0] (-1) (by decide) (by decide) w h (by decide)).mono fun _ _ ⟨he, v', hw, hk, _⟩ => ⟨he, v', by rw [enc1] at hw; exact hw, h.below hk⟩
theorem aw3 (h : Wr B w B v [0, 1]) : Calls Try.prog 9 #[.pointer (some ⟨B, 0, none⟩), .int .i64 64] w fun e w' => e = .returned (.tuple #[]) ∧ ∃ v', Wr B w' B v' [0, 1, 128, 1] ∧ Below B w w' :=
  (wint_any B B v [0, 1] 64 (by decide) (by decide) w h (by decide)).mono fun _ _ ⟨he, v', hw, hk, _⟩ => ⟨he, v', by rw [enc64] at hw; exact hw, h.below hk⟩
theorem aw4 (h : Wr B w B v [0, 1, 128, 1]) : Calls Try.prog 11 #[.pointer (some ⟨B, 0, none⟩), .string ⟨#[97, 98]⟩] w fun e w' => e = .returned (.tuple #[]) ∧ ∃ v', Wr B w' B v' [0, 1, 128, 1, 2, 97, 98] ∧ Below B w w' :=
  (wtext_any B B v [0, 1, 128, 1] ⟨#[97, 98]⟩ w h (by decide)).mono fun _ _ ⟨he, v', hw, hk⟩ => ⟨he, v', by rw [show (⟨#[97, 98]⟩ : ByteArray).size = 2 from rfl, enc2] at hw; exact hw, hk⟩
theorem aw5 (h : Wr B w B v [0, 1, 128, 1, 2, 97, 98]) : Calls Try.prog 10 #[.pointer (some ⟨B, 0, none⟩), .int .u64 300] w fun e w' => e = .returned (.tuple #[]) ∧ ∃ v', Wr B w' B v' [0, 1, 128, 1, 2, 97, 98, 172, 2] ∧ Below B w w' :=
  (wu64_any B B v [0, 1, 128, 1, 2, 97, 98] 300 (by decide) w h (by decide)).mono fun _ _ ⟨he, v', hw, hk, _⟩ => ⟨he, v', by rw [enc300] at hw; exact hw, h.below hk⟩
end

theorem awU (R : Nat) (w : World) (h : Rd w R ⟨#[128, 0]⟩ false) : Calls Try.prog 18 #[.pointer (some ⟨R, 0, none⟩)] w fun e w' => e = .returned (.int .u64 0) ∧ Rd w' R ⟨#[]⟩ true ∧ w.grownBy w' (some R) :=
  ru64_any R ⟨#[128, 0]⟩ false (by decide) w h
theorem awT (R : Nat) (w : World) (h : Rd w R ⟨#[2, 97]⟩ false) : Calls Try.prog 20 #[.pointer (some ⟨R, 0, none⟩)] w fun e w' => e = .returned (.string ⟨#[]⟩) ∧ Rd w' R ⟨#[]⟩ true ∧ w.grownBy w' (some R) :=
  rtext_any R ⟨#[2, 97]⟩ false (by decide) w h
theorem awD (R : Nat) (w : World) (h : Rd w R ⟨#[]⟩ true) : Calls Try.prog 22 #[.pointer (some ⟨R, 0, none⟩)] w fun e w' => e = .returned (.int .i64 2) ∧ w = w' :=
  rdone_any R ⟨#[]⟩ true w h

set_option maxHeartbeats 800000 in
set_option maxRecDepth 100000 in
theorem awake_any (w : World) : Calls Try.prog 14 #[] w fun e w' => e = .returned (.bool true) ∧ Below w.heap.size w w' := by
  obtain ⟨B, hB⟩ : ∃ B, w.heap.size = B := ⟨_, rfl⟩
  have h1 := Wr.new w
  have hn := new_any w
  have b1 : Below w.heap.size w (w.alloc (.cells #[.slice none 0 0] 53)) := (Below.refl _ w).alloc (Nat.le_refl _) _
  rw [hB] at h1 hn b1 ⊢
  go_enter Try.func14, Try.ntmps14
  go_wp2_with (first
    | (go_at_call 22; have d2 := d1; refine (awD _ _ q10).mono ?_; rintro e w12 ⟨rfl, rfl⟩)
    | (go_at_call 22; refine (awD _ _ r10).mono ?_; rintro e w12 ⟨rfl, rfl⟩; have d1 : True := trivial)
    | (go_at_call 13; refine (wstring_any B B v6 _ w10 h10).mono ?_; rintro e w11 ⟨rfl, rfl⟩)
    | (go_at_call 20; refine (awT R2 w9 (q8.far g9 hne)).mono ?_; rintro e w10 ⟨rfl, q10, g10⟩; have r10 := r9.far g10 hne.symm; have h10 : Wr B w10 B v6 [0, 1, 128, 1, 2, 97, 98, 172, 2] := (((h6.new0 g7).new0 g8).far g9 (by have := h6.lt; omega) (fun e => by have := (h6.2.2.lt _ e).2; omega)).far g10 (by have := h6.lt; have := g7.size; omega) (fun e => by have := (h6.2.2.lt _ e).2; have := g7.size; omega))
    | (go_at_call 18; refine (awU R1 w8 (r7.new0 g8)).mono ?_; rintro e w9 ⟨rfl, r9, g9⟩; have hne : R2 ≠ R1 := (by have := lt_of_block r7; omega))
    | (go_at_call 15; refine (of_new ⟨#[2, 97]⟩ w7).mono ?_; rintro e w8 ⟨R2, rfl, hR2, q8, g8⟩)
    | (go_at_call 15; refine (of_new ⟨#[128, 0]⟩ w6).mono ?_; rintro e w7 ⟨R1, rfl, hR1, r7, g7⟩)
    | (go_at_call 10; refine (aw5 B _ _ h5).mono ?_; rintro e w6 ⟨rfl, v6, h6, b6⟩)
    | (go_at_call 11; refine (aw4 B _ _ h4).mono ?_; rintro e w5 ⟨rfl, v5, h5, b5⟩)
    | (go_at_call 9; refine (aw3 B _ _ h3).mono ?_; rintro e w4 ⟨rfl, v4, h4, b4⟩)
    | (go_at_call 9; refine (aw2 B _ _ h2).mono ?_; rintro e w3 ⟨rfl, v3, h3, b3⟩)
    | (go_at_call 9; refine (aw1 B _ _ h1).mono ?_; rintro e w2 ⟨rfl, v2, h2, b2⟩)
    | (go_at_call 8; refine hn.mono ?_; rintro e w1 ⟨rfl, hw1⟩; rw [hw1] at h1 b1; clear hw1 hB hn))
  go_ret
  have hs6 := h6.size
  have hs7 := g7.size
  have hs8 := g8.size
  have hs9 := g9.size
  have b7 : Below B w w7 := ((((((b1.trans b2).trans b3).trans b4).trans b5).trans b6)).grown g7 hs6 (by simp)
  have b8 : Below B w w8 := b7.grown g8 (by omega) (by simp)
  exact ⟨rfl, below_far (below_far b8 g9 (by omega) (by omega)) g10 (by omega) (by omega)⟩
end Go.Proofs.Ytbheaolodpiocaa
