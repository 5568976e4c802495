/-
  Chapter 4's example ('awake'): it answers true, and nothing that was there has turned. No condition.
-/
import Derived.Test.YtmmdcbgmhjheeaaGEnc
import Derived.Test.YtmmdcbgmhjheeaaGDec
import Derived.Test.YtmmdcbgmhjheeaaGSame
import Derived.Test.YtmmdcbgmhjheeaaMgDec
namespace Go.Proofs.Ytmmdcbgmhjheeaa
open Go.RowKit


def mB : Ms := ⟨7, 1, 0, 9, 0, 2, 0, 0, [], Cm.zero, 0, 0, 0, 0, 0, ⟨#[]⟩⟩
theorem awM : mayM mB = true := by decide +kernel
theorem awE : (⟨(encM mB).toArray⟩ : ByteArray) = ⟨#[14, 2, 0, 18, 0, 4, 0, 0, 0, 5, 0, 0, 0, 0, 0, 0, 0, 0, 0, 0, 0]⟩ := by decide +kernel
theorem awL : (encM mB).length ≤ 524288 := by decide +kernel
theorem aw1 : encMT mB = (⟨#[14, 2, 0, 18, 0, 4, 0, 0, 0, 5, 0, 0, 0, 0, 0, 0, 0, 0, 0, 0, 0]⟩, 0) := by unfold encMT; rw [if_pos ⟨awM, awL⟩, awE]
theorem aw2 : decMT ⟨#[14, 2, 0, 18, 0, 4, 0, 0, 0, 5, 0, 0, 0, 0, 0, 0, 0, 0, 0, 0, 0]⟩ = (mB, 0) := by
  have h := decM_enc awM (show mB.tk < 18446744073709551616 by decide +kernel) awL
  rw [awE] at h
  unfold decMT
  rw [h]
theorem awK : okH ⟨#[]⟩ := by unfold okH; decide +kernel
theorem awN : (readH (⟨#[]⟩, false)).1.n = 0 := by decide +kernel
theorem awC : ¬ (readC (readL (readH (⟨#[]⟩, false)).2).1.c).2 = 0 := by decide +kernel
theorem aw3 : decMT ⟨#[]⟩ = (Ms.zero, 2) := by
  refine decMT_c (l := []) (τ := (readH (⟨#[]⟩, false)).2) awK ?_ ?_
  · rw [awN]
    exact readEs_zero _
  · unfold decC
    rw [if_neg (fun h => awC h.1)]
theorem aw4 : encMT Ms.zero = (⟨#[]⟩, 1) := encMT_no (by decide +kernel)

/-- A message beside others: its block, its entries. -/
structure MAt (w : World) (B : Nat) (m : Ms) (v : Value) : Prop where
  li : MLies w B m v
  en : EntAt w v m.es
theorem MAt.below {w w' : World} {B : Nat} {m : Ms} {v : Value} (h : MAt w B m v) (k : Below w.heap.size w w') : MAt w' B m v := ⟨h.li.below k, h.en.below k⟩
theorem MAt.grown {w w' : World} {B g : Nat} {m : Ms} {v : Value} (h : MAt w B m v) (k : w.grownBy w' (some g)) (hB : B ≠ g) (hg : ∀ bk, (∃ off n c, v = .slice (some ⟨bk, off, none⟩) n c) → bk ≠ g) : MAt w' B m v := by
  refine ⟨h.li.far (k.block _ h.li.lt (fun e => hB (Option.some.inj e))), ?_⟩
  obtain ⟨a, cap, hv, he⟩ := h.en.ex
  refine ⟨⟨a, cap, hv, ?_⟩⟩
  rcases he with h0 | ⟨bk, off, ha, hb, hc⟩
  · exact Or.inl h0
  · have hne : bk ≠ g := hg bk ⟨off, _, cap, by rw [hv, ha]⟩
    refine Or.inr ⟨bk, off, ha, Nat.lt_of_lt_of_le hb k.size, fun j hj => ?_⟩
    have c : ∀ i, w'.cell? ⟨bk, i, none⟩ = w.cell? ⟨bk, i, none⟩ := fun i => World.cell?_of_block (k.block bk hb (fun e => hne (Option.some.inj e)))
    have z := hc j hj
    exact ⟨(c _).trans z.c0, (c _).trans z.c1, (c _).trans z.c2, (c _).trans z.c3, (c _).trans z.c4, (c _).trans z.c5, (c _).trans z.c6⟩
/-- A message stored into a block that is new: nothing else has turned. -/
theorem below_store {w w' : World} (h : (w.alloc (.cells #[.int .i64 0, .int .i64 0, .int .i64 0, .int .i64 0, .int .i64 0, .int .i64 0, .int .i64 0, .int .i64 0, .slice none 0 0, .int .i64 0, .int .i64 0, .int .i64 0, .string ⟨#[]⟩, .int .i64 0, .int .i64 0, .int .i64 0, .int .i64 0, .int .u64 0, .int .i64 0, .string ⟨#[]⟩] 30)).grownBy w' (some w.heap.size)) : Below w.heap.size w w' :=
  ⟨h.os, h.tape, h.output, Nat.le_trans (by simp) h.size, fun k hk => (h.block k (by simp; omega) (fun e => by have := Option.some.inj e; omega)).trans (Below.heap_alloc _ _ _ hk)⟩
theorem zero_lies (w : World) : MLies (w.alloc (.cells #[.int .i64 0, .int .i64 0, .int .i64 0, .int .i64 0, .int .i64 0, .int .i64 0, .int .i64 0, .int .i64 0, .slice none 0 0, .int .i64 0, .int .i64 0, .int .i64 0, .string ⟨#[]⟩, .int .i64 0, .int .i64 0, .int .i64 0, .int .i64 0, .int .u64 0, .int .i64 0, .string ⟨#[]⟩] 30)) w.heap.size Ms.zero (.slice none 0 0) := heap_alloc_new _ _

set_option maxHeartbeats 6400000 in
set_option maxRecDepth 100000 in
theorem awake_any (w : World) : Calls Try.prog 9 #[] w fun e w' => e = .returned (.bool true) ∧ Below w.heap.size w w' := by
  have q1 := fun w => gencode_any mB (.slice none 0 0) w (EntAt.nothing _) (by show (0 : Nat) ≤ _; omega) (by decide +kernel)
  rw [aw1] at q1
  have q2 := fun w => gdecode_any ⟨#[14, 2, 0, 18, 0, 4, 0, 0, 0, 5, 0, 0, 0, 0, 0, 0, 0, 0, 0, 0, 0]⟩ w
  rw [aw2] at q2
  have q3 := fun w => gdecode_any ⟨#[]⟩ w
  rw [aw3] at q3
  have q4 : ∀ w, Calls Try.prog 7 #[.agg #[.int .i64 0, .int .i64 0, .int .i64 0, .int .i64 0, .int .i64 0, .int .i64 0, .int .i64 0, .int .i64 0, .slice none 0 0, .int .i64 0, .int .i64 0, .int .i64 0, .string ⟨#[]⟩, .int .i64 0, .int .i64 0, .int .i64 0, .int .i64 0, .int .u64 0, .int .i64 0, .string ⟨#[]⟩]] w fun e w' => e = .returned (.tuple #[.string ⟨#[]⟩, .int .i64 1]) ∧ Below w.heap.size w w' := fun w => by
    have := gencode_any Ms.zero (.slice none 0 0) w (EntAt.nothing _) (by show (0 : Nat) ≤ _; omega) (by decide +kernel)
    rw [aw4] at this
    exact this
  have z0 := zero_lies w
  go_enter Try.func9, Try.ntmps9
  go_wp2_with (first
    | (go_at_call 13; refine (gsame_any mB mB _ _ _ (by exact x7.en) (by exact x7.en) (by show (0 : Nat) ≤ _; omega) true (by simp)).mono ?_; rintro e w8 ⟨rfl, b8⟩; have f8 := bmm f7 f7.size b8)
    | (go_at_call 12; refine (msame_any mB mB _ _ _ (by exact x6.en) (by exact y6.en) (by show (0 : Nat) ≤ _; omega) true (by simp)).mono ?_; rintro e w7 ⟨rfl, b7⟩; have x7 := x6.below b7; have y7 := y6.below b7; have f7 := bmm f6 f6.size b7)
    | (go_at_call 7; have no := c3; refine (q4 _).mono ?_; rintro e w6 ⟨rfl, b6⟩; have x6 := x5.below b6; have y6 := y5.below b6; have f6 := bmm f5 f5.size b6)
    | (go_at_call 10; have no := c2; refine (q3 _).mono ?_; rintro e w4 ⟨v4, rfl, e4, b4⟩; obtain ⟨p4, n4, rfl, _⟩ := e4.ex; have x4 := x3.below b4; have y4 := y3.below b4; have f4 := bmm f3 f3.size b4; have z4 := zero_lies w4; have c3 : True := trivial)
    | (go_at_call 10; refine (q2 _).mono ?_; rintro e w2 ⟨v2, rfl, e2, b2⟩; obtain ⟨p2, n2, rfl, _⟩ := e2.ex; have x2 := x1'.below b2; have f2 := bmm f1' f1'.size b2; have z2 := zero_lies w2; have c2 : True := trivial)
    | (go_at_call 7; refine (q1 _).mono ?_; rintro e w1' ⟨rfl, b1⟩; have x1' := x1.below b1; have f1' := bmm f1 f1.size b1)
    | (show wpList _ _ _ (⟨_, Op.load 30 _, _, _, _, _⟩ :: _) _ _; refine load_msg rfl _ rfl rfl (by first | exact x7.li | exact y6.li | exact x6.li | exact x1.li) ?_)
    | (show wpList _ _ _ (⟨_, Op.store 30 _ _, _, _, _, _⟩ :: _) _ _; have no := c3; refine store_msg rfl _ _ rfl rfl (by exact z4) _ _ _ (m := Ms.zero) rfl ?_; intro w5 l5 g5; have d5 := below_store g5; have x5 := x4.below d5; have y5 := y4.below d5; have f5 := bmm f4 f4.size d5)
    | (show wpList _ _ _ (⟨_, Op.store 30 _ _, _, _, _, _⟩ :: _) _ _; have no := c2; refine store_msg rfl _ _ rfl rfl (by exact z2) _ _ _ (m := mB) rfl ?_; intro w3 l3 g3; have d3 := below_store g3; have x3 := x2.below d3; have f3 := bmm f2 f2.size d3; have y3 : MAt w3 w2.heap.size mB _ := ⟨l3, e2.below d3⟩)
    | (show wpList _ _ _ (⟨_, Op.store 30 _ _, _, _, _, _⟩ :: _) _ _; refine store_msg rfl _ _ rfl rfl (by exact z0) none 0 0 (m := mB) rfl ?_; intro w1 l1 g1; have f1 := below_store g1; have x1 : MAt w1 w.heap.size mB (.slice none 0 0) := ⟨l1, EntAt.nothing _⟩))
  go_ret
  exact ⟨rfl, f8⟩
end Go.Proofs.Ytmmdcbgmhjheeaa
