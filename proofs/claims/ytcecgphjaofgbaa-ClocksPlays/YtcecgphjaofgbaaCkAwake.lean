/-
  Chapter 7's examples over the program's clocks. No condition.
-/
import Derived.Test.YtcecgphjaofgbaaCkCode
namespace Go.Proofs.Ytcecgphjaofgbaa
open Go.RowKit

/-- Numbers laid in a new block. -/
theorem ints_new (w : World) (l : List Int) (hl : l.length ≤ 13) (hlo : ∀ x ∈ l, -9223372036854775808 ≤ x ∧ x ≤ 9223372036854775807) (cs : Array Value) (hc : cs = (l.map (Value.int .i64)).toArray) (n : Nat) (hn : n = l.length) : IntsAt (w.alloc (.cells cs 3)) (.slice (some ⟨w.heap.size, 0, none⟩) n n) l := by
  subst hn
  refine ⟨⟨_, _, rfl, Nat.le_refl _, Or.inr ⟨w.heap.size, 0, rfl, by simp, fun j hj => ?_⟩⟩, hlo, by unfold maxLen; omega⟩
  subst hc
  rw [Nat.zero_add]
  simp [hj]
theorem not_own {w : World} {T : TypeId} {base D : Nat} {S : Nat → Prop} {l : List Nat} {real : Nat} (h : CkAt T w base D S l real) (n c : Nat) : ∀ a bk off n' cap, 0 < n' → Value.slice (some ⟨w.heap.size, 0, none⟩) n c = .slice a n' cap → a = some ⟨bk, off, none⟩ → ¬ S bk := fun a bk off n' cap _ e1 e2 hs => by
  simp only [Value.slice.injEq] at e1
  rw [← e1.1] at e2
  simp only [Option.some.injEq, Addr.mk.injEq] at e2
  have := (h.bd bk hs).2
  omega
section
variable {w : World} {base D : Nat} {S : Nat → Prop}
theorem ca1 (h : CkAt PT w base D S [0, 0] 0) : Calls Try.prog 12 #[.pointer (some ⟨D, 0, none⟩), .int .i64 8, .slice (some ⟨w.heap.size, 0, none⟩) 2 2] (w.alloc (.cells #[.int .i64 9, .int .i64 7] 3)) fun e w' => e = .returned (.int .i64 0) ∧ CkAt PT w' base D S [9, 7] 8 ∧ Below base w w' := by
  have h1 := h.fresh ((Below.refl _ w).alloc (Nat.le_refl _) (.cells #[.int .i64 9, .int .i64 7] 3))
  refine (pgo_any h1 8 (by decide) _ [9, 7] (ints_new w [9, 7] (by decide) (by decide) _ rfl 2 rfl) (not_own h 2 2)).mono fun e w' ⟨g1, g2⟩ => ?_
  have ez : goZ [0, 0] 0 8 [9, 7] = 0 := by decide
  have g3 := g2.1 ez
  rw [ez] at g1
  exact ⟨g1, g3, ((Below.refl _ w).alloc h.base_le _).trans (h1.below g2.2.2)⟩
theorem ca2 (h : CkAt PT w base D S [9, 7] 8) : Calls Try.prog 12 #[.pointer (some ⟨D, 0, none⟩), .int .i64 1, .slice (some ⟨w.heap.size, 0, none⟩) 1 1] (w.alloc (.cells #[.int .i64 1] 3)) fun e w' => e = .returned (.int .i64 1) ∧ CkAt PT w' base D S [9, 7] 8 ∧ Below base w w' := by
  have h1 := h.fresh ((Below.refl _ w).alloc (Nat.le_refl _) (.cells #[.int .i64 1] 3))
  refine (pgo_any h1 1 (by decide) _ [1] (ints_new w [1] (by decide) (by decide) _ rfl 1 rfl) (not_own h 1 1)).mono fun e w' ⟨g1, g2⟩ => ?_
  have ez : goZ [9, 7] 8 1 [1] = 1 := by decide
  have g3 := g2.2.1 (by rw [ez]; decide)
  rw [ez] at g1
  exact ⟨g1, g3, ((Below.refl _ w).alloc h.base_le _).trans (h1.below g2.2.2)⟩
end
/-- The script of the example. -/
def sc7 (w : World) : World := (w.alloc (.cells #[.int .i64 10] 3)).alloc (.cells #[.int .i64 0, .int .i64 0, .int .i64 0, .int .i64 0, .int .i64 0, .int .i64 0, .string ⟨#[]⟩, .int .i64 0, .slice none 0 0, .int .i64 5, .int .i64 8, .int .i64 0, .int .i64 0, .int .i64 0, .int .i64 0, .string ⟨#[]⟩, .int .i64 0, .slice (some ⟨w.heap.size, 0, none⟩) 1 1] 61)
theorem sc7_below (w : World) : Below w.heap.size w (sc7 w) := ((Below.refl _ w).alloc (Nat.le_refl _) _).alloc (by simp) _
theorem sc7_steps (w : World) : StepsAt (sc7 w) (.slice (some ⟨w.heap.size + 1, 0, none⟩) 2 2) [(0, 0, []), (5, 8, [10])] := by
  have hs : (w.alloc (.cells #[.int .i64 10] 3)).heap.size = w.heap.size + 1 := by simp
  have h1 : (sc7 w).heap[w.heap.size + 1]? = some (.cells #[.int .i64 0, .int .i64 0, .int .i64 0, .int .i64 0, .int .i64 0, .int .i64 0, .string ⟨#[]⟩, .int .i64 0, .slice none 0 0, .int .i64 5, .int .i64 8, .int .i64 0, .int .i64 0, .int .i64 0, .int .i64 0, .string ⟨#[]⟩, .int .i64 0, .slice (some ⟨w.heap.size, 0, none⟩) 1 1] 61 (0, 0)) := by
    have h2 := heap_alloc_new (w.alloc (.cells #[.int .i64 10] 3)) (.cells #[.int .i64 0, .int .i64 0, .int .i64 0, .int .i64 0, .int .i64 0, .int .i64 0, .string ⟨#[]⟩, .int .i64 0, .slice none 0 0, .int .i64 5, .int .i64 8, .int .i64 0, .int .i64 0, .int .i64 0, .int .i64 0, .string ⟨#[]⟩, .int .i64 0, .slice (some ⟨w.heap.size, 0, none⟩) 1 1] 61)
    rw [hs] at h2
    exact h2
  have hI := (ints_new w [10] (by decide) (by decide) _ rfl 1 rfl).fresh ((Below.refl _ _).alloc (Nat.le_refl _) (.cells #[.int .i64 0, .int .i64 0, .int .i64 0, .int .i64 0, .int .i64 0, .int .i64 0, .string ⟨#[]⟩, .int .i64 0, .slice none 0 0, .int .i64 5, .int .i64 8, .int .i64 0, .int .i64 0, .int .i64 0, .int .i64 0, .string ⟨#[]⟩, .int .i64 0, .slice (some ⟨w.heap.size, 0, none⟩) 1 1] 61))
  refine ⟨⟨_, _, rfl, Or.inr ⟨w.heap.size + 1, 0, rfl, lt_of_block h1, fun j hj => ?_⟩⟩, by unfold maxLen; decide⟩
  have hj2 : j = 0 ∨ j = 1 := by simp at hj; omega
  rcases hj2 with rfl | rfl
  · exact ⟨by simp [World.cell?, h1], by simp [World.cell?, h1], ⟨.slice none 0 0, by simp [World.cell?, h1], ⟨⟨none, 0, rfl, Nat.le_refl _, Or.inl rfl⟩, fun x hx => (by cases hx), Nat.zero_le _⟩⟩, _, _, _, _, _, _, by simp [World.cell?, h1]; rfl, by simp [World.cell?, h1]; rfl, by simp [World.cell?, h1]; rfl, by simp [World.cell?, h1]; rfl, by simp [World.cell?, h1]; rfl, by simp [World.cell?, h1]; rfl⟩
  · exact ⟨by simp [World.cell?, h1], by simp [World.cell?, h1], ⟨.slice (some ⟨w.heap.size, 0, none⟩) 1 1, by simp [World.cell?, h1], hI⟩, _, _, _, _, _, _, by simp [World.cell?, h1]; rfl, by simp [World.cell?, h1]; rfl, by simp [World.cell?, h1]; rfl, by simp [World.cell?, h1]; rfl, by simp [World.cell?, h1]; rfl, by simp [World.cell?, h1]; rfl⟩
theorem sc7_any (w : World) : Calls Try.prog 18 #[.slice (some ⟨w.heap.size + 1, 0, none⟩) 2 2, .int .i64 1] (sc7 w) fun e w' => e = .returned (.tuple #[.int .i64 1, .int .i64 19]) ∧ Below w.heap.size w w' := by
  refine (pscript_pos (sc7 w) _ _ 1 (by decide) (sc7_steps w)).mono fun e w' ⟨g1, g2⟩ => ⟨?_, (sc7_below w).trans (g2.mono (sc7_below w).size)⟩
  rw [g1]
  have e1 : scriptP [((0 : Int), (0 : Int), ([] : List Int)), (5, 8, [10])] 1 = 1 := by decide
  have e2 : scriptZ [((0 : Int), (0 : Int), ([] : List Int)), (5, 8, [10])] 1 = 19 := by decide
  rw [e1, e2]
  rfl
set_option maxHeartbeats 3200000 in
set_option maxRecDepth 100000 in
theorem awake_any (w : World) : Calls Try.prog 17 #[] w fun e w' => e = .returned (.bool true) ∧ Below w.heap.size w w' := by
  have hn := pnew_yes 2 (by decide) (by decide) w
  have b1 : boundB 8 9 = true := by decide
  have b2 : boundB 8 7 = true := by decide
  have b3 : boundB 8 10 = false := by decide
  have b4 : boundB 7 8 = false := by decide
  have a0 : atI [9, 7] 0 = 9 := by decide
  have a1 : atI [9, 7] 1 = 7 := by decide
  obtain ⟨B, hB⟩ : ∃ B, B = w.heap.size := ⟨_, rfl⟩
  have HB : Hid (B ≤ w.heap.size) := by rw [hB]; exact Nat.le_refl _
  rw [← hB] at hn ⊢
  clear hB
  go_enter Try.func17, Try.ntmps17
  go_wp2_with (first
    | (go_at_call 8; have kz := e5; refine (pnew_no 0 (Or.inl (by decide)) _).mono ?_; rintro e w9 ⟨rfl, rfl⟩)
    | (go_at_call 20; have kz := e4; refine (pbounded_any 7 8 _).mono ?_; rw [b4]; rintro e w8 ⟨rfl, rfl⟩; have e5 : True := trivial)
    | (go_at_call 20; have kz := e3; refine (pbounded_any 8 10 _).mono ?_; rw [b3]; rintro e w8 ⟨rfl, rfl⟩; have e4 : True := trivial)
    | (go_at_call 20; have kz := e2; refine (pbounded_any 8 7 _).mono ?_; rw [b2]; rintro e w8 ⟨rfl, rfl⟩; have e3 : True := trivial)
    | (go_at_call 20; refine (pbounded_any 8 9 _).mono ?_; rw [b1]; rintro e w8 ⟨rfl, rfl⟩; have e2 : True := trivial)
    | (go_at_call 16; refine (preal_any k4).mono ?_; rintro e w7 ⟨rfl, rfl⟩)
    | (go_at_call 14; have kz := d6; refine (pat_any k4 1).mono ?_; rw [a1]; rintro e w6 ⟨rfl, rfl⟩)
    | (go_at_call 14; refine (pat_any k4 0).mono ?_; rw [a0]; rintro e w5 ⟨rfl, rfl⟩; have d6 : True := trivial)
    | (go_at_call 18; refine (sc7_any w3).mono ?_; rintro e w4 ⟨rfl, x4⟩; have k4 := k3.fresh x4; have y4 := bmm y3 (Nat.le_trans HB.out y3.size) x4; clear k3 y3 x4)
    | (go_at_call 12; refine (ca2 k2).mono ?_; rintro e w3 ⟨rfl, k3, x3⟩; have y3 := y2.trans x3; clear k2 y2 x3)
    | (go_at_call 12; refine (ca1 k1).mono ?_; rintro e w2 ⟨rfl, k2, x2⟩; have y2 := y1.trans x2; clear k1 y1 x2)
    | (go_at_call 8; refine hn.mono ?_; rintro e w1 ⟨D, S, rfl, k1, y1⟩; change CkAt PT w1 B D S [0, 0] 0 at k1))
  go_ret
  exact ⟨rfl, y4⟩
end Go.Proofs.Ytcecgphjaofgbaa
