/-
  The contract of package cmds' Check: for every command, whether it may be, and nothing that was there has turned. No condition.
-/
import Derived.Test.YtdhlbldmdeepiaaGreatDoorRDSpans
import Derived.Test.YtdhlbldmdeepiaaGreatDoorRPackI
namespace Go.Proofs.YtdhlbldmdeepiaaGreatDoor
open Go.RowKit

/-- Four numbers laid in block B. -/
structure Vals (w : World) (B : Nat) (a b c d : Int) : Prop where
  lt : B < w.heap.size
  c0 : w.cell? ⟨B, 0, none⟩ = some (.int .i64 a)
  c1 : w.cell? ⟨B, 1, none⟩ = some (.int .i64 b)
  c2 : w.cell? ⟨B, 2, none⟩ = some (.int .i64 c)
  c3 : w.cell? ⟨B, 3, none⟩ = some (.int .i64 d)
theorem Vals.below {w w' : World} {B : Nat} {a b c d : Int} (h : Vals w B a b c d) (k : Below w.heap.size w w') : Vals w' B a b c d :=
  ⟨Nat.lt_of_lt_of_le h.lt k.size, (k.cell (by exact h.lt)).trans h.c0, (k.cell (by exact h.lt)).trans h.c1, (k.cell (by exact h.lt)).trans h.c2, (k.cell (by exact h.lt)).trans h.c3⟩
theorem Vals.alloc {w : World} {B : Nat} {a b c d : Int} (h : Vals w B a b c d) (o : Obj) : Vals (w.alloc o) B a b c d := h.below ((Below.refl _ w).alloc (Nat.le_refl _) _)
theorem Vals.fresh (w : World) (a b c d : Int) {B : Nat} (hB : B = w.heap.size) : Vals (w.alloc (.cells #[.int .i64 a, .int .i64 b, .int .i64 c, .int .i64 d] 171)) B a b c d := by
  subst hB
  exact ⟨by simp, by simp, by simp, by simp, by simp⟩

set_option maxHeartbeats 3200000 in
set_option maxRecDepth 100000 in
theorem check_no0 (K S Q N : Int) (T : ByteArray) (x0 x1 x2 x3 x4 x5 x6 x7 : Int)
    (hsp : ∀ w, Calls Tryz.prog 123 #[.int .i64 K] w fun e w' => e = .returned (.tuple #[.agg #[.int .i64 x0, .int .i64 x1, .int .i64 x2, .int .i64 x3, .int .i64 x4, .int .i64 x5, .int .i64 x6, .int .i64 x7], .bool true]) ∧ Below w.heap.size w w')
    (q0 : ∀ w, Calls Tryz.prog 97 #[.agg #[.int .i64 x0, .int .i64 x1], .int .i64 S] w fun e w' => e = .returned (.bool false) ∧ Below w.heap.size w w')
    (w : World) :
    Calls Tryz.prog 96 #[.agg #[.int .i64 K, .int .i64 S, .int .i64 Q, .string T, .int .i64 N]] w fun e w' => e = .returned (.int .i64 1) ∧ Below w.heap.size w w' := by
  have ba : Below w.heap.size w (w.alloc (.cells #[.int .i64 K, .int .i64 S, .int .i64 Q, .string T, .int .i64 N] 23)) := (Below.refl _ w).alloc (Nat.le_refl _) _
  have y0 : Box (w.alloc (.cells #[.int .i64 K, .int .i64 S, .int .i64 Q, .string T, .int .i64 N] 23)) w.heap.size 0 K S Q T N := ⟨by simp, by simp, by simp, by simp, by simp, by simp⟩
  have i0 : ∀ w : World, (Instr.index 168 (.agg #[.int .i64 x0, .int .i64 x1, .int .i64 x2, .int .i64 x3, .int .i64 x4, .int .i64 x5, .int .i64 x6, .int .i64 x7]) (.int .i64 0)).run Tryz.prog w = .ok (.agg #[.int .i64 x0, .int .i64 x1]) w := fun _ => by kernel_rfl
  go_enter Tryz.func96, Tryz.ntmps96
  go_wp2_with (go_at_call 123; refine (hsp _).mono ?_; rintro e w1 ⟨rfl, b1⟩; have y1 := y0.below b1; have l1 := y1.lt; have g1 := y1.c1; have g2 := y1.c2; have g3 := y1.c3; have g4 := y1.c4; simp only [Nat.zero_add] at g1 g2 g3 g4)
  have f1 := bmm ba ba.size b1
  have f2 := f1.alloc f1.size (.cells #[.int .i64 x0, .int .i64 x1, .int .i64 x2, .int .i64 x3, .int .i64 x4, .int .i64 x5, .int .i64 x6, .int .i64 x7] 168)
  have h0 := f2.alloc f2.size (.cells #[.int .i64 S, .int .i64 Q, .int .i64 (T.size : Int), .int .i64 N] 171)
  have v0 := Vals.fresh (w1.alloc (.cells #[.int .i64 x0, .int .i64 x1, .int .i64 x2, .int .i64 x3, .int .i64 x4, .int .i64 x5, .int .i64 x6, .int .i64 x7] 168)) S Q (T.size : Int) N (B := w1.heap.size + 1) (by simp)
  obtain ⟨u0, hu⟩ : ∃ u, u = (w1.alloc (.cells #[.int .i64 x0, .int .i64 x1, .int .i64 x2, .int .i64 x3, .int .i64 x4, .int .i64 x5, .int .i64 x6, .int .i64 x7] 168)).alloc (.cells #[.int .i64 S, .int .i64 Q, .int .i64 (T.size : Int), .int .i64 N] 171) := ⟨_, rfl⟩
  rw [← hu] at h0 v0 ⊢
  clear hu b1 y0 y1 g1 g2 g3 g4 f1 f2 ba
  have lt0 := v0.lt
  refine wp_loop_rounds 1 ?_
  have k0 := (v0.alloc (.cells #[.int .i64 x0, .int .i64 x1] 145)).c0
  have s0 : (u0.alloc (.cells #[.int .i64 x0, .int .i64 x1] 145)).cell? ⟨u0.heap.size, 0, none⟩ = some (.int .i64 x0) := by simp
  have t0 : (u0.alloc (.cells #[.int .i64 x0, .int .i64 x1] 145)).cell? ⟨u0.heap.size, 1, none⟩ = some (.int .i64 x1) := by simp
  rw [rounds_succ]
  go_wp2
  go_region_held3 (fun w' => w'.cell? ⟨u0.heap.size, 0, none⟩ = some (.int .i64 x0) ∧ w'.cell? ⟨u0.heap.size, 1, none⟩ = some (.int .i64 x1) ∧ w'.cell? ⟨w1.heap.size + 1, 0, none⟩ = some (.int .i64 S)) (go_keep)
    (first | (go_at_call 97; refine (q0 _).mono ?_; rintro e u1 ⟨rfl, b'⟩; have b := undrew b'; have z1 := (b.cell (p := ⟨u0.heap.size, 0, none⟩) (by simp)).trans s0; have z2 := (b.cell (p := ⟨u0.heap.size, 1, none⟩) (by simp)).trans t0; have v1 := (v0.alloc (.cells #[.int .i64 x0, .int .i64 x1] 145)).below b; have lt1 := v1.lt; have z3 := v1.c0; have p := h0.alloc h0.size (.cells #[.int .i64 x0, .int .i64 x1] 145); have h1 := bmm p p.size b))
  clear k0 s0 t0 z1 z2 z3 b b' p h0 v0 lt0
  go_wp2
  go_ret
  exact ⟨rfl, h1⟩

set_option maxHeartbeats 3200000 in
set_option maxRecDepth 100000 in
theorem check_no1 (K S Q N : Int) (T : ByteArray) (x0 x1 x2 x3 x4 x5 x6 x7 : Int)
    (hsp : ∀ w, Calls Tryz.prog 123 #[.int .i64 K] w fun e w' => e = .returned (.tuple #[.agg #[.int .i64 x0, .int .i64 x1, .int .i64 x2, .int .i64 x3, .int .i64 x4, .int .i64 x5, .int .i64 x6, .int .i64 x7], .bool true]) ∧ Below w.heap.size w w')
    (q0 : ∀ w, Calls Tryz.prog 97 #[.agg #[.int .i64 x0, .int .i64 x1], .int .i64 S] w fun e w' => e = .returned (.bool true) ∧ Below w.heap.size w w')
    (q1 : ∀ w, Calls Tryz.prog 97 #[.agg #[.int .i64 x2, .int .i64 x3], .int .i64 Q] w fun e w' => e = .returned (.bool false) ∧ Below w.heap.size w w')
    (w : World) :
    Calls Tryz.prog 96 #[.agg #[.int .i64 K, .int .i64 S, .int .i64 Q, .string T, .int .i64 N]] w fun e w' => e = .returned (.int .i64 1) ∧ Below w.heap.size w w' := by
  have ba : Below w.heap.size w (w.alloc (.cells #[.int .i64 K, .int .i64 S, .int .i64 Q, .string T, .int .i64 N] 23)) := (Below.refl _ w).alloc (Nat.le_refl _) _
  have y0 : Box (w.alloc (.cells #[.int .i64 K, .int .i64 S, .int .i64 Q, .string T, .int .i64 N] 23)) w.heap.size 0 K S Q T N := ⟨by simp, by simp, by simp, by simp, by simp, by simp⟩
  have i0 : ∀ w : World, (Instr.index 168 (.agg #[.int .i64 x0, .int .i64 x1, .int .i64 x2, .int .i64 x3, .int .i64 x4, .int .i64 x5, .int .i64 x6, .int .i64 x7]) (.int .i64 0)).run Tryz.prog w = .ok (.agg #[.int .i64 x0, .int .i64 x1]) w := fun _ => by kernel_rfl
  have i1 : ∀ w : World, (Instr.index 168 (.agg #[.int .i64 x0, .int .i64 x1, .int .i64 x2, .int .i64 x3, .int .i64 x4, .int .i64 x5, .int .i64 x6, .int .i64 x7]) (.int .i64 1)).run Tryz.prog w = .ok (.agg #[.int .i64 x2, .int .i64 x3]) w := fun _ => by kernel_rfl
  go_enter Tryz.func96, Tryz.ntmps96
  go_wp2_with (go_at_call 123; refine (hsp _).mono ?_; rintro e w1 ⟨rfl, b1⟩; have y1 := y0.below b1; have l1 := y1.lt; have g1 := y1.c1; have g2 := y1.c2; have g3 := y1.c3; have g4 := y1.c4; simp only [Nat.zero_add] at g1 g2 g3 g4)
  have f1 := bmm ba ba.size b1
  have f2 := f1.alloc f1.size (.cells #[.int .i64 x0, .int .i64 x1, .int .i64 x2, .int .i64 x3, .int .i64 x4, .int .i64 x5, .int .i64 x6, .int .i64 x7] 168)
  have h0 := f2.alloc f2.size (.cells #[.int .i64 S, .int .i64 Q, .int .i64 (T.size : Int), .int .i64 N] 171)
  have v0 := Vals.fresh (w1.alloc (.cells #[.int .i64 x0, .int .i64 x1, .int .i64 x2, .int .i64 x3, .int .i64 x4, .int .i64 x5, .int .i64 x6, .int .i64 x7] 168)) S Q (T.size : Int) N (B := w1.heap.size + 1) (by simp)
  obtain ⟨u0, hu⟩ : ∃ u, u = (w1.alloc (.cells #[.int .i64 x0, .int .i64 x1, .int .i64 x2, .int .i64 x3, .int .i64 x4, .int .i64 x5, .int .i64 x6, .int .i64 x7] 168)).alloc (.cells #[.int .i64 S, .int .i64 Q, .int .i64 (T.size : Int), .int .i64 N] 171) := ⟨_, rfl⟩
  rw [← hu] at h0 v0 ⊢
  clear hu b1 y0 y1 g1 g2 g3 g4 f1 f2 ba
  have lt0 := v0.lt
  refine wp_loop_rounds 2 ?_
  have k0 := (v0.alloc (.cells #[.int .i64 x0, .int .i64 x1] 145)).c0
  have s0 : (u0.alloc (.cells #[.int .i64 x0, .int .i64 x1] 145)).cell? ⟨u0.heap.size, 0, none⟩ = some (.int .i64 x0) := by simp
  have t0 : (u0.alloc (.cells #[.int .i64 x0, .int .i64 x1] 145)).cell? ⟨u0.heap.size, 1, none⟩ = some (.int .i64 x1) := by simp
  rw [rounds_succ]
  go_wp2
  go_region_held3 (fun w' => w'.cell? ⟨u0.heap.size, 0, none⟩ = some (.int .i64 x0) ∧ w'.cell? ⟨u0.heap.size, 1, none⟩ = some (.int .i64 x1) ∧ w'.cell? ⟨w1.heap.size + 1, 0, none⟩ = some (.int .i64 S)) (go_keep)
    (first | (go_at_call 97; refine (q0 _).mono ?_; rintro e u1 ⟨rfl, b'⟩; have b := undrew b'; have z1 := (b.cell (p := ⟨u0.heap.size, 0, none⟩) (by simp)).trans s0; have z2 := (b.cell (p := ⟨u0.heap.size, 1, none⟩) (by simp)).trans t0; have v1 := (v0.alloc (.cells #[.int .i64 x0, .int .i64 x1] 145)).below b; have lt1 := v1.lt; have z3 := v1.c0; have p := h0.alloc h0.size (.cells #[.int .i64 x0, .int .i64 x1] 145); have h1 := bmm p p.size b))
  clear k0 s0 t0 z1 z2 z3 b b' p h0 v0 lt0
  go_wp2
  have k1 := (v1.alloc (.cells #[.int .i64 x2, .int .i64 x3] 145)).c1
  have s1 : (u1.alloc (.cells #[.int .i64 x2, .int .i64 x3] 145)).cell? ⟨u1.heap.size, 0, none⟩ = some (.int .i64 x2) := by simp
  have t1 : (u1.alloc (.cells #[.int .i64 x2, .int .i64 x3] 145)).cell? ⟨u1.heap.size, 1, none⟩ = some (.int .i64 x3) := by simp
  rw [rounds_succ]
  go_wp2
  go_region_held3 (fun w' => w'.cell? ⟨u1.heap.size, 0, none⟩ = some (.int .i64 x2) ∧ w'.cell? ⟨u1.heap.size, 1, none⟩ = some (.int .i64 x3) ∧ w'.cell? ⟨w1.heap.size + 1, 1, none⟩ = some (.int .i64 Q)) (go_keep)
    (first | (go_at_call 97; refine (q1 _).mono ?_; rintro e u2 ⟨rfl, b'⟩; have b := undrew b'; have z1 := (b.cell (p := ⟨u1.heap.size, 0, none⟩) (by simp)).trans s1; have z2 := (b.cell (p := ⟨u1.heap.size, 1, none⟩) (by simp)).trans t1; have v2 := (v1.alloc (.cells #[.int .i64 x2, .int .i64 x3] 145)).below b; have lt2 := v2.lt; have z3 := v2.c1; have p := h1.alloc h1.size (.cells #[.int .i64 x2, .int .i64 x3] 145); have h2 := bmm p p.size b))
  clear k1 s1 t1 z1 z2 z3 b b' p h1 v1 lt1
  go_wp2
  go_ret
  exact ⟨rfl, h2⟩

set_option maxHeartbeats 3200000 in
set_option maxRecDepth 100000 in
theorem check_no2 (K S Q N : Int) (T : ByteArray) (x0 x1 x2 x3 x4 x5 x6 x7 : Int)
    (hsp : ∀ w, Calls Tryz.prog 123 #[.int .i64 K] w fun e w' => e = .returned (.tuple #[.agg #[.int .i64 x0, .int .i64 x1, .int .i64 x2, .int .i64 x3, .int .i64 x4, .int .i64 x5, .int .i64 x6, .int .i64 x7], .bool true]) ∧ Below w.heap.size w w')
    (q0 : ∀ w, Calls Tryz.prog 97 #[.agg #[.int .i64 x0, .int .i64 x1], .int .i64 S] w fun e w' => e = .returned (.bool true) ∧ Below w.heap.size w w')
    (q1 : ∀ w, Calls Tryz.prog 97 #[.agg #[.int .i64 x2, .int .i64 x3], .int .i64 Q] w fun e w' => e = .returned (.bool true) ∧ Below w.heap.size w w')
    (q2 : ∀ w, Calls Tryz.prog 97 #[.agg #[.int .i64 x4, .int .i64 x5], .int .i64 (T.size : Int)] w fun e w' => e = .returned (.bool false) ∧ Below w.heap.size w w')
    (w : World) :
    Calls Tryz.prog 96 #[.agg #[.int .i64 K, .int .i64 S, .int .i64 Q, .string T, .int .i64 N]] w fun e w' => e = .returned (.int .i64 1) ∧ Below w.heap.size w w' := by
  have ba : Below w.heap.size w (w.alloc (.cells #[.int .i64 K, .int .i64 S, .int .i64 Q, .string T, .int .i64 N] 23)) := (Below.refl _ w).alloc (Nat.le_refl _) _
  have y0 : Box (w.alloc (.cells #[.int .i64 K, .int .i64 S, .int .i64 Q, .string T, .int .i64 N] 23)) w.heap.size 0 K S Q T N := ⟨by simp, by simp, by simp, by simp, by simp, by simp⟩
  have i0 : ∀ w : World, (Instr.index 168 (.agg #[.int .i64 x0, .int .i64 x1, .int .i64 x2, .int .i64 x3, .int .i64 x4, .int .i64 x5, .int .i64 x6, .int .i64 x7]) (.int .i64 0)).run Tryz.prog w = .ok (.agg #[.int .i64 x0, .int .i64 x1]) w := fun _ => by kernel_rfl
  have i1 : ∀ w : World, (Instr.index 168 (.agg #[.int .i64 x0, .int .i64 x1, .int .i64 x2, .int .i64 x3, .int .i64 x4, .int .i64 x5, .int .i64 x6, .int .i64 x7]) (.int .i64 1)).run Tryz.prog w = .ok (.agg #[.int .i64 x2, .int .i64 x3]) w := fun _ => by kernel_rfl
  have i2 : ∀ w : World, (Instr.index 168 (.agg #[.int .i64 x0, .int .i64 x1, .int .i64 x2, .int .i64 x3, .int .i64 x4, .int .i64 x5, .int .i64 x6, .int .i64 x7]) (.int .i64 2)).run Tryz.prog w = .ok (.agg #[.int .i64 x4, .int .i64 x5]) w := fun _ => by kernel_rfl
  go_enter Tryz.func96, Tryz.ntmps96
  go_wp2_with (go_at_call 123; refine (hsp _).mono ?_; rintro e w1 ⟨rfl, b1⟩; have y1 := y0.below b1; have l1 := y1.lt; have g1 := y1.c1; have g2 := y1.c2; have g3 := y1.c3; have g4 := y1.c4; simp only [Nat.zero_add] at g1 g2 g3 g4)
  have f1 := bmm ba ba.size b1
  have f2 := f1.alloc f1.size (.cells #[.int .i64 x0, .int .i64 x1, .int .i64 x2, .int .i64 x3, .int .i64 x4, .int .i64 x5, .int .i64 x6, .int .i64 x7] 168)
  have h0 := f2.alloc f2.size (.cells #[.int .i64 S, .int .i64 Q, .int .i64 (T.size : Int), .int .i64 N] 171)
  have v0 := Vals.fresh (w1.alloc (.cells #[.int .i64 x0, .int .i64 x1, .int .i64 x2, .int .i64 x3, .int .i64 x4, .int .i64 x5, .int .i64 x6, .int .i64 x7] 168)) S Q (T.size : Int) N (B := w1.heap.size + 1) (by simp)
  obtain ⟨u0, hu⟩ : ∃ u, u = (w1.alloc (.cells #[.int .i64 x0, .int .i64 x1, .int .i64 x2, .int .i64 x3, .int .i64 x4, .int .i64 x5, .int .i64 x6, .int .i64 x7] 168)).alloc (.cells #[.int .i64 S, .int .i64 Q, .int .i64 (T.size : Int), .int .i64 N] 171) := ⟨_, rfl⟩
  rw [← hu] at h0 v0 ⊢
  clear hu b1 y0 y1 g1 g2 g3 g4 f1 f2 ba
  have lt0 := v0.lt
  refine wp_loop_rounds 3 ?_
  have k0 := (v0.alloc (.cells #[.int .i64 x0, .int .i64 x1] 145)).c0
  have s0 : (u0.alloc (.cells #[.int .i64 x0, .int .i64 x1] 145)).cell? ⟨u0.heap.size, 0, none⟩ = some (.int .i64 x0) := by simp
  have t0 : (u0.alloc (.cells #[.int .i64 x0, .int .i64 x1] 145)).cell? ⟨u0.heap.size, 1, none⟩ = some (.int .i64 x1) := by simp
  rw [rounds_succ]
  go_wp2
  go_region_held3 (fun w' => w'.cell? ⟨u0.heap.size, 0, none⟩ = some (.int .i64 x0) ∧ w'.cell? ⟨u0.heap.size, 1, none⟩ = some (.int .i64 x1) ∧ w'.cell? ⟨w1.heap.size + 1, 0, none⟩ = some (.int .i64 S)) (go_keep)
    (first | (go_at_call 97; refine (q0 _).mono ?_; rintro e u1 ⟨rfl, b'⟩; have b := undrew b'; have z1 := (b.cell (p := ⟨u0.heap.size, 0, none⟩) (by simp)).trans s0; have z2 := (b.cell (p := ⟨u0.heap.size, 1, none⟩) (by simp)).trans t0; have v1 := (v0.alloc (.cells #[.int .i64 x0, .int .i64 x1] 145)).below b; have lt1 := v1.lt; have z3 := v1.c0; have p := h0.alloc h0.size (.cells #[.int .i64 x0, .int .i64 x1] 145); have h1 := bmm p p.size b))
  clear k0 s0 t0 z1 z2 z3 b b' p h0 v0 lt0
  go_wp2
  have k1 := (v1.alloc (.cells #[.int .i64 x2, .int .i64 x3] 145)).c1
  have s1 : (u1.alloc (.cells #[.int .i64 x2, .int .i64 x3] 145)).cell? ⟨u1.heap.size, 0, none⟩ = some (.int .i64 x2) := by simp
  have t1 : (u1.alloc (.cells #[.int .i64 x2, .int .i64 x3] 145)).cell? ⟨u1.heap.size, 1, none⟩ = some (.int .i64 x3) := by simp
  rw [rounds_succ]
  go_wp2
  go_region_held3 (fun w' => w'.cell? ⟨u1.heap.size, 0, none⟩ = some (.int .i64 x2) ∧ w'.cell? ⟨u1.heap.size, 1, none⟩ = some (.int .i64 x3) ∧ w'.cell? ⟨w1.heap.size + 1, 1, none⟩ = some (.int .i64 Q)) (go_keep)
    (first | (go_at_call 97; refine (q1 _).mono ?_; rintro e u2 ⟨rfl, b'⟩; have b := undrew b'; have z1 := (b.cell (p := ⟨u1.heap.size, 0, none⟩) (by simp)).trans s1; have z2 := (b.cell (p := ⟨u1.heap.size, 1, none⟩) (by simp)).trans t1; have v2 := (v1.alloc (.cells #[.int .i64 x2, .int .i64 x3] 145)).below b; have lt2 := v2.lt; have z3 := v2.c1; have p := h1.alloc h1.size (.cells #[.int .i64 x2, .int .i64 x3] 145); have h2 := bmm p p.size b))
  clear k1 s1 t1 z1 z2 z3 b b' p h1 v1 lt1
  go_wp2
  have k2 := (v2.alloc (.cells #[.int .i64 x4, .int .i64 x5] 145)).c2
  have s2 : (u2.alloc (.cells #[.int .i64 x4, .int .i64 x5] 145)).cell? ⟨u2.heap.size, 0, none⟩ = some (.int .i64 x4) := by simp
  have t2 : (u2.alloc (.cells #[.int .i64 x4, .int .i64 x5] 145)).cell? ⟨u2.heap.size, 1, none⟩ = some (.int .i64 x5) := by simp
  rw [rounds_succ]
  go_wp2
  go_region_held3 (fun w' => w'.cell? ⟨u2.heap.size, 0, none⟩ = some (.int .i64 x4) ∧ w'.cell? ⟨u2.heap.size, 1, none⟩ = some (.int .i64 x5) ∧ w'.cell? ⟨w1.heap.size + 1, 2, none⟩ = some (.int .i64 (T.size : Int))) (go_keep)
    (first | (go_at_call 97; refine (q2 _).mono ?_; rintro e u3 ⟨rfl, b'⟩; have b := undrew b'; have z1 := (b.cell (p := ⟨u2.heap.size, 0, none⟩) (by simp)).trans s2; have z2 := (b.cell (p := ⟨u2.heap.size, 1, none⟩) (by simp)).trans t2; have v3 := (v2.alloc (.cells #[.int .i64 x4, .int .i64 x5] 145)).below b; have lt3 := v3.lt; have z3 := v3.c2; have p := h2.alloc h2.size (.cells #[.int .i64 x4, .int .i64 x5] 145); have h3 := bmm p p.size b))
  clear k2 s2 t2 z1 z2 z3 b b' p h2 v2 lt2
  go_wp2
  go_ret
  exact ⟨rfl, h3⟩

set_option maxHeartbeats 3200000 in
set_option maxRecDepth 100000 in
theorem check_no3 (K S Q N : Int) (T : ByteArray) (x0 x1 x2 x3 x4 x5 x6 x7 : Int)
    (hsp : ∀ w, Calls Tryz.prog 123 #[.int .i64 K] w fun e w' => e = .returned (.tuple #[.agg #[.int .i64 x0, .int .i64 x1, .int .i64 x2, .int .i64 x3, .int .i64 x4, .int .i64 x5, .int .i64 x6, .int .i64 x7], .bool true]) ∧ Below w.heap.size w w')
    (q0 : ∀ w, Calls Tryz.prog 97 #[.agg #[.int .i64 x0, .int .i64 x1], .int .i64 S] w fun e w' => e = .returned (.bool true) ∧ Below w.heap.size w w')
    (q1 : ∀ w, Calls Tryz.prog 97 #[.agg #[.int .i64 x2, .int .i64 x3], .int .i64 Q] w fun e w' => e = .returned (.bool true) ∧ Below w.heap.size w w')
    (q2 : ∀ w, Calls Tryz.prog 97 #[.agg #[.int .i64 x4, .int .i64 x5], .int .i64 (T.size : Int)] w fun e w' => e = .returned (.bool true) ∧ Below w.heap.size w w')
    (q3 : ∀ w, Calls Tryz.prog 97 #[.agg #[.int .i64 x6, .int .i64 x7], .int .i64 N] w fun e w' => e = .returned (.bool false) ∧ Below w.heap.size w w')
    (w : World) :
    Calls Tryz.prog 96 #[.agg #[.int .i64 K, .int .i64 S, .int .i64 Q, .string T, .int .i64 N]] w fun e w' => e = .returned (.int .i64 1) ∧ Below w.heap.size w w' := by
  have ba : Below w.heap.size w (w.alloc (.cells #[.int .i64 K, .int .i64 S, .int .i64 Q, .string T, .int .i64 N] 23)) := (Below.refl _ w).alloc (Nat.le_refl _) _
  have y0 : Box (w.alloc (.cells #[.int .i64 K, .int .i64 S, .int .i64 Q, .string T, .int .i64 N] 23)) w.heap.size 0 K S Q T N := ⟨by simp, by simp, by simp, by simp, by simp, by simp⟩
  have i0 : ∀ w : World, (Instr.index 168 (.agg #[.int .i64 x0, .int .i64 x1, .int .i64 x2, .int .i64 x3, .int .i64 x4, .int .i64 x5, .int .i64 x6, .int .i64 x7]) (.int .i64 0)).run Tryz.prog w = .ok (.agg #[.int .i64 x0, .int .i64 x1]) w := fun _ => by kernel_rfl
  have i1 : ∀ w : World, (Instr.index 168 (.agg #[.int .i64 x0, .int .i64 x1, .int .i64 x2, .int .i64 x3, .int .i64 x4, .int .i64 x5, .int .i64 x6, .int .i64 x7]) (.int .i64 1)).run Tryz.prog w = .ok (.agg #[.int .i64 x2, .int .i64 x3]) w := fun _ => by kernel_rfl
  have i2 : ∀ w : World, (Instr.index 168 (.agg #[.int .i64 x0, .int .i64 x1, .int .i64 x2, .int .i64 x3, .int .i64 x4, .int .i64 x5, .int .i64 x6, .int .i64 x7]) (.int .i64 2)).run Tryz.prog w = .ok (.agg #[.int .i64 x4, .int .i64 x5]) w := fun _ => by kernel_rfl
  have i3 : ∀ w : World, (Instr.index 168 (.agg #[.int .i64 x0, .int .i64 x1, .int .i64 x2, .int .i64 x3, .int .i64 x4, .int .i64 x5, .int .i64 x6, .int .i64 x7]) (.int .i64 3)).run Tryz.prog w = .ok (.agg #[.int .i64 x6, .int .i64 x7]) w := fun _ => by kernel_rfl
  go_enter Tryz.func96, Tryz.ntmps96
  go_wp2_with (go_at_call 123; refine (hsp _).mono ?_; rintro e w1 ⟨rfl, b1⟩; have y1 := y0.below b1; have l1 := y1.lt; have g1 := y1.c1; have g2 := y1.c2; have g3 := y1.c3; have g4 := y1.c4; simp only [Nat.zero_add] at g1 g2 g3 g4)
  have f1 := bmm ba ba.size b1
  have f2 := f1.alloc f1.size (.cells #[.int .i64 x0, .int .i64 x1, .int .i64 x2, .int .i64 x3, .int .i64 x4, .int .i64 x5, .int .i64 x6, .int .i64 x7] 168)
  have h0 := f2.alloc f2.size (.cells #[.int .i64 S, .int .i64 Q, .int .i64 (T.size : Int), .int .i64 N] 171)
  have v0 := Vals.fresh (w1.alloc (.cells #[.int .i64 x0, .int .i64 x1, .int .i64 x2, .int .i64 x3, .int .i64 x4, .int .i64 x5, .int .i64 x6, .int .i64 x7] 168)) S Q (T.size : Int) N (B := w1.heap.size + 1) (by simp)
  obtain ⟨u0, hu⟩ : ∃ u, u = (w1.alloc (.cells #[.int .i64 x0, .int .i64 x1, .int .i64 x2, .int .i64 x3, .int .i64 x4, .int .i64 x5, .int .i64 x6, .int .i64 x7] 168)).alloc (.cells #[.int .i64 S, .int .i64 Q, .int .i64 (T.size : Int), .int .i64 N] 171) := ⟨_, rfl⟩
  rw [← hu] at h0 v0 ⊢
  clear hu b1 y0 y1 g1 g2 g3 g4 f1 f2 ba
  have lt0 := v0.lt
  refine wp_loop_rounds 4 ?_
  have k0 := (v0.alloc (.cells #[.int .i64 x0, .int .i64 x1] 145)).c0
  have s0 : (u0.alloc (.cells #[.int .i64 x0, .int .i64 x1] 145)).cell? ⟨u0.heap.size, 0, none⟩ = some (.int .i64 x0) := by simp
  have t0 : (u0.alloc (.cells #[.int .i64 x0, .int .i64 x1] 145)).cell? ⟨u0.heap.size, 1, none⟩ = some (.int .i64 x1) := by simp
  rw [rounds_succ]
  go_wp2
  go_region_held3 (fun w' => w'.cell? ⟨u0.heap.size, 0, none⟩ = some (.int .i64 x0) ∧ w'.cell? ⟨u0.heap.size, 1, none⟩ = some (.int .i64 x1) ∧ w'.cell? ⟨w1.heap.size + 1, 0, none⟩ = some (.int .i64 S)) (go_keep)
    (first | (go_at_call 97; refine (q0 _).mono ?_; rintro e u1 ⟨rfl, b'⟩; have b := undrew b'; have z1 := (b.cell (p := ⟨u0.heap.size, 0, none⟩) (by simp)).trans s0; have z2 := (b.cell (p := ⟨u0.heap.size, 1, none⟩) (by simp)).trans t0; have v1 := (v0.alloc (.cells #[.int .i64 x0, .int .i64 x1] 145)).below b; have lt1 := v1.lt; have z3 := v1.c0; have p := h0.alloc h0.size (.cells #[.int .i64 x0, .int .i64 x1] 145); have h1 := bmm p p.size b))
  clear k0 s0 t0 z1 z2 z3 b b' p h0 v0 lt0
  go_wp2
  have k1 := (v1.alloc (.cells #[.int .i64 x2, .int .i64 x3] 145)).c1
  have s1 : (u1.alloc (.cells #[.int .i64 x2, .int .i64 x3] 145)).cell? ⟨u1.heap.size, 0, none⟩ = some (.int .i64 x2) := by simp
  have t1 : (u1.alloc (.cells #[.int .i64 x2, .int .i64 x3] 145)).cell? ⟨u1.heap.size, 1, none⟩ = some (.int .i64 x3) := by simp
  rw [rounds_succ]
  go_wp2
  go_region_held3 (fun w' => w'.cell? ⟨u1.heap.size, 0, none⟩ = some (.int .i64 x2) ∧ w'.cell? ⟨u1.heap.size, 1, none⟩ = some (.int .i64 x3) ∧ w'.cell? ⟨w1.heap.size + 1, 1, none⟩ = some (.int .i64 Q)) (go_keep)
    (first | (go_at_call 97; refine (q1 _).mono ?_; rintro e u2 ⟨rfl, b'⟩; have b := undrew b'; have z1 := (b.cell (p := ⟨u1.heap.size, 0, none⟩) (by simp)).trans s1; have z2 := (b.cell (p := ⟨u1.heap.size, 1, none⟩) (by simp)).trans t1; have v2 := (v1.alloc (.cells #[.int .i64 x2, .int .i64 x3] 145)).below b; have lt2 := v2.lt; have z3 := v2.c1; have p := h1.alloc h1.size (.cells #[.int .i64 x2, .int .i64 x3] 145); have h2 := bmm p p.size b))
  clear k1 s1 t1 z1 z2 z3 b b' p h1 v1 lt1
  go_wp2
  have k2 := (v2.alloc (.cells #[.int .i64 x4, .int .i64 x5] 145)).c2
  have s2 : (u2.alloc (.cells #[.int .i64 x4, .int .i64 x5] 145)).cell? ⟨u2.heap.size, 0, none⟩ = some (.int .i64 x4) := by simp
  have t2 : (u2.alloc (.cells #[.int .i64 x4, .int .i64 x5] 145)).cell? ⟨u2.heap.size, 1, none⟩ = some (.int .i64 x5) := by simp
  rw [rounds_succ]
  go_wp2
  go_region_held3 (fun w' => w'.cell? ⟨u2.heap.size, 0, none⟩ = some (.int .i64 x4) ∧ w'.cell? ⟨u2.heap.size, 1, none⟩ = some (.int .i64 x5) ∧ w'.cell? ⟨w1.heap.size + 1, 2, none⟩ = some (.int .i64 (T.size : Int))) (go_keep)
    (first | (go_at_call 97; refine (q2 _).mono ?_; rintro e u3 ⟨rfl, b'⟩; have b := undrew b'; have z1 := (b.cell (p := ⟨u2.heap.size, 0, none⟩) (by simp)).trans s2; have z2 := (b.cell (p := ⟨u2.heap.size, 1, none⟩) (by simp)).trans t2; have v3 := (v2.alloc (.cells #[.int .i64 x4, .int .i64 x5] 145)).below b; have lt3 := v3.lt; have z3 := v3.c2; have p := h2.alloc h2.size (.cells #[.int .i64 x4, .int .i64 x5] 145); have h3 := bmm p p.size b))
  clear k2 s2 t2 z1 z2 z3 b b' p h2 v2 lt2
  go_wp2
  have k3 := (v3.alloc (.cells #[.int .i64 x6, .int .i64 x7] 145)).c3
  have s3 : (u3.alloc (.cells #[.int .i64 x6, .int .i64 x7] 145)).cell? ⟨u3.heap.size, 0, none⟩ = some (.int .i64 x6) := by simp
  have t3 : (u3.alloc (.cells #[.int .i64 x6, .int .i64 x7] 145)).cell? ⟨u3.heap.size, 1, none⟩ = some (.int .i64 x7) := by simp
  rw [rounds_succ]
  go_wp2
  go_region_held3 (fun w' => w'.cell? ⟨u3.heap.size, 0, none⟩ = some (.int .i64 x6) ∧ w'.cell? ⟨u3.heap.size, 1, none⟩ = some (.int .i64 x7) ∧ w'.cell? ⟨w1.heap.size + 1, 3, none⟩ = some (.int .i64 N)) (go_keep)
    (first | (go_at_call 97; refine (q3 _).mono ?_; rintro e u4 ⟨rfl, b'⟩; have b := undrew b'; have z1 := (b.cell (p := ⟨u3.heap.size, 0, none⟩) (by simp)).trans s3; have z2 := (b.cell (p := ⟨u3.heap.size, 1, none⟩) (by simp)).trans t3; have v4 := (v3.alloc (.cells #[.int .i64 x6, .int .i64 x7] 145)).below b; have lt4 := v4.lt; have z3 := v4.c3; have p := h3.alloc h3.size (.cells #[.int .i64 x6, .int .i64 x7] 145); have h4 := bmm p p.size b))
  clear k3 s3 t3 z1 z2 z3 b b' p h3 v3 lt3
  go_wp2
  go_ret
  exact ⟨rfl, h4⟩

set_option maxHeartbeats 3200000 in
set_option maxRecDepth 100000 in
theorem check_all (K S Q N : Int) (T : ByteArray) (x0 x1 x2 x3 x4 x5 x6 x7 : Int)
    (hsp : ∀ w, Calls Tryz.prog 123 #[.int .i64 K] w fun e w' => e = .returned (.tuple #[.agg #[.int .i64 x0, .int .i64 x1, .int .i64 x2, .int .i64 x3, .int .i64 x4, .int .i64 x5, .int .i64 x6, .int .i64 x7], .bool true]) ∧ Below w.heap.size w w')
    (q0 : ∀ w, Calls Tryz.prog 97 #[.agg #[.int .i64 x0, .int .i64 x1], .int .i64 S] w fun e w' => e = .returned (.bool true) ∧ Below w.heap.size w w')
    (q1 : ∀ w, Calls Tryz.prog 97 #[.agg #[.int .i64 x2, .int .i64 x3], .int .i64 Q] w fun e w' => e = .returned (.bool true) ∧ Below w.heap.size w w')
    (q2 : ∀ w, Calls Tryz.prog 97 #[.agg #[.int .i64 x4, .int .i64 x5], .int .i64 (T.size : Int)] w fun e w' => e = .returned (.bool true) ∧ Below w.heap.size w w')
    (q3 : ∀ w, Calls Tryz.prog 97 #[.agg #[.int .i64 x6, .int .i64 x7], .int .i64 N] w fun e w' => e = .returned (.bool true) ∧ Below w.heap.size w w')
    (w : World) :
    Calls Tryz.prog 96 #[.agg #[.int .i64 K, .int .i64 S, .int .i64 Q, .string T, .int .i64 N]] w fun e w' => e = .returned (.int .i64 0) ∧ Below w.heap.size w w' := by
  have ba : Below w.heap.size w (w.alloc (.cells #[.int .i64 K, .int .i64 S, .int .i64 Q, .string T, .int .i64 N] 23)) := (Below.refl _ w).alloc (Nat.le_refl _) _
  have y0 : Box (w.alloc (.cells #[.int .i64 K, .int .i64 S, .int .i64 Q, .string T, .int .i64 N] 23)) w.heap.size 0 K S Q T N := ⟨by simp, by simp, by simp, by simp, by simp, by simp⟩
  have i0 : ∀ w : World, (Instr.index 168 (.agg #[.int .i64 x0, .int .i64 x1, .int .i64 x2, .int .i64 x3, .int .i64 x4, .int .i64 x5, .int .i64 x6, .int .i64 x7]) (.int .i64 0)).run Tryz.prog w = .ok (.agg #[.int .i64 x0, .int .i64 x1]) w := fun _ => by kernel_rfl
  have i1 : ∀ w : World, (Instr.index 168 (.agg #[.int .i64 x0, .int .i64 x1, .int .i64 x2, .int .i64 x3, .int .i64 x4, .int .i64 x5, .int .i64 x6, .int .i64 x7]) (.int .i64 1)).run Tryz.prog w = .ok (.agg #[.int .i64 x2, .int .i64 x3]) w := fun _ => by kernel_rfl
  have i2 : ∀ w : World, (Instr.index 168 (.agg #[.int .i64 x0, .int .i64 x1, .int .i64 x2, .int .i64 x3, .int .i64 x4, .int .i64 x5, .int .i64 x6, .int .i64 x7]) (.int .i64 2)).run Tryz.prog w = .ok (.agg #[.int .i64 x4, .int .i64 x5]) w := fun _ => by kernel_rfl
  have i3 : ∀ w : World, (Instr.index 168 (.agg #[.int .i64 x0, .int .i64 x1, .int .i64 x2, .int .i64 x3, .int .i64 x4, .int .i64 x5, .int .i64 x6, .int .i64 x7]) (.int .i64 3)).run Tryz.prog w = .ok (.agg #[.int .i64 x6, .int .i64 x7]) w := fun _ => by kernel_rfl
  go_enter Tryz.func96, Tryz.ntmps96
  go_wp2_with (go_at_call 123; refine (hsp _).mono ?_; rintro e w1 ⟨rfl, b1⟩; have y1 := y0.below b1; have l1 := y1.lt; have g1 := y1.c1; have g2 := y1.c2; have g3 := y1.c3; have g4 := y1.c4; simp only [Nat.zero_add] at g1 g2 g3 g4)
  have f1 := bmm ba ba.size b1
  have f2 := f1.alloc f1.size (.cells #[.int .i64 x0, .int .i64 x1, .int .i64 x2, .int .i64 x3, .int .i64 x4, .int .i64 x5, .int .i64 x6, .int .i64 x7] 168)
  have h0 := f2.alloc f2.size (.cells #[.int .i64 S, .int .i64 Q, .int .i64 (T.size : Int), .int .i64 N] 171)
  have v0 := Vals.fresh (w1.alloc (.cells #[.int .i64 x0, .int .i64 x1, .int .i64 x2, .int .i64 x3, .int .i64 x4, .int .i64 x5, .int .i64 x6, .int .i64 x7] 168)) S Q (T.size : Int) N (B := w1.heap.size + 1) (by simp)
  obtain ⟨u0, hu⟩ : ∃ u, u = (w1.alloc (.cells #[.int .i64 x0, .int .i64 x1, .int .i64 x2, .int .i64 x3, .int .i64 x4, .int .i64 x5, .int .i64 x6, .int .i64 x7] 168)).alloc (.cells #[.int .i64 S, .int .i64 Q, .int .i64 (T.size : Int), .int .i64 N] 171) := ⟨_, rfl⟩
  rw [← hu] at h0 v0 ⊢
  clear hu b1 y0 y1 g1 g2 g3 g4 f1 f2 ba
  have lt0 := v0.lt
  refine wp_loop_rounds 5 ?_
  have k0 := (v0.alloc (.cells #[.int .i64 x0, .int .i64 x1] 145)).c0
  have s0 : (u0.alloc (.cells #[.int .i64 x0, .int .i64 x1] 145)).cell? ⟨u0.heap.size, 0, none⟩ = some (.int .i64 x0) := by simp
  have t0 : (u0.alloc (.cells #[.int .i64 x0, .int .i64 x1] 145)).cell? ⟨u0.heap.size, 1, none⟩ = some (.int .i64 x1) := by simp
  rw [rounds_succ]
  go_wp2
  go_region_held3 (fun w' => w'.cell? ⟨u0.heap.size, 0, none⟩ = some (.int .i64 x0) ∧ w'.cell? ⟨u0.heap.size, 1, none⟩ = some (.int .i64 x1) ∧ w'.cell? ⟨w1.heap.size + 1, 0, none⟩ = some (.int .i64 S)) (go_keep)
    (first | (go_at_call 97; refine (q0 _).mono ?_; rintro e u1 ⟨rfl, b'⟩; have b := undrew b'; have z1 := (b.cell (p := ⟨u0.heap.size, 0, none⟩) (by simp)).trans s0; have z2 := (b.cell (p := ⟨u0.heap.size, 1, none⟩) (by simp)).trans t0; have v1 := (v0.alloc (.cells #[.int .i64 x0, .int .i64 x1] 145)).below b; have lt1 := v1.lt; have z3 := v1.c0; have p := h0.alloc h0.size (.cells #[.int .i64 x0, .int .i64 x1] 145); have h1 := bmm p p.size b))
  clear k0 s0 t0 z1 z2 z3 b b' p h0 v0 lt0
  go_wp2
  have k1 := (v1.alloc (.cells #[.int .i64 x2, .int .i64 x3] 145)).c1
  have s1 : (u1.alloc (.cells #[.int .i64 x2, .int .i64 x3] 145)).cell? ⟨u1.heap.size, 0, none⟩ = some (.int .i64 x2) := by simp
  have t1 : (u1.alloc (.cells #[.int .i64 x2, .int .i64 x3] 145)).cell? ⟨u1.heap.size, 1, none⟩ = some (.int .i64 x3) := by simp
  rw [rounds_succ]
  go_wp2
  go_region_held3 (fun w' => w'.cell? ⟨u1.heap.size, 0, none⟩ = some (.int .i64 x2) ∧ w'.cell? ⟨u1.heap.size, 1, none⟩ = some (.int .i64 x3) ∧ w'.cell? ⟨w1.heap.size + 1, 1, none⟩ = some (.int .i64 Q)) (go_keep)
    (first | (go_at_call 97; refine (q1 _).mono ?_; rintro e u2 ⟨rfl, b'⟩; have b := undrew b'; have z1 := (b.cell (p := ⟨u1.heap.size, 0, none⟩) (by simp)).trans s1; have z2 := (b.cell (p := ⟨u1.heap.size, 1, none⟩) (by simp)).trans t1; have v2 := (v1.alloc (.cells #[.int .i64 x2, .int .i64 x3] 145)).below b; have lt2 := v2.lt; have z3 := v2.c1; have p := h1.alloc h1.size (.cells #[.int .i64 x2, .int .i64 x3] 145); have h2 := bmm p p.size b))
  clear k1 s1 t1 z1 z2 z3 b b' p h1 v1 lt1
  go_wp2
  have k2 := (v2.alloc (.cells #[.int .i64 x4, .int .i64 x5] 145)).c2
  have s2 : (u2.alloc (.cells #[.int .i64 x4, .int .i64 x5] 145)).cell? ⟨u2.heap.size, 0, none⟩ = some (.int .i64 x4) := by simp
  have t2 : (u2.alloc (.cells #[.int .i64 x4, .int .i64 x5] 145)).cell? ⟨u2.heap.size, 1, none⟩ = some (.int .i64 x5) := by simp
  rw [rounds_succ]
  go_wp2
  go_region_held3 (fun w' => w'.cell? ⟨u2.heap.size, 0, none⟩ = some (.int .i64 x4) ∧ w'.cell? ⟨u2.heap.size, 1, none⟩ = some (.int .i64 x5) ∧ w'.cell? ⟨w1.heap.size + 1, 2, none⟩ = some (.int .i64 (T.size : Int))) (go_keep)
    (first | (go_at_call 97; refine (q2 _).mono ?_; rintro e u3 ⟨rfl, b'⟩; have b := undrew b'; have z1 := (b.cell (p := ⟨u2.heap.size, 0, none⟩) (by simp)).trans s2; have z2 := (b.cell (p := ⟨u2.heap.size, 1, none⟩) (by simp)).trans t2; have v3 := (v2.alloc (.cells #[.int .i64 x4, .int .i64 x5] 145)).below b; have lt3 := v3.lt; have z3 := v3.c2; have p := h2.alloc h2.size (.cells #[.int .i64 x4, .int .i64 x5] 145); have h3 := bmm p p.size b))
  clear k2 s2 t2 z1 z2 z3 b b' p h2 v2 lt2
  go_wp2
  have k3 := (v3.alloc (.cells #[.int .i64 x6, .int .i64 x7] 145)).c3
  have s3 : (u3.alloc (.cells #[.int .i64 x6, .int .i64 x7] 145)).cell? ⟨u3.heap.size, 0, none⟩ = some (.int .i64 x6) := by simp
  have t3 : (u3.alloc (.cells #[.int .i64 x6, .int .i64 x7] 145)).cell? ⟨u3.heap.size, 1, none⟩ = some (.int .i64 x7) := by simp
  rw [rounds_succ]
  go_wp2
  go_region_held3 (fun w' => w'.cell? ⟨u3.heap.size, 0, none⟩ = some (.int .i64 x6) ∧ w'.cell? ⟨u3.heap.size, 1, none⟩ = some (.int .i64 x7) ∧ w'.cell? ⟨w1.heap.size + 1, 3, none⟩ = some (.int .i64 N)) (go_keep)
    (first | (go_at_call 97; refine (q3 _).mono ?_; rintro e u4 ⟨rfl, b'⟩; have b := undrew b'; have z1 := (b.cell (p := ⟨u3.heap.size, 0, none⟩) (by simp)).trans s3; have z2 := (b.cell (p := ⟨u3.heap.size, 1, none⟩) (by simp)).trans t3; have v4 := (v3.alloc (.cells #[.int .i64 x6, .int .i64 x7] 145)).below b; have lt4 := v4.lt; have z3 := v4.c3; have p := h3.alloc h3.size (.cells #[.int .i64 x6, .int .i64 x7] 145); have h4 := bmm p p.size b))
  clear k3 s3 t3 z1 z2 z3 b b' p h3 v3 lt3
  go_wp2
  rw [rounds_succ]
  go_wp2
  go_ret
  exact ⟨rfl, h4⟩

set_option maxRecDepth 100000 in
theorem check_none (K S Q N : Int) (T : ByteArray) (x0 x1 x2 x3 x4 x5 x6 x7 : Int)
    (hsp : ∀ w, Calls Tryz.prog 123 #[.int .i64 K] w fun e w' => e = .returned (.tuple #[.agg #[.int .i64 x0, .int .i64 x1, .int .i64 x2, .int .i64 x3, .int .i64 x4, .int .i64 x5, .int .i64 x6, .int .i64 x7], .bool false]) ∧ Below w.heap.size w w') (w : World) :
    Calls Tryz.prog 96 #[.agg #[.int .i64 K, .int .i64 S, .int .i64 Q, .string T, .int .i64 N]] w fun e w' => e = .returned (.int .i64 1) ∧ Below w.heap.size w w' := by
  have ba : Below w.heap.size w (w.alloc (.cells #[.int .i64 K, .int .i64 S, .int .i64 Q, .string T, .int .i64 N] 23)) := (Below.refl _ w).alloc (Nat.le_refl _) _
  go_enter Tryz.func96, Tryz.ntmps96
  go_wp2_with (go_at_call 123; refine (hsp _).mono ?_; rintro e w1 ⟨rfl, b1⟩)
  have f1 := bmm ba ba.size b1
  go_ret
  exact ⟨rfl, f1.alloc f1.size _⟩

/-- Check. -/
theorem check_any (K S Q N : Int) (T : ByteArray) (w : World) :
    Calls Tryz.prog 96 #[.agg #[.int .i64 K, .int .i64 S, .int .i64 Q, .string T, .int .i64 N]] w fun e w' => e = .returned (.int .i64 (if mayB ⟨K, S, Q, T, N⟩ = true then 0 else 1)) ∧ Below w.heap.size w w' := by
  rw [may_spans]
  have hsp := spans_any K
  generalize spK K = x at hsp ⊢
  obtain ⟨⟨x0, x1, x2, x3, x4, x5, x6, x7⟩, kn⟩ := x
  cases kn with
  | false => exact check_none K S Q N T x0 x1 x2 x3 x4 x5 x6 x7 hsp w
  | true =>
    unfold inSp
    simp only [Bool.true_and]
    have q0 := holds_any x0 x1 S
    have q1 := holds_any x2 x3 Q
    have q2 := holds_any x4 x5 (T.size : Int)
    have q3 := holds_any x6 x7 N
    obtain ⟨a, ha⟩ : ∃ a, a = (decide (x0 ≤ S) && decide (S ≤ x1)) := ⟨_, rfl⟩
    obtain ⟨b, hb⟩ : ∃ b, b = (decide (x2 ≤ Q) && decide (Q ≤ x3)) := ⟨_, rfl⟩
    obtain ⟨c, hc⟩ : ∃ c, c = (decide (x4 ≤ (T.size : Int)) && decide ((T.size : Int) ≤ x5)) := ⟨_, rfl⟩
    obtain ⟨d, hd⟩ : ∃ d, d = (decide (x6 ≤ N) && decide (N ≤ x7)) := ⟨_, rfl⟩
    rw [← ha] at q0 ⊢
    rw [← hb] at q1 ⊢
    rw [← hc] at q2 ⊢
    rw [← hd] at q3 ⊢
    cases a with
    | false => exact check_no0 K S Q N T x0 x1 x2 x3 x4 x5 x6 x7 hsp q0 w
    | true =>
      cases b with
      | false => exact check_no1 K S Q N T x0 x1 x2 x3 x4 x5 x6 x7 hsp q0 q1 w
      | true =>
        cases c with
        | false => exact check_no2 K S Q N T x0 x1 x2 x3 x4 x5 x6 x7 hsp q0 q1 q2 w
        | true =>
          cases d with
          | false => exact check_no3 K S Q N T x0 x1 x2 x3 x4 x5 x6 x7 hsp q0 q1 q2 q3 w
          | true => exact check_all K S Q N T x0 x1 x2 x3 x4 x5 x6 x7 hsp q0 q1 q2 q3 w
end Go.Proofs.YtdhlbldmdeepiaaGreatDoor
