/-
  Package session: a new one, which lives may be, a client's latest life, flags. No condition.
-/
import Derived.Test.YthokbififjhflaaSeMem
import Derived.Test.YthokbififjhflaaRTake
import Derived.Deep.QuietTactic
import Derived.BigQuiet
import Derived.Deep.Cut
import Derived.WalkSmall
namespace Go.Proofs.Ythokbififjhflaa
open Go.RowKit

set_option maxRecDepth 100000 in
theorem flag_any (b : Bool) (w : World) : Calls Try.prog 56 #[.bool b] w fun e w' => e = .returned (.int .i64 (seBit b)) ∧ w' = w := by
  cases b <;> (go_enter Try.func56, Try.ntmps56; go_wp2; go_ret; exact ⟨rfl, rfl⟩)
set_option maxRecDepth 100000 in
theorem mayLive_any (c f : Int) (w : World) : Calls Try.prog 48 #[.int .i64 c, .int .i64 f] w fun e w' => e = .returned (.bool (seMay c f)) ∧ w' = w := by
  unfold seMay
  obtain ⟨b1, h1⟩ : ∃ b, decide (0 ≤ c) = b := ⟨_, rfl⟩
  obtain ⟨b2, h2⟩ : ∃ b, decide (c < 8) = b := ⟨_, rfl⟩
  obtain ⟨b3, h3⟩ : ∃ b, decide (1 ≤ f) = b := ⟨_, rfl⟩
  obtain ⟨b4, h4⟩ : ∃ b, decide (f ≤ 1073741824) = b := ⟨_, rfl⟩
  rw [h1, h2, h3, h4]
  cases b1 <;> cases b2 <;> cases b3 <;> cases b4 <;> (go_enter Try.func48, Try.ntmps48; go_wp2; go_ret; exact ⟨rfl, rfl⟩)
structure SeNew (w : World) (e : Ending) (w' : World) : Prop where
  ex : ∃ X S, e = .returned (.pointer (some ⟨X, 0, none⟩)) ∧ SeAt w' w.heap.size X S [] ∧ Below w.heap.size w w'
theorem three_at (w : World) (o1 o2 o3 : Obj) : (((w.alloc o1).alloc o2).alloc o3).heap[w.heap.size]? = (w.alloc o1).heap[w.heap.size]? ∧ (((w.alloc o1).alloc o2).alloc o3).heap[w.heap.size + 1]? = ((w.alloc o1).alloc o2).heap[w.heap.size + 1]? ∧ (((w.alloc o1).alloc o2).alloc o3).heap.size = w.heap.size + 1 + 1 + 1 :=
  ⟨((MapKept.heap_alloc _ o3).2 _ (by simp; omega)).trans ((MapKept.heap_alloc _ o2).2 _ (by simp)), (MapKept.heap_alloc _ o3).2 _ (by simp), by simp⟩
set_option maxRecDepth 100000 in
set_option maxHeartbeats 2000000 in
theorem snew_any (w : World) : Calls Try.prog 9 #[] w (SeNew w) := by
  have hmk := @run_makeMap Try.prog
  go_enter Try.func9, Try.ntmps9
  go_wp2
  go_ret
  obtain ⟨W, hW⟩ : ∃ W, W = (((w.alloc (.map #[] 0)).alloc (.map #[] 0)).alloc (.cells (seA w.heap.size (w.heap.size + 1) (fun _ => 0)) 65)) := ⟨_, rfl⟩
  have ht := three_at w (.map #[] 0) (.map #[] 0) (.cells (seA w.heap.size (w.heap.size + 1) (fun _ => 0)) 65)
  rw [← hW] at ht
  have hz : ((w.alloc (.map #[] 0)).alloc (.map #[] 0)).heap.size = w.heap.size + 1 + 1 := by simp
  have hX : W.heap[w.heap.size + 1 + 1]? = some (.cells (seA w.heap.size (w.heap.size + 1) (fun _ => 0)) 65 (0, 0)) := by rw [hW, ← hz]; exact heap_alloc_new _ _
  have hz1 : (w.alloc (.map #[] 0)).heap.size = w.heap.size + 1 := by simp
  have hA : mSe.At W w.heap.size [] := (MapOf.new mSe w).keep ht.1
  have hO : mSe.At W (w.heap.size + 1) [] := by
    have := MapOf.new mSe (w.alloc (.map #[] 0))
    rw [hz1] at this
    exact this.keep ht.2.1
  have hB : Below w.heap.size w W := by rw [hW]; exact (((Below.refl _ w).alloc (Nat.le_refl _) _).alloc (by simp) _).alloc (by simp; omega) _
  refine ⟨w.heap.size + 1 + 1, fun g => g = w.heap.size + 1 + 1 ∨ g = w.heap.size ∨ g = w.heap.size + 1 ∨ g ∈ ([] : List Nat), rfl, ?_, by rw [hW] at hB; exact hB⟩
  show SeAt (((w.alloc (.map #[] 0)).alloc (.map #[] 0)).alloc (.cells (seA w.heap.size (w.heap.size + 1) (fun _ => 0)) 65)) _ _ _ _
  rw [← hW]
  refine ⟨⟨w.heap.size, w.heap.size + 1, [], [], [], fun _ => 0, hX, fun c _ => rfl, hA, hO, fun id => ?_, fun id => ?_, rfl, List.nodup_nil, fun i x b hx => (by simp at hx), by omega, fun g hg => ?_, fun _ => Iff.rfl⟩, SeOk.nil, by simp⟩
  · unfold sePt
    split <;> rfl
  · have e : seOp [] id = false := by
      unfold seOp seAt
      by_cases h1 : 1 ≤ id
      · rw [if_pos h1]; rfl
      · rw [if_neg h1]
    rw [e, if_neg (by decide)]
    rfl
  · rcases hg with h | h | h | h
    · omega
    · omega
    · omega
    · cases h
theorem SeAt.okL {w : World} {base X : Nat} {S : Nat → Prop} {l : List SeX} (h : SeAt w base X S l) (c : Int) : okI (seLat l c : Int) := by
  have := seLat_le l c
  have := h.len
  unfold okI
  omega
set_option maxRecDepth 100000 in
set_option maxHeartbeats 2000000 in
theorem lifeOf_quiet {w : World} {base X : Nat} {S : Nat → Prop} {l : List SeX} (h : SeAt w base X S l) (c : Nat) (hc : c < 8) : Calls Try.prog 49 #[.pointer (some ⟨X, 0, none⟩), .int .i64 (c : Int)] w fun e w' => e = .returned (.int .i64 (seLif l c)) ∧ ∃ m, w' = w.drewN m := by
  obtain ⟨ma, mo, la, lo, ps, L, hM⟩ := h.ex
  have c0 : w.cell? ⟨X, 0, none⟩ = some (.map (some ma)) := hM.cell 0 _ rfl
  have cc := hM.cellL c hc
  have hlk : ∀ n, (Instr.lookup 62 (.map (some ma)) (.int .i64 (seLat l c)) true).run Try.prog (w.drewN n) = .ok (.tuple #[seV (sePt ps (seLat l c)), .bool (sePt ps (seLat l c)).isSome]) (w.drewN n) := fun n => (hM.fresh (below_drewN (Below.refl _ w) n)).lookA (h.okL c)
  have hb : (c : Int) < 8 := by omega
  rcases seLat_at l c with ⟨h1, _⟩ | ⟨k, x, h1, h2, _, _⟩
  · have e1 : sePt ps (seLat l c) = none := sePt_none hM.nps (by unfold seAt; rw [h1, if_neg (by decide)])
    rw [seLif_zero h1]
    rw [e1] at hlk
    simp only [seV, Option.isSome_none] at hlk
    clear hM h h1 e1
    go_enter Try.func49, Try.ntmps49
    go_wp2
    go_quiet (fail)
    go_wp2
    go_ret
    exact ⟨rfl, _, rfl⟩
  · have hx : seAt l (seLat l c : Int) = some x := by rw [h1]; show seAt l ((k : Int) + 1) = _; rw [seAt_nat]; exact h2
    obtain ⟨b, e1, _, _, hB⟩ := hM.sess hx
    rw [seLif_eq h1 h2]
    rw [e1] at hlk
    simp only [seV, Option.isSome_some] at hlk
    have c1 : w.cell? ⟨b, 1, none⟩ = some (.int .i64 x.life) := hB.cell 1 _ rfl
    clear hM h h1 e1 hx hB h2
    go_enter Try.func49, Try.ntmps49
    go_wp2
    go_quiet (fail)
    go_wp2
    go_ret
    exact ⟨rfl, _, rfl⟩
theorem lifeOf_any {w : World} {base X : Nat} {S : Nat → Prop} {l : List SeX} (h : SeAt w base X S l) (c : Nat) (hc : c < 8) : Calls Try.prog 49 #[.pointer (some ⟨X, 0, none⟩), .int .i64 (c : Int)] w fun e w' => e = .returned (.int .i64 (seLif l c)) ∧ Below w.heap.size w w' :=
  (lifeOf_quiet h c hc).mono fun e w' ⟨he, m, hm⟩ => ⟨he, by rw [hm]; exact below_drewN (Below.refl _ _) _⟩
end Go.Proofs.Ythokbififjhflaa
