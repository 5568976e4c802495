/-
  Package proposer: a new one, what it proposes first, what is open, one more proposed, each as the document's plain data. The conditions: slots from 1 to 2^40 on, some hundred thousand of them; texts have at most 2^48 bytes.
-/
import Derived.Test.YtmlgoecdefeapaaPPxRel
import Derived.Test.YtmlgoecdefeapaaPBaCode
namespace Go.Proofs.Ytmlgoecdefeapaa
open Go.RowKit

/-- The program's proposer in memory, as the document's plain data. -/
structure PS (w : World) (base X : Nat) (S : Nat → Prop) (q : Pp) : Prop where
  ex : ∃ p mp mb ma v, PxAt w base X S q.n q.b q.f q.is p mp mb ma v ∧ Rel q p ∧ (q.is = false → ∃ M, mp = some M)
section
variable {w w' : World} {base X : Nat} {S : Nat → Prop} {q : Pp}
theorem PS.bd (h : PS w base X S q) : ∀ g, S g → base ≤ g ∧ g < w.heap.size := fun g hg => by
  obtain ⟨p, mp, mb, ma, v, h, _⟩ := h.ex
  exact ⟨h.lo g hg, h.bd g hg⟩
theorem PS.keep (h : PS w base X S q) (hk : ∀ g, S g → w'.heap[g]? = w.heap[g]?) : PS w' base X S q := by
  obtain ⟨p, mp, mb, ma, v, h, h2⟩ := h.ex
  exact ⟨p, mp, mb, ma, v, h.keep hk, h2⟩
theorem PS.fresh (h : PS w base X S q) (k : Below w.heap.size w w') : PS w' base X S q := h.keep fun g hg => k.block g (h.bd g hg).2
theorem PS.inX (h : PS w base X S q) : S X := by
  obtain ⟨p, mp, mb, ma, v, h, h2⟩ := h.ex
  exact h.inX
end
/-- Slots that are near. -/
structure Lim (q : Pp) : Prop where
  lo : 1 ≤ q.f
  hi : q.f ≤ 1099511627776
  best : ∀ e ∈ q.best, e.slot ≤ q.f + 1000
  next : q.is = true → q.next ≤ q.f + 100000
structure NewPost (w : World) (q : Pp) (e : Ending) (w' : World) : Prop where
  ex : ∃ X S, e = .returned (.pointer (some ⟨X, 0, none⟩)) ∧ PS w' w.heap.size X S q ∧ Below w.heap.size w w'
set_option maxHeartbeats 3200000 in
set_option maxRecDepth 100000 in
theorem pnewX_any (w : World) (n b f : Int) : Calls Try.prog 9 #[.int .i64 n, .int .i64 b, .int .i64 f] w (NewPost w (Pp.new n b f)) := by
  have hmm := @run_makeMap Try.prog
  go_enter Try.func9, Try.ntmps9
  go_wp2
  go_ret
  obtain ⟨w1, h1⟩ : ∃ w1, w1 = w.alloc (.map #[] 0) := ⟨_, rfl⟩
  obtain ⟨w2, h2⟩ : ∃ w2, w2 = w1.alloc (.map #[] 0) := ⟨_, rfl⟩
  obtain ⟨w3, h3⟩ : ∃ w3, w3 = w2.alloc (.map #[] 0) := ⟨_, rfl⟩
  obtain ⟨cs, hcs⟩ : ∃ cs, cs = pxA n b f false ⟨[], [], 0, 0, 0, [], []⟩ (some w.heap.size) (w.heap.size + 1) (w.heap.size + 2) (.slice none 0 0) := ⟨_, rfl⟩
  obtain ⟨w4, h4⟩ : ∃ w4, w4 = w3.alloc (.cells cs 63) := ⟨_, rfl⟩
  have z1 : w1.heap.size = w.heap.size + 1 := by rw [h1]; simp
  have z2 : w2.heap.size = w.heap.size + 2 := by rw [h2]; simp [z1]
  have z3 : w3.heap.size = w.heap.size + 3 := by rw [h3]; simp [z2]
  have b1 : Below w.heap.size w w1 := by rw [h1]; exact (Below.refl _ w).alloc (Nat.le_refl _) _
  have b2 : Below w1.heap.size w1 w2 := by rw [h2]; exact (Below.refl _ w1).alloc (Nat.le_refl _) _
  have b3 : Below w2.heap.size w2 w3 := by rw [h3]; exact (Below.refl _ w2).alloc (Nat.le_refl _) _
  have b4 : Below w3.heap.size w3 w4 := by rw [h4]; exact (Below.refl _ w3).alloc (Nat.le_refl _) _
  have m1 : mSet.At w1 w.heap.size [] := by rw [h1]; exact MapOf.new mSet w
  have m2 : mBest.At w2 (w.heap.size + 1) [] := by rw [h2, ← z1]; exact MapOf.new mBest w1
  have m3 : mAcc.At w3 (w.heap.size + 2) [] := by rw [h3, ← z2]; exact MapOf.new mAcc w2
  have k4 : w4.heap[w.heap.size + 3]? = some (.cells cs 63 (0, 0)) := by rw [h4, ← z3]; exact heap_alloc_new w3 _
  have M1 : mSet.At w4 w.heap.size [] := m1.keep ((b4.block _ (by omega)).trans ((b3.block _ (by omega)).trans (b2.block _ (by omega))))
  have M2 : mBest.At w4 (w.heap.size + 1) [] := m2.keep ((b4.block _ (by omega)).trans (b3.block _ (by omega)))
  have M3 : mAcc.At w4 (w.heap.size + 2) [] := m3.keep (b4.block _ (by omega))
  rw [hcs] at k4
  refine ⟨w.heap.size + 3, fun g => g = w.heap.size + 3 ∨ (Value.slice none 0 0).ownBlock = some g ∨ g ∈ mapsP ⟨[], [], 0, 0, 0, [], []⟩ (some w.heap.size) (w.heap.size + 1) (w.heap.size + 2), ?_, ?_, ?_⟩
  · simp
  · refine ⟨⟨[], [], 0, 0, 0, [], []⟩, some w.heap.size, w.heap.size + 1, w.heap.size + 2, .slice none 0 0, ?_, ⟨fun x hx => absurd hx List.not_mem_nil, fun _ => ⟨fun s => rfl, rfl, rfl, rfl, fun x hx => absurd hx List.not_mem_nil, rfl, rfl⟩, fun hi => by cases hi⟩, fun _ => ⟨_, rfl⟩⟩
    have hw : w4 = (((w.alloc (.map #[] 0)).alloc (.map #[] 0)).alloc (.map #[] 0)).alloc (.cells cs 63) := by rw [h4, h3, h2, h1]
    rw [hcs] at hw
    have fin : PxAt w4 w.heap.size (w.heap.size + 3) (fun g => g = w.heap.size + 3 ∨ (Value.slice none 0 0).ownBlock = some g ∨ g ∈ mapsP ⟨[], [], 0, 0, 0, [], []⟩ (some w.heap.size) (w.heap.size + 1) (w.heap.size + 2)) n b f false ⟨[], [], 0, 0, 0, [], []⟩ (some w.heap.size) (w.heap.size + 1) (w.heap.size + 2) (.slice none 0 0) := by
      refine ⟨k4, fun M e => by cases e; exact M1, M2, M3, fun x hx => absurd hx List.not_mem_nil, World.ownsRow_nil _ _ _ _, ?_, fun g hg => ?_, fun _ => Iff.rfl⟩
      · simp [mapsP]
      · rcases hg with e | e | e
        · omega
        · simp [Value.ownBlock] at e
        · simp [mapsP] at e
          omega
    rw [hw] at fin
    exact fin
  · exact (((Below.refl _ w).alloc (Nat.le_refl _) _).alloc (by simp) _).alloc (by simp; omega) _ |>.alloc (by simp; omega) _
end Go.Proofs.Ytmlgoecdefeapaa
