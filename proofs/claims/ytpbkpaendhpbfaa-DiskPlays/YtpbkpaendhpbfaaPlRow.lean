/-
  DiskPlays of layer 5, for every input: it answers true, and the argument reads behind the call as it did (any deeds, crashes among them: each answer, and all files behind each). No condition.
-/
import Derived.Test.YtpbkpaendhpbfaaRows
import Derived.Test.YtpbkpaendhpbfaaPlI
import Derived.Test.YtpbkpaendhpbfaaQOpen
import Derived.Deep.Slices
import Derived.Lib.SmallJoins
import Derived.ProofKit
import Derived.OpenShut
import Derived.ShutString
import Derived.ChangeOld
import Derived.Below
namespace Go.Proofs.Ytpbkpaendhpbfaa
open Go.ChangeShapes Go.WideShapes Go.ChangeAt Go.RowKit Go.Joins Go.Deep
open Go.ChangeMaps (open_string shut_string)

theorem own : ownKnob Try.prog.godebug = none := by kernel_rfl
theorem laidOut : laidOutB Try.prog = true := by kernel_rfl

theorem choose_dd {n : Nat} {p : Nat → Dd → Prop} (h : ∀ j, j < n → ∃ x, p j x) : ∃ f : Nat → Dd, ∀ j, j < n → p j (f j) := by
  refine ⟨fun j => if hj : j < n then Classical.choose (h j hj) else ⟨0, 0, ⟨#[]⟩, ⟨#[]⟩, ⟨#[]⟩⟩, fun j hj => ?_⟩
  simp only [hj, dif_pos]
  exact Classical.choose_spec (h j hj)
theorem open_dds {H : Type} {enc : TypeId × Value → H} {w : World} {a : Option Addr} {len cap : Nat} {d : DataW H} {p : List MemPlace} (h : DataW.Trod enc Try.prog w 0 (fun _ => true) true 22 (.slice a len cap) d p) :
    len = 0 ∨ ∃ (bk off : Nat) (X : Nat → Dd), a = some ⟨bk, off, none⟩ ∧ bk < w.heap.size ∧ ∀ j, j < len → IsDd w bk (off + j * 5) (X j) := by
  obtain ⟨fuel, hf⟩ := h
  rcases open_slice Try.underlying22 hf with ⟨h0, _⟩ | ⟨x, l, c, m, n, D, Pl, hcs, _, hl, hm, hmm, hx, hel⟩
  · left
    simp [Value.cells] at h0
    exact h0.2.1
  · simp [Value.cells] at hcs
    obtain ⟨rfl, rfl, rfl⟩ := hcs
    by_cases h0 : len = 0
    · exact Or.inl h0
    right
    rw [cellsDeed] at hel
    have hmc : m = cap := by simpa using hmm
    have each : ∀ j, j < len → ∃ q : Dd, (w.cell? (x.add (j * 5)) = some (.int .i64 q.K) ∧ w.cell? (x.add (j * 5 + 1)) = some (.int .i64 q.N) ∧ w.cell? (x.add (j * 5 + 2)) = some (.string q.F) ∧ w.cell? (x.add (j * 5 + 3)) = some (.string q.T) ∧ w.cell? (x.add (j * 5 + 4)) = some (.string q.s)) ∧ q.F.size ≤ maxLen ∧ q.s.size ≤ maxLen ∧ -9223372036854775808 ≤ q.N ∧ q.N ≤ 9223372036854775807 := by
      intro j hj
      obtain ⟨cs', h1, h2⟩ := hel j (by omega)
      obtain ⟨_, hlen, hcell⟩ := World.cells?_some h1
      obtain ⟨K, N, F, T, S, rfl, hF, _, hS, hN⟩ := deed_cells h2
      have g0 := hcell 0 (by simp)
      have g1 := hcell 1 (by simp)
      have g2 := hcell 2 (by simp)
      have g3 := hcell 3 (by simp)
      have g4 := hcell 4 (by simp)
      rw [add_add] at g0 g1 g2 g3 g4
      exact ⟨⟨K, N, F, T, S⟩, ⟨g0, g1, g2, g3, g4⟩, hF, hS, hN.1, hN.2⟩
    obtain ⟨X, hX⟩ := choose_dd each
    have c00 := (hX 0 (by omega)).1.1
    obtain ⟨bk, off, spot⟩ := x
    have hspot : spot = none := by simpa [Addr.add] using World.cell?_spot c00
    subst hspot
    refine ⟨bk, off, X, rfl, ?_, fun j hj => ?_⟩
    · have := World.block_lt_of_cell? w _ c00
      simpa [Addr.add] using this
    · obtain ⟨⟨a0, a1, a2, a3, a4⟩, b0, b1, b2, b3⟩ := hX j hj
      rw [Addr.add_mid] at a0 a1 a2 a3 a4
      rw [← Nat.add_assoc] at a1 a2 a3 a4
      exact ⟨a0, a1, a2, a3, a4, b0, b1, b2, b3⟩

set_option maxRecDepth 100000 in
theorem lifted (os : Os) (started : os.Started) (H : Type) (enc : TypeId × Value → H) :
    ReturnsInHanded {} Try.checked os 3 .any (Rows.diskPlaysSpec.pre6 enc Try.prog Try.f3 Rows.diskPlaysRow.domain false) (Rows.diskPlaysSpec.post enc Try.prog Try.f3 false true false false) := by
  refine returnsInHanded_of_change (C := Try.checked) own started (by kernel_rfl) Try.func3
    (ChangeSpec.witness6 (enc := enc) (C := Try.checked) false ⟨#[], #[.slice none 0 0], []⟩ 8 (by kernel_rfl) (by kernel_rfl) (by kernel_rfl) (by kernel_rfl)) ?_
  intro W base args ds gs before hval0 hW _ _
  have hval : ∀ (j : Nat) t v, Try.f3.params[j]? = some t → args[j]? = some v → Value.okWide Try.prog W .any base t v := hval0
  have hW' := hW
  obtain ⟨p, q, hA0, hV, rfl, _, _⟩ := hW
  have hA : DataW.TrodAll enc Try.prog W 0 (fun _ => true) true Try.f3.params.toList args.toList ds p := hA0
  rw [Try.params3] at hA hval
  obtain ⟨v0, d0, rfl, rfl, h0⟩ := trodAll_one hA
  have lt0 : ∀ x ∈ p, x.block < W.heap.size := by obtain ⟨m, hm⟩ := h0; exact DataW.trod_lt m _ _ _ hm
  obtain ⟨a0, len, cap, rfl⟩ := okWide_slice Try.underlying22 (hval 0 22 v0 rfl rfl)
  obtain ⟨rfl, rfl⟩ := trodVars_none hV
  clear hA0 hval0
  refine (dplays_walk a0 len cap W (open_dds h0)).mono fun e W' ⟨he, bel⟩ => ?_
  subst he
  exact ⟨_, rfl, _, _, _, [], p, [], hW', trodAll_mk1 (shut_bool Try.underlying4 _), trodAll_mk1 (Below.trod laidOut (by kernel_rfl) (of_decide_eq_true (by kernel_rfl)) h0 bel lt0), rfl, bel.frame _, fun h => by cases h⟩
theorem diskPlays_holds : Rows.DiskPlaysSaid :=
  OpenClaim.holds_of_wide 3 Try.f3 rfl rfl rfl rfl rfl rfl rfl ⟨rfl, rfl, rfl, rfl, rfl⟩ rfl rfl rfl rfl rfl (by kernel_rfl) Try.func3 (by kernel_rfl)
    (of_decide_eq_true (by kernel_rfl)) (by unfold Func.isWrapper; first | (rw [if_pos (by decide +kernel)]; kernel_rfl) | (rw [if_neg (by decide +kernel)]; exact ⟨rfl, rfl⟩))
    (fun os started H enc _ => lifted os started H enc)
end Go.Proofs.Ytpbkpaendhpbfaa
