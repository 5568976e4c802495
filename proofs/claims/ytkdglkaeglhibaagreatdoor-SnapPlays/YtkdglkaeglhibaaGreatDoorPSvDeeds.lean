/-
  What SnapPlays is handed, opened: a row of deeds. No condition.
-/
import Derived.Test.YtkdglkaeglhibaaGreatDoorPSvPlays
import Derived.Deep.Slices
import Derived.Lib.SmallJoins
import Derived.ProofKit
import Derived.OpenShut
import Derived.ShutString
import Derived.ChangeOld
import Derived.Below
namespace Go.Proofs.YtkdglkaeglhibaaGreatDoor
open Go.ChangeShapes Go.WideShapes Go.ChangeAt Go.RowKit Go.Joins Go.Deep

theorem cellsSd : Tryz.prog.cellsOf 30 = 4 := by kernel_rfl
theorem cellsI : Tryz.prog.cellsOf 3 = 1 := by kernel_rfl
theorem cellsT : Tryz.prog.cellsOf 9 = 1 := by kernel_rfl
theorem choose_sd {n : Nat} {p : Nat → Sd → Prop} (h : ∀ j, j < n → ∃ x, p j x) : ∃ f : Nat → Sd, ∀ j, j < n → p j (f j) := by
  refine ⟨fun j => if hj : j < n then Classical.choose (h j hj) else ⟨0, 0, ⟨#[]⟩, ⟨#[]⟩⟩, fun j hj => ?_⟩
  simp only [hj, dif_pos]
  exact Classical.choose_spec (h j hj)
section
variable {H : Type} {enc : TypeId × Value → H} {w : World}
set_option maxRecDepth 100000 in
theorem sd_cells {base : Nat} {spare : Nat → Bool} {held : Bool} {fuel : Nat} {cs : List Value} {x : DataW H × List MemPlace} (h : DataW.trod enc Tryz.prog w base spare held fuel 30 cs = some x) :
    ∃ (K N : Int) (F S : ByteArray), cs = [.int .i64 K, .int .i64 N, .string F, .string S] ∧ F.size ≤ maxLen ∧ (-9223372036854775808 ≤ N ∧ N ≤ 9223372036854775807) := by
  obtain ⟨y0, y1, y2, y3, n, _, hl, h0, h1, h2, h3⟩ := trod_struct4 Tryz.underlying30 h
  rw [cellsSd] at hl
  match cs, hl with
  | [a, b, c, d], _ =>
    simp only [cellsI, cellsT] at h0 h1 h2 h3
    obtain ⟨K, e0, _⟩ := DataW.trod_int Tryz.underlying3 h0
    obtain ⟨N, e1, _, hN⟩ := DataW.trod_int Tryz.underlying3 h1
    obtain ⟨F, e2, _, hF⟩ := DataW.trod_string Tryz.underlying9 h2
    obtain ⟨S, e3, _, hS⟩ := DataW.trod_string Tryz.underlying9 h3
    simp at e0 e1 e2 e3
    exact ⟨K, N, F, S, by rw [e0, e1, e2, e3], hF, by
      have h5 := hN
      simp [Lit.wf] at h5
      exact ⟨h5.1, h5.2⟩⟩
theorem open_sds {a : Option Addr} {len cap : Nat} {d : DataW H} {p : List MemPlace} (h : DataW.Trod enc Tryz.prog w 0 (fun _ => true) true 22 (.slice a len cap) d p) :
    len = 0 ∨ ∃ (bk off : Nat) (X : Nat → Sd), a = some ⟨bk, off, none⟩ ∧ bk < w.heap.size ∧ ∀ j, j < len → IsSd w bk (off + j * 4) (X j) := by
  obtain ⟨fuel, hf⟩ := h
  rcases open_slice Tryz.underlying22 hf with ⟨h0, _⟩ | ⟨x, l, c, m, n, D, Pl, hcs, _, hl, hm, hmm, hx, hel⟩
  · left
    simp [Value.cells] at h0
    exact h0.2.1
  · simp [Value.cells] at hcs
    obtain ⟨rfl, rfl, rfl⟩ := hcs
    by_cases h0 : len = 0
    · exact Or.inl h0
    right
    rw [cellsSd] at hel
    have hmc : m = cap := by simpa using hmm
    have each : ∀ j, j < len → ∃ q : Sd, (w.cell? (x.add (j * 4)) = some (.int .i64 q.K) ∧ w.cell? (x.add (j * 4 + 1)) = some (.int .i64 q.N) ∧ w.cell? (x.add (j * 4 + 2)) = some (.string q.F) ∧ w.cell? (x.add (j * 4 + 3)) = some (.string q.s)) ∧ q.F.size ≤ maxLen ∧ -9223372036854775808 ≤ q.N ∧ q.N ≤ 9223372036854775807 := by
      intro j hj
      obtain ⟨cs', h1, h2⟩ := hel j (by omega)
      obtain ⟨_, hlen, hcell⟩ := World.cells?_some h1
      obtain ⟨K, N, F, S, rfl, hF, hN⟩ := sd_cells h2
      have g0 := hcell 0 (by simp)
      have g1 := hcell 1 (by simp)
      have g2 := hcell 2 (by simp)
      have g3 := hcell 3 (by simp)
      rw [add_add] at g0 g1 g2 g3
      exact ⟨⟨K, N, F, S⟩, ⟨g0, g1, g2, g3⟩, hF, hN.1, hN.2⟩
    obtain ⟨X, hX⟩ := choose_sd each
    have c00 := (hX 0 (by omega)).1.1
    obtain ⟨bk, off, spot⟩ := x
    have hspot : spot = none := by simpa [Addr.add] using World.cell?_spot c00
    subst hspot
    refine ⟨bk, off, X, rfl, ?_, fun j hj => ?_⟩
    · have := World.block_lt_of_cell? w _ c00
      simpa [Addr.add] using this
    · obtain ⟨⟨a0, a1, a2, a3⟩, b0, b1, b2⟩ := hX j hj
      rw [Addr.add_mid] at a0 a1 a2 a3
      rw [← Nat.add_assoc] at a1 a2 a3
      exact ⟨a0, a1, a2, a3, b0, b1, b2⟩
end
end Go.Proofs.YtkdglkaeglhibaaGreatDoor
