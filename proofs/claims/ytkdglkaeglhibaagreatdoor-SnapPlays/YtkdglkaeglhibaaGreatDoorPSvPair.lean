/-
  Save and Load of the program's disk and of the document's, side by side: both answer the same, and both disks go on to say the same. The conditions: at most 1000 steps; the program's variables lie in memory as its text lays them, below both disks.
-/
import Derived.Test.YtkdglkaeglhibaaGreatDoorPDuF
import Derived.Test.YtkdglkaeglhibaaGreatDoorPSvAwake
import Derived.Test.YtkdglkaeglhibaaGreatDoorPSnRef
namespace Go.Proofs.YtkdglkaeglhibaaGreatDoor
open Go.RowKit

/-- Both say the same behind a Save. -/
theorem cp_save {A : List CF} {L : Look} {clock turns : Nat} {st : Nat → Nat} (h : Cp A L clock turns st) (c : Nat) (F : List UInt8) : Cp (savedA A c F) (updL (updL L begunB none) snapB (some ((stR F clock).map sureB))) (clock + F.length) (turns + 1) st := by
  have z : ∀ b ∈ (stR F clock).map sureB, b.2 = 0 := fun b hb => by
    obtain ⟨x, _, rfl⟩ := List.mem_map.1 hb
    rfl
  have zi : ∀ i (hi : i < ((stR F clock).map sureB).length), ((stR F clock).map sureB)[i].2 = 0 := fun i hi => z _ (List.getElem_mem hi)
  have e2 : ((stR F clock).map sureB).map (·.2) = List.replicate F.length 0 := by
    rw [List.map_map]
    have h1 : ((fun b : BB => b.2) ∘ sureB) = fun _ => 0 := rfl
    rw [h1, List.map_const', stR_length]
  refine (h.remove begunB).put snapB (sureF snapB c F) _ (fun m => by rw [lk_saved, lk_delF]) (fun _ _ => rfl) (by omega) (by omega) ⟨?_, ?_, List.Pairwise.nil, ?_, fun b hb => by rw [z b hb]; exact Nat.zero_le _⟩ (fun x hx => by cases hx) (fun x hx => by cases hx) (fun x hx => by cases hx) (fun i hi j hj h0 => by rw [zi i hi] at h0; omega) (fun i hi k cs j hj _ _ h0 => by rw [zi i hi] at h0; omega)
  · show F = _
    rw [List.map_map]
    have h1 : ((fun b : BB => b.1) ∘ sureB) = fun b => b.1 := rfl
    rw [h1, stR_fst]
  · rw [e2]
    show _ = List.replicate F.length 0 ++ spans st []
    unfold spans
    simp
  · rw [e2]
    rw [List.pairwise_replicate]
    exact Or.inr (Nat.le_refl _)
section
variable {base Dx Dy b B : Nat} {A : List CF} {L : Look} {turns clock cnt k : Nat} {S : Nat → Prop} {d : Array Value × TypeId}
/-- A call on the program's disk that looks at the program's variables. -/
def HXE (B fn : Nat) (args : Array Value) (z : Value) (base Dx Dy : Nat) (A : List CF) (L : Look) (turns clock cnt : Nat) (S : Nat → Prop) (b : Nat) (d : Array Value × TypeId) (P : List CF → Nat → Prop) : Prop :=
  ∀ w ro, Duo w base Dx Dy A L turns clock cnt ro S b d → Env w B → Calls Tryz.prog fn args w fun e w' => e = .returned z ∧ ∃ A' turns' ro', Duo w' base Dx Dy A' L turns' clock cnt ro' S b d ∧ P A' turns' ∧ Below base w w'
theorem pair_save (h : Ok A L turns clock cnt k) (hk : k ≤ 999) (n : Int) (t : ByteArray) :
    ∃ (z : Int) (PX : List CF → Nat → Prop) (PY : Look → Nat → Nat → Prop), HXE B 5 #[.pointer (some ⟨Dx, 0, none⟩), .int .i64 n, .string t] (.int .i64 z) base Dx Dy A L turns clock cnt S b d PX ∧ HY 6 #[.pointer (some ⟨Dy, 0, none⟩), .int .i64 n, .string t] (.int .i64 z) base Dx Dy L clock cnt S b d PY ∧ ∀ A' t' L' c' n', PX A' t' → PY L' c' n' → Ok A' L' t' c' n' (k + 1) := by
  have hcn := h.cn
  have hla := h.la
  have hck := h.ck
  have htn := h.tn
  by_cases hm : mayS n t = true
  · obtain ⟨st, hc⟩ := h.cp
    have hl := encS_len hm
    have hfl : (fileS n t).length = (encS n t).length + 8 := frameOf_len _
    refine ⟨0, fun A' t' => ∃ c, A' = savedA A c (fileS n t) ∧ t' = turns + 1, fun L' c' n' => L' = updL (updL L begunB none) snapB (some ((stR (fileS n t) clock).map sureB)) ∧ c' = clock + (fileS n t).length ∧ n' = cnt + 1, fun w ro hD hE => (psave_yes hD.x hE n t hm (by omega)).mono fun _ _ ⟨g1, c, ro', g2, g3⟩ => ⟨g1, _, _, ro', hD.goX g2 g3, ⟨c, rfl, rfl⟩, hD.x.below g3⟩, HY.go fun w hy => (rsave_yes hy (by omega) n t hm (by omega)).mono fun _ _ ⟨g1, S', g2, g3⟩ => ⟨g1, _, _, _, S', g2, g3, rfl, rfl, rfl⟩, ?_⟩
    rintro A' t' L' c' n' ⟨c, rfl, rfl⟩ ⟨rfl, rfl, rfl⟩
    have hsl := saved_len A c (fileS n t)
    exact ⟨⟨st, cp_save hc c (fileS n t)⟩, by omega, by omega, by omega, by omega⟩
  · exact ⟨1, fun A' t' => A' = A ∧ t' = turns, fun L' c' n' => L' = L ∧ c' = clock ∧ n' = cnt, fun w ro hD _ => (psave_no n t w Dx hm).mono fun _ _ ⟨g1, g2⟩ => ⟨g1, A, turns, ro, by rw [← g2]; exact hD, ⟨rfl, rfl⟩, by rw [← g2]; exact Below.refl _ _⟩, HY.same fun w _ => rsave_no n t w Dy hm, ok_same h⟩
/-- Load, on either side. -/
theorem both_load (hO : Ok A L turns clock cnt k) (hk : k ≤ 1000) (hok : (∀ f ∈ A, FOk f) ∧ (A.map (·.c)).Nodup ∧ (A.map (·.name)).Nodup) :
    ∃ (n : Int) (t : ByteArray) (c : Int), ∀ (w : World) (ro : Nat → Option Nat) (S : Nat → Prop), Bis w base Dx Dy A L turns clock cnt ro S →
      (Env w B → Calls Tryz.prog 11 #[.pointer (some ⟨Dx, 0, none⟩)] w fun e w' => e = .returned (.tuple #[.int .i64 n, .string t, .int .i64 c]) ∧ Below w.heap.size w w') ∧
      (Calls Tryz.prog 12 #[.pointer (some ⟨Dy, 0, none⟩)] w fun e w' => e = .returned (.tuple #[.int .i64 n, .string t, .int .i64 c]) ∧ Below w.heap.size w w') := by
  have hcn := hO.cn
  rcases hO.name snapB with ⟨h1, h2⟩ | ⟨st, f, bs, hc, h1, h2, hM⟩
  · exact ⟨0, ⟨#[]⟩, 5, fun w ro S hB => ⟨fun hE => pload_no hB.x hE h1, rload_no hB.y (by omega) h2⟩⟩
  · have hF := hok.1 f (lk_mem h1).1
    have hlen := hM.len
    refine ⟨(loadS f.bs).1, (loadS f.bs).2.1, (loadS f.bs).2.2, fun w ro S hB => ⟨fun hE => pload_some hB.x hE f h1, ?_⟩⟩
    have h3 := rload_some hB.y (by omega) h2 (by have := hF.mx; omega)
    rw [bytesR_eq, ← hM.by_] at h3
    exact h3
end
/-- What a round of the law ends with: what is loaded, and the names of all files, on either side. -/
theorem tails {w3 : World} {base Dx Dy B : Nat} {A : List CF} {L : Look} {turns clock cnt k : Nat} {ro : Nat → Option Nat} {S : Nat → Prop} (hB : Bis w3 base Dx Dy A L turns clock cnt ro S) (hO : Ok A L turns clock cnt k) (hk : k ≤ 1000) (hE : Env w3 B) :
    ∃ (n : Int) (t : ByteArray) (c : Int),
      (∀ w1, Below w3.heap.size w3 w1 → Calls Tryz.prog 11 #[.pointer (some ⟨Dx, 0, none⟩)] w1 fun e w' => e = .returned (.tuple #[.int .i64 n, .string t, .int .i64 c]) ∧ Below w3.heap.size w3 w') ∧
      (∀ w1, Below w3.heap.size w3 w1 → Calls Tryz.prog 12 #[.pointer (some ⟨Dy, 0, none⟩)] w1 fun e w' => e = .returned (.tuple #[.int .i64 n, .string t, .int .i64 c]) ∧ Below w3.heap.size w3 w') ∧
      (∀ w1, Below w3.heap.size w3 w1 → Calls Tryz.prog 14 #[.pointer (some ⟨Dx, 0, none⟩)] w1 fun e w' => ∃ v, e = .returned v ∧ (∀ ns : List ByteArray, ns.Pairwise (fun a b => ltN a b = true) → (∀ n, n ∈ ns ↔ L n ≠ none) → StrAt w' v ns) ∧ Below w3.heap.size w3 w') ∧
      (∀ w1, Below w3.heap.size w3 w1 → Calls Tryz.prog 15 #[.pointer (some ⟨Dy, 0, none⟩)] w1 fun e w' => ∃ u ns, e = .returned u ∧ StrAt w' u ns ∧ ns.Pairwise (fun a b => ltN a b = true) ∧ (∀ n, n ∈ ns ↔ L n ≠ none) ∧ ns.length ≤ 1000 ∧ Below w1.heap.size w1 w' ∧ Below w3.heap.size w3 w') := by
  obtain ⟨n, t, c, h⟩ := both_load (base := base) (Dx := Dx) (Dy := Dy) (B := B) hO hk hB.x.ok
  have hok := hB.x.ok
  have hcn := hO.cn
  have hla := hO.la
  have hnm := both_names hB hO
  refine ⟨n, t, c, fun w1 b => ((h w1 ro S (hB.fresh b)).1 (hE.fresh b)).mono fun _ _ ⟨g1, g2⟩ => ⟨g1, bmm b b.size g2⟩, fun w1 b => (h w1 ro S (hB.fresh b)).2.mono fun _ _ ⟨g1, g2⟩ => ⟨g1, bmm b b.size g2⟩, fun w1 b => (S_files (hB.x.fresh b) (by omega)).mono fun _ w' ⟨v, g1, g2⟩ => ⟨v, g1, fun ns s1 m1 => (fl_strs g2 hok.2.2 s1 (fun n => (m1 n).trans (hnm n))).1, ?_⟩, fun w1 b => (rd_files (hB.y.fresh b) (by omega)).mono fun _ _ ⟨u, ns, g1, g2, g3, g4, g5, g6⟩ => ⟨u, ns, g1, g2, g3, g4, by omega, g6, bmm b b.size g6⟩⟩
  obtain ⟨acc, ss, p, cap, _, _, _, q, _⟩ := g2
  exact bmm b b.size q
theorem Duo.cell {w : World} {base Dx Dy b : Nat} {A : List CF} {L : Look} {turns clock cnt : Nat} {ro : Nat → Option Nat} {S : Nat → Prop} {d : Array Value × TypeId} (h : Duo w base Dx Dy A L turns clock cnt ro S b d) (i : Nat) (v : Value) (hv : d.1[i]? = some v) : w.cell? ⟨b, i, none⟩ = some v := by
  simp [World.cell?, h.bx, hv]
end Go.Proofs.YtkdglkaeglhibaaGreatDoor
