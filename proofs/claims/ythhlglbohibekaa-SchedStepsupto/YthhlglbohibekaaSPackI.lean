/-
  Parts of the proof, laid together: SoMem, SoTurn, SoPast, SoGoTo, SoObject. The conditions stand at each part.
-/
import Derived.Test.YthhlglbohibekaaSPackG
import Derived.Test.YthhlglbohibekaaSPackH
namespace Go.Proofs.Ythhlglbohibekaa
open Go.RowKit

structure Pk where
  ops : List Opx
  pos : Nat
  runs : List Int
def ptC (p : Tv × Pk) : List Value := [p.1.1, .int .i64 (p.2.pos : Int), p.1.2]
theorem ptC_len (x : Tv × Pk) : (ptC x).length = 3 := rfl
abbrev SchT : TypeId := 56
abbrev PtT : TypeId := 59
abbrev Who : Type := Nat × Nat
structure Lay where
  D : Nat
  bT : Nat
  bR : Nat
  bB : Nat
  M : Nat
  dR : Nat
  dB : Nat
def mapL (od : List Nat) (L : List (Int × Ob)) : List ((Int × Int) × (Int × Nat)) := (od.zip L).map fun p => ((p.2.2.k + 1, p.2.1), (p.2.2.k, p.1))
structure PkAt (w : World) (base : Nat) (ro : Nat → Option Who) (y : Lay) (tv : List Tv) (od : List Nat) (P : List Pk) (fR fB : Nat → Bool) (L : List (Int × Ob)) : Prop where
  hd : w.heap[y.D]? = some (.cells #[.slice (some ⟨y.bT, 0, none⟩) P.length P.length, .slice (some ⟨y.bR, 0, none⟩) (2 * 2 ^ y.dR) (2 * 2 ^ y.dR), .slice (some ⟨y.bB, 0, none⟩) (2 * 2 ^ y.dB) (2 * 2 ^ y.dB), .map (some y.M)] SchT (0, 0))
  tl : tv.length = P.length
  ol : od.length = L.length
  tb : ∃ cur, w.heap[y.bT]? = some (.cells cur PtT (0, 0)) ∧ cur.toList = rowL ptC (tv.zip P)
  cr : CrAt w y.bR y.dR fR
  cb : CrAt w y.bB y.dB fB
  mp : objM.At w y.M (mapL od L)
  op : ∀ i (_ : i < tv.length) (_ : i < P.length), RowAt opC w tv[i].1 P[i].ops ∧ ∀ bk off n cap, 0 < n → tv[i].1 = .slice (some ⟨bk, off, none⟩) n cap → ro bk = some (1, 0)
  ru : ∀ i (_ : i < tv.length) (_ : i < P.length), Slid intC 1 3 w tv[i].2 P[i].runs ∧ ∀ g, tv[i].2.ownBlock = some g → ro g = some (2, i)
  ob : ∀ i (_ : i < od.length) (_ : i < L.length), ObP w base od[i] (fun b => ro b = some (3, i)) L[i].2
  s0 : ro y.D = some (0, 0)
  s1 : ro y.bT = some (0, 1)
  s2 : ro y.M = some (0, 2)
  s3 : ro y.bR = some (0, 3)
  s4 : ro y.bB = some (0, 4)
  bd : ∀ b, ro b ≠ none → base ≤ b ∧ b < w.heap.size
  rb : ∀ b i, ro b = some (3, i) → i < L.length
  zR : P.length ≤ 2 ^ y.dR ∧ 2 ^ y.dR ≤ 65536
  zB : P.length ≤ 2 ^ y.dB ∧ 2 ^ y.dB ≤ 65536
  lR : ∀ x, fR x = true → x < P.length
  lB : ∀ x, fB x = true → x < P.length
structure Fr (w w' : World) (ro ro' : Nat → Option Who) (X : Who → Prop) : Prop where
  sz : w.heap.size ≤ w'.heap.size
  kp : ∀ b κ, ro b = some κ → ¬ X κ → w'.heap[b]? = w.heap[b]?
  fw : ∀ b κ, ro b = some κ → ¬ X κ → ro' b = some κ
  bk : ∀ b κ, ro' b = some κ → ¬ X κ → ro b = some κ
open Classical in
noncomputable def roT (ro : Nat → Option Who) (κ : Who) (S' : Nat → Prop) : Nat → Option Who := fun b => if S' b then some κ else if ro b = some κ then none else ro b
section
variable {w w' : World} {ro ro' : Nat → Option Who} {X : Who → Prop} {κ : Who} {S' : Nat → Prop} {base : Nat}
theorem Fr.same (hb : ∀ b, ro b ≠ none → b < w.heap.size) (k : Kept w w' (fun b => ro b = some κ) (fun b => ro b = some κ)) : Fr w w' ro ro (· = κ) :=
  ⟨k.size, fun b κ' e hn => k.kept b (hb b (by rw [e]; simp)) (fun e2 => hn (by rw [e] at e2; exact Option.some.inj e2)), fun _ _ e _ => e, fun _ _ e _ => e⟩
theorem roT_fw (hb : ∀ b, ro b ≠ none → b < w.heap.size) (k : Kept w w' (fun b => ro b = some κ) S') {b : Nat} {κ' : Who} (e : ro b = some κ') (hn : ¬ κ' = κ) : roT ro κ S' b = some κ' := by
  have h1 : ¬ S' b := fun hs => by
    rcases k.old b hs with h | h
    · rw [e] at h
      exact hn (Option.some.inj h)
    · have := hb b (by rw [e]; simp)
      omega
  have h2 : ¬ ro b = some κ := fun e2 => hn (by rw [e] at e2; exact Option.some.inj e2)
  unfold roT
  rw [if_neg h1, if_neg h2]
  exact e
theorem roT_bk {b : Nat} {κ' : Who} (e : roT ro κ S' b = some κ') (hn : ¬ κ' = κ) : ro b = some κ' := by
  unfold roT at e
  split at e
  · exact absurd (Option.some.inj e).symm hn
  · split at e
    · cases e
    · exact e
theorem roT_is {b : Nat} : roT ro κ S' b = some κ ↔ S' b := by
  constructor
  · intro e
    unfold roT at e
    split at e
    · assumption
    · split at e
      · cases e
      · exact absurd e (by assumption)
  · intro h
    unfold roT
    rw [if_pos h]
theorem Fr.turn (hb : ∀ b, ro b ≠ none → b < w.heap.size) (k : Kept w w' (fun b => ro b = some κ) S') : Fr w w' ro (roT ro κ S') (· = κ) :=
  ⟨k.size, fun b κ' e hn => k.kept b (hb b (by rw [e]; simp)) (fun e2 => hn (by rw [e] at e2; exact Option.some.inj e2)), fun _ _ e hn => roT_fw hb k e hn, fun _ _ e hn => roT_bk e hn⟩
theorem roT_some {b : Nat} (h : roT ro κ S' b ≠ none) : S' b ∨ ro b ≠ none := by
  unfold roT at h
  split at h
  · exact Or.inl (by assumption)
  · split at h
    · exact absurd rfl h
    · exact Or.inr h
theorem roT_kept (k : Kept w w' (fun b => ro b = some κ) S') : Kept w w' (fun b => ro b ≠ none) (fun b => roT ro κ S' b ≠ none) :=
  ⟨k.os, k.tape, k.output, k.size, fun b h => by
    rcases roT_some h with h | h
    · rcases k.old b h with h2 | h2
      · exact Or.inl (by rw [h2]; simp)
      · exact Or.inr h2
    · exact Or.inl h, fun b hb hn => k.kept b hb (fun e => hn (by rw [e]; simp))⟩
theorem ro_kept (k : Kept w w' (fun b => ro b = some κ) (fun b => ro b = some κ)) : Kept w w' (fun b => ro b ≠ none) (fun b => ro b ≠ none) :=
  ⟨k.os, k.tape, k.output, k.size, fun b h => Or.inl h, fun b hb hn => k.kept b hb (fun e => hn (by rw [e]; simp))⟩
theorem one_kept {c : Nat} (hc : ro c = some κ) (k : Kept w w' (· = c) (· = c)) : Kept w w' (fun b => ro b = some κ) (fun b => ro b = some κ) :=
  ⟨k.os, k.tape, k.output, k.size, fun b h => Or.inl h, fun b hb hn => k.kept b hb (fun e => hn (by rw [e]; exact hc))⟩
theorem set_kept (w : World) (c off : Nat) (v : Value) : Kept w (w.setCell ⟨c, off, none⟩ v) (· = c) (· = c) :=
  ⟨rfl, rfl, rfl, by simp, fun b h => Or.inl h, fun b _ hn => heap_setCell_other _ _ _ _ (by simpa using hn)⟩
end
section
variable {w w' : World} {base : Nat} {ro ro' : Nat → Option Who} {y : Lay} {tv : List Tv} {od : List Nat} {P : List Pk} {fR fB : Nat → Bool} {L : List (Int × Ob)} {X : Who → Prop}
theorem PkAt.lt (h : PkAt w base ro y tv od P fR fB L) : ∀ b, ro b ≠ none → b < w.heap.size := fun b hb => (h.bd b hb).2
theorem PkAt.opF (h : PkAt w base ro y tv od P fR fB L) (F : Fr w w' ro ro' X) (hX : ¬ X (1, 0)) (i : Nat) (h1 : i < tv.length) (h2 : i < P.length) : RowAt opC w' tv[i].1 P[i].ops ∧ ∀ bk off n cap, 0 < n → tv[i].1 = .slice (some ⟨bk, off, none⟩) n cap → ro' bk = some (1, 0) :=
  ⟨(h.op i h1 h2).1.keep F.sz (fun bk off n cap h0 e => F.kp bk _ ((h.op i h1 h2).2 bk off n cap h0 e) hX), fun bk off n cap h0 e => F.fw bk _ ((h.op i h1 h2).2 bk off n cap h0 e) hX⟩
theorem PkAt.ruF (h : PkAt w base ro y tv od P fR fB L) (F : Fr w w' ro ro' X) (i : Nat) (hX : ¬ X (2, i)) (h1 : i < tv.length) (h2 : i < P.length) : Slid intC 1 3 w' tv[i].2 P[i].runs ∧ ∀ g, tv[i].2.ownBlock = some g → ro' g = some (2, i) :=
  ⟨(h.ru i h1 h2).1.keep (fun g hg => F.kp g _ ((h.ru i h1 h2).2 g hg) hX), fun g hg => F.fw g _ ((h.ru i h1 h2).2 g hg) hX⟩
theorem PkAt.obF (h : PkAt w base ro y tv od P fR fB L) (F : Fr w w' ro ro' X) (i : Nat) (hX : ¬ X (3, i)) (h1 : i < od.length) (h2 : i < L.length) : ObP w' base od[i] (fun b => ro' b = some (3, i)) L[i].2 := by
  have e : (fun b => ro' b = some (3, i)) = fun b => ro b = some (3, i) := by
    funext b
    exact propext ⟨fun e => F.bk b _ e hX, fun e => F.fw b _ e hX⟩
  rw [e]
  exact (h.ob i h1 h2).keep F.sz (fun b hb => F.kp b _ hb hX)
theorem PkAt.crF (h : PkAt w base ro y tv od P fR fB L) (F : Fr w w' ro ro' X) (hX : ¬ X (0, 3)) : CrAt w' y.bR y.dR fR := h.cr.keep (F.kp _ _ h.s3 hX)
theorem PkAt.cbF (h : PkAt w base ro y tv od P fR fB L) (F : Fr w w' ro ro' X) (hX : ¬ X (0, 4)) : CrAt w' y.bB y.dB fB := h.cb.keep (F.kp _ _ h.s4 hX)
theorem PkAt.mpF (h : PkAt w base ro y tv od P fR fB L) (F : Fr w w' ro ro' X) (hX : ¬ X (0, 2)) : objM.At w' y.M (mapL od L) := h.mp.keep (F.kp _ _ h.s2 hX)
theorem PkAt.tbF (h : PkAt w base ro y tv od P fR fB L) (F : Fr w w' ro ro' X) (hX : ¬ X (0, 1)) : ∃ cur, w'.heap[y.bT]? = some (.cells cur PtT (0, 0)) ∧ cur.toList = rowL ptC (tv.zip P) := by
  obtain ⟨cur, h1, h2⟩ := h.tb
  exact ⟨cur, (F.kp _ _ h.s1 hX).trans h1, h2⟩
theorem PkAt.keep (h : PkAt w base ro y tv od P fR fB L) (hs : w.heap.size ≤ w'.heap.size) (hk : ∀ b, ro b ≠ none → w'.heap[b]? = w.heap[b]?) : PkAt w' base ro y tv od P fR fB L := by
  have F : Fr w w' ro ro (fun _ => False) := ⟨hs, fun b κ e _ => hk b (by rw [e]; simp), fun _ _ e _ => e, fun _ _ e _ => e⟩
  exact ⟨(F.kp _ _ h.s0 id).trans h.hd, h.tl, h.ol, h.tbF F id, h.crF F id, h.cbF F id, h.mpF F id, h.opF F id, fun i => h.ruF F i id, fun i => h.obF F i id, h.s0, h.s1, h.s2, h.s3, h.s4, fun b hb => ⟨(h.bd b hb).1, Nat.lt_of_lt_of_le (h.bd b hb).2 hs⟩, h.rb, h.zR, h.zB, h.lR, h.lB⟩
theorem PkAt.fresh (h : PkAt w base ro y tv od P fR fB L) (k : Below w.heap.size w w') : PkAt w' base ro y tv od P fR fB L := h.keep k.size (fun b hb => k.block b (h.lt b hb))
theorem PkAt.low {base' : Nat} (h : PkAt w base ro y tv od P fR fB L) (hb : base' ≤ base) : PkAt w base' ro y tv od P fR fB L :=
  ⟨h.hd, h.tl, h.ol, h.tb, h.cr, h.cb, h.mp, h.op, h.ru, fun i h1 h2 => (h.ob i h1 h2).low hb, h.s0, h.s1, h.s2, h.s3, h.s4, fun b h1 => ⟨Nat.le_trans hb (h.bd b h1).1, (h.bd b h1).2⟩, h.rb, h.zR, h.zB, h.lR, h.lB⟩
theorem PkAt.setR {f' : Nat → Bool} (h : PkAt w base ro y tv od P fR fB L) (hc : CrAt w' y.bR y.dR f') (k : Kept w w' (· = y.bR) (· = y.bR)) (hl : ∀ x, f' x = true → x < P.length) : PkAt w' base ro y tv od P f' fB L ∧ Kept w w' (fun b => ro b ≠ none) (fun b => ro b ≠ none) := by
  have k1 := one_kept h.s3 k
  have F := Fr.same h.lt k1
  exact ⟨⟨(F.kp _ _ h.s0 (by decide)).trans h.hd, h.tl, h.ol, h.tbF F (by decide), hc, h.cbF F (by decide), h.mpF F (by decide), h.opF F (by decide), fun i => h.ruF F i (by simp), fun i => h.obF F i (by simp), h.s0, h.s1, h.s2, h.s3, h.s4, fun b hb => ⟨(h.bd b hb).1, Nat.lt_of_lt_of_le (h.bd b hb).2 F.sz⟩, h.rb, h.zR, h.zB, hl, h.lB⟩, ro_kept k1⟩
theorem PkAt.setB {f' : Nat → Bool} (h : PkAt w base ro y tv od P fR fB L) (hc : CrAt w' y.bB y.dB f') (k : Kept w w' (· = y.bB) (· = y.bB)) (hl : ∀ x, f' x = true → x < P.length) : PkAt w' base ro y tv od P fR f' L ∧ Kept w w' (fun b => ro b ≠ none) (fun b => ro b ≠ none) := by
  have k1 := one_kept h.s4 k
  have F := Fr.same h.lt k1
  exact ⟨⟨(F.kp _ _ h.s0 (by decide)).trans h.hd, h.tl, h.ol, h.tbF F (by decide), h.crF F (by decide), hc, h.mpF F (by decide), h.opF F (by decide), fun i => h.ruF F i (by simp), fun i => h.obF F i (by simp), h.s0, h.s1, h.s2, h.s3, h.s4, fun b hb => ⟨(h.bd b hb).1, Nat.lt_of_lt_of_le (h.bd b hb).2 F.sz⟩, h.rb, h.zR, h.zB, h.lR, hl⟩, ro_kept k1⟩
end
end Go.Proofs.Ythhlglbohibekaa
namespace Go.Proofs.Ythhlglbohibekaa
open Go.RowKit

section
variable {w w' w1 : World} {base : Nat} {ro ro' : Nat → Option Who} {y : Lay} {tv : List Tv} {od : List Nat} {P : List Pk} {fR fB : Nat → Bool} {L : List (Int × Ob)} {X : Who → Prop}
theorem PkAt.setT (h : PkAt w base ro y tv od P fR fB L) (i : Nat) (hi : i < P.length) (hit : i < tv.length) (c : Nat) (u : Value) (tx : Tv) (p : Pk) (hc : c < 3) (e : ptC (tx, p) = (ptC (tv[i], P[i])).set c u) : ∃ cur, (w.setCell ⟨y.bT, i * 3 + c, none⟩ u).heap[y.bT]? = some (.cells cur PtT (0, 0)) ∧ cur.toList = rowL ptC ((tv.set i tx).zip (P.set i p)) := by
  obtain ⟨cur, h1, h2⟩ := h.tb
  have hz : i < (tv.zip P).length := by rw [List.length_zip, h.tl, Nat.min_self]; exact hi
  have ez : (tv.zip P)[i] = (tv[i], P[i]) := List.getElem_zip
  refine ⟨_, heap_setCell_same w y.bT _ cur _ _ h1, ?_⟩
  rw [Array.toList_setIfInBounds, h2, zip_set_left tv P i tx p, rowL_set ptC_len (tv.zip P) i hz c (tx, p) u hc (by rw [ez]; exact e)]
theorem PkAt.setPos (h : PkAt w base ro y tv od P fR fB L) (i : Nat) (hi : i < P.length) (a : Nat) : PkAt (w.setCell ⟨y.bT, i * 3 + 1, none⟩ (.int .i64 (a : Int))) base ro y tv od (P.set i { P[i] with pos := a }) fR fB L ∧ Kept w (w.setCell ⟨y.bT, i * 3 + 1, none⟩ (.int .i64 (a : Int))) (fun b => ro b ≠ none) (fun b => ro b ≠ none) := by
  have hit : i < tv.length := by rw [h.tl]; exact hi
  have k1 := one_kept h.s1 (set_kept w y.bT (i * 3 + 1) (.int .i64 (a : Int)))
  have F := Fr.same h.lt k1
  have e1 : tv.set i tv[i] = tv := List.set_getElem_self hit
  have ht := h.setT i hi hit 1 (.int .i64 (a : Int)) tv[i] { P[i] with pos := a } (by decide) rfl
  rw [e1] at ht
  have hop : ∀ j (h2 : j < (P.set i { P[i] with pos := a }).length), ∃ h3 : j < P.length, (P.set i { P[i] with pos := a })[j].ops = P[j].ops ∧ (P.set i { P[i] with pos := a })[j].runs = P[j].runs := fun j h2 => by
    have h3 : j < P.length := by rw [List.length_set] at h2; exact h2
    refine ⟨h3, ?_⟩
    rw [List.getElem_set]
    split
    · rename_i e
      subst e
      exact ⟨rfl, rfl⟩
    · exact ⟨rfl, rfl⟩
  refine ⟨⟨?_, by rw [List.length_set]; exact h.tl, h.ol, ht, h.crF F (by decide), h.cbF F (by decide), h.mpF F (by decide), fun j h1 h2 => ?_, fun j h1 h2 => ?_, fun j => h.obF F j (by simp), h.s0, h.s1, h.s2, h.s3, h.s4, fun b hb => ⟨(h.bd b hb).1, Nat.lt_of_lt_of_le (h.bd b hb).2 F.sz⟩, h.rb, by rw [List.length_set]; exact h.zR, by rw [List.length_set]; exact h.zB, by rw [List.length_set]; exact h.lR, by rw [List.length_set]; exact h.lB⟩, ro_kept k1⟩
  · rw [List.length_set]
    exact (F.kp _ _ h.s0 (by decide)).trans h.hd
  · obtain ⟨h3, h4, _⟩ := hop j h2
    rw [h4]
    exact h.opF F (by decide) j h1 h3
  · obtain ⟨h3, _, h4⟩ := hop j h2
    rw [h4]
    exact h.ruF F j (by simp) h1 h3
theorem PkAt.setRuns (h : PkAt w base ro y tv od P fR fB L) (i : Nat) (hi : i < P.length) (hit : i < tv.length) (u : Value) (r : List Int) (hu : Slid intC 1 3 w1 u r) (k : Kept w w1 (fun b => tv[i].2.ownBlock = some b) (fun b => u.ownBlock = some b)) :
    ∃ ro', PkAt (w1.setCell ⟨y.bT, i * 3 + 2, none⟩ u) base ro' y (tv.set i (tv[i].1, u)) od (P.set i { P[i] with runs := r }) fR fB L ∧ Kept w (w1.setCell ⟨y.bT, i * 3 + 2, none⟩ u) (fun b => ro b ≠ none) (fun b => ro' b ≠ none) := by
  have kA : Kept w w1 (fun b => ro b = some (2, i)) (fun b => u.ownBlock = some b) := ⟨k.os, k.tape, k.output, k.size, fun b hb => (k.old b hb).imp (fun e => (h.ru i hit hi).2 b e) id, fun b hb hn => k.kept b hb (fun e => hn ((h.ru i hit hi).2 b e))⟩
  have FA := Fr.turn h.lt kA
  have hT1 : roT ro (2, i) (fun b => u.ownBlock = some b) y.bT = some (0, 1) := FA.fw _ _ h.s1 (by simp)
  have hub : ∀ g, u.ownBlock = some g → g < w1.heap.size := fun g hg => hu.lt hg
  have huT : u.ownBlock ≠ some y.bT := fun e => by
    have := (roT_is (ro := ro) (κ := (2, i)) (S' := fun b => u.ownBlock = some b)).2 e
    rw [hT1] at this
    simp at this
  have hlt1 : ∀ b, roT ro (2, i) (fun b => u.ownBlock = some b) b ≠ none → b < w1.heap.size := fun b hb => by
    rcases roT_some hb with h1 | h1
    · exact hub b h1
    · exact Nat.lt_of_lt_of_le (h.lt b h1) k.size
  have kB := one_kept hT1 (set_kept w1 y.bT (i * 3 + 2) u)
  have FB := Fr.same hlt1 kB
  have F : Fr w (w1.setCell ⟨y.bT, i * 3 + 2, none⟩ u) ro (roT ro (2, i) (fun b => u.ownBlock = some b)) (fun κ => κ = (2, i) ∨ κ = (0, 1)) :=
    ⟨Nat.le_trans FA.sz FB.sz, fun b κ e hn => (FB.kp b κ (FA.fw b κ e (fun e => hn (Or.inl e))) (fun e => hn (Or.inr e))).trans (FA.kp b κ e (fun e => hn (Or.inl e))), fun b κ e hn => FA.fw b κ e (fun e => hn (Or.inl e)), fun b κ e hn => FA.bk b κ e (fun e => hn (Or.inl e))⟩
  have ht : ∃ cur, (w1.setCell ⟨y.bT, i * 3 + 2, none⟩ u).heap[y.bT]? = some (.cells cur PtT (0, 0)) ∧ cur.toList = rowL ptC ((tv.set i (tv[i].1, u)).zip (P.set i { P[i] with runs := r })) := by
    obtain ⟨cur, h1, h2⟩ := h.tb
    have hz : i < (tv.zip P).length := by rw [List.length_zip, h.tl, Nat.min_self]; exact hi
    have ez : (tv.zip P)[i] = (tv[i], P[i]) := List.getElem_zip
    refine ⟨_, heap_setCell_same w1 y.bT _ cur _ _ ((FA.kp _ _ h.s1 (by simp)).trans h1), ?_⟩
    rw [Array.toList_setIfInBounds, h2, zip_set_left tv P i (tv[i].1, u) { P[i] with runs := r }, rowL_set ptC_len (tv.zip P) i hz 2 ((tv[i].1, u), { P[i] with runs := r }) u (by decide) (by rw [ez]; rfl)]
  refine ⟨roT ro (2, i) (fun b => u.ownBlock = some b), ⟨?_, by rw [List.length_set, List.length_set]; exact h.tl, h.ol, ht, h.crF F (by simp), h.cbF F (by simp), h.mpF F (by simp), fun j h1 h2 => ?_, fun j h1 h2 => ?_, fun j => h.obF F j (by simp), F.fw _ _ h.s0 (by simp), hT1, F.fw _ _ h.s2 (by simp), F.fw _ _ h.s3 (by simp), F.fw _ _ h.s4 (by simp), fun b hb => ?_, fun b j hj => h.rb b j (F.bk _ _ hj (by simp)), by rw [List.length_set]; exact h.zR, by rw [List.length_set]; exact h.zB, by rw [List.length_set]; exact h.lR, by rw [List.length_set]; exact h.lB⟩, (roT_kept kA).trans (ro_kept kB)⟩
  · rw [List.length_set]
    exact (F.kp _ _ h.s0 (by simp)).trans h.hd
  · have h1' : j < tv.length := by rw [List.length_set] at h1; exact h1
    have h2' : j < P.length := by rw [List.length_set] at h2; exact h2
    have := h.opF F (by simp) j h1' h2'
    rw [List.getElem_set, List.getElem_set]
    split
    · rename_i e
      subst e
      exact this
    · exact this
  · have h1' : j < tv.length := by rw [List.length_set] at h1; exact h1
    have h2' : j < P.length := by rw [List.length_set] at h2; exact h2
    rw [List.getElem_set, List.getElem_set]
    split
    · rename_i e
      subst e
      exact ⟨hu.keep (fun g hg => heap_setCell_other _ _ _ _ (fun e => huT (by rw [hg]; simpa using e))), fun g hg => roT_is.2 hg⟩
    · rename_i e
      exact h.ruF F j (by intro h9; rcases h9 with h9 | h9; exact e (by simpa using h9.symm); simp at h9) h1' h2'
  · have hb2 := hlt1 b hb
    have hs : (w1.setCell ⟨y.bT, i * 3 + 2, none⟩ u).heap.size = w1.heap.size := by simp
    rw [hs]
    refine ⟨?_, hb2⟩
    rcases roT_some hb with h1 | h1
    · rcases kA.old b h1 with h3 | h3
      · exact (h.bd b (by rw [h3]; simp)).1
      · have h4 := h.bd y.D (by rw [h.s0]; simp)
        omega
    · exact (h.bd b h1).1
theorem PkAt.turnOb (h : PkAt w base ro y tv od P fR fB L) (i : Nat) (hi : i < L.length) (hio : i < od.length) {S' : Nat → Prop} {o : Ob} (hk : o.k = L[i].2.k) (ho : ObP w' base od[i] S' o) (k : Kept w w' (fun b => ro b = some (3, i)) S') :
    PkAt w' base (roT ro (3, i) S') y tv od P fR fB (L.set i (L[i].1, o)) ∧ Kept w w' (fun b => ro b ≠ none) (fun b => roT ro (3, i) S' b ≠ none) := by
  have F := Fr.turn h.lt k
  have hm : mapL od (L.set i (L[i].1, o)) = mapL od L := by
    unfold mapL
    rw [zip_set_right od L i (L[i].1, o) hio, List.map_set]
    have e : (((od[i], (L[i].1, o)).2.2.k + 1, (od[i], (L[i].1, o)).2.1), ((od[i], (L[i].1, o)).2.2.k, (od[i], (L[i].1, o)).1)) = ((od.zip L).map fun p => ((p.2.2.k + 1, p.2.1), (p.2.2.k, p.1)))[i]'(by rw [List.length_map, List.length_zip, h.ol, Nat.min_self]; exact hi) := by
      rw [List.getElem_map, List.getElem_zip]
      simp only [hk]
    rw [e]
    exact List.set_getElem_self _
  refine ⟨⟨(F.kp _ _ h.s0 (by simp)).trans h.hd, h.tl, by rw [List.length_set]; exact h.ol, h.tbF F (by simp), h.crF F (by simp), h.cbF F (by simp), by rw [hm]; exact h.mpF F (by simp), h.opF F (by simp), fun j => h.ruF F j (by simp), fun j h1 h2 => ?_, F.fw _ _ h.s0 (by simp), F.fw _ _ h.s1 (by simp), F.fw _ _ h.s2 (by simp), F.fw _ _ h.s3 (by simp), F.fw _ _ h.s4 (by simp), fun b hb => ?_, fun b j hj => ?_, h.zR, h.zB, h.lR, h.lB⟩, roT_kept k⟩
  · have h2' : j < L.length := by rw [List.length_set] at h2; exact h2
    by_cases e : i = j
    · subst e
      have e2 : (fun b => roT ro (3, i) S' b = some (3, i)) = S' := by
        funext b
        exact propext roT_is
      rw [e2, List.getElem_set_self]
      exact ho
    · rw [List.getElem_set_ne e]
      exact h.obF F j (by simpa using fun e2 => e e2.symm) h1 h2'
  · rcases roT_some hb with h1 | h1
    · exact ho.bd b h1
    · exact ⟨(h.bd b h1).1, Nat.lt_of_lt_of_le (h.bd b h1).2 F.sz⟩
  · rw [List.length_set]
    by_cases e : j = i
    · rw [e]
      exact hi
    · exact h.rb b j (F.bk _ _ hj (by simpa using e))
theorem mapL_snoc (hol : od.length = L.length) (d : Nat) (num : Int) (o : Ob) : mapL (od ++ [d]) (L ++ [(num, o)]) = mapL od L ++ [((o.k + 1, num), (o.k, d))] := by
  unfold mapL
  rw [List.zip_append hol, List.map_append]
  rfl
theorem PkAt.addOb (h : PkAt w base ro y tv od P fR fB L) {w2 : World} (b1 : Below w.heap.size w w1) {S : Nat → Prop} {d : Nat} {num : Int} {o : Ob} (ho : ObP w1 w.heap.size d S o) (hm : objM.At w2 y.M (mapL (od ++ [d]) (L ++ [(num, o)]))) (g : w1.grownBy w2 (some y.M)) (hz : w2.heap.size = w1.heap.size) :
    ∃ ro', PkAt w2 base ro' y tv (od ++ [d]) P fR fB (L ++ [(num, o)]) ∧ Kept w w2 (fun b => ro b ≠ none) (fun b => ro' b ≠ none) := by
  have kA : Kept w w1 (fun b => ro b = some (3, L.length)) S := ⟨b1.os, b1.tape, b1.output, b1.size, fun b hb => Or.inr (ho.bd b hb).1, fun b hb _ => b1.block b hb⟩
  have FA := Fr.turn h.lt kA
  have hM1 : roT ro (3, L.length) S y.M = some (0, 2) := FA.fw _ _ h.s2 (by simp)
  have hlt1 : ∀ b, roT ro (3, L.length) S b ≠ none → b < w1.heap.size := fun b hb => by
    rcases roT_some hb with h1 | h1
    · exact (ho.bd b h1).2
    · exact Nat.lt_of_lt_of_le (h.lt b h1) b1.size
  have kM : Kept w1 w2 (· = y.M) (· = y.M) := ⟨g.os, g.tape, g.output, g.size, fun b hb => Or.inl hb, fun b hb hn => g.block b hb (fun e => hn (Option.some.inj e))⟩
  have kB := one_kept hM1 kM
  have FB := Fr.same hlt1 kB
  have F : Fr w w2 ro (roT ro (3, L.length) S) (fun κ => κ = (3, L.length) ∨ κ = (0, 2)) :=
    ⟨Nat.le_trans FA.sz FB.sz, fun b κ e hn => (FB.kp b κ (FA.fw b κ e (fun e => hn (Or.inl e))) (fun e => hn (Or.inr e))).trans (FA.kp b κ e (fun e => hn (Or.inl e))), fun b κ e hn => FA.fw b κ e (fun e => hn (Or.inl e)), fun b κ e hn => FA.bk b κ e (fun e => hn (Or.inl e))⟩
  have hbase : base ≤ w.heap.size := by have := h.bd y.D (by rw [h.s0]; simp); omega
  refine ⟨roT ro (3, L.length) S, ⟨(F.kp _ _ h.s0 (by simp)).trans h.hd, h.tl, by rw [List.length_append, List.length_append, h.ol]; rfl, h.tbF F (by simp), h.crF F (by simp), h.cbF F (by simp), hm, h.opF F (by simp), fun j => h.ruF F j (by simp), fun j h1 h2 => ?_, F.fw _ _ h.s0 (by simp), F.fw _ _ h.s1 (by simp), hM1, F.fw _ _ h.s3 (by simp), F.fw _ _ h.s4 (by simp), fun b hb => ?_, fun b j hj => ?_, h.zR, h.zB, h.lR, h.lB⟩, (roT_kept kA).trans (ro_kept kB)⟩
  · rw [List.length_append] at h1 h2
    by_cases e : j < L.length
    · have e1 : (L ++ [(num, o)])[j] = L[j] := List.getElem_append_left e
      have e2 : (od ++ [d])[j] = od[j]'(by rw [h.ol]; exact e) := List.getElem_append_left (by rw [h.ol]; exact e)
      rw [e1, e2]
      exact h.obF F j (by intro h9; rcases h9 with h9 | h9; simp at h9; omega; simp at h9) (by rw [h.ol]; exact e) e
    · have ej : j = L.length := by simp at h2; omega
      subst ej
      have e1 : (L ++ [(num, o)])[L.length] = (num, o) := by simp
      have e2 : (od ++ [d])[L.length]'(by rw [List.length_append]; omega) = d := by
        rw [List.getElem_append_right (by rw [h.ol]; exact Nat.le_refl _)]
        simp
      have e3 : (fun b => roT ro (3, L.length) S b = some (3, L.length)) = S := by
        funext b
        exact propext roT_is
      rw [e1, e2, e3]
      exact (ho.low hbase).keep (by omega) (fun b hb => by
        refine g.block b (ho.bd b hb).2 (fun e => ?_)
        have h8 := roT_is (ro := ro) (κ := (3, L.length)) (S' := S) |>.2 hb
        rw [Option.some.inj e, hM1] at h8
        simp at h8)
  · rw [hz]
    rcases roT_some hb with h1 | h1
    · have := ho.bd b h1
      exact ⟨by omega, this.2⟩
    · exact ⟨(h.bd b h1).1, Nat.lt_of_lt_of_le (h.bd b h1).2 b1.size⟩
  · rw [List.length_append]
    by_cases e : j = L.length
    · simp
      omega
    · have := h.rb b j (F.bk _ _ hj (by intro h9; rcases h9 with h9 | h9; simp at h9; omega; simp at h9))
      omega
theorem PkAt.cells (h : PkAt w base ro y tv od P fR fB L) : w.cell? ⟨y.D, 0, none⟩ = some (.slice (some ⟨y.bT, 0, none⟩) P.length P.length) ∧ w.cell? ⟨y.D, 1, none⟩ = some (.slice (some ⟨y.bR, 0, none⟩) (2 * 2 ^ y.dR) (2 * 2 ^ y.dR)) ∧ w.cell? ⟨y.D, 2, none⟩ = some (.slice (some ⟨y.bB, 0, none⟩) (2 * 2 ^ y.dB) (2 * 2 ^ y.dB)) ∧ w.cell? ⟨y.D, 3, none⟩ = some (.map (some y.M)) ∧ y.D < w.heap.size :=
  ⟨by simp [World.cell?, h.hd], by simp [World.cell?, h.hd], by simp [World.cell?, h.hd], by simp [World.cell?, h.hd], lt_of_block h.hd⟩
theorem PkAt.task (h : PkAt w base ro y tv od P fR fB L) (i : Nat) (hi : i < P.length) : ∃ ao co ar cr, (∃ hit : i < tv.length, tv[i] = (.slice ao P[i].ops.length co, .slice ar P[i].runs.length cr)) ∧ w.cell? ⟨y.bT, i * 3, none⟩ = some (.slice ao P[i].ops.length co) ∧ w.cell? ⟨y.bT, i * 3 + 1, none⟩ = some (.int .i64 (P[i].pos : Int)) ∧ w.cell? ⟨y.bT, i * 3 + 2, none⟩ = some (.slice ar P[i].runs.length cr) ∧ (∀ j, w.frozen? ⟨y.bT, j, none⟩ = false) ∧ y.bT < w.heap.size := by
  have hit : i < tv.length := by rw [h.tl]; exact hi
  obtain ⟨cur, h1, h2⟩ := h.tb
  have hz : i < (tv.zip P).length := by rw [List.length_zip, h.tl, Nat.min_self]; exact hi
  have ez : (tv.zip P)[i] = (tv[i], P[i]) := List.getElem_zip
  obtain ⟨ao, co, eo⟩ := (h.op i hit hi).1.form
  obtain ⟨ar, cr, er⟩ := (h.ru i hit hi).1.form
  have hc : ∀ c u, c < 3 → (ptC (tv[i], P[i]))[c]? = some u → w.cell? ⟨y.bT, i * 3 + c, none⟩ = some u := fun c u h3 h4 => by
    rw [cell_of_row w y.bT _ cur PtT (0, 0) h1]
    have h5 := rowL_at ptC_len (tv.zip P) i hz c h3
    rw [ez, h4, ← h2] at h5
    simpa using h5
  refine ⟨ao, co, ar, cr, ⟨hit, by rw [← eo, ← er]⟩, ?_, hc 1 _ (by decide) rfl, ?_, fun j => by simp [World.frozen?, h1], lt_of_block h1⟩
  · rw [← eo]
    exact hc 0 _ (by decide) rfl
  · rw [← er]
    exact hc 2 _ (by decide) rfl
end
end Go.Proofs.Ythhlglbohibekaa
namespace Go.Proofs.Ythhlglbohibekaa
open Go.RowKit

def dqS (o d : Int) : Int := if o = 7 then d + 1 else if o = 8 then d - 1 else d
theorem dqS_7 (d : Int) : dqS 7 d = d + 1 := rfl
theorem dqS_8 (d : Int) : dqS 8 d = d - 1 := rfl
theorem dqS_n {o : Int} (d : Int) (h7 : ¬ o = 7) (h8 : ¬ o = 8) : dqS o d = d := by unfold dqS; rw [if_neg h7, if_neg h8]
def pastQ : List Opx → Nat → Int → Nat
  | [], a, _ => a
  | o :: r, a, d => if dqS o.1 d ≤ 0 then a + 1 else pastQ r (a + 1) (dqS o.1 d)
def pastP (ops : List Opx) (a : Nat) : Nat := pastQ (ops.drop a) a 0
theorem pastQ_eq : ∀ (l : List Opx) (a : Nat) (d : Int), 0 < d → pastQ l a d = pastL l a d
  | [], a, d, _ => rfl
  | o :: r, a, d, hd => by
    rw [pastQ, pastL]
    have ih := fun h => pastQ_eq r (a + 1) (dqS o.1 d) h
    have e0 : (if o.1 = 7 then d + 1 else if o.1 = 8 then d - 1 else d) = dqS o.1 d := rfl
    rw [e0]
    have hge : 0 ≤ dqS o.1 d := by
      unfold dqS
      split
      · omega
      · split
        · omega
        · omega
    by_cases h0 : dqS o.1 d = 0
    · rw [if_pos (by omega), if_pos h0]
    · rw [if_neg (by omega), if_neg h0]
      exact ih (by omega)
theorem pastP_do (ops : List Opx) (a : Nat) (ha : a < ops.length) (h7 : ops[a].1 = 7) : pastP ops a = pastL (ops.drop (a + 1)) (a + 1) 1 := by
  unfold pastP
  rw [List.drop_eq_getElem_cons ha, pastQ, h7, dqS_7, if_neg (by decide)]
  exact pastQ_eq _ _ _ (by decide)
theorem pastP_one (ops : List Opx) (a : Nat) (ha : a < ops.length) (h7 : ops[a].1 ≠ 7) : pastP ops a = a + 1 := by
  unfold pastP
  rw [List.drop_eq_getElem_cons ha, pastQ, if_pos]
  unfold dqS
  rw [if_neg h7]
  split <;> decide
section
variable {w w' w1 : World} {base : Nat} {ro ro' : Nat → Option Who} {y : Lay} {tv : List Tv} {od : List Nat} {P : List Pk} {fR fB : Nat → Bool} {L : List (Int × Ob)}
set_option maxHeartbeats 6400000 in
set_option maxRecDepth 100000 in
theorem pk_past (h : PkAt w base ro y tv od P fR fB L) (i : Nat) (hi : i < P.length) (hl : P[i].ops.length ≤ 65536) (hp : P[i].pos ≤ P[i].ops.length) : Calls Try.prog 61 #[.pointer (some ⟨y.bT, i * 3, none⟩)] w fun e w' => e = .returned (.int .i64 (pastP P[i].ops P[i].pos : Int)) ∧ w = w' := by
  obtain ⟨ao, co, ar, cr, ⟨hit, et⟩, z0, z1, z2, zf, hb⟩ := h.task i hi
  have hr := (h.op i hit hi).1
  rw [et] at hr
  unfold pastP
  clear h et
  generalize P[i].pos = a at *
  generalize hops : P[i].ops = ops at *
  clear hops
  have HR : Hid _ := hr
  clear hr
  go_enter Try.func61, Try.ntmps61
  go_wp2
  go_loop [3, 4] (fun d j => ∃ (k : Nat) (z : Int), k ≤ ops.length ∧ a ≤ k ∧ j = .int .i64 k ∧ d = .int .i64 z ∧ 0 ≤ z ∧ z ≤ (k : Int) ∧ Hid (pastQ (ops.drop a) a 0 = pastQ (ops.drop k) k z)) (fun _ j => ops.length - (RowKit.intOf j).toNat)
  case atStart => exact ⟨a, 0, hp, Nat.le_refl _, rfl, rfl, by omega, by omega, by show _ = _; rfl⟩
  case round =>
    obtain ⟨k, z, hk, hak, rfl, rfl, hz0, hzk, HQ⟩ := hrel
    by_cases hkl : k < ops.length
    · have q0 : decide ((k : Int) < (ops.length : Int)) = true := decide_eq_true (by omega)
      obtain ⟨bk, off, cp, e, _, hbk, hx⟩ := HR.out.cells opC_len (by omega)
      simp only [Value.slice.injEq] at e
      obtain ⟨rfl, _, rfl⟩ := e
      have zk : w.cell? ⟨bk, off + k * 3, none⟩ = some (.int .i64 ops[k].1) := hx k hkl 0 _ (by decide) rfl
      have e1 : pastQ (ops.drop k) k z = if dqS ops[k].1 z ≤ 0 then k + 1 else pastQ (ops.drop (k + 1)) (k + 1) (dqS ops[k].1 z) := by
        rw [List.drop_eq_getElem_cons hkl, pastQ]
      rw [e1] at HQ
      have HX : Hid _ := hx
      clear e1 hx
      generalize ops[k].1 = o at *
      by_cases h7 : o = 7
      · subst h7
        have HQ2 : Hid (pastQ (ops.drop a) a 0 = pastQ (ops.drop (k + 1)) (k + 1) (z + 1)) := by
          have := HQ.out
          rw [dqS_7, if_neg (by omega)] at this
          exact this
        have q1 : decide (z + 1 ≤ 0) = false := decide_eq_false (by omega)
        clear HQ
        go_wp2
        go_round
        case rel => exact ⟨k + 1, z + 1, hkl, by omega, by go_num, rfl, by omega, by omega, HQ2⟩
        case measure => simp [RowKit.intOf]; omega
      · have q7 : (o == 7) = false := beq_eq_false_iff_ne.2 h7
        by_cases h8 : o = 8
        · subst h8
          by_cases hz1 : z - 1 ≤ 0
          · have HQ2 : Hid (pastQ (ops.drop a) a 0 = k + 1) := by
              have := HQ.out
              rw [dqS_8, if_pos hz1] at this
              exact this
            have q1 : decide (z - 1 ≤ 0) = true := decide_eq_true hz1
            clear HQ
            go_wp2
            go_ret
            refine ⟨?_, rfl⟩
            rw [HQ2.out]
            rfl
          · have HQ2 : Hid (pastQ (ops.drop a) a 0 = pastQ (ops.drop (k + 1)) (k + 1) (z - 1)) := by
              have := HQ.out
              rw [dqS_8, if_neg hz1] at this
              exact this
            have q1 : decide (z - 1 ≤ 0) = false := decide_eq_false hz1
            clear HQ
            go_wp2
            go_round
            case rel => exact ⟨k + 1, z - 1, hkl, by omega, by go_num, rfl, by omega, by omega, HQ2⟩
            case measure => simp [RowKit.intOf]; omega
        · have q8 : (o == 8) = false := beq_eq_false_iff_ne.2 h8
          by_cases hz1 : z ≤ 0
          · have HQ2 : Hid (pastQ (ops.drop a) a 0 = k + 1) := by
              have := HQ.out
              rw [dqS_n z h7 h8, if_pos hz1] at this
              exact this
            have q1 : decide (z ≤ 0) = true := decide_eq_true hz1
            clear HQ
            go_wp2
            go_ret
            refine ⟨?_, rfl⟩
            rw [HQ2.out]
            rfl
          · have HQ2 : Hid (pastQ (ops.drop a) a 0 = pastQ (ops.drop (k + 1)) (k + 1) z) := by
              have := HQ.out
              rw [dqS_n z h7 h8, if_neg hz1] at this
              exact this
            have q1 : decide (z ≤ 0) = false := decide_eq_false hz1
            clear HQ
            go_wp2
            go_round
            case rel => exact ⟨k + 1, z, hkl, by omega, by go_num, rfl, by omega, by omega, HQ2⟩
            case measure => simp [RowKit.intOf]; omega
    · have q0 : decide ((k : Int) < (ops.length : Int)) = false := decide_eq_false (by omega)
      have HQ2 : Hid (pastQ (ops.drop a) a 0 = ops.length) := by
        have h9 : pastQ (ops.drop k) k z = k := by rw [List.drop_of_length_le (by omega)]; rfl
        show _ = _
        rw [HQ.out, h9]
        omega
      clear HQ
      go_wp2
      go_ret
      refine ⟨?_, rfl⟩
      rw [HQ2.out]
      rfl
set_option maxHeartbeats 6400000 in
set_option maxRecDepth 100000 in
theorem pk_may (h : PkAt w base ro y tv od P fR fB L) (i : Nat) (hi : i < P.length) (hl : P[i].runs.length ≤ 65536) (x : Int) : Calls Try.prog 62 #[.pointer (some ⟨y.bT, i * 3, none⟩), .int .i64 x] w fun e w' => e = .returned (.bool (decide (P[i].runs.getLast? = some x))) ∧ w = w' := by
  obtain ⟨ao, co, ar, cr, ⟨hit, et⟩, z0, z1, z2, zf, hb⟩ := h.task i hi
  have hr := (h.ru i hit hi).1.row intC_len
  rw [et] at hr
  clear h et
  generalize hrun : P[i].runs = runs at *
  clear hrun
  have HR : Hid _ := hr
  clear hr
  cases hlast : runs.getLast? with
  | none =>
    have e0 : runs = [] := List.getLast?_eq_none_iff.1 hlast
    subst e0
    go_enter Try.func62, Try.ntmps62
    go_wp2
    go_ret
    exact ⟨by simp, rfl⟩
  | some z =>
    have hpos : 0 < runs.length := by
      cases runs with
      | nil => cases hlast
      | cons _ _ => simp
    obtain ⟨bk, off, cp, e, _, hbk, hx⟩ := HR.out.cells intC_len hpos
    simp only [Value.slice.injEq] at e
    obtain ⟨rfl, _, rfl⟩ := e
    have hz : runs[runs.length - 1] = z := by
      rw [List.getLast?_eq_getElem?, List.getElem?_eq_getElem (by omega)] at hlast
      exact Option.some.inj hlast
    have zk : w.cell? ⟨bk, off + (runs.length - 1), none⟩ = some (.int .i64 z) := by
      have := hx (runs.length - 1) (by omega) 0 _ (by decide) rfl
      rw [Nat.mul_one, hz] at this
      exact this
    clear hx hz hlast HR
    generalize hn : runs.length = n at *
    obtain ⟨m, rfl⟩ : ∃ m, n = m + 1 := ⟨n - 1, by omega⟩
    rw [Nat.add_sub_cancel] at zk
    clear hn
    by_cases hzx : z = x
    · subst hzx
      have q0 : (z == z) = true := beq_self_eq_true z
      go_enter Try.func62, Try.ntmps62
      go_wp2
      go_ret
      exact ⟨by simp, rfl⟩
    · have q0 : (z == x) = false := beq_eq_false_iff_ne.2 hzx
      rw [show decide (some z = some x) = false from decide_eq_false (fun e => hzx (Option.some.inj e))]
      go_enter Try.func62, Try.ntmps62
      go_wp2
      go_ret
      exact ⟨rfl, rfl⟩
end
end Go.Proofs.Ythhlglbohibekaa
namespace Go.Proofs.Ythhlglbohibekaa
open Go.RowKit

theorem Kept.wide {w w' : World} {S T : Nat → Prop} (k : Kept w w' S S) (h : ∀ b, S b → T b) : Kept w w' T T := ⟨k.os, k.tape, k.output, k.size, fun _ e => Or.inl e, fun b hb hn => k.kept b hb (fun e => hn (h b e))⟩
def goF (n : Nat) (f : Nat → Bool) (i a : Nat) : Nat → Bool := if a < n then setF f i true else f
section
variable {w w' w1 : World} {base : Nat} {ro ro' : Nat → Option Who} {y : Lay} {tv : List Tv} {od : List Nat} {P : List Pk} {fR fB : Nat → Bool} {L : List (Int × Ob)}
set_option maxHeartbeats 6400000 in
set_option maxRecDepth 100000 in
theorem pk_goToK (h : PkAt w base ro y tv od P fR fB L) (i : Nat) (hi : i < P.length) (a : Nat) (hr : fR i = false) : Calls Try.prog 29 #[.pointer (some ⟨y.D, 0, none⟩), .int .i64 (i : Int), .int .i64 (a : Int)] w fun e w' => e = .returned (.tuple #[]) ∧ PkAt w' base ro y tv od (P.set i { P[i] with pos := a }) (goF P[i].ops.length fR i a) fB L ∧ Kept w w' (fun b => ro b ≠ none) (fun b => ro b ≠ none) ∧ Kept w w' (fun b => b = y.bT ∨ b = y.bR) (fun b => b = y.bT ∨ b = y.bR) := by
  obtain ⟨c0, c1, c2, c3, hD⟩ := h.cells
  obtain ⟨ao, co, ar, cr, ⟨hit, et⟩, z0, z1, z2, zf, hb⟩ := h.task i hi
  obtain ⟨h1, k1⟩ := h.setPos i hi a
  obtain ⟨d0, d1, d2, d3, hD1⟩ := h1.cells
  have hi1 : i < (P.set i { P[i] with pos := a }).length := by rw [List.length_set]; exact hi
  obtain ⟨ao1, co1, ar1, cr1, ⟨hit1, et1⟩, y0, y1, y2, yf, hb1⟩ := h1.task i hi1
  rw [List.length_set] at d0
  have e1 : (P.set i { P[i] with pos := a })[i].ops = P[i].ops := by rw [List.getElem_set_self]
  rw [e1] at y0
  have hn : P.length ≤ 65536 := Nat.le_trans h.zR.1 h.zR.2
  have H1 : Hid _ := h1
  have K1 : Hid _ := k1
  have KT : Hid (Kept w (w.setCell ⟨y.bT, i * 3 + 1, none⟩ (.int .i64 (a : Int))) (fun b => b = y.bT ∨ b = y.bR) (fun b => b = y.bT ∨ b = y.bR)) := (set_kept w y.bT (i * 3 + 1) (.int .i64 (a : Int))).wide (fun b e => Or.inl e)
  have hjn := cr_join h1.cr h.zR.2 i (Nat.lt_of_lt_of_le hi h.zR.1) hr
  unfold crV at hjn
  have HL : Hid (∀ x, setF fR i true x = true → x < (P.set i { P[i] with pos := a }).length) := fun x hx => by
    rw [List.length_set]
    unfold setF at hx
    split at hx
    · rename_i e
      rw [e]
      exact hi
    · exact h.lR x hx
  clear h h1 k1 et et1 e1 c1 c2 c3 z2 d2 d3 y1 y2 yf
  generalize hO : P[i].ops.length = no at *
  clear hO
  generalize P[i].pos = p0 at z1
  generalize hP : P.set i { P[i] with pos := a } = P1 at *
  clear hP hi1
  unfold goF
  by_cases hlt : a < no
  · rw [if_pos hlt]
    have q0 : decide ((a : Int) < (no : Int)) = true := decide_eq_true (by omega)
    go_enter Try.func29, Try.ntmps29
    go_wp2_with (go_at_call 44; refine hjn.mono ?_; rintro e w2 ⟨rfl, h2', k2'⟩; have h2 : Hid _ := h2'; have k2 : Hid _ := k2'; clear h2' k2')
    go_returns
    obtain ⟨h3, k3⟩ := H1.out.setR h2.out k2.out HL.out
    exact ⟨rfl, h3, K1.out.trans k3, KT.out.trans (k2.out.wide (fun b e => Or.inr e))⟩
  · rw [if_neg hlt]
    have q0 : decide ((a : Int) < (no : Int)) = false := decide_eq_false (by omega)
    go_enter Try.func29, Try.ntmps29
    go_wp2
    go_returns
    exact ⟨rfl, H1.out, K1.out, KT.out⟩
theorem pk_goTo (h : PkAt w base ro y tv od P fR fB L) (i : Nat) (hi : i < P.length) (a : Nat) (hr : fR i = false) : Calls Try.prog 29 #[.pointer (some ⟨y.D, 0, none⟩), .int .i64 (i : Int), .int .i64 (a : Int)] w fun e w' => e = .returned (.tuple #[]) ∧ PkAt w' base ro y tv od (P.set i { P[i] with pos := a }) (goF P[i].ops.length fR i a) fB L ∧ Kept w w' (fun b => ro b ≠ none) (fun b => ro b ≠ none) :=
  (pk_goToK h i hi a hr).mono (fun _ _ h => ⟨h.1, h.2.1, h.2.2.1⟩)
set_option maxHeartbeats 6400000 in
set_option maxRecDepth 100000 in
theorem pk_Ready (h : PkAt w base ro y tv od P fR fB L) : Calls Try.prog 16 #[.pointer (some ⟨y.D, 0, none⟩)] w fun e w' => ∃ u, e = .returned u ∧ RowAt intC w' u (natL (lvN fR y.dR 0)) ∧ Below w.heap.size w w' := by
  obtain ⟨c0, c1, c2, c3, hD⟩ := h.cells
  have hal := cr_all h.cr h.zR.2
  unfold crV at hal
  clear h
  go_enter Try.func16, Try.ntmps16
  go_wp2_with (go_at_call 40; refine hal.mono ?_; rintro e w2 ⟨u, rfl, r2', b2⟩; have r2 : Hid _ := r2'; clear r2'; obtain ⟨au, cu, rfl⟩ := r2.out.form)
  go_ret
  exact ⟨_, rfl, r2.out, b2⟩
set_option maxHeartbeats 6400000 in
set_option maxRecDepth 100000 in
theorem pk_Blocked (h : PkAt w base ro y tv od P fR fB L) : Calls Try.prog 18 #[.pointer (some ⟨y.D, 0, none⟩)] w fun e w' => ∃ u, e = .returned u ∧ RowAt intC w' u (natL (lvN fB y.dB 0)) ∧ Below w.heap.size w w' := by
  obtain ⟨c0, c1, c2, c3, hD⟩ := h.cells
  have hal := cr_all h.cb h.zB.2
  unfold crV at hal
  clear h
  go_enter Try.func18, Try.ntmps18
  go_wp2_with (go_at_call 40; refine hal.mono ?_; rintro e w2 ⟨u, rfl, r2', b2⟩; have r2 : Hid _ := r2'; clear r2'; obtain ⟨au, cu, rfl⟩ := r2.out.form)
  go_ret
  exact ⟨_, rfl, r2.out, b2⟩
set_option maxHeartbeats 6400000 in
set_option maxRecDepth 100000 in
theorem pk_Ended (h : PkAt w base ro y tv od P fR fB L) : Calls Try.prog 20 #[.pointer (some ⟨y.D, 0, none⟩)] w fun e w' => e = .returned (.bool (decide (trN fR y.dR 0 = 0 ∧ trN fB y.dB 0 = 0))) ∧ Below w.heap.size w w' := by
  obtain ⟨c0, c1, c2, c3, hD⟩ := h.cells
  have hs1 := cr_size h.cr h.zR.2
  have HS2 : Hid (∀ w2, Below w.heap.size w w2 → Calls Try.prog 41 #[crV y.bB (2 ^ y.dB)] w2 fun e w' => e = .returned (.int .i64 (trN fB y.dB 0 : Int)) ∧ Below w2.heap.size w2 w') := fun w2 b2 => cr_size (h.cb.fresh b2) h.zB.2
  unfold crV at *
  clear h
  generalize trN fR y.dR 0 = r at *
  generalize trN fB y.dB 0 = bl at *
  by_cases hr : r = 0
  case neg =>
    have q0 : ((r : Int) == 0) = false := beq_eq_false_iff_ne.2 (by omega)
    rw [show decide (r = 0 ∧ bl = 0) = false from decide_eq_false (fun h => hr h.1)]
    go_enter Try.func20, Try.ntmps20
    go_wp2_with (go_at_call 41; refine hs1.mono ?_; rintro e w2 ⟨rfl, b2⟩)
    go_ret
    exact ⟨rfl, b2⟩
  case pos =>
    subst hr
    by_cases hb : bl = 0
    case neg =>
      have q0 : ((bl : Int) == 0) = false := beq_eq_false_iff_ne.2 (by omega)
      rw [show decide (0 = 0 ∧ bl = 0) = false from decide_eq_false (fun h => hb h.2)]
      go_enter Try.func20, Try.ntmps20
      go_wp2_with (first
        | (go_at_call 41; refine (HS2.out w2 b2).mono ?_; rintro e w3 ⟨rfl, b3⟩)
        | (go_at_call 41; refine hs1.mono ?_; rintro e w2 ⟨rfl, b2⟩; have d2 := (b2.cell (p := ⟨y.D, 2, none⟩) (by exact hD)).trans c2))
      go_ret
      exact ⟨rfl, bmm b2 b2.size b3⟩
    case pos =>
      subst hb
      go_enter Try.func20, Try.ntmps20
      go_wp2_with (first
        | (go_at_call 41; refine (HS2.out w2 b2).mono ?_; rintro e w3 ⟨rfl, b3⟩)
        | (go_at_call 41; refine hs1.mono ?_; rintro e w2 ⟨rfl, b2⟩; have d2 := (b2.cell (p := ⟨y.D, 2, none⟩) (by exact hD)).trans c2))
      go_ret
      exact ⟨by simp, bmm b2 b2.size b3⟩
end
end Go.Proofs.Ythhlglbohibekaa
namespace Go.Proofs.Ythhlglbohibekaa
open Go.RowKit

theorem look_map (k num : Int) : ∀ (L : List (Int × Ob)) (od : List Nat), od.length = L.length → lookM (mapL od L) (k + 1, num) = if obFind L k num < L.length then (od[obFind L k num]?).map (fun d => (k, d)) else none
  | [], [], _ => rfl
  | p :: L, d :: od, h => by
    have ih := look_map k num L od (by simpa using h)
    have e1 : mapL (d :: od) (p :: L) = ((p.2.k + 1, p.1), (p.2.k, d)) :: mapL od L := rfl
    rw [e1]
    unfold lookM at ih ⊢
    rw [List.find?_cons]
    by_cases hc : p.2.k = k ∧ p.1 = num
    · obtain ⟨h1, h2⟩ := hc
      have e2 : obFind (p :: L) k num = 0 := by
        unfold obFind
        rw [List.findIdx_cons]
        simp [h1, h2]
      rw [e2, h1, h2]
      simp
    · have e2 : obFind (p :: L) k num = obFind L k num + 1 := by
        unfold obFind
        rw [List.findIdx_cons]
        have : (p.2.k == k && p.1 == num) = false := by
          rw [Bool.and_eq_false_iff]
          by_cases h1 : p.2.k = k
          · exact Or.inr (beq_eq_false_iff_ne.2 (fun h2 => hc ⟨h1, h2⟩))
          · exact Or.inl (beq_eq_false_iff_ne.2 h1)
        rw [this]
        rfl
      have e3 : decide ((p.2.k + 1, p.1) = (k + 1, num)) = false := decide_eq_false (fun e => hc ⟨by have := congrArg Prod.fst e; simp at this; omega, congrArg Prod.snd e⟩)
      simp only [e3]
      rw [ih, e2]
      simp
theorem look_none (num : Int) (L : List (Int × Ob)) (od : List Nat) (hk : ∀ p ∈ L, 0 ≤ p.2.k) : lookM (mapL od L) (0, num) = none := by
  apply lookM_none
  intro p hp e
  unfold mapL at hp
  obtain ⟨q, hq, rfl⟩ := List.mem_map.1 hp
  have h1 := hk q.2 (List.of_mem_zip hq).2
  have h2 := congrArg Prod.fst e
  simp at h2
  omega
theorem got_some {l : List ((Int × Int) × (Int × Nat))} {n : Int × Int} {c : Int × Nat} (h : lookM l n = some c) : objM.got l n = objV c := by
  unfold MapOf.got
  rw [h]
  rfl
theorem got_none {l : List ((Int × Int) × (Int × Nat))} {n : Int × Int} (h : lookM l n = none) : objM.got l n = .nilIface := by
  unfold MapOf.got
  rw [h]
  rfl
section
variable {w w' w1 : World} {base : Nat} {ro ro' : Nat → Option Who} {y : Lay} {tv : List Tv} {od : List Nat} {P : List Pk} {fR fB : Nat → Bool} {L : List (Int × Ob)}
theorem PkAt.look (h : PkAt w base ro y tv od P fR fB L) {w2 : World} (b2 : Below w.heap.size w w2) (kk num : Int) (hk : okI kk) (hn : okI num) : (w2.alloc (.cells #[.int .i64 kk, .int .i64 num] NmT)).drew.cell? ⟨y.D, 3, none⟩ = some (.map (some y.M)) ∧ (w2.alloc (.cells #[.int .i64 kk, .int .i64 num] NmT)).drew.cell? ⟨w2.heap.size, 0, none⟩ = some (.int .i64 kk) ∧ (w2.alloc (.cells #[.int .i64 kk, .int .i64 num] NmT)).drew.cell? ⟨w2.heap.size, 1, none⟩ = some (.int .i64 num) ∧ (Instr.lookup ObMT (.map (some y.M)) (.agg #[.int .i64 kk, .int .i64 num]) true).run Try.prog (w2.alloc (.cells #[.int .i64 kk, .int .i64 num] NmT)).drew = .ok (.tuple #[objM.got (mapL od L) (kk, num), .bool (lookM (mapL od L) (kk, num)).isSome]) (w2.alloc (.cells #[.int .i64 kk, .int .i64 num] NmT)).drew := by
  have b3 := (b2.alloc b2.size (.cells #[.int .i64 kk, .int .i64 num] NmT)).drew
  obtain ⟨_, _, _, c3, hD⟩ := h.cells
  have h0 := heap_alloc_new w2 (.cells #[.int .i64 kk, .int .i64 num] NmT)
  refine ⟨(b3.cell (p := ⟨y.D, 3, none⟩) (by exact hD)).trans c3, ?_, ?_, ?_⟩
  · show (w2.alloc (.cells #[.int .i64 kk, .int .i64 num] NmT)).cell? _ = _
    rw [cell_of_row _ _ _ _ _ _ h0]
    rfl
  · show (w2.alloc (.cells #[.int .i64 kk, .int .i64 num] NmT)).cell? _ = _
    rw [cell_of_row _ _ _ _ _ _ h0]
    rfl
  · exact MapOf.look2 objM_is (h.mp.keep (b3.block y.M h.mp.lt)) (n := (kk, num)) ⟨hk, hn⟩
theorem PkAt.putOb (h : PkAt w base ro y tv od P fR fB L) {w2 : World} (b2 : Below w.heap.size w w2) (k num : Int) (d : Nat) (hk : okI (k + 1)) (hn : okI num) (hf : ¬ obFind L k num < L.length) (o : Ob) (ho : o.k = k) : ∃ w3, (Instr.mapUpdate ObMT (.map (some y.M)) (.agg #[.int .i64 (k + 1), .int .i64 num]) (objV (k, d))).run Try.prog w2 = .ok () w3 ∧ objM.At w3 y.M (mapL (od ++ [d]) (L ++ [(num, o)])) ∧ w2.grownBy w3 (some y.M) ∧ w3.heap.size = w2.heap.size := by
  obtain ⟨w3, h1, h2, h3, h4⟩ := MapOf.put objM_is (h.mp.keep (b2.block y.M h.mp.lt)) (n := (k + 1, num)) ⟨hk, hn⟩ (k, d)
  have e1 : lookM (mapL od L) (k + 1, num) = none := by rw [look_map k num L od h.ol, if_neg hf]
  have e2 : putM (mapL od L) (k + 1, num) (k, d) = mapL (od ++ [d]) (L ++ [(num, o)]) := by
    rw [mapL_snoc h.ol, ho]
    unfold putM
    rw [e1]
    rfl
  rw [e2] at h2
  exact ⟨w3, h1, h2, h3, h4⟩
set_option maxHeartbeats 6400000 in
set_option maxRecDepth 100000 in
theorem pk_obj_none (h : PkAt w base ro y tv od P fR fB L) (x : Opx) (hx : okI x.2.1) (hk : nmK x = 0) : Calls Try.prog 60 #[.pointer (some ⟨y.D, 0, none⟩), .agg #[.int .i64 x.1, .int .i64 x.2.1, .int .i64 x.2.2]] w fun e w' => e = .returned .nilIface ∧ Below w.heap.size w w' := by
  have hnm := name_any x
  rw [hk] at hnm
  unfold nmV at hnm
  have hno : ∀ w, Calls Try.prog 67 #[.int .i64 0] w fun e w' => e = .returned .nilIface ∧ Below w.heap.size w w' := fun w => (nobj_any 0 (by decide) w).mono (fun e w' h => ⟨h.1 rfl, h.2.2⟩)
  have HL : Hid _ := look_none x.2.1 L od (fun p hp => by
    obtain ⟨i, hi, e⟩ := List.getElem_of_mem hp
    rw [← e]
    exact (h.ob i (by rw [h.ol]; exact hi) hi).kk.1)
  obtain ⟨K1, num, N1⟩ := x
  have HX : Hid (okI num) := hx
  have HH : Hid _ := h
  clear hk hx h
  obtain ⟨kk, hkk⟩ : ∃ kk : Int, kk = 0 := ⟨_, rfl⟩
  have KK : Hid (kk = 0) := hkk
  rw [← hkk] at hnm hno
  clear hkk
  go_enter Try.func60, Try.ntmps60
  go_wp2_with (go_at_call 66; refine (hnm _).mono ?_; rintro e w2 ⟨rfl, b2⟩)
  have HS0 : Hid _ := PkAt.look HH.out (bel_box b2) kk num (by rw [KK.out]; exact ⟨by decide, by decide⟩) HX.out
  have e0 : lookM (mapL od L) (kk, num) = none := by rw [KK.out]; exact HL.out
  rw [got_none e0, e0] at HS0
  refine wp_region_held_drew (S := (fun w' : World => w'.cell? ⟨y.D, 3, none⟩ = some (.map (some y.M)) ∧ w'.cell? ⟨w2.heap.size, 0, none⟩ = some (.int .i64 kk) ∧ w'.cell? ⟨w2.heap.size, 1, none⟩ = some (.int .i64 num) ∧ (Instr.lookup ObMT (.map (some y.M)) (.agg #[.int .i64 kk, .int .i64 num]) true).run Try.prog w' = .ok (.tuple #[.nilIface, .bool false]) w')) (by kernel_rfl) ?_ (fun hHeld0 => ?_)
  · exact HS0.out
  refine tk0 (.pointer (some ⟨y.D, 0, none⟩)) ?_ (fun w hSw => by (try dsimp only at hSw); obtain ⟨q4, q5, q6, q7⟩ := hSw; go_simp)
  try simp only [Act.put, pu1, pu2, pu3]
  refine tk1 (.pointer (some ⟨y.D, 0, none⟩)) ?_ (fun w hSw => by (try dsimp only at hSw); obtain ⟨q4, q5, q6, q7⟩ := hSw; go_simp)
  try simp only [Act.put, pu1, pu2, pu3]
  refine tk2 (.pointer (some ⟨y.D, 3, none⟩)) ?_ (fun w hSw => by (try dsimp only at hSw); obtain ⟨q4, q5, q6, q7⟩ := hSw; go_simp)
  try simp only [Act.put, pu1, pu2, pu3]
  refine tk3 (.map (some y.M)) ?_ (fun w hSw => by (try dsimp only at hSw); obtain ⟨q4, q5, q6, q7⟩ := hSw; go_simp)
  try simp only [Act.put, pu1, pu2, pu3]
  refine tk4 (.agg #[.int .i64 kk, .int .i64 num]) ?_ (fun w hSw => by (try dsimp only at hSw); obtain ⟨q4, q5, q6, q7⟩ := hSw; go_simp)
  try simp only [Act.put, pu1, pu2, pu3]
  refine tk5 (.tuple #[.nilIface, .bool false]) ?_ (fun w hSw => by (try dsimp only at hSw); obtain ⟨q4, q5, q6, q7⟩ := hSw; go_simp)
  try simp only [Act.put, pu1, pu2, pu3]
  refine tk6 (.tuple #[.nilIface, .bool false]) ?_ (fun w hSw => by (try dsimp only at hSw); obtain ⟨q4, q5, q6, q7⟩ := hSw; go_simp)
  try simp only [Act.put, pu1, pu2, pu3]
  refine tk7 (.nilIface) ?_ (fun w hSw => by (try dsimp only at hSw); obtain ⟨q4, q5, q6, q7⟩ := hSw; go_simp)
  try simp only [Act.put, pu1, pu2, pu3]
  refine tk8 (.bool false) ?_ (fun w hSw => by (try dsimp only at hSw); obtain ⟨q4, q5, q6, q7⟩ := hSw; go_simp)
  try simp only [Act.put, pu1, pu2, pu3]
  refine tk9 (.nilIface) ?_ (fun w hSw => by (try dsimp only at hSw); obtain ⟨q4, q5, q6, q7⟩ := hSw; go_simp)
  try simp only [Act.put, pu1, pu2, pu3]
  refine tk10 (.bool false) ?_ (fun w hSw => by (try dsimp only at hSw); obtain ⟨q4, q5, q6, q7⟩ := hSw; go_simp)
  try simp only [Act.put, pu1, pu2, pu3]
  refine wpAnyH_done (by kernel_rfl) ?_ _
  obtain ⟨q4, q5, q6, _⟩ := HS0.out
  have B3 : Hid _ := ((bel_box b2).alloc (bel_box b2).size (.cells #[.int .i64 kk, .int .i64 num] NmT)).drew
  clear hHeld0
  go_wp2_with (go_at_call 67; refine (hno _).mono ?_; rintro e w4 ⟨rfl, b4⟩)
  go_ret
  exact ⟨rfl, bmm B3.out B3.out.size b4⟩
set_option maxHeartbeats 6400000 in
set_option maxRecDepth 100000 in
theorem pk_obj_old (h : PkAt w base ro y tv od P fR fB L) (x : Opx) (hx : okI x.2.1) (k : Int) (hk : nmK x = k + 1) (hk0 : 0 ≤ k ∧ k ≤ 3) (d : Nat) (hf : obFind L k x.2.1 < L.length) (hd : od[obFind L k x.2.1]? = some d) : Calls Try.prog 60 #[.pointer (some ⟨y.D, 0, none⟩), .agg #[.int .i64 x.1, .int .i64 x.2.1, .int .i64 x.2.2]] w fun e w' => e = .returned (objV (k, d)) ∧ Below w.heap.size w w' := by
  have hnm := name_any x
  rw [hk] at hnm
  unfold nmV at hnm
  have HL : Hid _ := look_map k x.2.1 L od h.ol
  rw [if_pos hf, hd] at HL
  obtain ⟨K1, num, N1⟩ := x
  have HX : Hid (okI num) := hx
  have HH : Hid _ := h
  clear hk hx h hf hd
  obtain ⟨kk, hkk⟩ : ∃ kk : Int, kk = k + 1 := ⟨_, rfl⟩
  have KK : Hid (kk = k + 1) := hkk
  rw [← hkk] at hnm HL
  clear hkk
  obtain ⟨vo, hvo⟩ : ∃ vo : Value, vo = objV (k, d) := ⟨_, rfl⟩
  obtain ⟨TT, hTT⟩ : ∃ T v, vo = .iface T v := ⟨_, _, hvo⟩
  obtain ⟨vv, hTT⟩ := hTT
  rw [← hvo]
  have HVO : Hid _ := hvo
  subst hTT
  clear hvo
  go_enter Try.func60, Try.ntmps60
  go_wp2_with (go_at_call 66; refine (hnm _).mono ?_; rintro e w2 ⟨rfl, b2⟩)
  have HS0 : Hid _ := PkAt.look HH.out (bel_box b2) kk num (by have := KK.out; rw [this]; exact ⟨by omega, by omega⟩) HX.out
  have e0 : lookM (mapL od L) (kk, num) = some (k, d) := HL.out
  rw [got_some e0, e0, ← HVO.out] at HS0
  refine wp_region_held_drew (S := (fun w' : World => w'.cell? ⟨y.D, 3, none⟩ = some (.map (some y.M)) ∧ w'.cell? ⟨w2.heap.size, 0, none⟩ = some (.int .i64 kk) ∧ w'.cell? ⟨w2.heap.size, 1, none⟩ = some (.int .i64 num) ∧ (Instr.lookup ObMT (.map (some y.M)) (.agg #[.int .i64 kk, .int .i64 num]) true).run Try.prog w' = .ok (.tuple #[.iface TT vv, .bool true]) w')) (by kernel_rfl) ?_ (fun hHeld0 => ?_)
  · exact HS0.out
  refine tk0 (.pointer (some ⟨y.D, 0, none⟩)) ?_ (fun w hSw => by (try dsimp only at hSw); obtain ⟨q4, q5, q6, q7⟩ := hSw; go_simp)
  try simp only [Act.put, pu1, pu2, pu3]
  refine tk1 (.pointer (some ⟨y.D, 0, none⟩)) ?_ (fun w hSw => by (try dsimp only at hSw); obtain ⟨q4, q5, q6, q7⟩ := hSw; go_simp)
  try simp only [Act.put, pu1, pu2, pu3]
  refine tk2 (.pointer (some ⟨y.D, 3, none⟩)) ?_ (fun w hSw => by (try dsimp only at hSw); obtain ⟨q4, q5, q6, q7⟩ := hSw; go_simp)
  try simp only [Act.put, pu1, pu2, pu3]
  refine tk3 (.map (some y.M)) ?_ (fun w hSw => by (try dsimp only at hSw); obtain ⟨q4, q5, q6, q7⟩ := hSw; go_simp)
  try simp only [Act.put, pu1, pu2, pu3]
  refine tk4 (.agg #[.int .i64 kk, .int .i64 num]) ?_ (fun w hSw => by (try dsimp only at hSw); obtain ⟨q4, q5, q6, q7⟩ := hSw; go_simp)
  try simp only [Act.put, pu1, pu2, pu3]
  refine tk5 (.tuple #[.iface TT vv, .bool true]) ?_ (fun w hSw => by (try dsimp only at hSw); obtain ⟨q4, q5, q6, q7⟩ := hSw; go_simp)
  try simp only [Act.put, pu1, pu2, pu3]
  refine tk6 (.tuple #[.iface TT vv, .bool true]) ?_ (fun w hSw => by (try dsimp only at hSw); obtain ⟨q4, q5, q6, q7⟩ := hSw; go_simp)
  try simp only [Act.put, pu1, pu2, pu3]
  refine tk7 (.iface TT vv) ?_ (fun w hSw => by (try dsimp only at hSw); obtain ⟨q4, q5, q6, q7⟩ := hSw; go_simp)
  try simp only [Act.put, pu1, pu2, pu3]
  refine tk8 (.bool true) ?_ (fun w hSw => by (try dsimp only at hSw); obtain ⟨q4, q5, q6, q7⟩ := hSw; go_simp)
  try simp only [Act.put, pu1, pu2, pu3]
  refine tk9 (.iface TT vv) ?_ (fun w hSw => by (try dsimp only at hSw); obtain ⟨q4, q5, q6, q7⟩ := hSw; go_simp)
  try simp only [Act.put, pu1, pu2, pu3]
  refine tk10 (.bool true) ?_ (fun w hSw => by (try dsimp only at hSw); obtain ⟨q4, q5, q6, q7⟩ := hSw; go_simp)
  try simp only [Act.put, pu1, pu2, pu3]
  refine wpAnyH_done (by kernel_rfl) ?_ _
  have B3 : Hid _ := ((bel_box b2).alloc (bel_box b2).size (.cells #[.int .i64 kk, .int .i64 num] NmT)).drew
  clear hHeld0
  go_wp2
  go_ret
  exact ⟨rfl, B3.out⟩
set_option maxHeartbeats 6400000 in
set_option maxRecDepth 100000 in
theorem pk_obj_new (h : PkAt w base ro y tv od P fR fB L) (x : Opx) (hx : okI x.2.1) (k : Int) (hk : nmK x = k + 1) (hk0 : 0 ≤ k ∧ k ≤ 3) (hf : ¬ obFind L k x.2.1 < L.length) : Calls Try.prog 60 #[.pointer (some ⟨y.D, 0, none⟩), .agg #[.int .i64 x.1, .int .i64 x.2.1, .int .i64 x.2.2]] w fun e w' => ∃ ro' d, e = .returned (objV (k, d)) ∧ PkAt w' base ro' y tv (od ++ [d]) P fR fB (L ++ [(x.2.1, obNew k)]) ∧ Kept w w' (fun b => ro b ≠ none) (fun b => ro' b ≠ none) := by
  have hnm := name_any x
  rw [hk] at hnm
  unfold nmV at hnm
  have HL : Hid _ := look_map k x.2.1 L od h.ol
  rw [if_neg hf] at HL
  obtain ⟨K1, num, N1⟩ := x
  have HX : Hid (okI num) := hx
  have HH : Hid _ := h
  have HF : Hid (¬ obFind L k num < L.length) := hf
  obtain ⟨_, _, _, c3, hD⟩ := h.cells
  clear hk hx h hf
  have hno : ∀ w, Calls Try.prog 67 #[.int .i64 (k + 1)] w fun e w' => ∃ D S, e = .returned (.iface (objT k) (.agg #[.pointer (some ⟨D, 0, none⟩)])) ∧ ObP w' w.heap.size D S (obNew k) ∧ Below w.heap.size w w' := fun w => (nobj_any (k + 1) (by omega) w).mono (fun e w' h => by
    obtain ⟨D, S, h1, h2⟩ := h.2.1 (by omega)
    rw [show k + 1 - 1 = k by omega] at h1 h2
    exact ⟨D, S, h1, h2, h.2.2⟩)
  obtain ⟨kk, hkk⟩ : ∃ kk : Int, kk = k + 1 := ⟨_, rfl⟩
  have KK : Hid (kk = k + 1) := hkk
  rw [← hkk] at hnm HL hno
  clear hkk
  go_enter Try.func60, Try.ntmps60
  go_wp2_with (go_at_call 66; refine (hnm _).mono ?_; rintro e w2 ⟨rfl, b2⟩)
  have HS0 : Hid _ := PkAt.look HH.out (bel_box b2) kk num (by have := KK.out; rw [this]; exact ⟨by omega, by omega⟩) HX.out
  have e0 : lookM (mapL od L) (kk, num) = none := HL.out
  rw [got_none e0, e0] at HS0
  refine wp_region_held_drew (S := (fun w' : World => w'.cell? ⟨y.D, 3, none⟩ = some (.map (some y.M)) ∧ w'.cell? ⟨w2.heap.size, 0, none⟩ = some (.int .i64 kk) ∧ w'.cell? ⟨w2.heap.size, 1, none⟩ = some (.int .i64 num) ∧ (Instr.lookup ObMT (.map (some y.M)) (.agg #[.int .i64 kk, .int .i64 num]) true).run Try.prog w' = .ok (.tuple #[.nilIface, .bool false]) w')) (by kernel_rfl) ?_ (fun hHeld0 => ?_)
  · exact HS0.out
  refine tk0 (.pointer (some ⟨y.D, 0, none⟩)) ?_ (fun w hSw => by (try dsimp only at hSw); obtain ⟨q4, q5, q6, q7⟩ := hSw; go_simp)
  try simp only [Act.put, pu1, pu2, pu3]
  refine tk1 (.pointer (some ⟨y.D, 0, none⟩)) ?_ (fun w hSw => by (try dsimp only at hSw); obtain ⟨q4, q5, q6, q7⟩ := hSw; go_simp)
  try simp only [Act.put, pu1, pu2, pu3]
  refine tk2 (.pointer (some ⟨y.D, 3, none⟩)) ?_ (fun w hSw => by (try dsimp only at hSw); obtain ⟨q4, q5, q6, q7⟩ := hSw; go_simp)
  try simp only [Act.put, pu1, pu2, pu3]
  refine tk3 (.map (some y.M)) ?_ (fun w hSw => by (try dsimp only at hSw); obtain ⟨q4, q5, q6, q7⟩ := hSw; go_simp)
  try simp only [Act.put, pu1, pu2, pu3]
  refine tk4 (.agg #[.int .i64 kk, .int .i64 num]) ?_ (fun w hSw => by (try dsimp only at hSw); obtain ⟨q4, q5, q6, q7⟩ := hSw; go_simp)
  try simp only [Act.put, pu1, pu2, pu3]
  refine tk5 (.tuple #[.nilIface, .bool false]) ?_ (fun w hSw => by (try dsimp only at hSw); obtain ⟨q4, q5, q6, q7⟩ := hSw; go_simp)
  try simp only [Act.put, pu1, pu2, pu3]
  refine tk6 (.tuple #[.nilIface, .bool false]) ?_ (fun w hSw => by (try dsimp only at hSw); obtain ⟨q4, q5, q6, q7⟩ := hSw; go_simp)
  try simp only [Act.put, pu1, pu2, pu3]
  refine tk7 (.nilIface) ?_ (fun w hSw => by (try dsimp only at hSw); obtain ⟨q4, q5, q6, q7⟩ := hSw; go_simp)
  try simp only [Act.put, pu1, pu2, pu3]
  refine tk8 (.bool false) ?_ (fun w hSw => by (try dsimp only at hSw); obtain ⟨q4, q5, q6, q7⟩ := hSw; go_simp)
  try simp only [Act.put, pu1, pu2, pu3]
  refine tk9 (.nilIface) ?_ (fun w hSw => by (try dsimp only at hSw); obtain ⟨q4, q5, q6, q7⟩ := hSw; go_simp)
  try simp only [Act.put, pu1, pu2, pu3]
  refine tk10 (.bool false) ?_ (fun w hSw => by (try dsimp only at hSw); obtain ⟨q4, q5, q6, q7⟩ := hSw; go_simp)
  try simp only [Act.put, pu1, pu2, pu3]
  refine wpAnyH_done (by kernel_rfl) ?_ _
  obtain ⟨q4, q5, q6, _⟩ := HS0.out
  have B3 : Hid _ := ((bel_box b2).alloc (bel_box b2).size (.cells #[.int .i64 kk, .int .i64 num] NmT)).drew
  clear hHeld0
  go_wp2_with (go_at_call 67; refine (hno _).mono ?_; rintro e w4 ⟨d, S4, rfl, h4', b4⟩; have h4 : Hid _ := h4'; clear h4')
  have hs3 : w2.heap.size < (w2.alloc (.cells #[.int .i64 kk, .int .i64 num] NmT)).drew.heap.size := by simp
  have HS4 : Hid (w4.drew.cell? ⟨y.D, 3, none⟩ = some (.map (some y.M)) ∧ w4.drew.cell? ⟨w2.heap.size, 0, none⟩ = some (.int .i64 kk) ∧ w4.drew.cell? ⟨w2.heap.size, 1, none⟩ = some (.int .i64 num)) := ⟨(b4.cell (p := ⟨y.D, 3, none⟩) (Nat.lt_of_lt_of_le hD B3.out.size)).trans q4, (b4.cell (p := ⟨w2.heap.size, 0, none⟩) hs3).trans q5, (b4.cell (p := ⟨w2.heap.size, 1, none⟩) hs3).trans q6⟩
  have B4 : Hid _ := (bmm B3.out B3.out.size b4).drew
  obtain ⟨w5, hr5, hm5, g5, z5⟩ := PkAt.putOb HH.out B4.out k num d (by exact ⟨by omega, by omega⟩) HX.out HF.out (obNew k) rfl
  have eo : objV (k, d) = .iface (objT k) (.agg #[.pointer (some ⟨d, 0, none⟩)]) := rfl
  rw [eo, ← KK.out] at hr5
  have HS5 : Hid (w5.cell? ⟨y.D, 3, none⟩ = some (.map (some y.M)) ∧ w5.cell? ⟨w2.heap.size, 0, none⟩ = some (.int .i64 kk) ∧ w5.cell? ⟨w2.heap.size, 1, none⟩ = some (.int .i64 num)) := by
    have hM4 := (HH.out.mp.keep (B4.out.block y.M HH.out.mp.lt))
    have n1 : y.M ≠ y.D := HH.out.mp.ne HH.out.hd
    have n2 : y.M ≠ w2.heap.size := fun e => by have h9 := HH.out.mp.lt; have h8 := (bel_box b2).size; omega
    exact ⟨(World.cell?_of_block (g5.block y.D (Nat.lt_of_lt_of_le hD B4.out.size) (fun e => n1 (Option.some.inj e).symm))).trans HS4.out.1, (World.cell?_of_block (g5.block w2.heap.size (Nat.lt_of_lt_of_le hs3 b4.size) (fun e => n2 (Option.some.inj e).symm))).trans HS4.out.2.1, (World.cell?_of_block (g5.block w2.heap.size (Nat.lt_of_lt_of_le hs3 b4.size) (fun e => n2 (Option.some.inj e).symm))).trans HS4.out.2.2⟩
  have HADD : Hid _ := PkAt.addOb HH.out B4.out (((h4.out).low B3.out.size).keep (Nat.le_refl _) (fun _ _ => rfl)) hm5 g5 z5
  clear hm5 g5 z5 eo q4 q5 q6
  refine wp_region_held_drew (S := (fun w' : World => w'.cell? ⟨y.D, 3, none⟩ = some (.map (some y.M)) ∧ w'.cell? ⟨w2.heap.size, 0, none⟩ = some (.int .i64 kk) ∧ w'.cell? ⟨w2.heap.size, 1, none⟩ = some (.int .i64 num))) (by kernel_rfl) ?_ (fun hHeld0 => ?_)
  · exact HS4.out
  refine tk0 (.pointer (some ⟨y.D, 0, none⟩)) ?_ (fun w hSw => by (try dsimp only at hSw); obtain ⟨q7, q8, q9⟩ := hSw; go_simp)
  try simp only [Act.put, pu1, pu2, pu3]
  refine tk1 (.pointer (some ⟨y.D, 0, none⟩)) ?_ (fun w hSw => by (try dsimp only at hSw); obtain ⟨q7, q8, q9⟩ := hSw; go_simp)
  try simp only [Act.put, pu1, pu2, pu3]
  refine tk2 (.pointer (some ⟨y.D, 3, none⟩)) ?_ (fun w hSw => by (try dsimp only at hSw); obtain ⟨q7, q8, q9⟩ := hSw; go_simp)
  try simp only [Act.put, pu1, pu2, pu3]
  refine tk3 (.map (some y.M)) ?_ (fun w hSw => by (try dsimp only at hSw); obtain ⟨q7, q8, q9⟩ := hSw; go_simp)
  try simp only [Act.put, pu1, pu2, pu3]
  refine tk4 (.agg #[.int .i64 kk, .int .i64 num]) ?_ (fun w hSw => by (try dsimp only at hSw); obtain ⟨q7, q8, q9⟩ := hSw; go_simp)
  try simp only [Act.put, pu1, pu2, pu3]
  refine tk5 (.iface (objT k) (.agg #[.pointer (some ⟨d, 0, none⟩)])) ?_ (fun w hSw => by (try dsimp only at hSw); obtain ⟨q7, q8, q9⟩ := hSw; go_simp)
  try simp only [Act.put, pu1, pu2, pu3]
  refine cl6 (by kernel_rfl) rfl (fun K hK => ?_)
  go_simp
  refine hK.out _ _ ?_ (fun hHeld => ?_)
  · exact HS5.out
  clear hK K
  try simp only [Act.put, pu1, pu2, pu3]
  refine wpAnyH_done (by kernel_rfl) ?_ _
  go_wp2
  go_ret
  obtain ⟨ro5, h5, k5⟩ := HADD.out
  exact ⟨ro5, d, rfl, h5, k5⟩
end
end Go.Proofs.Ythhlglbohibekaa
