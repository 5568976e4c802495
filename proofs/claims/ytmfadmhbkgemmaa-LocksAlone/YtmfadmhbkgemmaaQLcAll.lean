/-
  The program's locks in memory: their block, the map by names, each lock's own blocks: one turned, one added, one struck, the counter set. No condition.
-/
import Derived.Test.YtmfadmhbkgemmaaQLcGrant
import Derived.Test.YtmfadmhbkgemmaaQLcNames
namespace Go.Proofs.Ytmfadmhbkgemmaa
open Go.RowKit

def updK (K : ByteArray → Option Lk) (nm : ByteArray) (o : Option Lk) : ByteArray → Option Lk := fun n => if n = nm then o else K n
def updO (own : ByteArray → Nat → Prop) (nm : ByteArray) (S : Nat → Prop) : ByteArray → Nat → Prop := fun n => if n = nm then S else own n
theorem updK_same (K : ByteArray → Option Lk) (nm : ByteArray) (o : Option Lk) : updK K nm o nm = o := if_pos rfl
theorem updK_ne (K : ByteArray → Option Lk) {n nm : ByteArray} (o : Option Lk) (h : n ≠ nm) : updK K nm o n = K n := if_neg h
theorem updO_same (own : ByteArray → Nat → Prop) (nm : ByteArray) (S : Nat → Prop) : updO own nm S nm = S := if_pos rfl
theorem updO_ne (own : ByteArray → Nat → Prop) {n nm : ByteArray} (S : Nat → Prop) (h : n ≠ nm) : updO own nm S n = own n := if_neg h
def setL (D M : Nat) (own : ByteArray → Nat → Prop) : Nat → Prop := fun g => g = D ∨ g = M ∨ ∃ nm, own nm g
theorem mNm_got (l : List (ByteArray × Nat)) (n : ByteArray) : mNm.got l n = ptV (lookM l n) := by
  unfold MapOf.got
  cases lookM l n <;> rfl
structure LcL (w : World) (base D M : Nat) (c : Int) (K : ByteArray → Option Lk) (T : List (ByteArray × Nat)) (own : ByteArray → Nat → Prop) : Prop where
  blk : w.heap[D]? = some (.cells (pgA M c) pgT (0, 0))
  map : mNm.At w M T
  at' : ∀ nm x, K nm = some x → ∃ X, lookM T nm = some X ∧ LcAt w X (own nm) x.h x.wr x.q
  no : ∀ nm, K nm = none → lookM T nm = none ∧ ∀ g, ¬ own nm g
  dis : ∀ a b, a ≠ b → ∀ g, own a g → ¬ own b g
  nD : ∀ nm, ¬ own nm D
  nM : ∀ nm, ¬ own nm M
  lo : ∀ g, setL D M own g → base ≤ g
  c0 : 0 ≤ c
  c1 : c ≤ 18446744073709551615
section
variable {w w' : World} {base D M : Nat} {c : Int} {K : ByteArray → Option Lk} {T : List (ByteArray × Nat)} {own : ByteArray → Nat → Prop}
theorem LcL.ne (I : LcL w base D M c K T own) : M ≠ D := I.map.ne I.blk
theorem LcL.some' (I : LcL w base D M c K T own) (nm : ByteArray) : (lookM T nm).isSome = (K nm).isSome := by
  cases hk : K nm with
  | none => rw [(I.no nm hk).1]; rfl
  | some x =>
    obtain ⟨X, h1, _⟩ := I.at' nm x hk
    rw [h1]
    rfl
theorem LcL.ownSome (I : LcL w base D M c K T own) {nm : ByteArray} {g : Nat} (h : own nm g) : ∃ x, K nm = some x := by
  cases hk : K nm with
  | none => exact absurd h ((I.no nm hk).2 g)
  | some x => exact ⟨x, rfl⟩
theorem LcL.bdO (I : LcL w base D M c K T own) {nm : ByteArray} {g : Nat} (h : own nm g) : g < w.heap.size := by
  obtain ⟨x, hx⟩ := I.ownSome h
  obtain ⟨X, _, h2⟩ := I.at' nm x hx
  exact h2.bd g h
theorem LcL.bd (I : LcL w base D M c K T own) : ∀ g, setL D M own g → base ≤ g ∧ g < w.heap.size := fun g hg => by
  refine ⟨I.lo g hg, ?_⟩
  rcases hg with rfl | rfl | ⟨nm, hg⟩
  · exact lt_of_block I.blk
  · exact I.map.lt
  · exact I.bdO hg
theorem LcL.keep (I : LcL w base D M c K T own) (hk : ∀ g, setL D M own g → w'.heap[g]? = w.heap[g]?) : LcL w' base D M c K T own :=
  ⟨(hk D (Or.inl rfl)).trans I.blk, I.map.keep (hk M (Or.inr (Or.inl rfl))), fun nm x hx => by
    obtain ⟨X, h1, h2⟩ := I.at' nm x hx
    exact ⟨X, h1, h2.keep fun g hg => hk g (Or.inr (Or.inr ⟨nm, hg⟩))⟩, I.no, I.dis, I.nD, I.nM, I.lo, I.c0, I.c1⟩
theorem LcL.fresh (I : LcL w base D M c K T own) (k : Below w.heap.size w w') : LcL w' base D M c K T own := I.keep fun g hg => k.block g (I.bd g hg).2
theorem LcL.cellM (I : LcL w base D M c K T own) : w.cell? ⟨D, 0, none⟩ = some (.map (some M)) := by simp [World.cell?, I.blk]
theorem LcL.cellC (I : LcL w base D M c K T own) : w.cell? ⟨D, 1, none⟩ = some (.int .u64 c) := by simp [World.cell?, I.blk]
theorem LcL.look2 (I : LcL w base D M c K T own) {nm : ByteArray} (hn : nm.size ≤ maxLen) : (Instr.lookup 58 (.map (some M)) (.string nm) true).run Try.prog w = .ok (.tuple #[ptV (lookM T nm), .bool (K nm).isSome]) w := by
  have := MapOf.look2 mNm_is I.map hn
  rw [mNm_got, I.some'] at this
  exact this
theorem LcL.look1 (I : LcL w base D M c K T own) {nm : ByteArray} (hn : nm.size ≤ maxLen) : (Instr.lookup 58 (.map (some M)) (.string nm) false).run Try.prog w = .ok (ptV (lookM T nm)) w := by
  have := MapOf.look1 mNm_is I.map hn
  rw [mNm_got] at this
  exact this
/-- One lock turned, the counter with it. -/
theorem LcL.turn (I : LcL w base D M c K T own) {nm : ByteArray} {X : Nat} (hX : lookM T nm = some X) {S1 : Nat → Prop} {x : Lk} {c' : Int} (ha : LcAt w' X S1 x.h x.wr x.q) (hd : w'.heap[D]? = some (.cells (pgA M c') pgT (0, 0)))
    (k : Kept w w' (fun g => own nm g ∨ g = D) (fun g => S1 g ∨ g = D)) (hS : ∀ g, S1 g → own nm g ∨ w.heap.size ≤ g) (h0 : 0 ≤ c') (h1 : c' ≤ 18446744073709551615) :
    LcL w' base D M c' (updK K nm (some x)) T (updO own nm S1) ∧ Kept w w' (setL D M own) (setL D M (updO own nm S1)) := by
  have hDl := lt_of_block I.blk
  have hMl := I.map.lt
  have hbase : base ≤ w.heap.size := Nat.le_trans (I.lo D (Or.inl rfl)) (Nat.le_of_lt hDl)
  have hm : mNm.At w' M T := I.map.keep (k.kept M hMl (fun e => by
    rcases e with e | e
    · exact I.nM nm e
    · exact I.ne e))
  have hset : ∀ g, setL D M (updO own nm S1) g → setL D M own g ∨ w.heap.size ≤ g := fun g hg => by
    rcases hg with h | h | ⟨n, h⟩
    · exact Or.inl (Or.inl h)
    · exact Or.inl (Or.inr (Or.inl h))
    · by_cases e : n = nm
      · subst e
        rw [updO_same] at h
        rcases hS g h with h | h
        · exact Or.inl (Or.inr (Or.inr ⟨n, h⟩))
        · exact Or.inr h
      · rw [updO_ne own S1 e] at h
        exact Or.inl (Or.inr (Or.inr ⟨n, h⟩))
  have hother : ∀ n, n ≠ nm → ∀ g, own n g → w'.heap[g]? = w.heap[g]? := fun n hn g hg => k.kept g (I.bdO hg) (fun e => by
    rcases e with e | e
    · exact I.dis n nm hn g hg e
    · exact I.nD n (e ▸ hg))
  have hS1n : ∀ n, n ≠ nm → ∀ g, S1 g → ¬ own n g := fun n hn g hg hg2 => by
    rcases hS g hg with h | h
    · exact I.dis n nm hn g hg2 h
    · have := I.bdO hg2
      omega
  refine ⟨⟨hd, hm, fun n y hy => ?_, fun n hn => ?_, fun a b hab g ha' hb' => ?_, fun n hn => ?_, fun n hn => ?_, fun g hg => ?_, h0, h1⟩, ⟨k.os, k.tape, k.output, k.size, hset, fun b hb hn => k.kept b hb (fun e => hn (by
    rcases e with e | e
    · exact Or.inr (Or.inr ⟨nm, e⟩)
    · exact Or.inl e))⟩⟩
  · by_cases e : n = nm
    · subst e
      rw [updK_same] at hy
      cases hy
      rw [updO_same]
      exact ⟨X, hX, ha⟩
    · rw [updK_ne K _ e] at hy
      obtain ⟨Y, h2, h3⟩ := I.at' n y hy
      rw [updO_ne own S1 e]
      exact ⟨Y, h2, h3.keep (hother n e)⟩
  · by_cases e : n = nm
    · subst e
      rw [updK_same] at hn
      cases hn
    · rw [updK_ne K _ e] at hn
      rw [updO_ne own S1 e]
      exact I.no n hn
  · by_cases e : a = nm
    · subst e
      rw [updO_same] at ha'
      rw [updO_ne own S1 (fun e => hab e.symm)] at hb'
      exact hS1n b (fun e => hab e.symm) g ha' hb'
    · rw [updO_ne own S1 e] at ha'
      by_cases e2 : b = nm
      · subst e2
        rw [updO_same] at hb'
        exact hS1n a e g hb' ha'
      · rw [updO_ne own S1 e2] at hb'
        exact I.dis a b hab g ha' hb'
  · by_cases e : n = nm
    · subst e
      rw [updO_same] at hn
      rcases hS D hn with h | h
      · exact I.nD n h
      · omega
    · rw [updO_ne own S1 e] at hn
      exact I.nD n hn
  · by_cases e : n = nm
    · subst e
      rw [updO_same] at hn
      rcases hS M hn with h | h
      · exact I.nM n h
      · omega
    · rw [updO_ne own S1 e] at hn
      exact I.nM n hn
  · rcases hset g hg with h | h
    · exact I.lo g h
    · omega
/-- The counter alone. -/
theorem LcL.count (I : LcL w base D M c K T own) {c' : Int} (hd : w'.heap[D]? = some (.cells (pgA M c') pgT (0, 0))) (hk : ∀ g, setL D M own g → g ≠ D → w'.heap[g]? = w.heap[g]?) (h0 : 0 ≤ c') (h1 : c' ≤ 18446744073709551615) : LcL w' base D M c' K T own :=
  ⟨hd, I.map.keep (hk M (Or.inr (Or.inl rfl)) I.ne), fun nm x hx => by
    obtain ⟨X, h2, h3⟩ := I.at' nm x hx
    exact ⟨X, h2, h3.keep fun g hg => hk g (Or.inr (Or.inr ⟨nm, hg⟩)) (fun e => I.nD nm (e ▸ hg))⟩, I.no, I.dis, I.nD, I.nM, I.lo, h0, h1⟩
/-- One lock more, that lies beside them. -/
theorem LcL.add (I : LcL w base D M c K T own) {nm : ByteArray} (hK : K nm = none) {X : Nat} {S1 : Nat → Prop} {x : Lk} (ha : LcAt w X S1 x.h x.wr x.q) (hS : ∀ g, S1 g → ¬ setL D M own g) (hb : ∀ g, S1 g → base ≤ g) (hm : mNm.At w' M (putM T nm X)) (hg : w.grownBy w' (some M)) :
    LcL w' base D M c (updK K nm (some x)) (putM T nm X) (updO own nm S1) := by
  have hk : ∀ g, g < w.heap.size → g ≠ M → w'.heap[g]? = w.heap[g]? := fun g h1 h2 => hg.block g h1 (fun e => h2 (Option.some.inj e))
  refine ⟨(hk D (lt_of_block I.blk) I.ne.symm).trans I.blk, hm, fun n y hy => ?_, fun n hn => ?_, fun a b hab g ha' hb' => ?_, fun n hn => ?_, fun n hn => ?_, fun g hg' => ?_, I.c0, I.c1⟩
  · rw [lookM_put]
    by_cases e : n = nm
    · subst e
      rw [updK_same] at hy
      cases hy
      rw [updO_same, if_pos rfl]
      exact ⟨X, rfl, ha.keep fun g hg => hk g (ha.bd g hg) (fun e => hS g hg (Or.inr (Or.inl e)))⟩
    · rw [updK_ne K _ e] at hy
      obtain ⟨Y, h2, h3⟩ := I.at' n y hy
      rw [updO_ne own S1 e, if_neg e]
      exact ⟨Y, h2, h3.keep fun g hg => hk g (I.bdO hg) (fun e => I.nM n (e ▸ hg))⟩
  · by_cases e : n = nm
    · subst e
      rw [updK_same] at hn
      cases hn
    · rw [updK_ne K _ e] at hn
      rw [updO_ne own S1 e, lookM_put, if_neg e]
      exact I.no n hn
  · by_cases e : a = nm
    · subst e
      rw [updO_same] at ha'
      rw [updO_ne own S1 (fun e => hab e.symm)] at hb'
      exact hS g ha' (Or.inr (Or.inr ⟨b, hb'⟩))
    · rw [updO_ne own S1 e] at ha'
      by_cases e2 : b = nm
      · subst e2
        rw [updO_same] at hb'
        exact hS g hb' (Or.inr (Or.inr ⟨a, ha'⟩))
      · rw [updO_ne own S1 e2] at hb'
        exact I.dis a b hab g ha' hb'
  · by_cases e : n = nm
    · subst e
      rw [updO_same] at hn
      exact hS D hn (Or.inl rfl)
    · rw [updO_ne own S1 e] at hn
      exact I.nD n hn
  · by_cases e : n = nm
    · subst e
      rw [updO_same] at hn
      exact hS M hn (Or.inr (Or.inl rfl))
    · rw [updO_ne own S1 e] at hn
      exact I.nM n hn
  · rcases hg' with h | h | ⟨n, h⟩
    · exact I.lo g (Or.inl h)
    · exact I.lo g (Or.inr (Or.inl h))
    · by_cases e : n = nm
      · subst e
        rw [updO_same] at h
        exact hb g h
      · rw [updO_ne own S1 e] at h
        exact I.lo g (Or.inr (Or.inr ⟨n, h⟩))
/-- One lock struck. -/
theorem LcL.del (I : LcL w base D M c K T own) {nm : ByteArray} (hm : mNm.At w' M (delM T nm)) (hg : w.grownBy w' (some M)) :
    LcL w' base D M c (updK K nm none) (delM T nm) (updO own nm fun _ => False) := by
  have hk : ∀ g, g < w.heap.size → g ≠ M → w'.heap[g]? = w.heap[g]? := fun g h1 h2 => hg.block g h1 (fun e => h2 (Option.some.inj e))
  refine ⟨(hk D (lt_of_block I.blk) I.ne.symm).trans I.blk, hm, fun n y hy => ?_, fun n hn => ?_, fun a b hab g ha' hb' => ?_, fun n hn => ?_, fun n hn => ?_, fun g hg' => ?_, I.c0, I.c1⟩
  · rw [lookM_del]
    by_cases e : n = nm
    · subst e
      rw [updK_same] at hy
      cases hy
    · rw [updK_ne K _ e] at hy
      obtain ⟨Y, h2, h3⟩ := I.at' n y hy
      rw [updO_ne own _ e, if_neg e]
      exact ⟨Y, h2, h3.keep fun g hg => hk g (I.bdO hg) (fun e => I.nM n (e ▸ hg))⟩
  · by_cases e : n = nm
    · subst e
      rw [updO_same, lookM_del, if_pos rfl]
      exact ⟨rfl, fun g h => h⟩
    · rw [updK_ne K _ e] at hn
      rw [updO_ne own _ e, lookM_del, if_neg e]
      exact I.no n hn
  · by_cases e : a = nm
    · subst e
      rw [updO_same] at ha'
      exact ha'
    · rw [updO_ne own _ e] at ha'
      by_cases e2 : b = nm
      · subst e2
        rw [updO_same] at hb'
        exact hb'
      · rw [updO_ne own _ e2] at hb'
        exact I.dis a b hab g ha' hb'
  · by_cases e : n = nm
    · subst e
      rw [updO_same] at hn
      exact hn
    · rw [updO_ne own _ e] at hn
      exact I.nD n hn
  · by_cases e : n = nm
    · subst e
      rw [updO_same] at hn
      exact hn
    · rw [updO_ne own _ e] at hn
      exact I.nM n hn
  · rcases hg' with h | h | ⟨n, h⟩
    · exact I.lo g (Or.inl h)
    · exact I.lo g (Or.inr (Or.inl h))
    · by_cases e : n = nm
      · subst e
        rw [updO_same] at h
        exact h.elim
      · rw [updO_ne own _ e] at h
        exact I.lo g (Or.inr (Or.inr ⟨n, h⟩))
end
end Go.Proofs.Ytmfadmhbkgemmaa
