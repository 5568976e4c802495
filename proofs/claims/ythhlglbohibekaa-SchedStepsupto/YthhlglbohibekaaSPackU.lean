/-
  Parts of the proof, laid together: ScPlain, ScKeep, ScTasks, ScWhole. The conditions stand at each part.
-/
import Derived.Deep.RegionHeld3
import Derived.Test.YthhlglbohibekaaSPackO
import Derived.Test.YthhlglbohibekaaSPackT
namespace Go.Proofs.Ythhlglbohibekaa
open Go.RowKit

def setBl (T : List Tk) (i : Nat) (b : Bool) : List Tk := match T[i]? with | some t => T.set i { t with bl := b } | none => T
def acR (T : List Tk) (L : List (Int × Ob)) (i : Nat) (o : Opx) : Bool × Int × List Tk × List (Int × Ob) :=
  if o.1 = 9 then (false, 0, T, L)
  else if o.1 = 5 then (false, gAZ (obG L 2 o.2.1).h o.2.2, wakeT T (gAO (obG L 2 o.2.1).h (obG L 2 o.2.1).l o.2.2), obPut L 2 o.2.1 (grAd (obG L 2 o.2.1) o.2.2))
  else if o.1 = 6 then (!gWB (obG L 2 o.2.1).h (obG L 2 o.2.1).l (i : Int), gWZ (obG L 2 o.2.1).l (i : Int), T, obPut L 2 o.2.1 (grWt (obG L 2 o.2.1) (i : Int)))
  else if o.1 = 7 ∨ o.1 = 8 then ocR T L i o
  else lkR T L (i : Int) o
def stR (T : List Tk) (L : List (Int × Ob)) (i : Nat) : Opx × List Tk × List (Int × Ob) :=
  match T[i]? with
  | none => ((0, 0, 0), T, L)
  | some t => match t.ops[t.pos]? with
    | none => ((0, 0, 0), T, L)
    | some o => (((i : Int), (t.pos : Int), (acR (T.set i { t with pos := t.pos + 1 }) L i o).2.1), setBl (acR (T.set i { t with pos := t.pos + 1 }) L i o).2.2.1 i ((acR (T.set i { t with pos := t.pos + 1 }) L i o).1 && ((acR (T.set i { t with pos := t.pos + 1 }) L i o).2.1 == 0)), (acR (T.set i { t with pos := t.pos + 1 }) L i o).2.2.2)
theorem lkR_len (T : List Tk) (L : List (Int × Ob)) (t : Int) (o : Opx) : (lkR T L t o).2.2.1.length = T.length := by
  unfold lkR
  split
  · rfl
  · split
    · rfl
    · split
      · show (if _ then _ else _ : List Tk).length = _
        split
        · exact wakeT_length _ _
        · rfl
      · split
        · exact wakeT_length _ _
        · rfl
theorem ocR_len (T : List Tk) (L : List (Int × Ob)) (i : Nat) (o : Opx) : (ocR T L i o).2.2.1.length = T.length := by
  unfold ocR
  split
  · rfl
  · split
    · split
      · show (wakeT _ _).length = _
        rw [wakeT_length, List.length_set]
      · rfl
    · split
      · rfl
      · show (if _ then _ else _ : List Tk).length = _
        split <;> simp
theorem ocR_end (T : List Tk) (L : List (Int × Ob)) (i : Nat) (o : Opx) (ho : o.1 = 8) : (ocR T L i o).1 = false := by
  unfold ocR
  split
  · rfl
  · rw [if_pos ho]
    split <;> rfl
theorem setBl_at (T : List Tk) (i : Nat) (hi : i < T.length) (b : Bool) : setBl T i b = T.set i { T[i] with bl := b } := by
  unfold setBl
  rw [List.getElem?_eq_getElem hi]
section
variable {w : World} {base D : Nat} {ro : Nat → Option Nat} {vT vL : Value} {tv : List Tv} {od : List Nat} {T : List Tk} {L : List (Int × Ob)}
theorem sk_step (h : SkAt w base D ro vT vL tv od T L) (i : Nat) (hi : i < T.length) (hT : T.length ≤ 65536) (k : Nat) (hk : k < 65536) (hL : L.length ≤ k) (hO : ∀ p ∈ L, ObOk T.length k p.2) (hbl : T[i].bl = false) (hp : T[i].pos < T[i].ops.length) (hlo : T[i].ops.length ≤ 65536) (hlr : T[i].runs.length ≤ 65536) : Calls Try.prog 14 #[.pointer (some ⟨D, 0, none⟩), .int .i64 (i : Int)] w fun e w' => e = .returned (.tuple #[.agg #[.int .i64 (stR T L i).1.1, .int .i64 (stR T L i).1.2.1, .int .i64 (stR T L i).1.2.2], .int .i64 0]) ∧ ∃ ro' vL' tv' od', SkAt w' base D ro' vT vL' tv' od' (stR T L i).2.1 (stR T L i).2.2 ∧ Kept w w' (fun b => ro b ≠ none) (fun b => ro' b ≠ none) := by
  have e1 : stR T L i = (((i : Int), (T[i].pos : Int), (acR (T.set i { T[i] with pos := T[i].pos + 1 }) L i T[i].ops[T[i].pos]).2.1), setBl (acR (T.set i { T[i] with pos := T[i].pos + 1 }) L i T[i].ops[T[i].pos]).2.2.1 i ((acR (T.set i { T[i] with pos := T[i].pos + 1 }) L i T[i].ops[T[i].pos]).1 && ((acR (T.set i { T[i] with pos := T[i].pos + 1 }) L i T[i].ops[T[i].pos]).2.1 == 0)), (acR (T.set i { T[i] with pos := T[i].pos + 1 }) L i T[i].ops[T[i].pos]).2.2.2) := by
    unfold stR
    rw [List.getElem?_eq_getElem hi]
    simp only
    rw [List.getElem?_eq_getElem hp]
  rw [e1]
  have hiT : i < (T.set i { T[i] with pos := T[i].pos + 1 }).length := by rw [List.length_set]; exact hi
  have hO1 : ∀ p ∈ L, ObOk (T.set i { T[i] with pos := T[i].pos + 1 }).length k p.2 := fun p hp => by rw [List.length_set]; exact hO p hp
  have g1 : (T.set i { T[i] with pos := T[i].pos + 1 })[i] = { T[i] with pos := T[i].pos + 1 } := List.getElem_set_self _
  obtain ⟨⟨K, num, N⟩, hop⟩ : ∃ o, T[i].ops[T[i].pos] = o := ⟨_, rfl⟩
  rw [hop]
  unfold acR
  simp only
  by_cases k9 : K = 9
  · subst k9
    rw [if_pos rfl]
    simp only [Bool.false_and]
    rw [setBl_at _ i hiT]
    exact step_yield h i hi hbl hp hlo _ rfl num N hop
  rw [if_neg k9]
  by_cases k5 : K = 5
  · subst k5
    rw [if_pos rfl]
    simp only [Bool.false_and]
    have h2 := ObOk.get hO 2 num
    have l2 := h2.ln
    have hiw : i < (wakeT (T.set i { T[i] with pos := T[i].pos + 1 }) (gAO (obG L 2 num).h (obG L 2 num).l N)).length := by rw [wakeT_length]; exact hiT
    rw [setBl_at _ i hiw]
    refine step_add h i hi hbl hp hlo _ rfl num N hop (by omega) ?_ hiw
    unfold gAO
    split
    · exact ⟨by omega, h2.li⟩
    · exact ⟨Nat.zero_le _, fun x hx => by cases hx⟩
  rw [if_neg k5]
  by_cases k6 : K = 6
  · subst k6
    rw [if_pos rfl]
    have h2 := ObOk.get hO 2 num
    have l2 := h2.ln
    simp only
    rw [setBl_at _ i hiT]
    cases hgb : gWB (obG L 2 num).h (obG L 2 num).l (i : Int) with
    | true => exact step_waitF h i hi hbl hp hlo _ rfl num N hop (by omega) (by omega) (by omega) hgb hiT
    | false => exact step_waitT h i hi hbl hp hlo _ rfl num N hop (by omega) (by omega) (by omega) hgb hiT
  rw [if_neg k6]
  by_cases k78 : K = 7 ∨ K = 8
  · rw [if_pos k78]
    have hc : ∀ w6 : World, SkAt w6 base D ro vT vL tv od (T.set i { T[i] with pos := T[i].pos + 1 }) L → _ := fun w6 h6 => sk_once h6 i hiT (by rw [List.length_set]; exact hT) k hk hL hO1 (by rw [g1]; show T[i].pos + 1 ≤ 65536; omega) (by rw [g1]; exact hlo) (by rw [g1]; exact hlr) (K, num, N) k78
    have hlen := ocR_len (T.set i { T[i] with pos := T[i].pos + 1 }) L i (K, num, N)
    have hend : K = 8 → (ocR (T.set i { T[i] with pos := T[i].pos + 1 }) L i (K, num, N)).1 = false := fun e => ocR_end _ _ _ _ e
    generalize ocR (T.set i { T[i] with pos := T[i].pos + 1 }) L i (K, num, N) = r at *
    obtain ⟨wt, ez, T2, L2⟩ := r
    simp only at hc hlen hend ⊢
    have hi2 : i < T2.length := by rw [hlen]; exact hiT
    rw [setBl_at _ i hi2]
    rcases k78 with rfl | rfl
    · cases wt with
      | true => exact step_doT h i hi hbl hp hlo _ rfl num N hop ez T2 L2 hi2 hc
      | false => exact step_doF h i hi hbl hp hlo _ rfl num N hop ez T2 L2 hi2 hc
    · cases wt with
      | true => exact absurd (hend rfl) (by decide)
      | false => exact step_endF h i hi hbl hp hlo _ rfl num N hop ez T2 L2 hi2 hc
  rw [if_neg k78]
  have hc : ∀ w6 : World, SkAt w6 base D ro vT vL tv od (T.set i { T[i] with pos := T[i].pos + 1 }) L → _ := fun w6 h6 => sk_lock h6 (i : Int) (by unfold okI; omega) k hk hL hO1 (K, num, N)
  have hlen := lkR_len (T.set i { T[i] with pos := T[i].pos + 1 }) L (i : Int) (K, num, N)
  generalize lkR (T.set i { T[i] with pos := T[i].pos + 1 }) L (i : Int) (K, num, N) = r at *
  obtain ⟨wt, ez, T2, L2⟩ := r
  simp only at hc hlen ⊢
  have hi2 : i < T2.length := by rw [hlen]; exact hiT
  rw [setBl_at _ i hi2]
  have hc2 := fun (w6 : World) h6 => (hc w6 h6).mono (fun e w' ⟨e1, ro', vL', od', e2, e3⟩ => (⟨e1, ro', vL', tv, od', e2, e3⟩ : _ ∧ ∃ ro' vL' tv' od', SkAt w' base D ro' vT vL' tv' od' T2 L2 ∧ Kept w6 w' (fun b => ro b ≠ none) (fun b => ro' b ≠ none)))
  cases wt with
  | true => exact step_lockT h i hi hbl hp hlo _ rfl K num N hop k5 k6 (fun e => k78 (Or.inl e)) (fun e => k78 (Or.inr e)) k9 ez T2 L2 hi2 hc2
  | false => exact step_lockF h i hi hbl hp hlo _ rfl K num N hop k5 k6 (fun e => k78 (Or.inl e)) (fun e => k78 (Or.inr e)) k9 ez T2 L2 hi2 hc2
end
end Go.Proofs.Ythhlglbohibekaa
namespace Go.Proofs.Ythhlglbohibekaa
open Go.RowKit

theorem ObOk.mono {n k k' : Nat} {o : Ob} (h : ObOk n k o) (hk : k ≤ k') : ObOk n k' o := ⟨Nat.le_trans h.ln hk, h.li, h.qi, h.gh⟩
theorem obAdd_len (L : List (Int × Ob)) (k num : Int) : (obAdd L k num).length ≤ L.length + 1 := by
  unfold obAdd
  split
  · omega
  · simp
theorem obPut_len (L : List (Int × Ob)) (k num : Int) (o : Ob) : (obPut L k num o).length ≤ L.length + 1 := by
  unfold obPut
  rw [List.length_set]
  exact obAdd_len L k num
theorem obPut_mem {L : List (Int × Ob)} {k num : Int} {o : Ob} {p : Int × Ob} (h : p ∈ obPut L k num o) : p.2 = o ∨ p ∈ L ∨ p.2 = obNew k := by
  unfold obPut at h
  rcases List.mem_or_eq_of_mem_set h with h | h
  · unfold obAdd at h
    split at h
    · exact Or.inr (Or.inl h)
    · rcases List.mem_append.1 h with h | h
      · exact Or.inr (Or.inl h)
      · rw [List.mem_singleton] at h
        exact Or.inr (Or.inr (by rw [h]))
  · exact Or.inl (by rw [h])
theorem ObOk.put {n k : Nat} {L : List (Int × Ob)} (h : ∀ p ∈ L, ObOk n k p.2) (j num : Int) {o : Ob} (ho : ObOk n (k + 1) o) : ∀ p ∈ obPut L j num o, ObOk n (k + 1) p.2 := fun p hp => by
  rcases obPut_mem hp with h1 | h1 | h1
  · rw [h1]
    exact ho
  · exact (h p h1).mono (Nat.le_succ _)
  · rw [h1]
    exact ObOk.new n (k + 1) j
section
variable {n k : Nat} {o : Ob} {t : Int}
theorem mem_tail_of {l : List Int} {x : Int} (h : x ∈ l.tail) : x ∈ l := List.mem_of_mem_tail h
theorem ObOk.mxLk (h : ObOk n k o) (hk : o.k = 0) (ht : 0 ≤ t ∧ t < (n : Int)) : ObOk n (k + 1) (mxLk o t) := by
  have h1 := h.ln
  refine ⟨?_, fun x hx => ?_, h.qi, fun e => ?_⟩
  · show (lockL o.h o.l t).length + o.q.length ≤ k + 1
    unfold lockL
    split
    · simp
      omega
    · omega
  · have hx : x ∈ lockL o.h o.l t := hx
    unfold lockL at hx
    split at hx
    · rcases List.mem_append.1 hx with hx | hx
      · exact h.li x hx
      · rw [List.mem_singleton] at hx
        rw [hx]
        exact ht
    · exact h.li x hx
  · have e1 : o.k = 2 := e
    rw [hk] at e1
    cases e1
theorem ObOk.mxUn (h : ObOk n k o) (hk : o.k = 0) : ObOk n (k + 1) (mxUn o t) := by
  have h1 := h.ln
  refine ⟨?_, fun x hx => ?_, h.qi, fun e => ?_⟩
  · show (unL o.h o.l t).length + o.q.length ≤ k + 1
    unfold unL
    split
    · omega
    · rw [List.length_tail]
      omega
  · have hx : x ∈ unL o.h o.l t := hx
    unfold unL at hx
    split at hx
    · exact h.li x hx
    · exact h.li x (mem_tail_of hx)
  · have e1 : o.k = 2 := e
    rw [hk] at e1
    cases e1
theorem ObOk.rwLk (h : ObOk n k o) (hk : o.k = 1) (ht : 0 ≤ t ∧ t < (n : Int)) (rd : Bool) : ObOk n (k + 1) (rwLk o t rd) := by
  have h1 := h.ln
  refine ⟨?_, fun x hx => ?_, fun y hy => ?_, fun e => ?_⟩
  · show (rwSt o.l o.b o.q t rd).1.length + (rwSt o.l o.b o.q t rd).2.2.length ≤ k + 1
    unfold rwSt
    split
    · split
      · show (putL o.l t).length + o.q.length ≤ k + 1
        rw [putL_length]
        omega
      · show o.l.length + (o.q ++ [(t, rd, true)]).length ≤ k + 1
        simp
        omega
    · show o.l.length + o.q.length ≤ k + 1
      omega
  · have hx : x ∈ (rwSt o.l o.b o.q t rd).1 := hx
    unfold rwSt at hx
    split at hx
    · split at hx
      · rcases putL_mem hx with e | hx
        · rw [e]
          exact ht
        · exact h.li x hx
      · exact h.li x hx
    · exact h.li x hx
  · have hy : y ∈ (rwSt o.l o.b o.q t rd).2.2 := hy
    unfold rwSt at hy
    split at hy
    · split at hy
      · exact h.qi y hy
      · rcases List.mem_append.1 hy with hy | hy
        · exact h.qi y hy
        · rw [List.mem_singleton] at hy
          rw [hy]
          exact ht
    · exact h.qi y hy
  · have e1 : o.k = 2 := e
    rw [hk] at e1
    cases e1
theorem rwGo_keeps : ∀ (q : List Wt) (L : List Int) (wt : Bool), (rwGo L wt q).2.1.length + (rwGo L wt q).2.2.2.length ≤ L.length + q.length ∧ (∀ x ∈ (rwGo L wt q).2.1, x ∈ L ∨ ∃ y ∈ q, y.1 = x) ∧ ∀ y ∈ (rwGo L wt q).2.2.2, y ∈ q
  | [], L, wt => by simp [rwGo]
  | y :: q, L, wt => by
    rw [rwGo]
    split
    · obtain ⟨h1, h2, h3⟩ := rwGo_keeps q (putL L y.1) (!y.2.1)
      refine ⟨?_, fun x hx => ?_, fun z hz => List.mem_cons_of_mem _ (h3 z hz)⟩
      · rw [putL_length] at h1
        simp only [List.length_cons]
        omega
      · rcases h2 x hx with h | ⟨z, hz, e⟩
        · rcases putL_mem h with e | h
          · exact Or.inr ⟨y, List.mem_cons_self, e.symm⟩
          · exact Or.inl h
        · exact Or.inr ⟨z, List.mem_cons_of_mem _ hz, e⟩
    · exact ⟨Nat.le_refl _, fun x hx => Or.inl hx, fun z hz => hz⟩
theorem ObOk.rwUn (h : ObOk n k o) (hk : o.k = 1) (rd : Bool) : ObOk n (k + 1) (rwUn o t rd) := by
  have h1 := h.ln
  have hd : (dropL o.l t).length ≤ o.l.length := by
    unfold dropL
    exact List.length_filter_le _ _
  have hm : ∀ x ∈ dropL o.l t, x ∈ o.l := fun x hx => by
    unfold dropL at hx
    exact (List.mem_filter.1 hx).1
  obtain ⟨g1, g2, g3⟩ := rwGo_keeps o.q (dropL o.l t) o.b
  refine ⟨?_, fun x hx => ?_, fun y hy => ?_, fun e => ?_⟩
  · show (rwU o.l o.b o.q t rd).2.1.length + (rwU o.l o.b o.q t rd).2.2.2.length ≤ k + 1
    unfold rwU
    split
    · show o.l.length + o.q.length ≤ k + 1
      omega
    · omega
  · have hx : x ∈ (rwU o.l o.b o.q t rd).2.1 := hx
    unfold rwU at hx
    split at hx
    · exact h.li x hx
    · rcases g2 x hx with e | ⟨y, hy, e⟩
      · exact h.li x (hm x e)
      · rw [← e]
        exact h.qi y hy
  · have hy : y ∈ (rwU o.l o.b o.q t rd).2.2.2 := hy
    unfold rwU at hy
    split at hy
    · exact h.qi y hy
    · exact h.qi y (g3 y hy)
  · have e1 : o.k = 2 := e
    rw [hk] at e1
    cases e1
theorem ObOk.grAd (h : ObOk n k o) (hk : o.k = 2) (z : Int) : ObOk n (k + 1) (grAd o z) := by
  have h1 := h.ln
  have h2 := h.gh hk
  refine ⟨?_, fun x hx => ?_, h.qi, fun _ => ?_⟩
  · show (gAL o.h o.l z).length + o.q.length ≤ k + 1
    unfold gAL
    split
    · simp
      omega
    · omega
  · have hx : x ∈ gAL o.h o.l z := hx
    unfold gAL at hx
    split at hx
    · cases hx
    · exact h.li x hx
  · show 0 ≤ gAN o.h z ∧ gAN o.h z ≤ 1073741824
    by_cases h3 : gAZ o.h z = 0
    · have e : gAN o.h z = o.h + z := by unfold gAN; rw [if_pos h3]
      rw [e]
      unfold gAZ at h3
      split at h3
      · exact absurd h3 (by decide)
      · split at h3
        · exact absurd h3 (by decide)
        · omega
    · have e : gAN o.h z = o.h := by unfold gAN; rw [if_neg h3]
      rw [e]
      exact h2
theorem ObOk.grWt (h : ObOk n k o) (hk : o.k = 2) (ht : 0 ≤ t ∧ t < (n : Int)) : ObOk n (k + 1) (grWt o t) := by
  have h1 := h.ln
  refine ⟨?_, fun x hx => ?_, h.qi, fun _ => h.gh hk⟩
  · show (gWL o.h o.l t).length + o.q.length ≤ k + 1
    unfold gWL
    split
    · simp
      omega
    · omega
  · have hx : x ∈ gWL o.h o.l t := hx
    unfold gWL at hx
    split at hx
    · rcases List.mem_append.1 hx with hx | hx
      · exact h.li x hx
      · rw [List.mem_singleton] at hx
        rw [hx]
        exact ht
    · exact h.li x hx
theorem ObOk.onDo (h : ObOk n k o) (hk : o.k = 3) (ht : 0 ≤ t ∧ t < (n : Int)) : ObOk n (k + 1) (onDo o t) := by
  have h1 := h.ln
  refine ⟨?_, fun x hx => ?_, h.qi, fun e => ?_⟩
  · show (oDL o.h o.b o.l t).length + o.q.length ≤ k + 1
    unfold oDL
    split
    · simp
      omega
    · omega
  · have hx : x ∈ oDL o.h o.b o.l t := hx
    unfold oDL at hx
    split at hx
    · rcases List.mem_append.1 hx with hx | hx
      · exact h.li x hx
      · rw [List.mem_singleton] at hx
        rw [hx]
        exact ht
    · exact h.li x hx
  · have e1 : o.k = 2 := e
    rw [hk] at e1
    cases e1
theorem ObOk.onEnd (h : ObOk n k o) (hk : o.k = 3) : ObOk n (k + 1) (onEnd o t) := by
  have h1 := h.ln
  refine ⟨?_, fun x hx => ?_, h.qi, fun e => ?_⟩
  · show (oEL o.h o.l t).length + o.q.length ≤ k + 1
    unfold oEL
    split
    · omega
    · simp
      omega
  · have hx : x ∈ oEL o.h o.l t := hx
    unfold oEL at hx
    split at hx
    · exact h.li x hx
    · cases hx
  · have e1 : o.k = 2 := e
    rw [hk] at e1
    cases e1
end
def TOk (k : Nat) (T : List Tk) : Prop := ∀ t ∈ T, t.ops.length ≤ 65536 ∧ t.pos ≤ t.ops.length ∧ t.runs.length ≤ k
section
variable {k : Nat} {T : List Tk} {L : List (Int × Ob)}
theorem TOk.mono {k' : Nat} (h : TOk k T) (hk : k ≤ k') : TOk k' T := fun t ht => ⟨(h t ht).1, (h t ht).2.1, Nat.le_trans (h t ht).2.2 hk⟩
theorem TOk.at {i : Nat} (h : TOk k T) (hi : i < T.length) : T[i].ops.length ≤ 65536 ∧ T[i].pos ≤ T[i].ops.length ∧ T[i].runs.length ≤ k := h _ (List.getElem_mem hi)
theorem TOk.set {i : Nat} {t : Tk} (h : TOk k T) (ht : t.ops.length ≤ 65536 ∧ t.pos ≤ t.ops.length ∧ t.runs.length ≤ k) : TOk k (T.set i t) := fun x hx => by
  rcases List.mem_or_eq_of_mem_set hx with hx | hx
  · exact h x hx
  · rw [hx]
    exact ht
theorem TOk.wake1 (h : TOk k T) (x : Nat) : TOk k (wake1 T x) := by
  unfold Go.Proofs.Ythhlglbohibekaa.wake1
  split
  · rename_i t ht
    exact h.set (by have := h t (List.mem_of_getElem? ht); exact this)
  · exact h
theorem TOk.wake : ∀ (l : List Int) {T : List Tk}, TOk k T → TOk k (wakeT T l)
  | [], _, h => h
  | x :: l, _, h => TOk.wake l (h.wake1 x.toNat)
theorem TOk.setBl (h : TOk k T) (i : Nat) (b : Bool) : TOk k (setBl T i b) := by
  unfold Go.Proofs.Ythhlglbohibekaa.setBl
  split
  · rename_i t ht
    exact h.set (by have := h t (List.mem_of_getElem? ht); exact this)
  · exact h
def opsL (T : List Tk) : List (List Opx) := T.map (·.ops)
theorem opsL_set {i : Nat} {t : Tk} (hi : i < T.length) (ht : t.ops = T[i].ops) : opsL (T.set i t) = opsL T := by
  unfold opsL
  rw [List.map_set, ht]
  apply List.ext_getElem
  · simp
  · intro j h1 h2
    rw [List.getElem_set]
    split
    · rename_i e
      subst e
      simp
    · rfl
theorem opsL_set? {i : Nat} {t t' : Tk} (h : T[i]? = some t') (ht : t.ops = t'.ops) : opsL (T.set i t) = opsL T := by
  obtain ⟨hi, e⟩ := List.getElem?_eq_some_iff.1 h
  exact opsL_set hi (by rw [ht, e])
theorem opsL_wake1 (T : List Tk) (x : Nat) : opsL (wake1 T x) = opsL T := by
  unfold wake1
  split
  · rename_i t ht
    exact opsL_set? ht rfl
  · rfl
theorem opsL_wake : ∀ (l : List Int) (T : List Tk), opsL (wakeT T l) = opsL T
  | [], _ => rfl
  | x :: l, T => by rw [wakeT, opsL_wake l, opsL_wake1]
theorem opsL_setBl (T : List Tk) (i : Nat) (b : Bool) : opsL (setBl T i b) = opsL T := by
  unfold setBl
  split
  · rename_i t ht
    exact opsL_set? ht rfl
  · rfl
theorem setBl_length (T : List Tk) (i : Nat) (b : Bool) : (setBl T i b).length = T.length := by
  have := congrArg List.length (opsL_setBl T i b)
  unfold opsL at this
  simpa using this
theorem pastL_bounds : ∀ (l : List Opx) (a : Nat) (d : Int), a ≤ pastL l a d ∧ pastL l a d ≤ a + l.length
  | [], a, d => ⟨Nat.le_refl _, by simp [pastL]⟩
  | o :: r, a, d => by
    have := pastL_bounds r (a + 1) (if o.1 = 7 then d + 1 else if o.1 = 8 then d - 1 else d)
    rw [pastL]
    generalize (if o.1 = 7 then d + 1 else if o.1 = 8 then d - 1 else d) = e at *
    split
    · simp
    · simp only [List.length_cons]
      omega
end
structure StOk (k : Nat) (T : List Tk) (L : List (Int × Ob)) : Prop where
  nt : T.length ≤ 65536
  tk : TOk k T
  nl : L.length ≤ k
  ob : ∀ p ∈ L, ObOk T.length k p.2
section
variable {k : Nat} {T : List Tk} {L : List (Int × Ob)}
theorem lkR_ok (h : StOk k T L) (t : Int) (ht : 0 ≤ t ∧ t < (T.length : Int)) (o : Opx) : StOk (k + 1) (lkR T L t o).2.2.1 (lkR T L t o).2.2.2 ∧ opsL (lkR T L t o).2.2.1 = opsL T := by
  have g0 := ObOk.get h.ob 0 o.2.1
  have g1 := ObOk.get h.ob 1 o.2.1
  have k0 := (obG_at L 0 o.2.1).2
  have k1 := (obG_at L 1 o.2.1).2
  have nl : ∀ j x, (obPut L j o.2.1 x).length ≤ k + 1 := fun j x => by have := obPut_len L j o.2.1 x; have := h.nl; omega
  unfold lkR
  split
  · exact ⟨⟨h.nt, h.tk.mono (Nat.le_succ _), nl _ _, ObOk.put h.ob 0 _ (g0.mxLk k0 ht)⟩, rfl⟩
  split
  · exact ⟨⟨h.nt, h.tk.mono (Nat.le_succ _), nl _ _, ObOk.put h.ob 1 _ (g1.rwLk k1 ht _)⟩, rfl⟩
  split
  · have hb := ObOk.put (j := 0) (num := o.2.1) h.ob (o := mxUn (obG L 0 o.2.1) t) (g0.mxUn k0)
    by_cases hc : unZ (obG L 0 o.2.1).h t = 0 ∧ 0 ≤ unN (obG L 0 o.2.1).h (obG L 0 o.2.1).l t
    · simp only [if_pos hc]
      exact ⟨⟨by rw [wakeT_length]; exact h.nt, TOk.wake _ (h.tk.mono (Nat.le_succ _)), nl _ _, by rw [wakeT_length]; exact hb⟩, opsL_wake _ _⟩
    · rw [if_neg hc]
      exact ⟨⟨h.nt, h.tk.mono (Nat.le_succ _), nl _ _, hb⟩, rfl⟩
  split
  · have hb := ObOk.put (j := 1) (num := o.2.1) h.ob (o := rwUn (obG L 1 o.2.1) t (decide (o.1 = 4))) (g1.rwUn k1 _)
    exact ⟨⟨by rw [wakeT_length]; exact h.nt, TOk.wake _ (h.tk.mono (Nat.le_succ _)), nl _ _, by rw [wakeT_length]; exact hb⟩, opsL_wake _ _⟩
  · exact ⟨⟨h.nt, h.tk.mono (Nat.le_succ _), Nat.le_succ_of_le h.nl, fun p hp => (h.ob p hp).mono (Nat.le_succ _)⟩, rfl⟩
theorem ocR_ok (h : StOk k T L) (i : Nat) (hi : i < T.length) (o : Opx) : StOk (k + 1) (ocR T L i o).2.2.1 (ocR T L i o).2.2.2 ∧ opsL (ocR T L i o).2.2.1 = opsL T := by
  have g3 := ObOk.get h.ob 3 o.2.1
  have k3 := (obG_at L 3 o.2.1).2
  have nl : ∀ j x, (obPut L j o.2.1 x).length ≤ k + 1 := fun j x => by have := obPut_len L j o.2.1 x; have := h.nl; omega
  have ht : 0 ≤ (i : Int) ∧ (i : Int) < (T.length : Int) := by omega
  obtain ⟨q1, q2, q3⟩ := h.tk.at hi
  have hsk : StOk (k + 1) T L := ⟨h.nt, h.tk.mono (Nat.le_succ _), Nat.le_succ_of_le h.nl, fun p hp => (h.ob p hp).mono (Nat.le_succ _)⟩
  have hdo := ObOk.put (j := 3) (num := o.2.1) h.ob (o := onDo (obG L 3 o.2.1) (i : Int)) (g3.onDo k3 ht)
  unfold ocR
  rw [List.getElem?_eq_getElem hi]
  simp only
  split
  · split
    · have hb := ObOk.put (j := 3) (num := o.2.1) h.ob (o := onEnd (obG L 3 o.2.1) (i : Int)) (g3.onEnd k3)
      refine ⟨⟨by rw [wakeT_length, List.length_set]; exact h.nt, TOk.wake _ ((h.tk.mono (Nat.le_succ _)).set ⟨q1, q2, ?_⟩), nl _ _, by rw [wakeT_length, List.length_set]; exact hb⟩, ?_⟩
      · show (T[i].runs.dropLast).length ≤ k + 1
        rw [List.length_dropLast]
        omega
      · rw [opsL_wake]
        exact opsL_set hi rfl
    · exact ⟨hsk, rfl⟩
  split
  · exact ⟨⟨h.nt, h.tk.mono (Nat.le_succ _), nl _ _, hdo⟩, rfl⟩
  · by_cases hr : oDR (obG L 3 o.2.1).h (obG L 3 o.2.1).b (obG L 3 o.2.1).l (i : Int) = true
    · simp only [if_pos hr]
      refine ⟨⟨by rw [List.length_set]; exact h.nt, (h.tk.mono (Nat.le_succ _)).set ⟨q1, q2, ?_⟩, nl _ _, by rw [List.length_set]; exact hdo⟩, opsL_set hi rfl⟩
      show (T[i].runs ++ [o.2.1]).length ≤ k + 1
      simp
      omega
    · simp only [if_neg hr]
      refine ⟨⟨by rw [List.length_set]; exact h.nt, (h.tk.mono (Nat.le_succ _)).set ⟨q1, ?_, Nat.le_succ_of_le q3⟩, nl _ _, by rw [List.length_set]; exact hdo⟩, opsL_set hi rfl⟩
      show pastL (T[i].ops.drop T[i].pos) T[i].pos 1 ≤ T[i].ops.length
      have := (pastL_bounds (T[i].ops.drop T[i].pos) T[i].pos 1).2
      rw [List.length_drop] at this
      omega
theorem acR_ok (h : StOk k T L) (i : Nat) (hi : i < T.length) (o : Opx) : StOk (k + 1) (acR T L i o).2.2.1 (acR T L i o).2.2.2 ∧ opsL (acR T L i o).2.2.1 = opsL T := by
  have g2 := ObOk.get h.ob 2 o.2.1
  have k2 := (obG_at L 2 o.2.1).2
  have nl : ∀ j x, (obPut L j o.2.1 x).length ≤ k + 1 := fun j x => by have := obPut_len L j o.2.1 x; have := h.nl; omega
  have ht : 0 ≤ (i : Int) ∧ (i : Int) < (T.length : Int) := by omega
  unfold acR
  split
  · exact ⟨⟨h.nt, h.tk.mono (Nat.le_succ _), Nat.le_succ_of_le h.nl, fun p hp => (h.ob p hp).mono (Nat.le_succ _)⟩, rfl⟩
  split
  · have hb := ObOk.put (j := 2) (num := o.2.1) h.ob (o := grAd (obG L 2 o.2.1) o.2.2) (g2.grAd k2 _)
    exact ⟨⟨by rw [wakeT_length]; exact h.nt, TOk.wake _ (h.tk.mono (Nat.le_succ _)), nl _ _, by rw [wakeT_length]; exact hb⟩, opsL_wake _ _⟩
  split
  · exact ⟨⟨h.nt, h.tk.mono (Nat.le_succ _), nl _ _, ObOk.put h.ob 2 _ (g2.grWt k2 ht)⟩, rfl⟩
  split
  · exact ocR_ok h i hi o
  · exact lkR_ok h _ ht o
theorem stR_ok (h : StOk k T L) (i : Nat) : StOk (k + 1) (stR T L i).2.1 (stR T L i).2.2 ∧ opsL (stR T L i).2.1 = opsL T := by
  have hsk : StOk (k + 1) T L := ⟨h.nt, h.tk.mono (Nat.le_succ _), Nat.le_succ_of_le h.nl, fun p hp => (h.ob p hp).mono (Nat.le_succ _)⟩
  unfold stR
  split
  · exact ⟨hsk, rfl⟩
  · rename_i t ht
    obtain ⟨hi, rfl⟩ := List.getElem?_eq_some_iff.1 ht
    split
    · exact ⟨hsk, rfl⟩
    · rename_i o ho
      have hp := (List.getElem?_eq_some_iff.1 ho).1
      obtain ⟨q1, q2, q3⟩ := h.tk.at hi
      have h1 : StOk k (T.set i { T[i] with pos := T[i].pos + 1 }) L := ⟨by rw [List.length_set]; exact h.nt, h.tk.set ⟨q1, hp, q3⟩, h.nl, by rw [List.length_set]; exact h.ob⟩
      obtain ⟨a1, a2⟩ := acR_ok h1 i (by rw [List.length_set]; exact hi) o
      refine ⟨⟨by rw [setBl_length]; exact a1.nt, a1.tk.setBl _ _, a1.nl, by rw [setBl_length]; exact a1.ob⟩, ?_⟩
      rw [opsL_setBl, a2]
      exact opsL_set hi rfl
end
end Go.Proofs.Ythhlglbohibekaa
namespace Go.Proofs.Ythhlglbohibekaa
open Go.RowKit

def tkNew (o : List Opx) : Tk := ⟨o, 0, false, []⟩
def oneC (x : Value) : List Value := [x]
theorem oneC_len (x : Value) : (oneC x).length = 1 := rfl
structure TasksAt (w : World) (v : Value) (ts : List (List Opx)) : Prop where
  ex : ∃ vs : List Value, vs.length = ts.length ∧ RowAt oneC w v vs ∧ ∀ i (_ : i < vs.length) (_ : i < ts.length), RowAt opC w vs[i] ts[i]
theorem TasksAt.fresh {w w' : World} {v : Value} {ts : List (List Opx)} (h : TasksAt w v ts) (k : Below w.heap.size w w') : TasksAt w' v ts := by
  obtain ⟨vs, h1, h2, h3⟩ := h.ex
  exact ⟨vs, h1, h2.fresh k, fun i a b => (h3 i a b).fresh k⟩
theorem TasksAt.form {w : World} {v : Value} {ts : List (List Opx)} (h : TasksAt w v ts) : ∃ a cap, v = .slice a ts.length cap := by
  obtain ⟨vs, h1, h2, _⟩ := h.ex
  obtain ⟨a, cap, e⟩ := h2.form
  exact ⟨a, cap, by rw [e, h1]⟩
theorem TasksAt.cells {w : World} {v : Value} {ts : List (List Opx)} (h : TasksAt w v ts) (h0 : 0 < ts.length) : ∃ bk off cap, v = .slice (some ⟨bk, off, none⟩) ts.length cap ∧ bk < w.heap.size ∧ ∀ i (hi : i < ts.length), ∃ a c, w.cell? ⟨bk, off + i, none⟩ = some (.slice a ts[i].length c) ∧ RowAt opC w (.slice a ts[i].length c) ts[i] := by
  obtain ⟨vs, h1, h2, h3⟩ := h.ex
  obtain ⟨bk, off, cap, e, _, hb, hx⟩ := h2.cells oneC_len (by omega)
  refine ⟨bk, off, cap, by rw [e, h1], hb, fun i hi => ?_⟩
  have h4 := h3 i (by omega) hi
  obtain ⟨a, c, e4⟩ := h4.form
  refine ⟨a, c, ?_, by rw [← e4]; exact h4⟩
  have h5 := hx i (by omega) 0 vs[i] (by decide) rfl
  rw [e4] at h5
  simpa using h5
theorem opC_one (x : Opx) : ∀ u ∈ opC x, u.oneCell' = true := fun u hu => by
  simp only [opC, List.mem_cons, List.not_mem_nil, or_false] at hu
  rcases hu with rfl | rfl | rfl <;> rfl
theorem infoP3 : (Try.prog.info? 45).map (fun i => (i.zero, i.size, i.bytes)) = some (some (.agg #[.int .i64 0, .int .i64 0, .int .i64 0]), 3, 24) := by kernel_rfl
theorem infoT4 : (Try.prog.info? TkT).map (fun i => (i.zero, i.size, i.bytes)) = some (some (.agg #[.slice none 0 0, .int .i64 0, .bool false, .slice none 0 0]), 4, 64) := by kernel_rfl
section
variable {w w1 w3 : World} {base D : Nat} {ro : Nat → Option Nat} {vT vL u uo : Value} {tv : List Tv} {T : List Tk} {ops : List Opx}
theorem SkAt.addTask (h : SkAt w base D ro vT vL tv [] T []) (b1 : Below w.heap.size w w1) (ho : Slid opC 3 45 w1 uo ops) (hon : ∀ g, uo.ownBlock = some g → w.heap.size ≤ g) (x : Obj) (h3 : Slid tkC 4 TkT w3 u (tv.zip T ++ [((uo, .slice none 0 0), tkNew ops)])) (g3 : (w1.alloc x).grownBy w3 vT.ownBlock) (l3 : u.ownBlock = vT.ownBlock ∨ u.ownBlock = some (w1.alloc x).heap.size) :
    ∃ ro', SkAt (w3.setCell ⟨D, 0, none⟩ u) base D ro' u vL (tv ++ [(uo, .slice none 0 0)]) [] (T ++ [tkNew ops]) [] ∧ Below base w (w3.setCell ⟨D, 0, none⟩ u) := by
  have hDl := lt_of_block h.hd
  have hs1 := b1.size
  have hs3 : w1.heap.size + 1 ≤ w3.heap.size := by have := g3.size; simpa using this
  have hvD : vT.ownBlock ≠ some D := h.ts.at'.ne h.hd (by decide)
  have hvl : ∀ g, vT.ownBlock = some g → g < w.heap.size := fun g hg => h.ts.at'.lt hg
  have hot : ∀ c, c ≠ D → (w3.setCell ⟨D, 0, none⟩ u).heap[c]? = w3.heap[c]? := fun c hc => heap_setCell_other _ _ _ _ (by simpa using hc)
  have hb1 : ∀ c, c < w1.heap.size → vT.ownBlock ≠ some c → w3.heap[c]? = w1.heap[c]? := fun c hc hn => by
    rw [g3.block c (by simp; omega) (fun e => hn e.symm), Below.heap_alloc w1 x c hc]
  have hb3 : ∀ c, c < w.heap.size → vT.ownBlock ≠ some c → w3.heap[c]? = w.heap[c]? := fun c hc hn => by
    rw [hb1 c (by omega) hn, b1.block c hc]
  have hD3 : w3.heap[D]? = some (.cells #[vT, vL] SkT (0, 0)) := (hb3 D hDl hvD).trans h.hd
  have hD4 : (w3.setCell ⟨D, 0, none⟩ u).heap[D]? = some (.cells #[u, vL] SkT (0, 0)) := by
    rw [heap_setCell_same w3 D 0 _ _ _ hD3]
    rfl
  have huD : u.ownBlock ≠ some D := h3.ne hD3 (by decide)
  have hnew : ∀ g, u.ownBlock = some g → vT.ownBlock = some g ∨ w.heap.size ≤ g := fun g hg => by
    rcases l3 with l3 | l3
    · left
      rw [← l3]
      exact hg
    · right
      rw [hg] at l3
      have := Option.some.inj l3
      simp at this
      omega
  have hbase := (h.bd D (by rw [h.sD]; simp)).1
  have hm : ∀ {α : Type} {enc : α → List Value} {k : Nat} {E : TypeId} {v : Value} {l : List α}, E ≠ TkT → E ≠ SkT → Mine enc k E w ro v l → Mine enc k E (w3.setCell ⟨D, 0, none⟩ u) (fun b => if uo.ownBlock = some b ∨ u.ownBlock = some b then some 0 else ro b) v l := fun hE hE2 hM => hM.keep (fun g cs fr hg hr => by
    have hgl := lt_of_block hg
    refine ⟨?_, ?_⟩
    · rw [hot g (fun e => by
        rw [e, h.hd] at hg
        simp only [Option.some.injEq, Obj.cells.injEq] at hg
        exact hE2 hg.2.1.symm)]
      exact hb3 g hgl (fun e => by
        obtain ⟨cur, hc⟩ := h.ts.at'.block e
        rw [hg] at hc
        simp only [Option.some.injEq, Obj.cells.injEq] at hc
        exact hE hc.2.1)
    · show (if _ then some 0 else ro g) = some 0
      split
      · rfl
      · exact hr)
  have htl := h.tl
  have hzip : (tv ++ [(uo, Value.slice none 0 0)]).zip (T ++ [tkNew ops]) = tv.zip T ++ [((uo, .slice none 0 0), tkNew ops)] := by
    rw [List.zip_append htl]
    rfl
  have hoU : ∀ g, uo.ownBlock = some g → (w3.setCell ⟨D, 0, none⟩ u).heap[g]? = w1.heap[g]? := fun g hg => by
    have h8 := hon g hg
    rw [hot g (by omega), hb1 g (ho.lt hg) (fun e => by have := hvl g e; omega)]
  refine ⟨fun b => if uo.ownBlock = some b ∨ u.ownBlock = some b then some 0 else ro b, ⟨hD4, by simp [htl], rfl, ⟨?_, fun g hg => if_pos (Or.inr hg)⟩, hm (by decide) (by decide) h.os, fun i h1 h2 => ?_, fun i h1 h2 => ?_, fun i h1 _ => absurd h1 (Nat.not_lt_zero _), ?_, fun b hb => ?_, fun b j hj => ?_⟩, ⟨g3.os.trans b1.os, g3.tape.trans b1.tape, g3.output.trans b1.output, by simp; omega, fun b hb => ?_⟩⟩
  · rw [hzip]
    exact h3.keep (fun g hg => hot g (fun e => huD (by rw [hg, e])))
  · by_cases hi : i < T.length
    · rw [List.getElem_append_left (by omega : i < tv.length), List.getElem_append_left hi]
      exact hm (by decide) (by decide) (h.op i (by omega) hi)
    · have hie : i = T.length := by
        rw [List.length_append] at h2
        simp at h2
        omega
      subst hie
      rw [List.getElem_append_right (by omega), List.getElem_append_right (by omega)]
      simp only [htl, Nat.sub_self, List.getElem_singleton]
      exact ⟨ho.keep hoU, fun g hg => if_pos (Or.inl hg)⟩
  · by_cases hi : i < T.length
    · rw [List.getElem_append_left (by omega : i < tv.length), List.getElem_append_left hi]
      exact hm (by decide) (by decide) (h.ru i (by omega) hi)
    · have hie : i = T.length := by
        rw [List.length_append] at h2
        simp at h2
        omega
      subst hie
      rw [List.getElem_append_right (by omega), List.getElem_append_right (by omega)]
      simp only [htl, Nat.sub_self, List.getElem_singleton]
      exact ⟨Slid.nil _, fun g hg => by simp [Value.ownBlock] at hg⟩
  · show (if _ then some 0 else ro D) = some 0
    split
    · rfl
    · exact h.sD
  · have hsz : (w3.setCell ⟨D, 0, none⟩ u).heap.size = w3.heap.size := by simp
    rw [hsz]
    by_cases h8 : uo.ownBlock = some b ∨ u.ownBlock = some b
    · rcases h8 with h8 | h8
      · have := hon b h8
        have := ho.lt h8
        omega
      · have h9 := h3.lt h8
        rcases hnew b h8 with h10 | h10
        · have := (h.bd b (by rw [h.ts.own b h10]; simp)).1
          omega
        · omega
    · rw [if_neg h8] at hb
      have := h.bd b hb
      omega
  · split at hj
    · have := Option.some.inj hj
      omega
    · exact h.rb b j hj
  · have hbl : b < w.heap.size := by omega
    rw [hot b (by omega)]
    exact hb3 b hbl (fun e => by
      have := (h.bd b (by rw [h.ts.own b e]; simp)).1
      omega)
end
section
variable {P : Program} {md : Region.Mode} {Q : Exit → Act → World → Prop} {S : World → Prop} {fuel : Nat} {listed : Array Bool} {a : Act} {w : World} {l : List Oper}
theorem rd4_9 {o0 o1 o2 o3 o4 o5 o6 o7 o8 o9 : Oper} (hr : Region.ready md (o0 :: o1 :: o2 :: o3 :: o4 :: o5 :: o6 :: o7 :: o8 :: o9 :: l).toArray listed = [4, 9]) (hw0 : Region.wanted o4 (yielded (o0 :: o1 :: o2 :: o3 :: o4 :: o5 :: o6 :: o7 :: o8 :: o9 :: l).toArray a.tmps) = true) (hw1 : Region.wanted o9 (yielded (o0 :: o1 :: o2 :: o3 :: o4 :: o5 :: o6 :: o7 :: o8 :: o9 :: l).toArray a.tmps) = true)
    (h0 : ∀ K' : Act → World → Prop, Shut (∀ a w, S w → (S w → wpAnyH P md (o0 :: o1 :: o2 :: o3 :: o4 :: o5 :: o6 :: o7 :: o8 :: o9 :: l).toArray Q S fuel (listed.setIfInBounds 4 true) a w) → K' a w) → Oper.wp P o4 a w K' Q)
    (h1 : ∀ K' : Act → World → Prop, Shut (∀ a w, S w → (S w → wpAnyH P md (o0 :: o1 :: o2 :: o3 :: o4 :: o5 :: o6 :: o7 :: o8 :: o9 :: l).toArray Q S fuel (listed.setIfInBounds 9 true) a w) → K' a w) → Oper.wp P o9 a w K' Q) : wpAnyH P md (o0 :: o1 :: o2 :: o3 :: o4 :: o5 :: o6 :: o7 :: o8 :: o9 :: l).toArray Q S (fuel + 1) listed a w :=
  wpAnyH_ready hr (by simp) (AllReadyH.cons (o := o4) rfl (fun K hK => by rw [if_pos hw0]; exact h0 K hK) (AllReadyH.cons (o := o9) rfl (fun K hK => by rw [if_pos hw1]; exact h1 K hK) AllReadyH.nil))
theorem rd4_11 {o0 o1 o2 o3 o4 o5 o6 o7 o8 o9 o10 o11 : Oper} (hr : Region.ready md (o0 :: o1 :: o2 :: o3 :: o4 :: o5 :: o6 :: o7 :: o8 :: o9 :: o10 :: o11 :: l).toArray listed = [4, 11]) (hw0 : Region.wanted o4 (yielded (o0 :: o1 :: o2 :: o3 :: o4 :: o5 :: o6 :: o7 :: o8 :: o9 :: o10 :: o11 :: l).toArray a.tmps) = true) (hw1 : Region.wanted o11 (yielded (o0 :: o1 :: o2 :: o3 :: o4 :: o5 :: o6 :: o7 :: o8 :: o9 :: o10 :: o11 :: l).toArray a.tmps) = true)
    (h0 : ∀ K' : Act → World → Prop, Shut (∀ a w, S w → (S w → wpAnyH P md (o0 :: o1 :: o2 :: o3 :: o4 :: o5 :: o6 :: o7 :: o8 :: o9 :: o10 :: o11 :: l).toArray Q S fuel (listed.setIfInBounds 4 true) a w) → K' a w) → Oper.wp P o4 a w K' Q)
    (h1 : ∀ K' : Act → World → Prop, Shut (∀ a w, S w → (S w → wpAnyH P md (o0 :: o1 :: o2 :: o3 :: o4 :: o5 :: o6 :: o7 :: o8 :: o9 :: o10 :: o11 :: l).toArray Q S fuel (listed.setIfInBounds 11 true) a w) → K' a w) → Oper.wp P o11 a w K' Q) : wpAnyH P md (o0 :: o1 :: o2 :: o3 :: o4 :: o5 :: o6 :: o7 :: o8 :: o9 :: o10 :: o11 :: l).toArray Q S (fuel + 1) listed a w :=
  wpAnyH_ready hr (by simp) (AllReadyH.cons (o := o4) rfl (fun K hK => by rw [if_pos hw0]; exact h0 K hK) (AllReadyH.cons (o := o11) rfl (fun K hK => by rw [if_pos hw1]; exact h1 K hK) AllReadyH.nil))
end
section
variable {w : World} {v : Value} {ts : List (List Opx)}
set_option maxHeartbeats 6400000 in
set_option maxRecDepth 100000 in
theorem sk_newT (h : TasksAt w v ts) (hn : ts.length ≤ 65536) (hl : ∀ o ∈ ts, o.length ≤ 65536) : Calls Try.prog 12 #[v] w fun e w' => ∃ D ro vT tv, e = .returned (.pointer (some ⟨D, 0, none⟩)) ∧ SkAt w' w.heap.size D ro vT (.slice none 0 0) tv [] (ts.map tkNew) [] ∧ Below w.heap.size w w' := by
  obtain ⟨i0, hi, hz0, hz1, hz2⟩ := info_parts infoT4
  obtain ⟨i1, hi1, hz10, hz11, hz12⟩ := info_parts infoP3
  obtain ⟨av, cv, rfl⟩ := h.form
  have HTA : Hid (TasksAt w (.slice av ts.length cv) ts) := h
  have hst : SkAt (w.alloc (.cells #[.slice none 0 0, .slice none 0 0] SkT)) w.heap.size w.heap.size (fun b => if b = w.heap.size then some 0 else none) (.slice none 0 0) (.slice none 0 0) [] [] [] [] := by
    refine ⟨heap_alloc_new w _, rfl, rfl, ⟨Slid.nil _, fun g hg => (by simp [Value.ownBlock] at hg)⟩, ⟨Slid.nil _, fun g hg => (by simp [Value.ownBlock] at hg)⟩, fun i h1 _ => absurd h1 (Nat.not_lt_zero _), fun i h1 _ => absurd h1 (Nat.not_lt_zero _), fun i h1 _ => absurd h1 (Nat.not_lt_zero _), if_pos rfl, fun b hb => ?_, fun b j hj => ?_⟩
    · by_cases e : b = w.heap.size
      · subst e
        simp
      · rw [if_neg e] at hb
        exact absurd rfl hb
    · split at hj
      · have := Option.some.inj hj
        omega
      · cases hj
  have HST : Hid _ := hst
  have HB0 : Hid _ := (Below.refl _ w).alloc (Nat.le_refl _) (.cells #[.slice none 0 0, .slice none 0 0] SkT)
  clear h hst
  go_enter Try.func12, Try.ntmps12
  go_wp2
  go_loopw [4] (fun i wr => ∃ (k : Nat) (ro : Nat → Option Nat) (vT : Value) (tv : List Tv) (T : List Tk), k ≤ ts.length ∧ T.length = k ∧ i = .int .i64 k ∧ SkAt wr w.heap.size w.heap.size ro vT (.slice none 0 0) tv [] T [] ∧ T = (ts.take k).map tkNew ∧ Below w.heap.size w wr) (fun i _ => ts.length - (RowKit.intOf i).toNat)
  case atStart => exact ⟨0, _, _, _, [], Nat.zero_le _, rfl, rfl, HST.out, by simp, HB0.out⟩
  case round =>
    obtain ⟨k, ro, vT, tv, T, hk, hTk, rfl, hS, hT, bel⟩ := hrel
    by_cases hkl : k < ts.length
    · have q0 : decide ((k : Int) < (ts.length : Int)) = true := decide_eq_true (by omega)
      obtain ⟨⟨aT, cT, rfl⟩, _, c0, _, f0, _, hBl⟩ := hS.cells
      obtain ⟨bk, off, cap, ev, hbk, hx⟩ := HTA.out.cells (by omega)
      simp only [Value.slice.injEq] at ev
      obtain ⟨rfl, _, rfl⟩ := ev
      obtain ⟨ai, ci, hc, hr⟩ := hx k hkl
      have hlk := hl ts[k] (List.getElem_mem hkl)
      have hbB : bk < w.heap.size := by exact hbk
      have hbD : bk ≠ w.heap.size := by omega
      have HC : Hid (wr.drew.cell? ⟨bk, off + k, none⟩ = some (.slice ai ts[k].length ci)) := (bel.cell (p := ⟨bk, off + k, none⟩) (by exact hbB)).trans hc
      have HR : Hid (RowAt opC wr.drew (.slice ai ts[k].length ci) ts[k]) := by
        have h1 : RowAt opC wr (.slice ai ts[k].length ci) ts[k] := hr.fresh bel
        exact h1.keep (Nat.le_refl _) (fun _ _ _ _ _ _ => rfl)
      have hcd : wr.drew.cell? ⟨w.heap.size, 0, none⟩ = some (.slice aT T.length cT) := c0
      have hS9 : SkAt wr.drew w.heap.size w.heap.size ro (.slice aT T.length cT) (.slice none 0 0) tv [] T [] := hS.keep (Nat.le_refl _) (fun _ _ => rfl)
      have HZ : Hid ((tv.zip T).length = T.length) := by
        show _ = _
        rw [List.length_zip, hS.tl, Nat.min_self]
      have hvB : Value.ownBlock (.slice aT T.length cT) ≠ some w.heap.size := hS9.ts.at'.ne hS9.hd (by decide)
      have hvb : Value.ownBlock (.slice aT T.length cT) ≠ some bk := fun e => by
        have := (hS9.bd bk (by rw [hS9.ts.own bk e]; simp)).1
        omega
      have hBl9 : w.heap.size < wr.drew.heap.size := hBl
      have YD : Hid (∀ w5 : World, Below wr.drew.heap.size wr.drew w5 → w5.cell? ⟨w.heap.size, 0, none⟩ = some (.slice aT T.length cT)) := fun w5 b5 => (b5.cell (p := ⟨w.heap.size, 0, none⟩) (by exact hBl9)).trans hcd
      have YA : Hid (∀ w5 : World, Below wr.drew.heap.size wr.drew w5 → ∀ o, (w5.alloc o).cell? ⟨w.heap.size, 0, none⟩ = some (.slice aT T.length cT)) := fun w5 b5 o => ((b5.alloc b5.size o).cell (p := ⟨w.heap.size, 0, none⟩) (by exact hBl9)).trans hcd
      have HCB : Hid (∀ w5 : World, Below wr.drew.heap.size wr.drew w5 → w5.cell? ⟨bk, off + k, none⟩ = some (.slice ai ts[k].length ci) ∧ ∀ o, (w5.alloc o).cell? ⟨bk, off + k, none⟩ = some (.slice ai ts[k].length ci)) := fun w5 b5 => ⟨(b5.cell (p := ⟨bk, off + k, none⟩) (by show bk < _; omega)).trans HC.out, fun o => ((b5.alloc b5.size o).cell (p := ⟨bk, off + k, none⟩) (by show bk < _; omega)).trans HC.out⟩
      have HSL : Hid (∀ w5 : World, Below wr.drew.heap.size wr.drew w5 → ∀ o, Slid tkC 4 TkT (w5.alloc o) (.slice aT T.length cT) (tv.zip T)) := fun w5 b5 o => hS9.ts.at'.keep (fun g hg => (b5.alloc b5.size o).block g (hS9.ts.at'.lt hg))
      have HW : Hid (∀ w5 : World, Below wr.drew.heap.size wr.drew w5 → ∀ (o : Obj) (w6 : World), (w5.alloc o).grownBy w6 (Value.ownBlock (.slice aT T.length cT)) → w6.cell? ⟨w.heap.size, 0, none⟩ = some (.slice aT T.length cT) ∧ w6.frozen? ⟨w.heap.size, 0, none⟩ = false ∧ w6.cell? ⟨bk, off + k, none⟩ = some (.slice ai ts[k].length ci)) := fun w5 b5 o w6 g6 => by
        have hb5 := b5.alloc b5.size o
        have s5 := hb5.size
        have e1 : w6.heap[w.heap.size]? = some (.cells #[.slice aT T.length cT, .slice none 0 0] SkT (0, 0)) := by rw [g6.block w.heap.size (by omega) (fun e => hvB e.symm), hb5.block w.heap.size hBl9]; exact hS9.hd
        have e2 : w6.heap[bk]? = wr.drew.heap[bk]? := by rw [g6.block bk (by omega) (fun e => hvb e.symm), hb5.block bk (by omega)]
        exact ⟨by simp [World.cell?, e1], by simp [World.frozen?, e1], (World.cell?_of_block (a := ⟨bk, off + k, none⟩) e2).trans HC.out⟩
      have HFIN : Hid (∀ (uo : Value) (w5 : World), Below wr.drew.heap.size wr.drew w5 → w5.ownsRow wr.drew.heap.size 45 3 uo (0 + ts[k].length) ([] ++ rowL opC ts[k]) → ∀ (o : Obj) (u : Value) (w6 : World), Slid tkC 4 TkT w6 u (tv.zip T ++ [((uo, .slice none 0 0), tkNew ts[k])]) → (w5.alloc o).grownBy w6 (Value.ownBlock (.slice aT T.length cT)) → (u.ownBlock = Value.ownBlock (.slice aT T.length cT) ∨ u.ownBlock = some (w5.heap.size + 1)) → ∃ ro', SkAt (w6.setCell ⟨w.heap.size, 0, none⟩ u) w.heap.size w.heap.size ro' u (.slice none 0 0) (tv ++ [(uo, .slice none 0 0)]) [] (T ++ [tkNew ts[k]]) [] ∧ Below w.heap.size w (w6.setCell ⟨w.heap.size, 0, none⟩ u)) := fun uo w5 b5 h5 o u w6 h6 g6 l6 => by
        have e5 : w5.ownsRow wr.drew.heap.size 45 3 uo ts[k].length (rowL opC ts[k]) := by simpa using h5
        obtain ⟨ro', k1, k2⟩ := hS9.addTask b5 (Slid.own e5) (fun g hg => (e5.lt g hg).1) o h6 g6 (by simpa using l6)
        exact ⟨ro', k1, bel.drew.trans k2⟩
      have HTK : Hid (T ++ [tkNew ts[k]] = (ts.take (k + 1)).map tkNew) := by
        show _ = _
        rw [hT, List.take_succ_eq_append_getElem hkl, List.map_append]
        rfl
      clear hS hS9 hx hr hc hT HTA
      have hTl : T.length ≤ 65536 := by omega
      have HTk : Hid (T.length = k) := hTk
      clear hTk
      go_wp2
      refine wp_region_held_drew (S := (fun w' : World => w'.cell? ⟨bk, off + k, none⟩ = some (.slice ai ts[k].length ci))) (by kernel_rfl) ?_ (fun hHeld0 => ?_)
      · exact HC.out
      generalize wr.drew = w9 at *
      clear hHeld0
      have hHeld0 := HC.out
      refine tk0 (.pointer (some ⟨w.heap.size, 0, none⟩)) ?_
      try simp only [Act.put, pu1, pu2, pu3]
      refine tk1 (.pointer (some ⟨w.heap.size, 0, none⟩)) ?_
      try simp only [Act.put, pu1, pu2, pu3]
      refine tk2 (.pointer (some ⟨w.heap.size, 0, none⟩)) ?_
      try simp only [Act.put, pu1, pu2, pu3]
      refine tk3 (.pointer (some ⟨w.heap.size, 0, none⟩)) ?_
      try simp only [Act.put, pu1, pu2, pu3]
      refine tk5 (.slice (some ⟨bk, off, none⟩) ts.length cv) ?_
      try simp only [Act.put, pu1, pu2, pu3]
      refine tk6 (.int .i64 k) ?_
      try simp only [Act.put, pu1, pu2, pu3]
      refine tk7 (.pointer (some ⟨bk, off + k, none⟩)) ?_
      try simp only [Act.put, pu1, pu2, pu3]
      refine tk8 (.slice ai ts[k].length ci) ?_
      try simp only [Act.put, pu1, pu2, pu3]
      refine rd4_9 (by kernel_rfl) rfl rfl (fun K hK => ?_) (fun K hK => ?_)
      · go_simp
        refine hK.out _ _ ?_ (fun hHeld => ?_)
        · first | exact HC.out | exact (HCB.out w5 bb5).2 _ | exact (HCB.out w5 bb5).1
        clear hK K
        try simp only [Act.put, pu1, pu2, pu3]
        refine cl9 (by kernel_rfl) rfl (fun K hK => ?_)
        refine wp_app_row (l := ts[k]) (enc := opC) (k := 3) (.const (.slice none 0 0)) (.tmp 21) 47 45 rfl i1 _ 24 Try.underlying47 hi1 hz10 hz11 hz12 rfl (by decide) opC_len opC_one rfl rfl (World.ownsRow_nil w9 w9.heap.size _ _) HR.out (Nat.le_refl _) (by omega) (by omega) ?_
        intro u5 w5 h5 a5
        obtain ⟨po, no, co, rfl⟩ := own_form h5
        have H5 : Hid _ := h5
        clear h5
        have bb5 : Below w9.heap.size w9 w5 := a5.below
        clear a5
        refine hK.out _ _ ?_ (fun hHeld => ?_)
        · exact (HCB.out w5 bb5).1
        clear hK K
        try simp only [Act.put, pu1, pu2, pu3]
        refine tk10 (.agg #[.slice po no co, .int .i64 0, .bool false, .slice none 0 0]) ?_
        try simp only [Act.put, pu1, pu2, pu3]
        refine cl11 (by kernel_rfl) rfl (fun K hK => ?_)
        go_simp
        refine hK.out _ _ ?_ (fun hHeld => ?_)
        · exact (HCB.out w5 bb5).2 _
        clear hK K
        try simp only [Act.put, pu1, pu2, pu3]
        refine cl12 (by kernel_rfl) rfl (fun K hK => ?_)
        refine wp_app_slidM (v := .slice aT T.length cT) (k := 4) (enc := tkC) (l := tv.zip T) (m := [((.slice po no co, .slice none 0 0), tkNew ts[k])]) (.tmp 17) (.tmp 24) 61 rfl i0 _ 64 Try.underlying61 hi hz0 hz1 hz2 rfl tkC_len (by intro u hu; simp only [rowL, tkC, List.flatMap_cons, List.flatMap_nil, List.append_nil, List.mem_cons, List.not_mem_nil, or_false] at hu; rcases hu with rfl | rfl | rfl | rfl <;> rfl) rfl (HSL.out w5 bb5 _) ⟨w5.heap.size, 0, none⟩ 1 1 rfl rfl (by exact World.news_of_block (heap_alloc_new w5 _)) (by simp) (by unfold maxLen; rw [HZ.out]; simp; omega) (by rw [HZ.out]; simp; omega) ?_
        intro u6 w6 h6 g6 l6
        obtain ⟨y6, x6, s6⟩ := HW.out w5 bb5 _ w6 g6
        obtain ⟨p6, c6, rfl⟩ : ∃ p c, u6 = .slice p (T.length + 1) c := (by obtain ⟨a, c, e⟩ := h6.form; exact ⟨a, c, by rw [e, List.length_append, HZ.out]; rfl⟩)
        have H6 : Hid _ := h6
        clear h6
        refine hK.out _ _ ?_ (fun hHeld => ?_)
        · exact s6
        clear hK K
        try simp only [Act.put, pu1, pu2, pu3]
        refine tk13 (.pointer (some ⟨w.heap.size, 0, none⟩)) ?_
        try simp only [Act.put, pu1, pu2, pu3]
        refine tk14 (.pointer (some ⟨w.heap.size, 0, none⟩)) ?_
        try simp only [Act.put, pu1, pu2, pu3]
        refine cl15 (by kernel_rfl) rfl (fun K hK => ?_)
        go_simp
        refine hK.out _ _ ?_ (fun hHeld => ?_)
        · exact (World.cell?_of_block (a := ⟨bk, off + k, none⟩) (heap_setCell_other _ _ _ _ (by simpa using hbD))).trans s6
        clear hK K
        try simp only [Act.put, pu1, pu2, pu3]
        refine wpAnyH_done (by kernel_rfl) ?_ _
        clear hHeld
        go_wp2
        obtain ⟨ro6, k6, b6⟩ := HFIN.out _ w5 bb5 H5.out _ _ w6 H6.out g6 (by simpa using l6)
        go_roundw
        case rel =>
          exact ⟨k + 1, ro6, _, _, T ++ [tkNew ts[k]], hkl, by rw [List.length_append, HTk.out]; rfl, by go_num, k6, HTK.out, b6⟩
        case measure => simp [RowKit.intOf]; omega
      · refine wp_app_row (l := ts[k]) (enc := opC) (k := 3) (.const (.slice none 0 0)) (.tmp 21) 47 45 rfl i1 _ 24 Try.underlying47 hi1 hz10 hz11 hz12 rfl (by decide) opC_len opC_one rfl rfl (World.ownsRow_nil w9 w9.heap.size _ _) HR.out (Nat.le_refl _) (by omega) (by omega) ?_
        intro u5 w5 h5 a5
        obtain ⟨po, no, co, rfl⟩ := own_form h5
        have H5 : Hid _ := h5
        clear h5
        have bb5 : Below w9.heap.size w9 w5 := a5.below
        clear a5
        refine hK.out _ _ ?_ (fun hHeld => ?_)
        · exact (HCB.out w5 bb5).1
        clear hK K
        try simp only [Act.put, pu1, pu2, pu3]
        refine tk10 (.agg #[.slice po no co, .int .i64 0, .bool false, .slice none 0 0]) ?_
        try simp only [Act.put, pu1, pu2, pu3]
        refine rd4_11 (by kernel_rfl) rfl rfl (fun K hK => ?_) (fun K hK => ?_)
        · have y4 := YD.out w5 bb5
          go_simp
          refine hK.out _ _ ?_ (fun hHeld => ?_)
          · first | exact HC.out | exact (HCB.out w5 bb5).2 _ | exact (HCB.out w5 bb5).1
          clear hK K
          try simp only [Act.put, pu1, pu2, pu3]
          refine cl11 (by kernel_rfl) rfl (fun K hK => ?_)
          go_simp
          refine hK.out _ _ ?_ (fun hHeld => ?_)
          · exact (HCB.out w5 bb5).2 _
          clear hK K
          try simp only [Act.put, pu1, pu2, pu3]
          refine cl12 (by kernel_rfl) rfl (fun K hK => ?_)
          refine wp_app_slidM (v := .slice aT T.length cT) (k := 4) (enc := tkC) (l := tv.zip T) (m := [((.slice po no co, .slice none 0 0), tkNew ts[k])]) (.tmp 17) (.tmp 24) 61 rfl i0 _ 64 Try.underlying61 hi hz0 hz1 hz2 rfl tkC_len (by intro u hu; simp only [rowL, tkC, List.flatMap_cons, List.flatMap_nil, List.append_nil, List.mem_cons, List.not_mem_nil, or_false] at hu; rcases hu with rfl | rfl | rfl | rfl <;> rfl) rfl (HSL.out w5 bb5 _) ⟨w5.heap.size, 0, none⟩ 1 1 rfl rfl (by exact World.news_of_block (heap_alloc_new w5 _)) (by simp) (by unfold maxLen; rw [HZ.out]; simp; omega) (by rw [HZ.out]; simp; omega) ?_
          intro u6 w6 h6 g6 l6
          obtain ⟨y6, x6, s6⟩ := HW.out w5 bb5 _ w6 g6
          obtain ⟨p6, c6, rfl⟩ : ∃ p c, u6 = .slice p (T.length + 1) c := (by obtain ⟨a, c, e⟩ := h6.form; exact ⟨a, c, by rw [e, List.length_append, HZ.out]; rfl⟩)
          have H6 : Hid _ := h6
          clear h6
          refine hK.out _ _ ?_ (fun hHeld => ?_)
          · exact s6
          clear hK K
          try simp only [Act.put, pu1, pu2, pu3]
          refine tk13 (.pointer (some ⟨w.heap.size, 0, none⟩)) ?_
          try simp only [Act.put, pu1, pu2, pu3]
          refine tk14 (.pointer (some ⟨w.heap.size, 0, none⟩)) ?_
          try simp only [Act.put, pu1, pu2, pu3]
          refine cl15 (by kernel_rfl) rfl (fun K hK => ?_)
          go_simp
          refine hK.out _ _ ?_ (fun hHeld => ?_)
          · exact (World.cell?_of_block (a := ⟨bk, off + k, none⟩) (heap_setCell_other _ _ _ _ (by simpa using hbD))).trans s6
          clear hK K
          try simp only [Act.put, pu1, pu2, pu3]
          refine wpAnyH_done (by kernel_rfl) ?_ _
          clear hHeld
          go_wp2
          obtain ⟨ro6, k6, b6⟩ := HFIN.out _ w5 bb5 H5.out _ _ w6 H6.out g6 (by simpa using l6)
          go_roundw
          case rel =>
            exact ⟨k + 1, ro6, _, _, T ++ [tkNew ts[k]], hkl, by rw [List.length_append, HTk.out]; rfl, by go_num, k6, HTK.out, b6⟩
          case measure => simp [RowKit.intOf]; omega
        · go_simp
          refine hK.out _ _ ?_ (fun hHeld => ?_)
          · exact (HCB.out w5 bb5).2 _
          clear hK K
          try simp only [Act.put, pu1, pu2, pu3]
          refine cl4 (by kernel_rfl) rfl (fun K hK => ?_)
          have y4 := YA.out w5 bb5
          go_simp
          refine hK.out _ _ ?_ (fun hHeld => ?_)
          · first | exact HC.out | exact (HCB.out w5 bb5).2 _ | exact (HCB.out w5 bb5).1
          clear hK K
          try simp only [Act.put, pu1, pu2, pu3]
          refine cl12 (by kernel_rfl) rfl (fun K hK => ?_)
          refine wp_app_slidM (v := .slice aT T.length cT) (k := 4) (enc := tkC) (l := tv.zip T) (m := [((.slice po no co, .slice none 0 0), tkNew ts[k])]) (.tmp 17) (.tmp 24) 61 rfl i0 _ 64 Try.underlying61 hi hz0 hz1 hz2 rfl tkC_len (by intro u hu; simp only [rowL, tkC, List.flatMap_cons, List.flatMap_nil, List.append_nil, List.mem_cons, List.not_mem_nil, or_false] at hu; rcases hu with rfl | rfl | rfl | rfl <;> rfl) rfl (HSL.out w5 bb5 _) ⟨w5.heap.size, 0, none⟩ 1 1 rfl rfl (by exact World.news_of_block (heap_alloc_new w5 _)) (by simp) (by unfold maxLen; rw [HZ.out]; simp; omega) (by rw [HZ.out]; simp; omega) ?_
          intro u6 w6 h6 g6 l6
          obtain ⟨y6, x6, s6⟩ := HW.out w5 bb5 _ w6 g6
          obtain ⟨p6, c6, rfl⟩ : ∃ p c, u6 = .slice p (T.length + 1) c := (by obtain ⟨a, c, e⟩ := h6.form; exact ⟨a, c, by rw [e, List.length_append, HZ.out]; rfl⟩)
          have H6 : Hid _ := h6
          clear h6
          refine hK.out _ _ ?_ (fun hHeld => ?_)
          · exact s6
          clear hK K
          try simp only [Act.put, pu1, pu2, pu3]
          refine tk13 (.pointer (some ⟨w.heap.size, 0, none⟩)) ?_
          try simp only [Act.put, pu1, pu2, pu3]
          refine tk14 (.pointer (some ⟨w.heap.size, 0, none⟩)) ?_
          try simp only [Act.put, pu1, pu2, pu3]
          refine cl15 (by kernel_rfl) rfl (fun K hK => ?_)
          go_simp
          refine hK.out _ _ ?_ (fun hHeld => ?_)
          · exact (World.cell?_of_block (a := ⟨bk, off + k, none⟩) (heap_setCell_other _ _ _ _ (by simpa using hbD))).trans s6
          clear hK K
          try simp only [Act.put, pu1, pu2, pu3]
          refine wpAnyH_done (by kernel_rfl) ?_ _
          clear hHeld
          go_wp2
          obtain ⟨ro6, k6, b6⟩ := HFIN.out _ w5 bb5 H5.out _ _ w6 H6.out g6 (by simpa using l6)
          go_roundw
          case rel =>
            exact ⟨k + 1, ro6, _, _, T ++ [tkNew ts[k]], hkl, by rw [List.length_append, HTk.out]; rfl, by go_num, k6, HTK.out, b6⟩
          case measure => simp [RowKit.intOf]; omega
    · have q0 : decide ((k : Int) < (ts.length : Int)) = false := decide_eq_false (by omega)
      have hke : k = ts.length := by omega
      have HF : Hid (SkAt wr w.heap.size w.heap.size ro vT (.slice none 0 0) tv [] (ts.map tkNew) []) := by
        rw [hke, List.take_length] at hT
        rw [← hT]
        exact hS
      clear hS hT
      go_wp2
      go_ret
      exact ⟨_, _, _, _, rfl, HF.out, bel⟩
end
end Go.Proofs.Ythhlglbohibekaa
namespace Go.Proofs.Ythhlglbohibekaa
open Go.RowKit

def spR (T : List Tk) (L : List (Int × Ob)) (z : Int) : Opx × Int × List Tk × List (Int × Ob) := if rdB T z = true then ((stR T L z.toNat).1, 0, (stR T L z.toNat).2.1, (stR T L z.toNat).2.2) else ((0, 0, 0), 1, T, L)
structure RSk (w : World) (base D : Nat) (S : Nat → Prop) (k : Nat) (T : List Tk) (L : List (Int × Ob)) : Prop where
  ex : ∃ ro vT vL tv od, SkAt w base D ro vT vL tv od T L ∧ ∀ b, S b ↔ ro b ≠ none
  ok : StOk k T L
theorem StOk.new {ts : List (List Opx)} (hn : ts.length ≤ 65536) (hl : ∀ o ∈ ts, o.length ≤ 65536) : StOk 0 (ts.map tkNew) [] :=
  ⟨by simpa using hn, fun t ht => by
    obtain ⟨o, ho, rfl⟩ := List.mem_map.1 ht
    exact ⟨hl o ho, Nat.zero_le _, Nat.le_refl _⟩, Nat.le_refl _, fun p hp => by cases hp⟩
theorem StOk.mono {k k' : Nat} {T : List Tk} {L : List (Int × Ob)} (h : StOk k T L) (hk : k ≤ k') : StOk k' T L := ⟨h.nt, h.tk.mono hk, Nat.le_trans h.nl hk, fun p hp => (h.ob p hp).mono hk⟩
theorem rdB_at {T : List Tk} {z : Int} (h : rdB T z = true) : ∃ i : Nat, z = (i : Int) ∧ ∃ hi : i < T.length, T[i].bl = false ∧ T[i].pos < T[i].ops.length := by
  unfold rdB at h
  rw [Bool.and_eq_true, decide_eq_true_eq] at h
  obtain ⟨h0, h1⟩ := h
  refine ⟨z.toNat, by omega, ?_⟩
  cases hg : T[z.toNat]? with
  | none => rw [hg] at h1; cases h1
  | some t =>
    rw [hg] at h1
    obtain ⟨hi, rfl⟩ := List.getElem?_eq_some_iff.1 hg
    refine ⟨hi, ?_⟩
    have h2 : tkR T[z.toNat] = true := h1
    unfold tkR at h2
    rw [Bool.and_eq_true, decide_eq_true_eq] at h2
    exact ⟨by simpa using h2.1, h2.2⟩
theorem spR_ok {k : Nat} {T : List Tk} {L : List (Int × Ob)} (h : StOk k T L) (z : Int) : StOk (k + 1) (spR T L z).2.2.1 (spR T L z).2.2.2 ∧ opsL (spR T L z).2.2.1 = opsL T := by
  unfold spR
  split
  · exact stR_ok h z.toNat
  · exact ⟨h.mono (Nat.le_succ _), rfl⟩
section
variable {w w' : World} {base D : Nat} {S S' : Nat → Prop} {k : Nat} {T : List Tk} {L : List (Int × Ob)}
theorem RSk.keep (h : RSk w base D S k T L) (hs : w.heap.size ≤ w'.heap.size) (hk : ∀ b, S b → w'.heap[b]? = w.heap[b]?) : RSk w' base D S k T L := by
  obtain ⟨ro, vT, vL, tv, od, h1, h2⟩ := h.ex
  exact ⟨⟨ro, vT, vL, tv, od, h1.keep hs (fun b hb => hk b ((h2 b).2 hb)), h2⟩, h.ok⟩
theorem RSk.bd (h : RSk w base D S k T L) : ∀ b, S b → base ≤ b ∧ b < w.heap.size := fun b hb => by
  obtain ⟨ro, vT, vL, tv, od, h1, h2⟩ := h.ex
  exact h1.bd b ((h2 b).1 hb)
theorem RSk.sD (h : RSk w base D S k T L) : S D := by
  obtain ⟨ro, vT, vL, tv, od, h1, h2⟩ := h.ex
  exact (h2 D).2 (by rw [h1.sD]; simp)
theorem RSk.fresh (h : RSk w base D S k T L) (b : Below w.heap.size w w') : RSk w' base D S k T L := h.keep b.size (fun c hc => b.block c (h.bd c hc).2)
theorem RSk.base_le (h : RSk w base D S k T L) : base ≤ w.heap.size := by have := h.bd D h.sD; omega
theorem RSk.below (h : RSk w base D S k T L) (q : Kept w w' S S') : Below base w w' := q.low h.base_le (fun b hb => (h.bd b hb).1)
theorem RSk.low {base' : Nat} (h : RSk w base D S k T L) (hb : base' ≤ base) : RSk w base' D S k T L := by
  obtain ⟨ro, vT, vL, tv, od, h1, h2⟩ := h.ex
  exact ⟨⟨ro, vT, vL, tv, od, ⟨h1.hd, h1.tl, h1.ol, h1.ts, h1.os, h1.op, h1.ru, fun i a b => (h1.ob i a b).low hb, h1.sD, fun b hb' => ⟨Nat.le_trans hb (h1.bd b hb').1, (h1.bd b hb').2⟩, h1.rb⟩, h2⟩, h.ok⟩
theorem rs_new {v : Value} {ts : List (List Opx)} (h : TasksAt w v ts) (hn : ts.length ≤ 65536) (hl : ∀ o ∈ ts, o.length ≤ 65536) : Calls Try.prog 12 #[v] w fun e w' => ∃ D S, e = .returned (.pointer (some ⟨D, 0, none⟩)) ∧ RSk w' w.heap.size D S 0 (ts.map tkNew) [] ∧ Below w.heap.size w w' :=
  (sk_newT h hn hl).mono fun _ _ ⟨D, ro, vT, tv, e1, h1, h2⟩ => ⟨D, fun b => ro b ≠ none, e1, ⟨⟨ro, vT, _, tv, _, h1, fun _ => Iff.rfl⟩, StOk.new hn hl⟩, h2⟩
theorem rs_Ready (h : RSk w base D S k T L) : Calls Try.prog 17 #[.pointer (some ⟨D, 0, none⟩)] w fun e w' => ∃ u, e = .returned u ∧ RowAt intC w' u (readyL T) ∧ Below w.heap.size w w' := by
  obtain ⟨ro, vT, vL, tv, od, h1, h2⟩ := h.ex
  exact sk_Ready h1 h.ok.nt
theorem rs_Blocked (h : RSk w base D S k T L) : Calls Try.prog 19 #[.pointer (some ⟨D, 0, none⟩)] w fun e w' => ∃ u, e = .returned u ∧ RowAt intC w' u (blockedL T) ∧ Below w.heap.size w w' := by
  obtain ⟨ro, vT, vL, tv, od, h1, h2⟩ := h.ex
  exact sk_Blocked h1 h.ok.nt
theorem rs_Ended (h : RSk w base D S k T L) : Calls Try.prog 21 #[.pointer (some ⟨D, 0, none⟩)] w fun e w' => e = .returned (.bool (endedB T)) ∧ Below w.heap.size w w' := by
  obtain ⟨ro, vT, vL, tv, od, h1, h2⟩ := h.ex
  exact sk_Ended h1 h.ok.nt
theorem rs_step (h : RSk w base D S k T L) (z : Int) (hk : k < 65535) : Calls Try.prog 14 #[.pointer (some ⟨D, 0, none⟩), .int .i64 z] w fun e w' => e = .returned (.tuple #[.agg #[.int .i64 (spR T L z).1.1, .int .i64 (spR T L z).1.2.1, .int .i64 (spR T L z).1.2.2], .int .i64 (spR T L z).2.1]) ∧ ∃ S', RSk w' base D S' (k + 1) (spR T L z).2.2.1 (spR T L z).2.2.2 ∧ Kept w w' S S' := by
  obtain ⟨ro, vT, vL, tv, od, h1, h2⟩ := h.ex
  have hok := (spR_ok h.ok z).1
  have hSe : S = fun b => ro b ≠ none := funext fun b => propext (h2 b)
  cases hr : rdB T z with
  | false =>
    have es : spR T L z = ((0, 0, 0), 1, T, L) := by unfold spR; rw [if_neg (by rw [hr]; decide)]
    rw [es] at hok ⊢
    exact (step_no h1 z hr).mono fun _ _ ⟨e1, e2, e3⟩ => ⟨e1, S, ⟨⟨ro, vT, vL, tv, od, e2, h2⟩, hok⟩, Kept.of e3⟩
  | true =>
    obtain ⟨i, rfl, hi, hb, hp⟩ := rdB_at hr
    have es : spR T L (i : Int) = ((stR T L i).1, 0, (stR T L i).2.1, (stR T L i).2.2) := by unfold spR; rw [if_pos hr, Int.toNat_natCast]
    rw [es] at hok ⊢
    obtain ⟨q1, q2, q3⟩ := h.ok.tk.at hi
    exact (sk_step h1 i hi h.ok.nt k (by omega) h.ok.nl h.ok.ob hb hp q1 (by omega)).mono fun _ _ ⟨e1, ro', vL', tv', od', e2, e3⟩ => ⟨e1, fun b => ro' b ≠ none, ⟨⟨ro', vT, vL', tv', od', e2, fun _ => Iff.rfl⟩, hok⟩, by rw [hSe]; exact e3⟩
end
end Go.Proofs.Ythhlglbohibekaa
