/-
  Parts of the proof, laid together: SpWaits, SpOnce, SoInv, SoRel, SoPlain, SoAskR, SoFreeR. The conditions stand at each part.
-/
import Derived.Test.YthhlglbohibekaaSPackV
import Derived.Test.YthhlglbohibekaaSPackJ
namespace Go.Proofs.Ythhlglbohibekaa
open Go.RowKit

theorem wake1_get (T : List Tk) (x i : Nat) : (wake1 T x)[i]? = (T[i]?).map fun t => if i = x then { t with bl := false } else t := by
  unfold wake1
  cases h : T[x]? with
  | none =>
    simp only
    cases hi : T[i]? with
    | none => rfl
    | some t =>
      have : i ≠ x := fun e => by rw [e, h] at hi; cases hi
      simp [this]
  | some t =>
    simp only
    rw [List.getElem?_set]
    obtain ⟨hx, e⟩ := List.getElem?_eq_some_iff.1 h
    by_cases hix : x = i
    · subst hix
      rw [if_pos rfl, if_pos hx, h]
      simp
    · rw [if_neg hix]
      cases hi : T[i]? with
      | none => rfl
      | some t' => simp [show ¬ i = x from fun e => hix e.symm]
theorem wakeT_get : ∀ (l : List Int) (T : List Tk) (i : Nat), (∀ x ∈ l, 0 ≤ x) → (wakeT T l)[i]? = (T[i]?).map fun t => if (i : Int) ∈ l then { t with bl := false } else t
  | [], T, i, _ => by
    cases h : T[i]? with
    | none => simp [wakeT, h]
    | some t => simp [wakeT, h]
  | x :: l, T, i, h => by
    have h0 := h x (by simp)
    rw [wakeT, wakeT_get l _ i (fun y hy => h y (by simp [hy])), wake1_get]
    cases hi : T[i]? with
    | none => rfl
    | some t =>
      simp only [Option.map_some, Option.some.injEq]
      have e : i = x.toNat ↔ (i : Int) = x := by omega
      by_cases h1 : (i : Int) = x
      · rw [if_pos (e.2 h1)]
        simp [h1]
      · rw [if_neg (fun h2 => h1 (e.1 h2))]
        simp [h1]
end Go.Proofs.Ythhlglbohibekaa
namespace Go.Proofs.Ythhlglbohibekaa
open Go.RowKit

def obM (k num : Int) (p : Int × Ob) : Bool := p.2.k == k && p.1 == num
theorem obM_iff {k num : Int} {p : Int × Ob} : obM k num p = true ↔ p.2.k = k ∧ p.1 = num := by
  unfold obM
  rw [Bool.and_eq_true, beq_iff_eq, beq_iff_eq]
theorem obFind_nil (k num : Int) : obFind [] k num = 0 := rfl
theorem obFind_pos {k num : Int} {q : Int × Ob} {L : List (Int × Ob)} (h : obM k num q = true) : obFind (q :: L) k num = 0 := by
  unfold obFind
  rw [List.findIdx_cons]
  unfold obM at h
  rw [h]
  rfl
theorem obFind_neg {k num : Int} {q : Int × Ob} {L : List (Int × Ob)} (h : obM k num q = false) : obFind (q :: L) k num = obFind L k num + 1 := by
  unfold obFind
  rw [List.findIdx_cons]
  unfold obM at h
  rw [h]
  rfl
theorem obPut_nil (k num : Int) (o : Ob) : obPut [] k num o = [(num, o)] := by
  unfold obPut obAdd
  rw [obFind_nil]
  rfl
theorem obPut_pos {k num : Int} {q : Int × Ob} {L : List (Int × Ob)} (o : Ob) (h : obM k num q = true) : obPut (q :: L) k num o = (num, o) :: L := by
  unfold obPut obAdd
  rw [obFind_pos h, if_pos (by simp)]
  rfl
theorem obPut_neg {k num : Int} {q : Int × Ob} {L : List (Int × Ob)} (o : Ob) (h : obM k num q = false) : obPut (q :: L) k num o = q :: obPut L k num o := by
  unfold obPut obAdd
  rw [obFind_neg h]
  by_cases hl : obFind L k num < L.length
  · rw [if_pos (by simpa using hl), if_pos hl]
    rfl
  · rw [if_neg (by simpa using hl), if_neg hl]
    rfl
theorem obG_nil (k num : Int) : obG [] k num = obNew k := by
  unfold obG obAdd
  rw [obFind_nil]
  rfl
theorem obG_pos {k num : Int} {q : Int × Ob} {L : List (Int × Ob)} (h : obM k num q = true) : obG (q :: L) k num = q.2 := by
  unfold obG obAdd
  rw [obFind_pos h, if_pos (by simp)]
  rfl
theorem obG_neg {k num : Int} {q : Int × Ob} {L : List (Int × Ob)} (h : obM k num q = false) : obG (q :: L) k num = obG L k num := by
  unfold obG obAdd
  rw [obFind_neg h]
  by_cases hl : obFind L k num < L.length
  · rw [if_pos (by simpa using hl), if_pos hl]
    rfl
  · rw [if_neg (by simpa using hl), if_neg hl]
    rfl
theorem obG_put {k num : Int} {o : Ob} (ho : o.k = k) (k' num' : Int) : ∀ L : List (Int × Ob), obG (obPut L k num o) k' num' = if k' = k ∧ num' = num then o else obG L k' num'
  | [] => by
    rw [obPut_nil]
    by_cases h : k' = k ∧ num' = num
    · rw [if_pos h, obG_pos (obM_iff.2 ⟨by rw [h.1]; exact ho, h.2.symm⟩)]
    · rw [if_neg h, obG_neg (by
        rw [Bool.eq_false_iff]
        intro h2
        have := obM_iff.1 h2
        exact h ⟨this.1.symm.trans ho, this.2.symm⟩)]
  | q :: L => by
    have ih := obG_put (num := num) ho k' num' L
    cases hq : obM k num q with
    | true =>
      rw [obPut_pos o hq]
      have h1 := obM_iff.1 hq
      by_cases h : k' = k ∧ num' = num
      · rw [if_pos h, obG_pos (obM_iff.2 ⟨by rw [h.1]; exact ho, h.2.symm⟩)]
      · rw [if_neg h, obG_neg (by
          rw [Bool.eq_false_iff]
          intro h2
          have := obM_iff.1 h2
          exact h ⟨this.1.symm.trans ho, this.2.symm⟩), obG_neg (by
          rw [Bool.eq_false_iff]
          intro h2
          have := obM_iff.1 h2
          exact h ⟨this.1.symm.trans h1.1, this.2.symm.trans h1.2⟩)]
    | false =>
      rw [obPut_neg o hq]
      cases hq' : obM k' num' q with
      | true =>
        rw [obG_pos hq', obG_pos hq']
        rw [if_neg (fun h => by rw [h.1, h.2, hq] at hq'; cases hq')]
      | false =>
        rw [obG_neg hq', obG_neg hq']
        exact ih
def wtr (o : Ob) : List Int := if o.k = 1 then o.q.map (·.1) else o.l
theorem wtr_new (k : Int) : wtr (obNew k) = [] := by
  unfold wtr
  split
  · rfl
  · rfl
theorem askA_wait (o : Ob) (t : Int) (x : Opx) (h1 : 0 ≤ o.k ∧ o.k ≤ 3) : wtr (askA o t x).2.2 = wtr o ++ (if (askA o t x).1 = 3 then [t] else []) := by
  have hc : o.k = 0 ∨ o.k = 1 ∨ o.k = 2 ∨ o.k = 3 := by omega
  unfold askA
  rcases hc with hc | hc | hc | hc
  · rw [if_pos hc]
    have e1 : wtr (mxLk o t) = lockL o.h o.l t := by unfold wtr mxLk; simp [hc]
    have e2 : wtr o = o.l := by unfold wtr; simp [hc]
    simp only [e1, e2]
    unfold hwA lockL lockB lockZ
    by_cases ht : t < 0
    · simp [ht]
    · by_cases hh : o.h = t ∨ t ∈ o.l
      · simp [ht, hh]
      · have h3 : ¬ o.h = t := fun e => hh (Or.inl e)
        have h4 : t ∉ o.l := fun e => hh (Or.inr e)
        by_cases hw : o.h < 0
        · simp [ht, h3, h4, hw, show 0 ≤ t by omega]
        · simp [ht, h3, h4, hw]
  · rw [if_neg (by omega), if_pos hc]
    have e1 : ∀ rd, wtr (rwLk o t rd) = ((rwSt o.l o.b o.q t rd).2.2).map (·.1) := fun rd => by unfold wtr rwLk; simp [hc]
    have e2 : wtr o = o.q.map (·.1) := by unfold wtr; simp [hc]
    simp only [e1, e2]
    unfold hwA rwSt
    by_cases hz : rwZ o.l o.q t = 0
    · rw [if_pos hz]
      cases hb : rwB o.l o.b o.q t (x.1 == 3) with
      | true => simp [hz]
      | false => simp [hz]
    · rw [if_neg hz]
      simp [hz]
  · rw [if_neg (by omega), if_neg (by omega), if_pos hc]
    have e1 : wtr (grWt o t) = gWL o.h o.l t := by unfold wtr grWt; simp [hc]
    have e2 : wtr o = o.l := by unfold wtr; simp [hc]
    simp only [e1, e2]
    unfold hwA gWL gWB
    by_cases hz : gWZ o.l t = 0
    · by_cases hh : o.h = 0
      · simp [hz, hh]
      · simp [hz, hh]
    · simp [hz]
  · rw [if_neg (by omega), if_neg (by omega), if_neg (by omega)]
    have e1 : wtr (onDo o t) = oDL o.h o.b o.l t := by unfold wtr onDo; simp [hc]
    have e2 : wtr o = o.l := by unfold wtr; simp [hc]
    simp only [e1, e2]
    unfold onA oDL
    by_cases hz : oDZ o.h o.l t = 0
    · cases hr : oDR o.h o.b o.l t with
      | true =>
        have hw : oDW o.h o.b o.l t = false := by
          unfold oDR at hr
          unfold oDW
          have := of_decide_eq_true hr
          exact decide_eq_false (fun h => h.2.2 this.2.2)
        simp [hz, hw]
      | false =>
        cases hw : oDW o.h o.b o.l t with
        | true => simp [hz]
        | false => simp [hz]
    · have hw : oDW o.h o.b o.l t = false := by
        unfold oDW
        exact decide_eq_false (fun h => hz h.1)
      simp [hz, hw]
theorem rwGo_split : ∀ (q : List Wt) (L : List Int) (wt : Bool), q.map (·.1) = (rwGo L wt q).1 ++ ((rwGo L wt q).2.2.2).map (·.1)
  | [], L, wt => rfl
  | x :: q, L, wt => by
    have ih := rwGo_split q (putL L x.1) (!x.2.1)
    rw [rwGo]
    split
    · simp only [List.map_cons, List.cons_append]
      rw [← ih]
    · rfl
theorem freeA_wait (o : Ob) (t : Int) (x : Opx) (h1 : 0 ≤ o.k ∧ o.k ≤ 3) (hp : ∀ z ∈ wtr o, 0 ≤ z) : wtr o = (freeA o t x).1 ++ wtr (freeA o t x).2.2 := by
  have hc : o.k = 0 ∨ o.k = 1 ∨ o.k = 2 ∨ o.k = 3 := by omega
  unfold freeA
  rcases hc with hc | hc | hc | hc
  · rw [if_pos hc]
    have e1 : wtr (mxUn o t) = unL o.h o.l t := by unfold wtr mxUn; simp [hc]
    have e2 : wtr o = o.l := by unfold wtr; simp [hc]
    rw [e2] at hp
    simp only [e1, e2]
    unfold unZ unN unL
    by_cases hh : t < 0 ∨ ¬ o.h = t
    · rw [if_pos hh, if_pos hh, if_pos hh]
      simp
    · rw [if_neg hh, if_neg hh, if_neg hh]
      cases hl : o.l with
      | nil => simp
      | cons a l =>
        rw [hl] at hp
        have := hp a (by simp)
        simp [show ¬ a < 0 by omega]
  · rw [if_neg (by omega), if_pos hc]
    have e1 : ∀ rd, wtr (rwUn o t rd) = ((rwU o.l o.b o.q t rd).2.2.2).map (·.1) := fun rd => by unfold wtr rwUn; simp [hc]
    have e2 : wtr o = o.q.map (·.1) := by unfold wtr; simp [hc]
    simp only [e1, e2]
    unfold rwU
    split
    · rfl
    · exact rwGo_split _ _ _
  · rw [if_neg (by omega), if_neg (by omega), if_pos hc]
    have e1 : wtr (grAd o x.2.2) = gAL o.h o.l x.2.2 := by unfold wtr grAd; simp [hc]
    have e2 : wtr o = o.l := by unfold wtr; simp [hc]
    simp only [e1, e2]
    unfold gAO gAL
    split
    · simp
    · simp
  · rw [if_neg (by omega), if_neg (by omega), if_neg (by omega)]
    have e1 : wtr (onEnd o t) = oEL o.h o.l t := by unfold wtr onEnd; simp [hc]
    have e2 : wtr o = o.l := by unfold wtr; simp [hc]
    simp only [e1, e2]
    unfold oEO oEL
    split
    · simp
    · simp
theorem ask_runs {o : Ob} {t : Int} {x : Opx} (hk : o.k = 3) (h : (askA o t x).1 = 2) : o.h < 0 ∧ (askA o t x).2.2.h = t := by
  have e : askA o t x = (onA o t, oDZ o.h o.l t, onDo o t) := by unfold askA; rw [hk]; rfl
  rw [e] at h ⊢
  simp only [onA] at h
  split at h
  · cases h
  · split at h
    · rename_i hr
      refine ⟨?_, ?_⟩
      · unfold oDR at hr
        exact (of_decide_eq_true hr).2.2
      · show oDH o.h o.b o.l t = t
        unfold oDH
        rw [if_pos hr]
    · split at h
      · cases h
      · cases h
theorem ask_keeps {o : Ob} {t : Int} {x : Opx} (hk : o.k = 3) (h : (askA o t x).1 ≠ 2) : (askA o t x).2.2.h = o.h := by
  have e : askA o t x = (onA o t, oDZ o.h o.l t, onDo o t) := by unfold askA; rw [hk]; rfl
  rw [e] at h ⊢
  show oDH o.h o.b o.l t = o.h
  unfold oDH
  rw [if_neg (fun hr => h ?_)]
  show onA o t = 2
  unfold onA
  have hz : oDZ o.h o.l t = 0 := by
    unfold oDR at hr
    exact (of_decide_eq_true hr).1
  rw [if_neg (by rw [hz]; decide), if_pos hr]
theorem last_split {l : List Int} {z : Int} (h : l.getLast? = some z) : l.dropLast ++ [z] = l := by
  cases l with
  | nil => cases h
  | cons a l =>
    rw [List.getLast?_eq_some_getLast (by simp)] at h
    rw [← Option.some.inj h]
    exact List.dropLast_concat_getLast _
structure Inv (T : List Tk) (L : List (Int × Ob)) : Prop where
  wb : ∀ k num, ∀ t ∈ wtr (obG L k num), ∃ n : Nat, t = (n : Int) ∧ ∃ h : n < T.length, T[n].bl = true
  wn : ∀ k num, (wtr (obG L k num)).Nodup
  wd : ∀ k num k' num', ¬ (k' = k ∧ num' = num) → ∀ t ∈ wtr (obG L k num), t ∉ wtr (obG L k' num')
  ru : ∀ i (_ : i < T.length), ∀ x ∈ T[i].runs, (obG L 3 x).h = (i : Int)
  rn : ∀ i (_ : i < T.length), T[i].runs.Nodup
theorem Inv.new {T : List Tk} (h : ∀ t ∈ T, t.runs = []) : Inv T [] := by
  refine ⟨fun k num t ht => ?_, fun k num => ?_, fun k num _ _ _ t ht => ?_, fun i hi x hx => ?_, fun i hi => ?_⟩
  · rw [obG_nil, wtr_new] at ht
    exact absurd ht (List.not_mem_nil)
  · rw [obG_nil, wtr_new]
    exact List.nodup_nil
  · rw [obG_nil, wtr_new] at ht
    exact absurd ht (List.not_mem_nil)
  · rw [h _ (List.getElem_mem hi)] at hx
    exact absurd hx (List.not_mem_nil)
  · rw [h _ (List.getElem_mem hi)]
    exact List.nodup_nil
section
variable {T T' : List Tk} {L : List (Int × Ob)}
theorem Inv.tasks (h : Inv T L) (hl : T'.length = T.length) (hb : ∀ n (h1 : n < T.length) (h2 : n < T'.length), T[n].bl = true → T'[n].bl = true) (hr : ∀ n (h1 : n < T.length) (h2 : n < T'.length), T'[n].runs = T[n].runs) : Inv T' L :=
  ⟨fun k num t ht => by
    obtain ⟨n, e, h1, h2⟩ := h.wb k num t ht
    exact ⟨n, e, by omega, hb n h1 (by omega) h2⟩, h.wn, h.wd, fun i hi x hx => h.ru i (by omega) x (by rw [← hr i (by omega) hi]; exact hx), fun i hi => by rw [hr i (by omega) hi]; exact h.rn i (by omega)⟩
theorem Inv.ask (h : Inv T L) (i : Nat) (hi : i < T.length) (hib : T[i].bl = false) (x : Opx) (k num : Int) (hk : 0 ≤ k ∧ k ≤ 3) (hl : T'.length = T.length)
    (hb : ∀ n (h1 : n < T.length) (h2 : n < T'.length), T[n].bl = true ∨ (n = i ∧ (askA (obG L k num) (i : Int) x).1 = 3) → T'[n].bl = true)
    (hr : ∀ n (h1 : n < T.length) (h2 : n < T'.length), T'[n].runs = if n = i ∧ k = 3 ∧ (askA (obG L k num) (i : Int) x).1 = 2 then T[n].runs ++ [num] else T[n].runs) : Inv T' (obPut L k num (askA (obG L k num) (i : Int) x).2.2) := by
  have hok := (obG_at L k num).2
  have hko : (askA (obG L k num) (i : Int) x).2.2.k = k := by rw [askA_k]; exact hok
  have hw := askA_wait (obG L k num) (i : Int) x (by rw [hok]; exact hk)
  have hnot : ∀ k' num', (i : Int) ∉ wtr (obG L k' num') := fun k' num' hm => by
    obtain ⟨n, e, h1, h2⟩ := h.wb k' num' _ hm
    have : n = i := by omega
    subst this
    rw [hib] at h2
    cases h2
  have hmem : ∀ t, t ∈ wtr (askA (obG L k num) (i : Int) x).2.2 → t ∈ wtr (obG L k num) ∨ (t = (i : Int) ∧ (askA (obG L k num) (i : Int) x).1 = 3) := fun t ht => by
    rw [hw, List.mem_append] at ht
    rcases ht with ht | ht
    · exact Or.inl ht
    · split at ht
      · rename_i h3
        exact Or.inr ⟨by simpa using ht, h3⟩
      · cases ht
  refine ⟨fun k' num' t ht => ?_, fun k' num' => ?_, fun k1 n1 k2 n2 hne t ht ht2 => ?_, fun j hj z hz => ?_, fun j hj => ?_⟩
  · rw [obG_put hko] at ht
    split at ht
    · rcases hmem t ht with h1 | ⟨h1, h3⟩
      · obtain ⟨n, e, h2, h4⟩ := h.wb k num t h1
        exact ⟨n, e, by omega, hb n h2 (by omega) (Or.inl h4)⟩
      · exact ⟨i, h1, by omega, hb i hi (by omega) (Or.inr ⟨rfl, h3⟩)⟩
    · obtain ⟨n, e, h2, h4⟩ := h.wb k' num' t ht
      exact ⟨n, e, by omega, hb n h2 (by omega) (Or.inl h4)⟩
  · rw [obG_put hko]
    split
    · rw [hw, List.nodup_append]
      refine ⟨h.wn k num, ?_, ?_⟩
      · split
        · simp
        · exact List.nodup_nil
      · intro a ha b hb2 e
        split at hb2
        · rw [List.mem_singleton] at hb2
          rw [e, hb2] at ha
          exact hnot _ _ ha
        · cases hb2
    · exact h.wn k' num'
  · rw [obG_put hko] at ht ht2
    split at ht
    · rename_i e1
      rw [if_neg (fun e2 => hne ⟨e2.1.trans e1.1.symm, e2.2.trans e1.2.symm⟩)] at ht2
      rcases hmem t ht with h1 | ⟨h1, _⟩
      · exact h.wd k num k2 n2 (fun e2 => hne ⟨e2.1.trans e1.1.symm, e2.2.trans e1.2.symm⟩) t h1 ht2
      · rw [h1] at ht2
        exact hnot _ _ ht2
    · rename_i e1
      split at ht2
      · rename_i e2
        rcases hmem t ht2 with h1 | ⟨h1, _⟩
        · exact h.wd k1 n1 k num (fun e3 => e1 ⟨e3.1.symm, e3.2.symm⟩) t ht h1
        · rw [h1] at ht
          exact hnot _ _ ht
      · exact h.wd k1 n1 k2 n2 hne t ht ht2
  · have hj' : j < T.length := by omega
    rw [hr j hj' hj] at hz
    rw [obG_put hko]
    by_cases hk3 : k = 3
    · subst hk3
      by_cases ha : (askA (obG L 3 num) (i : Int) x).1 = 2
      · obtain ⟨g1, g2⟩ := ask_runs hok ha
        have hno : ∀ j' (h9 : j' < T.length), num ∉ T[j'].runs := fun j' h9 hm => by
          have := h.ru j' h9 num hm
          omega
        by_cases hji : j = i
        · subst hji
          rw [if_pos ⟨rfl, rfl, ha⟩, List.mem_append] at hz
          rcases hz with hz | hz
          · rw [if_neg (fun e => hno j hj' (by rw [← e.2]; exact hz))]
            exact h.ru j hj' z hz
          · rw [List.mem_singleton] at hz
            rw [if_pos ⟨rfl, hz⟩]
            exact g2
        · rw [if_neg (fun e => hji e.1)] at hz
          rw [if_neg (fun e => hno j hj' (by rw [← e.2]; exact hz))]
          exact h.ru j hj' z hz
      · rw [if_neg (fun e => ha e.2.2)] at hz
        split
        · rename_i e
          rw [ask_keeps hok ha, ← e.2]
          exact h.ru j hj' z hz
        · exact h.ru j hj' z hz
    · rw [if_neg (fun e => hk3 e.2.1)] at hz
      rw [if_neg (fun e => hk3 e.1.symm)]
      exact h.ru j hj' z hz
  · have hj' : j < T.length := by omega
    rw [hr j hj' hj]
    split
    · rename_i e
      obtain ⟨e1, e2, e3⟩ := e
      subst e1 e2
      obtain ⟨g1, g2⟩ := ask_runs hok e3
      rw [List.nodup_append]
      refine ⟨h.rn j hj', by simp, fun a ha b hb2 e => ?_⟩
      rw [List.mem_singleton] at hb2
      rw [e, hb2] at ha
      have := h.ru j hj' num ha
      omega
    · exact h.rn j hj'
theorem Inv.free (h : Inv T L) (i : Nat) (hi : i < T.length) (x : Opx) (k num : Int) (hk : 0 ≤ k ∧ k ≤ 3) (hl : T'.length = T.length) (hlast : k = 3 → T[i].runs.getLast? = some num)
    (hb : ∀ n (h1 : n < T.length) (h2 : n < T'.length), T[n].bl = true → (n : Int) ∉ (freeA (obG L k num) (i : Int) x).1 → T'[n].bl = true)
    (hr : ∀ n (h1 : n < T.length) (h2 : n < T'.length), T'[n].runs = if n = i ∧ k = 3 then T[n].runs.dropLast else T[n].runs) : Inv T' (obPut L k num (freeA (obG L k num) (i : Int) x).2.2) := by
  have hok := (obG_at L k num).2
  have hko : (freeA (obG L k num) (i : Int) x).2.2.k = k := by rw [freeA_k]; exact hok
  have hw := freeA_wait (obG L k num) (i : Int) x (by rw [hok]; exact hk) (fun z hz => by
    obtain ⟨n, e, _⟩ := h.wb k num z hz
    omega)
  have hnd := h.wn k num
  rw [hw] at hnd
  have hnd2 := List.nodup_append.1 hnd
  have hin : ∀ t, t ∈ wtr (freeA (obG L k num) (i : Int) x).2.2 → t ∈ wtr (obG L k num) ∧ t ∉ (freeA (obG L k num) (i : Int) x).1 := fun t ht => ⟨by rw [hw]; exact List.mem_append_right _ ht, fun h2 => hnd2.2.2 t h2 t ht rfl⟩
  have hout : ∀ k' num', ¬ (k' = k ∧ num' = num) → ∀ t ∈ wtr (obG L k' num'), t ∉ (freeA (obG L k num) (i : Int) x).1 := fun k' num' hne t ht h2 => h.wd k num k' num' hne t (by rw [hw]; exact List.mem_append_left _ h2) ht
  refine ⟨fun k' num' t ht => ?_, fun k' num' => ?_, fun k1 n1 k2 n2 hne t ht ht2 => ?_, fun j hj z hz => ?_, fun j hj => ?_⟩
  · rw [obG_put hko] at ht
    split at ht
    · obtain ⟨g1, g2⟩ := hin t ht
      obtain ⟨n, e, h2, h4⟩ := h.wb k num t g1
      exact ⟨n, e, by omega, hb n h2 (by omega) h4 (by rw [← e]; exact g2)⟩
    · rename_i hne
      obtain ⟨n, e, h2, h4⟩ := h.wb k' num' t ht
      exact ⟨n, e, by omega, hb n h2 (by omega) h4 (by rw [← e]; exact hout k' num' hne t ht)⟩
  · rw [obG_put hko]
    split
    · exact hnd2.2.1
    · exact h.wn k' num'
  · rw [obG_put hko] at ht ht2
    split at ht
    · rename_i e1
      rw [if_neg (fun e2 => hne ⟨e2.1.trans e1.1.symm, e2.2.trans e1.2.symm⟩)] at ht2
      exact h.wd k num k2 n2 (fun e2 => hne ⟨e2.1.trans e1.1.symm, e2.2.trans e1.2.symm⟩) t (hin t ht).1 ht2
    · rename_i e1
      split at ht2
      · exact h.wd k1 n1 k num (fun e3 => e1 ⟨e3.1.symm, e3.2.symm⟩) t ht (hin t ht2).1
      · exact h.wd k1 n1 k2 n2 hne t ht ht2
  · have hj' : j < T.length := by omega
    rw [hr j hj' hj] at hz
    rw [obG_put hko]
    by_cases hk3 : k = 3
    · subst hk3
      have hl3 := hlast rfl
      have hmi : num ∈ T[i].runs := List.mem_of_getLast? hl3
      have hhi := h.ru i hi num hmi
      have hzn : z ≠ num := fun e => by
        subst e
        by_cases hji : j = i
        · subst hji
          rw [if_pos ⟨rfl, rfl⟩] at hz
          have h9 := h.rn j hj'
          rw [← last_split hl3, List.nodup_append] at h9
          exact h9.2.2 z hz z (by simp) rfl
        · rw [if_neg (fun e => hji e.1)] at hz
          have := h.ru j hj' z hz
          omega
      rw [if_neg (fun e => hzn e.2)]
      split at hz
      · exact h.ru j hj' z (List.dropLast_subset _ hz)
      · exact h.ru j hj' z hz
    · rw [if_neg (fun e => hk3 e.2)] at hz
      rw [if_neg (fun e => hk3 e.1.symm)]
      exact h.ru j hj' z hz
  · have hj' : j < T.length := by omega
    rw [hr j hj' hj]
    split
    · exact (h.rn j hj').sublist (List.dropLast_sublist _)
    · exact h.rn j hj'
end
end Go.Proofs.Ythhlglbohibekaa
namespace Go.Proofs.Ythhlglbohibekaa
open Go.RowKit

structure Rel (out : Option Nat) (T : List Tk) (P : List Pk) (fR fB : Nat → Bool) : Prop where
  ln : P.length = T.length
  op : ∀ i (_ : i < T.length) (_ : i < P.length), P[i].ops = T[i].ops ∧ P[i].runs = T[i].runs
  fb : ∀ i (_ : i < T.length), fB i = T[i].bl
  ps : ∀ i (_ : i < T.length) (_ : i < P.length), T[i].bl = false → P[i].pos = T[i].pos
  pb : ∀ i (_ : i < T.length) (_ : i < P.length), T[i].bl = true → P[i].pos < P[i].ops.length ∧ pastP P[i].ops P[i].pos = T[i].pos
  fr : ∀ i (_ : i < T.length), fR i = (decide (out ≠ some i) && tkR T[i])
section
variable {out out' : Option Nat} {T : List Tk} {P : List Pk} {fR fB fR' fB' : Nat → Bool} {L : List (Int × Ob)}
theorem Rel.upd (h : Rel out T P fR fB) (i : Nat) (t : Tk) (p : Pk) (hop : p.ops = t.ops ∧ p.runs = t.runs) (hfb : fB' i = t.bl) (hps : t.bl = false → p.pos = t.pos) (hpb : t.bl = true → p.pos < p.ops.length ∧ pastP p.ops p.pos = t.pos) (hfr : fR' i = (decide (out' ≠ some i) && tkR t)) (hf1 : ∀ j, j ≠ i → fR' j = fR j) (hf2 : ∀ j, j ≠ i → fB' j = fB j) (ho : ∀ j, j ≠ i → decide (out' ≠ some j) = decide (out ≠ some j)) : Rel out' (T.set i t) (P.set i p) fR' fB' := by
  have hl := h.ln
  refine ⟨by rw [List.length_set, List.length_set]; exact hl, fun j h1 h2 => ?_, fun j h1 => ?_, fun j h1 h2 => ?_, fun j h1 h2 => ?_, fun j h1 => ?_⟩
  · rw [List.length_set] at h1 h2
    by_cases e : i = j
    · subst e
      rw [List.getElem_set_self, List.getElem_set_self]
      exact hop
    · rw [List.getElem_set_ne e, List.getElem_set_ne e]
      exact h.op j h1 h2
  · rw [List.length_set] at h1
    by_cases e : i = j
    · subst e
      rw [List.getElem_set_self]
      exact hfb
    · rw [List.getElem_set_ne e, hf2 j (fun e2 => e e2.symm)]
      exact h.fb j h1
  · rw [List.length_set] at h1 h2
    by_cases e : i = j
    · subst e
      rw [List.getElem_set_self, List.getElem_set_self]
      exact hps
    · rw [List.getElem_set_ne e, List.getElem_set_ne e]
      exact h.ps j h1 h2
  · rw [List.length_set] at h1 h2
    by_cases e : i = j
    · subst e
      rw [List.getElem_set_self, List.getElem_set_self]
      exact hpb
    · rw [List.getElem_set_ne e, List.getElem_set_ne e]
      exact h.pb j h1 h2
  · rw [List.length_set] at h1
    by_cases e : i = j
    · subst e
      rw [List.getElem_set_self]
      exact hfr
    · rw [List.getElem_set_ne e, hf1 j (fun e2 => e e2.symm), ho j (fun e2 => e e2.symm)]
      exact h.fr j h1
theorem goF_at (n : Nat) (f : Nat → Bool) (i a : Nat) (hf : f i = false) : goF n f i a i = decide (a < n) := by
  unfold goF
  split
  · rename_i h
    rw [decide_eq_true h]
    exact setF_same
  · rename_i h
    rw [decide_eq_false h]
    exact hf
theorem Rel.wake : ∀ (l : List Int) {T : List Tk} {P : List Pk} {fR fB : Nat → Bool}, Rel out T P fR fB → WkOk P fR fB l → (∀ n : Nat, (n : Int) ∈ l → out ≠ some n) → Rel out (wakeT T l) (wk P fR fB l).1 (wk P fR fB l).2.1 (wk P fR fB l).2.2
  | [], T, P, fR, fB, h, _, _ => h
  | o :: l, T, P, fR, fB, h, hw, ho => by
    obtain ⟨n, rfl, hn, h1, h2, h3, h4⟩ := hw.ok o (by simp)
    have hT : n < T.length := by rw [← h.ln]; exact hn
    have hbl : T[n].bl = true := by rw [← h.fb n hT]; exact h1
    obtain ⟨p1, p2⟩ := h.pb n hT hn hbl
    have e1 : wake1 T ((n : Int)).toNat = T.set n { T[n] with bl := false } := by
      unfold wake1
      rw [Int.toNat_natCast, List.getElem?_eq_getElem hT]
    rw [wakeT, e1, wk_cons hn]
    have hout : decide (out ≠ some n) = true := decide_eq_true (ho n (by simp))
    refine Rel.wake l (h.upd n _ _ ?_ ?_ ?_ ?_ ?_ ?_ ?_ ?_) (hw.tail hn _) (fun m hm => ho m (List.mem_cons_of_mem _ hm))
    · exact h.op n hT hn
    · exact setF_same
    · intro _
      exact p2
    · intro h9
      cases h9
    · rw [goF_at _ _ _ _ h2, hout, Bool.true_and, p2, (h.op n hT hn).1]
      rfl
    · intro j hj
      exact goF_ne _ _ _ _ _ hj
    · intro j hj
      exact setF_ne _ _ _ _ hj
    · intro j _
      rfl
theorem Rel.wkOk {k : Nat} (h : Rel out T P fR fB) (hI : Inv T L) (hS : StOk k T L) (i : Nat) (x : Opx) (kk num : Int) (hk : 0 ≤ kk ∧ kk ≤ 3) : WkOk P fR fB (freeA (obG L kk num) (i : Int) x).1 := by
  have hok := (obG_at L kk num).2
  have hw := freeA_wait (obG L kk num) (i : Int) x (by rw [hok]; exact hk) (fun z hz => by
    obtain ⟨n, e, _⟩ := hI.wb kk num z hz
    omega)
  have hnd := hI.wn kk num
  rw [hw] at hnd
  refine ⟨(List.nodup_append.1 hnd).1, fun o ho => ?_⟩
  obtain ⟨n, e, hn, hb⟩ := hI.wb kk num o (by rw [hw]; exact List.mem_append_left _ ho)
  have hP : n < P.length := by rw [h.ln]; exact hn
  obtain ⟨q1, q2, q3⟩ := hS.tk.at hn
  have p1 := (h.pb n hn hP hb).1
  refine ⟨n, e, hP, by rw [h.fb n hn]; exact hb, ?_, by rw [(h.op n hn hP).1]; exact q1, by omega⟩
  rw [h.fr n hn]
  unfold tkR
  rw [hb]
  simp
theorem free_len {k : Nat} (hI : Inv T L) (hS : StOk k T L) (i : Nat) (x : Opx) (kk num : Int) (hk : 0 ≤ kk ∧ kk ≤ 3) : (freeA (obG L kk num) (i : Int) x).1.length ≤ k ∧ ∀ z ∈ (freeA (obG L kk num) (i : Int) x).1, ∃ n : Nat, z = (n : Int) ∧ ∃ h : n < T.length, T[n].bl = true := by
  have hok := (obG_at L kk num).2
  have hw := freeA_wait (obG L kk num) (i : Int) x (by rw [hok]; exact hk) (fun z hz => by
    obtain ⟨n, e, _⟩ := hI.wb kk num z hz
    omega)
  have hl := congrArg List.length hw
  rw [List.length_append] at hl
  have ho := (ObOk.get hS.ob kk num).ln
  have hl2 : (wtr (obG L kk num)).length ≤ k := by
    unfold wtr
    split
    · rw [List.length_map]
      omega
    · omega
  exact ⟨by omega, fun z hz => hI.wb kk num z (by rw [hw]; exact List.mem_append_left _ hz)⟩
theorem AskOk.of {k : Nat} (hS : StOk k T L) (hk : k < 65536) (kk num : Int) : AskOk L kk num :=
  ⟨Nat.lt_of_le_of_lt (ObOk.get hS.ob kk num).ln hk, (ObOk.get hS.ob kk num).gh⟩
def askT (t : Tk) (x : Opx) (a : Int) : Tk :=
  if a = 3 then { t with pos := pastP t.ops t.pos, bl := true }
  else if a = 4 then { t with pos := pastP t.ops t.pos }
  else if a = 2 then { t with pos := t.pos + 1, runs := t.runs ++ [x.2.1] }
  else { t with pos := t.pos + 1 }
theorem setBl_set (i : Nat) (hi : i < T.length) (t : Tk) (b : Bool) : setBl (T.set i t) i b = T.set i { t with bl := b } := by
  unfold setBl
  rw [List.getElem?_set_self hi]
  simp only [List.set_set]
theorem stR_eq (i : Nat) (hi : i < T.length) (hp : T[i].pos < T[i].ops.length) : stR T L i = (((i : Int), (T[i].pos : Int), (acR (T.set i { T[i] with pos := T[i].pos + 1 }) L i T[i].ops[T[i].pos]).2.1), setBl (acR (T.set i { T[i] with pos := T[i].pos + 1 }) L i T[i].ops[T[i].pos]).2.2.1 i ((acR (T.set i { T[i] with pos := T[i].pos + 1 }) L i T[i].ops[T[i].pos]).1 && ((acR (T.set i { T[i] with pos := T[i].pos + 1 }) L i T[i].ops[T[i].pos]).2.1 == 0)), (acR (T.set i { T[i] with pos := T[i].pos + 1 }) L i T[i].ops[T[i].pos]).2.2.2) := by
  unfold stR
  rw [List.getElem?_eq_getElem hi]
  simp only
  rw [List.getElem?_eq_getElem hp]
end
end Go.Proofs.Ythhlglbohibekaa
namespace Go.Proofs.Ythhlglbohibekaa
open Go.RowKit

theorem hw_T (t : Tk) (x : Opx) (B : Bool) (Z : Int) (hb : t.bl = false) (hp : pastP t.ops t.pos = t.pos + 1) : ({ t with pos := t.pos + 1, bl := (!B && (Z == 0)) } : Tk) = askT t x (hwA B Z) := by
  obtain ⟨ops, pos, bl, runs⟩ := t
  simp only at hb hp
  subst hb
  unfold askT hwA
  simp only [hp]
  by_cases hz : Z = 0
  · subst hz
    cases B
    · simp
    · simp
  · have : (Z == 0) = false := beq_eq_false_iff_ne.2 hz
    simp [hz]
section
variable {T : List Tk} {L : List (Int × Ob)}
theorem stR_ask (i : Nat) (hi : i < T.length) (hb : T[i].bl = false) (hp : T[i].pos < T[i].ops.length) (x : Opx) (hx : T[i].ops[T[i].pos] = x) (hk : x.1 = 1 ∨ x.1 = 3 ∨ x.1 = 6 ∨ x.1 = 7) (k : Int) (hn : nmK x = k + 1) (hk0 : 0 ≤ k) : stR T L i = (((i : Int), (T[i].pos : Int), (askA (obG L k x.2.1) (i : Int) x).2.1), T.set i (askT T[i] x (askA (obG L k x.2.1) (i : Int) x).1), obPut L k x.2.1 (askA (obG L k x.2.1) (i : Int) x).2.2) := by
  rw [stR_eq i hi hp, hx]
  have hl1 : i < (T.set i { T[i] with pos := T[i].pos + 1 }).length := by rw [List.length_set]; exact hi
  have hone : x.1 ≠ 7 → pastP T[i].ops T[i].pos = T[i].pos + 1 := fun h => pastP_one _ _ hp (by rw [hx]; exact h)
  have hdo : x.1 = 7 → pastP T[i].ops T[i].pos = pastL (T[i].ops.drop (T[i].pos + 1)) (T[i].pos + 1) 1 := fun h => pastP_do _ _ hp (by rw [hx]; exact h)
  have hok := (obG_at L k x.2.1).2
  have hset := fun t' b => setBl_set (T := T) i hi t' b
  have hget : (T.set i { T[i] with pos := T[i].pos + 1 })[i]? = some { T[i] with pos := T[i].pos + 1 } := List.getElem?_set_self hi
  generalize hto : T[i] = t at *
  clear hto
  obtain ⟨x1, num, n⟩ := x
  simp only at hk hone hdo hok ⊢
  rcases hk with rfl | rfl | rfl | rfl
  · have hp1 := hone (by decide)
    by_cases hn0 : n = 0
    · subst hn0
      have e : k = 0 := by unfold nmK at hn; simp at hn; omega
      subst e
      have ea : askA (obG L 0 num) (i : Int) (1, num, 0) = (hwA (lockB (obG L 0 num).h (obG L 0 num).l i) (lockZ (obG L 0 num).h (obG L 0 num).l i), lockZ (obG L 0 num).h (obG L 0 num).l i, mxLk (obG L 0 num) i) := by unfold askA; rw [if_pos hok]
      have er : acR (T.set i { t with pos := t.pos + 1 }) L i (1, num, 0) = (!lockB (obG L 0 num).h (obG L 0 num).l i, lockZ (obG L 0 num).h (obG L 0 num).l i, T.set i { t with pos := t.pos + 1 }, obPut L 0 num (mxLk (obG L 0 num) i)) := by unfold acR lkR; simp
      rw [er, ea]
      simp only [hset]
      rw [hw_T t (1, num, 0) _ _ hb hp1]
    · by_cases hn1 : n = 1
      · subst hn1
        have e : k = 1 := by unfold nmK at hn; simp at hn; omega
        subst e
        have ea : askA (obG L 1 num) (i : Int) (1, num, 1) = (hwA (rwB (obG L 1 num).l (obG L 1 num).b (obG L 1 num).q i false) (rwZ (obG L 1 num).l (obG L 1 num).q i), rwZ (obG L 1 num).l (obG L 1 num).q i, rwLk (obG L 1 num) i false) := by unfold askA; rw [if_neg (by rw [hok]; decide), if_pos hok]; rfl
        have er : acR (T.set i { t with pos := t.pos + 1 }) L i (1, num, 1) = (!rwB (obG L 1 num).l (obG L 1 num).b (obG L 1 num).q i false, rwZ (obG L 1 num).l (obG L 1 num).q i, T.set i { t with pos := t.pos + 1 }, obPut L 1 num (rwLk (obG L 1 num) i false)) := by unfold acR lkR; simp
        rw [er, ea]
        simp only [hset]
        rw [hw_T t (1, num, 1) _ _ hb hp1]
      · exfalso
        unfold nmK at hn
        simp [hn0, hn1] at hn
        omega
  · have hp1 := hone (by decide)
    have e : k = 1 := by unfold nmK at hn; simp at hn; omega
    subst e
    have ea : askA (obG L 1 num) (i : Int) (3, num, n) = (hwA (rwB (obG L 1 num).l (obG L 1 num).b (obG L 1 num).q i true) (rwZ (obG L 1 num).l (obG L 1 num).q i), rwZ (obG L 1 num).l (obG L 1 num).q i, rwLk (obG L 1 num) i true) := by unfold askA; rw [if_neg (by rw [hok]; decide), if_pos hok]; rfl
    have er : acR (T.set i { t with pos := t.pos + 1 }) L i (3, num, n) = (!rwB (obG L 1 num).l (obG L 1 num).b (obG L 1 num).q i true, rwZ (obG L 1 num).l (obG L 1 num).q i, T.set i { t with pos := t.pos + 1 }, obPut L 1 num (rwLk (obG L 1 num) i true)) := by unfold acR lkR; simp
    rw [er, ea]
    simp only [hset]
    rw [hw_T t (3, num, n) _ _ hb hp1]
  · have hp1 := hone (by decide)
    have e : k = 2 := by unfold nmK at hn; simp at hn; omega
    subst e
    have ea : askA (obG L 2 num) (i : Int) (6, num, n) = (hwA (gWB (obG L 2 num).h (obG L 2 num).l i) (gWZ (obG L 2 num).l i), gWZ (obG L 2 num).l i, grWt (obG L 2 num) i) := by unfold askA; rw [if_neg (by rw [hok]; decide), if_neg (by rw [hok]; decide), if_pos hok]
    have er : acR (T.set i { t with pos := t.pos + 1 }) L i (6, num, n) = (!gWB (obG L 2 num).h (obG L 2 num).l i, gWZ (obG L 2 num).l i, T.set i { t with pos := t.pos + 1 }, obPut L 2 num (grWt (obG L 2 num) i)) := by unfold acR; simp
    rw [er, ea]
    simp only [hset]
    rw [hw_T t (6, num, n) _ _ hb hp1]
  · have hp1 := hdo rfl
    have e : k = 3 := by unfold nmK at hn; simp at hn; omega
    subst e
    have ea : askA (obG L 3 num) (i : Int) (7, num, n) = (onA (obG L 3 num) i, oDZ (obG L 3 num).h (obG L 3 num).l i, onDo (obG L 3 num) i) := by unfold askA; rw [if_neg (by rw [hok]; decide), if_neg (by rw [hok]; decide), if_neg (by rw [hok]; decide)]
    have er : acR (T.set i { t with pos := t.pos + 1 }) L i (7, num, n) = ocR (T.set i { t with pos := t.pos + 1 }) L i (7, num, n) := by unfold acR; simp
    rw [er, ea]
    unfold ocR
    rw [hget]
    simp only
    rw [if_neg (by decide)]
    unfold onA
    have hrw : oDR (obG L 3 num).h (obG L 3 num).b (obG L 3 num).l (i : Int) = true → oDW (obG L 3 num).h (obG L 3 num).b (obG L 3 num).l (i : Int) = false := fun hr => by
      unfold oDR at hr
      unfold oDW
      have := of_decide_eq_true hr
      exact decide_eq_false (fun h => h.2.2 this.2.2)
    generalize oDZ (obG L 3 num).h (obG L 3 num).l (i : Int) = Z
    generalize oDW (obG L 3 num).h (obG L 3 num).b (obG L 3 num).l (i : Int) = W at *
    generalize oDR (obG L 3 num).h (obG L 3 num).b (obG L 3 num).l (i : Int) = R at *
    obtain ⟨ops, pos, bl, runs⟩ := t
    simp only at hb hp1
    subst hb
    by_cases hz : Z = 0
    · subst hz
      cases R with
      | true =>
        have hW := hrw rfl
        subst hW
        simp [hset, askT]
      | false =>
        cases W with
        | true => simp [hset, askT, hp1]
        | false => simp [hset, askT, hp1]
    · rw [if_pos hz, if_pos hz]
      simp only [hset]
      simp [askT]
theorem free_T (i : Nat) (hi : i < T.length) (t0 : Tk) (l : List Int) (hl : ∀ z ∈ l, 0 ≤ z) (hni : (i : Int) ∉ l) (hb : t0.bl = false) : setBl (wakeT (T.set i { t0 with pos := t0.pos + 1 }) l) i false = (wakeT (T.set i t0) l).set i { t0 with pos := t0.pos + 1 } := by
  have hA : (wakeT (T.set i { t0 with pos := t0.pos + 1 }) l)[i]? = some { t0 with pos := t0.pos + 1 } := by
    rw [wakeT_get l _ i hl, List.getElem?_set_self hi]
    simp [hni]
  have hlen : i < (wakeT (T.set i t0) l).length := by rw [wakeT_length, List.length_set]; exact hi
  unfold setBl
  rw [hA]
  simp only
  apply List.ext_getElem?
  intro j
  by_cases hij : i = j
  · subst hij
    rw [List.getElem?_set_self (by rw [wakeT_length, List.length_set]; exact hi), List.getElem?_set_self hlen]
    obtain ⟨ops, pos, bl, runs⟩ := t0
    simp only at hb
    subst hb
    rfl
  · rw [List.getElem?_set_ne hij, List.getElem?_set_ne hij, wakeT_get l _ j hl, wakeT_get l _ j hl, List.getElem?_set_ne hij, List.getElem?_set_ne hij]
theorem stR_free (i : Nat) (hi : i < T.length) (hb : T[i].bl = false) (hp : T[i].pos < T[i].ops.length) (x : Opx) (hx : T[i].ops[T[i].pos] = x) (hk : x.1 = 2 ∨ x.1 = 4 ∨ x.1 = 5) (k : Int) (hn : nmK x = k + 1) (hk0 : 0 ≤ k) (hl : ∀ z ∈ (freeA (obG L k x.2.1) (i : Int) x).1, 0 ≤ z) (hni : (i : Int) ∉ (freeA (obG L k x.2.1) (i : Int) x).1) : stR T L i = (((i : Int), (T[i].pos : Int), (freeA (obG L k x.2.1) (i : Int) x).2.1), (wakeT T (freeA (obG L k x.2.1) (i : Int) x).1).set i { T[i] with pos := T[i].pos + 1 }, obPut L k x.2.1 (freeA (obG L k x.2.1) (i : Int) x).2.2) ∧ k ≠ 3 := by
  rw [stR_eq i hi hp, hx]
  have hok := (obG_at L k x.2.1).2
  have hfin := free_T i hi T[i] _ hl hni hb
  rw [List.set_getElem_self hi] at hfin
  rw [← hfin]
  clear hfin hl hni
  generalize hto : T[i] = t at *
  clear hto
  obtain ⟨x1, num, n⟩ := x
  simp only at hk hok ⊢
  rcases hk with rfl | rfl | rfl
  · by_cases hn0 : n = 0
    · subst hn0
      have e : k = 0 := by unfold nmK at hn; simp at hn; omega
      subst e
      have ea : freeA (obG L 0 num) (i : Int) (2, num, 0) = (if unZ (obG L 0 num).h i ≠ 0 ∨ unN (obG L 0 num).h (obG L 0 num).l i < 0 then [] else [unN (obG L 0 num).h (obG L 0 num).l i], unZ (obG L 0 num).h i, mxUn (obG L 0 num) i) := by unfold freeA; rw [if_pos hok]
      have er : acR (T.set i { t with pos := t.pos + 1 }) L i (2, num, 0) = (false, unZ (obG L 0 num).h i, (if unZ (obG L 0 num).h i = 0 ∧ 0 ≤ unN (obG L 0 num).h (obG L 0 num).l i then wakeT (T.set i { t with pos := t.pos + 1 }) [unN (obG L 0 num).h (obG L 0 num).l i] else T.set i { t with pos := t.pos + 1 }), obPut L 0 num (mxUn (obG L 0 num) i)) := by unfold acR lkR; simp
      rw [er, ea]
      refine ⟨?_, by decide⟩
      simp only [Bool.false_and]
      by_cases hc : unZ (obG L 0 num).h (i : Int) = 0 ∧ 0 ≤ unN (obG L 0 num).h (obG L 0 num).l (i : Int)
      · rw [if_pos hc, if_neg (fun h => by rcases h with h | h; exact h hc.1; omega)]
      · rw [if_neg hc, if_pos (by
          by_cases h1 : unZ (obG L 0 num).h (i : Int) = 0
          · exact Or.inr (by
              apply Classical.byContradiction
              intro h2
              exact hc ⟨h1, by omega⟩)
          · exact Or.inl h1)]
        rfl
    · by_cases hn1 : n = 1
      · subst hn1
        have e : k = 1 := by unfold nmK at hn; simp at hn; omega
        subst e
        have ea : freeA (obG L 1 num) (i : Int) (2, num, 1) = ((rwU (obG L 1 num).l (obG L 1 num).b (obG L 1 num).q i false).1, rwUZ (obG L 1 num).l (obG L 1 num).b i false, rwUn (obG L 1 num) i false) := by unfold freeA; rw [if_neg (by rw [hok]; decide), if_pos hok]; rfl
        have er : acR (T.set i { t with pos := t.pos + 1 }) L i (2, num, 1) = (false, rwUZ (obG L 1 num).l (obG L 1 num).b i false, wakeT (T.set i { t with pos := t.pos + 1 }) (rwU (obG L 1 num).l (obG L 1 num).b (obG L 1 num).q i false).1, obPut L 1 num (rwUn (obG L 1 num) i false)) := by unfold acR lkR; simp
        rw [er, ea]
        exact ⟨rfl, by decide⟩
      · exfalso
        unfold nmK at hn
        simp [hn0, hn1] at hn
        omega
  · have e : k = 1 := by unfold nmK at hn; simp at hn; omega
    subst e
    have ea : freeA (obG L 1 num) (i : Int) (4, num, n) = ((rwU (obG L 1 num).l (obG L 1 num).b (obG L 1 num).q i true).1, rwUZ (obG L 1 num).l (obG L 1 num).b i true, rwUn (obG L 1 num) i true) := by unfold freeA; rw [if_neg (by rw [hok]; decide), if_pos hok]; rfl
    have er : acR (T.set i { t with pos := t.pos + 1 }) L i (4, num, n) = (false, rwUZ (obG L 1 num).l (obG L 1 num).b i true, wakeT (T.set i { t with pos := t.pos + 1 }) (rwU (obG L 1 num).l (obG L 1 num).b (obG L 1 num).q i true).1, obPut L 1 num (rwUn (obG L 1 num) i true)) := by unfold acR lkR; simp
    rw [er, ea]
    exact ⟨rfl, by decide⟩
  · have e : k = 2 := by unfold nmK at hn; simp at hn; omega
    subst e
    have ea : freeA (obG L 2 num) (i : Int) (5, num, n) = (gAO (obG L 2 num).h (obG L 2 num).l n, gAZ (obG L 2 num).h n, grAd (obG L 2 num) n) := by unfold freeA; rw [if_neg (by rw [hok]; decide), if_neg (by rw [hok]; decide), if_pos hok]
    have er : acR (T.set i { t with pos := t.pos + 1 }) L i (5, num, n) = (false, gAZ (obG L 2 num).h n, wakeT (T.set i { t with pos := t.pos + 1 }) (gAO (obG L 2 num).h (obG L 2 num).l n), obPut L 2 num (grAd (obG L 2 num) n)) := by unfold acR; simp
    rw [er, ea]
    exact ⟨rfl, by decide⟩
theorem stR_end (i : Nat) (hi : i < T.length) (hb : T[i].bl = false) (hp : T[i].pos < T[i].ops.length) (x : Opx) (hx : T[i].ops[T[i].pos] = x) (hk : x.1 = 8) (hlast : T[i].runs.getLast? = some x.2.1) (hl : ∀ z ∈ (freeA (obG L 3 x.2.1) (i : Int) x).1, 0 ≤ z) (hni : (i : Int) ∉ (freeA (obG L 3 x.2.1) (i : Int) x).1) : stR T L i = (((i : Int), (T[i].pos : Int), (freeA (obG L 3 x.2.1) (i : Int) x).2.1), (wakeT (T.set i { T[i] with runs := T[i].runs.dropLast }) (freeA (obG L 3 x.2.1) (i : Int) x).1).set i { T[i] with pos := T[i].pos + 1, runs := T[i].runs.dropLast }, obPut L 3 x.2.1 (freeA (obG L 3 x.2.1) (i : Int) x).2.2) := by
  rw [stR_eq i hi hp, hx]
  have hok := (obG_at L 3 x.2.1).2
  have hfin := free_T i hi { T[i] with runs := T[i].runs.dropLast } _ hl hni hb
  rw [← hfin]
  clear hfin hl hni
  have hget : (T.set i { T[i] with pos := T[i].pos + 1 })[i]? = some { T[i] with pos := T[i].pos + 1 } := List.getElem?_set_self hi
  generalize hto : T[i] = t at *
  clear hto
  obtain ⟨x1, num, n⟩ := x
  simp only at hk hok hlast ⊢
  subst hk
  have ea : freeA (obG L 3 num) (i : Int) (8, num, n) = (oEO (obG L 3 num).h (obG L 3 num).l i, oEZ (obG L 3 num).h i, onEnd (obG L 3 num) i) := by unfold freeA; rw [if_neg (by rw [hok]; decide), if_neg (by rw [hok]; decide), if_neg (by rw [hok]; decide)]
  have er : acR (T.set i { t with pos := t.pos + 1 }) L i (8, num, n) = (false, oEZ (obG L 3 num).h i, wakeT (T.set i { t with pos := t.pos + 1, runs := t.runs.dropLast }) (oEO (obG L 3 num).h (obG L 3 num).l i), obPut L 3 num (onEnd (obG L 3 num) i)) := by
    unfold acR
    simp only
    rw [if_neg (by decide), if_neg (by decide), if_neg (by decide), if_pos (by decide)]
    unfold ocR
    rw [hget]
    simp [hlast]
  rw [er, ea]
  rfl
theorem stR_no (i : Nat) (hi : i < T.length) (hb : T[i].bl = false) (hp : T[i].pos < T[i].ops.length) (x : Opx) (hx : T[i].ops[T[i].pos] = x) (hk : (nmK x = 0 ∧ x.1 ≠ 9) ∨ (x.1 = 8 ∧ T[i].runs.getLast? ≠ some x.2.1)) : stR T L i = (((i : Int), (T[i].pos : Int), 1), T.set i { T[i] with pos := T[i].pos + 1 }, L) := by
  rw [stR_eq i hi hp, hx]
  have hset := fun t' b => setBl_set (T := T) i hi t' b
  have hget : (T.set i { T[i] with pos := T[i].pos + 1 })[i]? = some { T[i] with pos := T[i].pos + 1 } := List.getElem?_set_self hi
  generalize hto : T[i] = t at *
  clear hto
  obtain ⟨x1, num, n⟩ := x
  simp only at hk ⊢
  have er : acR (T.set i { t with pos := t.pos + 1 }) L i (x1, num, n) = (false, 1, T.set i { t with pos := t.pos + 1 }, L) := by
    rcases hk with ⟨h0, h9⟩ | ⟨rfl, hlast⟩
    · unfold nmK at h0
      simp only at h0
      unfold acR lkR
      simp only
      have g5 : x1 ≠ 5 := fun e => by rw [e] at h0; simp at h0
      have g6 : x1 ≠ 6 := fun e => by rw [e] at h0; simp at h0
      have g7 : x1 ≠ 7 := fun e => by rw [e] at h0; simp at h0
      have g8 : x1 ≠ 8 := fun e => by rw [e] at h0; simp at h0
      have g3 : x1 ≠ 3 := fun e => by rw [e] at h0; simp at h0
      have g4 : x1 ≠ 4 := fun e => by rw [e] at h0; simp at h0
      have gn : x1 = 1 ∨ x1 = 2 → n ≠ 0 ∧ n ≠ 1 := fun e => by
        rw [if_pos e] at h0
        refine ⟨fun e2 => ?_, fun e2 => ?_⟩
        · rw [e2] at h0
          simp at h0
        · rw [e2] at h0
          simp at h0
      rw [if_neg h9, if_neg g5, if_neg g6, if_neg (by omega), if_neg (fun e => (gn (Or.inl e.1)).1 e.2), if_neg (fun e => by rcases e with e | e; exact (gn (Or.inl e.1)).2 e.2; exact g3 e), if_neg (fun e => (gn (Or.inr e.1)).1 e.2), if_neg (fun e => by rcases e with e | e; exact (gn (Or.inr e.1)).2 e.2; exact g4 e)]
    · unfold acR
      simp only
      rw [if_neg (by decide), if_neg (by decide), if_neg (by decide), if_pos (by decide)]
      unfold ocR
      rw [hget]
      simp [hlast]
  rw [er]
  simp only [hset]
  obtain ⟨ops, pos, bl, runs⟩ := t
  simp only at hb
  subst hb
  simp
theorem stR_yield (i : Nat) (hi : i < T.length) (hb : T[i].bl = false) (hp : T[i].pos < T[i].ops.length) (x : Opx) (hx : T[i].ops[T[i].pos] = x) (hk : x.1 = 9) : stR T L i = (((i : Int), (T[i].pos : Int), 0), T.set i { T[i] with pos := T[i].pos + 1 }, L) := by
  rw [stR_eq i hi hp, hx]
  have hset := fun t' b => setBl_set (T := T) i hi t' b
  generalize hto : T[i] = t at *
  clear hto
  have er : acR (T.set i { t with pos := t.pos + 1 }) L i x = (false, 0, T.set i { t with pos := t.pos + 1 }, L) := by
    unfold acR
    rw [if_pos hk]
  rw [er]
  simp only [hset]
  obtain ⟨ops, pos, bl, runs⟩ := t
  simp only at hb
  subst hb
  simp
end
end Go.Proofs.Ythhlglbohibekaa
namespace Go.Proofs.Ythhlglbohibekaa
open Go.RowKit

theorem askA_two {o : Ob} {t : Int} {x : Opx} (hk : 0 ≤ o.k ∧ o.k ≤ 3) (h : (askA o t x).1 = 2) : o.k = 3 := by
  have hw : ∀ B Z, hwA B Z ≠ 2 := fun B Z h9 => by
    unfold hwA at h9
    split at h9
    · cases h9
    · split at h9
      · cases h9
      · cases h9
  unfold askA at h
  split at h
  · exact absurd h (hw _ _)
  · split at h
    · exact absurd h (hw _ _)
    · split at h
      · exact absurd h (hw _ _)
      · omega
structure Both (w : World) (base : Nat) (ro : Nat → Option Who) (y : Lay) (out : Option Nat) (T : List Tk) (L : List (Int × Ob)) : Prop where
  ex : ∃ tv od P fR fB, PkAt w base ro y tv od P fR fB L ∧ Rel out T P fR fB
  iv : Inv T L
section
variable {w w' w1 : World} {base : Nat} {ro ro' : Nat → Option Who} {y : Lay} {tv : List Tv} {od : List Nat} {P : List Pk} {fR fB : Nat → Bool} {L : List (Int × Ob)} {T : List Tk} {out : Option Nat}
theorem Rel.mine {i : Nat} (h : Rel (some i) T P fR fB) (hi : i < T.length) (hb : T[i].bl = false) : ∃ hP : i < P.length, P[i].pos = T[i].pos ∧ P[i].ops = T[i].ops ∧ P[i].runs = T[i].runs ∧ fR i = false ∧ fB i = false := by
  have hP : i < P.length := by rw [h.ln]; exact hi
  refine ⟨hP, h.ps i hi hP hb, (h.op i hi hP).1, (h.op i hi hP).2, ?_, ?_⟩
  · rw [h.fr i hi]
    simp
  · rw [h.fb i hi]
    exact hb
theorem none_ne (i j : Nat) (h : j ≠ i) : decide ((none : Option Nat) ≠ some j) = decide (some i ≠ some j) := by
  rw [decide_eq_true (by simp), decide_eq_true (by simpa using fun e => h e.symm)]
theorem Rel.goes {i : Nat} (h : Rel (some i) T P fR fB) (hi : i < T.length) (hb : T[i].bl = false) (hP : i < P.length) (a : Nat) (r : List Int) (p : Pk) (hp : p = ⟨P[i].ops, a, r⟩) : Rel none (T.set i { T[i] with pos := a, runs := r }) (P.set i p) (goF P[i].ops.length fR i a) fB := by
  obtain ⟨_, h1, h2, h3, h4, h5⟩ := h.mine hi hb
  subst hp
  refine h.upd i _ _ ⟨h2, rfl⟩ ?_ ?_ ?_ ?_ ?_ ?_ ?_
  · rw [h5]
    exact hb.symm
  · intro _
    rfl
  · intro h9
    simp only at h9
    rw [hb] at h9
    cases h9
  · rw [goF_at _ _ _ _ h4]
    unfold tkR
    simp [hb, h2]
  · intro j hj
    exact goF_ne _ _ _ _ _ hj
  · intro j _
    rfl
  · intro j hj
    exact none_ne i j hj
theorem Inv.place (h : Inv T L) (i : Nat) (hi : i < T.length) (a : Nat) : Inv (T.set i { T[i] with pos := a }) L := by
  refine h.tasks (by rw [List.length_set]) (fun n h1 h2 hb => ?_) (fun n h1 h2 => ?_)
  · rw [List.getElem_set]
    split
    · rename_i e
      subst e
      exact hb
    · exact hb
  · rw [List.getElem_set]
    split
    · rename_i e
      subst e
      rfl
    · rfl
set_option maxHeartbeats 1600000 in
theorem pk_askR {k i : Nat} {x : Opx} (h : PkAt w base ro y tv od P fR fB L) (hR : Rel (some i) T P fR fB) (hI : Inv T L) (hS : StOk k T L) (hk : k < 65535) (hi : i < T.length) (hb : T[i].bl = false) (hp : T[i].pos < T[i].ops.length) (hx : T[i].ops[T[i].pos] = x) (ho : okI x.2.1 ∧ okI x.2.2) (hkd : x.1 = 1 ∨ x.1 = 3 ∨ x.1 = 6 ∨ x.1 = 7) :
    Calls Try.prog 47 #[.pointer (some ⟨y.D, 0, none⟩), .int .i64 (i : Int), .agg #[.int .i64 x.1, .int .i64 x.2.1, .int .i64 x.2.2]] w fun e w' => e = .returned (.int .i64 (stR T L i).1.2.2) ∧ ∃ ro', Both w' base ro' y none (stR T L i).2.1 (stR T L i).2.2 ∧ Kept w w' (fun b => ro b ≠ none) (fun b => ro' b ≠ none) := by
  obtain ⟨hP, h1, h2, h3, h4, h5⟩ := hR.mine hi hb
  obtain ⟨q1, q2, q3⟩ := hS.tk.at hi
  have hq1 : P[i].ops.length ≤ 65536 := by rw [h2]; exact q1
  have hq2 : P[i].pos ≤ P[i].ops.length := by rw [h1, h2]; exact q2
  by_cases hn0 : nmK x = 0
  · have est := stR_no (L := L) i hi hb hp x hx (Or.inl ⟨hn0, by omega⟩)
    rw [est]
    refine (pk_ask_none h i hP x ho.1 hn0 h4 (by omega)).mono ?_
    rintro e w2 ⟨rfl, h9, k9⟩
    refine ⟨rfl, ro, ⟨⟨_, _, _, _, _, h9, ?_⟩, hI.place i hi _⟩, k9⟩
    have := hR.goes hi hb hP (P[i].pos + 1) P[i].runs { P[i] with pos := P[i].pos + 1 } rfl
    rw [h1, h3] at this
    rw [h1]
    exact this
  · obtain ⟨kk, hkk⟩ : ∃ kk : Int, nmK x = kk + 1 := ⟨nmK x - 1, by omega⟩
    have hbd := nmK_bd x
    have hkr : 0 ≤ kk ∧ kk ≤ 3 := by omega
    have est := stR_ask (L := L) i hi hb hp x hx hkd kk hkk hkr.1
    have hok := (obG_at L kk x.2.1).2
    have hAO : AskOk L kk x.2.1 := AskOk.of hS (by omega) kk x.2.1
    have hIv : Inv (T.set i (askT T[i] x (askA (obG L kk x.2.1) (i : Int) x).1)) (obPut L kk x.2.1 (askA (obG L kk x.2.1) (i : Int) x).2.2) := by
      refine hI.ask i hi hb x kk x.2.1 hkr (by rw [List.length_set]) (fun n g1 g2 hor => ?_) (fun n g1 g2 => ?_)
      · rw [List.getElem_set]
        split
        · rename_i e
          subst e
          rcases hor with hor | ⟨_, hor⟩
          · rw [hb] at hor
            cases hor
          · rw [hor]
            rfl
        · rename_i e
          rcases hor with hor | ⟨hor, _⟩
          · exact hor
          · exact absurd hor.symm e
      · rw [List.getElem_set]
        split
        · rename_i e
          subst e
          by_cases ha : (askA (obG L kk x.2.1) (i : Int) x).1 = 2
          · have hk3 : kk = 3 := by rw [← hok]; exact askA_two (by rw [hok]; exact hkr) ha
            rw [if_pos ⟨rfl, hk3, ha⟩, ha]
            rfl
          · rw [if_neg (fun e => ha e.2.2)]
            unfold askT
            split
            · rfl
            · split
              · rfl
              · rfl
        · rename_i e
          rw [if_neg (fun e2 => e e2.1.symm)]
    rw [est]
    by_cases ha3 : (askA (obG L kk x.2.1) (i : Int) x).1 = 3
    · refine (pk_ask_wait h i hP x ho.1 ho.2 kk hkk hkr hAO ha3 h5).mono ?_
      rintro e w2 ⟨rfl, ro2, tv2, od2, h9, k9⟩
      refine ⟨rfl, ro2, ⟨⟨_, _, _, _, _, h9, ?_⟩, hIv⟩, k9⟩
      rw [ha3]
      have e1 : P.set i P[i] = P := List.set_getElem_self hP
      have := hR.upd (out' := none) (fR' := fR) (fB' := setF fB i true) i (askT T[i] x 3) P[i] ⟨h2, h3⟩ setF_same (fun h9 => by cases h9) (fun _ => ⟨by rw [h1, h2]; exact hp, by rw [h1, h2]; rfl⟩) (by rw [h4]; unfold tkR; simp [askT]) (fun _ _ => rfl) (fun j hj => setF_ne _ _ _ _ hj) (fun j hj => none_ne i j hj)
      rw [e1] at this
      exact this
    · by_cases ha4 : (askA (obG L kk x.2.1) (i : Int) x).1 = 4
      · refine (pk_ask_miss h i hP x ho.1 ho.2 kk hkk hkr hAO ha4 h4 hq1 hq2).mono ?_
        rintro e w2 ⟨rfl, ro2, tv2, od2, h9, k9⟩
        refine ⟨rfl, ro2, ⟨⟨_, _, _, _, _, h9, ?_⟩, hIv⟩, k9⟩
        rw [ha4]
        have := hR.goes hi hb hP (pastP P[i].ops P[i].pos) P[i].runs { P[i] with pos := pastP P[i].ops P[i].pos } rfl
        have e2 : askT T[i] x 4 = { T[i] with pos := pastP P[i].ops P[i].pos, runs := P[i].runs } := by rw [h1, h2, h3]; rfl
        rw [e2]
        exact this
      · by_cases ha2 : (askA (obG L kk x.2.1) (i : Int) x).1 = 2
        · refine (pk_ask_run h i hP x ho.1 ho.2 kk hkk hkr hAO ha2 h4 (by omega) (by rw [h3]; omega)).mono ?_
          rintro e w2 ⟨rfl, ro2, tv2, od2, h9, k9⟩
          refine ⟨rfl, ro2, ⟨⟨_, _, _, _, _, h9, ?_⟩, hIv⟩, k9⟩
          rw [ha2]
          have := hR.goes hi hb hP (P[i].pos + 1) (P[i].runs ++ [x.2.1]) ⟨P[i].ops, P[i].pos + 1, P[i].runs ++ [x.2.1]⟩ rfl
          have e2 : askT T[i] x 2 = { T[i] with pos := P[i].pos + 1, runs := P[i].runs ++ [x.2.1] } := by rw [h1, h3]; rfl
          rw [e2]
          exact this
        · refine (pk_ask_go h i hP x ho.1 ho.2 kk hkk hkr hAO ⟨ha3, ha4, ha2⟩ h4 (by omega)).mono ?_
          rintro e w2 ⟨rfl, ro2, tv2, od2, h9, k9⟩
          refine ⟨rfl, ro2, ⟨⟨_, _, _, _, _, h9, ?_⟩, hIv⟩, k9⟩
          have := hR.goes hi hb hP (P[i].pos + 1) P[i].runs { P[i] with pos := P[i].pos + 1 } rfl
          have e2 : askT T[i] x (askA (obG L kk x.2.1) (i : Int) x).1 = { T[i] with pos := P[i].pos + 1, runs := P[i].runs } := by
            unfold askT
            rw [if_neg ha3, if_neg ha4, if_neg ha2, h1, h3]
          rw [e2]
          exact this
end
end Go.Proofs.Ythhlglbohibekaa
namespace Go.Proofs.Ythhlglbohibekaa
open Go.RowKit

section
variable {w w' w1 : World} {base : Nat} {ro ro' : Nat → Option Who} {y : Lay} {tv : List Tv} {od : List Nat} {P : List Pk} {fR fB : Nat → Bool} {L : List (Int × Ob)} {T : List Tk} {out : Option Nat}
theorem wakeT_at (l : List Int) (hl : ∀ z ∈ l, 0 ≤ z) (n : Nat) (h1 : n < T.length) (h2 : n < (wakeT T l).length) : (wakeT T l)[n] = if (n : Int) ∈ l then { T[n] with bl := false } else T[n] := by
  have := wakeT_get l T n hl
  rw [List.getElem?_eq_getElem h1, List.getElem?_eq_getElem h2] at this
  exact Option.some.inj this
set_option maxHeartbeats 1600000 in
theorem pk_freeR {k i : Nat} {x : Opx} (h : PkAt w base ro y tv od P fR fB L) (hR : Rel (some i) T P fR fB) (hI : Inv T L) (hS : StOk k T L) (hk : k < 65535) (hi : i < T.length) (hb : T[i].bl = false) (hp : T[i].pos < T[i].ops.length) (hx : T[i].ops[T[i].pos] = x) (ho : okI x.2.1 ∧ okI x.2.2) (hkd : x.1 = 2 ∨ x.1 = 4 ∨ x.1 = 5 ∨ x.1 = 8) :
    Calls Try.prog 48 #[.pointer (some ⟨y.D, 0, none⟩), .int .i64 (i : Int), .agg #[.int .i64 x.1, .int .i64 x.2.1, .int .i64 x.2.2]] w fun e w' => e = .returned (.int .i64 (stR T L i).1.2.2) ∧ ∃ ro' T', Both w' base ro' y (some i) T' (stR T L i).2.2 ∧ (∃ hT : i < T'.length, T'[i].bl = false ∧ T'[i].pos = T[i].pos ∧ T'[i].ops = T[i].ops ∧ (stR T L i).2.1 = T'.set i { T'[i] with pos := T'[i].pos + 1 }) ∧ Kept w w' (fun b => ro b ≠ none) (fun b => ro' b ≠ none) := by
  obtain ⟨hP, h1, h2, h3, h4, h5⟩ := hR.mine hi hb
  obtain ⟨q1, q2, q3⟩ := hS.tk.at hi
  have stay : ∀ z w2, stR T L i = (((i : Int), (T[i].pos : Int), z), T.set i { T[i] with pos := T[i].pos + 1 }, L) → Below w.heap.size w w2 → Ending.returned (.int .i64 z) = .returned (.int .i64 (stR T L i).1.2.2) ∧ ∃ ro' T', Both w2 base ro' y (some i) T' (stR T L i).2.2 ∧ (∃ hT : i < T'.length, T'[i].bl = false ∧ T'[i].pos = T[i].pos ∧ T'[i].ops = T[i].ops ∧ (stR T L i).2.1 = T'.set i { T'[i] with pos := T'[i].pos + 1 }) ∧ Kept w w2 (fun b => ro b ≠ none) (fun b => ro' b ≠ none) := fun z w2 est b2 => by
    rw [est]
    exact ⟨rfl, ro, T, ⟨⟨_, _, _, _, _, h.fresh b2, hR⟩, hI⟩, ⟨hi, hb, rfl, rfl, rfl⟩, Kept.of b2⟩
  by_cases h8 : x.1 = 8
  · by_cases hlast : T[i].runs.getLast? = some x.2.1
    · have hnk : nmK x = 3 + 1 := by unfold nmK; simp [h8]
      have hok := (obG_at L 3 x.2.1).2
      have hfl := free_len hI hS i x 3 x.2.1 (by decide)
      have hpos : ∀ z ∈ (freeA (obG L 3 x.2.1) (i : Int) x).1, 0 ≤ z := fun z hz => by
        obtain ⟨n, e, _⟩ := hfl.2 z hz
        omega
      have hni : (i : Int) ∉ (freeA (obG L 3 x.2.1) (i : Int) x).1 := fun hm => by
        obtain ⟨n, e, g1, g2⟩ := hfl.2 _ hm
        have : n = i := by omega
        subst this
        rw [hb] at g2
        cases g2
      have hhi := hI.ru i hi x.2.1 (List.mem_of_getLast? hlast)
      have hz0 : (freeA (obG L 3 x.2.1) (i : Int) x).2.1 = 0 := by
        unfold freeA
        rw [if_neg (by rw [hok]; decide), if_neg (by rw [hok]; decide), if_neg (by rw [hok]; decide)]
        show oEZ (obG L 3 x.2.1).h (i : Int) = 0
        unfold oEZ
        rw [if_neg (by omega)]
      have est := stR_end (L := L) i hi hb hp x hx h8 hlast hpos hni
      have hR2 : Rel (some i) (T.set i { T[i] with runs := T[i].runs.dropLast }) (P.set i { P[i] with runs := P[i].runs.dropLast }) fR fB := by
        refine hR.upd i _ _ ⟨h2, by rw [h3]⟩ ?_ ?_ ?_ ?_ ?_ ?_ ?_
        · rw [h5]
          exact hb.symm
        · intro _
          exact h1
        · intro h9
          simp only at h9
          rw [hb] at h9
          cases h9
        · rw [h4]
          simp
        · intro j _
          rfl
        · intro j _
          rfl
        · intro j _
          rfl
      have hwk0 := hR.wkOk hI hS i x 3 x.2.1 (by decide)
      have hwk : WkOk (P.set i { P[i] with runs := P[i].runs.dropLast }) fR fB (freeA (obG L 3 x.2.1) (i : Int) x).1 := by
        refine ⟨hwk0.nd, fun o ho => ?_⟩
        obtain ⟨n, e, g1, g2, g3, g4, g5⟩ := hwk0.ok o ho
        have hne : i ≠ n := fun e2 => hni (Eq.subst (motive := fun z => z ∈ (freeA (obG L 3 x.2.1) (i : Int) x).1) (show o = (i : Int) by omega) ho)
        have e3 : (P.set i { P[i] with runs := P[i].runs.dropLast })[n]'(by rw [List.length_set]; exact g1) = P[n] := List.getElem_set_ne hne _
        exact ⟨n, e, by rw [List.length_set]; exact g1, g2, g3, by rw [e3]; exact g4, by rw [e3]; exact g5⟩
      refine (pk_free_end h i hP x ho.1 ho.2 3 hnk (by decide) (AskOk.of hS (by omega) 3 x.2.1) h8 (by rw [h3]; omega) (by rw [h3]; exact hlast) hz0 hwk (by omega)).mono ?_
      rintro e w2 ⟨rfl, ro2, tv2, od2, h9, k9⟩
      rw [est]
      have hlT : i < (wakeT (T.set i { T[i] with runs := T[i].runs.dropLast }) (freeA (obG L 3 x.2.1) (i : Int) x).1).length := by rw [wakeT_length, List.length_set]; exact hi
      have hTi : (wakeT (T.set i { T[i] with runs := T[i].runs.dropLast }) (freeA (obG L 3 x.2.1) (i : Int) x).1)[i] = { T[i] with runs := T[i].runs.dropLast } := by
        rw [wakeT_at _ hpos i (by rw [List.length_set]; exact hi) hlT, if_neg hni, List.getElem_set_self]
      have hIv : Inv (wakeT (T.set i { T[i] with runs := T[i].runs.dropLast }) (freeA (obG L 3 x.2.1) (i : Int) x).1) (obPut L 3 x.2.1 (freeA (obG L 3 x.2.1) (i : Int) x).2.2) := by
        refine hI.free i hi x 3 x.2.1 (by decide) (by rw [wakeT_length, List.length_set]) (fun _ => hlast) (fun n g1 g2 hbn hnn => ?_) (fun n g1 g2 => ?_)
        · rw [wakeT_at _ hpos n (by rw [List.length_set]; exact g1) g2, if_neg hnn, List.getElem_set]
          split
          · rename_i e
            subst e
            exact hbn
          · exact hbn
        · rw [wakeT_at _ hpos n (by rw [List.length_set]; exact g1) g2]
          have e5 : (if (n : Int) ∈ (freeA (obG L 3 x.2.1) (i : Int) x).1 then ({ (T.set i { T[i] with runs := T[i].runs.dropLast })[n]'(by rw [List.length_set]; exact g1) with bl := false } : Tk) else (T.set i { T[i] with runs := T[i].runs.dropLast })[n]'(by rw [List.length_set]; exact g1)).runs = ((T.set i { T[i] with runs := T[i].runs.dropLast })[n]'(by rw [List.length_set]; exact g1)).runs := by
            split
            · rfl
            · rfl
          rw [e5, List.getElem_set]
          by_cases e : i = n
          · subst e
            rw [if_pos rfl, if_pos ⟨rfl, rfl⟩]
          · rw [if_neg e, if_neg (fun e2 => e e2.1.symm)]
      exact ⟨rfl, ro2, _, ⟨⟨_, _, _, _, _, h9, hR2.wake _ hwk (fun n hn e => hni (by have e2 := Option.some.inj e; subst e2; exact hn))⟩, hIv⟩, ⟨hlT, by rw [hTi]; exact hb, by rw [hTi], by rw [hTi], by rw [hTi]⟩, k9⟩
    · have est := stR_no (L := L) i hi hb hp x hx (Or.inr ⟨h8, hlast⟩)
      refine (pk_free_no h i hP x h8 (by rw [h3]; omega) (by rw [h3]; exact hlast)).mono ?_
      rintro e w2 ⟨rfl, b2⟩
      exact stay 1 w2 est b2
  · by_cases hn0 : nmK x = 0
    · have est := stR_no (L := L) i hi hb hp x hx (Or.inl ⟨hn0, by omega⟩)
      refine (pk_free_none h i hP x ho.1 hn0 h8).mono ?_
      rintro e w2 ⟨rfl, b2⟩
      exact stay 1 w2 est b2
    · obtain ⟨kk, hkk⟩ : ∃ kk : Int, nmK x = kk + 1 := ⟨nmK x - 1, by omega⟩
      have hbd := nmK_bd x
      have hkr : 0 ≤ kk ∧ kk ≤ 3 := by omega
      have hfl := free_len hI hS i x kk x.2.1 hkr
      have hpos : ∀ z ∈ (freeA (obG L kk x.2.1) (i : Int) x).1, 0 ≤ z := fun z hz => by
        obtain ⟨n, e, _⟩ := hfl.2 z hz
        omega
      have hni : (i : Int) ∉ (freeA (obG L kk x.2.1) (i : Int) x).1 := fun hm => by
        obtain ⟨n, e, g1, g2⟩ := hfl.2 _ hm
        have : n = i := by omega
        subst this
        rw [hb] at g2
        cases g2
      obtain ⟨est, hk3⟩ := stR_free (L := L) i hi hb hp x hx (by omega) kk hkk hkr.1 hpos hni
      have hwk := hR.wkOk hI hS i x kk x.2.1 hkr
      refine (pk_free_any h i hP x ho.1 ho.2 kk hkk hkr (AskOk.of hS (by omega) kk x.2.1) h8 hwk (by omega)).mono ?_
      rintro e w2 ⟨rfl, ro2, tv2, od2, h9, k9⟩
      rw [est]
      have hlT : i < (wakeT T (freeA (obG L kk x.2.1) (i : Int) x).1).length := by rw [wakeT_length]; exact hi
      have hTi : (wakeT T (freeA (obG L kk x.2.1) (i : Int) x).1)[i] = T[i] := by rw [wakeT_at _ hpos i hi hlT, if_neg hni]
      have hIv : Inv (wakeT T (freeA (obG L kk x.2.1) (i : Int) x).1) (obPut L kk x.2.1 (freeA (obG L kk x.2.1) (i : Int) x).2.2) := by
        refine hI.free i hi x kk x.2.1 hkr (by rw [wakeT_length]) (fun e => absurd e hk3) (fun n g1 g2 hbn hnn => ?_) (fun n g1 g2 => ?_)
        · rw [wakeT_at _ hpos n g1 g2, if_neg hnn]
          exact hbn
        · have e5 : (if (n : Int) ∈ (freeA (obG L kk x.2.1) (i : Int) x).1 then ({ T[n] with bl := false } : Tk) else T[n]).runs = T[n].runs := by
            split
            · rfl
            · rfl
          rw [wakeT_at _ hpos n g1 g2, e5]
          exact (if_neg (fun e => hk3 e.2)).symm
      exact ⟨rfl, ro2, _, ⟨⟨_, _, _, _, _, h9, hR.wake _ hwk (fun n hn e => hni (by have e2 := Option.some.inj e; subst e2; exact hn))⟩, hIv⟩, ⟨hlT, by rw [hTi]; exact hb, by rw [hTi], by rw [hTi], by rw [hTi]⟩, k9⟩
end
end Go.Proofs.Ythhlglbohibekaa
