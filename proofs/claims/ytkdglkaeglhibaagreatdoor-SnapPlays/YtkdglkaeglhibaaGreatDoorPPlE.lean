/-
  The program's disk and the document's say the same behind a crash, as plain data. No condition.
-/
import Derived.Test.YtkdglkaeglhibaaGreatDoorPPlD
namespace Go.Proofs.YtkdglkaeglhibaaGreatDoor
open Go.RowKit

/-- How many bytes of a piece were appended no later than T. -/
def kP (st : Nat → Nat) (T : Nat) (x : Nat × Nat) : Nat := min x.2 (T - st x.1)
def kT (st : Nat → Nat) (T : Nat) (ps : List (Nat × Nat)) : Nat := (ps.map (kP st T)).sum
def kQ (st : Nat → Nat) (T : Nat) (x : P3) : Nat := min x.2.1 (T - st x.1)
def kD (st : Nat → Nat) (T : Nat) (d : List P3) : Nat := (d.map (kQ st T)).sum
/-- The pieces, cut at T. -/
def cutP (st : Nat → Nat) (T : Nat) (x : P3) : P3 := (x.1, kQ st T x, x.2.2)
def cutC (st : Nat → Nat) (T : Nat) (f : CF) : CF := { f with ps := f.ps.map fun x => (x.1, kP st T x) }
theorem keptA_none (c : Nat) : ∀ (d : List P3), keptA d 0 c = 0
  | [] => rfl
  | x :: d => by
    show (if x.2.2 = c then min x.2.1 0 else 0) + keptA d (0 - min x.2.1 0) c = 0
    rw [Nat.min_zero, Nat.sub_zero, keptA_none c d]
    by_cases h : x.2.2 = c
    · rw [if_pos h]
    · rw [if_neg h]
theorem late (st : Nat → Nat) (T c : Nat) : ∀ (d : List P3), (∀ x ∈ d, T ≤ st x.1) → kD st T d = 0 ∧ sumC (d.map (cutP st T)) c = 0
  | [], _ => ⟨rfl, rfl⟩
  | x :: d, h => by
    obtain ⟨h1, h2⟩ := late st T c d (fun y hy => h y (by simp [hy]))
    have h3 := h x (by simp)
    have h4 : kQ st T x = 0 := by unfold kQ; omega
    constructor
    · unfold kD at h1 ⊢
      rw [List.map_cons, List.sum_cons, h1, h4]
    · rw [List.map_cons]
      show (if x.2.2 = c then kQ st T x else 0) + sumC (d.map (cutP st T)) c = 0
      rw [h2, h4]
      by_cases e : x.2.2 = c
      · rw [if_pos e]
      · rw [if_neg e]
/-- What the program keeps of a file, told by the time T. -/
theorem keptA_cut (st : Nat → Nat) (T c : Nat) : ∀ (d : List P3) (K : Nat), d.Pairwise (fun x y => st x.1 + x.2.1 ≤ st y.1) → (kD st T d = K ∨ (kD st T d ≤ K ∧ ∀ x ∈ d, st x.1 + x.2.1 ≤ T)) → keptA d K c = sumC (d.map (cutP st T)) c
  | [], _, _, _ => rfl
  | x :: d, K, hp, hk => by
    rw [List.pairwise_cons] at hp
    have e1 : kD st T (x :: d) = kQ st T x + kD st T d := by unfold kD; rw [List.map_cons, List.sum_cons]
    rw [e1] at hk
    rw [List.map_cons]
    show (if x.2.2 = c then min x.2.1 K else 0) + keptA d (K - min x.2.1 K) c = (if x.2.2 = c then kQ st T x else 0) + sumC (d.map (cutP st T)) c
    by_cases full : st x.1 + x.2.1 ≤ T
    · have h1 : kQ st T x = x.2.1 := by unfold kQ; omega
      have h2 : min x.2.1 K = x.2.1 := by omega
      rw [h2, keptA_cut st T c d (K - x.2.1) hp.2 (by
        rcases hk with hk | ⟨hk, hk2⟩
        · exact Or.inl (by omega)
        · exact Or.inr ⟨by omega, fun y hy => hk2 y (by simp [hy])⟩), h1]
    · obtain ⟨h3, h4⟩ := late st T c d (fun y hy => by have := hp.1 y hy; omega)
      have hK : kQ st T x = K := by
        rcases hk with hk | ⟨_, hk2⟩
        · omega
        · exact absurd (hk2 x (by simp)) full
      have h2 : min x.2.1 K = K := by
        unfold kQ at hK
        omega
      rw [h2, Nat.sub_self, keptA_none, h4, hK]
theorem allP_cut (st : Nat → Nat) (T : Nat) (A : List CF) : (allP A).map (cutP st T) = allP (A.map (cutC st T)) := by
  unfold allP
  rw [List.map_flatMap, List.flatMap_map]
  rw [List.flatMap_def, List.flatMap_def]
  congr 1
  refine List.map_congr_left fun f _ => ?_
  unfold p3 cutC
  rw [List.map_map, List.map_map]
  rfl
theorem kD_all (st : Nat → Nat) (T : Nat) : ∀ (A : List CF), kD st T (allP A) = (A.map fun f => kT st T f.ps).sum
  | [] => rfl
  | f :: A => by
    have ih := kD_all st T A
    unfold kD at ih ⊢
    unfold allP at ih ⊢
    rw [List.flatMap_cons, List.map_append, List.sum_append, ih, List.map_cons, List.sum_cons]
    congr 1
    unfold p3 kT
    rw [List.map_map]
    rfl
/-- How many of a run were appended no later than T. -/
theorem span_cnt (a T : Nat) : ∀ (k : Nat), ((span a k).map fun s => if s ≤ T then 1 else 0).sum = min k (T - a)
  | 0 => by simp [span]
  | k + 1 => by
    have ih := span_cnt a T k
    unfold span at ih ⊢
    rw [List.range_succ, List.map_append, List.map_append, List.sum_append, ih]
    simp only [List.map_cons, List.map_nil, List.sum_cons, List.sum_nil]
    by_cases h : a + 1 + k ≤ T
    · rw [if_pos h]
      omega
    · rw [if_neg h]
      omega
theorem spans_cnt (st : Nat → Nat) (T : Nat) : ∀ (ps : List (Nat × Nat)), ((spans st ps).map fun s => if s ≤ T then 1 else 0).sum = kT st T ps
  | [] => rfl
  | x :: ps => by
    have ih := spans_cnt st T ps
    unfold spans at ih ⊢
    rw [List.flatMap_cons, List.map_append, List.sum_append, ih, span_cnt]
    unfold kT
    rw [List.map_cons, List.sum_cons]
    rfl
theorem spans_pos {st : Nat → Nat} {ps : List (Nat × Nat)} {s : Nat} (h : s ∈ spans st ps) : 0 < s := by
  unfold spans at h
  obtain ⟨x, _, hs⟩ := List.mem_flatMap.1 h
  have := span_mem hs
  omega
def cntLe (T : Nat) (bs : List BB) : Nat := ((bs.map (·.2)).map fun s => if s ≤ T then 1 else 0).sum
theorem zeros_cnt (T : Nat) : ∀ (n : Nat), ((List.replicate n 0).map fun s => if s ≤ T then 1 else 0).sum = n
  | 0 => rfl
  | n + 1 => by
    rw [List.replicate_succ, List.map_cons, List.sum_cons, zeros_cnt T n, if_pos (Nat.zero_le _)]
    omega
theorem Mt.cnt {st : Nat → Nat} {f : CF} {bs : List BB} {clock : Nat} (h : Mt st f bs clock) (T : Nat) : cntLe T bs = f.sure + kT st T f.ps := by
  unfold cntLe
  rw [h.sp, List.map_append, List.sum_append, zeros_cnt, spans_cnt]
theorem Mt.cntB {st : Nat → Nat} {f : CF} {bs : List BB} {clock : Nat} (h : Mt st f bs clock) (T : Nat) : cntB T bs = kT st T f.ps := by
  have e1 : Go.Proofs.YtkdglkaeglhibaaGreatDoor.cntB T bs = ((bs.map (·.2)).map fun s => if 0 < s ∧ s ≤ T then 1 else 0).sum := by
    unfold Go.Proofs.YtkdglkaeglhibaaGreatDoor.cntB
    rw [List.map_map]
    rfl
  rw [e1, h.sp, List.map_append, List.sum_append, ← spans_cnt]
  have e2 : ((List.replicate f.sure 0).map fun s => if 0 < s ∧ s ≤ T then 1 else 0).sum = 0 := by
    generalize f.sure = n
    induction n with
    | zero => rfl
    | succ n ih =>
      rw [List.replicate_succ, List.map_cons, List.sum_cons, ih, if_neg (by omega)]
  rw [e2, Nat.zero_add]
  congr 1
  refine List.map_congr_left fun s hs => ?_
  have := spans_pos hs
  by_cases c : s ≤ T
  · rw [if_pos c, if_pos ⟨this, c⟩]
  · rw [if_neg c, if_neg (fun e => c e.2)]
/-- Of bytes in the order of their times, those no later than T are the first ones. -/
theorem cut_sorted (T : Nat) : ∀ (bs : List BB), (bs.map (·.2)).Pairwise (· ≤ ·) → cutF T bs = (bs.take (cntLe T bs)).map sureB ∧ cntLe T bs ≤ bs.length
  | [], _ => ⟨rfl, Nat.le_refl _⟩
  | b :: bs, h => by
    rw [List.map_cons, List.pairwise_cons] at h
    obtain ⟨h1, h2⟩ := cut_sorted T bs h.2
    have e1 : cntLe T (b :: bs) = (if b.2 ≤ T then 1 else 0) + cntLe T bs := by unfold cntLe; rw [List.map_cons, List.map_cons, List.sum_cons]
    by_cases c : b.2 ≤ T
    · have e2 : cutF T (b :: bs) = sureB b :: cutF T bs := by
        unfold cutF
        rw [List.map_cons, List.filterMap_cons]
        have : cutO T b = some (sureB b) := by unfold cutO; rw [if_pos c]; rfl
        rw [this]
        rfl
      rw [e1, if_pos c, e2, h1, Nat.add_comm 1, List.take_succ_cons, List.map_cons, List.length_cons]
      exact ⟨rfl, by omega⟩
    · have z : ∀ (l : List BB), (∀ x ∈ l, ¬ x.2 ≤ T) → cutF T l = [] ∧ cntLe T l = 0 := fun l => by
        induction l with
        | nil => exact fun _ => ⟨rfl, rfl⟩
        | cons y l ih =>
          intro hl
          obtain ⟨i1, i2⟩ := ih (fun x hx => hl x (by simp [hx]))
          have hy := hl y (by simp)
          constructor
          · unfold cutF at i1 ⊢
            rw [List.map_cons, List.filterMap_cons]
            have : cutO T y = none := by unfold cutO; rw [if_neg hy]
            rw [this]
            exact i1
          · unfold cntLe at i2 ⊢
            rw [List.map_cons, List.map_cons, List.sum_cons, i2, if_neg hy]
      obtain ⟨z1, z2⟩ := z (b :: bs) (fun x hx => by
        rcases List.mem_cons.1 hx with rfl | hx
        · exact c
        · have := h.1 x.2 (List.mem_map.2 ⟨x, hx, rfl⟩)
          omega)
      rw [z1, z2]
      exact ⟨rfl, Nat.zero_le _⟩
theorem lk_of_mem {A : List CF} (hn : (A.map (·.name)).Nodup) : ∀ f ∈ A, lk A f.name = some f := by
  induction A with
  | nil => intro f hf; cases hf
  | cons g A ih =>
    rw [List.map_cons, List.nodup_cons] at hn
    intro f hf
    rw [lk_cons]
    rcases List.mem_cons.1 hf with rfl | hf
    · rw [if_pos rfl]
    · rw [if_neg (fun e => hn.1 (by rw [e]; exact List.mem_map.2 ⟨f, hf, rfl⟩))]
      exact ih hn.2 f hf
section
variable {A : List CF} {L : Look} {clock turns : Nat} {st : Nat → Nat}
/-- All pieces, in their order, one behind the other in time. -/
theorem Cp.pieces (h : Cp A L clock turns st) (hn : (A.map (·.name)).Nodup) {d : List P3} (hd : d.Perm (allP A)) (hs : d.Pairwise (fun x y => x.1 ≤ y.1)) : d.Pairwise (fun x y => st x.1 + x.2.1 ≤ st y.1) := by
  have hm := lk_of_mem hn
  have hne : (allP A).Pairwise (fun x y => x.1 ≠ y.1) := by
    unfold allP
    rw [List.pairwise_flatMap]
    refine ⟨fun f hf => ?_, ?_⟩
    · unfold p3
      rw [List.pairwise_map]
      cases hl : L f.name with
      | none => have := (h.no f.name).2 hl; rw [hm f hf] at this; cases this
      | some bs =>
        have hi := (h.mt f.name f bs (hm f hf) hl).inc
        rw [List.pairwise_map] at hi
        exact hi.imp (fun h => by simp only; omega)
    · rw [List.pairwise_iff_getElem]
      intro i j hi hj hij x hx y hy e
      unfold p3 at hx hy
      obtain ⟨p, hp, rfl⟩ := List.mem_map.1 hx
      obtain ⟨q, hq, rfl⟩ := List.mem_map.1 hy
      have h1 := h.dis _ _ _ _ p q (hm _ (List.getElem_mem hi)) (hm _ (List.getElem_mem hj)) hp hq e
      rw [List.nodup_iff_pairwise_ne, List.pairwise_map, List.pairwise_iff_getElem] at hn
      exact hn i j hi hj hij h1
  have hne2 : d.Pairwise (fun x y => x.1 ≠ y.1) := (hd.pairwise_iff (fun {x y} h e => h e.symm)).2 hne
  have hmem : ∀ x ∈ d, ∃ f ∈ A, (x.1, x.2.1) ∈ f.ps := fun x hx => by
    obtain ⟨f, hf, _, hp⟩ := p3_size (hd.mem_iff.1 hx)
    exact ⟨f, hf, hp⟩
  have h3 := hs.and hne2
  rw [List.pairwise_iff_getElem] at h3 ⊢
  intro i j hi hj hij
  obtain ⟨a1, a2⟩ := h3 i j hi hj hij
  obtain ⟨f, hf, hp⟩ := hmem _ (List.getElem_mem hi)
  obtain ⟨g, hg, hq⟩ := hmem _ (List.getElem_mem hj)
  exact h.ord _ f _ g _ _ (hm f hf) (hm g hg) hp hq (by simp only; omega)
/-- A crash. -/
theorem Cp.crash (h : Cp A L clock turns st) (hc : (A.map (·.c)).Nodup) (hn : (A.map (·.name)).Nodup) (hp0 : ∀ f ∈ A, ∀ p ∈ f.ps, 0 < p.2) {d : List P3} (hd : d.Perm (allP A)) (hs : d.Pairwise (fun x y => x.1 ≤ y.1)) {K T : Nat} {ns : List ByteArray} (hns : ns.Nodup) (hnm : ∀ n, n ∈ ns ↔ L n ≠ none)
    (hk : (ns.map fun n => cntB T ((L n).getD [])).sum = K ∨ ((ns.map fun n => cntB T ((L n).getD [])).sum ≤ K ∧ ∀ n bs, L n = some bs → ∀ b ∈ bs, b.2 ≤ T)) : Cp (A.map (crA d K)) (fun n => (L n).map (cutF T)) clock turns st := by
  have hm := lk_of_mem hn
  have hcount : (ns.map fun n => cntB T ((L n).getD [])).sum = kD st T d := by
    have hperm : ns.Perm (A.map (·.name)) := by
      rw [List.perm_ext_iff_of_nodup hns hn]
      intro n
      rw [hnm]
      constructor
      · intro h1
        have h2 : lk A n ≠ none := fun e => h1 ((h.no n).1 e)
        obtain ⟨f, hf⟩ := Option.ne_none_iff_exists'.1 h2
        exact List.mem_map.2 ⟨f, (lk_mem hf).1, (lk_mem hf).2⟩
      · intro h1 e
        obtain ⟨f, hf, rfl⟩ := List.mem_map.1 h1
        have := (h.no f.name).2 e
        rw [hm f hf] at this
        cases this
    rw [(hperm.map _).sum_nat]
    have e1 : kD st T d = kD st T (allP A) := (hd.map _).sum_nat
    rw [e1, kD_all, List.map_map]
    congr 1
    refine List.map_congr_left fun f hf => ?_
    simp only [Function.comp]
    cases hl : L f.name with
    | none => have := (h.no f.name).2 hl; rw [hm f hf] at this; cases this
    | some bs => exact (h.mt f.name f bs (hm f hf) hl).cntB T
  have hk2 : kD st T d = K ∨ (kD st T d ≤ K ∧ ∀ x ∈ d, st x.1 + x.2.1 ≤ T) := by
    rw [hcount] at hk
    rcases hk with hk | ⟨hk, hk3⟩
    · exact Or.inl hk
    · refine Or.inr ⟨hk, fun x hx => ?_⟩
      obtain ⟨f, hf, _, hp⟩ := p3_size (hd.mem_iff.1 hx)
      cases hl : L f.name with
      | none => have := (h.no f.name).2 hl; rw [hm f hf] at this; cases this
      | some bs =>
        have hM := h.mt f.name f bs (hm f hf) hl
        by_cases h0 : x.2.1 = 0
        · have := hp0 f hf _ hp
          simp only at this
          omega
        · have h1 : st x.1 + x.2.1 ∈ spans st f.ps := by
            unfold spans
            refine List.mem_flatMap.2 ⟨(x.1, x.2.1), hp, ?_⟩
            unfold span
            exact List.mem_map.2 ⟨x.2.1 - 1, by rw [List.mem_range]; omega, by simp only; omega⟩
          have h2 : st x.1 + x.2.1 ∈ bs.map (·.2) := by
            rw [hM.sp]
            exact List.mem_append_right _ h1
          obtain ⟨b, hb, e⟩ := List.mem_map.1 h2
          have := hk3 f.name bs hl b hb
          omega
  have hpp := h.pieces hn hd hs
  have hkept : ∀ f ∈ A, keptA d K f.c = kT st T f.ps := fun f hf => by
    rw [keptA_cut st T f.c d K hpp hk2, sumC_perm f.c (hd.map (cutP st T)), allP_cut]
    have hf2 : cutC st T f ∈ A.map (cutC st T) := List.mem_map.2 ⟨f, hf, rfl⟩
    have hc2 : ((A.map (cutC st T)).map (·.c)).Nodup := by
      rw [List.map_map]
      exact hc
    have h1 := sumC_all hc2 hf2
    have h2 : (cutC st T f).c = f.c := rfl
    rw [h2] at h1
    rw [h1]
    unfold tot kT cutC
    rw [List.map_map]
    rfl
  have hlk : ∀ n, lk (A.map (crA d K)) n = (lk A n).map (crA d K) := fun n => lk_map n A (fun f _ => rfl)
  have o : ∀ n f', lk (A.map (crA d K)) n = some f' → ∃ f, lk A n = some f ∧ f' = crA d K f := fun n f' h1 => by
    rw [hlk] at h1
    obtain ⟨f, hf, e⟩ := Option.map_eq_some_iff.1 h1
    exact ⟨f, hf, e.symm⟩
  have q : ∀ n bs', (L n).map (cutF T) = some bs' → ∃ bs, L n = some bs ∧ bs' = cutF T bs := fun n bs' h1 => by
    obtain ⟨bs, hb, e⟩ := Option.map_eq_some_iff.1 h1
    exact ⟨bs, hb, e.symm⟩
  have z : ∀ n bs', (L n).map (cutF T) = some bs' → ∀ b ∈ bs', b.2 = 0 := fun n bs' h1 b hb => by
    obtain ⟨bs, hl, rfl⟩ := q n bs' h1
    cases hf : lk A n with
    | none => rw [(h.no n).1 hf] at hl; cases hl
    | some f =>
      rw [(cut_sorted T bs (h.mt n f bs hf hl).srt).1] at hb
      obtain ⟨c, _, rfl⟩ := List.mem_map.1 hb
      rfl
  refine ⟨fun n => ?_, fun n f' bs' h1 h2 => ?_, fun a f b g x y h1 _ hx => ?_, fun a f b g x y h1 _ hx => ?_, fun a f x h1 hx => ?_, fun a bs b cs i hi j hj h1 h2 hp => ?_⟩
  · rw [hlk, Option.map_eq_none_iff, Option.map_eq_none_iff]
    exact h.no n
  · obtain ⟨f, hf, rfl⟩ := o n f' h1
    obtain ⟨bs, hl, rfl⟩ := q n bs' h2
    have hM := h.mt n f bs hf hl
    obtain ⟨c1, c2⟩ := cut_sorted T bs hM.srt
    have hN : sureN d K f = cntLe T bs := by
      unfold sureN
      rw [hkept f (lk_mem hf).1, hM.cnt]
    have e1 : (cutF T bs).map (·.2) = List.replicate (sureN d K f) 0 := by
      rw [c1, hN, List.map_map]
      refine List.ext_getElem ?_ (fun i h3 h4 => by simp [sureB])
      rw [List.length_map, List.length_take, List.length_replicate]
      omega
    refine ⟨?_, ?_, List.Pairwise.nil, ?_, fun b hb => by rw [z n _ h2 b hb]; exact Nat.zero_le _⟩
    · show f.bs.take (sureN d K f) = _
      rw [c1, hN, hM.by_, List.map_map, ← List.map_take]
      exact List.map_congr_left fun b _ => rfl
    · rw [e1]
      show _ = List.replicate (sureN d K f) 0 ++ spans st []
      simp [spans]
    · rw [e1]
      exact List.pairwise_replicate.2 (Or.inr (Nat.le_refl _))
  · obtain ⟨f0, _, rfl⟩ := o a f h1
    cases hx
  · obtain ⟨f0, _, rfl⟩ := o a f h1
    cases hx
  · obtain ⟨f0, _, rfl⟩ := o a f h1
    cases hx
  · rw [z a bs h1 _ (List.getElem_mem hi)] at hp
    omega
end
end Go.Proofs.YtkdglkaeglhibaaGreatDoor
