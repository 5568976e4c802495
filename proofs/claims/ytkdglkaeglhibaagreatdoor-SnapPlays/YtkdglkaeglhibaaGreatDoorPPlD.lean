/-
  The program's disk and the document's say the same, as plain data: what stands for what, and that appends, syncs, removals and renamings keep it. No condition.
-/
import Derived.Test.YtkdglkaeglhibaaGreatDoorPPlC
import Derived.Test.YtkdglkaeglhibaaGreatDoorPKLook
namespace Go.Proofs.YtkdglkaeglhibaaGreatDoor
open Go.RowKit

/-- When the bytes of pieces were appended; 'st': how late it was ahead of each. -/
def span (a k : Nat) : List Nat := (List.range k).map fun i => a + 1 + i
def spans (st : Nat → Nat) (ps : List (Nat × Nat)) : List Nat := ps.flatMap fun x => span (st x.1) x.2
structure Mt (st : Nat → Nat) (f : CF) (bs : List BB) (clock : Nat) : Prop where
  by_ : f.bs = bs.map (·.1)
  sp : bs.map (·.2) = List.replicate f.sure 0 ++ spans st f.ps
  inc : (f.ps.map (·.1)).Pairwise (· < ·)
  srt : (bs.map (·.2)).Pairwise (· ≤ ·)
  le : ∀ b ∈ bs, b.2 ≤ clock
/-- Both say the same. -/
structure Cp (A : List CF) (L : Look) (clock turns : Nat) (st : Nat → Nat) : Prop where
  no : ∀ n, lk A n = none ↔ L n = none
  mt : ∀ n f bs, lk A n = some f → L n = some bs → Mt st f bs clock
  ord : ∀ n f m g x y, lk A n = some f → lk A m = some g → x ∈ f.ps → y ∈ g.ps → x.1 < y.1 → st x.1 + x.2 ≤ st y.1
  dis : ∀ n f m g x y, lk A n = some f → lk A m = some g → x ∈ f.ps → y ∈ g.ps → x.1 = y.1 → n = m
  bnd : ∀ n f x, lk A n = some f → x ∈ f.ps → x.1 ≤ turns ∧ st x.1 + x.2 ≤ clock
  dst : ∀ n bs m cs i (hi : i < bs.length) j (hj : j < cs.length), L n = some bs → L m = some cs → 0 < bs[i].2 → bs[i].2 = cs[j].2 → n = m ∧ i = j
theorem Cp.new : Cp [] (fun _ => none) 0 0 (fun _ => 0) :=
  ⟨fun n => ⟨fun _ => rfl, fun _ => rfl⟩, fun n f bs h => (by cases h), fun n f m g x y h => (by cases h), fun n f m g x y h => (by cases h), fun n f x h => (by cases h), fun n bs m cs i hi j hj h => (by cases h)⟩
section
variable {A A' : List CF} {L : Look} {clock clock' turns turns' : Nat} {st st' : Nat → Nat}
/-- A file is gone. -/
theorem Cp.del (h : Cp A L clock turns st) (n : ByteArray) (hA : ∀ m, lk A' m = if m = n then none else lk A m) : Cp A' (updL L n none) clock turns st := by
  have o : ∀ m f, lk A' m = some f → lk A m = some f := fun m f hm => by
    rw [hA] at hm
    by_cases e : m = n
    · rw [if_pos e] at hm
      cases hm
    · rw [if_neg e] at hm
      exact hm
  have q : ∀ m bs, updL L n none m = some bs → L m = some bs := fun m bs hm => by
    unfold updL at hm
    by_cases e : m = n
    · rw [if_pos e] at hm
      cases hm
    · rw [if_neg e] at hm
      exact hm
  refine ⟨fun m => ?_, fun m f bs h1 h2 => h.mt m f bs (o m f h1) (q m bs h2), fun a f b g x y h1 h2 => h.ord a f b g x y (o a f h1) (o b g h2), fun a f b g x y h1 h2 => h.dis a f b g x y (o a f h1) (o b g h2), fun a f x h1 => h.bnd a f x (o a f h1), fun a bs b cs i hi j hj h1 h2 => h.dst a bs b cs i hi j hj (q a bs h1) (q b cs h2)⟩
  rw [hA]
  unfold updL
  by_cases e : m = n
  · rw [if_pos e, if_pos e]
    exact ⟨fun _ => rfl, fun _ => rfl⟩
  · rw [if_neg e, if_neg e]
    exact h.no m
/-- Pieces of the same turns. -/
theorem spans_eq {ps : List (Nat × Nat)} (h : ∀ x ∈ ps, st' x.1 = st x.1) : spans st' ps = spans st ps := by
  unfold spans
  rw [List.flatMap_def, List.flatMap_def]
  congr 1
  exact List.map_congr_left fun x hx => by rw [h x hx]
/-- A file is laid, or laid anew. -/
theorem Cp.put (h : Cp A L clock turns st) (n : ByteArray) (f' : CF) (bs' : List BB) (hA : ∀ m, lk A' m = if m = n then some f' else lk A m) (hst : ∀ t, t ≤ turns → st' t = st t) (hck : clock ≤ clock') (htn : turns ≤ turns') (hm : Mt st' f' bs' clock')
    (hps : ∀ x ∈ f'.ps, x.1 ≤ turns' ∧ st' x.1 + x.2 ≤ clock') (hpi : ∀ x ∈ f'.ps, ∀ y ∈ f'.ps, x.1 < y.1 → st' x.1 + x.2 ≤ st' y.1)
    (hpo : ∀ x ∈ f'.ps, ∀ k g y, k ≠ n → lk A k = some g → y ∈ g.ps → x.1 ≠ y.1 ∧ (x.1 < y.1 → st' x.1 + x.2 ≤ st y.1) ∧ (y.1 < x.1 → st y.1 + y.2 ≤ st' x.1))
    (hdi : ∀ i (hi : i < bs'.length) j (hj : j < bs'.length), 0 < bs'[i].2 → bs'[i].2 = bs'[j].2 → i = j)
    (hdo : ∀ i (hi : i < bs'.length) k cs j (hj : j < cs.length), k ≠ n → L k = some cs → 0 < bs'[i].2 → bs'[i].2 ≠ cs[j].2) : Cp A' (updL L n (some bs')) clock' turns' st' := by
  have o : ∀ m f, lk A' m = some f → (m = n ∧ f = f') ∨ (m ≠ n ∧ lk A m = some f) := fun m f hm2 => by
    rw [hA] at hm2
    by_cases e : m = n
    · rw [if_pos e] at hm2
      exact Or.inl ⟨e, (Option.some.inj hm2).symm⟩
    · rw [if_neg e] at hm2
      exact Or.inr ⟨e, hm2⟩
  have q : ∀ m bs, updL L n (some bs') m = some bs → (m = n ∧ bs = bs') ∨ (m ≠ n ∧ L m = some bs) := fun m bs hm2 => by
    unfold updL at hm2
    by_cases e : m = n
    · rw [if_pos e] at hm2
      exact Or.inl ⟨e, (Option.some.inj hm2).symm⟩
    · rw [if_neg e] at hm2
      exact Or.inr ⟨e, hm2⟩
  have s : ∀ m f x, lk A m = some f → x ∈ f.ps → st' x.1 = st x.1 := fun m f x h1 h2 => hst _ (h.bnd m f x h1 h2).1
  refine ⟨fun m => ?_, fun m f bs h1 h2 => ?_, fun a f b g x y h1 h2 hx hy hxy => ?_, fun a f b g x y h1 h2 hx hy hxy => ?_, fun a f x h1 hx => ?_, fun a bs b cs i hi j hj h1 h2 hp he => ?_⟩
  · rw [hA]
    unfold updL
    by_cases e : m = n
    · rw [if_pos e, if_pos e]
      exact ⟨fun h => (by cases h), fun h => (by cases h)⟩
    · rw [if_neg e, if_neg e]
      exact h.no m
  · rcases o m f h1 with ⟨e1, rfl⟩ | ⟨e1, k1⟩
    · rcases q m bs h2 with ⟨_, rfl⟩ | ⟨e2, _⟩
      · exact hm
      · exact absurd e1 e2
    · rcases q m bs h2 with ⟨e2, _⟩ | ⟨_, k2⟩
      · exact absurd e2 e1
      · have hM := h.mt m f bs k1 k2
        exact ⟨hM.by_, by rw [hM.sp, spans_eq (st' := st') (st := st) (fun x hx => s m f x k1 hx)], hM.inc, hM.srt, fun b hb => Nat.le_trans (hM.le b hb) hck⟩
  · rcases o a f h1 with ⟨e1, rfl⟩ | ⟨e1, k1⟩
    · rcases o b g h2 with ⟨e2, rfl⟩ | ⟨e2, k2⟩
      · exact hpi x hx y hy hxy
      · rw [s b g y k2 hy]
        exact (hpo x hx b g y e2 k2 hy).2.1 hxy
    · rcases o b g h2 with ⟨e2, rfl⟩ | ⟨e2, k2⟩
      · rw [s a f x k1 hx]
        exact (hpo y hy a f x e1 k1 hx).2.2 hxy
      · rw [s a f x k1 hx, s b g y k2 hy]
        exact h.ord a f b g x y k1 k2 hx hy hxy
  · rcases o a f h1 with ⟨e1, rfl⟩ | ⟨e1, k1⟩
    · rcases o b g h2 with ⟨e2, rfl⟩ | ⟨e2, k2⟩
      · rw [e1, e2]
      · exact absurd hxy (hpo x hx b g y e2 k2 hy).1
    · rcases o b g h2 with ⟨e2, rfl⟩ | ⟨e2, k2⟩
      · exact absurd hxy.symm (hpo y hy a f x e1 k1 hx).1
      · exact h.dis a f b g x y k1 k2 hx hy hxy
  · rcases o a f h1 with ⟨e1, rfl⟩ | ⟨e1, k1⟩
    · exact hps x hx
    · have := h.bnd a f x k1 hx
      rw [s a f x k1 hx]
      omega
  · rcases q a bs h1 with ⟨e1, rfl⟩ | ⟨e1, k1⟩
    · rcases q b cs h2 with ⟨e2, rfl⟩ | ⟨e2, k2⟩
      · exact ⟨by rw [e1, e2], hdi i hi j hj hp he⟩
      · exact absurd he (hdo i hi b cs j hj e2 k2 hp)
    · rcases q b cs h2 with ⟨e2, rfl⟩ | ⟨e2, k2⟩
      · exact absurd he.symm (hdo j hj a bs i hi e1 k1 (by omega))
      · exact h.dst a bs b cs i hi j hj k1 k2 hp he
theorem map_at {α β : Type} (g : α → β) (l : List α) (i : Nat) (hi : i < l.length) {m : List β} (h : l.map g = m) : g l[i] = m[i]'(by rw [← h]; simpa using hi) := by
  subst h
  simp
/-- Sync. -/
theorem Cp.sync (h : Cp A L clock turns st) {n : ByteArray} {f : CF} {bs : List BB} (hf : lk A n = some f) (hL : L n = some bs) (hA : ∀ m, lk A' m = if m = n then some (syncF f) else lk A m) : Cp A' (updL L n (some (bs.map sureB))) clock turns st := by
  have hM := h.mt n f bs hf hL
  have z : ∀ i (hi : i < (bs.map sureB).length), (bs.map sureB)[i].2 = 0 := fun i hi => by rw [List.getElem_map]; rfl
  have e1 : (bs.map sureB).map (·.2) = List.replicate bs.length 0 := by
    rw [List.map_map]
    exact List.ext_getElem (by simp) (fun i h1 h2 => by simp [sureB])
  refine h.put n (syncF f) (bs.map sureB) hA (fun _ _ => rfl) (Nat.le_refl _) (Nat.le_refl _) ⟨?_, ?_, List.Pairwise.nil, ?_, fun b hb => ?_⟩ (fun x hx => by cases hx) (fun x hx => by cases hx) (fun x hx => by cases hx) (fun i hi j hj hp => by rw [z i hi] at hp; omega) (fun i hi k cs j hj _ _ hp => by rw [z i hi] at hp; omega)
  · show f.bs = _
    rw [hM.by_, List.map_map]
    exact List.map_congr_left fun b _ => rfl
  · rw [e1]
    show _ = List.replicate f.bs.length 0 ++ spans st []
    rw [hM.by_, List.length_map]
    simp [spans]
  · rw [e1]
    exact List.pairwise_replicate.2 (Or.inr (Nat.le_refl _))
  · obtain ⟨c, _, rfl⟩ := List.mem_map.1 hb
    exact Nat.zero_le _
/-- Remove. -/
theorem Cp.remove (h : Cp A L clock turns st) (n : ByteArray) : Cp (delF A n) (updL L n none) clock turns st := h.del n (fun m => lk_delF n m A)
theorem stR_fst : ∀ (l : List UInt8) (c : Nat), (stR l c).map (·.1) = l
  | [], _ => rfl
  | b :: l, c => by
    show b :: (stR l (c + 1)).map (·.1) = _
    rw [stR_fst l (c + 1)]
theorem stR_snd : ∀ (l : List UInt8) (c : Nat), (stR l c).map (·.2) = span c l.length
  | [], _ => rfl
  | b :: l, c => by
    show (c + 1) :: (stR l (c + 1)).map (·.2) = _
    rw [stR_snd l (c + 1)]
    unfold span
    rw [List.length_cons, List.range_succ_eq_map, List.map_cons, List.map_map]
    congr 1
    exact List.map_congr_left fun i _ => by simp only [Function.comp]; omega
theorem stR_at (l : List UInt8) (c i : Nat) (hi : i < (stR l c).length) : (stR l c)[i].2 = c + 1 + i := by
  have h1 := map_at (fun b : BB => b.2) (stR l c) i hi (stR_snd l c)
  rw [h1]
  unfold span
  simp
theorem span_sorted (a k : Nat) : (span a k).Pairwise (· ≤ ·) := by
  unfold span
  rw [List.pairwise_map]
  exact (List.pairwise_lt_range).imp (fun h => by omega)
theorem span_mem {a k x : Nat} (h : x ∈ span a k) : a < x ∧ x ≤ a + k := by
  unfold span at h
  obtain ⟨i, hi, rfl⟩ := List.mem_map.1 h
  rw [List.mem_range] at hi
  omega
def stN (st : Nat → Nat) (turns clock : Nat) : Nat → Nat := fun t => if t = turns + 1 then clock else st t
/-- Bytes more behind a file's, or the first ones of a new one. -/
theorem Cp.more (h : Cp A L clock turns st) {n : ByteArray} {f0 f' : CF} {bs : List BB} {s : ByteArray} (hM : Mt st f0 bs clock) (hf0 : (f0.ps = [] ∧ ∀ b ∈ bs, b.2 = 0) ∨ (lk A n = some f0 ∧ L n = some bs)) (hb : f'.bs = f0.bs ++ s.data.toList) (hs : f'.sure = f0.sure) (hp : f'.ps = f0.ps ++ [(turns + 1, s.size)]) (hA : ∀ m, lk A' m = if m = n then some f' else lk A m) :
    Cp A' (updL L n (some (bs ++ stR s.data.toList clock))) (clock + s.size) (turns + 1) (stN st turns clock) := by
  have hsz : s.data.toList.length = s.size := (Lib.size_eq s).symm
  have hb0 : ∀ x ∈ f0.ps, x.1 ≤ turns ∧ st x.1 + x.2 ≤ clock := fun x hx => by
    rcases hf0 with ⟨e, _⟩ | ⟨e, _⟩
    · rw [e] at hx
      cases hx
    · exact h.bnd n f0 x e hx
  have hold : ∀ t, t ≤ turns → stN st turns clock t = st t := fun t ht => by unfold stN; rw [if_neg (by omega)]
  have hnew : stN st turns clock (turns + 1) = clock := by unfold stN; rw [if_pos rfl]
  have hpm : ∀ x ∈ f'.ps, x ∈ f0.ps ∨ x = (turns + 1, s.size) := fun x hx => by
    rw [hp] at hx
    rcases List.mem_append.1 hx with h1 | h1
    · exact Or.inl h1
    · exact Or.inr (by simpa using h1)
  have hlold : ∀ i (hi : i < (bs ++ stR s.data.toList clock).length), (∃ hi2 : i < bs.length, (bs ++ stR s.data.toList clock)[i] = bs[i]) ∨ (bs.length ≤ i ∧ (bs ++ stR s.data.toList clock)[i].2 = clock + 1 + (i - bs.length)) := fun i hi => by
    by_cases c : i < bs.length
    · exact Or.inl ⟨c, List.getElem_append_left c⟩
    · refine Or.inr ⟨by omega, ?_⟩
      rw [List.getElem_append_right (by omega)]
      exact stR_at _ _ _ _
  refine h.put n f' _ hA hold (by omega) (by omega) ⟨?_, ?_, ?_, ?_, fun b hb2 => ?_⟩ (fun x hx => ?_) (fun x hx y hy hxy => ?_) (fun x hx k g y hk hg hy => ?_) (fun i hi j hj hpos he => ?_) (fun i hi k cs j hj hk hc hpos he => ?_)
  · rw [hb, hM.by_, List.map_append, stR_fst]
  · rw [List.map_append, hM.sp, stR_snd, hs, hp]
    unfold spans
    rw [List.flatMap_append, List.append_assoc]
    congr 1
    congr 1
    · exact (spans_eq (st' := stN st turns clock) (st := st) (fun x hx => hold x.1 (hb0 x hx).1)).symm
    · simp [hsz, hnew]
  · rw [hp, List.map_append, List.pairwise_append]
    refine ⟨hM.inc, List.pairwise_singleton _ _, fun a ha b hb2 => ?_⟩
    obtain ⟨x, hx, rfl⟩ := List.mem_map.1 ha
    simp only [List.map_cons, List.map_nil, List.mem_singleton] at hb2
    have := (hb0 x hx).1
    omega
  · rw [List.map_append, List.pairwise_append]
    refine ⟨hM.srt, by rw [stR_snd]; exact span_sorted _ _, fun a ha b hb2 => ?_⟩
    obtain ⟨x, hx, rfl⟩ := List.mem_map.1 ha
    rw [stR_snd] at hb2
    have h1 := hM.le x hx
    have h2 := span_mem hb2
    omega
  · rcases List.mem_append.1 hb2 with h1 | h1
    · have := hM.le b h1
      omega
    · have h2 : b.2 ∈ (stR s.data.toList clock).map (·.2) := List.mem_map.2 ⟨b, h1, rfl⟩
      rw [stR_snd] at h2
      have := span_mem h2
      omega
  · rcases hpm x hx with h1 | rfl
    · have := hb0 x h1
      rw [hold x.1 this.1]
      omega
    · simp only [hnew]
      omega
  · rcases hpm x hx with h1 | rfl
    · rcases hpm y hy with h2 | rfl
      · rcases hf0 with ⟨e, _⟩ | ⟨e, _⟩
        · rw [e] at h1
          cases h1
        · rw [hold x.1 (hb0 x h1).1, hold y.1 (hb0 y h2).1]
          exact h.ord n f0 n f0 x y e e h1 h2 hxy
      · rw [hold x.1 (hb0 x h1).1, hnew]
        exact (hb0 x h1).2
    · rcases hpm y hy with h2 | rfl
      · have := (hb0 y h2).1
        simp only at hxy
        omega
      · simp only at hxy
        omega
  · have hby := h.bnd k g y hg hy
    rcases hpm x hx with h1 | rfl
    · rcases hf0 with ⟨e, _⟩ | ⟨e, _⟩
      · rw [e] at h1
        cases h1
      · rw [hold x.1 (hb0 x h1).1]
        exact ⟨fun e2 => hk (h.dis n f0 k g x y e hg h1 hy e2).symm, h.ord n f0 k g x y e hg h1 hy, h.ord k g n f0 y x hg e hy h1⟩
    · refine ⟨fun e => ?_, fun e => ?_, fun _ => ?_⟩
      · simp only at e
        omega
      · simp only at e
        omega
      · simp only [hnew]
        exact hby.2
  · rcases hlold i hi with ⟨c1, e1⟩ | ⟨c1, e1⟩
    · rw [e1] at hpos he
      have hle := hM.le _ (List.getElem_mem c1)
      rcases hlold j hj with ⟨c2, e2⟩ | ⟨c2, e2⟩
      · rw [e2] at he
        rcases hf0 with ⟨_, e⟩ | ⟨_, e⟩
        · rw [e _ (List.getElem_mem c1)] at hpos
          omega
        · exact (h.dst n bs n bs i c1 j c2 e e hpos he).2
      · rw [e2] at he
        omega
    · rw [e1] at he
      rcases hlold j hj with ⟨c2, e2⟩ | ⟨c2, e2⟩
      · rw [e2] at he
        have hle := hM.le _ (List.getElem_mem c2)
        omega
      · rw [e2] at he
        omega
  · rcases hlold i hi with ⟨c1, e1⟩ | ⟨c1, e1⟩
    · rw [e1] at hpos he
      rcases hf0 with ⟨_, e⟩ | ⟨_, e⟩
      · rw [e _ (List.getElem_mem c1)] at hpos
        omega
      · exact hk (h.dst n bs k cs i c1 j hj e hc hpos he).1.symm
    · rw [e1] at he
      cases hkf : lk A k with
      | none => rw [(h.no k).1 hkf] at hc; cases hc
      | some g =>
        have hle := (h.mt k g cs hkf hc).le _ (List.getElem_mem hj)
        omega
/-- A new file without bytes. -/
theorem Cp.newFile (h : Cp A L clock turns st) (n : ByteArray) (c : Nat) (hA : ∀ m, lk A' m = if m = n then some (newF n c) else lk A m) : Cp A' (updL L n (some [])) clock turns st :=
  h.put n (newF n c) [] hA (fun _ _ => rfl) (Nat.le_refl _) (Nat.le_refl _) ⟨rfl, rfl, List.Pairwise.nil, List.Pairwise.nil, fun b hb => by cases hb⟩ (fun x hx => by cases hx) (fun x hx => by cases hx) (fun x hx => by cases hx) (fun i hi => by simp at hi) (fun i hi => by simp at hi)
end
end Go.Proofs.YtkdglkaeglhibaaGreatDoor
